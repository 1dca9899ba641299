/- The reference's joiner in memory; its functions at and Open. -/
import Derived.Test.YtphkaambodecdaaPkRj
import Derived.ProofKit
namespace Go.Proofs.Ytphkaambodecdaa
open Go.RowKit
set_option linter.unusedVariables false
set_option maxRecDepth 100000

/-- The reference's joiner in memory: what it knows, in order. -/
structure RJ (w : World) (n0 r : Nat) (sv : Value) (f : Nat → Rk) (n : Nat) : Prop where
  rl : n0 ≤ r
  ty : TyB w r 47
  cr : Cel w r 1 (fun _ => sv)
  row : w.ownsRow n0 83 4 sv n (rkL f n)
namespace RJ
variable {w w' : World} {n0 r n : Nat} {sv : Value} {f : Nat → Rk}
theorem keep (h : RJ w n0 r sv f n) (hr : w'.heap[r]? = w.heap[r]?) (hs : ∀ g, sv.ownBlock = some g → w'.heap[g]? = w.heap[g]?) : RJ w' n0 r sv f n :=
  ⟨h.rl, h.ty.of_block hr, h.cr.of_block hr, own_keep h.row (fun g hg _ => hs g hg)⟩
theorem below (h : RJ w n0 r sv f n) (hb : Below w.heap.size w w') : RJ w' n0 r sv f n := h.keep (hb.block r h.ty.lt) (fun g hg => hb.block g (own_block_lt h.row hg))
theorem kp {base : Nat} {ts : List TypeId} {m : Bool} (h : RJ w n0 r sv f n) (k : Kp base ts m w w') (t1 : 47 ∉ ts) (t2 : 83 ∉ ts) : RJ w' n0 r sv f n :=
  h.keep (h.ty.keep k t1) (fun g hg => (own_ty h.row hg).2.keep k t2)
/-- The joiner's own cell lies apart from its row. -/
theorem apart (h : RJ w n0 r sv f n) : sv.ownBlock ≠ some r := fun e => by
  obtain ⟨c1, f1, e1⟩ := (own_ty h.row e).2
  obtain ⟨c2, f2, e2⟩ := h.ty
  rw [e1] at e2
  cases e2
end RJ
theorem build_rk {ev : Operand → Value} {w : World} {o : Oper} {x : Operand} {ap nx : Int} {b : Bool} {tx : ByteArray} (h : o.op = .buildSlice 45 1 #[(0, x)]) (hx : ev x = .agg #[.int .i64 ap, .int .i64 nx, .bool b, .string tx]) :
    (execOp ev o).run Try.prog w = .ok (.value (.slice (some ⟨w.heap.size, 0, none⟩) 1 1)) (w.alloc (.cells #[.int .i64 ap, .int .i64 nx, .bool b, .string tx] 83)) := by
  simp only [execOp, h]; go_simp
theorem store_kns {ev : Operand → Value} {w : World} {o : Oper} {x y : Operand} {X i : Nat} {u : Value} {sa : Option Addr} {m sc : Nat} (h : o.op = .store 45 x y) (hx : ev x = .pointer (some ⟨X, i, none⟩)) (hy : ev y = .slice sa m sc) (hc : w.cell? ⟨X, i, none⟩ = some u) (hf : w.frozen? ⟨X, i, none⟩ = false) : (execOp ev o).run Try.prog w = .ok .skip (w.setCell ⟨X, i, none⟩ (.slice sa m sc)) := by
  simp only [execOp, h, hx, hy]; go_simp
theorem info_rk : (Try.prog.info? 83).map (fun i => (i.zero, i.size, i.bytes)) = some (some (.agg #[.int .i64 0, .int .i64 0, .bool false, .string ⟨#[]⟩]), 4, 40) := by kernel_rfl
theorem rk_cells (q : Rk) : ∀ j, j < 4 → (#[.int .i64 q.ap, .int .i64 q.nx, .bool q.op, .string q.tx] : Array Value)[j]? = some (rkCel q j) := fun j hj => by
  match j, hj with
  | 0, _ => rfl
  | 1, _ => rfl
  | 2, _ => rfl
  | 3, _ => rfl
theorem rk4_cells {w : World} {B : Nat} {q : Rk} (C : Cel w B 4 (rkCel q)) : ∀ j u, (rk4 q)[j]? = some u → w.cell? ((⟨B, 0, none⟩ : Addr).add j) = some u := fun j u hu => by
  have hj : j < 4 := (List.getElem?_eq_some_iff.1 hu).1
  rw [add_off, Nat.zero_add, C.cell hj, ← rk4_at q j hj]
  exact hu
theorem rk4_one (q : Rk) : ∀ u ∈ rk4 q, u.oneCell' = true := fun u hu => by
  simp [rk4] at hu
  rcases hu with rfl | rfl | rfl | rfl <;> rfl
section
variable {P : Program} {ops : Array Oper} {rest : List Oper} {op : Oper} {a : Act} {w : World} {Q : Exit → Act → World → Prop}
/-- A store of one cell; the block's type stays. -/
theorem wpList_setT (hgd : op.guard = none) (OP : Op) (ho : op.op = OP) (X i n : Nat) (v : Value) (f g : Nat → Value) (C : Cel w X n f) (hi : i < n) (hg : ∀ j, j < n → (if j = i then v else f j) = g j)
    (hrun : (execOp a.eval op).run P w = .ok .skip (w.setCell ⟨X, i, none⟩ v))
    (K : ∀ w', Hid (Cel w' X n g) → Hid (But X w w') → Hid (w'.heap.size = w.heap.size) → Hid (∀ t, TyB w X t → TyB w' X t) → wpList P ops Q rest (a.put op.dst undef) w') : wpList P ops Q (op :: rest) a w :=
  wpList_plain hgd fun _ hK => by
    unfold Oper.wp
    rw [hrun]
    exact hK _ _ (K _ (Lib.hid ((C.set i v).congr hg)) (Lib.hid ((But.refl X w).setCell i v)) (Lib.hid (by simp [World.setCell])) (Lib.hid (fun t ⟨cur, fr, h⟩ => by obtain ⟨c, hc⟩ := cells_setCell (i := i) (u := v) h; exact ⟨c, fr, hc⟩)))
end
/-- What at finds, or adds. -/
def AtP (w : World) (n0 r : Nat) (sv : Value) (f : Nat → Rk) (n : Nat) (ap : Int) (e : Ending) (w' : World) : Prop :=
  (∃ i, i < n ∧ (f i).ap = ap ∧ e = .returned (.tuple #[.int .i64 (i : Nat), .bool false]) ∧ w = w') ∨
  ((∀ k, k < n → (f k).ap ≠ ap) ∧ e = .returned (.tuple #[.int .i64 (n : Nat), .bool true]) ∧ ∃ sv', RJ w' n0 r sv' (updN f n ⟨ap, 0, false, ⟨#[]⟩⟩) (n + 1) ∧ Kp n0 [83, 47] false w w')
set_option maxHeartbeats 4000000 in
theorem at_any {w : World} {n0 r n : Nat} {sv : Value} {f : Nat → Rk} (h : RJ w n0 r sv f n) (hn0 : n0 ≤ w.heap.size) (hn : n ≤ 10000) (ap : Int) :
    Calls Try.prog 45 #[.pointer (some ⟨r, 0, none⟩), .int .i64 ap] w (AtP w n0 r sv f n ap) := by
  obtain ⟨sa, cap, rfl⟩ := own_is h.row
  have HJ := Lib.hid h
  have cR : w.cell? ⟨r, 0, none⟩ = some (.slice sa n cap) := h.cr.cell (j := 0) (by omega)
  have HN0 := Lib.hid hn0
  clear h hn0
  go_enter Try.func45, Try.ntmps45
  go_wp2_with fail
  go_loopw [6] (fun x6 wr => ∃ k : Nat, k ≤ n ∧ x6 = .int .i64 (k : Nat) ∧ (∀ j, j < k → (f j).ap ≠ ap) ∧ w = wr) (fun x6 _ => n - (intOf x6).toNat)
  case atStart => exact ⟨0, Nat.zero_le _, rfl, fun j hj => by omega, rfl⟩
  case round =>
    obtain ⟨k, hk, rfl, hne, rfl⟩ := hrel
    have NE := Lib.hid hne
    clear hne
    by_cases hlt : k < n
    · obtain ⟨G, rfl, _, _⟩ := row_some HJ.out.row (by omega)
      have ck : w.cell? ⟨G, k * 4, none⟩ = some (.int .i64 (f k).ap) := rk_cell HJ.out.row hlt 0 (by omega)
      obtain ⟨z, hz⟩ : ∃ z, (f k).ap = z := ⟨_, rfl⟩
      rw [hz] at ck
      have HZ := Lib.hid hz
      have k0 : (0 : Int) ≤ (k : Int) := by omega
      have k1 : (k : Int) < (n : Int) := by omega
      by_cases e : z = ap
      · have d : (z == ap) = true := by simpa using e
        have EZ := Lib.hid (show (f k).ap = ap by rw [hz, e])
        have HL := Lib.hid hlt
        clear hz hk hlt e
        go_wp2_with fail
        go_ret2
        exact .inl ⟨k, HL.out, EZ.out, rfl, rfl⟩
      · have d : (z == ap) = false := by simpa using e
        have NE2 := Lib.hid (show ∀ j, j < k + 1 → (f j).ap ≠ ap from fun j hj => by
          by_cases q : j = k
          · rw [q, hz]; exact e
          · exact NE.out j (by omega))
        have HL := Lib.hid hlt
        clear hz hk hlt e
        go_wp2_with fail
        go_roundw
        case rel => exact ⟨k + 1, HL.out, by go_num, NE2.out, trivial⟩
        case measure => simp [intOf]; have := HL.out; omega
    · obtain rfl : n = k := by omega
      obtain ⟨j0, hj0, hy0, hy1, hy2⟩ := info_parts info_rk
      go_wp2_with (first
        | (refine wpList_new rfl (.buildSlice 45 1 #[(0, .tmp 33)]) rfl (some 34) rfl #[.int .i64 ap, .int .i64 0, .bool false, .string ⟨#[]⟩] 83 (fun X => .slice (some ⟨X, 0, none⟩) 1 1) 4 (rkCel ⟨ap, 0, false, ⟨#[]⟩⟩) (rk_cells ⟨ap, 0, false, ⟨#[]⟩⟩) (build_rk rfl rfl) ?_; intro D w8 HD S8 C8 B8; have OO := Lib.hid (own_below HJ.out.row B8.out))
        | (at_builtin; refine wpList_append_own2 rfl _ _ 45 rfl n0 83 j0 (.agg #[.int .i64 0, .int .i64 0, .bool false, .string ⟨#[]⟩]) 4 40 Try.underlying45 hj0 hy0 hy1 hy2 rfl (by decide) _ _ _ rfl OO.out ⟨D, 0, none⟩ 1 1 (rk4 ⟨ap, 0, false, ⟨#[]⟩⟩) rfl rfl (rk4_cells C8.out) (rk4_one _) (by unfold maxLen; omega) (by omega) (Nat.le_trans HN0.out B8.out.size) ?_; intro v9 w9 hown9 hgrow9 hblk9; obtain ⟨a9, c9, rfl⟩ := own_is hown9; have HO9 := Lib.hid hown9; have HG9 := Lib.hid hgrow9; have HB9 := Lib.hid hblk9; have CR9 := Lib.hid ((HJ.out.cr.below B8.out).of_block (HG9.out.block r (Nat.lt_of_lt_of_le HJ.out.ty.lt B8.out.size) (fun e => HJ.out.apart e.symm))); clear hown9 hgrow9 hblk9)
        | (refine wpList_setT rfl (.store 45 (.tmp 37) (.tmp 35)) rfl r 0 1 (.slice a9 (n + 1) c9) _ (fun _ => .slice a9 (n + 1) c9) CR9.out (by omega) (fun j hj => by rw [if_pos (by omega)]) (store_kns rfl rfl rfl (CR9.out.cell (j := 0) (by omega)) (CR9.out.frozen (j := 0) (by omega))) ?_; intro w10 C10 U10 S10 V10; have c10 : w10.cell? ⟨r, 0, none⟩ = some (.slice a9 (n + 1) c9) := C10.out.cell (j := 0) (by omega)))
      go_ret2
      have hn8 : n0 ≤ w8.heap.size := Nat.le_trans HN0.out B8.out.size
      have T9 : TyB w9 r 47 := (HJ.out.ty.below B8.out).of_block (HG9.out.block r (Nat.lt_of_lt_of_le HJ.out.ty.lt B8.out.size) (fun e => HJ.out.apart e.symm))
      have K9 : Kp n0 [83] false w8 w9 := Kp.of_grown HG9.out (fun k hk => own_ty OO.out hk) hn8
      have K10 : Kp n0 [47] false w9 w10 := Kp.of_but U10.out T9 HJ.out.rl
      have ne10 : (Value.slice a9 (n + 1) c9).ownBlock ≠ some r := fun e => by
        obtain ⟨c1, f1, e1⟩ := (own_ty HO9.out e).2
        obtain ⟨c2, f2, e2⟩ := T9
        rw [e1] at e2
        cases e2
      refine .inr ⟨NE.out, by go_num, _, ⟨HJ.out.rl, ?_, C10.out, ?_⟩, ((Kp.of_below B8.out HN0.out).trans (K9.weaken (by simp) (fun q => q))).trans (K10.weaken (by simp) (fun q => q))⟩
      · exact V10.out _ T9
      · have := but_row HO9.out U10.out ne10
        rw [rkL_push] at this
        exact this
end Go.Proofs.Ytphkaambodecdaa
