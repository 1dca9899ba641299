/- The contract of perigeeref07's Decode over this program: the walk. -/
import Derived.Test.YtgfihljledmaaaaVitTrel
namespace Go.Proofs.Ytgfihljledmaaaa
open Go.RowKit
set_option linter.unusedVariables false

namespace Vit
/-- What stands of a way in memory: is there one, its sum, its bits. -/
def et : Option (List Cv.Bit) → Bool
  | none => false
  | some _ => true
def es (f : Nat → Int) : Option (List Cv.Bit) → Int
  | none => 0
  | some b => ws f b
def eb : Option (List Cv.Bit) → ByteArray
  | none => ⟨#[]⟩
  | some b => strB b
/-- 64 ways in a block. -/
def Paths (f : Nat → Int) (w : World) (b : Nat) (E : Nat → Option (List Cv.Bit)) : Prop :=
  b < w.heap.size ∧ ∀ s, s < 64 → (w.cell? ⟨b, s * 3, none⟩ = some (.bool (et (E s))) ∧ w.frozen? ⟨b, s * 3, none⟩ = false) ∧ (w.cell? ⟨b, s * 3 + 1, none⟩ = some (.int .i64 (es f (E s))) ∧ w.frozen? ⟨b, s * 3 + 1, none⟩ = false) ∧ (w.cell? ⟨b, s * 3 + 1 + 1, none⟩ = some (.string (eb (E s))) ∧ w.frozen? ⟨b, s * 3 + 1 + 1, none⟩ = false)
namespace Paths
variable {f : Nat → Int} {w w' : World} {b : Nat} {E F : Nat → Option (List Cv.Bit)}
theorem lt (h : Paths f w b E) : b < w.heap.size := h.1
theorem below (h : Paths f w b E) (hb : Below w.heap.size w w') : Paths f w' b E :=
  ⟨Nat.lt_of_lt_of_le h.1 hb.size, fun s hs => by
    obtain ⟨⟨a1, a2⟩, ⟨b1, b2⟩, c1, c2⟩ := h.2 s hs
    exact ⟨⟨(hb.cell (p := ⟨b, s * 3, none⟩) h.1).trans a1, (hb.frozen (p := ⟨b, s * 3, none⟩) h.1).trans a2⟩, ⟨(hb.cell (p := ⟨b, s * 3 + 1, none⟩) h.1).trans b1, (hb.frozen (p := ⟨b, s * 3 + 1, none⟩) h.1).trans b2⟩,
      (hb.cell (p := ⟨b, s * 3 + 1 + 1, none⟩) h.1).trans c1, (hb.frozen (p := ⟨b, s * 3 + 1 + 1, none⟩) h.1).trans c2⟩⟩
theorem congr (h : Paths f w b E) (e : ∀ s, s < 64 → E s = F s) : Paths f w b F := ⟨h.1, fun s hs => by rw [← e s hs]; exact h.2 s hs⟩
theorem drewN (h : Paths f w b E) (n : Nat) : Paths f (w.drewN n) b E := h
end Paths
theorem Paths.isSome {f : Nat → Int} {w : World} {b : Nat} {E : Nat → Option (List Cv.Bit)} (h : Paths f w b E) {s : Nat} (hs : s < 64) : ∀ j, j < 3 → (w.cell? ⟨b, s * 3 + j, none⟩).isSome = true := fun j hj => by
  obtain ⟨⟨a1, a2⟩, ⟨b1, b2⟩, c1, c2⟩ := h.2 s hs
  match j, hj with
  | 0, _ => show (w.cell? ⟨b, s * 3, none⟩).isSome = true; rw [a1]; rfl
  | 1, _ => rw [b1]; rfl
  | 2, _ => show (w.cell? ⟨b, s * 3 + 1 + 1, none⟩).isSome = true; rw [c1]; rfl
theorem Paths.frees {f : Nat → Int} {w : World} {b : Nat} {E : Nat → Option (List Cv.Bit)} (h : Paths f w b E) {s : Nat} (hs : s < 64) : ∀ j, j < 3 → w.frozen? ⟨b, s * 3 + j, none⟩ = false := fun j hj => by
  obtain ⟨⟨a1, a2⟩, ⟨b1, b2⟩, c1, c2⟩ := h.2 s hs
  match j, hj with
  | 0, _ => exact a2
  | 1, _ => exact b2
  | 2, _ => exact c2
/-- The cells of one way. -/
def ecells (f : Nat → Int) (e : Option (List Cv.Bit)) : List Value := [.bool (et e), .int .i64 (es f e), .string (eb e)]
theorem set_other3 {w : World} {b p j : Nat} {x y z : Value} (h : j ≠ p ∧ j ≠ p + 1 ∧ j ≠ p + 1 + 1) : (w.setCells b p [x, y, z]).cell? ⟨b, j, none⟩ = w.cell? ⟨b, j, none⟩ := by
  show (((w.setCell ⟨b, p, none⟩ x).setCell ⟨b, p + 1, none⟩ y).setCell ⟨b, p + 1 + 1, none⟩ z).cell? _ = _
  rw [World.cell?_setCell_other (h := addr_off (fun e => h.2.2 e.symm)), World.cell?_setCell_other (h := addr_off (fun e => h.2.1 e.symm)), World.cell?_setCell_other (h := addr_off (fun e => h.1 e.symm))]
theorem Paths.put {f : Nat → Int} {w : World} {b : Nat} {E : Nat → Option (List Cv.Bit)} (h : Paths f w b E) (t : Nat) (ht : t < 64) (e : Option (List Cv.Bit)) : Paths f (w.setCells b (t * 3) (ecells f e)) b (fun s => if s = t then e else E s) := by
  refine ⟨?_, fun s hs => ?_⟩
  · show b < (((w.setCell ⟨b, t * 3, none⟩ _).setCell ⟨b, t * 3 + 1, none⟩ _).setCell ⟨b, t * 3 + 1 + 1, none⟩ _).heap.size
    rw [World.size_setCell, World.size_setCell, World.size_setCell]
    exact h.1
  · obtain ⟨⟨a1, a2⟩, ⟨b1, b2⟩, c1, c2⟩ := h.2 s hs
    have fz : ∀ j, (w.setCells b (t * 3) (ecells f e)).frozen? ⟨b, j, none⟩ = w.frozen? ⟨b, j, none⟩ := fun j => by
      show (((w.setCell ⟨b, t * 3, none⟩ _).setCell ⟨b, t * 3 + 1, none⟩ _).setCell ⟨b, t * 3 + 1 + 1, none⟩ _).frozen? _ = _
      rw [World.frozen?_setCell, World.frozen?_setCell, World.frozen?_setCell]
    rw [fz, fz, fz]
    dsimp only
    refine ⟨⟨?_, a2⟩, ⟨?_, b2⟩, ?_, c2⟩
    all_goals by_cases q : s = t
    · subst q
      rw [if_pos rfl]
      show (((w.setCell ⟨b, s * 3, none⟩ _).setCell ⟨b, s * 3 + 1, none⟩ _).setCell ⟨b, s * 3 + 1 + 1, none⟩ _).cell? _ = _
      rw [World.cell?_setCell_other (h := addr_off (by omega)), World.cell?_setCell_other (h := addr_off (by omega)), World.cell?_setCell_same' _ _ _ (by rw [a1]; rfl)]
    · rw [if_neg q]
      exact (set_other3 (by omega)).trans a1
    · subst q
      rw [if_pos rfl]
      show (((w.setCell ⟨b, s * 3, none⟩ _).setCell ⟨b, s * 3 + 1, none⟩ _).setCell ⟨b, s * 3 + 1 + 1, none⟩ _).cell? _ = _
      rw [World.cell?_setCell_other (h := addr_off (by omega)), World.cell?_setCell_same' _ _ _ (by rw [World.cell?_setCell_other (h := addr_off (by omega)), b1]; rfl)]
    · rw [if_neg q]
      exact (set_other3 (by omega)).trans b1
    · subst q
      rw [if_pos rfl]
      show (((w.setCell ⟨b, s * 3, none⟩ _).setCell ⟨b, s * 3 + 1, none⟩ _).setCell ⟨b, s * 3 + 1 + 1, none⟩ _).cell? _ = _
      rw [World.cell?_setCell_same' _ _ _ (by rw [World.cell?_setCell_other (h := addr_off (by omega)), World.cell?_setCell_other (h := addr_off (by omega)), c1]; rfl)]
    · rw [if_neg q]
      exact (set_other3 (by omega)).trans c1
theorem Paths.setOther {f : Nat → Int} {w : World} {b c p : Nat} {E : Nat → Option (List Cv.Bit)} (h : Paths f w b E) (hc : c ≠ b) (l : List Value) : Paths f (w.setCells c p l) b E := by
  have hB : ∀ (l : List Value) (p : Nat) (w : World), (w.setCells c p l).heap[b]? = w.heap[b]? ∧ (w.setCells c p l).heap.size = w.heap.size := by
    intro l
    induction l with
    | nil => intro p w; exact ⟨rfl, rfl⟩
    | cons v l ih =>
      intro p w
      obtain ⟨i1, i2⟩ := ih (p + 1) (w.setCell ⟨c, p, none⟩ v)
      rw [World.setCells]
      exact ⟨i1.trans (Below.heap_setCell _ _ _ _ (show b ≠ c from fun e => hc e.symm)), i2.trans (World.size_setCell ..)⟩
  obtain ⟨e1, e2⟩ := hB l p w
  refine ⟨by rw [e2]; exact h.1, fun s hs => ?_⟩
  obtain ⟨⟨a1, a2⟩, ⟨b1, b2⟩, c1, c2⟩ := h.2 s hs
  exact ⟨⟨(World.cell?_of_block (w := w) (a := ⟨b, s * 3, none⟩) e1).trans a1, (World.frozen?_of_block (w := w) (a := ⟨b, s * 3, none⟩) e1).trans a2⟩, ⟨(World.cell?_of_block (w := w) (a := ⟨b, s * 3 + 1, none⟩) e1).trans b1, (World.frozen?_of_block (w := w) (a := ⟨b, s * 3 + 1, none⟩) e1).trans b2⟩,
    (World.cell?_of_block (w := w) (a := ⟨b, s * 3 + 1 + 1, none⟩) e1).trans c1, (World.frozen?_of_block (w := w) (a := ⟨b, s * 3 + 1 + 1, none⟩) e1).trans c2⟩
theorem below_set3 {n₀ : Nat} {w0 w : World} {b p : Nat} (h : Below n₀ w0 w) (hb : n₀ ≤ b) (x y z : Value) : Below n₀ w0 (w.setCells b p [x, y, z]) :=
  ((h.setCell (p := ⟨b, p, none⟩) hb x).setCell (p := ⟨b, p + 1, none⟩) hb y).setCell (p := ⟨b, p + 1 + 1, none⟩) hb z
end Vit
theorem info_path : (Try.prog.info? 55).map (fun i => (i.zero, i.size, i.bytes)) = some (some (.agg #[.bool false, .int .i64 0, .string ⟨#[]⟩]), 3, 32) := by kernel_rfl
/-- 64 ways made anew. -/
theorem made_paths (f : Nat → Int) {w : World} {base b e cap : Nat} (h : w.ownsRow base e 3 (.slice (some ⟨b, 0, none⟩) 64 cap) 64 (madeCells (Value.agg #[.bool false, .int .i64 0, .string ⟨#[]⟩]).cells (64 * 3)).toList) : Vit.Paths f w b (fun _ => none) := by
  obtain ⟨hl, h⟩ := h
  rcases h with ⟨hv, _⟩ | ⟨g, c, cur, hv, hb, hg, hnc, hm, hsz, ht⟩
  · simp at hv
  · simp only [Value.slice.injEq, Option.some.injEq, Addr.mk.injEq] at hv
    obtain ⟨⟨rfl, _, _⟩, _, rfl⟩ := hv
    have fr : ∀ j, w.frozen? ⟨b, j, none⟩ = false := fun j => by
      unfold World.frozen?
      rw [hg]
      simp
    have cl : ∀ j, j < 192 → w.cell? ⟨b, j, none⟩ = some (#[Value.bool false, .int .i64 0, .string ⟨#[]⟩][j % 3]!) := fun j hj => by
      have e1 : w.cell? ⟨b, j, none⟩ = cur[j]? := by
        unfold World.cell?
        rw [hg]
        simp
      have e2 : (cur.toList.take (64 * 3))[j]? = cur[j]? := by
        rw [List.getElem?_take_of_lt (by omega)]
        simp
      rw [e1, ← e2, ht]
      unfold madeCells
      simp [Value.cells, hj]
    refine ⟨(Array.getElem?_eq_some_iff.1 hg).1, fun s hs => ⟨⟨?_, fr _⟩, ⟨?_, fr _⟩, ?_, fr _⟩⟩
    · rw [cl _ (by omega), show s * 3 % 3 = 0 by omega]
      rfl
    · rw [cl _ (by omega), show (s * 3 + 1) % 3 = 1 by omega]
      rfl
    · rw [cl _ (by omega), show (s * 3 + 1 + 1) % 3 = 2 by omega]
      rfl
theorem run_store_pth (w : World) (b o : Nat) (x y z : Value) (h : ∀ j, j < 3 → (w.cell? ⟨b, o + j, none⟩).isSome = true) (hf : ∀ j, j < 3 → w.frozen? ⟨b, o + j, none⟩ = false) (h1 : ∀ v ∈ [x, y, z], v.oneCell' = true) :
    (storeVar 55 ⟨b, o, none⟩ (.agg #[x, y, z])).run Try.prog w = .ok () (w.setCells b o [x, y, z]) := by
  have := run_storeCells_cells (P := Try.prog) b o [x, y, z] 0 w h hf h1
  rw [Nat.add_zero] at this
  simp [storeVar, Sem.run_bind, Value.cells, this]
theorem wpList_store_pth {ops : Array Oper} {rest : List Oper} {o : Oper} {a : Act} {w : World} {Q : Exit → Act → World → Prop} (hg : o.guard = none) (x y : Operand) (ho : o.op = .store 55 x y) (b p : Nat) (u v z : Value) (hx : a.eval x = .pointer (some ⟨b, p, none⟩)) (hy : a.eval y = .agg #[u, v, z])
    (h : ∀ j, j < 3 → (w.cell? ⟨b, p + j, none⟩).isSome = true) (hf : ∀ j, j < 3 → w.frozen? ⟨b, p + j, none⟩ = false) (h1 : ∀ q ∈ [u, v, z], q.oneCell' = true) (hK : wpList Try.prog ops Q rest (a.put o.dst undef) (w.setCells b p [u, v, z])) : wpList Try.prog ops Q (o :: rest) a w :=
  wpList_plain hg fun _ hk => by
    unfold Oper.wp execOp
    simp only [ho, hx, hy, Instr.storeAt, Instr.sureAddr, Sem.run_bind, Sem.run_pure, Result.andThen_ok, run_store_pth w b p u v z h hf h1]
    exact hk _ _ hK
/-- The arguments of which Decode returns a message. -/
def dcOk (zs : List Int) (n : Int) : Prop := 0 ≤ n ∧ n ≤ 1100 ∧ zs.length = 16 * n.toNat + 12 ∧ softOk zs = true
instance (zs : List Int) (n : Int) : Decidable (dcOk zs n) := by unfold dcOk; infer_instance
/-- What Decode returns. -/
def DecA (zs : List Int) (n : Int) (e : Ending) : Prop :=
  if dcOk zs n then ∃ D : ByteArray, D.size = n.toNat ∧ Vit.Top (fz zs) n.toNat (Gal.co D.data.toList) ∧ e = .returned (.tuple #[.string D, .int .i64 (Vit.msum (fz zs) n.toNat (Gal.co D.data.toList)), .int .i64 0])
  else e = .returned (.tuple #[.string ⟨#[]⟩, .int .i64 0, .int .i64 2])
theorem skip_none {f : Nat → Int} {m i s : Nat} (hno : ∀ b, ¬ Vit.Pth m i s b) {F : Nat → Option (List Cv.Bit)} {b : Nat} (hb : b ≤ 2) (h : ∀ t, t < 64 → Vit.Best f (Vit.Prt m i (2 * s + b) t) (F t)) : ∀ t, t < 64 → Vit.Best f (Vit.Prt m i (2 * (s + 1)) t) (F t) := by
  have one : ∀ q, q / 2 = s → (∀ t, t < 64 → Vit.Best f (Vit.Prt m i q t) (F t)) → ∀ t, t < 64 → Vit.Best f (Vit.Prt m i (q + 1) t) (F t) := fun q hq hh t ht => Vit.best_same (hh t ht) (.inl (by rw [hq]; exact hno))
  match b, hb with
  | 0, _ => exact one (2 * s + 1) (by omega) (one (2 * s) (by omega) h)
  | 1, _ => exact one (2 * s + 1) (by omega) h
  | 2, _ => exact h
theorem ws_bound {f : Nat → Int} {b : List Cv.Bit} (h : ∀ i, i < 2 * b.length → sOk (f i)) : -16 * (b.length : Int) ≤ Vit.ws f b ∧ Vit.ws f b ≤ 16 * (b.length : Int) := by
  have := sg_bound (f := f) (g := Cv.sym (Cv.gl b)) (fun i => Cv.sym_lt _ i) (2 * b.length) h
  unfold Vit.ws
  rw [Vit.tot_sg]
  omega
set_option maxRecDepth 100000 in
set_option maxHeartbeats 4000000 in
theorem rdecode_ok (sb so cap : Nat) (zs : List Int) (N n : Nat) (hN : zs.length = N) (hn : n ≤ 1100) (hNn : N = 16 * n + 12) (hs : softOk zs = true) (w : World) (hsb : sb < w.heap.size) (hc : ∀ j, j < N → w.cell? ⟨sb, so + j, none⟩ = some (.int .i64 (zs.getD j 0))) :
    Calls Try.prog 12 #[.slice (some ⟨sb, so, none⟩) N cap, .int .i64 (n : Nat)] w fun e w' => DecA zs n e ∧ Below w.heap.size w w' := by
  have SY := Lib.hid (fun w => rsymbols_any (n : Int) w)
  rw [show symN (n : Int) = (N : Int) by unfold symN; rw [if_neg (by omega)]; omega] at SY
  have SO := Lib.hid (soft_any (some ⟨sb, so, none⟩) cap zs N hN (by omega) w (.inr ⟨sb, so, rfl, hsb, fun j hj => hc j (by omega)⟩))
  rw [hs] at SO
  have SF := Lib.hid ((softOk_iff zs).1 hs)
  rw [hN] at SF
  have LZ := Lib.hid hN
  have HC := Lib.hid hc
  have ST := Lib.hid (fun s k hs hk w => rstep_in s k hs hk w)
  obtain ⟨f, hf⟩ : ∃ f, fz zs = f := ⟨_, rfl⟩
  have FZ := Lib.hid (show ∀ i, zs.getD i 0 = f i from fun i => by rw [← hf]; rfl)
  have FE := Lib.hid hf
  obtain ⟨i0, hi0, hz0, hz1, hz2⟩ := info_parts info_path
  have n1 : decide ((n : Int) < 0) = false := by simp
  have n2 : decide ((1100 : Int) < (n : Int)) = false := by simp; omega
  obtain ⟨m8, hm8⟩ : ∃ m, 8 * n = m := ⟨_, rfl⟩
  obtain ⟨M, hM⟩ : ∃ m, m8 + 6 = m := ⟨_, rfl⟩
  have e1 : 8 * (n : Int) = (m8 : Int) := by omega
  have e2 : (m8 : Int) + 6 = (M : Int) := by omega
  have M2 : M ≤ 8806 := by omega
  have MN := Lib.hid (show 2 * M = N by omega)
  have M8 := Lib.hid hm8
  have MM := Lib.hid hM
  have N2 : N ≤ 17612 := by omega
  clear hc hs hN hf hm8 hM hNn
  go_enter Try.func12, Try.ntmps12
  go_wp2_with fail
  (with_reducible refine (SY.out _).mono ?_)
  rintro e w' ⟨rfl, rfl⟩
  go_wp2_with fail
  (with_reducible refine SO.out.mono ?_)
  rintro e w' ⟨rfl, rfl⟩
  clear SY SO
  go_wp2_with (first
    | (at_make; refine wpList_make_full _ rfl _ _ 53 rfl w.heap.size 55 i0 (.agg #[.bool false, .int .i64 0, .string ⟨#[]⟩]) 3 Try.underlying53 hi0 hz0 hz1 .i64 .i64 _ _ 64 rfl rfl rfl rfl (by rw [hz2]; omega) (by unfold maxLen; omega) (Nat.le_refl _) ?_; intro w2 hown hgrow; have P2 := Lib.hid (made_paths f hown); have B2 := Lib.hid ((Below.refl w.heap.size w).grown hgrow (Nat.le_refl _) (fun k e => by cases e)); clear hown hgrow)
    | (refine wpList_store_pth rfl (.tmp 37) (.tmp 36) rfl w.heap.size 0 (.bool true) (.int .i64 0) (.string ⟨#[]⟩) rfl rfl (P2.out.isSome (s := 0) (by omega)) (P2.out.frees (s := 0) (by omega)) (by simp [Value.oneCell']) ?_))
  have P3 := Lib.hid ((P2.out.put 0 (by omega) (some [])).congr (F := fun s => if s = 0 then some [] else none) (fun s _ => rfl))
  have B3 := Lib.hid (Vit.below_set3 (p := 0) B2.out (Nat.le_refl _) (.bool true) (.int .i64 0) (.string ⟨#[]⟩))
  have P4 := Lib.hid (show Vit.Paths f (w2.setCells w.heap.size 0 [.bool true, .int .i64 0, .string ⟨#[]⟩]) w.heap.size (fun s => if s = 0 then some [] else none) from P3.out)
  obtain ⟨w3, hw3⟩ : ∃ w3, w2.setCells w.heap.size 0 [.bool true, .int .i64 0, .string ⟨#[]⟩] = w3 := ⟨_, rfl⟩
  rw [hw3] at P4 B3 ⊢
  clear hw3 P2 P3 B2
  go_loopw [7, 8] (fun x y wr => ∃ (i bb : Nat) (E : Nat → Option (List Cv.Bit)), i ≤ M ∧ y = .int .i64 (i : Nat) ∧ x = .slice (some ⟨bb, 0, none⟩) 64 64 ∧ Vit.Paths f wr bb E ∧ (∀ s, s < 64 → Vit.Best f (Vit.Pth m8 i s) (E s)) ∧ w.heap.size ≤ bb ∧ Below w.heap.size w wr) (fun _ y _ => M - (intOf y).toNat)
  case atStart => exact ⟨0, w.heap.size, _, Nat.zero_le _, rfl, rfl, P4.out, fun s _ => Vit.best_start f m8 s, Nat.le_refl _, B3.out⟩
  case round =>
    obtain ⟨i, bb, E, hi, rfl, rfl, hP, hE, hbb, hB⟩ := hrel
    have HP := Lib.hid hP
    have HE := Lib.hid hE
    have HB := Lib.hid hB
    clear hP hE hB P4 B3
    by_cases hlt : i < M
    · have t1 : decide ((i : Int) < (M : Int)) = true := by simp; omega
      have bl := HP.out.lt
      go_wp2_with (at_make; refine wpList_make_full _ rfl _ _ 53 rfl wr.heap.size 55 i0 (.agg #[.bool false, .int .i64 0, .string ⟨#[]⟩]) 3 Try.underlying53 hi0 hz0 hz1 .i64 .i64 _ _ 64 rfl rfl rfl rfl (by rw [hz2]; omega) (by unfold maxLen; omega) (Nat.le_refl _) ?_; intro w4 hown hgrow; have Q4 := Lib.hid (made_paths f hown); have BW := Lib.hid ((Below.refl wr.heap.size wr).grown hgrow (Nat.le_refl _) (fun k e => by cases e)); clear hown hgrow)
      have HP4 := Lib.hid (HP.out.below BW.out)
      have B4 := Lib.hid (bt HB.out BW.out)
      have WS := Lib.hid HB.out.size
      obtain ⟨nb, hnb⟩ : ∃ b, wr.heap.size = b := ⟨_, rfl⟩
      rw [hnb] at Q4 bl WS ⊢
      clear hnb HP HB BW
      go_loopw [10] (fun x wq => ∃ (s : Nat) (F : Nat → Option (List Cv.Bit)), s ≤ 64 ∧ x = .int .i64 (s : Nat) ∧ Vit.Paths f wq bb E ∧ Vit.Paths f wq nb F ∧ (∀ t, t < 64 → Vit.Best f (Vit.Prt m8 i (2 * s) t) (F t)) ∧ Below w.heap.size w wq) (fun x _ => 64 - (intOf x).toNat)
      case atStart => exact ⟨0, _, Nat.zero_le _, rfl, HP4.out, Q4.out, fun t _ => Vit.prt_zero m8 i t, B4.out⟩
      case round =>
        clear HP4 Q4 B4
        obtain ⟨s, F, hs, rfl, hP, hQ, hF, hB⟩ := hrel
        have HP := Lib.hid hP
        have HQ := Lib.hid hQ
        have HF := Lib.hid hF
        have HB := Lib.hid hB
        clear hP hQ hF hB
        by_cases hls : s < 64
        · have t2 : decide ((s : Int) < 64) = true := by simp; omega
          go_wp2_with fail
          go_loopw [11] (fun x wq => ∃ (b : Nat) (F : Nat → Option (List Cv.Bit)), b ≤ 2 ∧ x = .int .i64 (b : Nat) ∧ Vit.Paths f wq bb E ∧ Vit.Paths f wq nb F ∧ (∀ t, t < 64 → Vit.Best f (Vit.Prt m8 i (2 * s + b) t) (F t)) ∧ Below w.heap.size w wq) (fun x _ => 2 - (intOf x).toNat)
          case atStart => exact ⟨0, F, Nat.zero_le _, rfl, HP.out, HQ.out, HF.out, HB.out⟩
          case round =>
            clear HP HQ HF HB
            obtain ⟨b, F, hb, rfl, hP, hQ, hF, hB⟩ := hrel
            have HP := Lib.hid hP
            have HQ := Lib.hid hQ
            have HF := Lib.hid hF
            have HB := Lib.hid hB
            clear hP hQ hF hB
            by_cases hlb : b < 2
            · have t3 : decide ((b : Int) < 2) = true := by simp; omega
              have s9 : (s : Int) < 64 := by omega
              obtain ⟨⟨ca, _⟩, ⟨cb, _⟩, cc, _⟩ := HP.out.2 s hls
              have es' := HE.out s hls
              obtain ⟨e, he⟩ : ∃ e, E s = e := ⟨_, rfl⟩
              rw [he] at ca cb cc es'
              cases e with
              | none =>
                have HF2 := Lib.hid (skip_none es' hb HF.out)
                have ca' : wr.cell? ⟨bb, s * 3, none⟩ = some (.bool false) := ca
                clear ca cb cc es' he HF
                go_wp2_with fail
                go_roundw
                case rel => exact ⟨s + 1, F, by omega, by go_num, HP.out, HQ.out, HF2.out, HB.out⟩
                case measure => simp [intOf]; omega
              | some b0 =>
                have ca' : wr.cell? ⟨bb, s * 3, none⟩ = some (.bool true) := ca
                clear ca
                by_cases sk : m8 ≤ i ∧ b = 1
                · have k1 : decide ((m8 : Int) ≤ (i : Int)) = true := by simp; omega
                  have k2 : ((b : Int) == 1) = true := by simp; omega
                  have HF2 := Lib.hid (show ∀ t, t < 64 → Vit.Best f (Vit.Prt m8 i (2 * s + (b + 1)) t) (F t) from fun t ht => Vit.best_same (q := 2 * s + b) (HF.out t ht) (.inr (.inl ⟨sk.1, by omega⟩)))
                  have k3 := sk.1
                  have k4 : decide (m8 ≤ i) = true := by simp; omega
                  have k5 : decide (b = 1) = true := by simp; omega
                  clear HF cb cc es' he ST SF HC FZ sk
                  go_wp2_with fail
                  go_roundw
                  case rel => exact ⟨b + 1, F, by omega, by go_num, HP.out, HQ.out, HF2.out, HB.out⟩
                  case measure => simp [intOf]; omega
                · have HX0 := Lib.hid (show m8 ≤ i → b = 0 by omega)
                  clear he
                  by_cases g0 : m8 ≤ i
                  · have k1 : decide ((m8 : Int) ≤ (i : Int)) = true := by simp; omega
                    have k2 : ((b : Int) == 1) = false := by have := HX0.out g0; simp; omega
                    have k4 : decide (m8 ≤ i) = true := by simp; omega
                    have k5 : decide (b = 1) = false := by have := HX0.out g0; simp; omega
                    have k6 : ¬ b = 1 := by have := HX0.out g0; omega
                    have HF0 := Lib.hid (fun t ht (htn : Cv.nx s b = t) => Vit.best_new (m := m8) (i := i) (t := t) (b0 := b0) (x := ⟨b, hlb⟩) (HF.out t ht) (by rw [show (2 * s + b) / 2 = s by omega]; exact es') (by show b = (2 * s + b) % 2; omega) (fun h => by have := HX0.out h; omega) (by rw [show (2 * s + b) / 2 = s by omega, show (2 * s + b) % 2 = b by omega]; exact htn))
                    have HFO := Lib.hid (fun t ht (htn : Cv.nx s b ≠ t) => Vit.best_same (HF.out t ht) (.inr (.inr (by rw [show (2 * s + b) / 2 = s by omega, show (2 * s + b) % 2 = b by omega]; exact htn))))
                    have HFL := Lib.hid (fun t ht c (hc : F t = some c) => show c.length = i + 1 by
                      have h := HF.out t ht
                      rw [hc] at h
                      obtain ⟨⟨b1, x, hx, hl, _⟩, _⟩ := h
                      rw [hx, List.length_append, hl]
                      rfl)
                    have hl : b0.length = i := es'.1.1
                    have hfin : Vit.fin b0 = s := es'.1.2.1
                    have S1 := Lib.hid (ST.out s b hls hlb)
                    unfold tupV stepV at S1
                    have t64 := Cv.nx_lt hls hlb
                    have hx1 := Cv.s1_lt s b
                    have hx2 := Cv.s2_lt s b
                    have W1 := Vit.ws_snoc f b0 ⟨b, hlb⟩
                    rw [hl, hfin] at W1
                    have W1' : Vit.ws f (b0 ++ [⟨b, hlb⟩]) = Vit.ws f b0 + ((Cv.s1 s b : Nat) * f (2 * i) + (Cv.s2 s b : Nat) * f (2 * i + 1)) := W1
                    have yb := ws_bound (f := f) (b := b0) (fun j hj => by rw [← FZ.out]; exact SF.out j (by have := MN.out; omega))
                    rw [hl] at yb
                    have LW := Lib.hid (fun c (hc : c.length = i + 1) => Vit.less_ways (b0 ++ [⟨b, hlb⟩]) c (by rw [hc, List.length_append, hl]; rfl))
                    have sB0 := Vit.strB_size b0
                    rw [hl] at sB0
                    have hB1 := Vit.strB_snoc b0 ⟨b, hlb⟩
                    have cb' : wr.cell? ⟨bb, s * 3 + 1, none⟩ = some (.int .i64 (Vit.ws f b0)) := cb
                    have cc' : wr.cell? ⟨bb, s * 3 + 2, none⟩ = some (.string (Vit.strB b0)) := cc
                    have zo1 := SF.out (2 * i) (by have := MN.out; omega)
                    have zo2 := SF.out (2 * i + 1) (by have := MN.out; omega)
                    have zc1 := (HB.out.cell (p := ⟨sb, so + 2 * i, none⟩) hsb).trans (HC.out (2 * i) (by have := MN.out; omega))
                    have zc2 := (HB.out.cell (p := ⟨sb, so + (2 * i + 1), none⟩) hsb).trans (HC.out (2 * i + 1) (by have := MN.out; omega))
                    rw [FZ.out] at zo1 zo2 zc1 zc2
                    have EC := Lib.hid (show Vit.ecells f (some (b0 ++ [⟨b, hlb⟩])) = [.bool true, .int .i64 (Vit.ws f (b0 ++ [⟨b, hlb⟩])), .string (Vit.strB (b0 ++ [⟨b, hlb⟩]))] from rfl)
                    obtain ⟨j1, hj1⟩ : ∃ j, 2 * i = j := ⟨_, rfl⟩
                    rw [hj1] at W1' zo1 zo2 zc1 zc2
                    obtain ⟨j2, hj2⟩ : ∃ j, j1 + 1 = j := ⟨_, rfl⟩
                    rw [hj2] at W1' zo2 zc2
                    obtain ⟨t', ht'⟩ : ∃ z, Cv.nx s b = z := ⟨_, rfl⟩
                    obtain ⟨x1, hxe1⟩ : ∃ z, Cv.s1 s b = z := ⟨_, rfl⟩
                    obtain ⟨x2, hxe2⟩ : ∃ z, Cv.s2 s b = z := ⟨_, rfl⟩
                    obtain ⟨z1, hze1⟩ : ∃ z, f j1 = z := ⟨_, rfl⟩
                    obtain ⟨z2, hze2⟩ : ∃ z, f j2 = z := ⟨_, rfl⟩
                    obtain ⟨y, hy⟩ : ∃ z, Vit.ws f b0 = z := ⟨_, rfl⟩
                    obtain ⟨y2, hy2⟩ : ∃ z, Vit.ws f (b0 ++ [⟨b, hlb⟩]) = z := ⟨_, rfl⟩
                    obtain ⟨B0, hB0⟩ : ∃ z, Vit.strB b0 = z := ⟨_, rfl⟩
                    obtain ⟨B1, hB1e⟩ : ∃ z, Vit.strB (b0 ++ [⟨b, hlb⟩]) = z := ⟨_, rfl⟩
                    rw [ht'] at S1 t64 HFO
                    rw [ht'] at HF0
                    rw [hxe1] at S1 hx1 W1'
                    rw [hxe2] at S1 hx2 W1'
                    rw [hze1] at zo1 zc1 W1'
                    rw [hze2] at zo2 zc2 W1'
                    rw [hy] at W1' yb cb'
                    rw [hy2] at W1' EC HF0
                    rw [hB0] at cc' sB0 hB1
                    rw [hB1e] at hB1 EC LW
                    obtain ⟨p1, hp1⟩ : ∃ z, (x1 : Int) * z1 = z := ⟨_, rfl⟩
                    obtain ⟨p2, hp2⟩ : ∃ z, (x2 : Int) * z2 = z := ⟨_, rfl⟩
                    rw [hp1, hp2] at W1'
                    obtain ⟨y1, hy1⟩ : ∃ z, y + p1 = z := ⟨_, rfl⟩
                    have hy12 : y1 + p2 = y2 := by omega
                    unfold sOk at zo1 zo2
                    have pb1 : -8 ≤ p1 ∧ p1 ≤ 8 := by
                      match x1, hx1 with
                      | 0, _ => simp at hp1; omega
                      | 1, _ => simp at hp1; omega
                    have pb2 : -8 ≤ p2 ∧ p2 ≤ 8 := by
                      match x2, hx2 with
                      | 0, _ => simp at hp2; omega
                      | 1, _ => simp at hp2; omega
                    have hi' : i ≤ 8806 := by omega
                    have hjj : j2 < N := by have := MN.out; omega
                    clear cb cc es' hl hfin W1 ht' hxe1 hxe2 hze1 hze2 hy hy2 hB0 hB1e HF SF HC FZ FE MN M8 MM ST HE
                    go_wp2_with fail
                    (with_reducible refine (S1.out _).mono ?_)
                    rintro e w5 ⟨rfl, h5⟩
                    have HP5 := Lib.hid (HP.out.below h5)
                    have HQ5 := Lib.hid (HQ.out.below h5)
                    have HB5 := Lib.hid (bt HB.out h5)
                    have cy5 := (h5.cell (p := ⟨bb, s * 3 + 1, none⟩) HP.out.lt).trans cb'
                    have cB5 := (h5.cell (p := ⟨bb, s * 3 + 2, none⟩) HP.out.lt).trans cc'
                    have sbw : sb < wr.heap.size := Nat.lt_of_lt_of_le hsb HB.out.size
                    have cz15 := (h5.cell (p := ⟨sb, so + j1, none⟩) sbw).trans zc1
                    have cz25 := (h5.cell (p := ⟨sb, so + j2, none⟩) sbw).trans zc2
                    have nbw : nb < w5.heap.size := HQ5.out.lt
                    have HH := Lib.hid (⟨cy5, cB5, cz15, cz25, Nat.lt_of_lt_of_le sbw h5.size⟩ : w5.cell? ⟨bb, s * 3 + 1, none⟩ = some (.int .i64 y) ∧ w5.cell? ⟨bb, s * 3 + 2, none⟩ = some (.string B0) ∧ w5.cell? ⟨sb, so + j1, none⟩ = some (.int .i64 z1) ∧ w5.cell? ⟨sb, so + j2, none⟩ = some (.int .i64 z2) ∧ sb < w5.heap.size)
                    clear W1' ca' HP HQ HB h5 cb' cc' zc1 zc2 cy5 cB5 cz15 cz25 S1 sbw
                    go_upto_region 17 with fail
                    refine wayRegion w5.heap.size bb sb so N cap s i j1 j2 b x1 x2 y z1 z2 p1 p2 y1 y2 B0 B1 hls hi' (by omega) (by omega) hjj hlb hx1 hx2 zo1 zo2 (by omega) hp1 hp2 pb1 pb2 hy1 hy12 (by omega) hB1 HP5.out.lt HH.out.2.2.2.2 (Nat.le_refl _) HH.out.1 HH.out.2.1 HH.out.2.2.1 HH.out.2.2.2.1 (by kernel_rfl) rfl rfl rfl rfl rfl rfl rfl rfl rfl rfl rfl rfl rfl rfl rfl rfl rfl rfl rfl rfl rfl rfl rfl rfl rfl rfl rfl rfl rfl rfl rfl rfl rfl rfl rfl rfl rfl rfl rfl rfl rfl rfl ?_
                    intro vq vp w6 B6 hvq hvp
                    obtain ⟨P, rfl, hPn, hPh⟩ := hvp
                    simp only [Act.put, List.setIfInBounds_toArray, List.set_cons_succ, List.set_cons_zero, List.drop_succ_cons, List.drop_zero]
                    have isP : ∀ j, j < 3 → (w6.cell? ⟨P, 0 + j, none⟩).isSome = true := fun j hj => by
                      rw [cell_of_row _ _ _ _ _ _ hPh]
                      match j, hj with
                      | 0, _ => rfl
                      | 1, _ => rfl
                      | 2, _ => rfl
                    have frP : ∀ j, j < 3 → w6.frozen? ⟨P, 0 + j, none⟩ = false := fun j hj => by
                      unfold World.frozen?
                      rw [hPh]
                      simp
                    refine wpList_store_pth rfl (.tmp 15) (.tmp 108) rfl P 0 (.bool true) (.int .i64 y2) (.string B1) rfl rfl isP frP (by simp [Value.oneCell']) ?_
                    refine wpList_nil ?_
                    simp only [Act.put]
                    have HP7 := Lib.hid (Vit.Paths.setOther (c := P) (p := 0) (HP5.out.below B6) (by have := HP5.out.lt; omega) [.bool true, .int .i64 y2, .string B1])
                    have HQ7 := Lib.hid (Vit.Paths.setOther (c := P) (p := 0) (HQ5.out.below B6) (by omega) [.bool true, .int .i64 y2, .string B1])
                    have HB7 := Lib.hid (Vit.below_set3 (p := 0) (bt HB5.out B6) (show w.heap.size ≤ P by have := HB5.out.size; omega) (.bool true) (.int .i64 y2) (.string B1))
                    have pc0 : (w6.setCells P 0 [.bool true, .int .i64 y2, .string B1]).cell? ⟨P, 0, none⟩ = some (.bool true) := by
                      show (((w6.setCell ⟨P, 0, none⟩ _).setCell ⟨P, 1, none⟩ _).setCell ⟨P, 2, none⟩ _).cell? _ = _
                      rw [World.cell?_setCell_other (h := addr_off (by omega)), World.cell?_setCell_other (h := addr_off (by omega)), World.cell?_setCell_same' _ _ _ (isP 0 (by omega))]
                    have pc1 : (w6.setCells P 0 [.bool true, .int .i64 y2, .string B1]).cell? ⟨P, 1, none⟩ = some (.int .i64 y2) := by
                      show (((w6.setCell ⟨P, 0, none⟩ _).setCell ⟨P, 1, none⟩ _).setCell ⟨P, 2, none⟩ _).cell? _ = _
                      rw [World.cell?_setCell_other (h := addr_off (by omega)), World.cell?_setCell_same' _ _ _ (by rw [World.cell?_setCell_other (h := addr_off (by omega))]; exact isP 1 (by omega))]
                    have pc2 : (w6.setCells P 0 [.bool true, .int .i64 y2, .string B1]).cell? ⟨P, 2, none⟩ = some (.string B1) := by
                      show (((w6.setCell ⟨P, 0, none⟩ _).setCell ⟨P, 1, none⟩ _).setCell ⟨P, 2, none⟩ _).cell? _ = _
                      rw [World.cell?_setCell_same' _ _ _ (by rw [World.cell?_setCell_other (h := addr_off (by omega)), World.cell?_setCell_other (h := addr_off (by omega))]; exact isP 2 (by omega))]
                    obtain ⟨w7, hw7⟩ : ∃ w7, w6.setCells P 0 [.bool true, .int .i64 y2, .string B1] = w7 := ⟨_, rfl⟩
                    rw [hw7] at HP7 HQ7 HB7 pc0 pc1 pc2 ⊢
                    have t9 : (t' : Int) < 64 := by omega
                    obtain ⟨⟨qa, _⟩, ⟨qb, _⟩, qc, _⟩ := HQ7.out.2 t' t64
                    have h0 := HF0.out t' t64 rfl
                    have LW2 := Lib.hid (fun c (hc : F t' = some c) => LW.out c (HFL.out t' t64 c hc))
                    clear hw7 isP frP hPh hPn B6 HP5 HQ5 HB5 HH hvq hx1 hx2 zo1 zo2 hp1 hp2 pb1 pb2 hy1 hy12 yb hjj sB0 hB1 HF0 LW HFL
                    have OTH := Lib.hid (fun (e' : Option (List Cv.Bit)) (he' : Vit.Best f (Vit.Prt m8 i (2 * s + b + 1) t') e') => show ∀ t, t < 64 → Vit.Best f (Vit.Prt m8 i (2 * s + (b + 1)) t) (if t = t' then e' else F t) from fun t ht => by
                      by_cases q : t = t'
                      · rw [if_pos q, q]; exact he'
                      · rw [if_neg q]; exact HFO.out t ht (fun h => q h.symm))
                    obtain ⟨ef, hef⟩ : ∃ e, F t' = e := ⟨_, rfl⟩
                    rw [hef] at qa qb qc h0
                    cases ef with
                    | none =>
                      have qa' : w7.cell? ⟨nb, t' * 3, none⟩ = some (.bool false) := qa
                      have HF2 := Lib.hid (OTH.out _ (h0.2 (.inl rfl)))
                      clear qa qb qc h0 HFO OTH hef LW2
                      go_wp2_with fail
                      go_quiet (fail)
                      have HP8 := Lib.hid (Vit.Paths.drewN HP7.out nq)
                      have HQ8 := Lib.hid (Vit.Paths.drewN HQ7.out nq)
                      have HB8 := Lib.hid (below_drewN HB7.out nq)
                      have pd0 : (w7.drewN nq).cell? ⟨P, 0, none⟩ = some (.bool true) := pc0
                      have pd1 : (w7.drewN nq).cell? ⟨P, 1, none⟩ = some (.int .i64 y2) := pc1
                      have pd2 : (w7.drewN nq).cell? ⟨P, 2, none⟩ = some (.string B1) := pc2
                      obtain ⟨w8, hw8⟩ : ∃ w8, w7.drewN nq = w8 := ⟨_, rfl⟩
                      rw [hw8] at HP8 HQ8 HB8 pd0 pd1 pd2 ⊢
                      clear hw8 HP7 HQ7 HB7 pc0 pc1 pc2 qa'
                      have PQ := HQ8.out.put t' t64 (some (b0 ++ [⟨b, hlb⟩]))
                      rw [EC.out] at PQ
                      have HPQ := Lib.hid PQ
                      have HPP := Lib.hid (Vit.Paths.setOther (c := nb) (p := t' * 3) HP8.out (by omega) [.bool true, .int .i64 y2, .string B1])
                      have HPB := Lib.hid (Vit.below_set3 (b := nb) (p := t' * 3) HB8.out WS.out (.bool true) (.int .i64 y2) (.string B1))
                      have IS := Lib.hid (HQ8.out.isSome t64)
                      have FR := Lib.hid (HQ8.out.frees t64)
                      clear PQ EC HP8 HQ8 HB8
                      go_wp2_with (refine wpList_store_pth rfl (.tmp 148) (.tmp 147) rfl nb (t' * 3) (.bool true) (.int .i64 y2) (.string B1) rfl rfl IS.out FR.out (by simp [Value.oneCell']) ?_)
                      go_roundw
                      case rel => exact ⟨b + 1, _, by omega, by go_num, HPP.out, HPQ.out, HF2.out, HPB.out⟩
                      case measure => simp [intOf]; omega
                    | some c =>
                      have qa' : w7.cell? ⟨nb, t' * 3, none⟩ = some (.bool true) := qa
                      have qb' : w7.cell? ⟨nb, t' * 3 + 1, none⟩ = some (.int .i64 (Vit.ws f c)) := qb
                      have qc' : w7.cell? ⟨nb, t' * 3 + 2, none⟩ = some (.string (Vit.strB c)) := qc
                      have lw := LW2.out c hef
                      have KEEP := Lib.hid (fun (he' : Vit.Best f (Vit.Prt m8 i (2 * s + b + 1) t') (some c)) => show ∀ t, t < 64 → Vit.Best f (Vit.Prt m8 i (2 * s + (b + 1)) t) (F t) from fun t ht => by
                        by_cases q : t = t'
                        · rw [q, hef]; exact he'
                        · exact HFO.out t ht (fun h => q h.symm))
                      obtain ⟨yc, hyc⟩ : ∃ z, Vit.ws f c = z := ⟨_, rfl⟩
                      obtain ⟨Bc, hBc⟩ : ∃ z, Vit.strB c = z := ⟨_, rfl⟩
                      rw [hyc] at qb'
                      rw [hBc] at qc' lw
                      have H0 := Lib.hid h0
                      have HYC := Lib.hid hyc
                      clear qa qb qc h0 HFO hef LW2 hyc hBc
                      by_cases g1 : yc < y2
                      · have d1 : decide (yc < y2) = true := by simp; omega
                        have HF2 := Lib.hid (OTH.out _ (H0.out.2 (.inr ⟨c, rfl, .inl (by rw [HYC.out]; exact g1)⟩)))
                        clear H0 HYC OTH KEEP lw
                        go_wp2_with fail
                        go_quiet (fail)
                        have HP8 := Lib.hid (Vit.Paths.drewN HP7.out nq)
                        have HQ8 := Lib.hid (Vit.Paths.drewN HQ7.out nq)
                        have HB8 := Lib.hid (below_drewN HB7.out nq)
                        have pd0 : (w7.drewN nq).cell? ⟨P, 0, none⟩ = some (.bool true) := pc0
                        have pd1 : (w7.drewN nq).cell? ⟨P, 1, none⟩ = some (.int .i64 y2) := pc1
                        have pd2 : (w7.drewN nq).cell? ⟨P, 2, none⟩ = some (.string B1) := pc2
                        obtain ⟨w8, hw8⟩ : ∃ w8, w7.drewN nq = w8 := ⟨_, rfl⟩
                        rw [hw8] at HP8 HQ8 HB8 pd0 pd1 pd2 ⊢
                        clear hw8 HP7 HQ7 HB7 pc0 pc1 pc2 qa'
                        have PQ := HQ8.out.put t' t64 (some (b0 ++ [⟨b, hlb⟩]))
                        rw [EC.out] at PQ
                        have HPQ := Lib.hid PQ
                        have HPP := Lib.hid (Vit.Paths.setOther (c := nb) (p := t' * 3) HP8.out (by omega) [.bool true, .int .i64 y2, .string B1])
                        have HPB := Lib.hid (Vit.below_set3 (b := nb) (p := t' * 3) HB8.out WS.out (.bool true) (.int .i64 y2) (.string B1))
                        have IS := Lib.hid (HQ8.out.isSome t64)
                        have FR := Lib.hid (HQ8.out.frees t64)
                        clear PQ EC HP8 HQ8 HB8
                        go_wp2_with (refine wpList_store_pth rfl (.tmp 148) (.tmp 147) rfl nb (t' * 3) (.bool true) (.int .i64 y2) (.string B1) rfl rfl IS.out FR.out (by simp [Value.oneCell']) ?_)
                        go_roundw
                        case rel => exact ⟨b + 1, _, by omega, by go_num, HPP.out, HPQ.out, HF2.out, HPB.out⟩
                        case measure => simp [intOf]; omega
                      · have d1 : decide (yc < y2) = false := by simp; omega
                        by_cases g2 : y2 = yc
                        · subst g2
                          have d2 : (y2 == y2) = true := by simp
                          by_cases g3 : Vit.val (b0 ++ [⟨b, hlb⟩]) < Vit.val c
                          · rw [decide_eq_true g3] at lw
                            have HF2 := Lib.hid (OTH.out _ (H0.out.2 (.inr ⟨c, rfl, .inr ⟨by rw [HYC.out], g3⟩⟩)))
                            clear H0 HYC OTH KEEP g3 g1
                            go_wp2_with fail
                            go_quiet (fail)
                            have HP8 := Lib.hid (Vit.Paths.drewN HP7.out nq)
                            have HQ8 := Lib.hid (Vit.Paths.drewN HQ7.out nq)
                            have HB8 := Lib.hid (below_drewN HB7.out nq)
                            have pd0 : (w7.drewN nq).cell? ⟨P, 0, none⟩ = some (.bool true) := pc0
                            have pd1 : (w7.drewN nq).cell? ⟨P, 1, none⟩ = some (.int .i64 y2) := pc1
                            have pd2 : (w7.drewN nq).cell? ⟨P, 2, none⟩ = some (.string B1) := pc2
                            obtain ⟨w8, hw8⟩ : ∃ w8, w7.drewN nq = w8 := ⟨_, rfl⟩
                            rw [hw8] at HP8 HQ8 HB8 pd0 pd1 pd2 ⊢
                            clear hw8 HP7 HQ7 HB7 pc0 pc1 pc2 qa'
                            have PQ := HQ8.out.put t' t64 (some (b0 ++ [⟨b, hlb⟩]))
                            rw [EC.out] at PQ
                            have HPQ := Lib.hid PQ
                            have HPP := Lib.hid (Vit.Paths.setOther (c := nb) (p := t' * 3) HP8.out (by omega) [.bool true, .int .i64 y2, .string B1])
                            have HPB := Lib.hid (Vit.below_set3 (b := nb) (p := t' * 3) HB8.out WS.out (.bool true) (.int .i64 y2) (.string B1))
                            have IS := Lib.hid (HQ8.out.isSome t64)
                            have FR := Lib.hid (HQ8.out.frees t64)
                            clear PQ EC HP8 HQ8 HB8
                            go_wp2_with (refine wpList_store_pth rfl (.tmp 148) (.tmp 147) rfl nb (t' * 3) (.bool true) (.int .i64 y2) (.string B1) rfl rfl IS.out FR.out (by simp [Value.oneCell']) ?_)
                            go_roundw
                            case rel => exact ⟨b + 1, _, by omega, by go_num, HPP.out, HPQ.out, HF2.out, HPB.out⟩
                            case measure => simp [intOf]; omega
                          · rw [decide_eq_false g3] at lw
                            have HF2 := Lib.hid (KEEP.out (H0.out.1 c rfl (by rw [HYC.out]; omega)))
                            clear H0 HYC OTH KEEP g3 g1
                            go_wp2_with fail
                            go_quiet (fail)
                            have HP8 := Lib.hid (Vit.Paths.drewN HP7.out nq)
                            have HQ8 := Lib.hid (Vit.Paths.drewN HQ7.out nq)
                            have HB8 := Lib.hid (below_drewN HB7.out nq)
                            have pd0 : (w7.drewN nq).cell? ⟨P, 0, none⟩ = some (.bool true) := pc0
                            have pd1 : (w7.drewN nq).cell? ⟨P, 1, none⟩ = some (.int .i64 y2) := pc1
                            have pd2 : (w7.drewN nq).cell? ⟨P, 2, none⟩ = some (.string B1) := pc2
                            obtain ⟨w8, hw8⟩ : ∃ w8, w7.drewN nq = w8 := ⟨_, rfl⟩
                            rw [hw8] at HP8 HQ8 HB8 pd0 pd1 pd2 ⊢
                            clear hw8 HP7 HQ7 HB7 pc0 pc1 pc2 qa'
                            clear pd0 pd1 pd2 EC
                            go_wp2_with fail
                            go_roundw
                            case rel => exact ⟨b + 1, F, by omega, by go_num, HP8.out, HQ8.out, HF2.out, HB8.out⟩
                            case measure => simp [intOf]; omega
                        · have d2 : (y2 == yc) = false := by simp; omega
                          have HF2 := Lib.hid (KEEP.out (H0.out.1 c rfl (by rw [HYC.out]; omega)))
                          clear H0 HYC OTH KEEP lw g1 g2
                          go_wp2_with fail
                          go_quiet (fail)
                          have HP8 := Lib.hid (Vit.Paths.drewN HP7.out nq)
                          have HQ8 := Lib.hid (Vit.Paths.drewN HQ7.out nq)
                          have HB8 := Lib.hid (below_drewN HB7.out nq)
                          have pd0 : (w7.drewN nq).cell? ⟨P, 0, none⟩ = some (.bool true) := pc0
                          have pd1 : (w7.drewN nq).cell? ⟨P, 1, none⟩ = some (.int .i64 y2) := pc1
                          have pd2 : (w7.drewN nq).cell? ⟨P, 2, none⟩ = some (.string B1) := pc2
                          obtain ⟨w8, hw8⟩ : ∃ w8, w7.drewN nq = w8 := ⟨_, rfl⟩
                          rw [hw8] at HP8 HQ8 HB8 pd0 pd1 pd2 ⊢
                          clear hw8 HP7 HQ7 HB7 pc0 pc1 pc2 qa'
                          clear pd0 pd1 pd2 EC
                          go_wp2_with fail
                          go_roundw
                          case rel => exact ⟨b + 1, F, by omega, by go_num, HP8.out, HQ8.out, HF2.out, HB8.out⟩
                          case measure => simp [intOf]; omega
                  · have k1 : decide ((m8 : Int) ≤ (i : Int)) = false := by simp; omega
                    have k4 : decide (m8 ≤ i) = false := by simp; omega
                    have HF0 := Lib.hid (fun t ht (htn : Cv.nx s b = t) => Vit.best_new (m := m8) (i := i) (t := t) (b0 := b0) (x := ⟨b, hlb⟩) (HF.out t ht) (by rw [show (2 * s + b) / 2 = s by omega]; exact es') (by show b = (2 * s + b) % 2; omega) (fun h => by have := HX0.out h; omega) (by rw [show (2 * s + b) / 2 = s by omega, show (2 * s + b) % 2 = b by omega]; exact htn))
                    have HFO := Lib.hid (fun t ht (htn : Cv.nx s b ≠ t) => Vit.best_same (HF.out t ht) (.inr (.inr (by rw [show (2 * s + b) / 2 = s by omega, show (2 * s + b) % 2 = b by omega]; exact htn))))
                    have HFL := Lib.hid (fun t ht c (hc : F t = some c) => show c.length = i + 1 by
                      have h := HF.out t ht
                      rw [hc] at h
                      obtain ⟨⟨b1, x, hx, hl, _⟩, _⟩ := h
                      rw [hx, List.length_append, hl]
                      rfl)
                    have hl : b0.length = i := es'.1.1
                    have hfin : Vit.fin b0 = s := es'.1.2.1
                    have S1 := Lib.hid (ST.out s b hls hlb)
                    unfold tupV stepV at S1
                    have t64 := Cv.nx_lt hls hlb
                    have hx1 := Cv.s1_lt s b
                    have hx2 := Cv.s2_lt s b
                    have W1 := Vit.ws_snoc f b0 ⟨b, hlb⟩
                    rw [hl, hfin] at W1
                    have W1' : Vit.ws f (b0 ++ [⟨b, hlb⟩]) = Vit.ws f b0 + ((Cv.s1 s b : Nat) * f (2 * i) + (Cv.s2 s b : Nat) * f (2 * i + 1)) := W1
                    have yb := ws_bound (f := f) (b := b0) (fun j hj => by rw [← FZ.out]; exact SF.out j (by have := MN.out; omega))
                    rw [hl] at yb
                    have LW := Lib.hid (fun c (hc : c.length = i + 1) => Vit.less_ways (b0 ++ [⟨b, hlb⟩]) c (by rw [hc, List.length_append, hl]; rfl))
                    have sB0 := Vit.strB_size b0
                    rw [hl] at sB0
                    have hB1 := Vit.strB_snoc b0 ⟨b, hlb⟩
                    have cb' : wr.cell? ⟨bb, s * 3 + 1, none⟩ = some (.int .i64 (Vit.ws f b0)) := cb
                    have cc' : wr.cell? ⟨bb, s * 3 + 2, none⟩ = some (.string (Vit.strB b0)) := cc
                    have zo1 := SF.out (2 * i) (by have := MN.out; omega)
                    have zo2 := SF.out (2 * i + 1) (by have := MN.out; omega)
                    have zc1 := (HB.out.cell (p := ⟨sb, so + 2 * i, none⟩) hsb).trans (HC.out (2 * i) (by have := MN.out; omega))
                    have zc2 := (HB.out.cell (p := ⟨sb, so + (2 * i + 1), none⟩) hsb).trans (HC.out (2 * i + 1) (by have := MN.out; omega))
                    rw [FZ.out] at zo1 zo2 zc1 zc2
                    have EC := Lib.hid (show Vit.ecells f (some (b0 ++ [⟨b, hlb⟩])) = [.bool true, .int .i64 (Vit.ws f (b0 ++ [⟨b, hlb⟩])), .string (Vit.strB (b0 ++ [⟨b, hlb⟩]))] from rfl)
                    obtain ⟨j1, hj1⟩ : ∃ j, 2 * i = j := ⟨_, rfl⟩
                    rw [hj1] at W1' zo1 zo2 zc1 zc2
                    obtain ⟨j2, hj2⟩ : ∃ j, j1 + 1 = j := ⟨_, rfl⟩
                    rw [hj2] at W1' zo2 zc2
                    obtain ⟨t', ht'⟩ : ∃ z, Cv.nx s b = z := ⟨_, rfl⟩
                    obtain ⟨x1, hxe1⟩ : ∃ z, Cv.s1 s b = z := ⟨_, rfl⟩
                    obtain ⟨x2, hxe2⟩ : ∃ z, Cv.s2 s b = z := ⟨_, rfl⟩
                    obtain ⟨z1, hze1⟩ : ∃ z, f j1 = z := ⟨_, rfl⟩
                    obtain ⟨z2, hze2⟩ : ∃ z, f j2 = z := ⟨_, rfl⟩
                    obtain ⟨y, hy⟩ : ∃ z, Vit.ws f b0 = z := ⟨_, rfl⟩
                    obtain ⟨y2, hy2⟩ : ∃ z, Vit.ws f (b0 ++ [⟨b, hlb⟩]) = z := ⟨_, rfl⟩
                    obtain ⟨B0, hB0⟩ : ∃ z, Vit.strB b0 = z := ⟨_, rfl⟩
                    obtain ⟨B1, hB1e⟩ : ∃ z, Vit.strB (b0 ++ [⟨b, hlb⟩]) = z := ⟨_, rfl⟩
                    rw [ht'] at S1 t64 HFO
                    rw [ht'] at HF0
                    rw [hxe1] at S1 hx1 W1'
                    rw [hxe2] at S1 hx2 W1'
                    rw [hze1] at zo1 zc1 W1'
                    rw [hze2] at zo2 zc2 W1'
                    rw [hy] at W1' yb cb'
                    rw [hy2] at W1' EC HF0
                    rw [hB0] at cc' sB0 hB1
                    rw [hB1e] at hB1 EC LW
                    obtain ⟨p1, hp1⟩ : ∃ z, (x1 : Int) * z1 = z := ⟨_, rfl⟩
                    obtain ⟨p2, hp2⟩ : ∃ z, (x2 : Int) * z2 = z := ⟨_, rfl⟩
                    rw [hp1, hp2] at W1'
                    obtain ⟨y1, hy1⟩ : ∃ z, y + p1 = z := ⟨_, rfl⟩
                    have hy12 : y1 + p2 = y2 := by omega
                    unfold sOk at zo1 zo2
                    have pb1 : -8 ≤ p1 ∧ p1 ≤ 8 := by
                      match x1, hx1 with
                      | 0, _ => simp at hp1; omega
                      | 1, _ => simp at hp1; omega
                    have pb2 : -8 ≤ p2 ∧ p2 ≤ 8 := by
                      match x2, hx2 with
                      | 0, _ => simp at hp2; omega
                      | 1, _ => simp at hp2; omega
                    have hi' : i ≤ 8806 := by omega
                    have hjj : j2 < N := by have := MN.out; omega
                    clear cb cc es' hl hfin W1 ht' hxe1 hxe2 hze1 hze2 hy hy2 hB0 hB1e HF SF HC FZ FE MN M8 MM ST HE
                    go_wp2_with fail
                    (with_reducible refine (S1.out _).mono ?_)
                    rintro e w5 ⟨rfl, h5⟩
                    have HP5 := Lib.hid (HP.out.below h5)
                    have HQ5 := Lib.hid (HQ.out.below h5)
                    have HB5 := Lib.hid (bt HB.out h5)
                    have cy5 := (h5.cell (p := ⟨bb, s * 3 + 1, none⟩) HP.out.lt).trans cb'
                    have cB5 := (h5.cell (p := ⟨bb, s * 3 + 2, none⟩) HP.out.lt).trans cc'
                    have sbw : sb < wr.heap.size := Nat.lt_of_lt_of_le hsb HB.out.size
                    have cz15 := (h5.cell (p := ⟨sb, so + j1, none⟩) sbw).trans zc1
                    have cz25 := (h5.cell (p := ⟨sb, so + j2, none⟩) sbw).trans zc2
                    have nbw : nb < w5.heap.size := HQ5.out.lt
                    have HH := Lib.hid (⟨cy5, cB5, cz15, cz25, Nat.lt_of_lt_of_le sbw h5.size⟩ : w5.cell? ⟨bb, s * 3 + 1, none⟩ = some (.int .i64 y) ∧ w5.cell? ⟨bb, s * 3 + 2, none⟩ = some (.string B0) ∧ w5.cell? ⟨sb, so + j1, none⟩ = some (.int .i64 z1) ∧ w5.cell? ⟨sb, so + j2, none⟩ = some (.int .i64 z2) ∧ sb < w5.heap.size)
                    clear W1' ca' HP HQ HB h5 cb' cc' zc1 zc2 cy5 cB5 cz15 cz25 S1 sbw
                    go_upto_region 17 with fail
                    refine wayRegion w5.heap.size bb sb so N cap s i j1 j2 b x1 x2 y z1 z2 p1 p2 y1 y2 B0 B1 hls hi' (by omega) (by omega) hjj hlb hx1 hx2 zo1 zo2 (by omega) hp1 hp2 pb1 pb2 hy1 hy12 (by omega) hB1 HP5.out.lt HH.out.2.2.2.2 (Nat.le_refl _) HH.out.1 HH.out.2.1 HH.out.2.2.1 HH.out.2.2.2.1 (by kernel_rfl) rfl rfl rfl rfl rfl rfl rfl rfl rfl rfl rfl rfl rfl rfl rfl rfl rfl rfl rfl rfl rfl rfl rfl rfl rfl rfl rfl rfl rfl rfl rfl rfl rfl rfl rfl rfl rfl rfl rfl rfl rfl rfl ?_
                    intro vq vp w6 B6 hvq hvp
                    obtain ⟨P, rfl, hPn, hPh⟩ := hvp
                    simp only [Act.put, List.setIfInBounds_toArray, List.set_cons_succ, List.set_cons_zero, List.drop_succ_cons, List.drop_zero]
                    have isP : ∀ j, j < 3 → (w6.cell? ⟨P, 0 + j, none⟩).isSome = true := fun j hj => by
                      rw [cell_of_row _ _ _ _ _ _ hPh]
                      match j, hj with
                      | 0, _ => rfl
                      | 1, _ => rfl
                      | 2, _ => rfl
                    have frP : ∀ j, j < 3 → w6.frozen? ⟨P, 0 + j, none⟩ = false := fun j hj => by
                      unfold World.frozen?
                      rw [hPh]
                      simp
                    refine wpList_store_pth rfl (.tmp 15) (.tmp 108) rfl P 0 (.bool true) (.int .i64 y2) (.string B1) rfl rfl isP frP (by simp [Value.oneCell']) ?_
                    refine wpList_nil ?_
                    simp only [Act.put]
                    have HP7 := Lib.hid (Vit.Paths.setOther (c := P) (p := 0) (HP5.out.below B6) (by have := HP5.out.lt; omega) [.bool true, .int .i64 y2, .string B1])
                    have HQ7 := Lib.hid (Vit.Paths.setOther (c := P) (p := 0) (HQ5.out.below B6) (by omega) [.bool true, .int .i64 y2, .string B1])
                    have HB7 := Lib.hid (Vit.below_set3 (p := 0) (bt HB5.out B6) (show w.heap.size ≤ P by have := HB5.out.size; omega) (.bool true) (.int .i64 y2) (.string B1))
                    have pc0 : (w6.setCells P 0 [.bool true, .int .i64 y2, .string B1]).cell? ⟨P, 0, none⟩ = some (.bool true) := by
                      show (((w6.setCell ⟨P, 0, none⟩ _).setCell ⟨P, 1, none⟩ _).setCell ⟨P, 2, none⟩ _).cell? _ = _
                      rw [World.cell?_setCell_other (h := addr_off (by omega)), World.cell?_setCell_other (h := addr_off (by omega)), World.cell?_setCell_same' _ _ _ (isP 0 (by omega))]
                    have pc1 : (w6.setCells P 0 [.bool true, .int .i64 y2, .string B1]).cell? ⟨P, 1, none⟩ = some (.int .i64 y2) := by
                      show (((w6.setCell ⟨P, 0, none⟩ _).setCell ⟨P, 1, none⟩ _).setCell ⟨P, 2, none⟩ _).cell? _ = _
                      rw [World.cell?_setCell_other (h := addr_off (by omega)), World.cell?_setCell_same' _ _ _ (by rw [World.cell?_setCell_other (h := addr_off (by omega))]; exact isP 1 (by omega))]
                    have pc2 : (w6.setCells P 0 [.bool true, .int .i64 y2, .string B1]).cell? ⟨P, 2, none⟩ = some (.string B1) := by
                      show (((w6.setCell ⟨P, 0, none⟩ _).setCell ⟨P, 1, none⟩ _).setCell ⟨P, 2, none⟩ _).cell? _ = _
                      rw [World.cell?_setCell_same' _ _ _ (by rw [World.cell?_setCell_other (h := addr_off (by omega)), World.cell?_setCell_other (h := addr_off (by omega))]; exact isP 2 (by omega))]
                    obtain ⟨w7, hw7⟩ : ∃ w7, w6.setCells P 0 [.bool true, .int .i64 y2, .string B1] = w7 := ⟨_, rfl⟩
                    rw [hw7] at HP7 HQ7 HB7 pc0 pc1 pc2 ⊢
                    have t9 : (t' : Int) < 64 := by omega
                    obtain ⟨⟨qa, _⟩, ⟨qb, _⟩, qc, _⟩ := HQ7.out.2 t' t64
                    have h0 := HF0.out t' t64 rfl
                    have LW2 := Lib.hid (fun c (hc : F t' = some c) => LW.out c (HFL.out t' t64 c hc))
                    clear hw7 isP frP hPh hPn B6 HP5 HQ5 HB5 HH hvq hx1 hx2 zo1 zo2 hp1 hp2 pb1 pb2 hy1 hy12 yb hjj sB0 hB1 HF0 LW HFL
                    have OTH := Lib.hid (fun (e' : Option (List Cv.Bit)) (he' : Vit.Best f (Vit.Prt m8 i (2 * s + b + 1) t') e') => show ∀ t, t < 64 → Vit.Best f (Vit.Prt m8 i (2 * s + (b + 1)) t) (if t = t' then e' else F t) from fun t ht => by
                      by_cases q : t = t'
                      · rw [if_pos q, q]; exact he'
                      · rw [if_neg q]; exact HFO.out t ht (fun h => q h.symm))
                    obtain ⟨ef, hef⟩ : ∃ e, F t' = e := ⟨_, rfl⟩
                    rw [hef] at qa qb qc h0
                    cases ef with
                    | none =>
                      have qa' : w7.cell? ⟨nb, t' * 3, none⟩ = some (.bool false) := qa
                      have HF2 := Lib.hid (OTH.out _ (h0.2 (.inl rfl)))
                      clear qa qb qc h0 HFO OTH hef LW2
                      go_wp2_with fail
                      go_quiet (fail)
                      have HP8 := Lib.hid (Vit.Paths.drewN HP7.out nq)
                      have HQ8 := Lib.hid (Vit.Paths.drewN HQ7.out nq)
                      have HB8 := Lib.hid (below_drewN HB7.out nq)
                      have pd0 : (w7.drewN nq).cell? ⟨P, 0, none⟩ = some (.bool true) := pc0
                      have pd1 : (w7.drewN nq).cell? ⟨P, 1, none⟩ = some (.int .i64 y2) := pc1
                      have pd2 : (w7.drewN nq).cell? ⟨P, 2, none⟩ = some (.string B1) := pc2
                      obtain ⟨w8, hw8⟩ : ∃ w8, w7.drewN nq = w8 := ⟨_, rfl⟩
                      rw [hw8] at HP8 HQ8 HB8 pd0 pd1 pd2 ⊢
                      clear hw8 HP7 HQ7 HB7 pc0 pc1 pc2 qa'
                      have PQ := HQ8.out.put t' t64 (some (b0 ++ [⟨b, hlb⟩]))
                      rw [EC.out] at PQ
                      have HPQ := Lib.hid PQ
                      have HPP := Lib.hid (Vit.Paths.setOther (c := nb) (p := t' * 3) HP8.out (by omega) [.bool true, .int .i64 y2, .string B1])
                      have HPB := Lib.hid (Vit.below_set3 (b := nb) (p := t' * 3) HB8.out WS.out (.bool true) (.int .i64 y2) (.string B1))
                      have IS := Lib.hid (HQ8.out.isSome t64)
                      have FR := Lib.hid (HQ8.out.frees t64)
                      clear PQ EC HP8 HQ8 HB8
                      go_wp2_with (refine wpList_store_pth rfl (.tmp 148) (.tmp 147) rfl nb (t' * 3) (.bool true) (.int .i64 y2) (.string B1) rfl rfl IS.out FR.out (by simp [Value.oneCell']) ?_)
                      go_roundw
                      case rel => exact ⟨b + 1, _, by omega, by go_num, HPP.out, HPQ.out, HF2.out, HPB.out⟩
                      case measure => simp [intOf]; omega
                    | some c =>
                      have qa' : w7.cell? ⟨nb, t' * 3, none⟩ = some (.bool true) := qa
                      have qb' : w7.cell? ⟨nb, t' * 3 + 1, none⟩ = some (.int .i64 (Vit.ws f c)) := qb
                      have qc' : w7.cell? ⟨nb, t' * 3 + 2, none⟩ = some (.string (Vit.strB c)) := qc
                      have lw := LW2.out c hef
                      have KEEP := Lib.hid (fun (he' : Vit.Best f (Vit.Prt m8 i (2 * s + b + 1) t') (some c)) => show ∀ t, t < 64 → Vit.Best f (Vit.Prt m8 i (2 * s + (b + 1)) t) (F t) from fun t ht => by
                        by_cases q : t = t'
                        · rw [q, hef]; exact he'
                        · exact HFO.out t ht (fun h => q h.symm))
                      obtain ⟨yc, hyc⟩ : ∃ z, Vit.ws f c = z := ⟨_, rfl⟩
                      obtain ⟨Bc, hBc⟩ : ∃ z, Vit.strB c = z := ⟨_, rfl⟩
                      rw [hyc] at qb'
                      rw [hBc] at qc' lw
                      have H0 := Lib.hid h0
                      have HYC := Lib.hid hyc
                      clear qa qb qc h0 HFO hef LW2 hyc hBc
                      by_cases g1 : yc < y2
                      · have d1 : decide (yc < y2) = true := by simp; omega
                        have HF2 := Lib.hid (OTH.out _ (H0.out.2 (.inr ⟨c, rfl, .inl (by rw [HYC.out]; exact g1)⟩)))
                        clear H0 HYC OTH KEEP lw
                        go_wp2_with fail
                        go_quiet (fail)
                        have HP8 := Lib.hid (Vit.Paths.drewN HP7.out nq)
                        have HQ8 := Lib.hid (Vit.Paths.drewN HQ7.out nq)
                        have HB8 := Lib.hid (below_drewN HB7.out nq)
                        have pd0 : (w7.drewN nq).cell? ⟨P, 0, none⟩ = some (.bool true) := pc0
                        have pd1 : (w7.drewN nq).cell? ⟨P, 1, none⟩ = some (.int .i64 y2) := pc1
                        have pd2 : (w7.drewN nq).cell? ⟨P, 2, none⟩ = some (.string B1) := pc2
                        obtain ⟨w8, hw8⟩ : ∃ w8, w7.drewN nq = w8 := ⟨_, rfl⟩
                        rw [hw8] at HP8 HQ8 HB8 pd0 pd1 pd2 ⊢
                        clear hw8 HP7 HQ7 HB7 pc0 pc1 pc2 qa'
                        have PQ := HQ8.out.put t' t64 (some (b0 ++ [⟨b, hlb⟩]))
                        rw [EC.out] at PQ
                        have HPQ := Lib.hid PQ
                        have HPP := Lib.hid (Vit.Paths.setOther (c := nb) (p := t' * 3) HP8.out (by omega) [.bool true, .int .i64 y2, .string B1])
                        have HPB := Lib.hid (Vit.below_set3 (b := nb) (p := t' * 3) HB8.out WS.out (.bool true) (.int .i64 y2) (.string B1))
                        have IS := Lib.hid (HQ8.out.isSome t64)
                        have FR := Lib.hid (HQ8.out.frees t64)
                        clear PQ EC HP8 HQ8 HB8
                        go_wp2_with (refine wpList_store_pth rfl (.tmp 148) (.tmp 147) rfl nb (t' * 3) (.bool true) (.int .i64 y2) (.string B1) rfl rfl IS.out FR.out (by simp [Value.oneCell']) ?_)
                        go_roundw
                        case rel => exact ⟨b + 1, _, by omega, by go_num, HPP.out, HPQ.out, HF2.out, HPB.out⟩
                        case measure => simp [intOf]; omega
                      · have d1 : decide (yc < y2) = false := by simp; omega
                        by_cases g2 : y2 = yc
                        · subst g2
                          have d2 : (y2 == y2) = true := by simp
                          by_cases g3 : Vit.val (b0 ++ [⟨b, hlb⟩]) < Vit.val c
                          · rw [decide_eq_true g3] at lw
                            have HF2 := Lib.hid (OTH.out _ (H0.out.2 (.inr ⟨c, rfl, .inr ⟨by rw [HYC.out], g3⟩⟩)))
                            clear H0 HYC OTH KEEP g3 g1
                            go_wp2_with fail
                            go_quiet (fail)
                            have HP8 := Lib.hid (Vit.Paths.drewN HP7.out nq)
                            have HQ8 := Lib.hid (Vit.Paths.drewN HQ7.out nq)
                            have HB8 := Lib.hid (below_drewN HB7.out nq)
                            have pd0 : (w7.drewN nq).cell? ⟨P, 0, none⟩ = some (.bool true) := pc0
                            have pd1 : (w7.drewN nq).cell? ⟨P, 1, none⟩ = some (.int .i64 y2) := pc1
                            have pd2 : (w7.drewN nq).cell? ⟨P, 2, none⟩ = some (.string B1) := pc2
                            obtain ⟨w8, hw8⟩ : ∃ w8, w7.drewN nq = w8 := ⟨_, rfl⟩
                            rw [hw8] at HP8 HQ8 HB8 pd0 pd1 pd2 ⊢
                            clear hw8 HP7 HQ7 HB7 pc0 pc1 pc2 qa'
                            have PQ := HQ8.out.put t' t64 (some (b0 ++ [⟨b, hlb⟩]))
                            rw [EC.out] at PQ
                            have HPQ := Lib.hid PQ
                            have HPP := Lib.hid (Vit.Paths.setOther (c := nb) (p := t' * 3) HP8.out (by omega) [.bool true, .int .i64 y2, .string B1])
                            have HPB := Lib.hid (Vit.below_set3 (b := nb) (p := t' * 3) HB8.out WS.out (.bool true) (.int .i64 y2) (.string B1))
                            have IS := Lib.hid (HQ8.out.isSome t64)
                            have FR := Lib.hid (HQ8.out.frees t64)
                            clear PQ EC HP8 HQ8 HB8
                            go_wp2_with (refine wpList_store_pth rfl (.tmp 148) (.tmp 147) rfl nb (t' * 3) (.bool true) (.int .i64 y2) (.string B1) rfl rfl IS.out FR.out (by simp [Value.oneCell']) ?_)
                            go_roundw
                            case rel => exact ⟨b + 1, _, by omega, by go_num, HPP.out, HPQ.out, HF2.out, HPB.out⟩
                            case measure => simp [intOf]; omega
                          · rw [decide_eq_false g3] at lw
                            have HF2 := Lib.hid (KEEP.out (H0.out.1 c rfl (by rw [HYC.out]; omega)))
                            clear H0 HYC OTH KEEP g3 g1
                            go_wp2_with fail
                            go_quiet (fail)
                            have HP8 := Lib.hid (Vit.Paths.drewN HP7.out nq)
                            have HQ8 := Lib.hid (Vit.Paths.drewN HQ7.out nq)
                            have HB8 := Lib.hid (below_drewN HB7.out nq)
                            have pd0 : (w7.drewN nq).cell? ⟨P, 0, none⟩ = some (.bool true) := pc0
                            have pd1 : (w7.drewN nq).cell? ⟨P, 1, none⟩ = some (.int .i64 y2) := pc1
                            have pd2 : (w7.drewN nq).cell? ⟨P, 2, none⟩ = some (.string B1) := pc2
                            obtain ⟨w8, hw8⟩ : ∃ w8, w7.drewN nq = w8 := ⟨_, rfl⟩
                            rw [hw8] at HP8 HQ8 HB8 pd0 pd1 pd2 ⊢
                            clear hw8 HP7 HQ7 HB7 pc0 pc1 pc2 qa'
                            clear pd0 pd1 pd2 EC
                            go_wp2_with fail
                            go_roundw
                            case rel => exact ⟨b + 1, F, by omega, by go_num, HP8.out, HQ8.out, HF2.out, HB8.out⟩
                            case measure => simp [intOf]; omega
                        · have d2 : (y2 == yc) = false := by simp; omega
                          have HF2 := Lib.hid (KEEP.out (H0.out.1 c rfl (by rw [HYC.out]; omega)))
                          clear H0 HYC OTH KEEP lw g1 g2
                          go_wp2_with fail
                          go_quiet (fail)
                          have HP8 := Lib.hid (Vit.Paths.drewN HP7.out nq)
                          have HQ8 := Lib.hid (Vit.Paths.drewN HQ7.out nq)
                          have HB8 := Lib.hid (below_drewN HB7.out nq)
                          have pd0 : (w7.drewN nq).cell? ⟨P, 0, none⟩ = some (.bool true) := pc0
                          have pd1 : (w7.drewN nq).cell? ⟨P, 1, none⟩ = some (.int .i64 y2) := pc1
                          have pd2 : (w7.drewN nq).cell? ⟨P, 2, none⟩ = some (.string B1) := pc2
                          obtain ⟨w8, hw8⟩ : ∃ w8, w7.drewN nq = w8 := ⟨_, rfl⟩
                          rw [hw8] at HP8 HQ8 HB8 pd0 pd1 pd2 ⊢
                          clear hw8 HP7 HQ7 HB7 pc0 pc1 pc2 qa'
                          clear pd0 pd1 pd2 EC
                          go_wp2_with fail
                          go_roundw
                          case rel => exact ⟨b + 1, F, by omega, by go_num, HP8.out, HQ8.out, HF2.out, HB8.out⟩
                          case measure => simp [intOf]; omega
            · have t3 : decide ((b : Int) < 2) = false := by simp; omega
              have HF2 := Lib.hid (show ∀ t, t < 64 → Vit.Best f (Vit.Prt m8 i (2 * (s + 1)) t) (F t) by rw [show 2 * (s + 1) = 2 * s + b by omega]; exact HF.out)
              clear HF
              go_wp2_with fail
              go_roundw
              case rel => exact ⟨s + 1, F, by omega, by go_num, HP.out, HQ.out, HF2.out, HB.out⟩
              case measure => simp [intOf]; omega
        · have t2 : decide ((s : Int) < 64) = false := by simp; omega
          have HF2 := Lib.hid (show ∀ t, t < 64 → Vit.Best f (Vit.Pth m8 (i + 1) t) (F t) from fun t ht => (HF.out t ht).congr (fun c => by rw [show 2 * s = 128 by omega]; exact Vit.prt_all m8 i t c))
          clear HF HP
          go_wp2_with fail
          go_roundw
          case rel => exact ⟨i + 1, nb, F, by omega, by go_num, rfl, HQ.out, HF2.out, by have := WS.out; omega, HB.out⟩
          case measure => simp [intOf]; omega
    · have t1 : decide ((i : Int) < (M : Int)) = false := by simp; omega
      have HI := Lib.hid (show i = M by omega)
      have hM := HI.out
      have h0 : Vit.Best f (Vit.Pth (8 * n) (8 * n + 6) 0) (E 0) := by
        have := HE.out 0 (by omega)
        rwa [hM, ← MM.out, ← M8.out] at this
      obtain ⟨b, hb⟩ := Vit.best_some h0
      rw [hb] at h0
      obtain ⟨⟨ca, _⟩, ⟨cb, _⟩, cc, _⟩ := HP.out.2 0 (by omega)
      rw [hb] at cb cc
      have cb' : wr.cell? ⟨bb, 1, none⟩ = some (.int .i64 (Vit.ws f b)) := cb
      have cc' : wr.cell? ⟨bb, 2, none⟩ = some (.string (Vit.strB b)) := cc
      have hlen : b.length = 8 * n + 6 := h0.1.1
      have BYT := Lib.hid (fun w => rbytes_any (Vit.strB b) (8 * n + 6) n (Cv.gl b) (by rw [Vit.strB_size, hlen]) (by omega) hn (Cv.gl_lt b) (fun j hj => Vit.strB_co b j (by omega)) w)
      have sD : (⟨(Gal.coefs (Vit.byt (Cv.gl b)) n).toArray⟩ : ByteArray).size = n := coefs_size _ _
      obtain ⟨D, hD⟩ : ∃ D : ByteArray, (⟨(Gal.coefs (Vit.byt (Cv.gl b)) n).toArray⟩ : ByteArray) = D := ⟨_, rfl⟩
      have TP := Vit.best_top h0 (Gal.co D.data.toList) (fun j hj => by
        rw [← Vit.byt_mb (Cv.gl_lt b) n j hj, ← hD]
        show Cv.mb (Gal.co (Gal.coefs (Vit.byt (Cv.gl b)) n)) n j = _
        unfold Cv.mb
        rw [if_pos hj, if_pos hj, Gal.co_coefs, if_pos (by omega)])
      rw [hD] at BYT sD
      rw [TP.2] at cb'
      have Q := Lib.hid (show DecA zs (n : Int) (.returned (.tuple #[.string D, .int .i64 (Vit.msum f n (Gal.co D.data.toList)), .int .i64 0])) by
        unfold DecA
        rw [if_pos ⟨by omega, by omega, by have := MN.out; have := MM.out; have := M8.out; rw [LZ.out]; omega, by rw [softOk_iff, LZ.out]; exact SF.out⟩]
        exact ⟨D, by rw [sD]; omega, by rw [FE.out]; exact TP.1, by rw [FE.out]; rfl⟩)
      obtain ⟨y, hy⟩ : ∃ z, Vit.msum f n (Gal.co D.data.toList) = z := ⟨_, rfl⟩
      obtain ⟨B0, hB0⟩ : ∃ z, Vit.strB b = z := ⟨_, rfl⟩
      rw [hy] at cb' Q
      rw [hB0] at cc' BYT
      clear hM h0 hb ca cb cc hlen sD hD TP hy hB0 HE SF HC FZ FE MN M8 MM ST hi0 hz0 hz1 hz2
      go_upto_region 21 with fail
      refine wayEnd bb n y B0 D HP.out.lt cb' cc' (fun w => BYT.out w) (by kernel_rfl) rfl rfl rfl rfl rfl rfl rfl rfl rfl rfl rfl rfl rfl rfl rfl rfl rfl ?_
      intro w9 B9
      simp only [Act.put, List.setIfInBounds_toArray, List.set_cons_succ, List.set_cons_zero]
      have BF := Lib.hid (bt HB.out B9)
      go_wp2_with fail
      go_ret3
      exact ⟨Q.out, BF.out⟩
end Go.Proofs.Ytgfihljledmaaaa
