/- TmLFills -/
import Derived.Test.YtgcjfiablcjfgaaTpShown
import Derived.Test.YtgcjfiablcjfgaaTmArg
import Derived.Test.YtgcjfiablcjfgaaTmFlR
import Derived.ProofKit
/- TmframeFills: both fillers return the same for every sequence of calls. No condition. -/
namespace Go.Proofs.Ytgcjfiablcjfgaa
open Go.ChangeShapes Go.WideShapes Go.ChangeAt Go.RowKit
set_option linter.unusedVariables false

namespace tmframeFills
theorem PX.n0 {w : World} {n0 X n : Nat} {s : Tm.Fl} (h : PX w n0 X n s) : n0 ≤ w.heap.size := by
  obtain ⟨va, vb, B, G, r, h1, h2⟩ := h
  exact Nat.le_trans h1.xl (Nat.le_of_lt h1.ty.lt)
theorem PY.n0 {w : World} {n0 Y n : Nat} {s : Tm.Fl} (h : PY w n0 Y n s) : n0 ≤ w.heap.size := by
  obtain ⟨sv, L, h1, h2⟩ := h
  exact Nat.le_trans h1.rl (Nat.le_of_lt h1.ty.lt)
theorem op_new : ∀ j, j < 2 → (#[.int .i64 0, .string ⟨#[]⟩] : Array Value)[j]? = some (opCel ⟨0, ⟨#[]⟩⟩ j) := fun j hj => by
  match j, hj with
  | 0, _ => rfl
  | 1, _ => rfl
theorem op_list (q : OpA) : ∀ j, j < 2 → ([.int .i64 q.k, .string q.p] : List Value)[j]? = some (opCel q j) := fun j hj => by
  match j, hj with
  | 0, _ => rfl
  | 1, _ => rfl
theorem alloc_op {ev : Operand → Value} {o : Oper} {w : World} (h : o.op = .alloc 52) : (execOp ev o).run Try.prog w = .ok (.value (.pointer (some ⟨w.heap.size, 0, none⟩))) (w.alloc (.cells #[.int .i64 0, .string ⟨#[]⟩] 52)) := by
  simp only [execOp, h]; go_simp
theorem info_op : (Try.prog.info? 52).map (·.size) = some 2 := by kernel_rfl
/-- Both fillers in turn given a packet. -/
structure TfW (w : World) (nx ny X Y V n : Nat) (s : Tm.Fl) (q : OpA) (a b : Bool) (w' : World) : Prop where
  px : PX w' nx X n (cond a (asS s q.p) s)
  py : PY w' ny Y n (cond b (asS s q.p) s)
  ce : Cel w' V 2 (opCel q)
  ty : TyB w' V 52
  bl : Below w.heap.size w w'
  n1 : nx ≤ w'.heap.size
  n2 : ny ≤ w'.heap.size
section
variable {w w' : World} {nx ny X Y V n : Nat} {s : Tm.Fl} {q : OpA}
theorem TfW.start (h1 : PX w' nx X n s) (h2 : PY w' ny Y n s) (h3 : Cel w' V 2 (opCel q)) (h4 : TyB w' V 52) (h5 : Below w.heap.size w w') (h6 : nx ≤ w'.heap.size) (h7 : ny ≤ w'.heap.size) : TfW w nx ny X Y V n s q false false w'.drew :=
  have hb : Below w'.heap.size w' w'.drew := (Below.refl _ _).drew
  ⟨h1.below hb, h2.below hb, h3.below hb, h4.of_block (hb.block _ h4.lt), bt h5 hb, h6, h7⟩
theorem TfW.cv {a b : Bool} (h : TfW w nx ny X Y V n s q a b w') : w'.cell? ⟨V, 1, none⟩ = some (.string q.p) := h.ce.cell (j := 1) (by omega)
theorem TfW.stepX {b : Bool} (h : TfW w nx ny X Y V n s q false b w') (g : Gd s) (hx : w.heap.size ≤ nx) (hp : q.p.size ≤ 2000) :
    Calls Try.prog 17 #[.pointer (some ⟨X, 0, none⟩), .string q.p] w' fun e w2 => e = .returned (.int .i64 (acV s q.p)) ∧ TfW w nx ny X Y V n s q true b w2 := by
  refine (xadd (show PX w' nx X n s from h.px) g h.n1 q.p hp).mono ?_
  rintro e w2 ⟨rfl, p, k⟩
  exact ⟨rfl, p, h.py.kp k (by decide) (by decide), h.ce.kp h.ty k (by decide), h.ty.of_block (h.ty.keep k (by decide)), h.bl.trans (k.below.mono hx), Nat.le_trans h.n1 k.below.size, Nat.le_trans h.n2 k.below.size⟩
theorem TfW.stepY {a : Bool} (h : TfW w nx ny X Y V n s q a false w') (g : Gd s) (hy : w.heap.size ≤ ny) (hp : q.p.size ≤ 2000) :
    Calls Try.prog 24 #[.pointer (some ⟨Y, 0, none⟩), .string q.p] w' fun e w2 => e = .returned (.int .i64 (acV s q.p)) ∧ TfW w nx ny X Y V n s q a true w2 := by
  refine (yadd (show PY w' ny Y n s from h.py) g h.n2 q.p hp).mono ?_
  rintro e w2 ⟨rfl, p, k⟩
  exact ⟨rfl, h.px.kp k (by decide) (by decide) (by decide), p, h.ce.kp h.ty k (by decide), h.ty.of_block (h.ty.keep k (by decide)), h.bl.trans (k.below.mono hy), Nat.le_trans h.n1 k.below.size, Nat.le_trans h.n2 k.below.size⟩
end
set_option maxRecDepth 100000 in
set_option maxHeartbeats 16000000 in
theorem walk_long (k : Int) (a : Option Addr) (cap : Nat) (l : List OpA) (h1 : l.length ≤ cap) (h2 : cap ≤ maxLen) (hl : 150 < l.length) (w : World) (R : Ops w a l) : Calls Try.prog 5 #[.int .i64 k, .slice a l.length cap] w fun e w' => e = .returned (.bool true) ∧ Below w.heap.size w w' := by
  have SH := Lib.hid (fun w => tshown_any w)
  have t1 : decide (150 < (l.length : Int)) = true := decide_eq_true (by omega)
  have t1n : decide (150 < l.length) = true := decide_eq_true hl
  go_enter Try.func5, Try.ntmps5
  go_wp2_with fail
  (with_reducible refine (SH.out _).mono ?_)
  rintro e w1 ⟨rfl, h1⟩
  have B1 := Lib.hid h1
  clear h1
  go_wp2_with fail
  go_ret
  exact ⟨rfl, B1.out⟩
set_option maxRecDepth 100000 in
set_option maxHeartbeats 16000000 in
theorem walk_bad (k : Int) (hk : ¬ (32 ≤ k ∧ k ≤ 200)) (a : Option Addr) (cap : Nat) (l : List OpA) (h1 : l.length ≤ cap) (h2 : cap ≤ maxLen) (hl : l.length ≤ 150) (w : World) (R : Ops w a l) : Calls Try.prog 5 #[.int .i64 k, .slice a l.length cap] w fun e w' => e = .returned (.bool true) ∧ Below w.heap.size w w' := by
  have SH := Lib.hid (fun w => tshown_any w)
  have FNIL := Lib.hid (fun w => tnext_nil w)
  have MD : Hid (∀ w : World, Calls Try.prog 18 #[.int .i64 7] w fun e w' => e = .returned (.string (bs (mk 7))) ∧ Below w.heap.size w w') := Lib.hid (fun w => lmade_any 7 (by omega) (by omega) w)
  obtain ⟨M, hM⟩ : ∃ M, bs (mk 7) = M := ⟨_, rfl⟩
  rw [hM] at MD
  clear hM
  have ADN := Lib.hid (fun w => tAdd_nil M w)
  have WN := Lib.hid (fun w => twaiting_nil w)
  obtain ⟨N, hN⟩ : ∃ N, l.length = N := ⟨_, rfl⟩
  have NX := Lib.hid (fun w => tnew_no k hk w)
  have NY := Lib.hid (fun w => rtnew_no k (by omega) w)
  rw [hN] at hl ⊢
  have t1 : decide (150 < (N : Int)) = false := decide_eq_false (by omega)
  have t1n : decide (150 < N) = false := decide_eq_false (by omega)
  clear h1 h2 hk hl hN R
  go_enter Try.func5, Try.ntmps5
  go_wp2_with fail
  (with_reducible refine (SH.out _).mono ?_)
  rintro e w1 ⟨rfl, h1⟩
  have B1 := Lib.hid h1
  go_wp2_with fail
  (with_reducible refine (NX.out _).mono ?_)
  rintro e w2 ⟨rfl, rfl⟩
  go_wp2_with fail
  (with_reducible refine (NY.out _).mono ?_)
  rintro e w3 ⟨rfl, rfl⟩
  have B3 := B1
  clear h1
  go_wp2_with ((with_reducible refine atList ?_); refine wpList_newT rfl (.box 45 (.tmp 50)) rfl (some 51) rfl #[.slice none 0 0, .slice none 0 0, .pointer none, .int .i64 0, .int .i64 0] 45 (fun X => .pointer (some ⟨X, 0, none⟩)) 5 _ (pf_new 0) (box_pf rfl rfl) ?_; intro Z w4 HZ SZ CZ BZ TZ)
  have cz : w4.cell? ⟨Z, 2, none⟩ = some (.pointer none) := CZ.out.cell (j := 2) (by omega)
  have CZ2 := Lib.hid cz
  have B4 := Lib.hid (bt B3.out BZ.out)
  (with_reducible refine (FNIL.out _).mono ?_)
  rintro e w' ⟨rfl, rfl⟩
  go_wp2_with fail
  (refine (tnext_zero cz).mono ?_)
  rintro e w' ⟨rfl, rfl⟩
  clear cz
  go_wp2_with fail
  (refine (MD.out _).mono ?_)
  rintro e w5 ⟨rfl, h5⟩
  have B5 := Lib.hid (bt B4.out h5)
  have H5 := Lib.hid h5
  clear h5
  go_wp2_with fail
  (refine (ADN.out _).mono ?_)
  rintro e w' ⟨rfl, rfl⟩
  go_wp2_with fail
  (refine (MD.out _).mono ?_)
  rintro e w6 ⟨rfl, h6⟩
  have B6 := Lib.hid (bt B5.out h6)
  have H6 := Lib.hid (bt H5.out h6)
  clear h6
  go_wp2_with fail
  (refine (tAdd_zero ((H6.out.cell (p := ⟨Z, 2, none⟩) (World.block_lt_of_cell? _ _ CZ2.out)).trans CZ2.out) M).mono ?_)
  rintro e w' ⟨rfl, rfl⟩
  go_wp2_with fail
  (with_reducible refine (WN.out _).mono ?_)
  rintro e w' ⟨rfl, rfl⟩
  go_wp2_with fail
  go_ret
  exact ⟨rfl, B6.out⟩
set_option maxRecDepth 100000 in
set_option maxHeartbeats 16000000 in
theorem walk_ok (n : Nat) (hn : 32 ≤ n ∧ n ≤ 200) (a : Option Addr) (cap : Nat) (l : List OpA) (h1 : l.length ≤ cap) (h2 : cap ≤ maxLen) (hl : l.length ≤ 150) (w : World) (R : Ops w a l) : Calls Try.prog 5 #[.int .i64 (n : Nat), .slice a l.length cap] w fun e w' => e = .returned (.bool true) ∧ Below w.heap.size w w' := by
  have SH := Lib.hid (fun w => tshown_any w)
  have FNIL := Lib.hid (fun w => tnext_nil w)
  have MD : Hid (∀ w : World, Calls Try.prog 18 #[.int .i64 7] w fun e w' => e = .returned (.string (bs (mk 7))) ∧ Below w.heap.size w w') := Lib.hid (fun w => lmade_any 7 (by omega) (by omega) w)
  obtain ⟨M, hM⟩ : ∃ M, bs (mk 7) = M := ⟨_, rfl⟩
  rw [hM] at MD
  clear hM
  have ADN := Lib.hid (fun w => tAdd_nil M w)
  have WN := Lib.hid (fun w => twaiting_nil w)
  obtain ⟨N, hN⟩ : ∃ N, l.length = N := ⟨_, rfl⟩
  have NX := Lib.hid (fun w => tnew_any n hn.1 hn.2 w)
  have NY := Lib.hid (fun w => rtnew_any n hn.1 hn.2 w)
  have HNN := Lib.hid hn
  have HN := Lib.hid hN
  have HR0 := Lib.hid R
  rw [hN] at hl ⊢
  have t1 : decide (150 < (N : Int)) = false := decide_eq_false (by omega)
  have t1n : decide (150 < N) = false := decide_eq_false (by omega)
  clear h1 h2 hN R hn
  go_enter Try.func5, Try.ntmps5
  go_wp2_with fail
  (with_reducible refine (SH.out _).mono ?_)
  rintro e w1 ⟨rfl, h1⟩
  have B1 := Lib.hid h1
  go_wp2_with fail
  (refine (NX.out _).mono ?_)
  rintro e w2 ⟨X, rfl, P2, h2⟩
  have PX2 := Lib.hid (show PX w2 w1.heap.size X n s0 from ⟨_, _, _, _, _, P2, Tm.Rel.start⟩)
  have B2 := Lib.hid (bt B1.out h2)
  clear P2
  go_wp2_with fail
  (refine (NY.out _).mono ?_)
  rintro e w3 ⟨Y, rfl, Q3, h3⟩
  have PX3 := Lib.hid (PX2.out.below h3)
  have PY3 := Lib.hid (show PY w3 w2.heap.size Y n s0 from ⟨_, [], Q3, rfl⟩)
  have B3 := Lib.hid (bt B2.out h3)
  have NXW := Lib.hid (show w1.heap.size ≤ w3.heap.size from Nat.le_trans h2.size h3.size)
  have NYW := Lib.hid h3.size
  clear Q3 h2 h3
  clear h1
  go_wp2_with ((with_reducible refine atList ?_); refine wpList_newT rfl (.box 45 (.tmp 50)) rfl (some 51) rfl #[.slice none 0 0, .slice none 0 0, .pointer none, .int .i64 0, .int .i64 0] 45 (fun X => .pointer (some ⟨X, 0, none⟩)) 5 _ (pf_new 0) (box_pf rfl rfl) ?_; intro Z w4 HZ SZ CZ BZ TZ)
  have cz : w4.cell? ⟨Z, 2, none⟩ = some (.pointer none) := CZ.out.cell (j := 2) (by omega)
  have CZ2 := Lib.hid cz
  have B4 := Lib.hid (bt B3.out BZ.out)
  (with_reducible refine (FNIL.out _).mono ?_)
  rintro e w' ⟨rfl, rfl⟩
  go_wp2_with fail
  (refine (tnext_zero cz).mono ?_)
  rintro e w' ⟨rfl, rfl⟩
  clear cz
  go_wp2_with fail
  (refine (MD.out _).mono ?_)
  rintro e w5 ⟨rfl, h5⟩
  have B5 := Lib.hid (bt B4.out h5)
  have H5 := Lib.hid h5
  clear h5
  go_wp2_with fail
  (refine (ADN.out _).mono ?_)
  rintro e w' ⟨rfl, rfl⟩
  go_wp2_with fail
  (refine (MD.out _).mono ?_)
  rintro e w6 ⟨rfl, h6⟩
  have B6 := Lib.hid (bt B5.out h6)
  have H6 := Lib.hid (bt H5.out h6)
  clear h6
  go_wp2_with fail
  (refine (tAdd_zero ((H6.out.cell (p := ⟨Z, 2, none⟩) (World.block_lt_of_cell? _ _ CZ2.out)).trans CZ2.out) M).mono ?_)
  rintro e w' ⟨rfl, rfl⟩
  go_wp2_with fail
  (with_reducible refine (WN.out _).mono ?_)
  rintro e w' ⟨rfl, rfl⟩
  have PX6 := Lib.hid ((PX3.out.below BZ.out).below H6.out)
  have PY6 := Lib.hid ((PY3.out.below BZ.out).below H6.out)
  obtain ⟨nx, hnx⟩ : ∃ nx, w1.heap.size = nx := ⟨_, rfl⟩
  obtain ⟨ny, hny⟩ : ∃ ny, w2.heap.size = ny := ⟨_, rfl⟩
  have WNX := Lib.hid (show w.heap.size ≤ nx by rw [← hnx]; exact B1.out.size)
  have WNY := Lib.hid (show w.heap.size ≤ ny by rw [← hny]; exact B2.out.size)
  rw [hnx] at PX6 NXW
  rw [hny] at PY6 NYW
  have NX6 := Lib.hid (Nat.le_trans NXW.out (Nat.le_trans BZ.out.size H6.out.size))
  have NY6 := Lib.hid (Nat.le_trans NYW.out (Nat.le_trans BZ.out.size H6.out.size))
  clear hnx hny
  go_wp2_with fail
  go_loopw [17] (fun x17 wr => ∃ (i : Nat) (s : Tm.Fl), i ≤ N ∧ x17 = .int .i64 i ∧ PX wr nx X n s ∧ PY wr ny Y n s ∧ Gd s ∧ Below w.heap.size w wr ∧ nx ≤ wr.heap.size ∧ ny ≤ wr.heap.size) (fun x17 _ => N - (intOf x17).toNat)
  case atStart => exact ⟨0, s0, Nat.zero_le _, rfl, PX6.out, PY6.out, Gd.start, B6.out, NX6.out, NY6.out⟩
  case round =>
    obtain ⟨i, s, hi, rfl, hX, hY, hg, hB, hn1, hn2⟩ := hrel
    have HB := Lib.hid hB
    have HXX := Lib.hid hX
    have HYY := Lib.hid hY
    have GD := Lib.hid hg
    have NB1 := Lib.hid hn1
    have NB2 := Lib.hid hn2
    clear hB hX hY hg hn1 hn2
    by_cases hlt : i < N
    · obtain ⟨⟨kk, p⟩, hz⟩ : ∃ z, l[i]? = some z := ⟨l[i]'(by have := HN.out; omega), List.getElem?_eq_getElem (by have := HN.out; omega)⟩
      rcases HR0.out with e0 | ⟨B, off, rfl, hBl, hz2⟩
      · rw [e0] at hz; cases hz
      obtain ⟨hz3, hz4, hz5⟩ := hz2 i _ hz
      have ZR := Lib.hid (fun W (b : Below w.heap.size w W) => show W.rangeAt B (off + i * 2) [.int .i64 kk, .string p] from fun j u hu => (b.cell (p := ⟨B, off + i * 2 + j, none⟩) hBl).trans (hz3 j u hu))
      obtain ⟨z, hs⟩ : ∃ z, p.size = z := ⟨_, rfl⟩
      have PS := Lib.hid hs
      have hsm : z ≤ 9223372036854775807 := by rw [← hs]; unfold maxLen at hz5; exact Nat.le_trans hz5 (by omega)
      have KW := Lib.hid hz4
      have k0 : (0 : Int) ≤ (i : Int) := by omega
      have k1 : (i : Int) < (N : Int) := by omega
      have HI1 := Lib.hid (show i + 1 ≤ N from hlt)
      clear hz hz2 hz3 hz4 hz5 hlt hi
      go_upto_region 19 with (first
        | ((with_reducible refine atList ?_); refine wpList_load_mid rfl 52 (.tmp 107) rfl B (off + i * 2) rfl [.int .i64 kk, .string p] _ (ZR.out _ HB.out) Try.underlying52 rfl info_op ?_)
        | ((with_reducible refine atList ?_); refine wpList_newT rfl (.alloc 52) rfl (some 18) rfl #[.int .i64 0, .string ⟨#[]⟩] 52 (fun X => .pointer (some ⟨X, 0, none⟩)) 2 (opCel ⟨0, ⟨#[]⟩⟩) op_new (alloc_op rfl) ?_; intro V w12 HV SV CV12 B12 TV12)
        | ((with_reducible refine atList ?_); refine wpList_setAllT rfl 52 (.tmp 18) (.tmp 108) rfl V 2 [.int .i64 kk, .string p] _ (opCel ⟨kk, p⟩) CV12.out rfl (op_list ⟨kk, p⟩) rfl rfl info_op (by simp [Value.oneCell']) ?_; intro w13 CV13 U13 S13 V13))
      have TV13 := Lib.hid (V13.out _ TV12.out)
      have KV := Lib.hid (Kp.of_but (base := V) U13.out TV12.out (Nat.le_refl V))
      have PX13 := Lib.hid ((HXX.out.below B12.out).kp KV.out (by decide) (by decide) (by decide))
      have PY13 := Lib.hid ((HYY.out.below B12.out).kp KV.out (by decide) (by decide))
      have B13 := Lib.hid (But.under (bt HB.out B12.out) U13.out (by have := HV.out; have := HB.out.size; omega))
      have NX13 := Lib.hid (show nx ≤ w13.heap.size by rw [S13.out]; exact Nat.le_trans NB1.out B12.out.size)
      have NY13 := Lib.hid (show ny ≤ w13.heap.size by rw [S13.out]; exact Nat.le_trans NB2.out B12.out.size)
      have cv0 : w13.cell? ⟨V, 0, none⟩ = some (.int .i64 kk) := CV13.out.cell (j := 0) (by omega)
      have cv1 : w13.cell? ⟨V, 1, none⟩ = some (.string p) := CV13.out.cell (j := 1) (by omega)
      by_cases g : 2000 < z
      · have t2 : decide (2000 < (z : Int)) = true := decide_eq_true (by omega)
        have t2n : decide (2000 < z) = true := decide_eq_true g
        clear g
        go_wp2_with fail
        go_ret
        exact ⟨rfl, B13.out⟩
      · have t2 : decide (2000 < (z : Int)) = false := decide_eq_false (by omega)
        have t2n : decide (2000 < z) = false := decide_eq_false g
        have PSZ := Lib.hid (show p.size ≤ 2000 by rw [hs]; omega)
        have PK : Hid (∀ w : World, Calls Try.prog 20 #[.int .i64 kk, .int .i64 6] w fun e w' => e = .returned (.int .i64 ((kk % 6).toNat : Nat)) ∧ w = w') := Lib.hid (fun w => pick_any kk KW.out 6 (by omega) (by omega) w)
        have hk6 : (kk % 6).toNat < 6 := by omega
        obtain ⟨k6, ek⟩ : ∃ k6, (kk % 6).toNat = k6 := ⟨_, rfl⟩
        rw [ek] at PK hk6
        clear g ek
        go_wp2_with fail
        (with_reducible refine (PK.out _).mono ?_)
        rintro e w' ⟨rfl, rfl⟩
        by_cases q3 : k6 = 3
        · subst q3
          obtain ⟨a1, n1, b1, hnv⟩ : ∃ (a1 : ByteArray) (n1 : Int) (b1 : Bool), nxV n s = .tuple #[.string a1, .int .i64 n1, .bool b1] := by
            unfold nxV
            by_cases hz : Tm.wait s.q = 0
            · rw [if_pos hz]; exact ⟨_, _, _, rfl⟩
            · rw [if_neg hz]; exact ⟨_, _, _, rfl⟩
          have HNV := Lib.hid hnv
          clear hnv
          have XN := xnext PX13.out GD.out HNN.out NX13.out
          rw [HNV.out] at XN
          go_wp2_with fail
          (refine XN.mono ?_)
          rintro e w14 ⟨rfl, PX14', K14⟩
          have PX14 := Lib.hid PX14'
          have PY14 := Lib.hid (PY13.out.kp K14 (by decide) (by decide))
          have BE14 := Lib.hid (B13.out.trans (K14.below.mono WNX.out))
          have NY14 := Lib.hid (Nat.le_trans NY13.out K14.below.size)
          clear XN PX14' K14
          have YN := ynext PY14.out GD.out HNN.out NY14.out
          rw [HNV.out] at YN
          go_wp2_with fail
          (refine YN.mono ?_)
          rintro e w15 ⟨rfl, PY15', K15⟩
          have PY15 := Lib.hid PY15'
          have PX15 := Lib.hid (PX14.out.kp K15 (by decide) (by decide) (by decide))
          have BE := Lib.hid (BE14.out.trans (K15.below.mono WNY.out))
          have z1 : (a1 == a1) = true := beq_same a1
          have z2 : (a1.toList == a1.toList) = true := by simp
          have z3 : (n1 != n1) = false := by simp
          have z4 : (b1 != b1) = false := by simp
          clear YN PY15' K15
          go_wp2_with fail
          have GD2 := Lib.hid (GD.out.next HNN.out)
          (refine (xwait PX15.out GD2.out).mono ?_)
          rintro e w20 ⟨rfl, h20⟩
          have PX20 := Lib.hid ((PX15.out).below h20)
          have PY20 := Lib.hid ((PY15.out).below h20)
          have B20 := Lib.hid (bt BE.out h20)
          clear h20
          go_wp2_with fail
          (refine (ywait PY20.out GD2.out).mono ?_)
          rintro e w21 ⟨rfl, h21⟩
          have PX21 := Lib.hid (PX20.out.below h21)
          have PY21 := Lib.hid (PY20.out.below h21)
          have B21 := Lib.hid (bt B20.out h21)
          have zw : (((Tm.wait (nxS n s).q : Nat) : Int) != ((Tm.wait (nxS n s).q : Nat) : Int)) = false := by simp
          have zwn : (Tm.wait (nxS n s).q != Tm.wait (nxS n s).q) = false := by simp
          clear h21
          go_wp2_with fail
          go_roundw
          case rel => exact ⟨i + 1, nxS n s, HI1.out, by go_num, PX21.out, PY21.out, GD2.out, B21.out, PX.n0 PX21.out, PY.n0 PY21.out⟩
          case measure => simp [intOf]; have := HI1.out; omega
        · by_cases q4 : k6 = 4
          · subst q4
            obtain ⟨a1, n1, b1, hnv⟩ : ∃ (a1 : ByteArray) (n1 : Int) (b1 : Bool), nxV n s = .tuple #[.string a1, .int .i64 n1, .bool b1] := by
              unfold nxV
              by_cases hz : Tm.wait s.q = 0
              · rw [if_pos hz]; exact ⟨_, _, _, rfl⟩
              · rw [if_neg hz]; exact ⟨_, _, _, rfl⟩
            have HNV := Lib.hid hnv
            clear hnv
            have XN := xnext PX13.out GD.out HNN.out NX13.out
            rw [HNV.out] at XN
            go_wp2_with fail
            (refine XN.mono ?_)
            rintro e w14 ⟨rfl, PX14', K14⟩
            have PX14 := Lib.hid PX14'
            have PY14 := Lib.hid (PY13.out.kp K14 (by decide) (by decide))
            have BE14 := Lib.hid (B13.out.trans (K14.below.mono WNX.out))
            have NY14 := Lib.hid (Nat.le_trans NY13.out K14.below.size)
            clear XN PX14' K14
            have YN := ynext PY14.out GD.out HNN.out NY14.out
            rw [HNV.out] at YN
            go_wp2_with fail
            (refine YN.mono ?_)
            rintro e w15 ⟨rfl, PY15', K15⟩
            have PY15 := Lib.hid PY15'
            have PX15 := Lib.hid (PX14.out.kp K15 (by decide) (by decide) (by decide))
            have BE := Lib.hid (BE14.out.trans (K15.below.mono WNY.out))
            have z1 : (a1 == a1) = true := beq_same a1
            have z2 : (a1.toList == a1.toList) = true := by simp
            have z3 : (n1 != n1) = false := by simp
            have z4 : (b1 != b1) = false := by simp
            clear YN PY15' K15
            go_wp2_with fail
            have GD2 := Lib.hid (GD.out.next HNN.out)
            (refine (xwait PX15.out GD2.out).mono ?_)
            rintro e w20 ⟨rfl, h20⟩
            have PX20 := Lib.hid ((PX15.out).below h20)
            have PY20 := Lib.hid ((PY15.out).below h20)
            have B20 := Lib.hid (bt BE.out h20)
            clear h20
            go_wp2_with fail
            (refine (ywait PY20.out GD2.out).mono ?_)
            rintro e w21 ⟨rfl, h21⟩
            have PX21 := Lib.hid (PX20.out.below h21)
            have PY21 := Lib.hid (PY20.out.below h21)
            have B21 := Lib.hid (bt B20.out h21)
            have zw : (((Tm.wait (nxS n s).q : Nat) : Int) != ((Tm.wait (nxS n s).q : Nat) : Int)) = false := by simp
            have zwn : (Tm.wait (nxS n s).q != Tm.wait (nxS n s).q) = false := by simp
            clear h21
            go_wp2_with fail
            go_roundw
            case rel => exact ⟨i + 1, nxS n s, HI1.out, by go_num, PX21.out, PY21.out, GD2.out, B21.out, PX.n0 PX21.out, PY.n0 PY21.out⟩
            case measure => simp [intOf]; have := HI1.out; omega
          · have f3 : ((k6 : Int) == 3) = false := by simp; omega
            have f4 : ((k6 : Int) == 4) = false := by simp; omega
            by_cases q5 : k6 = 5
            · subst q5
              clear q3 q4
              by_cases hp : p = ⟨#[]⟩
              · have HP := Lib.hid hp
                rw [HP.out] at cv1
                have BE := B13
                clear hp
                go_wp2_with fail
                (refine (xclear PX13.out).mono ?_)
                rintro e w14 ⟨⟨v14, rfl⟩, PX14', K14⟩
                have PX14 := Lib.hid PX14'
                have PY14 := Lib.hid (PY13.out.kp K14 (by decide) (by decide))
                have BE14 := Lib.hid (B13.out.trans (K14.below.mono WNX.out))
                clear PX14' K14 BE
                go_wp2_with fail
                (refine (yclear PY14.out).mono ?_)
                rintro e w15 ⟨⟨v15, rfl⟩, PY15', K15⟩
                have PY15 := Lib.hid PY15'
                have PX15 := Lib.hid (PX14.out.kp K15 (by decide) (by decide) (by decide))
                have BE := Lib.hid (BE14.out.trans (K15.below.mono WNY.out))
                clear PY15' K15
                go_wp2_with fail
                have GD2 := Lib.hid (Gd.start)
                (refine (xwait PX15.out GD2.out).mono ?_)
                rintro e w20 ⟨rfl, h20⟩
                have PX20 := Lib.hid ((PX15.out).below h20)
                have PY20 := Lib.hid ((PY15.out).below h20)
                have B20 := Lib.hid (bt BE.out h20)
                clear h20
                go_wp2_with fail
                (refine (ywait PY20.out GD2.out).mono ?_)
                rintro e w21 ⟨rfl, h21⟩
                have PX21 := Lib.hid (PX20.out.below h21)
                have PY21 := Lib.hid (PY20.out.below h21)
                have B21 := Lib.hid (bt B20.out h21)
                have zw : (((Tm.wait (s0).q : Nat) : Int) != ((Tm.wait (s0).q : Nat) : Int)) = false := by simp
                have zwn : (Tm.wait (s0).q != Tm.wait (s0).q) = false := by simp
                clear h21
                go_wp2_with fail
                go_roundw
                case rel => exact ⟨i + 1, s0, HI1.out, by go_num, PX21.out, PY21.out, GD2.out, B21.out, PX.n0 PX21.out, PY.n0 PY21.out⟩
                case measure => simp [intOf]; have := HI1.out; omega
              · have e1 := beq_no hp
                have e2 : (p.toList == (⟨#[]⟩ : ByteArray).toList) = false := by rw [← beq_toListBytes, e1]
                have e3 : p.toList.isEmpty = false := by
                  rw [show (⟨#[]⟩ : ByteArray).toList = [] from by decide +kernel] at e2
                  cases h : p.toList with
                  | nil => rw [h] at e2; simp at e2
                  | cons a b => rfl
                have BE := B13
                clear hp
                go_wp2_with fail
                have GD2 := Lib.hid (GD.out)
                (refine (xwait PX13.out GD2.out).mono ?_)
                rintro e w20 ⟨rfl, h20⟩
                have PX20 := Lib.hid ((PX13.out).below h20)
                have PY20 := Lib.hid ((PY13.out).below h20)
                have B20 := Lib.hid (bt BE.out h20)
                clear h20
                go_wp2_with fail
                (refine (ywait PY20.out GD2.out).mono ?_)
                rintro e w21 ⟨rfl, h21⟩
                have PX21 := Lib.hid (PX20.out.below h21)
                have PY21 := Lib.hid (PY20.out.below h21)
                have B21 := Lib.hid (bt B20.out h21)
                have zw : (((Tm.wait (s).q : Nat) : Int) != ((Tm.wait (s).q : Nat) : Int)) = false := by simp
                have zwn : (Tm.wait (s).q != Tm.wait (s).q) = false := by simp
                clear h21
                go_wp2_with fail
                go_roundw
                case rel => exact ⟨i + 1, s, HI1.out, by go_num, PX21.out, PY21.out, GD2.out, B21.out, PX.n0 PX21.out, PY.n0 PY21.out⟩
                case measure => simp [intOf]; have := HI1.out; omega
            · have f5 : ((k6 : Int) == 5) = false := by simp; omega
              clear q3 q4 q5 hk6
              obtain ⟨c, hc⟩ : ∃ c, acV s p = c := ⟨_, rfl⟩
              have HC := Lib.hid hc
              have zc : (c != c) = false := by simp
              clear hc
              go_upto_region 22 with fail
              refine tfaRegion X Y V c p (TfW w nx ny X Y V n s ⟨kk, p⟩) (TfW.start PX13.out PY13.out CV13.out TV13.out B13.out NX13.out NY13.out) (fun a b w' h => h.cv) (fun b w' h => by rw [← HC.out]; exact h.stepX GD.out WNX.out PSZ.out) (fun b w' h => by rw [← HC.out]; exact h.stepY GD.out WNY.out PSZ.out) (by kernel_rfl) rfl rfl rfl rfl rfl rfl rfl rfl rfl rfl rfl rfl ?_
              intro w15 h15
              have PX15 := Lib.hid h15.px
              have PY15 := Lib.hid h15.py
              have BE := Lib.hid h15.bl
              clear h15
              simp only [Act.put, List.setIfInBounds_toArray, List.set_cons_succ, List.set_cons_zero, List.drop_succ_cons, List.drop_zero]
              go_wp2_with fail
              have GD2 := Lib.hid (GD.out.add p)
              (refine (xwait PX15.out GD2.out).mono ?_)
              rintro e w20 ⟨rfl, h20⟩
              have PX20 := Lib.hid ((PX15.out).below h20)
              have PY20 := Lib.hid ((PY15.out).below h20)
              have B20 := Lib.hid (bt BE.out h20)
              clear h20
              go_wp2_with fail
              (refine (ywait PY20.out GD2.out).mono ?_)
              rintro e w21 ⟨rfl, h21⟩
              have PX21 := Lib.hid (PX20.out.below h21)
              have PY21 := Lib.hid (PY20.out.below h21)
              have B21 := Lib.hid (bt B20.out h21)
              have zw : (((Tm.wait (asS s p).q : Nat) : Int) != ((Tm.wait (asS s p).q : Nat) : Int)) = false := by simp
              have zwn : (Tm.wait (asS s p).q != Tm.wait (asS s p).q) = false := by simp
              clear h21
              go_wp2_with fail
              go_roundw
              case rel => exact ⟨i + 1, asS s p, HI1.out, by go_num, PX21.out, PY21.out, GD2.out, B21.out, PX.n0 PX21.out, PY.n0 PY21.out⟩
              case measure => simp [intOf]; have := HI1.out; omega
    · have p1 : decide ((i : Int) < (N : Int)) = false := decide_eq_false (by omega)
      have p1n : decide (i < N) = false := decide_eq_false hlt
      clear hlt hi
      go_wp2_with fail
      go_ret
      exact ⟨rfl, HB.out⟩
theorem walk (k : Int) (hk : (Lit.int .i64 k).wf = true) (a : Option Addr) (cap : Nat) (l : List OpA) (h1 : l.length ≤ cap) (h2 : cap ≤ maxLen) (w : World) (R : Ops w a l) : Calls Try.prog 5 #[.int .i64 k, .slice a l.length cap] w fun e w' => e = .returned (.bool true) ∧ Below w.heap.size w w' := by
  by_cases hl : 150 < l.length
  · exact walk_long k a cap l h1 h2 hl w R
  · by_cases hn : 32 ≤ k ∧ k ≤ 200
    · obtain ⟨n, rfl⟩ : ∃ n : Nat, k = (n : Int) := ⟨k.toNat, by omega⟩
      exact walk_ok n (by omega) a cap l h1 h2 (by omega) w R
    · exact walk_bad k hn a cap l h1 h2 (by omega) w R

set_option maxRecDepth 100000 in
theorem lifted (os : Os) (started : os.Started) (H : Type) (enc : TypeId × Value → H) :
    ReturnsInHanded {} Try.checked os 5 .any (Rows.tmframeFillsSpec.pre6 enc Try.prog Try.f5 Rows.tmframeFillsRow.domain false) (Rows.tmframeFillsSpec.post enc Try.prog Try.f5 false true false false) := by
  refine returnsInHanded_of_change (C := Try.checked) own started (by kernel_rfl) Try.func5
    (ChangeSpec.witness6 (enc := enc) (C := Try.checked) false ⟨#[], #[.int .i64 0, .slice none 0 0], []⟩ 8 (by kernel_rfl) (by kernel_rfl) (by kernel_rfl) (by kernel_rfl)) ?_
  intro W base args ds gs before hval0 hW _ _
  have hval : ∀ (j : Nat) t v, Try.f5.params[j]? = some t → args[j]? = some v → Value.okWide Try.prog W .any base t v := hval0
  have hW' := hW
  obtain ⟨p, q, hA0, hV, rfl, hfz, hnd⟩ := hW
  have hA : DataW.TrodAll enc Try.prog W 0 (fun _ => true) true Try.f5.params.toList args.toList ds p := hA0
  rw [Try.params5] at hA hval
  obtain ⟨v0, vs0, d0, ds0, p0, q0, hargs, rfl, rfl, h0, r0⟩ := trodAll_cons hA
  obtain ⟨v1, vs1, d1, ds1, p1, q1, rfl, rfl, rfl, h1, r1⟩ := trodAll_cons r0
  obtain ⟨rfl, rfl, rfl⟩ := trodAll_nil r1
  obtain rfl : args = #[v0, v1] := by cases args; simp_all
  obtain ⟨rfl, rfl⟩ := trodVars_none hV
  obtain ⟨a0, rfl, rfl, rfl, w0⟩ := open_int Try.underlying3 (hval 0 3 v0 rfl rfl) h0
  obtain ⟨x1, y1, z1, e1⟩ := okWide_slice Try.underlying33 (hval 1 33 v1 rfl rfl)
  have S1 := ops_arg (by rw [e1]; rfl) h1
  clear e1
  obtain ⟨ao1, zs1, cap1, rfl, l1, m1, R1, shut1⟩ := S1
  clear hA0 hval0
  simp only [List.append_nil] at hW'
  refine (walk a0 w0 ao1 cap1 zs1 l1 m1 W R1).mono fun e W' ⟨he, hg⟩ => ?_
  subst he
  exact ⟨_, rfl, post_of_below (pa := ([] ++ (p1 ++ []))) (pv := []) hW' (fun _ _ _ => trodAll_cons_mk (shut_bool Try.underlying4 _) trodAll_mk0) (fun sp hsp => (trodAll_cons_mk (shut_int Try.underlying3 w0) (trodAll_cons_mk (shut1 W' hg sp (fun q hq => hsp q (by simp [hq]))) trodAll_mk0))) (fun _ _ => rfl) (by simp)
    hg (ok_one (by kernel_rfl) rfl (okWide_bool_mk Try.underlying4 _))⟩

theorem proved : Rows.TmframeFillsSaid :=
  OpenClaim.holds_of_wide 5 Try.f5 rfl rfl rfl rfl rfl rfl rfl ⟨rfl, rfl, rfl, rfl, rfl⟩ rfl rfl rfl rfl rfl (by kernel_rfl) Try.func5 (by kernel_rfl)
    (of_decide_eq_true (by kernel_rfl)) (by unfold Func.isWrapper; first | (rw [if_pos (by decide +kernel)]; kernel_rfl) | (rw [if_neg (by decide +kernel)]; exact ⟨rfl, rfl⟩))
    (fun os started H enc _ => lifted os started H enc)
#print axioms proved
end tmframeFills
end Go.Proofs.Ytgcjfiablcjfgaa
