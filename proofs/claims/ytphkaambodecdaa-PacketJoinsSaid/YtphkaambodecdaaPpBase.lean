/- Layer 9, the landed program: the small functions, Valid, headWidths. -/
import Derived.Test.YtphkaambodecdaaPkHdr
import Derived.Test.YtphkaambodecdaaPkRef
namespace Go.Proofs.Ytphkaambodecdaa
open Go.RowKit Go.Shelf
set_option linter.unusedVariables false
set_option maxRecDepth 100000

theorem isAPID_any (n : Int) (w : World) : Calls Try.prog 34 #[.int .i64 n] w fun e w' => e = .returned (.bool (decide (0 ≤ n ∧ n ≤ 2047))) ∧ w = w' := by
  by_cases g0 : (0 : Int) ≤ n
  · have t0 : decide ((0 : Int) ≤ n) = true := decide_eq_true g0
    by_cases g1 : n ≤ 2047
    · have t1 : decide (n ≤ 2047) = true := decide_eq_true g1
      have E := Lib.hid (show decide (0 ≤ n ∧ n ≤ 2047) = true from decide_eq_true ⟨g0, g1⟩)
      clear g0 g1
      rw [E.out]
      go_enter Try.func34, Try.ntmps34
      go_wp2_with fail
      go_ret
      exact ⟨rfl, rfl⟩
    · have t1 : decide (n ≤ 2047) = false := decide_eq_false g1
      have E := Lib.hid (show decide (0 ≤ n ∧ n ≤ 2047) = false from decide_eq_false (fun h => g1 h.2))
      clear g0 g1
      rw [E.out]
      go_enter Try.func34, Try.ntmps34
      go_wp2_with fail
      go_ret
      exact ⟨rfl, rfl⟩
  · have t0 : decide ((0 : Int) ≤ n) = false := decide_eq_false g0
    have E := Lib.hid (show decide (0 ≤ n ∧ n ≤ 2047) = false from decide_eq_false (fun h => g0 h.1))
    clear g0
    rw [E.out]
    go_enter Try.func34, Try.ntmps34
    go_wp2_with fail
    go_ret
    exact ⟨rfl, rfl⟩
theorem isFlags_any (n : Int) (w : World) : Calls Try.prog 35 #[.int .i64 n] w fun e w' => e = .returned (.bool (decide (0 ≤ n ∧ n ≤ 3))) ∧ w = w' := by
  by_cases g0 : (0 : Int) ≤ n
  · have t0 : decide ((0 : Int) ≤ n) = true := decide_eq_true g0
    by_cases g1 : n ≤ 3
    · have t1 : decide (n ≤ 3) = true := decide_eq_true g1
      have E := Lib.hid (show decide (0 ≤ n ∧ n ≤ 3) = true from decide_eq_true ⟨g0, g1⟩)
      clear g0 g1
      rw [E.out]
      go_enter Try.func35, Try.ntmps35
      go_wp2_with fail
      go_ret
      exact ⟨rfl, rfl⟩
    · have t1 : decide (n ≤ 3) = false := decide_eq_false g1
      have E := Lib.hid (show decide (0 ≤ n ∧ n ≤ 3) = false from decide_eq_false (fun h => g1 h.2))
      clear g0 g1
      rw [E.out]
      go_enter Try.func35, Try.ntmps35
      go_wp2_with fail
      go_ret
      exact ⟨rfl, rfl⟩
  · have t0 : decide ((0 : Int) ≤ n) = false := decide_eq_false g0
    have E := Lib.hid (show decide (0 ≤ n ∧ n ≤ 3) = false from decide_eq_false (fun h => g0 h.1))
    clear g0
    rw [E.out]
    go_enter Try.func35, Try.ntmps35
    go_wp2_with fail
    go_ret
    exact ⟨rfl, rfl⟩
theorem isCount_any (n : Int) (w : World) : Calls Try.prog 36 #[.int .i64 n] w fun e w' => e = .returned (.bool (decide (0 ≤ n ∧ n ≤ 16383))) ∧ w = w' := by
  by_cases g0 : (0 : Int) ≤ n
  · have t0 : decide ((0 : Int) ≤ n) = true := decide_eq_true g0
    by_cases g1 : n ≤ 16383
    · have t1 : decide (n ≤ 16383) = true := decide_eq_true g1
      have E := Lib.hid (show decide (0 ≤ n ∧ n ≤ 16383) = true from decide_eq_true ⟨g0, g1⟩)
      clear g0 g1
      rw [E.out]
      go_enter Try.func36, Try.ntmps36
      go_wp2_with fail
      go_ret
      exact ⟨rfl, rfl⟩
    · have t1 : decide (n ≤ 16383) = false := decide_eq_false g1
      have E := Lib.hid (show decide (0 ≤ n ∧ n ≤ 16383) = false from decide_eq_false (fun h => g1 h.2))
      clear g0 g1
      rw [E.out]
      go_enter Try.func36, Try.ntmps36
      go_wp2_with fail
      go_ret
      exact ⟨rfl, rfl⟩
  · have t0 : decide ((0 : Int) ≤ n) = false := decide_eq_false g0
    have E := Lib.hid (show decide (0 ≤ n ∧ n ≤ 16383) = false from decide_eq_false (fun h => g0 h.1))
    clear g0
    rw [E.out]
    go_enter Try.func36, Try.ntmps36
    go_wp2_with fail
    go_ret
    exact ⟨rfl, rfl⟩
theorem isSize_any (n : Int) (w : World) : Calls Try.prog 37 #[.int .i64 n] w fun e w' => e = .returned (.bool (decide (1 ≤ n ∧ n ≤ 1024))) ∧ w = w' := by
  by_cases g0 : (1 : Int) ≤ n
  · have t0 : decide ((1 : Int) ≤ n) = true := decide_eq_true g0
    by_cases g1 : n ≤ 1024
    · have t1 : decide (n ≤ 1024) = true := decide_eq_true g1
      have E := Lib.hid (show decide (1 ≤ n ∧ n ≤ 1024) = true from decide_eq_true ⟨g0, g1⟩)
      clear g0 g1
      rw [E.out]
      go_enter Try.func37, Try.ntmps37
      go_wp2_with fail
      go_ret
      exact ⟨rfl, rfl⟩
    · have t1 : decide (n ≤ 1024) = false := decide_eq_false g1
      have E := Lib.hid (show decide (1 ≤ n ∧ n ≤ 1024) = false from decide_eq_false (fun h => g1 h.2))
      clear g0 g1
      rw [E.out]
      go_enter Try.func37, Try.ntmps37
      go_wp2_with fail
      go_ret
      exact ⟨rfl, rfl⟩
  · have t0 : decide ((1 : Int) ≤ n) = false := decide_eq_false g0
    have E := Lib.hid (show decide (1 ≤ n ∧ n ≤ 1024) = false from decide_eq_false (fun h => g0 h.1))
    clear g0
    rw [E.out]
    go_enter Try.func37, Try.ntmps37
    go_wp2_with fail
    go_ret
    exact ⟨rfl, rfl⟩
theorem nextCount_any (n : Nat) (h : n ≤ 1000000) (w : World) : Calls Try.prog 42 #[.int .i64 n] w fun e w' => e = .returned (.int .i64 ((n + 1) % 16384 : Nat)) ∧ w = w' := by
  obtain ⟨m, hm⟩ : ∃ m, n + 1 = m := ⟨_, rfl⟩
  obtain ⟨r, hr⟩ : ∃ r, m % 16384 = r := ⟨_, rfl⟩
  have e1 : IntKind.i64.wrap ((n : Int) + 1) = (m : Int) := by rw [IntKind.wrap_i64]; omega
  have e2 : (m : Int) % 16384 = (r : Int) := by omega
  have e3 : (m : Int).tmod 16384 = (r : Int) := by rw [Int.tmod_eq_emod_of_nonneg (by omega)]; omega
  have e4 : (n : Int) + 1 = (m : Int) := by omega
  have m1 : m ≤ 1000001 := by omega
  rw [hm, hr]
  clear hm hr
  go_enter Try.func42, Try.ntmps42
  go_wp2_with fail
  go_ret
  exact ⟨by first | rfl | rw [e2], rfl⟩
theorem pvalid_any (p : Pkt) (hs : p.da.size ≤ maxLen) (w : World) : Calls Try.prog 13 #[pkVal p] w fun e w' => e = .returned (.bool (decide (Pk.Ok p))) ∧ Below w.heap.size w w' := by
  unfold maxLen at hs
  have C := pk_new p w
  have B := Lib.hid (ba (Below.refl w.heap.size w) (.cells #[.bool p.cmd, .int .i64 p.ap, .int .i64 p.fl, .int .i64 p.ct, .string p.da] 23))
  have OKE : Hid (decide (Pk.Ok p) = decide ((0 ≤ p.ap ∧ p.ap ≤ 2047) ∧ (0 ≤ p.fl ∧ p.fl ≤ 3) ∧ (0 ≤ p.ct ∧ p.ct ≤ 16383) ∧ 1 ≤ p.da.size ∧ p.da.size ≤ 1024)) := Lib.hid rfl
  obtain ⟨b, hb⟩ : ∃ b, decide (Pk.Ok p) = b := ⟨_, rfl⟩
  rw [hb] at OKE ⊢
  clear hb
  obtain ⟨cmd, ap, fl, ct, da⟩ := p
  unfold pkVal
  simp only at B OKE hs ⊢
  obtain ⟨D, hD⟩ : ∃ D, da.size = D := ⟨_, rfl⟩
  rw [hD] at OKE hs
  obtain ⟨w1, hw1⟩ : ∃ w1, w.alloc (.cells #[.bool cmd, .int .i64 ap, .int .i64 fl, .int .i64 ct, .string da] 23) = w1 := ⟨_, rfl⟩
  obtain ⟨X, hX⟩ : ∃ X, w.heap.size = X := ⟨_, rfl⟩
  simp only at C
  rw [hw1, hX] at C
  have c0 : w1.cell? ⟨X, 0, none⟩ = some (.bool cmd) := C.cell (j := 0) (by omega)
  have c1 : w1.cell? ⟨X, 1, none⟩ = some (.int .i64 ap) := C.cell (j := 1) (by omega)
  have c2 : w1.cell? ⟨X, 2, none⟩ = some (.int .i64 fl) := C.cell (j := 2) (by omega)
  have c3 : w1.cell? ⟨X, 3, none⟩ = some (.int .i64 ct) := C.cell (j := 3) (by omega)
  have c4 : w1.cell? ⟨X, 4, none⟩ = some (.string da) := C.cell (j := 4) (by omega)
  rw [hw1] at B
  have HW := Lib.hid hw1
  have HX := Lib.hid hX
  clear C hw1 hX
  have A0 := Lib.hid (fun w => isAPID_any ap w)
  by_cases g0 : ¬ (0 ≤ ap ∧ ap ≤ 2047)
  · rw [decide_eq_false g0] at A0
    have E := Lib.hid (show b = false by rw [OKE.out]; exact decide_eq_false (fun h => by omega))
    clear g0 OKE
    go_enter Try.func13, Try.ntmps13
    go_wp2_with (simp only [HW.out, HX.out])
    (with_reducible refine (A0.out _).mono ?_)
    rintro e w' ⟨rfl, rfl⟩
    go_wp2_with fail
    go_ret
    exact ⟨by rw [E.out]; rfl, by first | exact B.out | (have := B.out; rw [HX.out] at this; exact this)⟩
  replace g0 := Decidable.of_not_not g0
  rw [decide_eq_true g0] at A0
  have A1 := Lib.hid (fun w => isFlags_any fl w)
  by_cases g1 : ¬ (0 ≤ fl ∧ fl ≤ 3)
  · rw [decide_eq_false g1] at A1
    have E := Lib.hid (show b = false by rw [OKE.out]; exact decide_eq_false (fun h => by omega))
    clear g0 g1 OKE
    go_enter Try.func13, Try.ntmps13
    go_wp2_with (simp only [HW.out, HX.out])
    (with_reducible refine (A0.out _).mono ?_)
    rintro e w' ⟨rfl, rfl⟩
    go_wp2_with fail
    (with_reducible refine (A1.out _).mono ?_)
    rintro e w' ⟨rfl, rfl⟩
    go_wp2_with fail
    go_ret
    exact ⟨by rw [E.out]; rfl, by first | exact B.out | (have := B.out; rw [HX.out] at this; exact this)⟩
  replace g1 := Decidable.of_not_not g1
  rw [decide_eq_true g1] at A1
  have A2 := Lib.hid (fun w => isCount_any ct w)
  by_cases g2 : ¬ (0 ≤ ct ∧ ct ≤ 16383)
  · rw [decide_eq_false g2] at A2
    have E := Lib.hid (show b = false by rw [OKE.out]; exact decide_eq_false (fun h => by omega))
    clear g0 g1 g2 OKE
    go_enter Try.func13, Try.ntmps13
    go_wp2_with (simp only [HW.out, HX.out])
    (with_reducible refine (A0.out _).mono ?_)
    rintro e w' ⟨rfl, rfl⟩
    go_wp2_with fail
    (with_reducible refine (A1.out _).mono ?_)
    rintro e w' ⟨rfl, rfl⟩
    go_wp2_with fail
    (with_reducible refine (A2.out _).mono ?_)
    rintro e w' ⟨rfl, rfl⟩
    go_wp2_with fail
    go_ret
    exact ⟨by rw [E.out]; rfl, by first | exact B.out | (have := B.out; rw [HX.out] at this; exact this)⟩
  replace g2 := Decidable.of_not_not g2
  rw [decide_eq_true g2] at A2
  have A3 := Lib.hid (fun w => isSize_any (D : Int) w)
  by_cases g3 : ¬ (1 ≤ (D : Int) ∧ (D : Int) ≤ 1024)
  · rw [decide_eq_false g3] at A3
    have E := Lib.hid (show b = false by rw [OKE.out]; exact decide_eq_false (fun h => by omega))
    clear g0 g1 g2 g3 OKE
    go_enter Try.func13, Try.ntmps13
    go_wp2_with (simp only [HW.out, HX.out])
    (with_reducible refine (A0.out _).mono ?_)
    rintro e w' ⟨rfl, rfl⟩
    go_wp2_with fail
    (with_reducible refine (A1.out _).mono ?_)
    rintro e w' ⟨rfl, rfl⟩
    go_wp2_with fail
    (with_reducible refine (A2.out _).mono ?_)
    rintro e w' ⟨rfl, rfl⟩
    go_wp2_with fail
    (with_reducible refine (A3.out _).mono ?_)
    rintro e w' ⟨rfl, rfl⟩
    go_wp2_with fail
    go_ret
    exact ⟨by rw [E.out]; rfl, by first | exact B.out | (have := B.out; rw [HX.out] at this; exact this)⟩
  replace g3 := Decidable.of_not_not g3
  rw [decide_eq_true g3] at A3
  have E := Lib.hid (show b = true by rw [OKE.out]; exact decide_eq_true ⟨g0, g1, g2, by omega, by omega⟩)
  clear g0 g1 g2 g3 OKE
  go_enter Try.func13, Try.ntmps13
  go_wp2_with (simp only [HW.out, HX.out])
  (with_reducible refine (A0.out _).mono ?_)
  rintro e w' ⟨rfl, rfl⟩
  go_wp2_with fail
  (with_reducible refine (A1.out _).mono ?_)
  rintro e w' ⟨rfl, rfl⟩
  go_wp2_with fail
  (with_reducible refine (A2.out _).mono ?_)
  rintro e w' ⟨rfl, rfl⟩
  go_wp2_with fail
  (with_reducible refine (A3.out _).mono ?_)
  rintro e w' ⟨rfl, rfl⟩
  go_wp2_with fail
  go_ret
  exact ⟨by rw [E.out]; rfl, by first | exact B.out | (have := B.out; rw [HX.out] at this; exact this)⟩
/-- The widths, made anew. -/
theorem headWidths_any (w : World) : Calls Try.prog 60 #[] w fun e w' => ∃ B, e = .returned (.slice (some ⟨B, 0, none⟩) 7 7) ∧ FReads .i64 w' (some ⟨B, 0, none⟩) Pk.wid ∧ Below w.heap.size w w' := by
  have HB := Lib.hid (ba (Below.refl w.heap.size w) (.cells #[.int .i64 3, .int .i64 1, .int .i64 1, .int .i64 11, .int .i64 2, .int .i64 14, .int .i64 16] 3))
  have HC := Lib.hid (fun j => World.cell?_alloc_new w #[.int .i64 3, .int .i64 1, .int .i64 1, .int .i64 11, .int .i64 2, .int .i64 14, .int .i64 16] 3 j)
  have HS := Lib.hid (World.size_alloc w (.cells #[.int .i64 3, .int .i64 1, .int .i64 1, .int .i64 11, .int .i64 2, .int .i64 14, .int .i64 16] 3))
  go_enter Try.func60, Try.ntmps60
  go_wp2_with fail
  go_ret
  refine ⟨w.heap.size, rfl, .inr ⟨_, _, rfl, by rw [HS.out]; omega, fun j hj => ?_⟩, HB.out⟩
  rw [Nat.zero_add]
  refine (HC.out j).trans ?_
  match j, hj with
  | 0, _ => rfl
  | 1, _ => rfl
  | 2, _ => rfl
  | 3, _ => rfl
  | 4, _ => rfl
  | 5, _ => rfl
  | 6, _ => rfl
end Go.Proofs.Ytphkaambodecdaa
