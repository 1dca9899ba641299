/- The contracts of perigeeref01's Ratio, Mul, Div over this program. -/
import Derived.Test.YtlniojmjakmcjaaDoorNear
namespace Go.Proofs.YtlniojmjakmcjaaDoor
open Go.RowKit
set_option linter.unusedVariables false

theorem ratio_up (a b c : Int) (hc : c ≠ 0) (neg : Bool) (h : Fix.odd3 a b c = neg) :
    Fix.sgnV (Fix.up (a.natAbs * b.natAbs / c.natAbs) (a.natAbs * b.natAbs % c.natAbs) c.natAbs neg) neg = Fix.ratioV a b c ∧
    Fix.sgnE (Fix.up (a.natAbs * b.natAbs / c.natAbs) (a.natAbs * b.natAbs % c.natAbs) c.natAbs neg) neg = Fix.ratioE a b c := by
  have f := Fix.ratio_fin a b c hc
  unfold Fix.ratioV Fix.ratioE
  rw [if_neg hc, if_neg hc, f, h]
  unfold Fix.sgnV Fix.sgnE
  cases neg <;> exact ⟨rfl, rfl⟩

set_option maxHeartbeats 8000000 in
set_option maxRecDepth 100000 in
theorem bigRatio_any (a b c : Int) (ha : Fix.fits a) (hb : Fix.fits b) (hc : Fix.fits c) (w : World) :
    Calls Tryd.prog 12 #[.int .i64 a, .int .i64 b, .int .i64 c] w fun e w' => e = .returned (.tuple #[.int .i64 (Fix.ratioV a b c), .int .i64 (Fix.ratioE a b c)]) ∧ Below w.heap.size w w' := by
  by_cases c0 : c = 0
  · subst c0
    go_enter Tryd.func12, Tryd.ntmps12
    go_wp2_with fail
    go_ret2
    exact ⟨rfl, Below.refl _ _⟩
  · have la : a.natAbs ≤ 2 ^ 63 := by have := ha.1; have := ha.2; omega
    have lb : b.natAbs ≤ 2 ^ 63 := by have := hb.1; have := hb.2; omega
    have lc : c.natAbs ≤ 2 ^ 63 := by have := hc.1; have := hc.2; omega
    have lm : a.natAbs * b.natAbs ≤ 2 ^ 63 * 2 ^ 63 := Nat.mul_le_mul la lb
    have lq : a.natAbs * b.natAbs / c.natAbs ≤ a.natAbs * b.natAbs := Nat.div_le_self _ _
    have r := fun neg h => ratio_up a b c c0 neg h
    have HA := Lib.hid (fun w => bigAbs_any a ha w)
    have HB := Lib.hid (fun w => bigAbs_any b hb w)
    have HC := Lib.hid (fun w => bigAbs_any c hc w)
    have HT := Lib.hid (fun w => bigTimes_any a.natAbs b.natAbs (by omega) (by omega) w)
    have HN := Lib.hid (fun neg w => bigNearest_any neg (a.natAbs * b.natAbs) c.natAbs (by omega) (by omega) (by omega) (by omega) w)
    have cz : (c == 0) = false := by simp [c0]
    have R := Lib.hid r
    clear r la lb lc lm lq ha hb hc
    have odd : Fix.odd3 a b c = ((decide (a < 0) ^^ decide (b < 0)) ^^ decide (c < 0)) := rfl
    have ODD := Lib.hid odd
    clear odd
    by_cases h1 : a < 0 <;> by_cases h2 : b < 0 <;> by_cases h3 : c < 0
    all_goals
      have O := ODD.out
      simp [h1, h2, h3] at O
      have E1 := Lib.hid (R.out _ O).1
      have E2 := Lib.hid (R.out _ O).2
      clear O
      go_enter Tryd.func12, Tryd.ntmps12
      go_wp2_with (first
        | (with_reducible refine (HA.out _).mono ?_; rintro e1 w1 ⟨rfl, B1⟩; have S1 := Lib.hid B1; clear B1)
        | (with_reducible refine (HB.out _).mono ?_; rintro e2 w2 ⟨rfl, B2⟩; have S2 := Lib.hid B2; clear B2)
        | (with_reducible refine (HT.out _).mono ?_; rintro e3 w3 ⟨rfl, B3⟩; have S3 := Lib.hid B3; clear B3)
        | (with_reducible refine (HC.out _).mono ?_; rintro e4 w4 ⟨rfl, B4⟩; have S4 := Lib.hid B4; clear B4)
        | (with_reducible refine (HN.out _ _).mono ?_; rintro e5 w5 ⟨rfl, B5⟩; have S5 := Lib.hid B5; clear B5))
      go_ret2
      have T1 := S1.out
      have T2 := T1.trans (S2.out.mono T1.size)
      have T3 := T2.trans (S3.out.mono T2.size)
      have T4 := T3.trans (S4.out.mono T3.size)
      exact ⟨by rw [E1.out, E2.out] <;> rfl, T4.trans (S5.out.mono T4.size)⟩

theorem bigMul_any (a b : Int) (ha : Fix.fits a) (hb : Fix.fits b) (w : World) :
    Calls Tryd.prog 8 #[.int .i64 a, .int .i64 b] w fun e w' => e = .returned (.tuple #[.int .i64 (mulV a b), .int .i64 (mulE a b)]) ∧ Below w.heap.size w w' := by
  have r := fun w => bigRatio_any a b 1073741824 ha hb ⟨by omega, by omega⟩ w
  rw [(ratio_mul a b).1, (ratio_mul a b).2] at r
  have R := Lib.hid r
  clear r
  go_enter Tryd.func8, Tryd.ntmps8
  go_wp2_with fail
  refine (R.out _).mono ?_
  rintro e w' ⟨rfl, B⟩
  go_wp2
  go_ret2
  exact ⟨rfl, B⟩

theorem bigDiv_any (a b : Int) (ha : Fix.fits a) (hb : Fix.fits b) (w : World) :
    Calls Tryd.prog 10 #[.int .i64 a, .int .i64 b] w fun e w' => e = .returned (.tuple #[.int .i64 (Fix.ratioV a 1073741824 b), .int .i64 (Fix.ratioE a 1073741824 b)]) ∧ Below w.heap.size w w' := by
  have R := Lib.hid (fun w => bigRatio_any a 1073741824 b ha ⟨by omega, by omega⟩ hb w)
  go_enter Tryd.func10, Tryd.ntmps10
  go_wp2_with fail
  refine (R.out _).mono ?_
  rintro e w' ⟨rfl, B⟩
  go_wp2
  go_ret2
  exact ⟨rfl, B⟩
end Go.Proofs.YtlniojmjakmcjaaDoor
