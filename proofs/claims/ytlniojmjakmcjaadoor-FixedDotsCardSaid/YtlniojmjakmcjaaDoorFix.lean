/- The contracts of package fixed's size, signed, Ratio, Mul, Div over this program: the nearest integer of the quotient, or the error, for all arguments. -/
import Derived.Test.YtlniojmjakmcjaaDoorDiv
import Derived.Test.YtlniojmjakmcjaaDoorFixMath
namespace Go.Proofs.YtlniojmjakmcjaaDoor
open Go.RowKit
set_option linter.unusedVariables false

theorem size_any (a : Int) (ha : Fix.fits a) (w : World) :
    Calls Tryd.prog 27 #[.int .i64 a] w fun e w' => e = .returned (.int .u64 (a.natAbs : Nat)) ∧ w = w' := by
  obtain ⟨a0, a1⟩ := ha
  by_cases h : a < 0
  · have e1 : IntKind.u64.wrap (-(IntKind.u64.wrap a)) = ((a.natAbs : Nat) : Int) := by simp only [IntKind.wrap_u64]; omega
    go_enter Tryd.func27, Tryd.ntmps27
    go_wp2
    go_ret
    exact ⟨rfl, rfl⟩
  · have e1 : IntKind.u64.wrap a = ((a.natAbs : Nat) : Int) := by simp only [IntKind.wrap_u64]; omega
    go_enter Tryd.func27, Tryd.ntmps27
    go_wp2
    go_ret
    exact ⟨by first | rfl | (congr 2; omega), rfl⟩

theorem signed_any (q : Nat) (neg : Bool) (hq : q < 18446744073709551616) (w : World) :
    Calls Tryd.prog 29 #[.int .u64 q, .bool neg] w fun e w' => e = .returned (.tuple #[.int .i64 (Fix.sgnV q neg), .int .i64 (Fix.sgnE q neg)]) ∧ w = w' := by
  cases neg
  · by_cases h : q < 9223372036854775808
    · have v : Fix.sgnV q false = (q : Int) := by simp [Fix.sgnV, Fix.valOf, Fix.fits]; omega
      have e : Fix.sgnE q false = 0 := by simp [Fix.sgnE, Fix.errOf, Fix.fits]; omega
      rw [v, e]
      clear v e
      have h' : (q : Int) < 9223372036854775808 := by omega
      go_enter Tryd.func29, Tryd.ntmps29
      go_wp2
      go_ret2
      exact ⟨rfl, rfl⟩
    · have v : Fix.sgnV q false = 0 := by simp [Fix.sgnV, Fix.valOf, Fix.fits]; omega
      have e : Fix.sgnE q false = 7 := by simp [Fix.sgnE, Fix.errOf, Fix.fits]; omega
      rw [v, e]
      clear v e
      have h' : decide ((q : Int) < 9223372036854775808) = false := by simp; omega
      have h'' : ¬ (q : Int) < 9223372036854775808 := by omega
      clear h
      go_enter Tryd.func29, Tryd.ntmps29
      go_wp2
      go_ret2
      exact ⟨rfl, rfl⟩
  · by_cases h : q ≤ 9223372036854775808
    · have v : Fix.sgnV q true = -(q : Int) := by simp [Fix.sgnV, Fix.valOf, Fix.fits]; omega
      have e : Fix.sgnE q true = 0 := by simp [Fix.sgnE, Fix.errOf, Fix.fits]; omega
      rw [v, e]
      clear v e
      have h' : (q : Int) ≤ 9223372036854775808 := by omega
      have e1 : IntKind.i64.wrap (IntKind.u64.wrap (-(q : Int))) = -(q : Int) := by simp only [IntKind.wrap_i64, IntKind.wrap_u64]; omega
      have e2 : wrap64 (IntKind.u64.wrap (-(q : Int))) = -(q : Int) := by simp only [wrap64, IntKind.wrap_u64]; omega
      go_enter Tryd.func29, Tryd.ntmps29
      go_wp2
      go_ret2
      exact ⟨rfl, rfl⟩
    · have v : Fix.sgnV q true = 0 := by simp [Fix.sgnV, Fix.valOf, Fix.fits]; omega
      have e : Fix.sgnE q true = 7 := by simp [Fix.sgnE, Fix.errOf, Fix.fits]; omega
      rw [v, e]
      clear v e
      have h' : decide ((q : Int) ≤ 9223372036854775808) = false := by simp; omega
      have h'' : ¬ (q : Int) ≤ 9223372036854775808 := by omega
      have h3 : decide ((q : Int) < 9223372036854775808) = false := by simp; omega
      have h4 : ¬ (q : Int) < 9223372036854775808 := by omega
      clear h
      go_enter Tryd.func29, Tryd.ntmps29
      go_wp2
      go_ret2
      exact ⟨rfl, rfl⟩

theorem ratio_zero (a b : Int) (w : World) :
    Calls Tryd.prog 11 #[.int .i64 a, .int .i64 b, .int .i64 0] w fun e w' => e = .returned (.tuple #[.int .i64 (Fix.ratioV a b 0), .int .i64 (Fix.ratioE a b 0)]) ∧ w = w' := by
  have v : Fix.ratioV a b 0 = 0 := by simp [Fix.ratioV]
  have e : Fix.ratioE a b 0 = 2 := by simp [Fix.ratioE]
  rw [v, e]
  clear v e
  go_enter Tryd.func11, Tryd.ntmps11
  go_wp2
  go_ret2
  exact ⟨rfl, rfl⟩

/-- The quotient has more than 64 bits. -/
theorem ratio_far (a b c : Int) (ha : Fix.fits a) (hb : Fix.fits b) (hc : Fix.fits c) (c0 : c ≠ 0) (hh : c.natAbs ≤ a.natAbs * b.natAbs / 18446744073709551616) (w : World) :
    Calls Tryd.prog 11 #[.int .i64 a, .int .i64 b, .int .i64 c] w fun e w' => e = .returned (.tuple #[.int .i64 0, .int .i64 7]) ∧ w = w' := by
  have h0 : ((c : Int) == 0) = false := by simpa using c0
  have ba : a.natAbs < 18446744073709551616 := by have := ha.1; have := ha.2; omega
  have bb : b.natAbs < 18446744073709551616 := by have := hb.1; have := hb.2; omega
  obtain ⟨C, hC⟩ : ∃ C, c.natAbs = C := ⟨_, rfl⟩
  obtain ⟨hi, hHi⟩ : ∃ hi, a.natAbs * b.natAbs / 18446744073709551616 = hi := ⟨_, rfl⟩
  obtain ⟨lo, hLo⟩ : ∃ lo, a.natAbs * b.natAbs % 18446744073709551616 = lo := ⟨_, rfl⟩
  rw [hC, hHi] at hh
  have m := fun w => mul64_any a.natAbs b.natAbs ba bb w
  rw [hHi, hLo] at m
  have sc := fun w => size_any c hc w
  rw [hC] at sc
  have M := Lib.hid m
  have SC := Lib.hid sc
  have hh' : (C : Int) ≤ (hi : Int) := by omega
  clear m sc hC hHi hLo hh
  go_enter Tryd.func11, Tryd.ntmps11
  go_wp2_with fail
  refine (size_any a ha _).mono ?_
  rintro e w' ⟨rfl, rfl⟩
  go_wp2_with fail
  refine (size_any b hb _).mono ?_
  rintro e w' ⟨rfl, rfl⟩
  go_wp2_with fail
  refine (M.out _).mono ?_
  rintro e w' ⟨rfl, rfl⟩
  go_wp2_with fail
  refine (SC.out _).mono ?_
  rintro e w' ⟨rfl, rfl⟩
  go_wp2
  go_ret2
  exact ⟨rfl, rfl⟩

set_option maxHeartbeats 1000000 in
theorem ratio_near (a b c : Int) (ha : Fix.fits a) (hb : Fix.fits b) (hc : Fix.fits c) (c0 : c ≠ 0) (hh : a.natAbs * b.natAbs / 18446744073709551616 < c.natAbs) (w : World) :
    Calls Tryd.prog 11 #[.int .i64 a, .int .i64 b, .int .i64 c] w fun e w' => e = .returned (.tuple #[.int .i64 (Fix.sgnV (Fix.up (a.natAbs * b.natAbs / c.natAbs) (a.natAbs * b.natAbs % c.natAbs) c.natAbs (Fix.odd3 a b c)) (Fix.odd3 a b c)), .int .i64 (Fix.sgnE (Fix.up (a.natAbs * b.natAbs / c.natAbs) (a.natAbs * b.natAbs % c.natAbs) c.natAbs (Fix.odd3 a b c)) (Fix.odd3 a b c))]) ∧ ∃ n, w' = w.drewN n := by
  have h0 : ((c : Int) == 0) = false := by simpa using c0
  have ba : a.natAbs < 18446744073709551616 := by have := ha.1; have := ha.2; omega
  have bb : b.natAbs < 18446744073709551616 := by have := hb.1; have := hb.2; omega
  have bc : c.natAbs < 18446744073709551616 := by have := hc.1; have := hc.2; omega
  obtain ⟨x1, x2⟩ := Fix.bits_xor_neg a b ha hb
  obtain ⟨x3, x4⟩ := Fix.bits_xor_neg _ c x1 hc
  rw [x2] at x4
  have x5 : decide (bits .xor .i64 (bits .xor .i64 a b) c < 0) = Fix.odd3 a b c := x4
  have m := fun w => mul64_any a.natAbs b.natAbs ba bb w
  have sc := fun w => size_any c hc w
  have cpos : 0 < c.natAbs := by omega
  have pe : a.natAbs * b.natAbs / 18446744073709551616 * 18446744073709551616 + a.natAbs * b.natAbs % 18446744073709551616 = a.natAbs * b.natAbs := by omega
  have dv := fun w => div64_any (a.natAbs * b.natAbs / 18446744073709551616) (a.natAbs * b.natAbs % 18446744073709551616) c.natAbs bc hh (Nat.mod_lt _ (by decide)) w
  rw [pe] at dv
  have qlt : a.natAbs * b.natAbs / c.natAbs < 18446744073709551616 := by
    rw [Nat.div_lt_iff_lt_mul cpos]
    omega
  have rlt := Nat.mod_lt (a.natAbs * b.natAbs) cpos
  generalize c.natAbs = C at *
  generalize a.natAbs * b.natAbs / 18446744073709551616 = hi at *
  generalize a.natAbs * b.natAbs % 18446744073709551616 = lo at *
  generalize a.natAbs * b.natAbs / C = q at *
  generalize a.natAbs * b.natAbs % C = r at *
  generalize Fix.odd3 a b c = neg at *
  have M := Lib.hid m
  have SC := Lib.hid sc
  have DV := Lib.hid dv
  have hh' : decide ((C : Int) ≤ (hi : Int)) = false := by simp; omega
  have hh'' : ¬ ((C : Int) ≤ (hi : Int)) := by omega
  clear m sc dv pe x1 x2 x3 x4 hh
  have fin : ∀ (w : World), ∃ n, w = w.drewN n := fun w => ⟨0, rfl⟩
  by_cases hq : 9223372036854775808 < q
  · have v : Fix.sgnV (Fix.up q r C neg) neg = 0 := by
      unfold Fix.sgnV Fix.valOf Fix.up Fix.fits; cases neg <;> simp <;> split <;> omega
    have e : Fix.sgnE (Fix.up q r C neg) neg = 7 := by
      unfold Fix.sgnE Fix.errOf Fix.up Fix.fits; cases neg <;> simp <;> split <;> omega
    rw [v, e]
    clear v e
    have hq' : (9223372036854775808 : Int) < (q : Int) := by omega
    clear hq
    go_enter Tryd.func11, Tryd.ntmps11
    go_wp2_with fail
    refine (size_any a ha _).mono ?_
    rintro e w' ⟨rfl, rfl⟩
    go_wp2_with fail
    refine (size_any b hb _).mono ?_
    rintro e w' ⟨rfl, rfl⟩
    go_wp2_with fail
    refine (M.out _).mono ?_
    rintro e w' ⟨rfl, rfl⟩
    go_wp2_with fail
    refine (SC.out _).mono ?_
    rintro e w' ⟨rfl, rfl⟩
    go_wp2_with fail
    refine (DV.out _).mono ?_
    rintro e w' ⟨rfl, n, rfl⟩
    go_wp2
    go_ret2
    exact ⟨rfl, n, rfl⟩
  · have hq' : decide ((9223372036854775808 : Int) < (q : Int)) = false := by simp; omega
    have hq'' : ¬ (9223372036854775808 : Int) < (q : Int) := by omega
    have sg := fun (z : Nat) (hz : z < 18446744073709551616) (w : World) => signed_any z neg hz w
    have SG := Lib.hid sg
    clear sg
    have q1 : q + 1 < 18446744073709551616 := by omega
    by_cases c1 : C < 2 * r
    · have u : Fix.up q r C neg = q + 1 := by unfold Fix.up; rw [if_pos (Or.inl c1)]
      rw [u]
      clear u
      have c1' : (C : Int) - (r : Int) < (r : Int) := by omega
      have qc : ((q : Int) + 1) = ((q + 1 : Nat) : Int) := by simp
      have QC := Lib.hid qc
      clear c1 hq qc
      go_enter Tryd.func11, Tryd.ntmps11
      go_wp2_with fail
      refine (size_any a ha _).mono ?_
      rintro e w' ⟨rfl, rfl⟩
      go_wp2_with fail
      refine (size_any b hb _).mono ?_
      rintro e w' ⟨rfl, rfl⟩
      go_wp2_with fail
      refine (M.out _).mono ?_
      rintro e w' ⟨rfl, rfl⟩
      go_wp2_with fail
      refine (SC.out _).mono ?_
      rintro e w' ⟨rfl, rfl⟩
      go_wp2_with fail
      refine (DV.out _).mono ?_
      rintro e w' ⟨rfl, n, rfl⟩
      go_wp2_with fail
      rw [QC.out]
      refine (SG.out _ q1 _).mono ?_
      rintro e w' ⟨rfl, rfl⟩
      go_wp2
      go_ret2
      exact ⟨rfl, n, rfl⟩
    · have c1' : decide ((C : Int) - (r : Int) < (r : Int)) = false := by simp; omega
      have c1'' : ¬ (C : Int) - (r : Int) < (r : Int) := by omega
      by_cases c2 : C = 2 * r
      · have c2' : ((r : Int) == (C : Int) - (r : Int)) = true := by simp; omega
        have c2'' : decide ((r : Int) = (C : Int) - (r : Int)) = true := by simp; omega
        cases neg
        · have u : Fix.up q r C false = q + 1 := by unfold Fix.up; rw [if_pos (Or.inr ⟨c2, rfl⟩)]
          rw [u]
          clear u
          have qc : ((q : Int) + 1) = ((q + 1 : Nat) : Int) := by simp
          have QC := Lib.hid qc
          have C2 := Lib.hid c2
          clear c1 hq qc c2
          go_enter Tryd.func11, Tryd.ntmps11
          go_wp2_with fail
          refine (size_any a ha _).mono ?_
          rintro e w' ⟨rfl, rfl⟩
          go_wp2_with fail
          refine (size_any b hb _).mono ?_
          rintro e w' ⟨rfl, rfl⟩
          go_wp2_with fail
          refine (M.out _).mono ?_
          rintro e w' ⟨rfl, rfl⟩
          go_wp2_with fail
          refine (SC.out _).mono ?_
          rintro e w' ⟨rfl, rfl⟩
          go_wp2_with fail
          refine (DV.out _).mono ?_
          rintro e w' ⟨rfl, n, rfl⟩
          go_wp2_with fail
          rw [QC.out]
          refine (SG.out _ q1 _).mono ?_
          rintro e w' ⟨rfl, rfl⟩
          go_wp2
          go_ret2
          exact ⟨rfl, n, rfl⟩
        · have u : Fix.up q r C true = q := by unfold Fix.up; rw [if_neg (by simp; omega)]; rfl
          rw [u]
          clear u
          have C2 := Lib.hid c2
          clear c1 hq c2
          go_enter Tryd.func11, Tryd.ntmps11
          go_wp2_with fail
          refine (size_any a ha _).mono ?_
          rintro e w' ⟨rfl, rfl⟩
          go_wp2_with fail
          refine (size_any b hb _).mono ?_
          rintro e w' ⟨rfl, rfl⟩
          go_wp2_with fail
          refine (M.out _).mono ?_
          rintro e w' ⟨rfl, rfl⟩
          go_wp2_with fail
          refine (SC.out _).mono ?_
          rintro e w' ⟨rfl, rfl⟩
          go_wp2_with fail
          refine (DV.out _).mono ?_
          rintro e w' ⟨rfl, n, rfl⟩
          go_wp2_with fail
          refine (SG.out _ (by omega) _).mono ?_
          rintro e w' ⟨rfl, rfl⟩
          go_wp2
          go_ret2
          exact ⟨rfl, n, rfl⟩
      · have c2' : ((r : Int) == (C : Int) - (r : Int)) = false := by simp; omega
        have c2'' : decide ((r : Int) = (C : Int) - (r : Int)) = false := by simp; omega
        have u : Fix.up q r C neg = q := by unfold Fix.up; rw [if_neg (by omega)]; rfl
        rw [u]
        clear u
        clear c1 hq c2
        go_enter Tryd.func11, Tryd.ntmps11
        go_wp2_with fail
        refine (size_any a ha _).mono ?_
        rintro e w' ⟨rfl, rfl⟩
        go_wp2_with fail
        refine (size_any b hb _).mono ?_
        rintro e w' ⟨rfl, rfl⟩
        go_wp2_with fail
        refine (M.out _).mono ?_
        rintro e w' ⟨rfl, rfl⟩
        go_wp2_with fail
        refine (SC.out _).mono ?_
        rintro e w' ⟨rfl, rfl⟩
        go_wp2_with fail
        refine (DV.out _).mono ?_
        rintro e w' ⟨rfl, n, rfl⟩
        go_wp2_with fail
        refine (SG.out _ (by omega) _).mono ?_
        rintro e w' ⟨rfl, rfl⟩
        go_wp2
        go_ret2
        exact ⟨rfl, n, rfl⟩

/-- fixed.Ratio: the nearest integer of a b / c, or the error. -/
theorem ratio_any (a b c : Int) (ha : Fix.fits a) (hb : Fix.fits b) (hc : Fix.fits c) (w : World) :
    Calls Tryd.prog 11 #[.int .i64 a, .int .i64 b, .int .i64 c] w fun e w' => e = .returned (.tuple #[.int .i64 (Fix.ratioV a b c), .int .i64 (Fix.ratioE a b c)]) ∧ ∃ n, w' = w.drewN n := by
  by_cases c0 : c = 0
  · subst c0
    exact (ratio_zero a b w).mono fun e w' ⟨he, hw⟩ => ⟨he, 0, hw.symm⟩
  · have f := Fix.ratio_fin a b c c0
    by_cases hh : a.natAbs * b.natAbs / 18446744073709551616 < c.natAbs
    · refine (ratio_near a b c ha hb hc c0 hh w).mono fun e w' ⟨he, hw⟩ => ⟨?_, hw⟩
      rw [he]
      unfold Fix.ratioV Fix.ratioE
      rw [if_neg c0, if_neg c0, f]
      unfold Fix.sgnV Fix.sgnE
      cases Fix.odd3 a b c <;> rfl
    · refine (ratio_far a b c ha hb hc c0 (by omega) w).mono fun e w' ⟨he, hw⟩ => ⟨?_, 0, hw.symm⟩
      have hq : 18446744073709551616 ≤ a.natAbs * b.natAbs / c.natAbs := by
        rw [Nat.le_div_iff_mul_le (by omega)]; omega
      rw [he]
      unfold Fix.ratioV Fix.ratioE Fix.valOf Fix.errOf
      rw [if_neg c0, if_neg c0, f]
      have n1 : ∀ (r D : Nat) (neg : Bool) (q : Nat), 18446744073709551616 ≤ q → ¬ Fix.fits (if neg = true then -((Fix.up q r D true : Nat) : Int) else ((Fix.up q r D false : Nat) : Int)) := by
        intro r D neg q hq
        unfold Fix.up Fix.fits
        cases neg <;> simp <;> split <;> omega
      rw [if_neg (n1 _ _ _ _ hq), if_neg (n1 _ _ _ _ hq)]

def mulV (a b : Int) : Int := Fix.valOf (Fix.rnd (a * b) 1073741824)
def mulE (a b : Int) : Int := Fix.errOf (Fix.rnd (a * b) 1073741824)
theorem ratio_mul (a b : Int) : Fix.ratioV a b 1073741824 = mulV a b ∧ Fix.ratioE a b 1073741824 = mulE a b := ⟨rfl, rfl⟩

/-- fixed.Mul: the nearest integer of a b / 2^30, or the error. -/
theorem mul_any (a b : Int) (ha : Fix.fits a) (hb : Fix.fits b) (w : World) :
    Calls Tryd.prog 7 #[.int .i64 a, .int .i64 b] w fun e w' => e = .returned (.tuple #[.int .i64 (mulV a b), .int .i64 (mulE a b)]) ∧ ∃ n, w' = w.drewN n := by
  have r := fun w => ratio_any a b 1073741824 ha hb ⟨by omega, by omega⟩ w
  rw [(ratio_mul a b).1, (ratio_mul a b).2] at r
  have R := Lib.hid r
  clear r
  go_enter Tryd.func7, Tryd.ntmps7
  go_wp2_with fail
  refine (R.out _).mono ?_
  rintro e w' ⟨rfl, n, rfl⟩
  go_wp2
  go_ret2
  exact ⟨rfl, n, rfl⟩

/-- fixed.Div: the nearest integer of a 2^30 / b, or the error. -/
theorem div_any (a b : Int) (ha : Fix.fits a) (hb : Fix.fits b) (w : World) :
    Calls Tryd.prog 9 #[.int .i64 a, .int .i64 b] w fun e w' => e = .returned (.tuple #[.int .i64 (Fix.ratioV a 1073741824 b), .int .i64 (Fix.ratioE a 1073741824 b)]) ∧ ∃ n, w' = w.drewN n := by
  have R := Lib.hid (fun w => ratio_any a 1073741824 b ha ⟨by omega, by omega⟩ hb w)
  go_enter Tryd.func9, Tryd.ntmps9
  go_wp2_with fail
  refine (R.out _).mono ?_
  rintro e w' ⟨rfl, n, rfl⟩
  go_wp2
  go_ret2
  exact ⟨rfl, n, rfl⟩

end Go.Proofs.YtlniojmjakmcjaaDoor
