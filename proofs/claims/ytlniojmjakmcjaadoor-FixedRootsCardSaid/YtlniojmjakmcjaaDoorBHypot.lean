/- The contracts of perigeeref01's Sqrt and Hypot over this program. -/
import Derived.Test.YtlniojmjakmcjaaDoorRegHyp
namespace Go.Proofs.YtlniojmjakmcjaaDoor
open Go.RowKit
set_option linter.unusedVariables false

theorem sgn_pos (s : Nat) (h : s < 9223372036854775808) : Fix.sgnV s false = (s : Int) ∧ Fix.sgnE s false = 0 := by
  unfold Fix.sgnV Fix.sgnE Fix.valOf Fix.errOf
  have f : Fix.fits (if false = true then -(s : Int) else (s : Int)) := by unfold Fix.fits; simp; omega
  rw [if_pos f, if_pos f]
  exact ⟨by simp, rfl⟩
theorem sgn_far (s : Nat) (h : 9223372036854775808 ≤ s) : Fix.sgnV s false = 0 ∧ Fix.sgnE s false = 7 := by
  unfold Fix.sgnV Fix.sgnE Fix.valOf Fix.errOf
  have f : ¬ Fix.fits (if false = true then -(s : Int) else (s : Int)) := by unfold Fix.fits; simp; omega
  rw [if_neg f, if_neg f]
  exact ⟨rfl, rfl⟩
theorem sq_le (n : Nat) : Fix.sq n ≤ n := by
  have h := (Fix.sq_ok n).1
  rcases Nat.eq_zero_or_pos (Fix.sq n) with e | e
  · omega
  · have := Nat.mul_le_mul_left (Fix.sq n) (show 1 ≤ Fix.sq n from e)
    omega

set_option maxHeartbeats 2000000 in
theorem bigSqrt_any (a : Int) (ha : Fix.fits a) (w : World) :
    Calls Tryd.prog 17 #[.int .i64 a] w fun e w' => e = .returned (.tuple #[.int .i64 (sqrtV a), .int .i64 (sqrtE a)]) ∧ Below w.heap.size w w' := by
  unfold sqrtV sqrtE
  by_cases h : a < 0
  · rw [if_pos h, if_pos h]
    go_enter Tryd.func17, Tryd.ntmps17
    go_wp2
    go_ret2
    exact ⟨rfl, Below.refl _ _⟩
  · rw [if_neg h, if_neg h]
    have hd : decide (a < 0) = false := by simp; omega
    have la : a.natAbs < 2 ^ 63 := by have := ha.2; omega
    have na : a.natAbs = a.toNat := by omega
    have lx : a.toNat * 1073741824 < 2 ^ 93 := by omega
    have ls : Fix.sq (a.toNat * 1073741824) < 2 ^ 47 := Fix.sq_lt (by omega)
    have HA := Lib.hid (fun w => bigAbs_any a ha w)
    have HO : Hid (∀ w, Calls Tryd.prog 32 #[.int .i64 1073741824] w fun e w' => e = .returned (Big 1073741824) ∧ Below w.heap.size w w') := Lib.hid (fun w => bigAbs_any 1073741824 ⟨by omega, by omega⟩ w)
    rw [na] at HA
    have HT := Lib.hid (fun w => bigTimes_any a.toNat 1073741824 (by omega) (by omega) w)
    have HR := Lib.hid (fun w => bigRoot_any (a.toNat * 1073741824) (by omega) w)
    have HS := Lib.hid (fun w => bigSigned_any false (Fix.sq (a.toNat * 1073741824)) (by omega) w)
    rw [(sgn_pos _ (by omega)).1, (sgn_pos _ (by omega)).2] at HS
    obtain ⟨s, hs⟩ : ∃ s, Fix.sq (a.toNat * 1073741824) = s := ⟨_, rfl⟩
    rw [hs] at HR HS ⊢
    clear ls lx la na hs
    go_enter Tryd.func17, Tryd.ntmps17
    go_wp2_with (first
      | (with_reducible refine (HA.out _).mono ?_; rintro e1 w1 ⟨rfl, B1⟩; have S1 := Lib.hid B1; clear B1)
      | (with_reducible refine (HO.out _).mono ?_; rintro e2 w2 ⟨rfl, B2⟩; have S2 := Lib.hid B2; clear B2)
      | (with_reducible refine (HT.out _).mono ?_; rintro e3 w3 ⟨rfl, B3⟩; have S3 := Lib.hid B3; clear B3)
      | (with_reducible refine (HR.out _).mono ?_; rintro e4 w4 ⟨rfl, B4⟩; have S4 := Lib.hid B4; clear B4)
      | (with_reducible refine (HS.out _).mono ?_; rintro e5 w5 ⟨rfl, B5⟩; have S5 := Lib.hid B5; clear B5))
    go_ret2
    have T1 := S1.out
    have T2 := T1.trans (S2.out.mono T1.size)
    have T3 := T2.trans (S3.out.mono T2.size)
    have T4 := T3.trans (S4.out.mono T3.size)
    exact ⟨rfl, T4.trans (S5.out.mono T4.size)⟩

namespace Fix
theorem sumsq_bound (xs : List Int) (hf : ∀ k, k < xs.length → fits (xs.getD k 0)) : ∀ k, k ≤ xs.length → sumsq (xs.take k) ≤ big * k
  | 0, _ => by simp [sumsq]
  | k + 1, hk => by
    have ih := sumsq_bound xs hf k (by omega)
    have f := hf k (by omega)
    rw [sumsq_take xs k hk]
    have l : (xs.getD k 0).natAbs ≤ 9223372036854775808 := by have := f.1; have := f.2; omega
    have m := Nat.mul_le_mul l l
    unfold big at *
    omega
theorem hyp_sgn (xs : List Int) (h : ¬ 8 < xs.length) : sgnV (sq (sumsq xs)) false = hypV xs ∧ sgnE (sq (sumsq xs)) false = hypE xs := by
  unfold hypV hypE
  rw [if_neg h, if_neg h]
  by_cases g : sumsq xs < big
  · rw [if_pos g, if_pos g]
    exact sgn_pos _ (sq_lt (by unfold big at g; omega))
  · rw [if_neg g, if_neg g]
    refine sgn_far _ ?_
    apply Nat.le_of_not_lt
    intro l
    have h1 := (sq_ok (sumsq xs)).2
    have h2 := Nat.mul_le_mul (show sq (sumsq xs) + 1 ≤ 9223372036854775808 by omega) (show sq (sumsq xs) + 1 ≤ 9223372036854775808 by omega)
    unfold big at g
    omega
end Fix

set_option maxHeartbeats 4000000 in
set_option maxRecDepth 100000 in
theorem bigHypot_any (a : Option Addr) (n cap : Nat) (xs : List Int) (w : World) (h : Ints w a n xs) (hf : ∀ k, k < n → Fix.fits (xs.getD k 0)) :
    Calls Tryd.prog 19 #[.slice a n cap] w fun e w' => e = .returned (.tuple #[.int .i64 (Fix.hypV xs), .int .i64 (Fix.hypE xs)]) ∧ Below w.heap.size w w' := by
  obtain ⟨hn, hm, hr⟩ := h
  by_cases h8 : 8 < n
  · have v : Fix.hypV xs = 0 ∧ Fix.hypE xs = 2 := by unfold Fix.hypV Fix.hypE; rw [hn, if_pos h8, if_pos h8]; exact ⟨rfl, rfl⟩
    rw [v.1, v.2]
    clear v hr hf
    go_enter Tryd.func19, Tryd.ntmps19
    go_wp2
    go_ret2
    exact ⟨rfl, Below.refl _ _⟩
  · have hs := Fix.hyp_sgn xs (by omega)
    have HB := Lib.hid (Fix.sumsq_bound xs (by rw [hn]; exact hf))
    have HS := Lib.hid hs
    have HF := Lib.hid hf
    have HR := Lib.hid hr
    have HN := Lib.hid hn
    clear hs hf hr hn
    obtain ⟨V, hV⟩ : ∃ V, Fix.hypV xs = V := ⟨_, rfl⟩
    obtain ⟨E, hE⟩ : ∃ E, Fix.hypE xs = E := ⟨_, rfl⟩
    rw [hV, hE] at HS ⊢
    clear hV hE
    go_enter Tryd.func19, Tryd.ntmps19
    go_wp2_with fail
    go_loopw [5] (fun i wr => ∃ k : Nat, i = .int .i64 k ∧ k ≤ n ∧ Below w.heap.size w wr ∧ Row wr w.heap.size (BigM.dg (Fix.sumsq (xs.take k)))) (fun i _ => n - (intOf i).toNat)
    case atStart => exact ⟨0, rfl, by omega, by go_grown, by rw [List.take_zero, Fix.sumsq, dg_zero]; exact row_new w (fun _ => 0)⟩
    case round =>
      obtain ⟨k, rfl, hk, B, R⟩ := hrel
      have RB := Lib.hid B
      have RR := Lib.hid R
      clear B R
      by_cases hlt : k < n
      · have k1 : (k : Int) < (n : Int) := by omega
        have k0 : (0 : Int) ≤ (k : Int) := by omega
        rcases HR.out with e | ⟨sb, so, rfl, hc⟩
        · omega
        · have hcell := hc k hlt
          have sbl : sb < w.heap.size := World.block_lt_of_cell? w _ hcell
          have CELL := Lib.hid ((RB.out.cell (p := ⟨sb, so + k, none⟩) sbl).trans hcell)
          have SBL := Lib.hid sbl
          have FZ := Lib.hid (HF.out k hlt)
          have ST := Lib.hid (Fix.sumsq_take xs k (by have := HN.out; omega))
          obtain ⟨z, hz⟩ : ∃ z, xs.getD k 0 = z := ⟨_, rfl⟩
          rw [hz] at CELL FZ ST
          clear hc hcell sbl hz
          go_upto_region 7 with fail
          refine hyp_round (Fix.sumsq (xs.take k)) sb so n cap k z rfl rfl k1 k0 FZ.out (by have := FZ.out.1; have := FZ.out.2; omega) (B := w.heap.size) SBL.out CELL.out (by kernel_rfl) rfl rfl rfl rfl rfl rfl rfl rfl rfl rfl rfl rfl rfl rfl rfl rfl RB.out.size rfl RR.out (Nat.le_refl _) ?_
          intro w2 B2 R2
          have RB2 := Lib.hid (RB.out.trans B2)
          have RR2 : Hid (Row w2 w.heap.size (BigM.dg (Fix.sumsq (xs.take (k + 1))))) := Lib.hid (by rw [ST.out]; exact R2)
          clear B2 R2 RB RR CELL ST
          simp only [Act.put, List.setIfInBounds_toArray, List.set_cons_succ, List.set_cons_zero, Big]
          go_wp2_with fail
          go_roundw
          case rel => exact ⟨k + 1, by simp, by omega, RB2.out, RR2.out⟩
          case measure => simp [intOf]; omega
      · obtain rfl : k = n := by omega
        have e : xs.take k = xs := List.take_of_length_le (by have := HN.out; omega)
        have sl : Fix.sumsq xs ≤ Fix.big * k := by have := HB.out k (by have := HN.out; omega); rw [e] at this; exact this
        have R3 : Hid (Row wr w.heap.size (BigM.dg (Fix.sumsq xs))) := Lib.hid (by have := RR.out; rw [e] at this; exact this)
        have s130 : Fix.sumsq xs < 2 ^ 130 := by unfold Fix.big at sl; omega
        have S130 := Lib.hid s130
        clear RR e sl s130
        go_upto_region 8 with fail
        refine hyp_fin (Fix.sumsq xs) S130.out (by have := sq_le (Fix.sumsq xs); have := S130.out; omega) (B := wr.heap.size) (by kernel_rfl) rfl rfl rfl rfl rfl rfl rfl rfl rfl (Nat.le_refl _) rfl R3.out ?_
        intro w2 B2 _
        have RB2 := Lib.hid (RB.out.trans (B2.mono RB.out.size))
        rw [HS.out.1, HS.out.2]
        clear B2
        simp only [Act.put, List.setIfInBounds_toArray, List.set_cons_succ, List.set_cons_zero, Big]
        go_wp2_with fail
        go_ret2
        exact ⟨rfl, RB2.out⟩
end Go.Proofs.YtlniojmjakmcjaaDoor
