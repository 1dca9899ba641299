/- The contract of perigeeref07's Decode over this program, of any numbers. -/
import Derived.Test.YtgfihljledmaaaaVitTdec
namespace Go.Proofs.Ytgfihljledmaaaa
open Go.RowKit
set_option linter.unusedVariables false

theorem decA_no {zs : List Int} {n : Int} (h : ¬ dcOk zs n) : DecA zs n (.returned (.tuple #[.string ⟨#[]⟩, .int .i64 0, .int .i64 2])) := by
  unfold DecA
  rw [if_neg h]
set_option maxRecDepth 100000 in
set_option maxHeartbeats 2000000 in
theorem rdecode_any (a : Option Addr) (cap : Nat) (zs : List Int) (N : Nat) (hN : zs.length = N) (hN1 : N ≤ 100000) (n : Int) (w : World) (R : Ints w a zs) :
    Calls Try.prog 12 #[.slice a N cap, .int .i64 n] w fun e w' => DecA zs n e ∧ Below w.heap.size w w' := by
  by_cases h : dcOk zs n
  · obtain ⟨h1, h2, h3, h4⟩ := h
    obtain ⟨m, rfl⟩ : ∃ m : Nat, n = (m : Int) := ⟨n.toNat, by omega⟩
    rw [Int.toNat_natCast] at h3
    obtain ⟨sb, so, rfl, hsb, hc⟩ := R.cell (by omega)
    exact rdecode_ok sb so cap zs N m hN (by omega) (by omega) h4 w hsb (fun j hj => hc j (by omega))
  · have Q := Lib.hid (decA_no h)
    have B := Lib.hid (Below.refl w.heap.size w)
    by_cases g1 : n < 0
    · have d1 : decide (n < 0) = true := by simp; omega
      clear h R hN
      go_enter Try.func12, Try.ntmps12
      go_wp2_with fail
      go_ret3
      exact ⟨Q.out, B.out⟩
    have d1 : decide (n < 0) = false := by simp; omega
    by_cases g2 : 1100 < n
    · have d2 : decide ((1100 : Int) < n) = true := by simp; omega
      clear h R hN
      go_enter Try.func12, Try.ntmps12
      go_wp2_with fail
      go_ret3
      exact ⟨Q.out, B.out⟩
    have d2 : decide ((1100 : Int) < n) = false := by simp; omega
    have SY := Lib.hid (fun w => rsymbols_any n w)
    rw [show symN n = ((16 * n.toNat + 12 : Nat) : Int) by unfold symN; rw [if_neg (by omega)]; omega] at SY
    obtain ⟨M, hM⟩ : ∃ M, 16 * n.toNat + 12 = M := ⟨_, rfl⟩
    rw [hM] at SY
    by_cases g3 : N = M
    · have hs : softOk zs = false := by
        rw [Bool.eq_false_iff]
        intro q
        exact h ⟨by omega, by omega, by omega, q⟩
      have SO := Lib.hid (soft_any a cap zs N hN (by omega) w R)
      rw [hs] at SO
      subst g3
      have e1 : ((N : Int) != (N : Int)) = false := by simp
      clear h R hN hM hs
      go_enter Try.func12, Try.ntmps12
      go_wp2_with fail
      (with_reducible refine (SY.out _).mono ?_)
      rintro e w' ⟨rfl, rfl⟩
      go_wp2_with fail
      (with_reducible refine SO.out.mono ?_)
      rintro e w' ⟨rfl, rfl⟩
      go_wp2_with fail
      go_ret3
      exact ⟨Q.out, B.out⟩
    · have e1 : ((N : Int) != (M : Int)) = true := by simp; omega
      have e2 : ((N : Int) == (M : Int)) = false := by simp; omega
      clear h R hN hM
      go_enter Try.func12, Try.ntmps12
      go_wp2_with fail
      (with_reducible refine (SY.out _).mono ?_)
      rintro e w' ⟨rfl, rfl⟩
      go_wp2_with fail
      go_ret3
      exact ⟨Q.out, B.out⟩
end Go.Proofs.Ytgfihljledmaaaa
