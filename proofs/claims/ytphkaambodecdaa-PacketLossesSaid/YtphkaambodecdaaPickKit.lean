/- The contract of the check kit's Pick over this program. -/
import Derived.Test.YtphkaambodecdaaAppKit
import Derived.Test.YtphkaambodecdaaRowKit
namespace Go.Proofs.Ytphkaambodecdaa
open Go.RowKit
set_option linter.unusedVariables false
theorem pick_any (n : Int) (hn : (Lit.int .i64 n).wf = true) (m : Nat) (h0 : 0 < m) (h1 : m ≤ 4294967296) (w : World) :
    Calls Try.prog 29 #[.int .i64 n, .int .i64 m] w fun e w' => e = .returned (.int .i64 ((n % (m : Int)).toNat : Nat)) ∧ w = w' := by
  obtain ⟨b1, b2⟩ := bounds_i64 hn
  have m0 : (m : Int) ≠ 0 := by omega
  have e0 := Int.emod_nonneg n m0
  have e1 := Int.emod_lt_of_pos n (show 0 < (m : Int) by omega)
  obtain ⟨t, ht⟩ : ∃ t, n.tmod (m : Int) = t := ⟨_, rfl⟩
  obtain ⟨q, hq⟩ : ∃ q : Nat, (n % (m : Int)).toNat = q := ⟨_, rfl⟩
  rw [hq]
  have hs : t = (q : Int) ∨ (t < 0 ∧ t + m = (q : Int)) := by
    rw [← ht]
    by_cases g : 0 ≤ n
    · left
      rw [Int.tmod_eq_emod_of_nonneg g]
      omega
    · have e := Int.tmod_eq_emod (a := n) (b := (m : Int))
      by_cases d : (m : Int) ∣ n
      · left
        rw [if_pos (Or.inr d)] at e
        omega
      · right
        rw [if_neg (by intro h; rcases h with h | h; exact g h; exact d h)] at e
        have : n % (m : Int) ≠ 0 := fun h => d (Int.dvd_of_emod_eq_zero h)
        have na : ((m : Int).natAbs : Int) = m := by simp
        omega
  have tw : IntKind.i64.wrap (n.tmod (m : Int)) = t := by
    rw [ht, IntKind.wrap_i64]
    omega
  rcases hs with hs | ⟨hn, hs⟩
  · subst hs
    clear hq e0 e1
    go_enter Try.func29, Try.ntmps29
    go_wp2_with fail
    go_ret
    exact ⟨rfl, rfl⟩
  · have sw : IntKind.i64.wrap (t + (m : Int)) = (q : Int) := by
      rw [hs, IntKind.wrap_i64]
      omega
    clear hq e0 e1 hs
    go_enter Try.func29, Try.ntmps29
    go_wp2_with fail
    go_ret
    exact ⟨rfl, rfl⟩
end Go.Proofs.Ytphkaambodecdaa
