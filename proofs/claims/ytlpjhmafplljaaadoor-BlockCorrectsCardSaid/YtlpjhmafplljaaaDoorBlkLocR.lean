/- The reference's solve of no equations and mended without places; the product by 1 + X x. -/
import Derived.Test.YtlpjhmafplljaaaDoorBlkMend
namespace Go.Proofs.YtlpjhmafplljaaaDoor
open Go.RowKit
set_option linter.unusedVariables false

namespace Blk
theorem co_two (x : BitVec 8) (i : Nat) : Gal.co [1, UInt8.ofBitVec x] i = if i = 0 then 1#8 else if i = 1 then x else 0#8 := by
  match i with
  | 0 => rfl
  | 1 => rfl
  | i + 2 => rw [Gal.co_out (by simp), if_neg (by omega), if_neg (by omega)]
theorem conv_two (f : Nat → BitVec 8) (x : BitVec 8) (k : Nat) : ∀ m, Gal.conv m f (Gal.co [1, UInt8.ofBitVec x]) k = (if k < m then f k else 0#8) ^^^ (if 1 ≤ k ∧ k - 1 < m then Gal.mul x (f (k - 1)) else 0#8)
  | 0 => by
    rw [if_neg (by omega), if_neg (by omega)]
    rfl
  | m + 1 => by
    show Gal.conv m f _ k ^^^ Gal.mul (f m) (Gal.sh m _ k) = _
    rw [conv_two f x k m]
    unfold Gal.sh
    by_cases h1 : k = m
    · subst h1
      rw [if_pos (Nat.le_refl _), Nat.sub_self, co_two, if_pos rfl, Gal.mul_one, if_neg (Nat.lt_irrefl k), if_pos (Nat.lt_succ_self k), BitVec.zero_xor, BitVec.xor_comm]
      by_cases h2 : 1 ≤ k ∧ k - 1 < k
      · rw [if_pos h2, if_pos (by omega)]
      · rw [if_neg h2, if_neg (by omega)]
    · by_cases h2 : k = m + 1
      · subst h2
        rw [if_neg (show ¬ m + 1 < m by omega), if_neg (show ¬ (1 ≤ m + 1 ∧ m + 1 - 1 < m) by omega), if_pos (show m ≤ m + 1 by omega), show m + 1 - m = 1 by omega, co_two, if_neg (show ¬ (1 : Nat) = 0 by omega), if_pos rfl, if_neg (show ¬ m + 1 < m + 1 by omega), if_pos (show 1 ≤ m + 1 ∧ m + 1 - 1 < m + 1 by omega), show m + 1 - 1 = m by omega, Gal.mul_comm]
        simp
      · have e : (if m ≤ k then Gal.co [1, UInt8.ofBitVec x] (k - m) else 0#8) = 0#8 := by
          by_cases h3 : m ≤ k
          · rw [if_pos h3, co_two, if_neg (show ¬ k - m = 0 by omega), if_neg (show ¬ k - m = 1 by omega)]
          · rw [if_neg h3]
        rw [e, Gal.mul_zero, BitVec.xor_zero]
        by_cases h3 : k < m
        · rw [if_pos h3, if_pos (show k < m + 1 by omega)]
          by_cases h4 : 1 ≤ k ∧ k - 1 < m
          · rw [if_pos h4, if_pos (show 1 ≤ k ∧ k - 1 < m + 1 by omega)]
          · rw [if_neg h4, if_neg (show ¬ (1 ≤ k ∧ k - 1 < m + 1) by omega)]
        · rw [if_neg h3, if_neg (show ¬ (1 ≤ k ∧ k - 1 < m) by omega), if_neg (show ¬ k < m + 1 by omega), if_neg (show ¬ (1 ≤ k ∧ k - 1 < m + 1) by omega)]
theorem co_prod_two (p : List UInt8) (x : BitVec 8) (h : p.length ≤ 1000) (k : Nat) : Gal.co (Gal.prodV p [1, UInt8.ofBitVec x]) k = Gal.co p k ^^^ Gal.mul x (Gal.sh 1 (Gal.co p) k) := by
  have h1 := Gal.nn_le p
  have h2 := Gal.nn_le [1, UInt8.ofBitVec x]
  simp only [List.length_cons, List.length_nil] at h2
  unfold Gal.prodV
  rw [if_neg (by omega), Gal.co_pol (Gal.prd_out _ _)]
  unfold Gal.prd
  rw [conv_two]
  congr 1
  · by_cases e : k < p.length
    · rw [if_pos e]
    · rw [if_neg e, Gal.co_out (by omega)]
  · unfold Gal.sh
    by_cases e : 1 ≤ k
    · rw [if_pos e]
      by_cases e2 : k - 1 < p.length
      · rw [if_pos ⟨e, e2⟩]
      · rw [if_neg (by omega), Gal.co_out (by omega), Gal.mul_zero]
    · rw [if_neg e, if_neg (by omega), Gal.mul_zero]
theorem prod_two_len (p : List UInt8) (x : BitVec 8) : (Gal.prodV p [1, UInt8.ofBitVec x]).length ≤ p.length + 2 := by
  unfold Gal.prodV
  by_cases h : 1024 ≤ ((Gal.nn p : Int) - 1) + ((Gal.nn [1, UInt8.ofBitVec x] : Int) - 1)
  · rw [if_pos h]
    simp
  · rw [if_neg h]
    unfold Gal.pol
    rw [Gal.trim_length]
    have := Gal.nn_le (Gal.coefs (Gal.prd p [1, UInt8.ofBitVec x]) (p.length + [1, UInt8.ofBitVec x].length))
    rw [Gal.coefs_length] at this
    exact this
theorem prod_two_ok (p : List UInt8) (x : BitVec 8) (h : p.length ≤ 1000) : Gal.prodE p [1, UInt8.ofBitVec x] = 0 := by
  have h1 := Gal.nn_le p
  have h2 := Gal.nn_le [1, UInt8.ofBitVec x]
  simp only [List.length_cons, List.length_nil] at h2
  exact if_neg (by omega)
end Blk
end Go.Proofs.YtlpjhmafplljaaaDoor
