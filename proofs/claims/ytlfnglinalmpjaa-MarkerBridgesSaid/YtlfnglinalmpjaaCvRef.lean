/- The contracts of perigeeref06's Bits and Encode over this program. -/
import Derived.Test.YtlfnglinalmpjaaCvStep
import Derived.Test.YtlfnglinalmpjaaAppKit
namespace Go.Proofs.Ytlfnglinalmpjaa
open Go.RowKit
set_option linter.unusedVariables false

theorem mb_at (f : Nat → BitVec 8) (n i j : Nat) (hi : i < n) (hj : j < 8) : Cv.mb f n (8 * i + j) = Cv.bit (f i) j := by
  unfold Cv.mb
  rw [if_pos (by omega), show (8 * i + j) / 8 = i by omega, show (8 * i + j) % 8 = j by omega]
theorem mb_tail (f : Nat → BitVec 8) (n i : Nat) (h : 8 * n ≤ i) : Cv.mb f n i = 0 := by
  unfold Cv.mb
  rw [if_neg (by omega)]
/-- What the walk sees of one bit of a byte. -/
theorem bit_parts (x : BitVec 8) (j : Nat) : ∃ q : Nat, x.toNat / 2 ^ (7 - j) = q ∧ q < 256 ∧ q % 2 = Cv.bit x j :=
  ⟨_, rfl, Nat.lt_of_le_of_lt (Nat.div_le_self _ _) x.isLt, rfl⟩
theorem div_cast (c d q : Nat) (h : c / 2 ^ d = q) : (c : Int) / 2 ^ d = (q : Int) := by
  rw [← h, Int.natCast_ediv]
  simp
/-- The symbols as bytes. -/
def symB (g : Nat → Nat) (i : Nat) : BitVec 8 := BitVec.ofNat 8 (Cv.sym g i)
theorem symB_nat (g : Nat → Nat) (i : Nat) : (symB g i).toNat = Cv.sym g i := by
  have := Cv.sym_lt g i
  unfold symB
  rw [BitVec.toNat_ofNat]
  omega
theorem vals_two (g : Nat → Nat) (k : Nat) : vals (symB g) (2 * (k + 1)) = vals (symB g) (2 * k) ++ [.int .u8 (Cv.s1 (Cv.stt g k) (g k) : Nat), .int .u8 (Cv.s2 (Cv.stt g k) (g k) : Nat)] := by
  rw [show 2 * (k + 1) = 2 * k + 1 + 1 by omega, vals_succ, vals_succ, symB_nat, symB_nat, Cv.sym_even, Cv.sym_odd]
  simp
/-- What Encode returns of n bytes. -/
def encS (s : ByteArray) (n : Nat) : ByteArray := ⟨(Gal.coefs (symB (Cv.mb (Gal.co s.data.toList) n)) (16 * n + 12)).toArray⟩
end Go.Proofs.Ytlfnglinalmpjaa
