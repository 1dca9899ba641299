/- The contracts of perigeeref04's Mul, Div, Pow, Log over this program. -/
import Derived.Test.YtlpjhmafplljaaaDoorGalEl
namespace Go.Proofs.YtlpjhmafplljaaaDoor
open Go.RowKit
set_option linter.unusedVariables false

theorem i64_xor_nat (a b : Nat) (ha : a < 512) (hb : b < 512) : bits .xor .i64 (a : Int) (b : Int) = ((a ^^^ b : Nat) : Int) := by
  have hx : a ^^^ b < 2 ^ 9 := Nat.xor_lt_two_pow (by omega) (by omega)
  show IntKind.i64.wrap ((BitVec.ofInt 64 (a : Int) ^^^ BitVec.ofInt 64 (b : Int)).toNat : Int) = _
  rw [BitVec.toNat_xor, ofInt_u64 a (by omega), ofInt_u64 b (by omega), IntKind.wrap_i64]
  omega
theorem bit_tmod (c j : Nat) : ((c : Int) / 2 ^ j).tmod 2 = ((c / 2 ^ j % 2 : Nat) : Int) := by
  rw [Int.tmod_eq_emod_of_nonneg (Int.ediv_nonneg (by omega) (Int.pow_nonneg (by omega)))]
  simp
theorem img_step (c : Nat → BitVec 8) (b : BitVec 8) (k : Nat) : Crc.img c b (k + 1) = if b.toNat / 2 ^ k % 2 = 1 then Crc.img c b k ^^^ c k else Crc.img c b k := by
  have e : b.getLsbD k = decide (b.toNat / 2 ^ k % 2 = 1) := Nat.testBit_eq_decide_div_mod_eq
  show (if b.getLsbD k then _ else _) = _
  rw [e]
  by_cases h : b.toNat / 2 ^ k % 2 = 1
  · rw [if_pos h, if_pos (decide_eq_true h)]
  · rw [if_neg h, if_neg (by simpa using h)]
end Go.Proofs.YtlpjhmafplljaaaDoor
