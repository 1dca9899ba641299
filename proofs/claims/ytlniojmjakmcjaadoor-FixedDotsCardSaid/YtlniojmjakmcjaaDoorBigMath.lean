/- Numbers as 17 digits to the base 2^16: plain arithmetic, no program. -/
import Derived.WalkKit
set_option linter.unusedVariables false
namespace Go.Proofs.YtlniojmjakmcjaaDoor.BigM
open Go

/-- The i-th digit to the base 2^16. -/
def dg (x i : Nat) : Nat := x / 65536 ^ i % 65536
theorem dg_lt (x i : Nat) : dg x i < 65536 := Nat.mod_lt _ (by decide)
theorem pow_pos (i : Nat) : 0 < 65536 ^ i := Nat.pow_pos (by decide)
theorem div_succ (x i : Nat) : x / 65536 ^ (i + 1) = x / 65536 ^ i / 65536 := by rw [Nat.pow_succ, Nat.div_div_eq_div_mul]
theorem mod_succ (x i : Nat) : x % 65536 ^ (i + 1) = x % 65536 ^ i + 65536 ^ i * dg x i := by rw [Nat.pow_succ, Nat.mod_mul]; rfl
theorem div_add (x y d : Nat) (hd : 0 < d) : (x + y) / d = x / d + y / d + (x % d + y % d) / d := by
  have a := Nat.div_add_mod x d
  have b := Nat.div_add_mod y d
  have e : x + y = (x % d + y % d) + d * (x / d + y / d) := by rw [Nat.mul_add]; omega
  rw [e, Nat.add_mul_div_left _ _ hd]
  omega
/-- The carry into the i-th digit of a sum. -/
def cy (x y i : Nat) : Nat := (x % 65536 ^ i + y % 65536 ^ i) / 65536 ^ i
theorem cy_zero (x y : Nat) : cy x y 0 = 0 := by simp [cy, Nat.mod_one]
theorem cy_le (x y i : Nat) : cy x y i ≤ 1 := by
  unfold cy
  have a := Nat.mod_lt x (pow_pos i)
  have b := Nat.mod_lt y (pow_pos i)
  apply Nat.le_of_lt_succ
  rw [Nat.div_lt_iff_lt_mul (pow_pos i)]
  omega
theorem cy_succ (x y i : Nat) : cy x y (i + 1) = (cy x y i + dg x i + dg y i) / 65536 := by
  unfold cy
  rw [mod_succ, mod_succ, Nat.pow_succ, ← Nat.div_div_eq_div_mul]
  have e : x % 65536 ^ i + 65536 ^ i * dg x i + (y % 65536 ^ i + 65536 ^ i * dg y i) = (x % 65536 ^ i + y % 65536 ^ i) + 65536 ^ i * (dg x i + dg y i) := by rw [Nat.mul_add]; omega
  rw [e, Nat.add_mul_div_left _ _ (pow_pos i), Nat.add_assoc]
theorem dg_add (x y i : Nat) : dg (x + y) i = (cy x y i + dg x i + dg y i) % 65536 := by
  unfold dg cy
  rw [div_add x y _ (pow_pos i)]
  omega
/-- A number below 2^272 is told by its digits. -/
theorem mod_eq (x y : Nat) : ∀ n, (∀ i, i < n → dg x i = dg y i) → x % 65536 ^ n = y % 65536 ^ n
  | 0, _ => by simp [Nat.mod_one]
  | n + 1, h => by rw [mod_succ, mod_succ, mod_eq x y n (fun i hi => h i (by omega)), h n (by omega)]
/-- Digits of the half. -/
theorem dg_half (x i : Nat) : dg (x / 2) i = (dg x i + dg x (i + 1) % 2 * 65536) / 2 := by
  unfold dg
  rw [div_succ, Nat.div_div_eq_div_mul, Nat.mul_comm 2, ← Nat.div_div_eq_div_mul]
  omega
end Go.Proofs.YtlniojmjakmcjaaDoor.BigM

namespace Go.Proofs.YtlniojmjakmcjaaDoor
open Go
/-- A number as the program's Big. -/
def Bg (x : Nat) : Value := .agg #[.int .u64 (BigM.dg x 0), .int .u64 (BigM.dg x 1), .int .u64 (BigM.dg x 2), .int .u64 (BigM.dg x 3), .int .u64 (BigM.dg x 4), .int .u64 (BigM.dg x 5), .int .u64 (BigM.dg x 6), .int .u64 (BigM.dg x 7), .int .u64 (BigM.dg x 8), .int .u64 (BigM.dg x 9), .int .u64 (BigM.dg x 10), .int .u64 (BigM.dg x 11), .int .u64 (BigM.dg x 12), .int .u64 (BigM.dg x 13), .int .u64 (BigM.dg x 14), .int .u64 (BigM.dg x 15), .int .u64 (BigM.dg x 16)]
end Go.Proofs.YtlniojmjakmcjaaDoor
