/- The plain meaning of layer 1's numbers: the nearest integer, what fits, roots; no program. -/
import Derived.IntWalk
import Derived.WalkKit
import Derived.Laws.Bits64b
set_option linter.unusedVariables false
namespace Go.Proofs.YtlniojmjakmcjaaDoor.Fix
open Go

/-- The nearest integer of n / d for d above 0: halves are rounded up. -/
def rnd (n d : Int) : Int := (2 * n + d) / (2 * d)
def fits (m : Int) : Prop := -9223372036854775808 ≤ m ∧ m ≤ 9223372036854775807
instance (m : Int) : Decidable (fits m) := by unfold fits; infer_instance
/-- A result that fits, and 0 otherwise; its error. -/
def valOf (m : Int) : Int := if fits m then m else 0
def errOf (m : Int) : Int := if fits m then 0 else 7
def ratioM (a b c : Int) : Int := if c < 0 then rnd (-(a * b)) (-c) else rnd (a * b) c
def ratioV (a b c : Int) : Int := if c = 0 then 0 else valOf (ratioM a b c)
def ratioE (a b c : Int) : Int := if c = 0 then 2 else errOf (ratioM a b c)

theorem valOf_fits (m : Int) : fits (valOf m) := by
  unfold valOf; split
  · assumption
  · exact ⟨by omega, by omega⟩
theorem ratioV_fits (a b c : Int) : fits (ratioV a b c) := by
  unfold ratioV; split
  · exact ⟨by omega, by omega⟩
  · exact valOf_fits _

/-- The sign of a quotient of three numbers. -/
def odd3 (a b c : Int) : Bool := (decide (a < 0) ^^ decide (b < 0)) ^^ decide (c < 0)

theorem rnd_pos (P D : Nat) (hD : 0 < D) : rnd (P : Int) (D : Int) = ((P / D : Nat) : Int) + (if D ≤ 2 * (P % D) then 1 else 0) := by
  unfold rnd
  have h := Nat.div_add_mod P D
  have l := Nat.mod_lt P hD
  generalize hq : P / D = q at *
  generalize hr : P % D = r at *
  have e : (2 * (P : Int) + (D : Int)) = (2 * (r : Int) + (D : Int)) + (q : Int) * (2 * (D : Int)) := by
    have : (P : Int) = (D : Int) * (q : Int) + (r : Int) := by rw [← h]; simp
    rw [this, Int.mul_add, ← Int.mul_assoc, Int.mul_left_comm (q : Int) 2 (D : Int), Int.mul_comm (q : Int) (D : Int)]
    simp only [Int.mul_assoc]; omega
  rw [e, Int.add_mul_ediv_right _ _ (by omega)]
  split
  · have : (2 * (r : Int) + (D : Int)) / (2 * (D : Int)) = 1 := by
      apply Int.le_antisymm
      · exact Int.le_of_lt_add_one (Int.ediv_lt_of_lt_mul (by omega) (by omega))
      · exact Int.le_ediv_of_mul_le (by omega) (by omega)
    omega
  · have : (2 * (r : Int) + (D : Int)) / (2 * (D : Int)) = 0 := Int.ediv_eq_zero_of_lt (by omega) (by omega)
    omega

theorem rnd_neg (P D : Nat) (hD : 0 < D) : rnd (-(P : Int)) (D : Int) = -(((P / D : Nat) : Int) + (if D < 2 * (P % D) then 1 else 0)) := by
  unfold rnd
  have h := Nat.div_add_mod P D
  have l := Nat.mod_lt P hD
  generalize hq : P / D = q at *
  generalize hr : P % D = r at *
  have e : (2 * (-(P : Int)) + (D : Int)) = (-(2 * (r : Int)) + (D : Int)) + (-(q : Int)) * (2 * (D : Int)) := by
    have : (P : Int) = (D : Int) * (q : Int) + (r : Int) := by rw [← h]; simp
    rw [this, Int.neg_mul, Int.mul_left_comm (q : Int) 2 (D : Int), Int.mul_comm (q : Int) (D : Int)]
    generalize (D : Int) * (q : Int) = z
    omega
  rw [e, Int.add_mul_ediv_right _ _ (by omega)]
  split
  · have : (-(2 * (r : Int)) + (D : Int)) / (2 * (D : Int)) = -1 := by
      apply Int.le_antisymm
      · exact Int.le_of_lt_add_one (Int.ediv_lt_of_lt_mul (by omega) (by omega))
      · exact Int.le_ediv_of_mul_le (by omega) (by omega)
    omega
  · have : (-(2 * (r : Int)) + (D : Int)) / (2 * (D : Int)) = 0 := Int.ediv_eq_zero_of_lt (by omega) (by omega)
    omega

/-- By sign and absolute values. -/
theorem ratioM_abs (a b c : Int) (hc : c ≠ 0) : ratioM a b c = if odd3 a b c = true then rnd (-((a.natAbs * b.natAbs : Nat) : Int)) ((c.natAbs : Nat) : Int) else rnd (((a.natAbs * b.natAbs : Nat) : Int)) ((c.natAbs : Nat) : Int) := by
  unfold ratioM odd3
  have ha : (a.natAbs : Int) = if a < 0 then -a else a := by split <;> omega
  have hb : (b.natAbs : Int) = if b < 0 then -b else b := by split <;> omega
  have hcc : (c.natAbs : Int) = if c < 0 then -c else c := by split <;> omega
  rw [Int.natCast_mul, ha, hb, hcc]
  by_cases h1 : a < 0 <;> by_cases h2 : b < 0 <;> by_cases h3 : c < 0 <;> simp [h1, h2, h3, Int.neg_mul, Int.mul_neg]

theorem bits_xor_neg (a b : Int) (ha : fits a) (hb : fits b) : fits (bits .xor .i64 a b) ∧ decide (bits .xor .i64 a b < 0) = (decide (a < 0) ^^ decide (b < 0)) := by
  obtain ⟨a0, a1⟩ := ha
  obtain ⟨b0, b1⟩ := hb
  have key : bits .xor .i64 a b = (BitVec.ofInt 64 a ^^^ BitVec.ofInt 64 b).toInt := by
    show IntKind.i64.wrap ((BitVec.ofInt 64 a ^^^ BitVec.ofInt 64 b).toNat : Int) = _
    have h := (BitVec.ofInt 64 a ^^^ BitVec.ofInt 64 b).isLt
    rw [IntKind.wrap_i64, BitVec.toInt_eq_toNat_cond]
    split <;> omega
  have m : ∀ x : BitVec 64, decide (x.toInt < 0) = x.msb := by
    intro x
    rw [BitVec.msb_eq_toInt]
  have v : ∀ z : Int, -9223372036854775808 ≤ z → z ≤ 9223372036854775807 → (BitVec.ofInt 64 z).toInt = z := by
    intro z h0 h1
    rw [BitVec.toInt_ofInt]
    exact Int.bmod_eq_of_le (by omega) (by omega)
  rw [key]
  refine ⟨⟨?_, ?_⟩, ?_⟩
  · have := @BitVec.le_toInt 64 (BitVec.ofInt 64 a ^^^ BitVec.ofInt 64 b); omega
  · have := @BitVec.toInt_lt 64 (BitVec.ofInt 64 a ^^^ BitVec.ofInt 64 b); omega
  · rw [m, BitVec.msb_xor, ← m, ← m, v a a0 a1, v b b0 b1]

/-- What 'signed' returns. -/
def sgnV (q : Nat) (neg : Bool) : Int := valOf (if neg = true then -(q : Int) else (q : Int))
def sgnE (q : Nat) (neg : Bool) : Int := errOf (if neg = true then -(q : Int) else (q : Int))

/-- The quotient with its rounding. -/
def up (q r D : Nat) (neg : Bool) : Nat := q + if D < 2 * r ∨ (D = 2 * r ∧ neg = false) then 1 else 0

theorem ratio_fin (a b c : Int) (hc : c ≠ 0) : ratioM a b c = if odd3 a b c = true then -((up (a.natAbs * b.natAbs / c.natAbs) (a.natAbs * b.natAbs % c.natAbs) c.natAbs true : Nat) : Int) else ((up (a.natAbs * b.natAbs / c.natAbs) (a.natAbs * b.natAbs % c.natAbs) c.natAbs false : Nat) : Int) := by
  have hD : 0 < c.natAbs := by omega
  rw [ratioM_abs a b c hc, rnd_pos _ _ hD, rnd_neg _ _ hD]
  unfold up
  split
  · simp
    split <;> rfl
  · simp
    generalize a.natAbs * b.natAbs % c.natAbs = r
    have : (c.natAbs < 2 * r ∨ c.natAbs = 2 * r) ↔ c.natAbs ≤ 2 * r := by omega
    simp only [this]
    split <;> rfl

end Go.Proofs.YtlniojmjakmcjaaDoor.Fix
