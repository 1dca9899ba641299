/- The contracts of parity, newStep, Step, Symbols of package convol and of perigeeref06's over this program. -/
import Derived.Test.YtlfnglinalmpjaaCvMath
import Derived.Test.YtlfnglinalmpjaaGalRow
namespace Go.Proofs.Ytlfnglinalmpjaa
open Go.RowKit
set_option linter.unusedVariables false

theorem ofInt_i64 (a : Nat) (h : a < 256) : (BitVec.ofInt 64 (a : Int)).toNat = a := by
  rw [BitVec.toNat_ofInt]
  omega
theorem i64_xor (a b : Nat) (ha : a < 256) (hb : b < 256) : bits .xor .i64 (a : Int) (b : Int) = ((a ^^^ b : Nat) : Int) := by
  have l : a ^^^ b < 256 := Nat.xor_lt_two_pow (n := 8) ha hb
  show IntKind.i64.wrap ((BitVec.ofInt 64 (a : Int) ^^^ BitVec.ofInt 64 (b : Int)).toNat : Int) = _
  rw [BitVec.toNat_xor, ofInt_i64 a ha, ofInt_i64 b hb, IntKind.wrap_i64]
  omega
theorem i64_and (a b : Nat) (ha : a < 256) (hb : b < 256) : bits .and .i64 (a : Int) (b : Int) = ((a &&& b : Nat) : Int) := by
  have l : a &&& b < 256 := Nat.and_lt_two_pow (n := 8) a hb
  show IntKind.i64.wrap ((BitVec.ofInt 64 (a : Int) &&& BitVec.ofInt 64 (b : Int)).toNat : Int) = _
  rw [BitVec.toNat_and, ofInt_i64 a ha, ofInt_i64 b hb, IntKind.wrap_i64]
  omega
theorem par_rec : ∀ n, n < 256 → Cv.par n = (n % 2 + Cv.par (n / 2)) % 2 := by decide +kernel
theorem xor_two : ∀ a, a < 2 → ∀ b, b < 2 → a ^^^ b = (a + b) % 2 := by decide

/-- The loop of both parities: from o, with m left. -/
theorem par_step {m o n : Nat} (hm : m < 256) (ho : o < 2) (h : (o + Cv.par m) % 2 = Cv.par n) : o ^^^ m % 2 < 2 ∧ ((o ^^^ m % 2) + Cv.par (m / 2)) % 2 = Cv.par n := by
  have e := par_rec m hm
  have x := xor_two o ho (m % 2) (Nat.mod_lt _ (by omega))
  rw [x]
  omega


/-- What the numbers of a step are. -/
theorem step_nums (s b : Nat) (hs : s < 64) (hb : b < 2) : (64 * b + s < 128) ∧ ((64 * b + s) &&& 121 < 128) ∧ ((64 * b + s) &&& 91 < 128) :=
  ⟨by omega, Nat.and_lt_two_pow (n := 7) _ (by omega), Nat.and_lt_two_pow (n := 7) _ (by omega)⟩
/-- A step as a value. -/
def stepV (s b : Nat) : Array Value := #[.int .i64 (Cv.nx s b : Nat), .int .i64 (Cv.s1 s b : Nat), .int .i64 (Cv.s2 s b : Nat)]

/-- What Step returns of a state and a bit. -/
def tupV (s b : Nat) : Value := .tuple (stepV s b)
/-- What Step returns of no state or no bit. -/
def zeroV : Value := .tuple #[.int .i64 0, .int .i64 0, .int .i64 0]
/-- A state and a bit. -/
def inr (s b : Int) : Prop := 0 ≤ s ∧ s < 64 ∧ 0 ≤ b ∧ b < 2
instance (s b : Int) : Decidable (inr s b) := by unfold inr; infer_instance
/-- What Step returns. -/
def stepT (s b : Int) : Value := if inr s b then tupV s.toNat b.toNat else zeroV
/-- How many symbols a message has. -/
def symN (n : Int) : Int := if n < 0 ∨ 1100 < n then 0 else 16 * n + 12
/-- In how many symbols a step differs from 0 1. -/
def dfr (a b : Int) : Nat := (if a = 0 then 0 else 1) + (if b = 1 then 0 else 1)
end Go.Proofs.Ytlfnglinalmpjaa
