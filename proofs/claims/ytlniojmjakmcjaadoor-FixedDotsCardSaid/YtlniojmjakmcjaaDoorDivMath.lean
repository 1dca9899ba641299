/- Plain arithmetic for the division of a number of 128 bits by one of 64 bits in two digits of 32 bits; no program. -/
import Derived.Lib.BitFns
import Derived.Lib.ItoaNum
import Derived.IntWalk
import Derived.Laws.Bits64b
set_option linter.unusedVariables false
namespace Go.Proofs.YtlniojmjakmcjaaDoor.DivM
open Go

theorem split (q r u v1 v0 : Nat) (h : q * v1 + r = u) : q * (v1 * 4294967296 + v0) + r * 4294967296 = u * 4294967296 + q * v0 := by
  have e : q * (v1 * 4294967296 + v0) = q * v1 * 4294967296 + q * v0 := by rw [Nat.mul_add, Nat.mul_assoc]
  rw [e]; omega

theorem init (u v1 v0 n1 : Nat) (hv1 : 0 < v1) (hn : n1 < 4294967296) : (u * 4294967296 + n1) / (v1 * 4294967296 + v0) ≤ u / v1 := by
  rw [Nat.le_div_iff_mul_le hv1]
  have h := Nat.div_mul_le_self (u * 4294967296 + n1) (v1 * 4294967296 + v0)
  generalize (u * 4294967296 + n1) / (v1 * 4294967296 + v0) = Q at *
  have e : Q * (v1 * 4294967296 + v0) = Q * v1 * 4294967296 + Q * v0 := by rw [Nat.mul_add, Nat.mul_assoc]
  omega

/-- What holds of the digit and its rest at the head of each round. -/
def Inv (u v1 v0 n1 q r : Nat) : Prop := q * v1 + r = u ∧ (u * 4294967296 + n1) / (v1 * 4294967296 + v0) ≤ q ∧ r < 4294967296

theorem inv0 {u v1 v0 n1 : Nat} (hv1 : 0 < v1) (hv : v1 ≤ 4294967296) (hn : n1 < 4294967296) : Inv u v1 v0 n1 (u / v1) (u - u / v1 * v1) := by
  have h := Nat.div_add_mod u v1
  have l := Nat.mod_lt u hv1
  have c := Nat.mul_comm v1 (u / v1)
  exact ⟨by omega, init u v1 v0 n1 hv1 hn, by omega⟩

theorem dlt {u v1 v0 n1 : Nat} (hu : u < v1 * 4294967296 + v0) (hn : n1 < 4294967296) : (u * 4294967296 + n1) / (v1 * 4294967296 + v0) < 4294967296 := by
  rw [Nat.div_lt_iff_lt_mul (by omega)]
  omega

theorem bad1 {u v1 v0 n1 q : Nat} (hu : u < v1 * 4294967296 + v0) (hn : n1 < 4294967296) (h : 4294967296 ≤ q) : (u * 4294967296 + n1) / (v1 * 4294967296 + v0) < q :=
  Nat.lt_of_lt_of_le (dlt hu hn) h

theorem bad2 {u v1 v0 n1 q r : Nat} (hu : u < v1 * 4294967296 + v0) (i : Inv u v1 v0 n1 q r) (h : 4294967296 * r + n1 < q * v0) : (u * 4294967296 + n1) / (v1 * 4294967296 + v0) < q := by
  rw [Nat.div_lt_iff_lt_mul (by omega)]
  have s := split q r u v1 v0 i.1
  omega

theorem good {u v1 v0 n1 q r : Nat} (hu : u < v1 * 4294967296 + v0) (i : Inv u v1 v0 n1 q r) (h : q * v0 ≤ 4294967296 * r + n1) : q = (u * 4294967296 + n1) / (v1 * 4294967296 + v0) := by
  apply Nat.le_antisymm _ i.2.1
  rw [Nat.le_div_iff_mul_le (by omega)]
  have s := split q r u v1 v0 i.1
  omega

/-- One less: the rest grows by v1. -/
theorem dec {u v1 v0 n1 q r : Nat} (i : Inv u v1 v0 n1 q r) (h : (u * 4294967296 + n1) / (v1 * 4294967296 + v0) < q) (hr : r + v1 < 4294967296) : Inv u v1 v0 n1 (q - 1) (r + v1) := by
  obtain ⟨a, b, c⟩ := i
  have hq : 0 < q := Nat.lt_of_le_of_lt (Nat.zero_le _) h
  refine ⟨?_, Nat.le_sub_one_of_lt h, hr⟩
  have : q * v1 = (q - 1) * v1 + v1 := by rw [← Nat.succ_mul]; congr 1; omega
  omega

theorem out {u v1 v0 n1 q r : Nat} (hu : u < v1 * 4294967296 + v0) (hv0 : v0 < 4294967296) (i : Inv u v1 v0 n1 q r) (h : (u * 4294967296 + n1) / (v1 * 4294967296 + v0) < q) (hr : 4294967296 ≤ r + v1) : q - 1 = (u * 4294967296 + n1) / (v1 * 4294967296 + v0) := by
  obtain ⟨a, b, c⟩ := i
  have hq : 0 < q := Nat.lt_of_le_of_lt (Nat.zero_le _) h
  have e : (q - 1) * v1 + (r + v1) = u := by
    have : q * v1 = (q - 1) * v1 + v1 := by rw [← Nat.succ_mul]; congr 1; omega
    omega
  apply Nat.le_antisymm
  · rw [Nat.le_div_iff_mul_le (by omega)]
    have s := split (q - 1) (r + v1) u v1 v0 e
    have : q - 1 < 4294967296 := by
      apply Nat.lt_of_not_le; intro h4
      have := Nat.mul_le_mul_right v1 h4
      omega
    have : (q - 1) * v0 ≤ 4294967295 * 4294967295 := Nat.mul_le_mul (by omega) (by omega)
    omega
  · exact Nat.le_sub_one_of_lt h

theorem inv_q {u v1 v0 n1 q r : Nat} (i : Inv u v1 v0 n1 q r) (hv1 : 2147483648 ≤ v1) (hu : u < 18446744073709551616) : q < 8589934592 := by
  apply Nat.lt_of_not_le; intro h
  have := Nat.mul_le_mul h hv1
  have := i.1
  omega

theorem inv_q0 {u v1 v0 n1 q r : Nat} (i : Inv u v1 v0 n1 q r) (hv0 : v0 < 4294967296) (h : q < 4294967296) : q * v0 < 18446744073709551616 := by
  have : q * v0 ≤ 4294967295 * 4294967295 := Nat.mul_le_mul (by omega) (by omega)
  omega

/-- Everything that the walk names, with the equations by which it comes to it. -/
structure Setup (hi lo y s d v1 v0 u n1 n0 : Nat) : Prop where
  hs : 64 = Lib.bitLen y + s
  s63 : s ≤ 63
  hd : d = y * 2 ^ s
  d0 : 9223372036854775808 ≤ d
  d1 : d < 18446744073709551616
  hv : d = v1 * 4294967296 + v0
  v0lt : v0 < 4294967296
  v1lt : v1 < 4294967296
  v1ge : 2147483648 ≤ v1
  ult : u < d
  n1lt : n1 < 4294967296
  n0lt : n0 < 4294967296
  all : (u * 4294967296 + n1) * 4294967296 + n0 = (hi * 18446744073709551616 + lo) * 2 ^ s
  hu : (hi * 2 ^ s) ||| (lo / 2 ^ (64 - s)) = u
  hhi : hi * 2 ^ s < 18446744073709551616
  hlo : lo * 2 ^ s % 18446744073709551616 = n1 * 4294967296 + n0

theorem setup (hi lo y : Nat) (hy : y < 18446744073709551616) (hh : hi < y) (hl : lo < 18446744073709551616) : ∃ s d v1 v0 u n1 n0, Setup hi lo y s d v1 v0 u n1 n0 := by
  obtain ⟨b1, b2, b3⟩ := Lib.bitLenAux_bounds 64 y hy (by omega)
  have b4 : Lib.bitLen y ≤ 64 := Lib.bitLen_le y 64 (by omega) hy
  change 1 ≤ Lib.bitLen y at b1
  change 2 ^ (Lib.bitLen y - 1) ≤ y at b2
  change y < 2 ^ Lib.bitLen y at b3
  obtain ⟨s, hs⟩ : ∃ s, 64 = Lib.bitLen y + s := ⟨64 - Lib.bitLen y, by omega⟩
  have p64 : (2 : Nat) ^ 64 = 18446744073709551616 := by decide
  have p63 : (2 : Nat) ^ 63 = 9223372036854775808 := by decide
  have d1 : y * 2 ^ s < 18446744073709551616 := by
    have := Nat.mul_lt_mul_of_pos_right b3 (Nat.two_pow_pos s)
    rw [← Nat.pow_add, ← hs, p64] at this
    exact this
  have d0 : 9223372036854775808 ≤ y * 2 ^ s := by
    have := Nat.mul_le_mul_right (2 ^ s) b2
    rw [← Nat.pow_add, show Lib.bitLen y - 1 + s = 63 by omega, p63] at this
    exact this
  have hhi : (hi + 1) * 2 ^ s ≤ y * 2 ^ s := Nat.mul_le_mul_right _ hh
  rw [Nat.add_mul, Nat.one_mul] at hhi
  have ps : 2 ^ (64 - s) * 2 ^ s = 18446744073709551616 := by rw [← Nat.pow_add, show 64 - s + s = 64 by omega, p64]
  have e1 : lo / 2 ^ (64 - s) = lo * 2 ^ s / 18446744073709551616 := by
    rw [← ps, Nat.mul_div_mul_right _ _ (Nat.two_pow_pos s)]
  have e2 : (hi * 18446744073709551616 + lo) * 2 ^ s = hi * 2 ^ s * 18446744073709551616 + lo * 2 ^ s := by rw [Nat.add_mul, Nat.mul_right_comm]
  have l1 : lo / 2 ^ (64 - s) < 2 ^ s := by
    rw [Nat.div_lt_iff_lt_mul (Nat.two_pow_pos _), Nat.mul_comm, ps]; exact hl
  have hor : (hi * 2 ^ s) ||| (lo / 2 ^ (64 - s)) = hi * 2 ^ s + lo / 2 ^ (64 - s) := by
    have := Nat.shiftLeft_add_eq_or_of_lt l1 hi
    rw [Nat.shiftLeft_eq] at this
    exact this.symm
  refine ⟨s, y * 2 ^ s, y * 2 ^ s / 4294967296, y * 2 ^ s % 4294967296, hi * 2 ^ s + lo / 2 ^ (64 - s), lo * 2 ^ s % 18446744073709551616 / 4294967296, lo * 2 ^ s % 18446744073709551616 % 4294967296, ?_⟩
  exact ⟨hs, by omega, rfl, d0, d1, by omega, by omega, by omega, by omega, by omega, by omega, by omega,
    by rw [e2, e1]; generalize hi * 2 ^ s = A; generalize lo * 2 ^ s = B; omega, hor, by omega, by omega⟩

theorem finalX (X A y s d n0 : Nat) (d0 : 0 < d) (hd : d = y * 2 ^ s) (ha : A * 4294967296 + n0 = X * 2 ^ s) :
    X / y = A / d * 4294967296 + (A % d * 4294967296 + n0) / d ∧ X % y = (A % d * 4294967296 + n0) % d / 2 ^ s := by
  have hp := Nat.two_pow_pos s
  have q : X / y = X * 2 ^ s / d := by rw [hd, Nat.mul_div_mul_right _ _ hp]
  have r : X % y = X * 2 ^ s % d / 2 ^ s := by rw [hd, Nat.mul_mod_mul_right, Nat.mul_div_cancel _ hp]
  rw [q, r, ← ha]
  have e : A * 4294967296 + n0 = (A % d * 4294967296 + n0) + d * (A / d * 4294967296) := by
    have h := Nat.div_add_mod A d
    generalize A / d = Q at *
    generalize A % d = R at *
    rw [← h, Nat.add_mul, Nat.mul_assoc]; omega
  rw [e, Nat.add_mul_div_left _ _ d0, Nat.add_mul_mod_self_left]
  exact ⟨Nat.add_comm _ _, rfl⟩

/-- The quotient and the remainder out of both digits. -/
theorem final {hi lo y s d v1 v0 u n1 n0 : Nat} (S : Setup hi lo y s d v1 v0 u n1 n0) :
    (hi * 18446744073709551616 + lo) / y = (u * 4294967296 + n1) / d * 4294967296 + ((u * 4294967296 + n1) % d * 4294967296 + n0) / d ∧
    (hi * 18446744073709551616 + lo) % y = ((u * 4294967296 + n1) % d * 4294967296 + n0) % d / 2 ^ s :=
  finalX _ _ y s d n0 (Nat.lt_of_lt_of_le (by decide) S.d0) S.hd S.all

theorem one {u d n1 q : Nat} (hu : u < d) (hd : d < 18446744073709551616) (hq : q = (u * 4294967296 + n1) / d) :
    IntKind.u64.wrap (IntKind.u64.wrap (IntKind.u64.wrap ((u : Int) * 4294967296) + (n1 : Int)) - IntKind.u64.wrap ((q : Int) * (d : Int))) = (((u * 4294967296 + n1) % d : Nat) : Int) := by
  have h := Nat.div_add_mod (u * 4294967296 + n1) d
  have l := Nat.mod_lt (u * 4294967296 + n1) (show 0 < d by omega)
  rw [← hq, Nat.mul_comm] at h
  have e : (q : Int) * (d : Int) = ((q * d : Nat) : Int) := (Int.natCast_mul q d).symm
  rw [e]
  generalize q * d = p at *
  generalize (u * 4294967296 + n1) % d = R at *
  simp only [IntKind.wrap_u64]
  omega

end Go.Proofs.YtlniojmjakmcjaaDoor.DivM
