/- The contracts of package fixed's signs, product, plus, whole over this program: numbers of 192 bits in two's complement. -/
import Derived.Test.YtlniojmjakmcjaaDoorHypot
import Derived.Below
import Derived.Laws.Pointers
namespace Go.Proofs.YtlniojmjakmcjaaDoor
open Go.RowKit
set_option linter.unusedVariables false

namespace Fix
/-- The three words of a number, modulo 2^192. -/
def hi3 (z : Int) : Nat := (z / 18446744073709551616 / 18446744073709551616 % 18446744073709551616).toNat
def mid3 (z : Int) : Nat := (z / 18446744073709551616 % 18446744073709551616).toNat
def lo3 (z : Int) : Nat := (z % 18446744073709551616).toNat
theorem hi3_lt (z : Int) : hi3 z < 18446744073709551616 := by unfold hi3; omega
theorem mid3_lt (z : Int) : mid3 z < 18446744073709551616 := by unfold mid3; omega
theorem lo3_lt (z : Int) : lo3 z < 18446744073709551616 := by unfold lo3; omega
def sg (m : Nat) : Nat := if m < 9223372036854775808 then 0 else 18446744073709551615
theorem div_add (x y : Int) : (x + y) / 18446744073709551616 = x / 18446744073709551616 + y / 18446744073709551616 + (((lo3 x + lo3 y) / 18446744073709551616 : Nat) : Int) := by unfold lo3; omega
theorem lo3_add (x y : Int) : lo3 (x + y) = (lo3 x + lo3 y) % 18446744073709551616 := by unfold lo3; omega
theorem lo3_nat (n : Nat) (h : n < 18446744073709551616) : lo3 (n : Int) = n := by unfold lo3; omega
theorem div_nat (n : Nat) (h : n < 18446744073709551616) : (n : Int) / 18446744073709551616 = 0 := by omega
theorem add3 (x y : Int) :
    (lo3 x + lo3 y) % 18446744073709551616 = lo3 (x + y) ∧
    (mid3 x + mid3 y + (lo3 x + lo3 y) / 18446744073709551616) % 18446744073709551616 = mid3 (x + y) ∧
    (hi3 x + hi3 y + (mid3 x + mid3 y + (lo3 x + lo3 y) / 18446744073709551616) / 18446744073709551616) % 18446744073709551616 = hi3 (x + y) := by
  have xl := lo3_lt x
  have yl := lo3_lt y
  have d := div_add x y
  have l := lo3_add x y
  generalize hc : (lo3 x + lo3 y) / 18446744073709551616 = c at *
  have c1 : c ≤ 1 := by omega
  refine ⟨l.symm, ?_, ?_⟩
  · show _ = lo3 ((x + y) / 18446744073709551616)
    rw [d, lo3_add, lo3_add, lo3_nat c (by omega)]
    show (lo3 (x / 18446744073709551616) + lo3 (y / 18446744073709551616) + c) % 18446744073709551616 = _
    omega
  · show (lo3 (x / 18446744073709551616 / 18446744073709551616) + lo3 (y / 18446744073709551616 / 18446744073709551616) + (lo3 (x / 18446744073709551616) + lo3 (y / 18446744073709551616) + c) / 18446744073709551616) % 18446744073709551616 = lo3 ((x + y) / 18446744073709551616 / 18446744073709551616)
    rw [d]
    generalize x / 18446744073709551616 = X
    generalize y / 18446744073709551616 = Y
    have Xl := lo3_lt X
    have Yl := lo3_lt Y
    rw [div_add (X + Y) c, div_add X Y, lo3_add X Y, lo3_nat c (by omega), div_nat c (by omega)]
    generalize hX : lo3 X = p at *
    generalize hY : lo3 Y = q at *
    rw [Int.add_zero, Int.add_assoc, ← Int.natCast_add, lo3_add, lo3_add, lo3_nat _ (by omega)]
    omega
end Fix
def W3 (z : Int) : Value := .agg #[.int .u64 (Fix.hi3 z), .int .u64 (Fix.mid3 z), .int .u64 (Fix.lo3 z)]

theorem signs_any (m : Nat) (h : m < 18446744073709551616) (w : World) :
    Calls Tryd.prog 48 #[.int .u64 m] w fun e w' => e = .returned (.int .u64 (Fix.sg m : Nat)) ∧ w = w' := by
  by_cases c : m < 9223372036854775808
  · have v : Fix.sg m = 0 := if_pos c
    rw [v]
    clear v
    have e1 : (m : Int) / 9223372036854775808 = 0 := by omega
    have e2 : wrap64 (m : Int) = (m : Int) := by unfold wrap64; omega
    go_enter Tryd.func48, Tryd.ntmps48
    go_wp2
    go_ret
    exact ⟨rfl, rfl⟩
  · have v : Fix.sg m = 18446744073709551615 := if_neg c
    rw [v]
    clear v
    have e2 : wrap64 (m : Int) = (m : Int) - 18446744073709551616 := by unfold wrap64; omega
    have e1 : ((m : Int) - 18446744073709551616) / 9223372036854775808 = -1 := by omega
    clear c
    go_enter Tryd.func48, Tryd.ntmps48
    go_wp2
    go_ret
    exact ⟨rfl, rfl⟩

theorem plus_any (x y : Int) (w : World) :
    Calls Tryd.prog 38 #[W3 x, W3 y] w fun e w' => e = .returned (W3 (x + y)) ∧ Below w.heap.size w w' := by
  obtain ⟨e1, e2, e3⟩ := Fix.add3 x y
  have cy1 : (Fix.lo3 x + Fix.lo3 y) / 18446744073709551616 ≤ 1 := by have := Fix.lo3_lt x; have := Fix.lo3_lt y; omega
  have a1 := fun w => add64_0 (Fix.lo3 x) (Fix.lo3 y) w
  have a2 := fun w => add64_run (Fix.mid3 x) (Fix.mid3 y) _ cy1 w
  have cz1 : (Fix.mid3 x + Fix.mid3 y + (Fix.lo3 x + Fix.lo3 y) / 18446744073709551616) / 18446744073709551616 ≤ 1 := by have := Fix.mid3_lt x; have := Fix.mid3_lt y; omega
  have a3 := fun w => add64_run (Fix.hi3 x) (Fix.hi3 y) _ cz1 w
  rw [e1] at a1
  rw [e2] at a2
  rw [e3] at a3
  unfold W3
  generalize Fix.lo3 (x + y) = L at *
  generalize Fix.mid3 (x + y) = M at *
  generalize Fix.hi3 (x + y) = H at *
  generalize (Fix.hi3 x + Fix.hi3 y + (Fix.mid3 x + Fix.mid3 y + (Fix.lo3 x + Fix.lo3 y) / 18446744073709551616) / 18446744073709551616) / 18446744073709551616 = c3 at *
  generalize (Fix.mid3 x + Fix.mid3 y + (Fix.lo3 x + Fix.lo3 y) / 18446744073709551616) / 18446744073709551616 = c2 at *
  generalize (Fix.lo3 x + Fix.lo3 y) / 18446744073709551616 = c1 at *
  generalize Fix.lo3 x = xl at *
  generalize Fix.mid3 x = xm at *
  generalize Fix.hi3 x = xh at *
  generalize Fix.lo3 y = yl at *
  generalize Fix.mid3 y = ym at *
  generalize Fix.hi3 y = yh at *
  have A1 := Lib.hid a1
  have A2 := Lib.hid a2
  have A3 := Lib.hid a3
  clear a1 a2 a3 e1 e2 e3 cy1 cz1
  go_enter Tryd.func38, Tryd.ntmps38
  go_wp2_with (first | simp only [A1.out] | simp only [A2.out] | simp only [A3.out])
  exact bodyPost_ret (v := .agg #[.int .u64 H, .int .u64 M, .int .u64 L]) (by simp [results, Tryd.results38, go_sem]) rfl ⟨rfl, by go_grown⟩

namespace Fix
theorem prod_bound (a b : Int) (ha : fits a) (hb : fits b) : -85070591730234615865843651857942052864 ≤ a * b ∧ a * b ≤ 85070591730234615865843651857942052864 := by
  have h : (a * b).natAbs ≤ 9223372036854775808 * 9223372036854775808 := by
    rw [Int.natAbs_mul]
    exact Nat.mul_le_mul (by have := ha.1; have := ha.2; omega) (by have := hb.1; have := hb.2; omega)
  omega
/-- The middle word of a product, by the words of the factors. -/
def m1 (H B : Nat) (neg : Bool) : Nat := if neg = true then (H + 18446744073709551616 - B) % 18446744073709551616 else H
theorem prod3 (a b : Int) (A B H L : Nat) (ha : fits a) (hb : fits b) (hA : (A : Int) = a % 18446744073709551616) (hB : (B : Int) = b % 18446744073709551616)
    (hH : A * B / 18446744073709551616 = H) (hL : A * B % 18446744073709551616 = L) :
    L = lo3 (a * b) ∧ m1 (m1 H B (decide (a < 0))) A (decide (b < 0)) = mid3 (a * b) ∧ sg (mid3 (a * b)) = hi3 (a * b) := by
  have pb := prod_bound a b ha hb
  obtain ⟨a0, a1⟩ := ha
  obtain ⟨b0, b1⟩ := hb
  have e : ((A * B : Nat) : Int) = (if a < 0 then a + 18446744073709551616 else a) * (if b < 0 then b + 18446744073709551616 else b) := by
    rw [Int.natCast_mul]
    congr 1
    · split <;> omega
    · split <;> omega
  have hs : sg (mid3 (a * b)) = hi3 (a * b) := by
    unfold sg mid3 hi3
    generalize a * b = z at *
    split <;> omega
  have key : L = lo3 (a * b) ∧ m1 (m1 H B (decide (a < 0))) A (decide (b < 0)) = mid3 (a * b) := by
    unfold lo3 mid3 m1
    by_cases ca : a < 0 <;> by_cases cb : b < 0 <;> simp only [ca, cb, if_true, if_false, decide_true, decide_false] at e ⊢
    · rw [Int.add_mul, Int.mul_add] at e
      generalize A * B = P at *
      generalize a * b = z at *
      omega
    · rw [Int.add_mul] at e
      generalize A * B = P at *
      generalize a * b = z at *
      simp
      omega
    · rw [Int.mul_add] at e
      generalize A * B = P at *
      generalize a * b = z at *
      simp
      omega
    · generalize A * B = P at *
      generalize a * b = z at *
      simp
      omega
  exact ⟨key.1, key.2, hs⟩
end Fix

set_option maxHeartbeats 1000000 in
theorem product_any (a b : Int) (ha : Fix.fits a) (hb : Fix.fits b) (w : World) :
    Calls Tryd.prog 39 #[.int .i64 a, .int .i64 b] w fun e w' => e = .returned (W3 (a * b)) ∧ Below w.heap.size w w' := by
  obtain ⟨A, hA⟩ : ∃ A : Nat, (A : Int) = a % 18446744073709551616 := ⟨(a % 18446744073709551616).toNat, by omega⟩
  obtain ⟨B, hB⟩ : ∃ A : Nat, (A : Int) = b % 18446744073709551616 := ⟨(b % 18446744073709551616).toNat, by omega⟩
  obtain ⟨H, hH⟩ : ∃ H, A * B / 18446744073709551616 = H := ⟨_, rfl⟩
  obtain ⟨L, hL⟩ : ∃ H, A * B % 18446744073709551616 = H := ⟨_, rfl⟩
  have M := Lib.hid (fun w => mul64_any A B (by omega) (by omega) w)
  rw [hH, hL] at M
  have Alt : A < 18446744073709551616 := by omega
  have Blt : B < 18446744073709551616 := by omega
  have Hlt : H < 18446744073709551616 := by
    rw [← hH, Nat.div_lt_iff_lt_mul (by decide)]
    exact Nat.lt_of_le_of_lt (Nat.mul_le_mul (Nat.le_of_lt Alt) (Nat.le_refl B)) (Nat.mul_lt_mul_of_pos_left Blt (by decide))
  obtain ⟨k1, k2, k3⟩ := Fix.prod3 a b A B H L ha hb hA hB hH hL
  have e1 : IntKind.u64.wrap a = (A : Int) := by rw [IntKind.wrap_u64]; omega
  have e2 : IntKind.u64.wrap b = (B : Int) := by rw [IntKind.wrap_u64]; omega
  obtain ⟨M1, hM1⟩ : ∃ M, Fix.m1 H B (decide (a < 0)) = M := ⟨_, rfl⟩
  obtain ⟨M2, hM2⟩ : ∃ M, Fix.mid3 (a * b) = M := ⟨_, rfl⟩
  obtain ⟨h3, hh3⟩ : ∃ M, Fix.hi3 (a * b) = M := ⟨_, rfl⟩
  have M2lt : M2 < 18446744073709551616 := by rw [← hM2]; exact Fix.mid3_lt _
  unfold W3
  rw [← k1]
  rw [hM1] at k2
  rw [hM2] at k2 k3 ⊢
  rw [hh3] at k3 ⊢
  have S := Lib.hid (fun w => signs_any M2 M2lt w)
  rw [k3] at S
  clear k1 k3 hM2 hh3 hH hL hA hB
  unfold Fix.m1 at hM1 k2
  have M1lt : M1 < 18446744073709551616 := by rw [← hM1]; split <;> omega
  by_cases ca : a < 0
  · have s1 : IntKind.u64.wrap ((H : Int) - (B : Int)) = (M1 : Int) := by
      rw [← hM1]; simp only [ca, decide_true, if_true, IntKind.wrap_u64]; omega
    clear hM1
    by_cases cb : b < 0
    · have s2 : IntKind.u64.wrap ((M1 : Int) - (A : Int)) = (M2 : Int) := by
        rw [← k2]; simp only [cb, decide_true, if_true, IntKind.wrap_u64]; omega
      clear k2
      go_enter Tryd.func39, Tryd.ntmps39
      go_wp2_with fail
      refine (M.out _).mono ?_
      rintro e w' ⟨rfl, rfl⟩
      go_wp2_with fail
      refine (S.out _).mono ?_
      rintro e w' ⟨rfl, rfl⟩
      go_wp2_with fail
      exact bodyPost_ret (v := .agg #[.int .u64 h3, .int .u64 M2, .int .u64 L]) (by simp [results, Tryd.results39, go_sem]) rfl ⟨rfl, by go_grown⟩
    · have s2 : M1 = M2 := by rw [← k2]; simp [cb]
      subst s2
      clear k2
      go_enter Tryd.func39, Tryd.ntmps39
      go_wp2_with fail
      refine (M.out _).mono ?_
      rintro e w' ⟨rfl, rfl⟩
      go_wp2_with fail
      refine (S.out _).mono ?_
      rintro e w' ⟨rfl, rfl⟩
      go_wp2_with fail
      exact bodyPost_ret (v := .agg #[.int .u64 h3, .int .u64 M1, .int .u64 L]) (by simp [results, Tryd.results39, go_sem]) rfl ⟨rfl, by go_grown⟩
  · have s1 : H = M1 := by rw [← hM1]; simp [ca]
    subst s1
    clear hM1
    by_cases cb : b < 0
    · have s2 : IntKind.u64.wrap ((H : Int) - (A : Int)) = (M2 : Int) := by
        rw [← k2]; simp only [cb, decide_true, if_true, IntKind.wrap_u64]; omega
      clear k2
      go_enter Tryd.func39, Tryd.ntmps39
      go_wp2_with fail
      refine (M.out _).mono ?_
      rintro e w' ⟨rfl, rfl⟩
      go_wp2_with fail
      refine (S.out _).mono ?_
      rintro e w' ⟨rfl, rfl⟩
      go_wp2_with fail
      exact bodyPost_ret (v := .agg #[.int .u64 h3, .int .u64 M2, .int .u64 L]) (by simp [results, Tryd.results39, go_sem]) rfl ⟨rfl, by go_grown⟩
    · have s2 : H = M2 := by rw [← k2]; simp [cb]
      subst s2
      clear k2
      go_enter Tryd.func39, Tryd.ntmps39
      go_wp2_with fail
      refine (M.out _).mono ?_
      rintro e w' ⟨rfl, rfl⟩
      go_wp2_with fail
      refine (S.out _).mono ?_
      rintro e w' ⟨rfl, rfl⟩
      go_wp2_with fail
      exact bodyPost_ret (v := .agg #[.int .u64 h3, .int .u64 H, .int .u64 L]) (by simp [results, Tryd.results39, go_sem]) rfl ⟨rfl, by go_grown⟩
end Go.Proofs.YtlniojmjakmcjaaDoor
