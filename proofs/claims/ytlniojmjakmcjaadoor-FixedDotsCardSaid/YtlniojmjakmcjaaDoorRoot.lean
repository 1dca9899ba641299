/- The contracts of package fixed's root, Sqrt over this program: the floor of the square root, for all arguments. -/
import Derived.Test.YtlniojmjakmcjaaDoorFix
import Derived.Handy
namespace Go.Proofs.YtlniojmjakmcjaaDoor
open Go.RowKit
set_option linter.unusedVariables false

namespace Fix
/-- The floor of the square root. -/
def sq : Nat → Nat
  | 0 => 0
  | n + 1 => if (sq n + 1) * (sq n + 1) ≤ n + 1 then sq n + 1 else sq n
theorem sq_ok : ∀ n : Nat, sq n * sq n ≤ n ∧ n < (sq n + 1) * (sq n + 1)
  | 0 => ⟨by simp [sq], by simp [sq]⟩
  | n + 1 => by
    have h := sq_ok n
    unfold sq
    generalize sq n = s at *
    split
    · refine ⟨by assumption, ?_⟩
      have e : (s + 1 + 1) * (s + 1 + 1) = (s + 1) * (s + 1) + 2 * (s + 1) + 1 := by simp only [Nat.mul_add, Nat.add_mul]; omega
      omega
    · omega
theorem sq_of {n k : Nat} (h : k * k ≤ n) (h' : n < (k + 1) * (k + 1)) : sq n = k := by
  have a := sq_ok n
  generalize sq n = s at *
  apply Nat.le_antisymm
  · apply Nat.le_of_lt_succ
    apply Nat.lt_of_not_le
    intro g
    have : (k + 1) * (k + 1) ≤ s * s := Nat.mul_le_mul g g
    omega
  · apply Nat.le_of_lt_succ
    apply Nat.lt_of_not_le
    intro g
    have : (s + 1) * (s + 1) ≤ k * k := Nat.mul_le_mul g g
    omega
theorem sq_lt {n b : Nat} (h : n < b * b) : sq n < b := by
  apply Nat.lt_of_not_le
  intro g
  have := Nat.mul_le_mul g g
  have := (sq_ok n).1
  omega

/-- What holds at the head of a round, with the bit 2^j. -/
def RInv (N k j : Nat) : Prop := j ≤ 62 ∧ (∃ m, k = m * 2 ^ (j + 1)) ∧ k * k ≤ N ∧ N < (k + 2 ^ (j + 1)) * (k + 2 ^ (j + 1))
def RRel (N k b : Nat) : Prop := (b = 0 ∧ k * k ≤ N ∧ N < (k + 1) * (k + 1)) ∨ ∃ j, b = 2 ^ j ∧ RInv N k j

theorem r_or {N k j : Nat} (h : RInv N k j) : k ||| 2 ^ j = k + 2 ^ j := by
  obtain ⟨_, ⟨m, rfl⟩, _, _⟩ := h
  have := Nat.shiftLeft_add_eq_or_of_lt (show 2 ^ j < 2 ^ (j + 1) by rw [Nat.pow_succ]; have := Nat.two_pow_pos j; omega) m
  rw [Nat.shiftLeft_eq] at this
  exact this.symm
theorem r_lt {N k j : Nat} (h : RInv N k j) (hN : N < 85070591730234615865843651857942052864) : k + 2 ^ j < 18446744073709551616 := by
  obtain ⟨h1, _, h3, _⟩ := h
  have k1 : k < 9223372036854775808 := by
    apply Nat.lt_of_not_le
    intro g
    have := Nat.mul_le_mul g g
    omega
  have b1 : 2 ^ j ≤ 2 ^ 62 := Nat.pow_le_pow_right (by decide) h1
  rw [show (2 : Nat) ^ 62 = 4611686018427387904 from by decide] at b1
  omega
theorem r_next {N k j k' : Nat} (h : RInv N k j) (hk : (k' = k + 2 ^ j ∧ k' * k' ≤ N) ∨ (k' = k ∧ N < (k + 2 ^ j) * (k + 2 ^ j))) : RRel N k' (2 ^ j / 2) := by
  obtain ⟨h1, ⟨m, hm⟩, h3, h4⟩ := h
  have p : 2 ^ (j + 1) = 2 * 2 ^ j := by rw [Nat.pow_succ]; omega
  rw [p] at hm h4
  have hk2 : k' * k' ≤ N ∧ N < (k' + 2 ^ j) * (k' + 2 ^ j) := by
    rcases hk with ⟨rfl, hk⟩ | ⟨rfl, hk⟩
    · refine ⟨hk, ?_⟩
      rw [show k + 2 ^ j + 2 ^ j = k + 2 * 2 ^ j by omega]
      exact h4
    · exact ⟨h3, hk⟩
  have hm2 : ∃ m', k' = m' * 2 ^ j := by
    rcases hk with ⟨rfl, _⟩ | ⟨rfl, _⟩
    · exact ⟨2 * m + 1, by rw [hm, Nat.add_mul, Nat.one_mul, Nat.mul_comm 2 m, Nat.mul_assoc]⟩
    · exact ⟨2 * m, by rw [hm, Nat.mul_comm 2 m, Nat.mul_assoc]⟩
  cases j with
  | zero => exact Or.inl ⟨rfl, hk2.1, by simpa using hk2.2⟩
  | succ j =>
    refine Or.inr ⟨j, by rw [Nat.pow_succ]; omega, by omega, hm2, hk2.1, hk2.2⟩
end Fix

set_option maxHeartbeats 1000000 in
theorem root_any (hi lo : Nat) (hhi : hi < 4611686018427387904) (hlo : lo < 18446744073709551616) (w : World) :
    Calls Tryd.prog 33 #[.int .u64 hi, .int .u64 lo] w fun e w' => e = .returned (.int .i64 (Fix.sq (hi * 18446744073709551616 + lo) : Nat)) ∧ w = w' := by
  obtain ⟨N, hN⟩ : ∃ N, hi * 18446744073709551616 + lo = N := ⟨_, rfl⟩
  have N1 : N < 85070591730234615865843651857942052864 := by omega
  rw [hN]
  have HN := Lib.hid hN
  have HN1 := Lib.hid N1
  have st : Fix.RRel N 0 4611686018427387904 := Or.inr ⟨62, by decide, by decide, ⟨0, by simp⟩, by simp, by
    have : (0 + 2 ^ (62 + 1)) * (0 + 2 ^ (62 + 1)) = 85070591730234615865843651857942052864 := by decide
    rw [this]; exact N1⟩
  have ST := Lib.hid st
  clear st hN N1
  go_enter Tryd.func33, Tryd.ntmps33
  go_wp2_with fail
  go_loop [5, 6] (fun a b => ∃ k m : Nat, a = .int .u64 k ∧ b = .int .u64 m ∧ Hid (Fix.RRel N k m)) (fun _ b => (intOf b).toNat)
  case atStart => exact ⟨0, 4611686018427387904, rfl, rfl, ST⟩
  case round =>
    obtain ⟨k, m, rfl, rfl, rel⟩ := hrel
    rcases rel.out with ⟨rfl, r1, r2⟩ | ⟨j, hm, ri⟩
    · have kk : Fix.sq N = k := Fix.sq_of r1 r2
      have k1 : k < 9223372036854775808 := by
        apply Nat.lt_of_not_le
        intro g
        have := Nat.mul_le_mul g g
        have := HN1.out
        omega
      have KK := Lib.hid kk
      clear kk r1 r2
      go_wp2
      go_ret
      exact ⟨by rw [KK.out]; rfl, rfl⟩
    · obtain ⟨x, hx⟩ : ∃ x, k + m = x := ⟨_, rfl⟩
      obtain ⟨m2, hm2⟩ : ∃ m2, m / 2 = m2 := ⟨_, rfl⟩
      have m0 : 0 < m := by rw [hm]; exact Nat.two_pow_pos j
      have xo : k ||| m = x := by rw [← hx, hm]; exact Fix.r_or ri
      have xl : x < 18446744073709551616 := by rw [← hx, hm]; exact Fix.r_lt ri HN1.out
      have e1 : bits .or .u64 (k : Int) (m : Int) = (x : Int) := by rw [bits_or_u64_nat _ _ (by omega) (by omega), xo]
      have e2 : (m : Int) / 2 = (m2 : Int) := by omega
      obtain ⟨H, hH⟩ : ∃ H, x * x / 18446744073709551616 = H := ⟨_, rfl⟩
      obtain ⟨L, hL⟩ : ∃ L, x * x % 18446744073709551616 = L := ⟨_, rfl⟩
      have M := Lib.hid (fun w => mul64_any x x xl xl w)
      rw [hH, hL] at M
      have sqx : x * x = H * 18446744073709551616 + L := by omega
      have Llt : L < 18446744073709551616 := by omega
      have m2lt : m2 < m := by omega
      have NX : Hid (H < hi ∨ H = hi ∧ L ≤ lo → Fix.RRel N x m2) := fun c => by
        have := Fix.r_next ri (k' := x) (Or.inl ⟨by rw [← hx, hm], by have := HN.out; omega⟩)
        rw [← hm, hm2] at this; exact this
      have NK : Hid (¬ (H < hi ∨ H = hi ∧ L ≤ lo) → Fix.RRel N k m2) := fun c => by
        have := Fix.r_next ri (k' := k) (Or.inr ⟨rfl, by rw [← hm, hx]; have := HN.out; omega⟩)
        rw [← hm, hm2] at this; exact this
      clear hx hm hm2 xo hH hL sqx ri Llt
      by_cases c1 : H < hi
      · have NX' := Lib.hid (NX.out (Or.inl c1))
        clear NX NK
        have c1' : (H : Int) < (hi : Int) := by omega
        go_wp2_with fail
        refine (M.out _).mono ?_
        rintro e w' ⟨rfl, rfl⟩
        go_wp2_with fail
        go_round
        case rel => exact ⟨x, m2, rfl, rfl, NX'⟩
        case measure => simp [intOf]; omega
      · have c1' : decide ((H : Int) < (hi : Int)) = false := by simp; omega
        have c1'' : ¬ (H : Int) < (hi : Int) := by omega
        by_cases c2 : H = hi
        · by_cases c3 : L ≤ lo
          · have NX' := Lib.hid (NX.out (Or.inr ⟨c2, c3⟩))
            clear NX NK
            subst c2
            have c3' : (L : Int) ≤ (lo : Int) := by omega
            go_wp2_with fail
            refine (M.out _).mono ?_
            rintro e w' ⟨rfl, rfl⟩
            go_wp2_with fail
            go_round
            case rel => exact ⟨x, m2, rfl, rfl, NX'⟩
            case measure => simp [intOf]; omega
          · have NK' := Lib.hid (NK.out (by omega))
            clear NX NK
            subst c2
            have c3' : decide ((L : Int) ≤ (lo : Int)) = false := by simp; omega
            have c3'' : ¬ (L : Int) ≤ (lo : Int) := by omega
            go_wp2_with fail
            refine (M.out _).mono ?_
            rintro e w' ⟨rfl, rfl⟩
            go_wp2_with fail
            go_round
            case rel => exact ⟨k, m2, rfl, rfl, NK'⟩
            case measure => simp [intOf]; omega
        · have NK' := Lib.hid (NK.out (by omega))
          clear NX NK
          have c2' : ((H : Int) == (hi : Int)) = false := by simp; omega
          have c2'' : decide ((H : Int) = (hi : Int)) = false := by simp; omega
          clear c1 c2
          go_wp2_with fail
          refine (M.out _).mono ?_
          rintro e w' ⟨rfl, rfl⟩
          go_wp2_with fail
          go_round
          case rel => exact ⟨k, m2, rfl, rfl, NK'⟩
          case measure => simp [intOf]; omega

theorem sqrt_neg (a : Int) (h : a < 0) (w : World) :
    Calls Tryd.prog 16 #[.int .i64 a] w fun e w' => e = .returned (.tuple #[.int .i64 0, .int .i64 2]) ∧ w = w' := by
  go_enter Tryd.func16, Tryd.ntmps16
  go_wp2
  go_ret2
  exact ⟨rfl, rfl⟩

theorem sqrt_pos (a : Nat) (h : a < 9223372036854775808) (w : World) :
    Calls Tryd.prog 16 #[.int .i64 a] w fun e w' => e = .returned (.tuple #[.int .i64 (Fix.sq (a * 1073741824) : Nat), .int .i64 0]) ∧ w = w' := by
  have e1 : IntKind.u64.wrap (a : Int) = (a : Int) := wrapN a (by omega)
  have M := Lib.hid (fun w => mul64_any a 1073741824 (by omega) (by omega) w)
  have R := Lib.hid (fun w => root_any (a * 1073741824 / 18446744073709551616) (a * 1073741824 % 18446744073709551616) (by omega) (by omega) w)
  have q : a * 1073741824 / 18446744073709551616 * 18446744073709551616 + a * 1073741824 % 18446744073709551616 = a * 1073741824 := by omega
  rw [q] at R
  clear q
  generalize a * 1073741824 / 18446744073709551616 = H at *
  generalize a * 1073741824 % 18446744073709551616 = L at *
  generalize a * 1073741824 = P at *
  have h0 : decide ((a : Int) < 0) = false := by simp
  go_enter Tryd.func16, Tryd.ntmps16
  go_wp2_with fail
  refine (M.out _).mono ?_
  rintro e w' ⟨rfl, rfl⟩
  go_wp2_with fail
  refine (R.out _).mono ?_
  rintro e w' ⟨rfl, rfl⟩
  go_wp2
  go_ret2
  exact ⟨rfl, rfl⟩

/-- fixed.Sqrt: the floor of the square root of a 2^30, or the error. -/
def sqrtV (a : Int) : Int := if a < 0 then 0 else (Fix.sq (a.toNat * 1073741824) : Nat)
def sqrtE (a : Int) : Int := if a < 0 then 2 else 0
theorem sqrt_any (a : Int) (ha : Fix.fits a) (w : World) :
    Calls Tryd.prog 16 #[.int .i64 a] w fun e w' => e = .returned (.tuple #[.int .i64 (sqrtV a), .int .i64 (sqrtE a)]) ∧ w = w' := by
  unfold sqrtV sqrtE
  by_cases h : a < 0
  · rw [if_pos h, if_pos h]; exact sqrt_neg a h w
  · rw [if_neg h, if_neg h]
    obtain ⟨n, rfl⟩ : ∃ n : Nat, a = n := ⟨a.toNat, by omega⟩
    have := ha.2
    exact sqrt_pos n (by omega) w
end Go.Proofs.YtlniojmjakmcjaaDoor
