/- The contract of package fixed's Hypot over this program: the floor of the root of the sum of squares, or the error, for every list of int64. -/
import Derived.Test.YtlniojmjakmcjaaDoorRoot
import Derived.Laws.Externs
namespace Go.Proofs.YtlniojmjakmcjaaDoor
open Go.RowKit
set_option linter.unusedVariables false

theorem add64_run (x y c : Nat) (hc : c ≤ 1) (w : World) :
    (callFunc 36 #[.int .u64 x, .int .u64 y, .int .u64 c]).run Tryd.prog w =
      .ok (.value (.tuple #[.int .u64 (((x + y + c) % 18446744073709551616 : Nat) : Int), .int .u64 (((x + y + c) / 18446744073709551616 : Nat) : Int)])) w := by
  rw [run_callFunc_extern Tryd.func36 (by kernel_rfl) (by kernel_rfl) (by kernel_rfl) (e := add64Entry) (by kernel_rfl), run_add64 x y c (by omega) (by omega) (by omega) (by omega)]
  simp only [Result.andThen]
  congr 5 <;> omega

theorem add64_0 (x y : Nat) (w : World) :
    (callFunc 36 #[.int .u64 x, .int .u64 y, .int .u64 0]).run Tryd.prog w =
      .ok (.value (.tuple #[.int .u64 (((x + y) % 18446744073709551616 : Nat) : Int), .int .u64 (((x + y) / 18446744073709551616 : Nat) : Int)])) w := add64_run x y 0 (by decide) w

namespace Fix
def sumsq : List Int → Nat
  | [] => 0
  | z :: l => z.natAbs * z.natAbs + sumsq l
theorem sumsq_append (a b : List Int) : sumsq (a ++ b) = sumsq a + sumsq b := by
  induction a with
  | nil => simp [sumsq]
  | cons z a ih => simp [sumsq, ih]; omega
theorem sumsq_take (xs : List Int) (k : Nat) (h : k < xs.length) : sumsq (xs.take (k + 1)) = sumsq (xs.take k) + (xs.getD k 0).natAbs * (xs.getD k 0).natAbs := by
  rw [List.take_succ_eq_append_getElem h, sumsq_append]
  simp [sumsq, List.getD, List.getElem?_eq_getElem h]
theorem sumsq_le (xs : List Int) (k : Nat) : sumsq (xs.take k) ≤ sumsq xs := by
  have := sumsq_append (xs.take k) (xs.drop k)
  rw [List.take_append_drop] at this
  omega
/-- 2^126 -/
def big : Nat := 85070591730234615865843651857942052864
def hypV (xs : List Int) : Int := if 8 < xs.length then 0 else if sumsq xs < big then (sq (sumsq xs) : Nat) else 0
def hypE (xs : List Int) : Int := if 8 < xs.length then 2 else if sumsq xs < big then 0 else 7
end Fix

theorem hypot_long (a : Option Addr) (n cap : Nat) (h : 8 < n) (hb : n ≤ 9223372036854775807) (w : World) :
    Calls Tryd.prog 18 #[.slice a n cap] w fun e w' => e = .returned (.tuple #[.int .i64 0, .int .i64 2]) ∧ w = w' := by
  go_enter Tryd.func18, Tryd.ntmps18
  go_wp2
  go_ret2
  exact ⟨rfl, rfl⟩

theorem hypot_empty (a : Option Addr) (cap : Nat) (w : World) :
    Calls Tryd.prog 18 #[.slice a 0 cap] w fun e w' => e = .returned (.tuple #[.int .i64 0, .int .i64 0]) ∧ w = w' := by
  have R := root_any 0 0 (by decide) (by decide)
  have z : Fix.sq (0 * 18446744073709551616 + 0) = 0 := rfl
  rw [z] at R
  have R' := Lib.hid R
  clear R z
  go_enter Tryd.func18, Tryd.ntmps18
  go_wp2_with fail
  refine wp_loop_rounds 1 ?_
  rw [rounds_succ]
  go_wp2_with fail
  refine (R'.out _).mono ?_
  rintro e w' ⟨rfl, rfl⟩
  go_wp2
  go_ret2
  exact ⟨rfl, rfl⟩

set_option maxHeartbeats 1000000 in
theorem hypot_some (b off n cap : Nat) (xs : List Int) (hn : xs.length = n) (h0 : 0 < n) (h8 : n ≤ 8) (hf : ∀ k, k < n → Fix.fits (xs.getD k 0)) (w : World)
    (hc : ∀ k, k < n → w.cell? ⟨b, off + k, none⟩ = some (.int .i64 (xs.getD k 0))) :
    Calls Tryd.prog 18 #[.slice (some ⟨b, off, none⟩) n cap] w fun e w' => e = .returned (.tuple #[.int .i64 (if Fix.sumsq xs < Fix.big then (Fix.sq (Fix.sumsq xs) : Nat) else 0), .int .i64 (if Fix.sumsq xs < Fix.big then 0 else 7)]) ∧ w = w' := by
  have HC := Lib.hid hc
  have HF := Lib.hid hf
  have HN := Lib.hid hn
  clear hc hf hn
  obtain ⟨V, hV⟩ : ∃ V : Int, (if Fix.sumsq xs < Fix.big then ((Fix.sq (Fix.sumsq xs) : Nat) : Int) else 0) = V := ⟨_, rfl⟩
  obtain ⟨E, hE⟩ : ∃ E : Int, (if Fix.sumsq xs < Fix.big then (0 : Int) else 7) = E := ⟨_, rfl⟩
  rw [hV, hE]
  have HV := Lib.hid hV
  have HE := Lib.hid hE
  clear hV hE
  go_enter Tryd.func18, Tryd.ntmps18
  go_wp2_with fail
  go_loop [4, 5, 16] (fun a b i => ∃ hi lo k : Nat, a = .int .u64 hi ∧ b = .int .u64 lo ∧ i = .int .i64 k ∧ k ≤ n ∧ lo < 18446744073709551616 ∧ hi < 4611686018427387904 ∧ Hid (hi * 18446744073709551616 + lo = Fix.sumsq (xs.take k))) (fun _ _ i => n - (intOf i).toNat)
  case atStart => exact ⟨0, 0, 0, rfl, rfl, rfl, by omega, by omega, by omega, Lib.hid (by simp [Fix.sumsq])⟩
  case round =>
    obtain ⟨hi, lo, k, rfl, rfl, rfl, hk, hlo, hhi, HS⟩ := hrel
    by_cases hlt : k < n
    · have cell := HC.out k hlt
      have fz := HF.out k hlt
      have zs := Fix.sumsq_take xs k (by rw [HN.out]; exact hlt)
      rw [← HS.out] at zs
      generalize xs.getD k 0 = z at *
      have zb : z.natAbs ≤ 9223372036854775808 := by have := fz.1; have := fz.2; omega
      have sz := Lib.hid (fun w => size_any z fz w)
      obtain ⟨s, hs⟩ : ∃ s, z.natAbs = s := ⟨_, rfl⟩
      rw [hs] at zs zb sz
      have ss : s * s ≤ 9223372036854775808 * 9223372036854775808 := Nat.mul_le_mul zb zb
      have M := Lib.hid (fun w => mul64_any s s (by omega) (by omega) w)
      obtain ⟨H, hH⟩ : ∃ H, s * s / 18446744073709551616 = H := ⟨_, rfl⟩
      obtain ⟨L, hL⟩ : ∃ L, s * s % 18446744073709551616 = L := ⟨_, rfl⟩
      rw [hH, hL] at M
      have Hle : H ≤ 4611686018427387904 := by omega
      have Llt : L < 18446744073709551616 := by omega
      obtain ⟨lo2, hlo2⟩ : ∃ q, (lo + L) % 18446744073709551616 = q := ⟨_, rfl⟩
      obtain ⟨cy, hcy⟩ : ∃ q, (lo + L) / 18446744073709551616 = q := ⟨_, rfl⟩
      have cy1 : cy ≤ 1 := by omega
      have a1 := fun w => add64_0 lo L w
      rw [hlo2, hcy] at a1
      obtain ⟨hi2, hhi2⟩ : ∃ q, (hi + H + cy) % 18446744073709551616 = q := ⟨_, rfl⟩
      obtain ⟨cz, hcz⟩ : ∃ q, (hi + H + cy) / 18446744073709551616 = q := ⟨_, rfl⟩
      have a2 := fun w => add64_run hi H cy cy1 w
      rw [hhi2, hcz] at a2
      have next : hi2 * 18446744073709551616 + lo2 = Fix.sumsq (xs.take (k + 1)) := by omega
      have lo2lt : lo2 < 18446744073709551616 := by omega
      have NX := Lib.hid next
      have A1 := Lib.hid a1
      have A2 := Lib.hid a2
      clear a1 a2
      clear next zs hs zb ss hH hL hlo2 hcy hhi2 hcz
      by_cases hb : 4611686018427387904 ≤ hi2
      · have far : ¬ Fix.sumsq xs < Fix.big := by
          have l := Fix.sumsq_le xs (k + 1)
          have := NX.out
          unfold Fix.big
          omega
        have v0 : V = 0 := by rw [← HV.out, if_neg far]
        have e7 : E = 7 := by rw [← HE.out, if_neg far]
        subst v0 e7
        have hb' : (4611686018427387904 : Int) ≤ (hi2 : Int) := by omega
        clear far hb
        go_wp2_with fail
        refine (sz.out _).mono ?_
        rintro e w' ⟨rfl, rfl⟩
        go_wp2_with fail
        refine (sz.out _).mono ?_
        rintro e w' ⟨rfl, rfl⟩
        go_wp2_with fail
        refine (M.out _).mono ?_
        rintro e w' ⟨rfl, rfl⟩
        go_wp2_with (first | simp only [A1.out] | simp only [A2.out])
        go_ret2
        exact ⟨rfl, rfl⟩
      · have hb' : decide ((4611686018427387904 : Int) ≤ (hi2 : Int)) = false := by simp; omega
        have hb'' : ¬ (4611686018427387904 : Int) ≤ (hi2 : Int) := by omega
        have hi2lt := Lib.hid (show hi2 < 4611686018427387904 by omega)
        clear hb
        go_wp2_with fail
        refine (sz.out _).mono ?_
        rintro e w' ⟨rfl, rfl⟩
        go_wp2_with fail
        refine (sz.out _).mono ?_
        rintro e w' ⟨rfl, rfl⟩
        go_wp2_with fail
        refine (M.out _).mono ?_
        rintro e w' ⟨rfl, rfl⟩
        go_wp2_with (first | simp only [A1.out] | simp only [A2.out])
        go_round
        case rel => exact ⟨hi2, lo2, k + 1, rfl, rfl, by simp, by omega, lo2lt, hi2lt.out, NX⟩
        case measure => simp [intOf]; omega
    · have kn : k = n := by omega
      have tk : xs.take k = xs := List.take_of_length_le (by rw [HN.out]; omega)
      have e : hi * 18446744073709551616 + lo = Fix.sumsq xs := by rw [HS.out, tk]
      have lt : Fix.sumsq xs < Fix.big := by rw [← e]; unfold Fix.big; omega
      have v0 : V = (Fix.sq (hi * 18446744073709551616 + lo) : Nat) := by rw [← HV.out, if_pos lt, e]
      have e0 : E = 0 := by rw [← HE.out, if_pos lt]
      have R := Lib.hid (fun w => root_any hi lo hhi hlo w)
      subst e0
      rw [← v0] at R
      clear v0 e lt tk
      subst kn
      go_wp2_with fail
      refine (R.out _).mono ?_
      rintro e w' ⟨rfl, rfl⟩
      go_wp2
      go_ret2
      exact ⟨rfl, rfl⟩

/-- A list of int64 that reads xs: nil or empty, or cells one behind the other. -/
def Ints (w : World) (a : Option Addr) (n : Nat) (xs : List Int) : Prop :=
  xs.length = n ∧ n ≤ 9223372036854775807 ∧ (n = 0 ∨ ∃ b off, a = some ⟨b, off, none⟩ ∧ ∀ k, k < n → w.cell? ⟨b, off + k, none⟩ = some (.int .i64 (xs.getD k 0)))

/-- fixed.Hypot: the floor of the root of the sum of squares, or the error. -/
theorem hypot_any (a : Option Addr) (n cap : Nat) (xs : List Int) (w : World) (h : Ints w a n xs) (hf : ∀ k, k < n → Fix.fits (xs.getD k 0)) :
    Calls Tryd.prog 18 #[.slice a n cap] w fun e w' => e = .returned (.tuple #[.int .i64 (Fix.hypV xs), .int .i64 (Fix.hypE xs)]) ∧ w = w' := by
  obtain ⟨hn, hm, hr⟩ := h
  unfold Fix.hypV Fix.hypE
  rw [hn]
  by_cases h8 : 8 < n
  · rw [if_pos h8, if_pos h8]
    exact hypot_long a n cap h8 hm w
  · rw [if_neg h8, if_neg h8]
    rcases Nat.eq_zero_or_pos n with h0 | h0
    · subst h0
      obtain rfl : xs = [] := List.eq_nil_of_length_eq_zero hn
      have z : Fix.sq (Fix.sumsq []) = 0 := rfl
      have l : Fix.sumsq [] < Fix.big := by unfold Fix.big; simp [Fix.sumsq]
      rw [if_pos l, if_pos l, z]
      exact hypot_empty a cap w
    · rcases hr with hr | ⟨b, off, rfl, hc⟩
      · omega
      · exact hypot_some b off n cap xs hn h0 (by omega) hf w hc
end Go.Proofs.YtlniojmjakmcjaaDoor
