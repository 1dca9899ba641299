/- The contracts of package fixed's rise, Sin, Cos over this program: the document's definition, for every part of a turn. -/
import Derived.Test.YtlniojmjakmcjaaDoorWave
import Derived.Laws.BitsAllLaws
namespace Go.Proofs.YtlniojmjakmcjaaDoor
open Go.RowKit
set_option linter.unusedVariables false

theorem nest_in {y a b c d e f : Int} (y0 : 0 ≤ y) (y1 : y ≤ 1073741824) (ha : 0 ≤ a) (hb : a ≤ b) (hc : b ≤ c) (hd : c ≤ d) (he : d ≤ e) (hf : e ≤ f) (hx : f ≤ 1073741824) : 0 ≤ nest y a b c d e f ∧ nest y a b c d e f ≤ f ∧ f - e ≤ nest y a b c d e f := by
  unfold nest
  obtain ⟨p1, q1⟩ := mulV_part y0 y1 ha (by omega)
  generalize mulV y a = z1 at *
  obtain ⟨p2, q2⟩ := mulV_part y0 y1 (show 0 ≤ b - z1 by omega) (by omega)
  generalize mulV y (b - z1) = z2 at *
  obtain ⟨p3, q3⟩ := mulV_part y0 y1 (show 0 ≤ c - z2 by omega) (by omega)
  generalize mulV y (c - z2) = z3 at *
  obtain ⟨p4, q4⟩ := mulV_part y0 y1 (show 0 ≤ d - z3 by omega) (by omega)
  generalize mulV y (d - z3) = z4 at *
  obtain ⟨p5, q5⟩ := mulV_part y0 y1 (show 0 ≤ e - z4 by omega) (by omega)
  generalize mulV y (e - z4) = z5 at *
  omega

theorem waveC_in {r : Int} (h0 : 0 ≤ r) (h1 : r ≤ 536870912) : 0 ≤ waveC r ∧ waveC r ≤ 1073741824 := by
  have y := waveY_in h0 h1
  have n := nest_in (a := 296) (b := 26631) (c := 1491308) (d := 44739243) (e := 536870912) (f := 1073741824) y.1 (show waveY r ≤ 1073741824 by omega) (by omega) (by omega) (by omega) (by omega) (by omega) (by omega) (by omega)
  unfold waveC
  omega
theorem waveS_in {r : Int} (h0 : 0 ≤ r) (h1 : r ≤ 536870912) : 0 ≤ waveS r ∧ waveS r ≤ 1073741824 := by
  have x := waveX_in h0 h1
  have y := waveY_in h0 h1
  have n := nest_in (a := 27) (b := 2959) (c := 213044) (d := 8947849) (e := 178956971) (f := 1073741824) y.1 (show waveY r ≤ 1073741824 by omega) (by omega) (by omega) (by omega) (by omega) (by omega) (by omega) (by omega)
  unfold waveS
  have m := mulV_part x.1 (show waveX r ≤ 1073741824 by omega) n.1 (by omega)
  omega

def riseV (r : Int) : Int := if r ≤ 536870912 then waveS r else waveC (1073741824 - r)
theorem riseV_in {r : Int} (h0 : 0 ≤ r) (h1 : r ≤ 1073741824) : 0 ≤ riseV r ∧ riseV r ≤ 1073741824 := by
  unfold riseV
  split
  · exact waveS_in h0 (by omega)
  · exact waveC_in (by omega) (by omega)

theorem rise_any (r : Int) (h0 : 0 ≤ r) (h1 : r ≤ 1073741824) (w : World) (hs : Ser w) :
    Calls Tryd.prog 43 #[.int .i64 r] w fun e w' => e = .returned (.int .i64 (riseV r)) ∧ ∃ n, w' = w.drewN n := by
  have HS := Lib.hid hs
  by_cases h : r ≤ 536870912
  · have v : riseV r = waveS r := if_pos h
    rw [v]
    clear v
    go_enter Tryd.func43, Tryd.ntmps43
    go_wp2_with fail
    refine (wave_sin r h0 h _ HS.out).mono ?_
    rintro e w' ⟨rfl, n, rfl⟩
    go_wp2
    go_ret
    exact ⟨rfl, _, rfl⟩
  · have v : riseV r = waveC (1073741824 - r) := if_neg h
    rw [v]
    clear v
    have hd : decide (r ≤ 536870912) = false := by simp; omega
    go_enter Tryd.func43, Tryd.ntmps43
    go_wp2_with fail
    refine (wave_cos (1073741824 - r) (by omega) (by omega) _ HS.out).mono ?_
    rintro e w' ⟨rfl, n, rfl⟩
    go_wp2
    go_ret
    exact ⟨rfl, _, rfl⟩

theorem and_pow (t i : Nat) : t &&& 2 ^ i = t / 2 ^ i % 2 * 2 ^ i := by
  apply Nat.eq_of_testBit_eq
  intro j
  rw [Nat.testBit_and, Nat.testBit_two_pow, Nat.testBit_mul_two_pow]
  by_cases h : i = j
  · subst h
    simp [Nat.testBit_eq_decide_div_mod_eq]
  · by_cases g : i ≤ j
    · obtain ⟨k, rfl⟩ : ∃ k, j = i + (k + 1) := ⟨j - i - 1, by omega⟩
      have e : i + (k + 1) - i = k + 1 := by omega
      rw [e, Nat.testBit_succ]
      have z : t / 2 ^ i % 2 / 2 = 0 := by omega
      rw [z]
      simp
    · simp [h, g]

theorem and_quarter (t : Nat) (h : t < 4294967296) : bits .and .u32 (t : Int) 1073741824 = if t / 1073741824 % 2 = 1 then 1073741824 else 0 := by
  have e := u32_and_nat t 1073741824 h (by omega)
  have k : t &&& 1073741824 = t / 1073741824 % 2 * 1073741824 := by
    exact and_pow t 30
  rw [k] at e
  rw [show (1073741824 : Int) = ((1073741824 : Nat) : Int) from rfl, e]
  split <;> omega

/-- The place in the first quarter, and the sine, of the part t of a turn. -/
def place (t : Nat) : Int := if t / 1073741824 % 2 = 1 then 1073741824 - ((t % 1073741824 : Nat) : Int) else ((t % 1073741824 : Nat) : Int)
def sinV (t : Nat) : Int := if 2147483648 ≤ t then -riseV (place t) else riseV (place t)
def cosV (t : Nat) : Int := sinV ((t + 1073741824) % 4294967296)
theorem place_in (t : Nat) : 0 ≤ place t ∧ place t ≤ 1073741824 := by unfold place; split <;> omega
theorem sinV_in (t : Nat) : -1073741824 ≤ sinV t ∧ sinV t ≤ 1073741824 := by
  have p := place_in t
  have r := riseV_in p.1 p.2
  unfold sinV; split <;> omega

theorem sin_any (t : Nat) (ht : t < 4294967296) (w : World) (hs : Ser w) :
    Calls Tryd.prog 22 #[.int .u32 t] w fun e w' => e = .returned (.int .i64 (sinV t)) ∧ ∃ n, w' = w.drewN n := by
  have q := and_quarter t ht
  have p := place_in t
  have rin := riseV_in p.1 p.2
  have R := Lib.hid (fun w hs => rise_any (place t) p.1 p.2 w hs)
  have HS := Lib.hid hs
  have r0 : 0 ≤ (t : Int) % 1073741824 := by omega
  have r1 : (t : Int) % 1073741824 < 1073741824 := by omega
  by_cases h : t / 1073741824 % 2 = 1
  · rw [if_pos h] at q
    have pl : 1073741824 - (t : Int) % 1073741824 = place t := by unfold place; rw [if_pos h]; omega
    by_cases h2 : 2147483648 ≤ t
    · have v : sinV t = -riseV (place t) := if_pos h2
      rw [v]
      have h2' : (2147483648 : Int) ≤ (t : Int) := by omega
      clear v h h2
      generalize place t = P at *
      go_enter Tryd.func22, Tryd.ntmps22
      go_wp2_with fail
      refine (R.out _ HS.out).mono ?_
      rintro e w' ⟨rfl, n, rfl⟩
      go_wp2
      go_ret
      exact ⟨rfl, _, rfl⟩
    · have v : sinV t = riseV (place t) := if_neg h2
      rw [v]
      have h2' : decide ((2147483648 : Int) ≤ (t : Int)) = false := by simp; omega
      have h2'' : ¬ (2147483648 : Int) ≤ (t : Int) := by omega
      clear v h h2
      generalize place t = P at *
      go_enter Tryd.func22, Tryd.ntmps22
      go_wp2_with fail
      refine (R.out _ HS.out).mono ?_
      rintro e w' ⟨rfl, n, rfl⟩
      go_wp2
      go_ret
      exact ⟨rfl, _, rfl⟩
  · rw [if_neg h] at q
    have pl : (t : Int) % 1073741824 = place t := by unfold place; rw [if_neg h]; omega
    by_cases h2 : 2147483648 ≤ t
    · have v : sinV t = -riseV (place t) := if_pos h2
      rw [v]
      have h2' : (2147483648 : Int) ≤ (t : Int) := by omega
      clear v h h2
      generalize place t = P at *
      go_enter Tryd.func22, Tryd.ntmps22
      go_wp2_with fail
      refine (R.out _ HS.out).mono ?_
      rintro e w' ⟨rfl, n, rfl⟩
      go_wp2
      go_ret
      exact ⟨rfl, _, rfl⟩
    · have v : sinV t = riseV (place t) := if_neg h2
      rw [v]
      have h2' : decide ((2147483648 : Int) ≤ (t : Int)) = false := by simp; omega
      have h2'' : ¬ (2147483648 : Int) ≤ (t : Int) := by omega
      clear v h h2
      generalize place t = P at *
      go_enter Tryd.func22, Tryd.ntmps22
      go_wp2_with fail
      refine (R.out _ HS.out).mono ?_
      rintro e w' ⟨rfl, n, rfl⟩
      go_wp2
      go_ret
      exact ⟨rfl, _, rfl⟩

theorem cos_any (t : Nat) (ht : t < 4294967296) (w : World) (hs : Ser w) :
    Calls Tryd.prog 24 #[.int .u32 t] w fun e w' => e = .returned (.int .i64 (cosV t)) ∧ ∃ n, w' = w.drewN n := by
  obtain ⟨u, hu⟩ : ∃ u, (t + 1073741824) % 4294967296 = u := ⟨_, rfl⟩
  have u1 : u < 4294967296 := by omega
  have e1 : IntKind.u32.wrap ((t : Int) + 1073741824) = (u : Int) := by rw [IntKind.wrap_u32]; omega
  have S := Lib.hid (fun w hs => sin_any u u1 w hs)
  have HS := Lib.hid hs
  have v : cosV t = sinV u := by unfold cosV; rw [hu]
  rw [v]
  clear v hu
  go_enter Tryd.func24, Tryd.ntmps24
  go_wp2_with fail
  refine (S.out _ HS.out).mono ?_
  rintro e w' ⟨rfl, n, rfl⟩
  go_wp2
  go_ret
  exact ⟨rfl, _, rfl⟩
end Go.Proofs.YtlniojmjakmcjaaDoor
