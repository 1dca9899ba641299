/- The contract of perigeeref01's Sub over this program. -/
import Derived.Test.YtlniojmjakmcjaaDoorBig3
namespace Go.Proofs.YtlniojmjakmcjaaDoor
open Go.RowKit
set_option linter.unusedVariables false

namespace BigM
theorem dg_low {x y i j : Nat} (h : x % 65536 ^ i = y % 65536 ^ i) (hj : j < i) : dg x j = dg y j := by
  unfold dg
  have e : ∀ z, z / 65536 ^ j % 65536 = z % 65536 ^ i / 65536 ^ j % 65536 := by
    intro z
    obtain ⟨t, rfl⟩ : ∃ t, i = j + (t + 1) := ⟨i - j - 1, by omega⟩
    rw [Nat.pow_add, Nat.mod_mul_right_div_self, Nat.pow_succ, Nat.mul_comm (65536 ^ t), Nat.mod_mul_right_mod]
  rw [e x, e y, h]
theorem dg_high {x y i j : Nat} (h : x / 65536 ^ i = y / 65536 ^ i) (hj : i ≤ j) : dg x j = dg y j := by
  unfold dg
  obtain ⟨t, rfl⟩ : ∃ t, j = i + t := ⟨j - i, by omega⟩
  rw [Nat.pow_add, ← Nat.div_div_eq_div_mul, ← Nat.div_div_eq_div_mul, h]
theorem dg_made (l d h i : Nat) (hl : l < 65536 ^ i) (hd : d < 65536) : (l + 65536 ^ i * (d + 65536 * h)) % 65536 ^ i = l ∧ dg (l + 65536 ^ i * (d + 65536 * h)) i = d ∧ (l + 65536 ^ i * (d + 65536 * h)) / 65536 ^ (i + 1) = h := by
  have q : (l + 65536 ^ i * (d + 65536 * h)) / 65536 ^ i = d + 65536 * h := by rw [Nat.add_mul_div_left _ _ (pow_pos i), Nat.div_eq_of_lt hl]; omega
  refine ⟨by rw [Nat.add_mul_mod_self_left, Nat.mod_eq_of_lt hl], ?_, ?_⟩
  · unfold dg; rw [q]; omega
  · rw [div_succ, q]; omega
theorem parts (u i : Nat) : u = u % 65536 ^ i + 65536 ^ i * (dg u i + 65536 * (u / 65536 ^ (i + 1))) := by
  have h := Nat.div_add_mod u (65536 ^ i)
  have e : u / 65536 ^ i = dg u i + 65536 * (u / 65536 ^ (i + 1)) := by have := div_dg u i; omega
  rw [← e]; omega
/-- One digit less. -/
theorem dg_less {u i e : Nat} (h : e ≤ dg u i) (j : Nat) : dg (u - 65536 ^ i * e) j = if j = i then dg u i - e else dg u j := by
  have p := parts u i
  have lt := dg_lt u i
  have ml := Nat.mod_lt u (pow_pos i)
  have z : u - 65536 ^ i * e = u % 65536 ^ i + 65536 ^ i * ((dg u i - e) + 65536 * (u / 65536 ^ (i + 1))) := by
    have e1 : 65536 ^ i * (dg u i + 65536 * (u / 65536 ^ (i + 1))) = 65536 ^ i * e + 65536 ^ i * ((dg u i - e) + 65536 * (u / 65536 ^ (i + 1))) := by
      rw [← Nat.mul_add]; congr 1; omega
    rw [e1] at p
    omega
  have m := dg_made (u % 65536 ^ i) (dg u i - e) (u / 65536 ^ (i + 1)) i ml (by omega)
  rw [← z] at m
  split
  · subst_vars; exact m.2.1
  · rename_i hj
    rcases Nat.lt_or_ge j i with l | l
    · exact dg_low (i := i) (by rw [m.1]) l
    · exact dg_high (i := i + 1) m.2.2 (by omega)
/-- A digit with a borrow: one less above. -/
theorem dg_borrow {u i e : Nat} (h : dg u i < e) (he : e ≤ 65536) (hu : 0 < u / 65536 ^ (i + 1)) (j : Nat) : dg (u - 65536 ^ i * e) j = if j = i then dg u i + 65536 - e else dg (u - 65536 ^ (i + 1)) j := by
  have p := parts u i
  have lt := dg_lt u i
  have ml := Nat.mod_lt u (pow_pos i)
  obtain ⟨H, hH⟩ : ∃ H, u / 65536 ^ (i + 1) = H + 1 := ⟨u / 65536 ^ (i + 1) - 1, by omega⟩
  rw [hH] at p
  have z : u - 65536 ^ i * e = u % 65536 ^ i + 65536 ^ i * ((dg u i + 65536 - e) + 65536 * H) := by
    have e1 : 65536 ^ i * (dg u i + 65536 * (H + 1)) = 65536 ^ i * e + 65536 ^ i * ((dg u i + 65536 - e) + 65536 * H) := by
      rw [← Nat.mul_add]; congr 1; omega
    rw [e1] at p
    omega
  have z2 : u - 65536 ^ (i + 1) = u % 65536 ^ i + 65536 ^ i * (dg u i + 65536 * H) := by
    have e1 : 65536 ^ i * (dg u i + 65536 * (H + 1)) = 65536 ^ (i + 1) + 65536 ^ i * (dg u i + 65536 * H) := by
      rw [Nat.pow_succ, ← Nat.mul_add]; congr 1; omega
    rw [e1] at p
    omega
  have m := dg_made (u % 65536 ^ i) (dg u i + 65536 - e) H i ml (by omega)
  have m2 := dg_made (u % 65536 ^ i) (dg u i) H i ml lt
  rw [← z] at m
  rw [← z2] at m2
  split
  · subst_vars; exact m.2.1
  · rename_i hj
    rcases Nat.lt_or_ge j i with l | l
    · exact dg_low (i := i) (by rw [m.1, m2.1]) l
    · exact dg_high (i := i + 1) (by rw [m.2.2, m2.2.2]) (by omega)
/-- Zeros in between: u - 65536^a has digits 65535 there. -/
theorem dg_chain : ∀ (n a u : Nat), (∀ j, a ≤ j → j < a + n → dg u j = 0) → 0 < dg u (a + n) → ∀ j, dg (u - 65536 ^ a) j = if j < a then dg u j else if j < a + n then 65535 else if j = a + n then dg u j - 1 else dg u j
  | 0, a, u, _, h1, j => by
    have := dg_less (u := u) (i := a) (e := 1) h1 j
    rw [Nat.mul_one] at this
    rw [this]
    by_cases h : j = a
    · subst h; simp
    · rw [if_neg h]
      by_cases g : j < a
      · rw [if_pos g]
      · rw [if_neg g, if_neg (by omega), if_neg (by omega)]
  | n + 1, a, u, h0, h1, j => by
    have z := h0 a (Nat.le_refl _) (by omega)
    have pos : 0 < u / 65536 ^ (a + 1) := by
      apply Nat.pos_of_ne_zero
      intro e
      have : dg u (a + (n + 1)) = dg 0 (a + (n + 1)) := dg_high (i := a + 1) (by rw [e]; simp) (by omega)
      rw [this] at h1
      simp [dg] at h1
    have b := dg_borrow (u := u) (i := a) (e := 1) (by omega) (by omega) pos j
    rw [Nat.mul_one] at b
    have ih := dg_chain n (a + 1) u (fun j l r => h0 j (by omega) (by omega)) (by rw [show a + 1 + n = a + (n + 1) by omega]; exact h1) j
    rw [b, z]
    by_cases h : j = a
    · subst h; simp
    · rw [if_neg h, ih]
      by_cases g : j < a
      · rw [if_pos (by omega), if_pos g]
      · rw [if_neg (by omega), if_neg g, show a + 1 + n = a + (n + 1) by omega]
/-- No digit above: nothing above. -/
theorem none_above {u : Nat} (hu : u < 65536 ^ 17) : ∀ (n a : Nat), a + n = 17 → (∀ j, a ≤ j → j < 17 → dg u j = 0) → u / 65536 ^ a = 0
  | 0, a, h, _ => by rw [show a = 17 by omega]; exact Nat.div_eq_of_lt hu
  | n + 1, a, h, hz => by
    have ih := none_above hu n (a + 1) (by omega) (fun j l r => hz j (by omega) r)
    rw [div_dg, ih, hz a (Nat.le_refl _) (by omega)]
/-- What is left when the lowest i digits have been taken off. -/
def left (x y i : Nat) : Nat := x - y % 65536 ^ i
theorem left_zero (x y : Nat) : left x y 0 = x := by simp [left, Nat.mod_one]
theorem left_end {x y : Nat} (hy : y < 65536 ^ 17) : left x y 17 = x - y := by unfold left; rw [Nat.mod_eq_of_lt hy]
theorem left_succ (x y i : Nat) : left x y (i + 1) = left x y i - 65536 ^ i * dg y i := by unfold left; rw [mod_succ]; omega
theorem left_lt {x y i : Nat} (hx : x < 65536 ^ 17) : left x y i < 65536 ^ 17 := by unfold left; omega
theorem left_high {x y i : Nat} (h : y ≤ x) (b : dg (left x y i) i < dg y i) : 0 < left x y i / 65536 ^ (i + 1) := by
  have m := Nat.mod_lt y (pow_pos i)
  have d := Nat.div_add_mod y (65536 ^ i)
  have l : 65536 ^ i * (y / 65536 ^ i) ≤ left x y i := by unfold left; omega
  have q := Nat.div_le_div_right (c := 65536 ^ i) l
  rw [Nat.mul_div_cancel_left _ (pow_pos i)] at q
  rw [div_dg (left x y i) i, div_dg y i] at q
  omega
end BigM
end Go.Proofs.YtlniojmjakmcjaaDoor
