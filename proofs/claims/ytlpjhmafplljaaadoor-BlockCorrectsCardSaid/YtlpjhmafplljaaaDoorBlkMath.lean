/- Sums over lists of places, the equations of powers (Vandermonde), zeros of polynomials: plain mathematics of layer 5. -/
import Derived.Test.YtlpjhmafplljaaaDoorGalPoly
namespace Go.Proofs.YtlpjhmafplljaaaDoor
set_option linter.unusedVariables false
namespace Blk
open Gal (mul)
/-- The sum over a list. -/
def xl : List Nat → (Nat → BitVec 8) → BitVec 8
  | [], _ => 0#8
  | k :: l, g => g k ^^^ xl l g
theorem xl_cons (g : Nat → BitVec 8) (k : Nat) (l : List Nat) : xl (k :: l) g = g k ^^^ xl l g := rfl
theorem xl_congr {g h : Nat → BitVec 8} : ∀ (l : List Nat), (∀ k, k ∈ l → g k = h k) → xl l g = xl l h
  | [], _ => rfl
  | k :: l, e => by
    unfold xl
    rw [e k (by simp), xl_congr l (fun j hj => e j (by simp [hj]))]
theorem xl_zero {g : Nat → BitVec 8} : ∀ (l : List Nat), (∀ k, k ∈ l → g k = 0#8) → xl l g = 0#8
  | [], _ => rfl
  | k :: l, e => by
    unfold xl
    rw [e k (by simp), xl_zero l (fun j hj => e j (by simp [hj])), BitVec.xor_zero]
theorem xl_xor (g h : Nat → BitVec 8) : ∀ l, xl l (fun k => g k ^^^ h k) = xl l g ^^^ xl l h
  | [] => by simp [xl]
  | k :: l => by
    rw [xl_cons, xl_cons, xl_cons, xl_xor g h l]
    show (g k ^^^ h k) ^^^ (xl l g ^^^ xl l h) = _
    ac_rfl
theorem xl_mul (c : BitVec 8) (g : Nat → BitVec 8) : ∀ l, xl l (fun k => mul c (g k)) = mul c (xl l g)
  | [] => (Gal.mul_zero c).symm
  | k :: l => by
    unfold xl
    rw [xl_mul c g l, Gal.mul_xor]
theorem xl_append (g : Nat → BitVec 8) : ∀ l m, xl (l ++ m) g = xl l g ^^^ xl m g
  | [], m => by simp [xl]
  | k :: l, m => by
    show g k ^^^ xl (l ++ m) g = (g k ^^^ xl l g) ^^^ xl m g
    rw [xl_append g l m]
    ac_rfl
/-- Only the places count at which there is something. -/
theorem xl_filter (P : Nat → Bool) (g : Nat → BitVec 8) : ∀ l, (∀ k, k ∈ l → P k = false → g k = 0#8) → xl (l.filter P) g = xl l g
  | [], _ => rfl
  | k :: l, e => by
    have ih := xl_filter P g l (fun j hj => e j (by simp [hj]))
    by_cases h : P k = true
    · rw [List.filter_cons_of_pos h, xl_cons, xl_cons, ih]
    · rw [List.filter_cons_of_neg h, xl_cons, e k (by simp) (by simpa using h), ih, BitVec.zero_xor]
theorem xl_comm (g : Nat → Nat → BitVec 8) : ∀ l m, xl l (fun i => xl m (g i)) = xl m (fun j => xl l (fun i => g i j))
  | [], m => (xl_zero m (fun _ _ => rfl)).symm
  | i :: l, m => by
    show xl m (g i) ^^^ xl l (fun i => xl m (g i)) = _
    rw [xl_comm g l m, ← xl_xor]
    rfl
theorem xl_range_succ (g : Nat → BitVec 8) (n : Nat) : xl (List.range (n + 1)) g = xl (List.range n) g ^^^ g n := by
  rw [List.range_succ, xl_append]
  simp [xl]
theorem xl_range_front (g : Nat → BitVec 8) : ∀ n, xl (List.range (n + 1)) g = g 0 ^^^ xl (List.range n) (fun i => g (i + 1))
  | 0 => rfl
  | n + 1 => by
    rw [xl_range_succ, xl_range_front g n, xl_range_succ]
    ac_rfl
/-- One term of a sum. -/
theorem xl_one {g : Nat → BitVec 8} {a : Nat} : ∀ (l : List Nat), l.Nodup → a ∈ l → (∀ k, k ∈ l → k ≠ a → g k = 0#8) → xl l g = g a
  | [], _, h, _ => by cases h
  | k :: l, hn, h, e => by
    obtain ⟨h1, h2⟩ := List.nodup_cons.1 hn
    unfold xl
    by_cases ka : k = a
    · subst ka
      rw [xl_zero l (fun j hj => e j (by simp [hj]) (fun q => h1 (q ▸ hj))), BitVec.xor_zero]
    · rw [e k (by simp) ka, BitVec.zero_xor]
      exact xl_one l h2 (by simpa [Ne.symm ka] using h) (fun j hj hja => e j (by simp [hj]) hja)
theorem xor_eq_zero {a b : BitVec 8} : a ^^^ b = 0#8 ↔ a = b := by
  constructor
  · intro h
    have : (a ^^^ b) ^^^ b = b := by rw [h, BitVec.zero_xor]
    rw [BitVec.xor_assoc, BitVec.xor_self, BitVec.xor_zero] at this
    exact this
  · rintro rfl
    exact BitVec.xor_self
theorem mul_eq_zero {a b : BitVec 8} (h : mul a b = 0#8) : a = 0#8 ∨ b = 0#8 := by
  by_cases ha : a = 0#8
  · exact .inl ha
  · by_cases hb : b = 0#8
    · exact .inr hb
    · exact absurd h (Gal.mul_ne ha hb)
theorem pown_succ (x : BitVec 8) (n : Nat) : Gal.pown x (n + 1) = mul (Gal.pown x n) x := rfl
/-- As many equations of powers as unknowns, of different elements: there is only the solution 0. -/
theorem powers_zero (X : Nat → BitVec 8) : ∀ (l : List Nat) (z : Nat → BitVec 8), l.Nodup → (∀ i, i ∈ l → ∀ j, j ∈ l → X i = X j → i = j) →
    (∀ j, j < l.length → xl l (fun k => mul (z k) (Gal.pown (X k) j)) = 0#8) → ∀ k, k ∈ l → z k = 0#8
  | [], _, _, _, _, _, h => by cases h
  | a :: l, z, hn, hX, hS, k, hk => by
    obtain ⟨h1, h2⟩ := List.nodup_cons.1 hn
    have rest : ∀ k, k ∈ l → mul (z k) (X k ^^^ X a) = 0#8 := by
      refine powers_zero X l (fun k => mul (z k) (X k ^^^ X a)) h2 (fun i hi j hj => hX i (by simp [hi]) j (by simp [hj])) (fun j hj => ?_)
      have s1 := hS (j + 1) (by simp; omega)
      have s0 := hS j (by simp; omega)
      unfold xl at s1 s0
      have e : xl l (fun k => mul (mul (z k) (X k ^^^ X a)) (Gal.pown (X k) j)) = xl l (fun k => mul (z k) (Gal.pown (X k) (j + 1))) ^^^ mul (X a) (xl l (fun k => mul (z k) (Gal.pown (X k) j))) := by
        rw [← xl_mul, ← xl_xor]
        refine xl_congr l (fun k _ => ?_)
        rw [pown_succ, Gal.mul_xor, Gal.xor_mul]
        congr 1
        · rw [Gal.mul_assoc, Gal.mul_comm (X k)]
        · rw [Gal.mul_comm (z k) (X a), Gal.mul_assoc]
      have t1 : xl l (fun k => mul (z k) (Gal.pown (X k) (j + 1))) = mul (z a) (Gal.pown (X a) (j + 1)) := (xor_eq_zero.1 s1).symm
      have t0 : xl l (fun k => mul (z k) (Gal.pown (X k) j)) = mul (z a) (Gal.pown (X a) j) := (xor_eq_zero.1 s0).symm
      rw [e, t1, t0, pown_succ, xor_eq_zero, ← Gal.mul_assoc, Gal.mul_comm (X a)]
    have zl : ∀ k, k ∈ l → z k = 0#8 := fun k hk => by
      rcases mul_eq_zero (rest k hk) with h | h
      · exact h
      · have := hX k (by simp [hk]) a (by simp) (xor_eq_zero.1 h)
        exact absurd (this ▸ hk) h1
    rcases List.mem_cons.1 hk with rfl | hk
    · have s0 := hS 0 (by simp)
      unfold xl at s0
      rw [xl_zero l (fun k hk => by rw [zl k hk, Gal.zero_mul]), BitVec.xor_zero] at s0
      have : mul (z k) 1#8 = 0#8 := s0
      rwa [Gal.mul_one] at this
    · exact zl k hk
/-- The value of n coefficients from k on. -/
def val (a : Nat → BitVec 8) (x : BitVec 8) (k n : Nat) : BitVec 8 := Gal.horner a x k n
theorem val_succ (a : Nat → BitVec 8) (x : BitVec 8) (k n : Nat) : val a x k (n + 1) = mul x (val a x (k + 1) n) ^^^ a k := rfl
/-- A polynomial less its value at y is divided by x + y. -/
theorem val_div (a : Nat → BitVec 8) (x y : BitVec 8) : ∀ m k, val a x k (m + 1) ^^^ val a y k (m + 1) = mul (x ^^^ y) (val (fun i => val a y (i + 1) (m + k - i)) x k m)
  | 0, k => by
    show (mul x 0#8 ^^^ a k) ^^^ (mul y 0#8 ^^^ a k) = mul (x ^^^ y) 0#8
    rw [Gal.mul_zero, Gal.mul_zero, Gal.mul_zero, BitVec.xor_self]
  | m + 1, k => by
    have ih := val_div a x y m (k + 1)
    rw [val_succ a x k (m + 1), val_succ a y k (m + 1), val_succ _ x k m]
    have e1 : val (fun i => val a y (i + 1) (m + 1 + k - i)) x (k + 1) m = val (fun i => val a y (i + 1) (m + (k + 1) - i)) x (k + 1) m := by
      congr 1
      funext i
      rw [show m + 1 + k - i = m + (k + 1) - i by omega]
    have e2 : val a y (k + 1) (m + 1 + k - k) = val a y (k + 1) (m + 1) := by rw [show m + 1 + k - k = m + 1 by omega]
    rw [e1, e2, Gal.mul_xor, ← Gal.mul_assoc, Gal.mul_comm (x ^^^ y) x, Gal.mul_assoc, ← ih, Gal.mul_xor, Gal.xor_mul]
    obtain ⟨p, hp⟩ : ∃ p, mul x (val a x (k + 1) (m + 1)) = p := ⟨_, rfl⟩
    obtain ⟨q, hq⟩ : ∃ p, mul x (val a y (k + 1) (m + 1)) = p := ⟨_, rfl⟩
    obtain ⟨r, hr⟩ : ∃ p, mul y (val a y (k + 1) (m + 1)) = p := ⟨_, rfl⟩
    rw [hp, hq, hr, show (p ^^^ a k) ^^^ (r ^^^ a k) = (p ^^^ r) ^^^ (a k ^^^ a k) by ac_rfl, BitVec.xor_self, BitVec.xor_zero, show (p ^^^ q) ^^^ (q ^^^ r) = (p ^^^ r) ^^^ (q ^^^ q) by ac_rfl, BitVec.xor_self, BitVec.xor_zero]
/-- A polynomial with as many coefficients as different zeros is 0. -/
theorem zeros_zero (X : Nat → BitVec 8) : ∀ (l : List Nat) (a : Nat → BitVec 8) (k : Nat), l.Nodup → (∀ i, i ∈ l → ∀ j, j ∈ l → X i = X j → i = j) →
    (∀ i, i ∈ l → val a (X i) k l.length = 0#8) → ∀ i, i < l.length → a (k + i) = 0#8
  | [], _, _, _, _, _, _, h => by simp at h
  | p :: l, a, k, hn, hX, hz, i, hi => by
    obtain ⟨h1, h2⟩ := List.nodup_cons.1 hn
    have hp := hz p (by simp)
    have hq : ∀ i, i < l.length → val a (X p) (k + i + 1) (l.length + k - (k + i)) = 0#8 := by
      refine zeros_zero X l (fun i => val a (X p) (i + 1) (l.length + k - i)) k h2 (fun i hi j hj => hX i (by simp [hi]) j (by simp [hj])) (fun j hj => ?_)
      have e := val_div a (X j) (X p) l.length k
      have hj0 := hz j (by simp [hj])
      rw [List.length_cons] at hj0 hp
      rw [hj0, hp, BitVec.xor_zero] at e
      rcases mul_eq_zero e.symm with h | h
      · have := hX j (by simp [hj]) p (by simp) (xor_eq_zero.1 h)
        exact absurd (this ▸ hj) h1
      · exact h
    -- from the highest coefficient down, each value of the rest is 0
    have tail : ∀ i, i ≤ l.length → val a (X p) (k + i) (l.length + 1 - i) = 0#8 := fun i hi => by
      cases i with
      | zero => rw [List.length_cons] at hp; exact hp
      | succ i =>
        have := hq i (by omega)
        rwa [show l.length + k - (k + i) = l.length + 1 - (i + 1) by omega, show k + i + 1 = k + (i + 1) by omega] at this
    rw [List.length_cons] at hi
    have t0 := tail i (by omega)
    obtain ⟨m, hm⟩ : ∃ m, l.length + 1 - i = m + 1 := ⟨l.length - i, by omega⟩
    rw [hm, val_succ] at t0
    have t1 : val a (X p) (k + i + 1) m = 0#8 := by
      by_cases e : i = l.length
      · obtain rfl : m = 0 := by omega
        rfl
      · have := tail (i + 1) (by omega)
        rwa [show l.length + 1 - (i + 1) = m by omega, show k + (i + 1) = k + i + 1 by omega] at this
    rw [t1, Gal.mul_zero, BitVec.zero_xor] at t0
    exact t0
/-- The element of a place: different places below 255 have different elements. -/
theorem pw_inj {i j : Nat} (hi : i < 255) (hj : j < 255) (h : Gal.pw i = Gal.pw j) : i = j := by
  rw [← Gal.lg_pw hi, ← Gal.lg_pw hj, h]
theorem pown_pw (i : Nat) : ∀ j, Gal.pown (Gal.pw i) j = Gal.pw (i * j)
  | 0 => rfl
  | j + 1 => by rw [pown_succ, pown_pw i j, Gal.pw_add, Nat.mul_succ]
/-- The values of coefficients as sums. -/
theorem evl_xl (c : Nat → BitVec 8) (x : BitVec 8) : ∀ n, Gal.evl c x n = xl (List.range n) (fun i => mul (c i) (Gal.pown x i))
  | 0 => rfl
  | n + 1 => by
    rw [xl_range_succ, ← evl_xl c x n]
    rfl
theorem val_evl (a : Nat → BitVec 8) (x : BitVec 8) (n : Nat) : val a x 0 n = Gal.evl a x n := Gal.horner_all a x n
/-- Eight syndromes that are 0 and at most eight coefficients that are not: there are none. -/
theorem few_zero (c : Nat → BitVec 8) (n : Nat) (hn : n ≤ 255) (hz : ∀ j, j < 8 → Gal.evl c (Gal.pw j) n = 0#8) (hf : ((List.range n).filter (fun i => decide (c i ≠ 0#8))).length ≤ 8) : ∀ i, i < n → c i = 0#8 := by
  intro i hi
  by_cases h : c i = 0#8
  · exact h
  · refine powers_zero Gal.pw ((List.range n).filter (fun i => decide (c i ≠ 0#8))) c (List.nodup_range.filter _) (fun i hi j hj e => ?_) (fun j hj => ?_) i (by simp [hi, h])
    · have h1 := (List.mem_filter.1 hi).1
      have h2 := (List.mem_filter.1 hj).1
      rw [List.mem_range] at h1 h2
      exact pw_inj (by omega) (by omega) e
    · rw [xl_filter _ _ _ (fun k hk hc => by
        have : c k = 0#8 := by simpa using hc
        rw [this, Gal.zero_mul])]
      have := hz j (by omega)
      rw [evl_xl] at this
      rw [← this]
      refine xl_congr _ (fun k _ => ?_)
      rw [pown_pw, pown_pw, Nat.mul_comm]
end Blk
end Go.Proofs.YtlpjhmafplljaaaDoor
