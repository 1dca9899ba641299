/- BlkMath, BlkGauss, BlkCode, BlkLoc, BlkDec as one text. -/
import Derived.Test.YtlpjhmafplljaaaGreatDoorGalPoly
/- Sums over lists of places, the equations of powers (Vandermonde), zeros of polynomials: plain mathematics of layer 5. -/
namespace Go.Proofs.YtlpjhmafplljaaaGreatDoor
set_option linter.unusedVariables false
namespace Blk
open Gal (mul)
/-- The sum over a list. -/
def xl : List Nat → (Nat → BitVec 8) → BitVec 8
  | [], _ => 0#8
  | k :: l, g => g k ^^^ xl l g
theorem xl_cons (g : Nat → BitVec 8) (k : Nat) (l : List Nat) : xl (k :: l) g = g k ^^^ xl l g := rfl
theorem xl_congr {g h : Nat → BitVec 8} : ∀ (l : List Nat), (∀ k, k ∈ l → g k = h k) → xl l g = xl l h
  | [], _ => rfl
  | k :: l, e => by
    unfold xl
    rw [e k (by simp), xl_congr l (fun j hj => e j (by simp [hj]))]
theorem xl_zero {g : Nat → BitVec 8} : ∀ (l : List Nat), (∀ k, k ∈ l → g k = 0#8) → xl l g = 0#8
  | [], _ => rfl
  | k :: l, e => by
    unfold xl
    rw [e k (by simp), xl_zero l (fun j hj => e j (by simp [hj])), BitVec.xor_zero]
theorem xl_xor (g h : Nat → BitVec 8) : ∀ l, xl l (fun k => g k ^^^ h k) = xl l g ^^^ xl l h
  | [] => by simp [xl]
  | k :: l => by
    rw [xl_cons, xl_cons, xl_cons, xl_xor g h l]
    show (g k ^^^ h k) ^^^ (xl l g ^^^ xl l h) = _
    ac_rfl
theorem xl_mul (c : BitVec 8) (g : Nat → BitVec 8) : ∀ l, xl l (fun k => mul c (g k)) = mul c (xl l g)
  | [] => (Gal.mul_zero c).symm
  | k :: l => by
    unfold xl
    rw [xl_mul c g l, Gal.mul_xor]
theorem xl_append (g : Nat → BitVec 8) : ∀ l m, xl (l ++ m) g = xl l g ^^^ xl m g
  | [], m => by simp [xl]
  | k :: l, m => by
    show g k ^^^ xl (l ++ m) g = (g k ^^^ xl l g) ^^^ xl m g
    rw [xl_append g l m]
    ac_rfl
/-- Only the places count at which there is something. -/
theorem xl_filter (P : Nat → Bool) (g : Nat → BitVec 8) : ∀ l, (∀ k, k ∈ l → P k = false → g k = 0#8) → xl (l.filter P) g = xl l g
  | [], _ => rfl
  | k :: l, e => by
    have ih := xl_filter P g l (fun j hj => e j (by simp [hj]))
    by_cases h : P k = true
    · rw [List.filter_cons_of_pos h, xl_cons, xl_cons, ih]
    · rw [List.filter_cons_of_neg h, xl_cons, e k (by simp) (by simpa using h), ih, BitVec.zero_xor]
theorem xl_comm (g : Nat → Nat → BitVec 8) : ∀ l m, xl l (fun i => xl m (g i)) = xl m (fun j => xl l (fun i => g i j))
  | [], m => (xl_zero m (fun _ _ => rfl)).symm
  | i :: l, m => by
    show xl m (g i) ^^^ xl l (fun i => xl m (g i)) = _
    rw [xl_comm g l m, ← xl_xor]
    rfl
theorem xl_range_succ (g : Nat → BitVec 8) (n : Nat) : xl (List.range (n + 1)) g = xl (List.range n) g ^^^ g n := by
  rw [List.range_succ, xl_append]
  simp [xl]
theorem xl_range_front (g : Nat → BitVec 8) : ∀ n, xl (List.range (n + 1)) g = g 0 ^^^ xl (List.range n) (fun i => g (i + 1))
  | 0 => rfl
  | n + 1 => by
    rw [xl_range_succ, xl_range_front g n, xl_range_succ]
    ac_rfl
/-- One term of a sum. -/
theorem xl_one {g : Nat → BitVec 8} {a : Nat} : ∀ (l : List Nat), l.Nodup → a ∈ l → (∀ k, k ∈ l → k ≠ a → g k = 0#8) → xl l g = g a
  | [], _, h, _ => by cases h
  | k :: l, hn, h, e => by
    obtain ⟨h1, h2⟩ := List.nodup_cons.1 hn
    unfold xl
    by_cases ka : k = a
    · subst ka
      rw [xl_zero l (fun j hj => e j (by simp [hj]) (fun q => h1 (q ▸ hj))), BitVec.xor_zero]
    · rw [e k (by simp) ka, BitVec.zero_xor]
      exact xl_one l h2 (by simpa [Ne.symm ka] using h) (fun j hj hja => e j (by simp [hj]) hja)
theorem xor_eq_zero {a b : BitVec 8} : a ^^^ b = 0#8 ↔ a = b := by
  constructor
  · intro h
    have : (a ^^^ b) ^^^ b = b := by rw [h, BitVec.zero_xor]
    rw [BitVec.xor_assoc, BitVec.xor_self, BitVec.xor_zero] at this
    exact this
  · rintro rfl
    exact BitVec.xor_self
theorem mul_eq_zero {a b : BitVec 8} (h : mul a b = 0#8) : a = 0#8 ∨ b = 0#8 := by
  by_cases ha : a = 0#8
  · exact .inl ha
  · by_cases hb : b = 0#8
    · exact .inr hb
    · exact absurd h (Gal.mul_ne ha hb)
theorem pown_succ (x : BitVec 8) (n : Nat) : Gal.pown x (n + 1) = mul (Gal.pown x n) x := rfl
/-- As many equations of powers as unknowns, of different elements: there is only the solution 0. -/
theorem powers_zero (X : Nat → BitVec 8) : ∀ (l : List Nat) (z : Nat → BitVec 8), l.Nodup → (∀ i, i ∈ l → ∀ j, j ∈ l → X i = X j → i = j) →
    (∀ j, j < l.length → xl l (fun k => mul (z k) (Gal.pown (X k) j)) = 0#8) → ∀ k, k ∈ l → z k = 0#8
  | [], _, _, _, _, _, h => by cases h
  | a :: l, z, hn, hX, hS, k, hk => by
    obtain ⟨h1, h2⟩ := List.nodup_cons.1 hn
    have rest : ∀ k, k ∈ l → mul (z k) (X k ^^^ X a) = 0#8 := by
      refine powers_zero X l (fun k => mul (z k) (X k ^^^ X a)) h2 (fun i hi j hj => hX i (by simp [hi]) j (by simp [hj])) (fun j hj => ?_)
      have s1 := hS (j + 1) (by simp; omega)
      have s0 := hS j (by simp; omega)
      unfold xl at s1 s0
      have e : xl l (fun k => mul (mul (z k) (X k ^^^ X a)) (Gal.pown (X k) j)) = xl l (fun k => mul (z k) (Gal.pown (X k) (j + 1))) ^^^ mul (X a) (xl l (fun k => mul (z k) (Gal.pown (X k) j))) := by
        rw [← xl_mul, ← xl_xor]
        refine xl_congr l (fun k _ => ?_)
        rw [pown_succ, Gal.mul_xor, Gal.xor_mul]
        congr 1
        · rw [Gal.mul_assoc, Gal.mul_comm (X k)]
        · rw [Gal.mul_comm (z k) (X a), Gal.mul_assoc]
      have t1 : xl l (fun k => mul (z k) (Gal.pown (X k) (j + 1))) = mul (z a) (Gal.pown (X a) (j + 1)) := (xor_eq_zero.1 s1).symm
      have t0 : xl l (fun k => mul (z k) (Gal.pown (X k) j)) = mul (z a) (Gal.pown (X a) j) := (xor_eq_zero.1 s0).symm
      rw [e, t1, t0, pown_succ, xor_eq_zero, ← Gal.mul_assoc, Gal.mul_comm (X a)]
    have zl : ∀ k, k ∈ l → z k = 0#8 := fun k hk => by
      rcases mul_eq_zero (rest k hk) with h | h
      · exact h
      · have := hX k (by simp [hk]) a (by simp) (xor_eq_zero.1 h)
        exact absurd (this ▸ hk) h1
    rcases List.mem_cons.1 hk with rfl | hk
    · have s0 := hS 0 (by simp)
      unfold xl at s0
      rw [xl_zero l (fun k hk => by rw [zl k hk, Gal.zero_mul]), BitVec.xor_zero] at s0
      have : mul (z k) 1#8 = 0#8 := s0
      rwa [Gal.mul_one] at this
    · exact zl k hk
/-- The value of n coefficients from k on. -/
def val (a : Nat → BitVec 8) (x : BitVec 8) (k n : Nat) : BitVec 8 := Gal.horner a x k n
theorem val_succ (a : Nat → BitVec 8) (x : BitVec 8) (k n : Nat) : val a x k (n + 1) = mul x (val a x (k + 1) n) ^^^ a k := rfl
/-- A polynomial less its value at y is divided by x + y. -/
theorem val_div (a : Nat → BitVec 8) (x y : BitVec 8) : ∀ m k, val a x k (m + 1) ^^^ val a y k (m + 1) = mul (x ^^^ y) (val (fun i => val a y (i + 1) (m + k - i)) x k m)
  | 0, k => by
    show (mul x 0#8 ^^^ a k) ^^^ (mul y 0#8 ^^^ a k) = mul (x ^^^ y) 0#8
    rw [Gal.mul_zero, Gal.mul_zero, Gal.mul_zero, BitVec.xor_self]
  | m + 1, k => by
    have ih := val_div a x y m (k + 1)
    rw [val_succ a x k (m + 1), val_succ a y k (m + 1), val_succ _ x k m]
    have e1 : val (fun i => val a y (i + 1) (m + 1 + k - i)) x (k + 1) m = val (fun i => val a y (i + 1) (m + (k + 1) - i)) x (k + 1) m := by
      congr 1
      funext i
      rw [show m + 1 + k - i = m + (k + 1) - i by omega]
    have e2 : val a y (k + 1) (m + 1 + k - k) = val a y (k + 1) (m + 1) := by rw [show m + 1 + k - k = m + 1 by omega]
    rw [e1, e2, Gal.mul_xor, ← Gal.mul_assoc, Gal.mul_comm (x ^^^ y) x, Gal.mul_assoc, ← ih, Gal.mul_xor, Gal.xor_mul]
    obtain ⟨p, hp⟩ : ∃ p, mul x (val a x (k + 1) (m + 1)) = p := ⟨_, rfl⟩
    obtain ⟨q, hq⟩ : ∃ p, mul x (val a y (k + 1) (m + 1)) = p := ⟨_, rfl⟩
    obtain ⟨r, hr⟩ : ∃ p, mul y (val a y (k + 1) (m + 1)) = p := ⟨_, rfl⟩
    rw [hp, hq, hr, show (p ^^^ a k) ^^^ (r ^^^ a k) = (p ^^^ r) ^^^ (a k ^^^ a k) by ac_rfl, BitVec.xor_self, BitVec.xor_zero, show (p ^^^ q) ^^^ (q ^^^ r) = (p ^^^ r) ^^^ (q ^^^ q) by ac_rfl, BitVec.xor_self, BitVec.xor_zero]
/-- A polynomial with as many coefficients as different zeros is 0. -/
theorem zeros_zero (X : Nat → BitVec 8) : ∀ (l : List Nat) (a : Nat → BitVec 8) (k : Nat), l.Nodup → (∀ i, i ∈ l → ∀ j, j ∈ l → X i = X j → i = j) →
    (∀ i, i ∈ l → val a (X i) k l.length = 0#8) → ∀ i, i < l.length → a (k + i) = 0#8
  | [], _, _, _, _, _, _, h => by simp at h
  | p :: l, a, k, hn, hX, hz, i, hi => by
    obtain ⟨h1, h2⟩ := List.nodup_cons.1 hn
    have hp := hz p (by simp)
    have hq : ∀ i, i < l.length → val a (X p) (k + i + 1) (l.length + k - (k + i)) = 0#8 := by
      refine zeros_zero X l (fun i => val a (X p) (i + 1) (l.length + k - i)) k h2 (fun i hi j hj => hX i (by simp [hi]) j (by simp [hj])) (fun j hj => ?_)
      have e := val_div a (X j) (X p) l.length k
      have hj0 := hz j (by simp [hj])
      rw [List.length_cons] at hj0 hp
      rw [hj0, hp, BitVec.xor_zero] at e
      rcases mul_eq_zero e.symm with h | h
      · have := hX j (by simp [hj]) p (by simp) (xor_eq_zero.1 h)
        exact absurd (this ▸ hj) h1
      · exact h
    -- from the highest coefficient down, each value of the rest is 0
    have tail : ∀ i, i ≤ l.length → val a (X p) (k + i) (l.length + 1 - i) = 0#8 := fun i hi => by
      cases i with
      | zero => rw [List.length_cons] at hp; exact hp
      | succ i =>
        have := hq i (by omega)
        rwa [show l.length + k - (k + i) = l.length + 1 - (i + 1) by omega, show k + i + 1 = k + (i + 1) by omega] at this
    rw [List.length_cons] at hi
    have t0 := tail i (by omega)
    obtain ⟨m, hm⟩ : ∃ m, l.length + 1 - i = m + 1 := ⟨l.length - i, by omega⟩
    rw [hm, val_succ] at t0
    have t1 : val a (X p) (k + i + 1) m = 0#8 := by
      by_cases e : i = l.length
      · obtain rfl : m = 0 := by omega
        rfl
      · have := tail (i + 1) (by omega)
        rwa [show l.length + 1 - (i + 1) = m by omega, show k + (i + 1) = k + i + 1 by omega] at this
    rw [t1, Gal.mul_zero, BitVec.zero_xor] at t0
    exact t0
/-- The element of a place: different places below 255 have different elements. -/
theorem pw_inj {i j : Nat} (hi : i < 255) (hj : j < 255) (h : Gal.pw i = Gal.pw j) : i = j := by
  rw [← Gal.lg_pw hi, ← Gal.lg_pw hj, h]
theorem pown_pw (i : Nat) : ∀ j, Gal.pown (Gal.pw i) j = Gal.pw (i * j)
  | 0 => rfl
  | j + 1 => by rw [pown_succ, pown_pw i j, Gal.pw_add, Nat.mul_succ]
/-- The values of coefficients as sums. -/
theorem evl_xl (c : Nat → BitVec 8) (x : BitVec 8) : ∀ n, Gal.evl c x n = xl (List.range n) (fun i => mul (c i) (Gal.pown x i))
  | 0 => rfl
  | n + 1 => by
    rw [xl_range_succ, ← evl_xl c x n]
    rfl
theorem val_evl (a : Nat → BitVec 8) (x : BitVec 8) (n : Nat) : val a x 0 n = Gal.evl a x n := Gal.horner_all a x n
/-- Eight syndromes that are 0 and at most eight coefficients that are not: there are none. -/
theorem few_zero (c : Nat → BitVec 8) (n : Nat) (hn : n ≤ 255) (hz : ∀ j, j < 8 → Gal.evl c (Gal.pw j) n = 0#8) (hf : ((List.range n).filter (fun i => decide (c i ≠ 0#8))).length ≤ 8) : ∀ i, i < n → c i = 0#8 := by
  intro i hi
  by_cases h : c i = 0#8
  · exact h
  · refine powers_zero Gal.pw ((List.range n).filter (fun i => decide (c i ≠ 0#8))) c (List.nodup_range.filter _) (fun i hi j hj e => ?_) (fun j hj => ?_) i (by simp [hi, h])
    · have h1 := (List.mem_filter.1 hi).1
      have h2 := (List.mem_filter.1 hj).1
      rw [List.mem_range] at h1 h2
      exact pw_inj (by omega) (by omega) e
    · rw [xl_filter _ _ _ (fun k hk hc => by
        have : c k = 0#8 := by simpa using hc
        rw [this, Gal.zero_mul])]
      have := hz j (by omega)
      rw [evl_xl] at this
      rw [← this]
      refine xl_congr _ (fun k _ => ?_)
      rw [pown_pw, pown_pw, Nat.mul_comm]
end Blk
end Go.Proofs.YtlpjhmafplljaaaGreatDoor
/- Linear equations over the field of 256 elements by elimination: plain mathematics of layer 5. -/
namespace Go.Proofs.YtlpjhmafplljaaaGreatDoor
set_option linter.unusedVariables false
namespace Blk
open Gal (mul)
/-- n rows of n coefficients and a right side, of which t times is asked: t = 1: the solutions, t = 0: what is sent to 0. -/
def Solves (M : Nat → Nat → BitVec 8) (n : Nat) (y : Nat → BitVec 8) (t : BitVec 8) : Prop := ∀ r, r < n → xl (List.range n) (fun c => mul (M r c) (y c)) = mul (M r n) t
/-- The same solutions. -/
def Equiv (n : Nat) (M M' : Nat → Nat → BitVec 8) : Prop := ∀ y t, Solves M n y t ↔ Solves M' n y t
theorem Equiv.refl (n : Nat) (M : Nat → Nat → BitVec 8) : Equiv n M M := fun _ _ => Iff.rfl
theorem Equiv.trans {n : Nat} {A B C : Nat → Nat → BitVec 8} (h : Equiv n A B) (k : Equiv n B C) : Equiv n A C := fun y t => (h y t).trans (k y t)
theorem Equiv.of_eq {n : Nat} {A B : Nat → Nat → BitVec 8} (h : ∀ r c, r < n → c ≤ n → A r c = B r c) : Equiv n A B := fun y t => by
  unfold Solves
  refine forall_congr' fun r => forall_congr' fun hr => ?_
  rw [h r n hr (Nat.le_refl _), xl_congr _ (fun c hc => by rw [h r c hr (by have := List.mem_range.1 hc; omega)])]
def gswap (M : Nat → Nat → BitVec 8) (i k : Nat) : Nat → Nat → BitVec 8 := fun r c => if r = i then M k c else if r = k then M i c else M r c
def gscale (M : Nat → Nat → BitVec 8) (i : Nat) (f : BitVec 8) : Nat → Nat → BitVec 8 := fun r c => if r = i then mul (M r c) f else M r c
def gadd (M : Nat → Nat → BitVec 8) (i r0 : Nat) (f : BitVec 8) : Nat → Nat → BitVec 8 := fun r c => if r = r0 then M r c ^^^ mul f (M i c) else M r c
def gelim (M : Nat → Nat → BitVec 8) (i : Nat) : Nat → Nat → BitVec 8 := fun r c => if r = i then M r c else M r c ^^^ mul (M r i) (M i c)
theorem swap_equiv {n : Nat} (M : Nat → Nat → BitVec 8) {i k : Nat} (hi : i < n) (hk : k < n) : Equiv n M (gswap M i k) := fun y t => by
  have e : ∀ r, (fun c => mul (gswap M i k r c) (y c)) = if r = i then (fun c => mul (M k c) (y c)) else if r = k then (fun c => mul (M i c) (y c)) else (fun c => mul (M r c) (y c)) := fun r => by
    funext c
    unfold gswap
    split
    · rfl
    · split <;> rfl
  constructor
  · intro h r hr
    rw [e]
    unfold gswap
    by_cases h1 : r = i
    · rw [if_pos h1, if_pos h1]; exact h k hk
    · rw [if_neg h1, if_neg h1]
      by_cases h2 : r = k
      · rw [if_pos h2, if_pos h2]; exact h i hi
      · rw [if_neg h2, if_neg h2]; exact h r hr
  · intro h r hr
    by_cases h1 : r = i
    · subst h1
      have := h k hk
      rw [e] at this
      unfold gswap at this
      by_cases h2 : k = r
      · subst h2
        rw [if_pos rfl, if_pos rfl] at this
        exact this
      · rw [if_neg h2, if_neg h2, if_pos rfl, if_pos rfl] at this
        exact this
    · by_cases h2 : r = k
      · subst h2
        have := h i hi
        rw [e] at this
        unfold gswap at this
        rw [if_pos rfl, if_pos rfl] at this
        exact this
      · have := h r hr
        rw [e] at this
        unfold gswap at this
        rw [if_neg h1, if_neg h1, if_neg h2, if_neg h2] at this
        exact this
theorem mul_cancel {a b f : BitVec 8} (hf : f ≠ 0#8) : mul f a = mul f b ↔ a = b := by
  constructor
  · intro h
    have : mul f (a ^^^ b) = 0#8 := by rw [Gal.mul_xor, h, BitVec.xor_self]
    rcases mul_eq_zero this with h1 | h1
    · exact absurd h1 hf
    · exact xor_eq_zero.1 h1
  · rintro rfl; rfl
theorem scale_equiv {n : Nat} (M : Nat → Nat → BitVec 8) (i : Nat) {f : BitVec 8} (hf : f ≠ 0#8) : Equiv n M (gscale M i f) := fun y t => by
  unfold Solves
  refine forall_congr' fun r => forall_congr' fun hr => ?_
  unfold gscale
  by_cases h : r = i
  · have e : (fun c => mul (if r = i then mul (M r c) f else M r c) (y c)) = fun c => mul f (mul (M r c) (y c)) := by
      funext c
      rw [if_pos h, Gal.mul_comm (M r c) f, Gal.mul_assoc]
    rw [e, xl_mul, if_pos h, Gal.mul_comm (M r n) f, Gal.mul_assoc, mul_cancel hf]
  · have e : (fun c => mul (if r = i then mul (M r c) f else M r c) (y c)) = fun c => mul (M r c) (y c) := by
      funext c
      rw [if_neg h]
    rw [e, if_neg h]
theorem add_equiv {n : Nat} (M : Nat → Nat → BitVec 8) {i r0 : Nat} (hi : i < n) (hne : r0 ≠ i) (f : BitVec 8) : Equiv n M (gadd M i r0 f) := fun y t => by
  have e : ∀ r, xl (List.range n) (fun c => mul (gadd M i r0 f r c) (y c)) = if r = r0 then xl (List.range n) (fun c => mul (M r c) (y c)) ^^^ mul f (xl (List.range n) (fun c => mul (M i c) (y c))) else xl (List.range n) (fun c => mul (M r c) (y c)) := fun r => by
    by_cases h : r = r0
    · rw [if_pos h, ← xl_mul, ← xl_xor]
      refine xl_congr _ (fun c _ => ?_)
      unfold gadd
      rw [if_pos h, Gal.xor_mul, Gal.mul_assoc]
    · rw [if_neg h]
      refine xl_congr _ (fun c _ => ?_)
      unfold gadd
      rw [if_neg h]
  have g : ∀ r, mul (gadd M i r0 f r n) t = if r = r0 then mul (M r n) t ^^^ mul f (mul (M i n) t) else mul (M r n) t := fun r => by
    unfold gadd
    by_cases h : r = r0
    · rw [if_pos h, if_pos h, Gal.xor_mul, Gal.mul_assoc]
    · rw [if_neg h, if_neg h]
  constructor
  · intro h r hr
    rw [e, g, h r hr, h i hi]
  · intro h r hr
    have hr' := h r hr
    have hi' := h i hi
    rw [e, g] at hr' hi'
    rw [if_neg (Ne.symm hne), if_neg (Ne.symm hne)] at hi'
    by_cases h1 : r = r0
    · rw [if_pos h1, if_pos h1, hi'] at hr'
      have := congrArg (· ^^^ mul f (mul (M i n) t)) hr'
      simp only [BitVec.xor_assoc, BitVec.xor_self, BitVec.xor_zero] at this
      exact this
    · rw [if_neg h1, if_neg h1] at hr'
      exact hr'
/-- All rows but one, one after the other. -/
def gsome (M : Nat → Nat → BitVec 8) (i m : Nat) : Nat → Nat → BitVec 8 := fun r c => if r ≠ i ∧ r < m then M r c ^^^ mul (M r i) (M i c) else M r c
theorem gsome_zero (M : Nat → Nat → BitVec 8) (i : Nat) : gsome M i 0 = M := by
  funext r c
  unfold gsome
  rw [if_neg (by omega)]
theorem gsome_self (M : Nat → Nat → BitVec 8) (i m : Nat) : gsome M i (m + 1) = if m = i then gsome M i m else gadd (gsome M i m) i m (M m i) := by
  by_cases h : m = i
  · rw [if_pos h]
    funext r c
    unfold gsome
    by_cases g : r ≠ i ∧ r < m
    · rw [if_pos g, if_pos (by omega)]
    · rw [if_neg g, if_neg (by omega)]
  · rw [if_neg h]
    funext r c
    unfold gadd gsome
    by_cases g : r = m
    · subst g
      rw [if_pos (by omega), if_pos rfl, if_neg (show ¬ (r ≠ i ∧ r < r) by omega), if_neg (show ¬ (i ≠ i ∧ i < r) by omega)]
    · rw [if_neg g]
      by_cases g2 : r ≠ i ∧ r < m
      · rw [if_pos g2, if_pos (by omega)]
      · rw [if_neg g2, if_neg (by omega)]
theorem gsome_equiv {n : Nat} (M : Nat → Nat → BitVec 8) {i : Nat} (hi : i < n) : ∀ m, Equiv n M (gsome M i m)
  | 0 => by rw [gsome_zero]; exact Equiv.refl _ _
  | m + 1 => by
    rw [gsome_self]
    split
    · exact gsome_equiv M hi m
    · rename_i h
      exact (gsome_equiv M hi m).trans (add_equiv _ hi h _)
theorem elim_equiv {n : Nat} (M : Nat → Nat → BitVec 8) {i : Nat} (hi : i < n) : Equiv n M (gelim M i) :=
  (gsome_equiv M hi n).trans (Equiv.of_eq fun r c hr _ => by
    unfold gsome gelim
    by_cases h : r = i
    · rw [if_pos h, if_neg (by omega)]
    · rw [if_neg h, if_pos ⟨h, hr⟩])
/-- The first i columns are those of the unit matrix. -/
def UnitTo (M : Nat → Nat → BitVec 8) (n i : Nat) : Prop := ∀ r c, r < n → c < i → M r c = if r = c then 1#8 else 0#8
theorem unit_zero (M : Nat → Nat → BitVec 8) (n : Nat) : UnitTo M n 0 := fun _ _ _ h => by omega
theorem unit_swap {M : Nat → Nat → BitVec 8} {n i k : Nat} (h : UnitTo M n i) (hi : i < n) (hk : k < n) (hik : i ≤ k) : UnitTo (gswap M i k) n i := fun r c hr hc => by
  unfold gswap
  by_cases h1 : r = i
  · rw [if_pos h1, h k c hk hc, if_neg (by omega), if_neg (by omega)]
  · rw [if_neg h1]
    by_cases h2 : r = k
    · rw [if_pos h2, h i c hi hc, if_neg (by omega), if_neg (by omega)]
    · rw [if_neg h2, h r c hr hc]
theorem unit_scale {M : Nat → Nat → BitVec 8} {n i : Nat} (h : UnitTo M n i) (f : BitVec 8) : UnitTo (gscale M i f) n i := fun r c hr hc => by
  unfold gscale
  by_cases h1 : r = i
  · rw [if_pos h1, h r c hr hc, if_neg (by omega), Gal.zero_mul]
  · rw [if_neg h1, h r c hr hc]
theorem unit_elim {M : Nat → Nat → BitVec 8} {n i : Nat} (h : UnitTo M n i) (hi : i < n) (h1 : M i i = 1#8) : UnitTo (gelim M i) n (i + 1) := fun r c hr hc => by
  unfold gelim
  by_cases hc2 : c = i
  · subst hc2
    by_cases h2 : r = c
    · rw [if_pos h2, if_pos h2, h2, h1]
    · rw [if_neg h2, if_neg h2, h1, Gal.mul_one, BitVec.xor_self]
  · have e0 : M i c = 0#8 := by rw [h i c hi (by omega), if_neg (by omega)]
    by_cases h2 : r = i
    · rw [if_pos h2, h r c hr (by omega)]
    · rw [if_neg h2, e0, Gal.mul_zero, BitVec.xor_zero, h r c hr (by omega)]
/-- One round. -/
theorem round_unit {M : Nat → Nat → BitVec 8} {n i k : Nat} (h : UnitTo M n i) (hi : i < n) (hk : k < n) (hik : i ≤ k) (hp : M k i ≠ 0#8) :
    UnitTo (gelim (gscale (gswap M i k) i (Gal.inv (M k i))) i) n (i + 1) :=
  unit_elim (unit_scale (unit_swap h hi hk hik) _) hi (by
    unfold gscale gswap
    rw [if_pos rfl, if_pos rfl, Gal.mul_inv hp])
theorem round_equiv {n : Nat} (M : Nat → Nat → BitVec 8) {i k : Nat} (hi : i < n) (hk : k < n) (f : BitVec 8) (hf : f ≠ 0#8) :
    Equiv n M (gelim (gscale (gswap M i k) i f) i) :=
  ((swap_equiv M hi hk).trans (scale_equiv _ i hf)).trans (elim_equiv _ hi)
theorem sum_unit {n r : Nat} (hr : r < n) (y : Nat → BitVec 8) : xl (List.range n) (fun c => mul (if r = c then 1#8 else 0#8) (y c)) = y r := by
  rw [xl_one (a := r) _ List.nodup_range (List.mem_range.2 hr) (fun c _ hc => by rw [if_neg (Ne.symm hc), Gal.zero_mul]), if_pos rfl, Gal.one_mul]
/-- At the end the right sides are the solution. -/
theorem unit_solves {M : Nat → Nat → BitVec 8} {n : Nat} (h : UnitTo M n n) (y : Nat → BitVec 8) (t : BitVec 8) : Solves M n y t ↔ ∀ r, r < n → y r = mul (M r n) t := by
  unfold Solves
  refine forall_congr' fun r => forall_congr' fun hr => ?_
  rw [xl_congr _ (fun c hc => by rw [h r c hr (List.mem_range.1 hc)]), sum_unit hr]
/-- Without a pivot something other than 0 is sent to 0. -/
theorem stuck_kernel {M : Nat → Nat → BitVec 8} {n i : Nat} (h : UnitTo M n i) (hi : i < n) (hz : ∀ r, i ≤ r → r < n → M r i = 0#8) :
    ∃ z, Solves M n z 0#8 ∧ z i = 1#8 := by
  refine ⟨fun c => if c < i then M c i else if c = i then 1#8 else 0#8, fun r hr => ?_, (if_neg (Nat.lt_irrefl i)).trans (if_pos rfl)⟩
  rw [Gal.mul_zero]
  have e : xl (List.range n) (fun c => mul (M r c) (if c < i then M c i else if c = i then 1#8 else 0#8)) =
      xl (List.range n) (fun c => mul (if r = c then 1#8 else 0#8) (if c < i then M c i else 0#8)) ^^^ xl (List.range n) (fun c => if c = i then M r i else 0#8) := by
    rw [← xl_xor]
    refine xl_congr _ (fun c hc => ?_)
    by_cases h1 : c < i
    · rw [if_pos h1, if_pos h1, if_neg (show ¬ c = i by omega), BitVec.xor_zero, h r c hr h1]
    · rw [if_neg h1, if_neg h1, Gal.mul_zero, BitVec.zero_xor]
      by_cases h2 : c = i
      · rw [if_pos h2, if_pos h2, Gal.mul_one, h2]
      · rw [if_neg h2, if_neg h2, Gal.mul_zero]
  rw [e, sum_unit hr (fun c => if c < i then M c i else 0#8), xl_one (a := i) _ List.nodup_range (List.mem_range.2 hi) (fun c _ hc => if_neg hc), if_pos rfl]
  by_cases h1 : r < i
  · rw [if_pos h1, BitVec.xor_self]
  · rw [if_neg h1, hz r (by omega) hr, BitVec.xor_zero]
end Blk
end Go.Proofs.YtlpjhmafplljaaaGreatDoor
/- Code blocks: their distance, what is encoded, what may be decoded: plain mathematics of layer 5. -/
namespace Go.Proofs.YtlpjhmafplljaaaGreatDoor
set_option linter.unusedVariables false
namespace Blk
open Gal (mul co)
theorem rev_range (n : Nat) : (List.range n).map (fun i => n - 1 - i) = (List.range n).reverse := by
  apply List.ext_getElem
  · simp
  · intro i h1 h2
    simp at h1
    simp [List.getElem_reverse]
theorem count_rev (P : Nat → Bool) (n : Nat) : ((List.range n).filter (fun i => P (n - 1 - i))).length = ((List.range n).filter P).length := by
  rw [← List.countP_eq_length_filter, ← List.countP_eq_length_filter]
  have : (List.range n).countP (fun i => P (n - 1 - i)) = ((List.range n).map (fun i => n - 1 - i)).countP P := by rw [List.countP_map]; rfl
  rw [this, rev_range, List.countP_reverse]
theorem co_reverse (b : List UInt8) (i : Nat) (h : i < b.length) : co b.reverse i = co b (b.length - 1 - i) := by
  unfold Gal.co
  rw [List.getD_eq_getElem?_getD, List.getD_eq_getElem?_getD, List.getElem?_reverse h]
/-- The values of a block at the powers of 2. -/
def syn (b : List UInt8) (j : Nat) : BitVec 8 := Gal.evl (co b.reverse) (Gal.pw j) b.length
theorem syn_eval (b : List UInt8) (j : Nat) : syn b j = Gal.evalV b.reverse (Gal.pw j) := by
  unfold syn Gal.evalV
  rw [List.length_reverse]
/-- A code block. -/
def Code (b : List UInt8) : Prop := 9 ≤ b.length ∧ b.length ≤ 231 ∧ ∀ j, j < 8 → syn b j = 0#8
/-- The places in which blocks differ. -/
def dif (a b : List UInt8) : List Nat := (List.range a.length).filter (fun i => decide (co a i ≠ co b i))
theorem dif_nil {a b : List UInt8} (hl : a.length = b.length) (h : ∀ i, i < a.length → co a i = co b i) : a = b := Gal.ext hl h
theorem code_far {a b : List UInt8} (ha : Code a) (hb : Code b) (hl : a.length = b.length) (hd : (dif a b).length ≤ 8) : a = b := by
  refine dif_nil hl (fun i hi => ?_)
  have hz := few_zero (fun i => co a.reverse i ^^^ co b.reverse i) a.length (by have := ha.2.1; omega) (fun j hj => by
    rw [Gal.evl_xor]
    have h1 := ha.2.2 j hj
    have h2 := hb.2.2 j hj
    unfold syn at h1 h2
    rw [h1, hl, h2, BitVec.xor_self]) (by
    have e : (List.range a.length).filter (fun i => decide (co a.reverse i ^^^ co b.reverse i ≠ 0#8)) = (List.range a.length).filter (fun i => decide (co a (a.length - 1 - i) ≠ co b (a.length - 1 - i))) := by
      apply List.filter_congr
      intro i hi
      have hi' := List.mem_range.1 hi
      rw [co_reverse a i hi', co_reverse b i (by omega), ← hl, decide_eq_decide]
      exact not_congr xor_eq_zero
    show ((List.range a.length).filter (fun i => decide (co a.reverse i ^^^ co b.reverse i ≠ 0#8))).length ≤ 8
    rw [e, count_rev (fun i => decide (co a i ≠ co b i))]
    exact hd)
  have := hz (a.length - 1 - i) (by omega)
  rw [co_reverse a _ (by omega), co_reverse b _ (by omega), ← hl, show a.length - 1 - (a.length - 1 - i) = i by omega] at this
  exact xor_eq_zero.1 this
theorem code_least {a b : List UInt8} (ha : Code a) (hb : Code b) (hl : a.length = b.length) (hne : a ≠ b) : 9 ≤ (dif a b).length := by
  apply Nat.le_of_not_lt
  intro h
  exact hne (code_far ha hb hl (by omega))
/-- Blocks that differ in the last eight bytes alone. -/
theorem tail_few {a b : List UInt8} (h8 : 8 ≤ a.length) (h : ∀ i, i < a.length - 8 → co a i = co b i) : (dif a b).length ≤ 8 := by
  unfold dif
  have e : (List.range a.length).filter (fun i => decide (co a i ≠ co b i)) = ((List.range a.length).drop (a.length - 8)).filter (fun i => decide (co a i ≠ co b i)) := by
    conv => lhs; rw [← List.take_append_drop (a.length - 8) (List.range a.length)]
    rw [List.filter_append]
    have : ((List.range a.length).take (a.length - 8)).filter (fun i => decide (co a i ≠ co b i)) = [] := by
      rw [List.filter_eq_nil_iff]
      intro i hi
      have : i < a.length - 8 := by
        rw [List.take_range] at hi
        have := List.mem_range.1 hi
        omega
      simpa using h i this
    rw [this, List.nil_append]
  rw [e]
  refine Nat.le_trans (List.length_filter_le _ _) ?_
  rw [List.length_drop, List.length_range]
  omega
/-- There is at most one code block with given data. -/
theorem code_unique {a b : List UInt8} (ha : Code a) (hb : Code b) (hl : a.length = b.length) (h : ∀ i, i < a.length - 8 → co a i = co b i) : a = b :=
  code_far ha hb hl (tail_few (by have := ha.1; omega) h)
/-- The exclusive or of two code blocks is one. -/
def xors (a b : List UInt8) : List UInt8 := Gal.coefs (fun i => co a i ^^^ co b i) a.length
theorem xors_length (a b : List UInt8) : (xors a b).length = a.length := Gal.coefs_length _ _
theorem evl_cong {f g : Nat → BitVec 8} {x : BitVec 8} : ∀ (n : Nat), (∀ i, i < n → f i = g i) → Gal.evl f x n = Gal.evl g x n
  | 0, _ => rfl
  | n + 1, h => by
    unfold Gal.evl
    rw [evl_cong n (fun i hi => h i (by omega)), h n (by omega)]
theorem syn_xors {a b : List UInt8} (hl : a.length = b.length) (j : Nat) : syn (xors a b) j = syn a j ^^^ syn b j := by
  unfold syn
  rw [xors_length, ← hl, ← Gal.evl_xor]
  refine evl_cong _ (fun i hi => ?_)
  rw [co_reverse _ i (by rw [xors_length]; exact hi), co_reverse a i hi, co_reverse b i (by omega), xors_length]
  unfold xors
  rw [Gal.co_coefs, if_pos (by omega), hl]
theorem code_xors {a b : List UInt8} (ha : Code a) (hb : Code b) (hl : a.length = b.length) : Code (xors a b) :=
  ⟨by rw [xors_length]; exact ha.1, by rw [xors_length]; exact ha.2.1, fun j hj => by rw [syn_xors hl, ha.2.2 j hj, hb.2.2 j hj, BitVec.xor_self]⟩

/-- The generator. -/
def gen : List UInt8 := [24, 200, 173, 239, 54, 81, 11, 255, 1]
theorem gen_zero : ∀ j, j < 8 → Gal.evalV gen (Gal.pw j) = 0#8 := by decide +kernel
theorem gen_nn : Gal.nn gen = 9 := by decide +kernel
/-- The data as a polynomial, eight places higher. -/
def high (d : List UInt8) : List UInt8 := List.replicate 8 0 ++ d.reverse
theorem high_length (d : List UInt8) : (high d).length = d.length + 8 := by simp [high]
theorem co_high (d : List UInt8) (i : Nat) : co (high d) i = if i < 8 then 0#8 else co d.reverse (i - 8) := by
  unfold Gal.co high
  rw [List.getD_eq_getElem?_getD, List.getD_eq_getElem?_getD, List.getElem?_append, List.length_replicate]
  by_cases h : i < 8
  · rw [if_pos h, if_pos h, List.getElem?_replicate, if_pos h]
    rfl
  · rw [if_neg h, if_neg h]
/-- What is encoded: the data, and behind them the rest, backwards, of eight bytes. -/
def rem (d : List UInt8) : Nat → BitVec 8 := Gal.remF (high d) gen
def enc (d : List UInt8) : List UInt8 := d ++ (Gal.coefs (rem d) 8).reverse
theorem enc_length (d : List UInt8) : (enc d).length = d.length + 8 := by
  unfold enc
  rw [List.length_append, List.length_reverse, Gal.coefs_length]
theorem enc_data (d : List UInt8) (i : Nat) (h : i < d.length) : co (enc d) i = co d i := by
  unfold enc Gal.co
  rw [List.getD_eq_getElem?_getD, List.getD_eq_getElem?_getD, List.getElem?_append, if_pos h]
theorem rem_out (d : List UInt8) : ∀ j, 8 ≤ j → rem d j = 0#8 := fun j hj => by
  unfold rem
  exact Gal.remF_low (by rw [gen_nn]; omega) j (by rw [gen_nn]; omega)
theorem co_enc_rev (d : List UInt8) (i : Nat) : co (enc d).reverse i = rem d i ^^^ co (high d) i := by
  have e : (enc d).reverse = Gal.coefs (rem d) 8 ++ d.reverse := by
    unfold enc
    rw [List.reverse_append, List.reverse_reverse]
  rw [e, co_high]
  unfold Gal.co
  rw [List.getD_eq_getElem?_getD, List.getElem?_append, Gal.coefs_length]
  by_cases h : i < 8
  · rw [if_pos h, if_pos h, BitVec.xor_zero]
    have := Gal.co_coefs (rem d) 8 i
    rw [if_pos h] at this
    unfold Gal.co at this
    rw [List.getD_eq_getElem?_getD] at this
    exact this
  · rw [if_neg h, if_neg h, rem_out d i (by omega), BitVec.zero_xor, List.getD_eq_getElem?_getD]
theorem syn_enc (d : List UInt8) (j : Nat) (hj : j < 8) : syn (enc d) j = 0#8 := by
  unfold syn
  rw [enc_length]
  have hg : Gal.nn gen ≠ 0 := by rw [gen_nn]; omega
  have e : ∀ i, co (enc d).reverse i = Gal.conv (Gal.rounds (high d) gen) (Gal.quoF (high d) gen) (co gen) i := fun i => by
    rw [co_enc_rev, Gal.quot_eq (high d) gen hg i]
    unfold rem
    rw [← BitVec.xor_assoc, BitVec.xor_self, BitVec.zero_xor]
  rw [Gal.evl_congr e]
  have h9 : ∀ k, 9 ≤ k → co gen k = 0#8 := fun k hk => Gal.nn_out (by rw [gen_nn]; exact hk)
  have z : Gal.evl (Gal.conv (Gal.rounds (high d) gen) (Gal.quoF (high d) gen) (co gen)) (Gal.pw j) (Gal.rounds (high d) gen + 9) = 0#8 := by
    rw [Gal.evl_conv h9]
    have : Gal.evl (co gen) (Gal.pw j) 9 = 0#8 := gen_zero j hj
    rw [this, Gal.mul_zero]
  rw [← z]
  exact Gal.evl_any (fun i hi => by rw [← e]; exact Gal.co_out (by rw [List.length_reverse, enc_length]; exact hi)) (fun i hi => Gal.conv_zero h9 i hi)
theorem code_enc (d : List UInt8) (h1 : 1 ≤ d.length) (h2 : d.length ≤ 223) : Code (enc d) :=
  ⟨by rw [enc_length]; omega, by rw [enc_length]; omega, syn_enc d⟩
/-- A block is a code block just if it is what is encoded of its data. -/
theorem code_iff (b : List UInt8) (h1 : 9 ≤ b.length) (h2 : b.length ≤ 231) : Code b ↔ enc (b.take (b.length - 8)) = b := by
  have hl : (b.take (b.length - 8)).length = b.length - 8 := by rw [List.length_take]; omega
  constructor
  · intro h
    refine code_unique (code_enc _ (by omega) (by omega)) h (by rw [enc_length, hl]; omega) (fun i hi => ?_)
    rw [enc_length, hl] at hi
    rw [enc_data _ i (by rw [hl]; omega), Gal.co_take, if_pos (by omega)]
  · intro h
    rw [← h]
    exact code_enc _ (by omega) (by omega)
theorem enc_take (d : List UInt8) : (enc d).take d.length = d := by
  unfold enc
  simp

/-- How many places that are not erased differ. -/
def besides (b c : List UInt8) (f : List Nat) : Nat := ((List.range b.length).filter (fun i => decide (co b i ≠ co c i) && !f.contains i)).length
/-- c is a code block as near to b as decoding asks, with the erased places f. -/
def Near (b : List UInt8) (f : List Nat) (c : List UInt8) : Prop := Code c ∧ c.length = b.length ∧ 2 * besides b c f + f.length ≤ 8
theorem count_or {α : Type} (P Q R : α → Bool) : ∀ l : List α, (∀ x, x ∈ l → P x = true → Q x = true ∨ R x = true) → (l.filter P).length ≤ (l.filter Q).length + (l.filter R).length
  | [], _ => by simp
  | x :: l, h => by
    have ih := count_or P Q R l (fun y hy => h y (by simp [hy]))
    have hx := h x (by simp)
    by_cases p : P x = true
    · rw [List.filter_cons_of_pos p]
      rcases hx p with q | q
      · rw [List.filter_cons_of_pos q]
        by_cases r : R x = true
        · rw [List.filter_cons_of_pos r]; simp only [List.length_cons]; omega
        · rw [List.filter_cons_of_neg r]; simp only [List.length_cons]; omega
      · rw [List.filter_cons_of_pos q]
        by_cases r : Q x = true
        · rw [List.filter_cons_of_pos r]; simp only [List.length_cons]; omega
        · rw [List.filter_cons_of_neg r]; simp only [List.length_cons]; omega
    · rw [List.filter_cons_of_neg p]
      have h1 : (l.filter Q).length ≤ ((x :: l).filter Q).length := by
        by_cases q : Q x = true
        · rw [List.filter_cons_of_pos q]; simp
        · rw [List.filter_cons_of_neg q]; exact Nat.le_refl _
      have h2 : (l.filter R).length ≤ ((x :: l).filter R).length := by
        by_cases q : R x = true
        · rw [List.filter_cons_of_pos q]; simp
        · rw [List.filter_cons_of_neg q]; exact Nat.le_refl _
      omega
theorem count_in : ∀ (f : List Nat) (l : List Nat), l.Nodup → (l.filter (fun i => f.contains i)).length ≤ f.length
  | [], l, _ => by
    have : l.filter (fun i => ([] : List Nat).contains i) = [] := by
      rw [List.filter_eq_nil_iff]
      intro i _
      simp
    rw [this]
    exact Nat.le_refl _
  | a :: f, l, hl => by
    have ih := count_in f l hl
    have h1 := count_or (fun i => (a :: f).contains i) (fun i => decide (i = a)) (fun i => f.contains i) l (fun x _ hx => by
      simp only [List.contains_cons, Bool.or_eq_true, beq_iff_eq] at hx
      rcases hx with h | h
      · exact .inl (decide_eq_true h)
      · exact .inr h)
    have h2 : (l.filter (fun i => decide (i = a))).length ≤ 1 := by
      have : (l.filter (fun i => decide (i = a))).Nodup := hl.filter _
      match hq : l.filter (fun i => decide (i = a)) with
      | [] => simp
      | [x] => simp
      | x :: y :: r =>
        rw [hq] at this
        have hx : x ∈ l.filter (fun i => decide (i = a)) := by rw [hq]; simp
        have hy : y ∈ l.filter (fun i => decide (i = a)) := by rw [hq]; simp
        have ex : x = a := by simpa using (List.mem_filter.1 hx).2
        have ey : y = a := by simpa using (List.mem_filter.1 hy).2
        rw [ex, ey] at this
        simp at this
    rw [List.length_cons]
    omega
/-- There is at most one such. -/
theorem near_unique {b c c' : List UInt8} {f : List Nat} (h : Near b f c) (h' : Near b f c') : c = c' := by
  obtain ⟨h1, h2, h3⟩ := h
  obtain ⟨k1, k2, k3⟩ := h'
  refine code_far h1 k1 (by omega) ?_
  unfold dif
  unfold besides at h3 k3
  rw [h2]
  have u := count_or (fun i => decide (co c i ≠ co c' i)) (fun i => (decide (co b i ≠ co c i) && !f.contains i) || (decide (co b i ≠ co c' i) && !f.contains i)) (fun i => f.contains i) (List.range b.length) (fun x _ hx => by
    by_cases hf : f.contains x = true
    · exact .inr hf
    · left
      have hf' : f.contains x = false := by simpa using hf
      rw [hf', Bool.not_false, Bool.and_true, Bool.and_true, Bool.or_eq_true, decide_eq_true_eq, decide_eq_true_eq]
      have : co c x ≠ co c' x := by simpa using hx
      by_cases e : co b x = co c x
      · exact .inr (fun q => this (e.symm.trans q))
      · exact .inl e)
  have u2 := count_or (fun i => (decide (co b i ≠ co c i) && !f.contains i) || (decide (co b i ≠ co c' i) && !f.contains i)) (fun i => decide (co b i ≠ co c i) && !f.contains i) (fun i => decide (co b i ≠ co c' i) && !f.contains i) (List.range b.length) (fun x _ hx => Bool.or_eq_true .. ▸ hx)
  have u3 := count_in f (List.range b.length) List.nodup_range
  omega
end Blk
end Go.Proofs.YtlpjhmafplljaaaGreatDoor
/- The locator of wrong places, and the wrong bytes at known places, as solutions of linear equations: plain mathematics of layer 5. -/
namespace Go.Proofs.YtlpjhmafplljaaaGreatDoor
set_option linter.unusedVariables false
namespace Blk
open Gal (mul pown)
theorem pown_add (x : BitVec 8) (i : Nat) : ∀ j, pown x (i + j) = mul (pown x i) (pown x j)
  | 0 => (Gal.mul_one _).symm
  | j + 1 => by
    show mul (pown x (i + j)) x = mul (pown x i) (mul (pown x j) x)
    rw [pown_add x i j, Gal.mul_assoc]
/-- What the erased places take away. -/
def gam (X : Nat → BitVec 8) : List Nat → Nat → BitVec 8
  | [], _ => 1#8
  | q :: f, p => mul (X p ^^^ X q) (gam X f p)
theorem gam_in (X : Nat → BitVec 8) {p : Nat} : ∀ (f : List Nat), p ∈ f → gam X f p = 0#8
  | [], h => by cases h
  | q :: f, h => by
    unfold gam
    rcases List.mem_cons.1 h with rfl | h
    · rw [BitVec.xor_self, Gal.zero_mul]
    · rw [gam_in X f h, Gal.mul_zero]
theorem gam_out (X : Nat → BitVec 8) {p : Nat} : ∀ (f : List Nat), (∀ q, q ∈ f → X p ≠ X q) → gam X f p ≠ 0#8
  | [], _ => by unfold gam; decide
  | q :: f, h => by
    unfold gam
    exact Gal.mul_ne (fun e => h q (by simp) (xor_eq_zero.1 e)) (gam_out X f (fun r hr => h r (by simp [hr])))
/-- One erased place is taken out of the syndromes. -/
def tstep (X : Nat → BitVec 8) (T : Nat → BitVec 8) (q j : Nat) : BitVec 8 := T j ^^^ mul (X q) (Gal.sh 1 T j)
def twist (X : Nat → BitVec 8) (f : List Nat) (S : Nat → BitVec 8) : Nat → BitVec 8 := f.foldl (tstep X) S
theorem twist_sums (X : Nat → BitVec 8) (l : List Nat) : ∀ (f : List Nat) (T g : Nat → BitVec 8) (k : Nat), (∀ j, k ≤ j → j < 8 → T j = xl l (fun p => mul (g p) (pown (X p) (j - k)))) →
    ∀ j, k + f.length ≤ j → j < 8 → twist X f T j = xl l (fun p => mul (mul (g p) (gam X f p)) (pown (X p) (j - (k + f.length))))
  | [], T, g, k, h, j, h1, h2 => by
    show T j = _
    rw [h j (by simpa using h1) h2]
    refine xl_congr l (fun p _ => ?_)
    show _ = mul (mul (g p) 1#8) _
    rw [Gal.mul_one]
    rfl
  | q :: f, T, g, k, h, j, h1, h2 => by
    show twist X f (tstep X T q) j = _
    rw [List.length_cons] at h1
    rw [twist_sums X l f (tstep X T q) (fun p => mul (g p) (X p ^^^ X q)) (k + 1) (fun j h3 h4 => by
      unfold tstep Gal.sh
      rw [if_pos (by omega), h j (by omega) h4, h (j - 1) (by omega) (by omega), ← xl_mul, ← xl_xor]
      refine xl_congr l (fun p _ => ?_)
      rw [show j - k = (j - 1 - k) + 1 by omega, show j - (k + 1) = j - 1 - k by omega, pown_succ, Gal.mul_xor, Gal.xor_mul]
      congr 1
      · rw [Gal.mul_assoc, Gal.mul_comm (X p)]
      · rw [Gal.mul_comm (g p) (X q), Gal.mul_assoc]) j (by omega) h2]
    refine xl_congr l (fun p _ => ?_)
    rw [List.length_cons, show k + 1 + f.length = k + (f.length + 1) by omega]
    show mul (mul (mul (g p) (X p ^^^ X q)) (gam X f p)) _ = mul (mul (g p) (mul (X p ^^^ X q) (gam X f p))) _
    rw [Gal.mul_assoc (g p)]
/-- The locator's coefficients: the product of 1 + X p x. -/
def lam (X : Nat → BitVec 8) : List Nat → Nat → BitVec 8
  | [], i => if i = 0 then 1#8 else 0#8
  | p :: l, i => lam X l i ^^^ mul (X p) (Gal.sh 1 (lam X l) i)
theorem lam_zero (X : Nat → BitVec 8) : ∀ l, lam X l 0 = 1#8
  | [] => rfl
  | p :: l => by
    unfold lam Gal.sh
    rw [lam_zero X l, if_neg (by omega), Gal.mul_zero, BitVec.xor_zero]
theorem lam_out (X : Nat → BitVec 8) : ∀ l i, l.length < i → lam X l i = 0#8
  | [], i, h => by
    unfold lam
    rw [if_neg (by simp at h; omega)]
  | p :: l, i, h => by
    rw [List.length_cons] at h
    unfold lam Gal.sh
    rw [lam_out X l i (by omega), if_pos (by omega), lam_out X l (i - 1) (by omega), Gal.mul_zero, BitVec.xor_zero]
def facs (X : Nat → BitVec 8) (x : BitVec 8) : List Nat → BitVec 8
  | [] => 1#8
  | p :: l => mul (1#8 ^^^ mul (X p) x) (facs X x l)
theorem lam_eval (X : Nat → BitVec 8) (x : BitVec 8) : ∀ l, Gal.evl (lam X l) x (l.length + 1) = facs X x l
  | [] => by
    show 0#8 ^^^ mul (lam X [] 0) (pown x 0) = 1#8
    rw [lam_zero, Gal.one_mul, BitVec.zero_xor]
    rfl
  | p :: l => by
    have e : Gal.evl (lam X (p :: l)) x ((p :: l).length + 1) = Gal.evl (fun i => lam X l i ^^^ mul (X p) (Gal.sh 1 (lam X l) i)) x ((p :: l).length + 1) := Gal.evl_congr (fun _ => rfl) _
    rw [e, Gal.evl_xor, Gal.evl_scale, List.length_cons]
    have h1 : Gal.evl (lam X l) x (l.length + 1 + 1) = Gal.evl (lam X l) x (l.length + 1) := Gal.evl_more (fun i hi => lam_out X l i (by omega)) 1
    have h2 : Gal.evl (Gal.sh 1 (lam X l)) x (l.length + 1 + 1) = mul (pown x 1) (Gal.evl (lam X l) x (l.length + 1)) := by
      rw [show l.length + 1 + 1 = 1 + (l.length + 1) by omega]
      exact Gal.evl_sh _ _ _ _
    rw [h1, h2, lam_eval X x l]
    show _ = mul (1#8 ^^^ mul (X p) x) (facs X x l)
    rw [Gal.xor_mul, Gal.one_mul, Gal.mul_assoc, show pown x 1 = x from Gal.one_mul x]
theorem facs_zero (X : Nat → BitVec 8) (x : BitVec 8) : ∀ l, facs X x l = 0#8 ↔ ∃ p, p ∈ l ∧ mul (X p) x = 1#8
  | [] => by
    unfold facs
    constructor
    · intro h; exact absurd h (by decide)
    · rintro ⟨p, h, _⟩; cases h
  | q :: l => by
    unfold facs
    constructor
    · intro h
      rcases mul_eq_zero h with h1 | h1
      · exact ⟨q, by simp, (xor_eq_zero.1 h1).symm⟩
      · obtain ⟨p, hp, e⟩ := (facs_zero X x l).1 h1
        exact ⟨p, by simp [hp], e⟩
    · rintro ⟨p, hp, e⟩
      rcases List.mem_cons.1 hp with rfl | hp
      · rw [e, BitVec.xor_self, Gal.zero_mul]
      · rw [(facs_zero X x l).2 ⟨p, hp, e⟩, Gal.mul_zero]
/-- The coefficients backwards have the places' elements as zeros. -/
theorem lam_back (X : Nat → BitVec 8) (x : BitVec 8) : ∀ l, xl (List.range (l.length + 1)) (fun i => mul (lam X l i) (pown x (l.length - i))) = l.foldr (fun p s => mul (x ^^^ X p) s) 1#8
  | [] => by
    show mul (lam X [] 0) (pown x 0) ^^^ 0#8 = 1#8
    rw [lam_zero, Gal.one_mul, BitVec.xor_zero]
    rfl
  | p :: l => by
    have ih := lam_back X x l
    rw [List.length_cons, List.foldr_cons, ← ih, Gal.xor_mul, ← xl_mul, ← xl_mul]
    have e : xl (List.range (l.length + 1 + 1)) (fun i => mul (lam X (p :: l) i) (pown x (l.length + 1 - i))) =
        xl (List.range (l.length + 1 + 1)) (fun i => mul (lam X l i) (pown x (l.length + 1 - i))) ^^^ xl (List.range (l.length + 1 + 1)) (fun i => mul (mul (X p) (Gal.sh 1 (lam X l) i)) (pown x (l.length + 1 - i))) := by
      rw [← xl_xor]
      refine xl_congr _ (fun i _ => ?_)
      show mul (lam X l i ^^^ mul (X p) (Gal.sh 1 (lam X l) i)) _ = _
      rw [Gal.xor_mul]
    have A : xl (List.range (l.length + 1 + 1)) (fun i => mul (lam X l i) (pown x (l.length + 1 - i))) = xl (List.range (l.length + 1)) (fun i => mul x (mul (lam X l i) (pown x (l.length - i)))) := by
      rw [xl_range_succ, lam_out X l (l.length + 1) (by omega), Gal.zero_mul, BitVec.xor_zero]
      refine xl_congr _ (fun i hi => ?_)
      have := List.mem_range.1 hi
      rw [show l.length + 1 - i = (l.length - i) + 1 by omega, pown_succ, Gal.mul_comm x, Gal.mul_assoc]
    have B : xl (List.range (l.length + 1 + 1)) (fun i => mul (mul (X p) (Gal.sh 1 (lam X l) i)) (pown x (l.length + 1 - i))) = xl (List.range (l.length + 1)) (fun i => mul (X p) (mul (lam X l i) (pown x (l.length - i)))) := by
      rw [xl_range_front]
      have z : mul (mul (X p) (Gal.sh 1 (lam X l) 0)) (pown x (l.length + 1 - 0)) = 0#8 := by
        unfold Gal.sh
        rw [if_neg (by omega), Gal.mul_zero, Gal.zero_mul]
      rw [z, BitVec.zero_xor]
      refine xl_congr _ (fun i hi => ?_)
      unfold Gal.sh
      rw [if_pos (by omega), show i + 1 - 1 = i by omega, show l.length + 1 - (i + 1) = l.length - i by omega, Gal.mul_assoc]
    rw [e, A, B]
theorem back_zero (X : Nat → BitVec 8) {q : Nat} : ∀ l : List Nat, q ∈ l → l.foldr (fun p s => mul (X q ^^^ X p) s) 1#8 = 0#8
  | [], h => by cases h
  | p :: l, h => by
    rw [List.foldr_cons]
    rcases List.mem_cons.1 h with rfl | h
    · rw [BitVec.xor_self, Gal.zero_mul]
    · rw [back_zero X l h, Gal.mul_zero]
/-- Sums of powers over the wrong places. -/
def pows (X w : Nat → BitVec 8) (E : List Nat) (s : Nat) : BitVec 8 := xl E (fun p => mul (w p) (pown (X p) s))
/-- The locator solves the equations. -/
theorem loc_solves (X w : Nat → BitVec 8) (E : List Nat) (r : Nat) : xl (List.range E.length) (fun i => mul (pows X w E (E.length + r - 1 - i)) (lam X E (i + 1))) = pows X w E (E.length + r) := by
  have h : xl (List.range (E.length + 1)) (fun i => mul (pows X w E (E.length + r - i)) (lam X E i)) = 0#8 := by
    have e : xl (List.range (E.length + 1)) (fun i => mul (pows X w E (E.length + r - i)) (lam X E i)) = xl (List.range (E.length + 1)) (fun i => xl E (fun p => mul (mul (w p) (pown (X p) r)) (mul (lam X E i) (pown (X p) (E.length - i))))) := by
      refine xl_congr _ (fun i hi => ?_)
      have := List.mem_range.1 hi
      unfold pows
      rw [Gal.mul_comm, ← xl_mul]
      refine xl_congr _ (fun p _ => ?_)
      rw [show E.length + r - i = r + (E.length - i) by omega, pown_add, Gal.mul_comm (lam X E i), Gal.mul_assoc, Gal.mul_assoc, Gal.mul_assoc, Gal.mul_comm (lam X E i)]
    rw [e, xl_comm]
    refine xl_zero _ (fun p hp => ?_)
    rw [xl_mul, lam_back, back_zero X E hp, Gal.mul_zero]
  rw [xl_range_front, lam_zero, Gal.mul_one, xor_eq_zero] at h
  rw [Nat.sub_zero] at h
  rw [h]
  refine xl_congr _ (fun i _ => ?_)
  rw [show E.length + r - 1 - i = E.length + r - (i + 1) by omega]
/-- It is the only solution. -/
theorem loc_kernel (X w : Nat → BitVec 8) (E : List Nat) (hn : E.Nodup) (hX : ∀ i, i ∈ E → ∀ j, j ∈ E → X i = X j → i = j) (hw : ∀ p, p ∈ E → w p ≠ 0#8) (z : Nat → BitVec 8)
    (h : ∀ r, r < E.length → xl (List.range E.length) (fun i => mul (pows X w E (E.length + r - 1 - i)) (z i)) = 0#8) : ∀ i, i < E.length → z i = 0#8 := by
  have h1 : ∀ p, p ∈ E → mul (w p) (xl (List.range E.length) (fun i => mul (z i) (pown (X p) (E.length - 1 - i)))) = 0#8 := by
    refine powers_zero X E _ hn hX (fun r hr => ?_)
    rw [← h r hr]
    have e : xl (List.range E.length) (fun i => mul (pows X w E (E.length + r - 1 - i)) (z i)) = xl (List.range E.length) (fun i => xl E (fun p => mul (mul (w p) (pown (X p) r)) (mul (z i) (pown (X p) (E.length - 1 - i))))) := by
      refine xl_congr _ (fun i hi => ?_)
      have := List.mem_range.1 hi
      unfold pows
      rw [Gal.mul_comm, ← xl_mul]
      refine xl_congr _ (fun p _ => ?_)
      rw [show E.length + r - 1 - i = r + (E.length - 1 - i) by omega, pown_add, Gal.mul_comm (z i), Gal.mul_assoc, Gal.mul_assoc, Gal.mul_assoc, Gal.mul_comm (z i)]
    rw [e, xl_comm]
    refine xl_congr _ (fun p _ => ?_)
    rw [xl_mul, Gal.mul_assoc, Gal.mul_comm (xl _ _), ← Gal.mul_assoc]
  have h2 : ∀ p, p ∈ E → val (fun i => z (E.length - 1 - i)) (X p) 0 E.length = 0#8 := fun p hp => by
    rcases mul_eq_zero (h1 p hp) with g | g
    · exact absurd g (hw p hp)
    · rw [val_evl, evl_xl, ← g]
      -- the same sum backwards
      have rev : ∀ (n : Nat) (g : Nat → BitVec 8), xl (List.range n) g = xl (List.range n) (fun i => g (n - 1 - i)) := by
        intro n
        induction n with
        | zero => intro g; rfl
        | succ n ih =>
          intro g
          rw [xl_range_succ, xl_range_front, ih g]
          rw [show n + 1 - 1 - 0 = n by omega, BitVec.xor_comm]
          congr 1
          refine xl_congr _ (fun i hi => ?_)
          rw [show n + 1 - 1 - (i + 1) = n - 1 - i by omega]
      rw [rev E.length (fun i => mul (z i) (pown (X p) (E.length - 1 - i)))]
      refine xl_congr _ (fun i hi => ?_)
      have := List.mem_range.1 hi
      rw [show E.length - 1 - (E.length - 1 - i) = i by omega]
  have h3 := zeros_zero X E (fun i => z (E.length - 1 - i)) 0 hn hX h2
  intro i hi
  have := h3 (E.length - 1 - i) (by omega)
  rwa [Nat.zero_add, show E.length - 1 - (E.length - 1 - i) = i by omega] at this
end Blk
end Go.Proofs.YtlpjhmafplljaaaGreatDoor
/- Decoding: what determines its result, and why the equations find it: plain mathematics of layer 5. -/
namespace Go.Proofs.YtlpjhmafplljaaaGreatDoor
set_option linter.unusedVariables false
namespace Blk
open Gal (mul pown co)
/-- The element of a place. -/
def elem (n p : Nat) : BitVec 8 := Gal.pw (n - 1 - p)
theorem elem_inj {n p q : Nat} (hn : n ≤ 255) (hp : p < n) (hq : q < n) (h : elem n p = elem n q) : p = q := by
  have := pw_inj (by omega) (by omega) h
  omega
theorem elem_pown (n p j : Nat) : pown (elem n p) j = Gal.pw (j * (n - 1 - p)) := by
  unfold elem
  rw [pown_pw, Nat.mul_comm]
theorem xl_rev : ∀ (n : Nat) (g : Nat → BitVec 8), xl (List.range n) g = xl (List.range n) (fun i => g (n - 1 - i))
  | 0, _ => rfl
  | n + 1, g => by
    rw [xl_range_succ, xl_range_front, xl_rev n g, show n + 1 - 1 - 0 = n by omega, BitVec.xor_comm]
    congr 1
    refine xl_congr _ (fun i hi => ?_)
    rw [show n + 1 - 1 - (i + 1) = n - 1 - i by omega]
theorem syn_sum (b : List UInt8) (j : Nat) : syn b j = xl (List.range b.length) (fun p => mul (co b p) (pown (elem b.length p) j)) := by
  unfold syn
  rw [evl_xl, xl_rev]
  refine xl_congr _ (fun p hp => ?_)
  have hp' := List.mem_range.1 hp
  rw [co_reverse b _ (by omega), show b.length - 1 - (b.length - 1 - p) = p by omega, elem_pown, pown_pw]
/-- The differences. -/
def dlt (b c : List UInt8) (p : Nat) : BitVec 8 := co b p ^^^ co c p
theorem syn_diff {b c : List UInt8} (hc : Code c) (hl : c.length = b.length) (j : Nat) (hj : j < 8) : syn b j = xl (List.range b.length) (fun p => mul (dlt b c p) (pown (elem b.length p) j)) := by
  have h := hc.2.2 j hj
  rw [syn_sum, hl] at h
  have e : xl (List.range b.length) (fun p => mul (dlt b c p) (pown (elem b.length p) j)) = xl (List.range b.length) (fun p => mul (co b p) (pown (elem b.length p) j)) ^^^ xl (List.range b.length) (fun p => mul (co c p) (pown (elem b.length p) j)) := by
    rw [← xl_xor]
    refine xl_congr _ (fun p _ => ?_)
    unfold dlt
    rw [Gal.xor_mul]
  rw [e, h, BitVec.xor_zero, ← syn_sum]
/-- The wrong places that are not erased. -/
def wrong (b c : List UInt8) (f : List Nat) : List Nat := (List.range b.length).filter (fun i => decide (co b i ≠ co c i) && !f.contains i)
theorem wrong_length (b c : List UInt8) (f : List Nat) : (wrong b c f).length = besides b c f := rfl
theorem wrong_nodup (b c : List UInt8) (f : List Nat) : (wrong b c f).Nodup := List.nodup_range.filter _
theorem mem_wrong {b c : List UInt8} {f : List Nat} {p : Nat} : p ∈ wrong b c f ↔ p < b.length ∧ co b p ≠ co c p ∧ p ∉ f := by
  unfold wrong
  rw [List.mem_filter, List.mem_range, Bool.and_eq_true, decide_eq_true_eq, Bool.not_eq_true', ← Bool.not_eq_true, List.contains_iff_mem]
/-- The weights of the wrong places. -/
def wgt (b c : List UInt8) (f : List Nat) (p : Nat) : BitVec 8 := mul (dlt b c p) (gam (elem b.length) f p)
theorem twist_pows {b c : List UInt8} {f : List Nat} (hc : Code c) (hl : c.length = b.length) (s : Nat) (hs : f.length + s < 8) :
    twist (elem b.length) f (syn b) (f.length + s) = pows (elem b.length) (wgt b c f) (wrong b c f) s := by
  rw [twist_sums (elem b.length) (List.range b.length) f (syn b) (dlt b c) 0 (fun j _ hj => by rw [syn_diff hc hl j hj, Nat.sub_zero]) (f.length + s) (by omega) hs]
  unfold pows wrong
  rw [xl_filter _ _ _ (fun p hp hq => by
    unfold wgt
    by_cases hf : p ∈ f
    · rw [gam_in _ f hf, Gal.mul_zero, Gal.zero_mul]
    · have : co b p = co c p := by
        have h2 : f.contains p = false := by rw [← Bool.not_eq_true, List.contains_iff_mem]; exact hf
        rw [h2] at hq
        simpa using hq
      unfold dlt
      rw [this, BitVec.xor_self, Gal.zero_mul, Gal.zero_mul])]
  refine xl_congr _ (fun p _ => ?_)
  rw [show f.length + s - (0 + f.length) = s by omega]
  rfl
theorem wgt_ne {b c : List UInt8} {f : List Nat} (hn : b.length ≤ 255) (hf : ∀ q, q ∈ f → q < b.length) {p : Nat} (hp : p ∈ wrong b c f) : wgt b c f p ≠ 0#8 := by
  obtain ⟨h1, h2, h3⟩ := mem_wrong.1 hp
  refine Gal.mul_ne (fun e => h2 (xor_eq_zero.1 e)) (gam_out _ f (fun q hq e => ?_))
  have := elem_inj hn h1 (hf q hq) e
  exact h3 (this ▸ hq)
/-- The equations of the locator: e of them, from the syndromes without the f erased places. -/
def locM (T : Nat → BitVec 8) (k e : Nat) : Nat → Nat → BitVec 8 := fun r c => if c < e then T (k + e + r - 1 - c) else T (k + e + r)
theorem loc_found {b c : List UInt8} {f : List Nat} (hc : Code c) (hl : c.length = b.length) (hn : b.length ≤ 255) (hf : ∀ q, q ∈ f → q < b.length) (he : f.length + 2 * besides b c f ≤ 8) :
    Solves (locM (twist (elem b.length) f (syn b)) f.length (besides b c f)) (besides b c f) (fun i => lam (elem b.length) (wrong b c f) (i + 1)) 1#8 ∧
    ∀ z, Solves (locM (twist (elem b.length) f (syn b)) f.length (besides b c f)) (besides b c f) z 0#8 → ∀ i, i < besides b c f → z i = 0#8 := by
  have key : ∀ (z : Nat → BitVec 8) r, r < besides b c f → xl (List.range (besides b c f)) (fun i => mul (locM (twist (elem b.length) f (syn b)) f.length (besides b c f) r i) (z i)) = xl (List.range (besides b c f)) (fun i => mul (pows (elem b.length) (wgt b c f) (wrong b c f) (besides b c f + r - 1 - i)) (z i)) := by
    intro z r hr
    refine xl_congr _ (fun i hi => ?_)
    have hi' := List.mem_range.1 hi
    unfold locM
    rw [if_pos hi', show f.length + besides b c f + r - 1 - i = f.length + (besides b c f + r - 1 - i) by omega, twist_pows hc hl _ (by omega)]
  have right : ∀ r, r < besides b c f → locM (twist (elem b.length) f (syn b)) f.length (besides b c f) r (besides b c f) = pows (elem b.length) (wgt b c f) (wrong b c f) (besides b c f + r) := by
    intro r hr
    unfold locM
    rw [if_neg (by omega), Nat.add_assoc, twist_pows hc hl _ (by omega)]
  refine ⟨fun r hr => ?_, fun z hz => ?_⟩
  · rw [key _ r hr, right r hr, Gal.mul_one]
    exact loc_solves (elem b.length) (wgt b c f) (wrong b c f) r
  · refine loc_kernel (elem b.length) (wgt b c f) (wrong b c f) (wrong_nodup b c f) (fun i hi j hj e => elem_inj hn (mem_wrong.1 hi).1 (mem_wrong.1 hj).1 e) (fun p hp => wgt_ne hn hf hp) z (fun r hr => ?_)
    have := hz r hr
    rw [key z r hr, Gal.mul_zero] at this
    exact this
/-- The inverse of a place's element. -/
def elemI (n p : Nat) : BitVec 8 := Gal.pwi (-((n : Int) - 1 - (p : Int)))
theorem elem_elemI {n p : Nat} (hp : p < n) : mul (elem n p) (elemI n p) = 1#8 := by
  unfold elem elemI
  rw [← Gal.pwi_nat, Gal.pwi_add, show ((n - 1 - p : Nat) : Int) + -((n : Int) - 1 - (p : Int)) = 0 by omega]
  decide +kernel
theorem root_iff {n p : Nat} (hn : n ≤ 255) (hp : p < n) (E : List Nat) (hE : ∀ q, q ∈ E → q < n) : Gal.evl (lam (elem n) E) (elemI n p) (E.length + 1) = 0#8 ↔ p ∈ E := by
  rw [lam_eval, facs_zero]
  constructor
  · rintro ⟨q, hq, e⟩
    have h1 := elem_elemI hp
    have : mul (elem n q ^^^ elem n p) (elemI n p) = 0#8 := by rw [Gal.xor_mul, e, h1, BitVec.xor_self]
    rcases mul_eq_zero this with h | h
    · have := elem_inj hn (hE q hq) hp (xor_eq_zero.1 h)
      exact this ▸ hq
    · rw [h, Gal.mul_zero] at h1
      exact absurd h1 (by decide)
  · intro h
    exact ⟨p, h, elem_elemI hp⟩
/-- The sum over a list by its places. -/
theorem xl_index (g : Nat → BitVec 8) : ∀ l : List Nat, xl (List.range l.length) (fun k => g (l.getD k 0)) = xl l g
  | [] => rfl
  | a :: l => by
    rw [List.length_cons, xl_range_front, xl_cons, ← xl_index g l]
    rfl
/-- The equations of the wrong bytes at known places. -/
def mendM (b : List UInt8) (l : List Nat) : Nat → Nat → BitVec 8 := fun j k => if k < l.length then pown (elem b.length (l.getD k 0)) j else syn b j
theorem mend_found {b c : List UInt8} {l : List Nat} (hc : Code c) (hl : c.length = b.length) (hn : b.length ≤ 255) (hd : l.Nodup) (hp : ∀ q, q ∈ l → q < b.length) (h8 : l.length ≤ 8) (ho : ∀ p, p < b.length → p ∉ l → co b p = co c p) :
    Solves (mendM b l) l.length (fun k => dlt b c (l.getD k 0)) 1#8 ∧ ∀ z, Solves (mendM b l) l.length z 0#8 → ∀ i, i < l.length → z i = 0#8 := by
  constructor
  · intro j hj
    have right : mendM b l j l.length = syn b j := if_neg (by omega)
    rw [right, Gal.mul_one, syn_diff hc hl j (by omega)]
    have e : xl (List.range l.length) (fun k => mul (mendM b l j k) (dlt b c (l.getD k 0))) = xl l (fun p => mul (dlt b c p) (pown (elem b.length p) j)) := by
      rw [← xl_index (fun p => mul (dlt b c p) (pown (elem b.length p) j)) l]
      refine xl_congr _ (fun k hk => ?_)
      unfold mendM
      rw [if_pos (List.mem_range.1 hk), Gal.mul_comm]
    rw [e]
    -- the places outside count nothing
    have out : xl (List.range b.length) (fun p => mul (dlt b c p) (pown (elem b.length p) j)) = xl ((List.range b.length).filter (fun p => l.contains p)) (fun p => mul (dlt b c p) (pown (elem b.length p) j)) := by
      rw [xl_filter _ _ _ (fun p hp' hq => by
        have : p ∉ l := by rw [← List.contains_iff_mem, hq]; simp
        unfold dlt
        rw [ho p (List.mem_range.1 hp') this, BitVec.xor_self, Gal.zero_mul])]
    rw [out]
    have perm : l.Perm ((List.range b.length).filter (fun p => l.contains p)) := by
      rw [List.perm_ext_iff_of_nodup hd (List.nodup_range.filter _)]
      intro p
      rw [List.mem_filter, List.mem_range, List.contains_iff_mem]
      exact ⟨fun h => ⟨hp p h, h⟩, fun h => h.2⟩
    have xlp : ∀ {l m : List Nat} (g : Nat → BitVec 8), l.Perm m → xl l g = xl m g := by
      intro l m g h
      induction h with
      | nil => rfl
      | cons x _ ih => rw [xl_cons, xl_cons, ih]
      | swap x y l => rw [xl_cons, xl_cons, xl_cons, xl_cons]; ac_rfl
      | trans _ _ h1 h2 => rw [h1, h2]
    exact xlp _ perm
  · intro z hz
    -- the unknowns as a function of the places
    have zp : ∀ p, p ∈ l → z (l.idxOf p) = 0#8 := by
      refine powers_zero (elem b.length) l (fun p => z (l.idxOf p)) hd (fun i hi j hj e => elem_inj hn (hp i hi) (hp j hj) e) (fun j hj => ?_)
      have := hz j hj
      rw [Gal.mul_zero] at this
      rw [← this, ← xl_index (fun p => mul (z (l.idxOf p)) (pown (elem b.length p) j)) l]
      refine xl_congr _ (fun k hk => ?_)
      have hk' := List.mem_range.1 hk
      have e : l.getD k 0 = l[k] := by rw [List.getD_eq_getElem?_getD, List.getElem?_eq_getElem hk', Option.getD_some]
      unfold mendM
      rw [if_pos hk', e, hd.idxOf_getElem k hk', Gal.mul_comm]
    intro i hi
    have := zp l[i] (List.getElem_mem hi)
    rwa [hd.idxOf_getElem i hi] at this
/-- What Decode returns: data, a number, an error. -/
def Dec (b : List UInt8) (f : List Nat) (out : List UInt8) (n e : Int) : Prop :=
  (∃ c, Near b f c ∧ out = c.take (b.length - 8) ∧ n = ((dif b c).length : Int) ∧ e = 0) ∨ ((∀ c, ¬ Near b f c) ∧ out = [] ∧ n = 0 ∧ e = 50)
theorem dec_unique {b : List UInt8} {f : List Nat} {o o' : List UInt8} {n n' e e' : Int} (h : Dec b f o n e) (h' : Dec b f o' n' e') : o = o' ∧ n = n' ∧ e = e' := by
  rcases h with ⟨c, h1, rfl, rfl, rfl⟩ | ⟨h1, rfl, rfl, rfl⟩
  · rcases h' with ⟨c', h2, rfl, rfl, rfl⟩ | ⟨h2, _, _, _⟩
    · obtain rfl := near_unique h1 h2
      exact ⟨rfl, rfl, rfl⟩
    · exact absurd h1 (h2 c)
  · rcases h' with ⟨c', h2, _, _, _⟩ | ⟨_, rfl, rfl, rfl⟩
    · exact absurd h2 (h1 c')
    · exact ⟨rfl, rfl, rfl⟩
/-- A code block that differs in known places alone: the erased ones and as many besides as there may be. -/
theorem near_of_places {b c : List UInt8} {f l : List Nat} (hc : Code c) (hl : c.length = b.length) (e : Nat) (hle : l.length ≤ e) (he : f.length + 2 * e ≤ 8) (ho : ∀ p, p < b.length → co b p ≠ co c p → p ∉ f → p ∈ l) : Near b f c := by
  refine ⟨hc, hl, ?_⟩
  have : besides b c f ≤ l.length := by
    unfold besides
    have h1 := count_or (fun i => decide (co b i ≠ co c i) && !f.contains i) (fun i => l.contains i) (fun _ => false) (List.range b.length) (fun x hx hq => by
      left
      rw [Bool.and_eq_true, decide_eq_true_eq, Bool.not_eq_true', ← Bool.not_eq_true, List.contains_iff_mem] at hq
      exact List.contains_iff_mem.2 (ho x (List.mem_range.1 hx) hq.1 hq.2))
    have h2 := count_in l (List.range b.length) List.nodup_range
    have h3 : ((List.range b.length).filter (fun _ => false)).length = 0 := by simp
    omega
  omega
/-- The set of erased places alone counts. -/
theorem besides_congr {b c : List UInt8} {f g : List Nat} (h : ∀ p, p ∈ f ↔ p ∈ g) : besides b c f = besides b c g := by
  unfold besides
  congr 1
  apply List.filter_congr
  intro i _
  have : f.contains i = g.contains i := by rw [Bool.eq_iff_iff, List.contains_iff_mem, List.contains_iff_mem]; exact h i
  rw [this]
end Blk
end Go.Proofs.YtlpjhmafplljaaaGreatDoor
