/- Linear equations over the field of 256 elements by elimination: plain mathematics of layer 5. -/
import Derived.Test.YtlpjhmafplljaaaDoorBlkMath
namespace Go.Proofs.YtlpjhmafplljaaaDoor
set_option linter.unusedVariables false
namespace Blk
open Gal (mul)
/-- n rows of n coefficients and a right side, of which t times is asked: t = 1: the solutions, t = 0: what is sent to 0. -/
def Solves (M : Nat → Nat → BitVec 8) (n : Nat) (y : Nat → BitVec 8) (t : BitVec 8) : Prop := ∀ r, r < n → xl (List.range n) (fun c => mul (M r c) (y c)) = mul (M r n) t
/-- The same solutions. -/
def Equiv (n : Nat) (M M' : Nat → Nat → BitVec 8) : Prop := ∀ y t, Solves M n y t ↔ Solves M' n y t
theorem Equiv.refl (n : Nat) (M : Nat → Nat → BitVec 8) : Equiv n M M := fun _ _ => Iff.rfl
theorem Equiv.trans {n : Nat} {A B C : Nat → Nat → BitVec 8} (h : Equiv n A B) (k : Equiv n B C) : Equiv n A C := fun y t => (h y t).trans (k y t)
theorem Equiv.of_eq {n : Nat} {A B : Nat → Nat → BitVec 8} (h : ∀ r c, r < n → c ≤ n → A r c = B r c) : Equiv n A B := fun y t => by
  unfold Solves
  refine forall_congr' fun r => forall_congr' fun hr => ?_
  rw [h r n hr (Nat.le_refl _), xl_congr _ (fun c hc => by rw [h r c hr (by have := List.mem_range.1 hc; omega)])]
def gswap (M : Nat → Nat → BitVec 8) (i k : Nat) : Nat → Nat → BitVec 8 := fun r c => if r = i then M k c else if r = k then M i c else M r c
def gscale (M : Nat → Nat → BitVec 8) (i : Nat) (f : BitVec 8) : Nat → Nat → BitVec 8 := fun r c => if r = i then mul (M r c) f else M r c
def gadd (M : Nat → Nat → BitVec 8) (i r0 : Nat) (f : BitVec 8) : Nat → Nat → BitVec 8 := fun r c => if r = r0 then M r c ^^^ mul f (M i c) else M r c
def gelim (M : Nat → Nat → BitVec 8) (i : Nat) : Nat → Nat → BitVec 8 := fun r c => if r = i then M r c else M r c ^^^ mul (M r i) (M i c)
theorem swap_equiv {n : Nat} (M : Nat → Nat → BitVec 8) {i k : Nat} (hi : i < n) (hk : k < n) : Equiv n M (gswap M i k) := fun y t => by
  have e : ∀ r, (fun c => mul (gswap M i k r c) (y c)) = if r = i then (fun c => mul (M k c) (y c)) else if r = k then (fun c => mul (M i c) (y c)) else (fun c => mul (M r c) (y c)) := fun r => by
    funext c
    unfold gswap
    split
    · rfl
    · split <;> rfl
  constructor
  · intro h r hr
    rw [e]
    unfold gswap
    by_cases h1 : r = i
    · rw [if_pos h1, if_pos h1]; exact h k hk
    · rw [if_neg h1, if_neg h1]
      by_cases h2 : r = k
      · rw [if_pos h2, if_pos h2]; exact h i hi
      · rw [if_neg h2, if_neg h2]; exact h r hr
  · intro h r hr
    by_cases h1 : r = i
    · subst h1
      have := h k hk
      rw [e] at this
      unfold gswap at this
      by_cases h2 : k = r
      · subst h2
        rw [if_pos rfl, if_pos rfl] at this
        exact this
      · rw [if_neg h2, if_neg h2, if_pos rfl, if_pos rfl] at this
        exact this
    · by_cases h2 : r = k
      · subst h2
        have := h i hi
        rw [e] at this
        unfold gswap at this
        rw [if_pos rfl, if_pos rfl] at this
        exact this
      · have := h r hr
        rw [e] at this
        unfold gswap at this
        rw [if_neg h1, if_neg h1, if_neg h2, if_neg h2] at this
        exact this
theorem mul_cancel {a b f : BitVec 8} (hf : f ≠ 0#8) : mul f a = mul f b ↔ a = b := by
  constructor
  · intro h
    have : mul f (a ^^^ b) = 0#8 := by rw [Gal.mul_xor, h, BitVec.xor_self]
    rcases mul_eq_zero this with h1 | h1
    · exact absurd h1 hf
    · exact xor_eq_zero.1 h1
  · rintro rfl; rfl
theorem scale_equiv {n : Nat} (M : Nat → Nat → BitVec 8) (i : Nat) {f : BitVec 8} (hf : f ≠ 0#8) : Equiv n M (gscale M i f) := fun y t => by
  unfold Solves
  refine forall_congr' fun r => forall_congr' fun hr => ?_
  unfold gscale
  by_cases h : r = i
  · have e : (fun c => mul (if r = i then mul (M r c) f else M r c) (y c)) = fun c => mul f (mul (M r c) (y c)) := by
      funext c
      rw [if_pos h, Gal.mul_comm (M r c) f, Gal.mul_assoc]
    rw [e, xl_mul, if_pos h, Gal.mul_comm (M r n) f, Gal.mul_assoc, mul_cancel hf]
  · have e : (fun c => mul (if r = i then mul (M r c) f else M r c) (y c)) = fun c => mul (M r c) (y c) := by
      funext c
      rw [if_neg h]
    rw [e, if_neg h]
theorem add_equiv {n : Nat} (M : Nat → Nat → BitVec 8) {i r0 : Nat} (hi : i < n) (hne : r0 ≠ i) (f : BitVec 8) : Equiv n M (gadd M i r0 f) := fun y t => by
  have e : ∀ r, xl (List.range n) (fun c => mul (gadd M i r0 f r c) (y c)) = if r = r0 then xl (List.range n) (fun c => mul (M r c) (y c)) ^^^ mul f (xl (List.range n) (fun c => mul (M i c) (y c))) else xl (List.range n) (fun c => mul (M r c) (y c)) := fun r => by
    by_cases h : r = r0
    · rw [if_pos h, ← xl_mul, ← xl_xor]
      refine xl_congr _ (fun c _ => ?_)
      unfold gadd
      rw [if_pos h, Gal.xor_mul, Gal.mul_assoc]
    · rw [if_neg h]
      refine xl_congr _ (fun c _ => ?_)
      unfold gadd
      rw [if_neg h]
  have g : ∀ r, mul (gadd M i r0 f r n) t = if r = r0 then mul (M r n) t ^^^ mul f (mul (M i n) t) else mul (M r n) t := fun r => by
    unfold gadd
    by_cases h : r = r0
    · rw [if_pos h, if_pos h, Gal.xor_mul, Gal.mul_assoc]
    · rw [if_neg h, if_neg h]
  constructor
  · intro h r hr
    rw [e, g, h r hr, h i hi]
  · intro h r hr
    have hr' := h r hr
    have hi' := h i hi
    rw [e, g] at hr' hi'
    rw [if_neg (Ne.symm hne), if_neg (Ne.symm hne)] at hi'
    by_cases h1 : r = r0
    · rw [if_pos h1, if_pos h1, hi'] at hr'
      have := congrArg (· ^^^ mul f (mul (M i n) t)) hr'
      simp only [BitVec.xor_assoc, BitVec.xor_self, BitVec.xor_zero] at this
      exact this
    · rw [if_neg h1, if_neg h1] at hr'
      exact hr'
/-- All rows but one, one after the other. -/
def gsome (M : Nat → Nat → BitVec 8) (i m : Nat) : Nat → Nat → BitVec 8 := fun r c => if r ≠ i ∧ r < m then M r c ^^^ mul (M r i) (M i c) else M r c
theorem gsome_zero (M : Nat → Nat → BitVec 8) (i : Nat) : gsome M i 0 = M := by
  funext r c
  unfold gsome
  rw [if_neg (by omega)]
theorem gsome_self (M : Nat → Nat → BitVec 8) (i m : Nat) : gsome M i (m + 1) = if m = i then gsome M i m else gadd (gsome M i m) i m (M m i) := by
  by_cases h : m = i
  · rw [if_pos h]
    funext r c
    unfold gsome
    by_cases g : r ≠ i ∧ r < m
    · rw [if_pos g, if_pos (by omega)]
    · rw [if_neg g, if_neg (by omega)]
  · rw [if_neg h]
    funext r c
    unfold gadd gsome
    by_cases g : r = m
    · subst g
      rw [if_pos (by omega), if_pos rfl, if_neg (show ¬ (r ≠ i ∧ r < r) by omega), if_neg (show ¬ (i ≠ i ∧ i < r) by omega)]
    · rw [if_neg g]
      by_cases g2 : r ≠ i ∧ r < m
      · rw [if_pos g2, if_pos (by omega)]
      · rw [if_neg g2, if_neg (by omega)]
theorem gsome_equiv {n : Nat} (M : Nat → Nat → BitVec 8) {i : Nat} (hi : i < n) : ∀ m, Equiv n M (gsome M i m)
  | 0 => by rw [gsome_zero]; exact Equiv.refl _ _
  | m + 1 => by
    rw [gsome_self]
    split
    · exact gsome_equiv M hi m
    · rename_i h
      exact (gsome_equiv M hi m).trans (add_equiv _ hi h _)
theorem elim_equiv {n : Nat} (M : Nat → Nat → BitVec 8) {i : Nat} (hi : i < n) : Equiv n M (gelim M i) :=
  (gsome_equiv M hi n).trans (Equiv.of_eq fun r c hr _ => by
    unfold gsome gelim
    by_cases h : r = i
    · rw [if_pos h, if_neg (by omega)]
    · rw [if_neg h, if_pos ⟨h, hr⟩])
/-- The first i columns are those of the unit matrix. -/
def UnitTo (M : Nat → Nat → BitVec 8) (n i : Nat) : Prop := ∀ r c, r < n → c < i → M r c = if r = c then 1#8 else 0#8
theorem unit_zero (M : Nat → Nat → BitVec 8) (n : Nat) : UnitTo M n 0 := fun _ _ _ h => by omega
theorem unit_swap {M : Nat → Nat → BitVec 8} {n i k : Nat} (h : UnitTo M n i) (hi : i < n) (hk : k < n) (hik : i ≤ k) : UnitTo (gswap M i k) n i := fun r c hr hc => by
  unfold gswap
  by_cases h1 : r = i
  · rw [if_pos h1, h k c hk hc, if_neg (by omega), if_neg (by omega)]
  · rw [if_neg h1]
    by_cases h2 : r = k
    · rw [if_pos h2, h i c hi hc, if_neg (by omega), if_neg (by omega)]
    · rw [if_neg h2, h r c hr hc]
theorem unit_scale {M : Nat → Nat → BitVec 8} {n i : Nat} (h : UnitTo M n i) (f : BitVec 8) : UnitTo (gscale M i f) n i := fun r c hr hc => by
  unfold gscale
  by_cases h1 : r = i
  · rw [if_pos h1, h r c hr hc, if_neg (by omega), Gal.zero_mul]
  · rw [if_neg h1, h r c hr hc]
theorem unit_elim {M : Nat → Nat → BitVec 8} {n i : Nat} (h : UnitTo M n i) (hi : i < n) (h1 : M i i = 1#8) : UnitTo (gelim M i) n (i + 1) := fun r c hr hc => by
  unfold gelim
  by_cases hc2 : c = i
  · subst hc2
    by_cases h2 : r = c
    · rw [if_pos h2, if_pos h2, h2, h1]
    · rw [if_neg h2, if_neg h2, h1, Gal.mul_one, BitVec.xor_self]
  · have e0 : M i c = 0#8 := by rw [h i c hi (by omega), if_neg (by omega)]
    by_cases h2 : r = i
    · rw [if_pos h2, h r c hr (by omega)]
    · rw [if_neg h2, e0, Gal.mul_zero, BitVec.xor_zero, h r c hr (by omega)]
/-- One round. -/
theorem round_unit {M : Nat → Nat → BitVec 8} {n i k : Nat} (h : UnitTo M n i) (hi : i < n) (hk : k < n) (hik : i ≤ k) (hp : M k i ≠ 0#8) :
    UnitTo (gelim (gscale (gswap M i k) i (Gal.inv (M k i))) i) n (i + 1) :=
  unit_elim (unit_scale (unit_swap h hi hk hik) _) hi (by
    unfold gscale gswap
    rw [if_pos rfl, if_pos rfl, Gal.mul_inv hp])
theorem round_equiv {n : Nat} (M : Nat → Nat → BitVec 8) {i k : Nat} (hi : i < n) (hk : k < n) (f : BitVec 8) (hf : f ≠ 0#8) :
    Equiv n M (gelim (gscale (gswap M i k) i f) i) :=
  ((swap_equiv M hi hk).trans (scale_equiv _ i hf)).trans (elim_equiv _ hi)
theorem sum_unit {n r : Nat} (hr : r < n) (y : Nat → BitVec 8) : xl (List.range n) (fun c => mul (if r = c then 1#8 else 0#8) (y c)) = y r := by
  rw [xl_one (a := r) _ List.nodup_range (List.mem_range.2 hr) (fun c _ hc => by rw [if_neg (Ne.symm hc), Gal.zero_mul]), if_pos rfl, Gal.one_mul]
/-- At the end the right sides are the solution. -/
theorem unit_solves {M : Nat → Nat → BitVec 8} {n : Nat} (h : UnitTo M n n) (y : Nat → BitVec 8) (t : BitVec 8) : Solves M n y t ↔ ∀ r, r < n → y r = mul (M r n) t := by
  unfold Solves
  refine forall_congr' fun r => forall_congr' fun hr => ?_
  rw [xl_congr _ (fun c hc => by rw [h r c hr (List.mem_range.1 hc)]), sum_unit hr]
/-- Without a pivot something other than 0 is sent to 0. -/
theorem stuck_kernel {M : Nat → Nat → BitVec 8} {n i : Nat} (h : UnitTo M n i) (hi : i < n) (hz : ∀ r, i ≤ r → r < n → M r i = 0#8) :
    ∃ z, Solves M n z 0#8 ∧ z i = 1#8 := by
  refine ⟨fun c => if c < i then M c i else if c = i then 1#8 else 0#8, fun r hr => ?_, (if_neg (Nat.lt_irrefl i)).trans (if_pos rfl)⟩
  rw [Gal.mul_zero]
  have e : xl (List.range n) (fun c => mul (M r c) (if c < i then M c i else if c = i then 1#8 else 0#8)) =
      xl (List.range n) (fun c => mul (if r = c then 1#8 else 0#8) (if c < i then M c i else 0#8)) ^^^ xl (List.range n) (fun c => if c = i then M r i else 0#8) := by
    rw [← xl_xor]
    refine xl_congr _ (fun c hc => ?_)
    by_cases h1 : c < i
    · rw [if_pos h1, if_pos h1, if_neg (show ¬ c = i by omega), BitVec.xor_zero, h r c hr h1]
    · rw [if_neg h1, if_neg h1, Gal.mul_zero, BitVec.zero_xor]
      by_cases h2 : c = i
      · rw [if_pos h2, if_pos h2, Gal.mul_one, h2]
      · rw [if_neg h2, if_neg h2, Gal.mul_zero]
  rw [e, sum_unit hr (fun c => if c < i then M c i else 0#8), xl_one (a := i) _ List.nodup_range (List.mem_range.2 hi) (fun c _ hc => if_neg hc), if_pos rfl]
  by_cases h1 : r < i
  · rw [if_pos h1, BitVec.xor_self]
  · rw [if_neg h1, hz r (by omega) hr, BitVec.xor_zero]
end Blk
end Go.Proofs.YtlpjhmafplljaaaDoor
