/- The locator of wrong places, and the wrong bytes at known places, as solutions of linear equations: plain mathematics of layer 5. -/
import Derived.Test.YtlpjhmafplljaaaDoorBlkGauss
import Derived.Test.YtlpjhmafplljaaaDoorBlkCode
namespace Go.Proofs.YtlpjhmafplljaaaDoor
set_option linter.unusedVariables false
namespace Blk
open Gal (mul pown)
theorem pown_add (x : BitVec 8) (i : Nat) : ∀ j, pown x (i + j) = mul (pown x i) (pown x j)
  | 0 => (Gal.mul_one _).symm
  | j + 1 => by
    show mul (pown x (i + j)) x = mul (pown x i) (mul (pown x j) x)
    rw [pown_add x i j, Gal.mul_assoc]
/-- What the erased places take away. -/
def gam (X : Nat → BitVec 8) : List Nat → Nat → BitVec 8
  | [], _ => 1#8
  | q :: f, p => mul (X p ^^^ X q) (gam X f p)
theorem gam_in (X : Nat → BitVec 8) {p : Nat} : ∀ (f : List Nat), p ∈ f → gam X f p = 0#8
  | [], h => by cases h
  | q :: f, h => by
    unfold gam
    rcases List.mem_cons.1 h with rfl | h
    · rw [BitVec.xor_self, Gal.zero_mul]
    · rw [gam_in X f h, Gal.mul_zero]
theorem gam_out (X : Nat → BitVec 8) {p : Nat} : ∀ (f : List Nat), (∀ q, q ∈ f → X p ≠ X q) → gam X f p ≠ 0#8
  | [], _ => by unfold gam; decide
  | q :: f, h => by
    unfold gam
    exact Gal.mul_ne (fun e => h q (by simp) (xor_eq_zero.1 e)) (gam_out X f (fun r hr => h r (by simp [hr])))
/-- One erased place is taken out of the syndromes. -/
def tstep (X : Nat → BitVec 8) (T : Nat → BitVec 8) (q j : Nat) : BitVec 8 := T j ^^^ mul (X q) (Gal.sh 1 T j)
def twist (X : Nat → BitVec 8) (f : List Nat) (S : Nat → BitVec 8) : Nat → BitVec 8 := f.foldl (tstep X) S
theorem twist_sums (X : Nat → BitVec 8) (l : List Nat) : ∀ (f : List Nat) (T g : Nat → BitVec 8) (k : Nat), (∀ j, k ≤ j → j < 8 → T j = xl l (fun p => mul (g p) (pown (X p) (j - k)))) →
    ∀ j, k + f.length ≤ j → j < 8 → twist X f T j = xl l (fun p => mul (mul (g p) (gam X f p)) (pown (X p) (j - (k + f.length))))
  | [], T, g, k, h, j, h1, h2 => by
    show T j = _
    rw [h j (by simpa using h1) h2]
    refine xl_congr l (fun p _ => ?_)
    show _ = mul (mul (g p) 1#8) _
    rw [Gal.mul_one]
    rfl
  | q :: f, T, g, k, h, j, h1, h2 => by
    show twist X f (tstep X T q) j = _
    rw [List.length_cons] at h1
    rw [twist_sums X l f (tstep X T q) (fun p => mul (g p) (X p ^^^ X q)) (k + 1) (fun j h3 h4 => by
      unfold tstep Gal.sh
      rw [if_pos (by omega), h j (by omega) h4, h (j - 1) (by omega) (by omega), ← xl_mul, ← xl_xor]
      refine xl_congr l (fun p _ => ?_)
      rw [show j - k = (j - 1 - k) + 1 by omega, show j - (k + 1) = j - 1 - k by omega, pown_succ, Gal.mul_xor, Gal.xor_mul]
      congr 1
      · rw [Gal.mul_assoc, Gal.mul_comm (X p)]
      · rw [Gal.mul_comm (g p) (X q), Gal.mul_assoc]) j (by omega) h2]
    refine xl_congr l (fun p _ => ?_)
    rw [List.length_cons, show k + 1 + f.length = k + (f.length + 1) by omega]
    show mul (mul (mul (g p) (X p ^^^ X q)) (gam X f p)) _ = mul (mul (g p) (mul (X p ^^^ X q) (gam X f p))) _
    rw [Gal.mul_assoc (g p)]
/-- The locator's coefficients: the product of 1 + X p x. -/
def lam (X : Nat → BitVec 8) : List Nat → Nat → BitVec 8
  | [], i => if i = 0 then 1#8 else 0#8
  | p :: l, i => lam X l i ^^^ mul (X p) (Gal.sh 1 (lam X l) i)
theorem lam_zero (X : Nat → BitVec 8) : ∀ l, lam X l 0 = 1#8
  | [] => rfl
  | p :: l => by
    unfold lam Gal.sh
    rw [lam_zero X l, if_neg (by omega), Gal.mul_zero, BitVec.xor_zero]
theorem lam_out (X : Nat → BitVec 8) : ∀ l i, l.length < i → lam X l i = 0#8
  | [], i, h => by
    unfold lam
    rw [if_neg (by simp at h; omega)]
  | p :: l, i, h => by
    rw [List.length_cons] at h
    unfold lam Gal.sh
    rw [lam_out X l i (by omega), if_pos (by omega), lam_out X l (i - 1) (by omega), Gal.mul_zero, BitVec.xor_zero]
def facs (X : Nat → BitVec 8) (x : BitVec 8) : List Nat → BitVec 8
  | [] => 1#8
  | p :: l => mul (1#8 ^^^ mul (X p) x) (facs X x l)
theorem lam_eval (X : Nat → BitVec 8) (x : BitVec 8) : ∀ l, Gal.evl (lam X l) x (l.length + 1) = facs X x l
  | [] => by
    show 0#8 ^^^ mul (lam X [] 0) (pown x 0) = 1#8
    rw [lam_zero, Gal.one_mul, BitVec.zero_xor]
    rfl
  | p :: l => by
    have e : Gal.evl (lam X (p :: l)) x ((p :: l).length + 1) = Gal.evl (fun i => lam X l i ^^^ mul (X p) (Gal.sh 1 (lam X l) i)) x ((p :: l).length + 1) := Gal.evl_congr (fun _ => rfl) _
    rw [e, Gal.evl_xor, Gal.evl_scale, List.length_cons]
    have h1 : Gal.evl (lam X l) x (l.length + 1 + 1) = Gal.evl (lam X l) x (l.length + 1) := Gal.evl_more (fun i hi => lam_out X l i (by omega)) 1
    have h2 : Gal.evl (Gal.sh 1 (lam X l)) x (l.length + 1 + 1) = mul (pown x 1) (Gal.evl (lam X l) x (l.length + 1)) := by
      rw [show l.length + 1 + 1 = 1 + (l.length + 1) by omega]
      exact Gal.evl_sh _ _ _ _
    rw [h1, h2, lam_eval X x l]
    show _ = mul (1#8 ^^^ mul (X p) x) (facs X x l)
    rw [Gal.xor_mul, Gal.one_mul, Gal.mul_assoc, show pown x 1 = x from Gal.one_mul x]
theorem facs_zero (X : Nat → BitVec 8) (x : BitVec 8) : ∀ l, facs X x l = 0#8 ↔ ∃ p, p ∈ l ∧ mul (X p) x = 1#8
  | [] => by
    unfold facs
    constructor
    · intro h; exact absurd h (by decide)
    · rintro ⟨p, h, _⟩; cases h
  | q :: l => by
    unfold facs
    constructor
    · intro h
      rcases mul_eq_zero h with h1 | h1
      · exact ⟨q, by simp, (xor_eq_zero.1 h1).symm⟩
      · obtain ⟨p, hp, e⟩ := (facs_zero X x l).1 h1
        exact ⟨p, by simp [hp], e⟩
    · rintro ⟨p, hp, e⟩
      rcases List.mem_cons.1 hp with rfl | hp
      · rw [e, BitVec.xor_self, Gal.zero_mul]
      · rw [(facs_zero X x l).2 ⟨p, hp, e⟩, Gal.mul_zero]
/-- The coefficients backwards have the places' elements as zeros. -/
theorem lam_back (X : Nat → BitVec 8) (x : BitVec 8) : ∀ l, xl (List.range (l.length + 1)) (fun i => mul (lam X l i) (pown x (l.length - i))) = l.foldr (fun p s => mul (x ^^^ X p) s) 1#8
  | [] => by
    show mul (lam X [] 0) (pown x 0) ^^^ 0#8 = 1#8
    rw [lam_zero, Gal.one_mul, BitVec.xor_zero]
    rfl
  | p :: l => by
    have ih := lam_back X x l
    rw [List.length_cons, List.foldr_cons, ← ih, Gal.xor_mul, ← xl_mul, ← xl_mul]
    have e : xl (List.range (l.length + 1 + 1)) (fun i => mul (lam X (p :: l) i) (pown x (l.length + 1 - i))) =
        xl (List.range (l.length + 1 + 1)) (fun i => mul (lam X l i) (pown x (l.length + 1 - i))) ^^^ xl (List.range (l.length + 1 + 1)) (fun i => mul (mul (X p) (Gal.sh 1 (lam X l) i)) (pown x (l.length + 1 - i))) := by
      rw [← xl_xor]
      refine xl_congr _ (fun i _ => ?_)
      show mul (lam X l i ^^^ mul (X p) (Gal.sh 1 (lam X l) i)) _ = _
      rw [Gal.xor_mul]
    have A : xl (List.range (l.length + 1 + 1)) (fun i => mul (lam X l i) (pown x (l.length + 1 - i))) = xl (List.range (l.length + 1)) (fun i => mul x (mul (lam X l i) (pown x (l.length - i)))) := by
      rw [xl_range_succ, lam_out X l (l.length + 1) (by omega), Gal.zero_mul, BitVec.xor_zero]
      refine xl_congr _ (fun i hi => ?_)
      have := List.mem_range.1 hi
      rw [show l.length + 1 - i = (l.length - i) + 1 by omega, pown_succ, Gal.mul_comm x, Gal.mul_assoc]
    have B : xl (List.range (l.length + 1 + 1)) (fun i => mul (mul (X p) (Gal.sh 1 (lam X l) i)) (pown x (l.length + 1 - i))) = xl (List.range (l.length + 1)) (fun i => mul (X p) (mul (lam X l i) (pown x (l.length - i)))) := by
      rw [xl_range_front]
      have z : mul (mul (X p) (Gal.sh 1 (lam X l) 0)) (pown x (l.length + 1 - 0)) = 0#8 := by
        unfold Gal.sh
        rw [if_neg (by omega), Gal.mul_zero, Gal.zero_mul]
      rw [z, BitVec.zero_xor]
      refine xl_congr _ (fun i hi => ?_)
      unfold Gal.sh
      rw [if_pos (by omega), show i + 1 - 1 = i by omega, show l.length + 1 - (i + 1) = l.length - i by omega, Gal.mul_assoc]
    rw [e, A, B]
theorem back_zero (X : Nat → BitVec 8) {q : Nat} : ∀ l : List Nat, q ∈ l → l.foldr (fun p s => mul (X q ^^^ X p) s) 1#8 = 0#8
  | [], h => by cases h
  | p :: l, h => by
    rw [List.foldr_cons]
    rcases List.mem_cons.1 h with rfl | h
    · rw [BitVec.xor_self, Gal.zero_mul]
    · rw [back_zero X l h, Gal.mul_zero]
/-- Sums of powers over the wrong places. -/
def pows (X w : Nat → BitVec 8) (E : List Nat) (s : Nat) : BitVec 8 := xl E (fun p => mul (w p) (pown (X p) s))
/-- The locator solves the equations. -/
theorem loc_solves (X w : Nat → BitVec 8) (E : List Nat) (r : Nat) : xl (List.range E.length) (fun i => mul (pows X w E (E.length + r - 1 - i)) (lam X E (i + 1))) = pows X w E (E.length + r) := by
  have h : xl (List.range (E.length + 1)) (fun i => mul (pows X w E (E.length + r - i)) (lam X E i)) = 0#8 := by
    have e : xl (List.range (E.length + 1)) (fun i => mul (pows X w E (E.length + r - i)) (lam X E i)) = xl (List.range (E.length + 1)) (fun i => xl E (fun p => mul (mul (w p) (pown (X p) r)) (mul (lam X E i) (pown (X p) (E.length - i))))) := by
      refine xl_congr _ (fun i hi => ?_)
      have := List.mem_range.1 hi
      unfold pows
      rw [Gal.mul_comm, ← xl_mul]
      refine xl_congr _ (fun p _ => ?_)
      rw [show E.length + r - i = r + (E.length - i) by omega, pown_add, Gal.mul_comm (lam X E i), Gal.mul_assoc, Gal.mul_assoc, Gal.mul_assoc, Gal.mul_comm (lam X E i)]
    rw [e, xl_comm]
    refine xl_zero _ (fun p hp => ?_)
    rw [xl_mul, lam_back, back_zero X E hp, Gal.mul_zero]
  rw [xl_range_front, lam_zero, Gal.mul_one, xor_eq_zero] at h
  rw [Nat.sub_zero] at h
  rw [h]
  refine xl_congr _ (fun i _ => ?_)
  rw [show E.length + r - 1 - i = E.length + r - (i + 1) by omega]
/-- It is the only solution. -/
theorem loc_kernel (X w : Nat → BitVec 8) (E : List Nat) (hn : E.Nodup) (hX : ∀ i, i ∈ E → ∀ j, j ∈ E → X i = X j → i = j) (hw : ∀ p, p ∈ E → w p ≠ 0#8) (z : Nat → BitVec 8)
    (h : ∀ r, r < E.length → xl (List.range E.length) (fun i => mul (pows X w E (E.length + r - 1 - i)) (z i)) = 0#8) : ∀ i, i < E.length → z i = 0#8 := by
  have h1 : ∀ p, p ∈ E → mul (w p) (xl (List.range E.length) (fun i => mul (z i) (pown (X p) (E.length - 1 - i)))) = 0#8 := by
    refine powers_zero X E _ hn hX (fun r hr => ?_)
    rw [← h r hr]
    have e : xl (List.range E.length) (fun i => mul (pows X w E (E.length + r - 1 - i)) (z i)) = xl (List.range E.length) (fun i => xl E (fun p => mul (mul (w p) (pown (X p) r)) (mul (z i) (pown (X p) (E.length - 1 - i))))) := by
      refine xl_congr _ (fun i hi => ?_)
      have := List.mem_range.1 hi
      unfold pows
      rw [Gal.mul_comm, ← xl_mul]
      refine xl_congr _ (fun p _ => ?_)
      rw [show E.length + r - 1 - i = r + (E.length - 1 - i) by omega, pown_add, Gal.mul_comm (z i), Gal.mul_assoc, Gal.mul_assoc, Gal.mul_assoc, Gal.mul_comm (z i)]
    rw [e, xl_comm]
    refine xl_congr _ (fun p _ => ?_)
    rw [xl_mul, Gal.mul_assoc, Gal.mul_comm (xl _ _), ← Gal.mul_assoc]
  have h2 : ∀ p, p ∈ E → val (fun i => z (E.length - 1 - i)) (X p) 0 E.length = 0#8 := fun p hp => by
    rcases mul_eq_zero (h1 p hp) with g | g
    · exact absurd g (hw p hp)
    · rw [val_evl, evl_xl, ← g]
      -- the same sum backwards
      have rev : ∀ (n : Nat) (g : Nat → BitVec 8), xl (List.range n) g = xl (List.range n) (fun i => g (n - 1 - i)) := by
        intro n
        induction n with
        | zero => intro g; rfl
        | succ n ih =>
          intro g
          rw [xl_range_succ, xl_range_front, ih g]
          rw [show n + 1 - 1 - 0 = n by omega, BitVec.xor_comm]
          congr 1
          refine xl_congr _ (fun i hi => ?_)
          rw [show n + 1 - 1 - (i + 1) = n - 1 - i by omega]
      rw [rev E.length (fun i => mul (z i) (pown (X p) (E.length - 1 - i)))]
      refine xl_congr _ (fun i hi => ?_)
      have := List.mem_range.1 hi
      rw [show E.length - 1 - (E.length - 1 - i) = i by omega]
  have h3 := zeros_zero X E (fun i => z (E.length - 1 - i)) 0 hn hX h2
  intro i hi
  have := h3 (E.length - 1 - i) (by omega)
  rwa [Nat.zero_add, show E.length - 1 - (E.length - 1 - i) = i by omega] at this
end Blk
end Go.Proofs.YtlpjhmafplljaaaDoor
