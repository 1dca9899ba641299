/- The best way from each state to the end, from the last step to the first: plain mathematics. -/
import Derived.Test.YtgfihljledmaaaaVitDec
namespace Go.Proofs.Ytgfihljledmaaaa
set_option linter.unusedVariables false
namespace Vit
open Cv
/-- The greatest sum of the k steps from the step i on, out of the state s; the bits from m on are 0. -/
def bsum (f : Nat → Int) (m : Nat) : Nat → Nat → Nat → Int
  | 0, _, _ => 0
  | k + 1, i, s => if i < m ∧ cst f i s 0 + bsum f m k (i + 1) (nx s 0) < cst f i s 1 + bsum f m k (i + 1) (nx s 1) then cst f i s 1 + bsum f m k (i + 1) (nx s 1) else cst f i s 0 + bsum f m k (i + 1) (nx s 0)
/-- The bit with which it begins. -/
def bbit (f : Nat → Int) (m : Nat) : Nat → Nat → Nat → Nat
  | 0, _, _ => 0
  | k + 1, i, s => if i < m ∧ cst f i s 0 + bsum f m k (i + 1) (nx s 0) < cst f i s 1 + bsum f m k (i + 1) (nx s 1) then 1 else 0
theorem bbit_succ (f : Nat → Int) (m k i s : Nat) : bbit f m (k + 1) i s = if i < m ∧ cst f i s 0 + bsum f m k (i + 1) (nx s 0) < cst f i s 1 + bsum f m k (i + 1) (nx s 1) then 1 else 0 := rfl
theorem bsum_succ (f : Nat → Int) (m k i s : Nat) : bsum f m (k + 1) i s = if i < m ∧ cst f i s 0 + bsum f m k (i + 1) (nx s 0) < cst f i s 1 + bsum f m k (i + 1) (nx s 1) then cst f i s 1 + bsum f m k (i + 1) (nx s 1) else cst f i s 0 + bsum f m k (i + 1) (nx s 0) := rfl
theorem bbit_lt (f : Nat → Int) (m : Nat) : ∀ k i s, bbit f m k i s < 2
  | 0, _, _ => by show 0 < 2; omega
  | k + 1, i, s => by
    rw [bbit_succ]
    split
    · omega
    · omega
theorem bbit_tail (f : Nat → Int) (m : Nat) : ∀ k i s, m ≤ i → bbit f m k i s = 0
  | 0, _, _, _ => rfl
  | k + 1, i, s, h => by
    rw [bbit_succ, if_neg (by omega)]
/-- What it adds: the bit's own way. -/
theorem bsum_bit (f : Nat → Int) (m k i s : Nat) : bsum f m (k + 1) i s = cst f i s (bbit f m (k + 1) i s) + bsum f m k (i + 1) (nx s (bbit f m (k + 1) i s)) := by
  rw [bsum_succ, bbit_succ]
  by_cases h : i < m ∧ cst f i s 0 + bsum f m k (i + 1) (nx s 0) < cst f i s 1 + bsum f m k (i + 1) (nx s 1)
  · rw [if_pos h, if_pos h]
  · rw [if_neg h, if_neg h]
/-- Any other bit: less, or the same and not the lesser bit. -/
theorem bsum_best (f : Nat → Int) (m k i s x : Nat) (hx : x < 2) (hm : m ≤ i → x = 0) :
    cst f i s x + bsum f m k (i + 1) (nx s x) < bsum f m (k + 1) i s ∨ (cst f i s x + bsum f m k (i + 1) (nx s x) = bsum f m (k + 1) i s ∧ bbit f m (k + 1) i s ≤ x) := by
  rw [bsum_succ, bbit_succ]
  by_cases h : i < m ∧ cst f i s 0 + bsum f m k (i + 1) (nx s 0) < cst f i s 1 + bsum f m k (i + 1) (nx s 1)
  · rw [if_pos h, if_pos h]
    match x, hx with
    | 0, _ => exact .inl h.2
    | 1, _ => exact .inr ⟨rfl, Nat.le_refl _⟩
  · rw [if_neg h, if_neg h]
    match x, hx with
    | 0, _ => exact .inr ⟨rfl, Nat.le_refl _⟩
    | 1, _ =>
      have : i < m := by
        apply Nat.lt_of_not_le
        intro g
        have := hm g
        omega
      by_cases q : cst f i s 1 + bsum f m k (i + 1) (nx s 1) = cst f i s 0 + bsum f m k (i + 1) (nx s 0)
      · exact .inr ⟨q, by omega⟩
      · exact .inl (by have := fun z => h ⟨this, z⟩; omega)
/-- The sums stay small. -/
theorem cst_small {f : Nat → Int} {i s x : Nat} (h1 : -8 ≤ f (2 * i) ∧ f (2 * i) ≤ 7) (h2 : -8 ≤ f (2 * i + 1) ∧ f (2 * i + 1) ≤ 7) : -16 ≤ cst f i s x ∧ cst f i s x ≤ 14 := by
  unfold cst
  have a := s1_lt s x
  have b := s2_lt s x
  generalize s1 s x = p at *
  generalize s2 s x = q at *
  match p, a, q, b with
  | 0, _, 0, _ => simp
  | 0, _, 1, _ => simp; omega
  | 1, _, 0, _ => simp; omega
  | 1, _, 1, _ => simp; omega
theorem bsum_small {f : Nat → Int} (m : Nat) : ∀ k i : Nat, (∀ j, j < 2 * (i + k) → -8 ≤ f j ∧ f j ≤ 7) → ∀ s, -16 * (k : Int) ≤ bsum f m k i s ∧ bsum f m k i s ≤ 14 * (k : Int)
  | 0, _, _, s => by show -16 * ((0 : Nat) : Int) ≤ 0 ∧ (0 : Int) ≤ 14 * ((0 : Nat) : Int); omega
  | k + 1, i, h, s => by
    rw [bsum_bit]
    have a := bsum_small m k (i + 1) (fun j hj => h j (by omega)) (nx s (bbit f m (k + 1) i s))
    have b := cst_small (s := s) (x := bbit f m (k + 1) i s) (h (2 * i) (by omega)) (h (2 * i + 1) (by omega))
    omega
/-- What the k steps from i on add. -/
def rs (f : Nat → Int) (g : Nat → Nat) : Nat → Nat → Int
  | 0, _ => 0
  | k + 1, i => cst f i (stt g i) (g i) + rs f g k (i + 1)
theorem tot_rs (f : Nat → Int) (g : Nat → Nat) : ∀ k i, tot f g (i + k) = tot f g i + rs f g k i
  | 0, i => by show tot f g i = tot f g i + 0; omega
  | k + 1, i => by
    rw [show i + (k + 1) = (i + 1) + k by omega, tot_rs f g k (i + 1)]
    show tot f g i + cst f i (stt g i) (g i) + rs f g k (i + 1) = tot f g i + (cst f i (stt g i) (g i) + rs f g k (i + 1))
    omega
theorem rs_le {f : Nat → Int} {m : Nat} {g : Nat → Nat} (hg : ∀ i, g i < 2) (h0 : ∀ i, m ≤ i → g i = 0) : ∀ k i, rs f g k i ≤ bsum f m k i (stt g i)
  | 0, i => Int.le_refl _
  | k + 1, i => by
    have a := rs_le (f := f) hg h0 k (i + 1)
    have b := bsum_best f m k i (stt g i) (g i) (hg i) (h0 i)
    show cst f i (stt g i) (g i) + rs f g k (i + 1) ≤ _
    rw [show stt g (i + 1) = nx (stt g i) (g i) from rfl] at a
    omega
/-- The way that follows the bits, of T steps: its state ahead of the step i. -/
def fst (f : Nat → Int) (m T : Nat) : Nat → Nat
  | 0 => 0
  | i + 1 => nx (fst f m T i) (bbit f m (T - i) i (fst f m T i))
def fbit (f : Nat → Int) (m T i : Nat) : Nat := bbit f m (T - i) i (fst f m T i)
theorem fbit_lt (f : Nat → Int) (m T i : Nat) : fbit f m T i < 2 := bbit_lt _ _ _ _ _
theorem fbit_tail (f : Nat → Int) (m T i : Nat) (h : m ≤ i) : fbit f m T i = 0 := bbit_tail _ _ _ _ _ h
theorem fst_stt (f : Nat → Int) (m T : Nat) : ∀ i, stt (fbit f m T) i = fst f m T i
  | 0 => rfl
  | i + 1 => by
    show nx (stt (fbit f m T) i) (fbit f m T i) = nx (fst f m T i) (bbit f m (T - i) i (fst f m T i))
    rw [fst_stt f m T i]
    rfl
theorem fst_lt (f : Nat → Int) (m T i : Nat) : fst f m T i < 64 := by
  rw [← fst_stt]
  exact stt_lt (fbit_lt f m T) i
theorem rs_follow (f : Nat → Int) (m T : Nat) : ∀ k i, i + k = T → rs f (fbit f m T) k i = bsum f m k i (fst f m T i)
  | 0, i, _ => rfl
  | k + 1, i, h => by
    show cst f i (stt (fbit f m T) i) (fbit f m T i) + rs f (fbit f m T) k (i + 1) = _
    rw [rs_follow f m T k (i + 1) (by omega), bsum_bit, fst_stt]
    have e : fbit f m T i = bbit f m (k + 1) i (fst f m T i) := by
      unfold fbit
      rw [show T - i = k + 1 by omega]
    rw [e]
    congr 2
    show nx (fst f m T i) (bbit f m (T - i) i (fst f m T i)) = _
    rw [show T - i = k + 1 by omega]
/-- The first bits of a way as a number, and what can follow. -/
theorem vl_grow {g : Nat → Nat} (hg : ∀ i, g i < 2) (a : Nat) : ∀ r, 2 ^ r * vl g a ≤ vl g (a + r) ∧ vl g (a + r) < 2 ^ r * (vl g a + 1)
  | 0 => by simp
  | r + 1 => by
    have ih := vl_grow hg a r
    have b := hg (a + r)
    show 2 ^ (r + 1) * vl g a ≤ 2 * vl g (a + r) + g (a + r) ∧ 2 * vl g (a + r) + g (a + r) < 2 ^ (r + 1) * (vl g a + 1)
    have e1 : 2 ^ (r + 1) * vl g a = 2 * (2 ^ r * vl g a) := by rw [Nat.pow_succ, Nat.mul_comm (2 ^ r) 2, Nat.mul_assoc]
    have e2 : 2 ^ (r + 1) * (vl g a + 1) = 2 * (2 ^ r * (vl g a + 1)) := by rw [Nat.pow_succ, Nat.mul_comm (2 ^ r) 2, Nat.mul_assoc]
    rw [e1, e2]
    omega
theorem vl_less {g h : Nat → Nat} (hg : ∀ i, g i < 2) (hh : ∀ i, h i < 2) {a : Nat} (he : ∀ i, i < a → g i = h i) (hl : g a < h a) (r : Nat) : vl g (a + 1 + r) < vl h (a + 1 + r) := by
  have x := (vl_grow hg (a + 1) r).2
  have y := (vl_grow hh (a + 1) r).1
  have e : vl g (a + 1) + 1 ≤ vl h (a + 1) := by
    show 2 * vl g a + g a + 1 ≤ 2 * vl h a + h a
    rw [vl_congr a he]
    omega
  have := Nat.mul_le_mul_left (2 ^ r) e
  omega
/-- Of the ways whose sums are the greatest, the one that follows the bits is the least. -/
theorem follow_least {f : Nat → Int} {m T : Nat} {g : Nat → Nat} (hg : ∀ i, g i < 2) (h0 : ∀ i, m ≤ i → g i = 0) : ∀ k i, i + k = T → (∀ j, j < i → fbit f m T j = g j) → rs f g k i = bsum f m k i (fst f m T i) → vl (fbit f m T) T ≤ vl g T
  | 0, i, h, he, _ => by
    obtain rfl : i = T := by omega
    exact Nat.le_of_eq (vl_congr _ he)
  | k + 1, i, h, he, hr => by
    have es : stt g i = fst f m T i := by rw [← fst_stt]; exact (stt_congr i he).symm
    have eb : fbit f m T i = bbit f m (k + 1) i (fst f m T i) := by unfold fbit; rw [show T - i = k + 1 by omega]
    have b := bsum_best f m k i (fst f m T i) (g i) (hg i) (h0 i)
    have l := rs_le (f := f) (m := m) hg h0 k (i + 1)
    have hr' : cst f i (stt g i) (g i) + rs f g k (i + 1) = bsum f m (k + 1) i (fst f m T i) := hr
    rw [show stt g (i + 1) = nx (stt g i) (g i) from rfl] at l
    rw [es] at hr' l
    rw [← eb] at b
    by_cases q : fbit f m T i = g i
    · refine follow_least hg h0 k (i + 1) (by omega) (fun j hj => ?_) ?_
      · by_cases e : j = i
        · subst e; exact q
        · exact he j (by omega)
      · have e2 : fst f m T (i + 1) = nx (fst f m T i) (g i) := by
          rw [← q]
          rfl
        rw [e2]
        omega
    · have lt : fbit f m T i < g i := by
        have := fbit_lt f m T i
        have := hg i
        omega
      have := vl_less (fbit_lt f m T) hg he lt (T - (i + 1))
      rw [show i + 1 + (T - (i + 1)) = T by omega] at this
      omega
/-- What the decoder finds is the best message. -/
theorem follow_top (f : Nat → Int) (n : Nat) : Top f n (byt (fbit f (8 * n) (8 * n + 6))) ∧ msum f n (byt (fbit f (8 * n) (8 * n + 6))) = bsum f (8 * n) (8 * n + 6) 0 0 := by
  have em : ∀ i, mb (byt (fbit f (8 * n) (8 * n + 6))) n i = fbit f (8 * n) (8 * n + 6) i := fun i => by
    by_cases q : i < 8 * n
    · exact byt_mb (fbit_lt _ _ _) n i q
    · rw [mb_tail0 _ n i (by omega), fbit_tail _ _ _ _ (by omega)]
  have es : msum f n (byt (fbit f (8 * n) (8 * n + 6))) = bsum f (8 * n) (8 * n + 6) 0 0 := by
    unfold msum
    rw [tot_congr _ (fun i _ => em i)]
    have := tot_rs f (fbit f (8 * n) (8 * n + 6)) (8 * n + 6) 0
    rw [Nat.zero_add, rs_follow f (8 * n) (8 * n + 6) (8 * n + 6) 0 (by omega)] at this
    rw [this]
    show 0 + _ = _
    rw [Int.zero_add]
    rfl
  have ev : ∀ d : Nat → BitVec 8, vl (mb d n) (8 * n + 6) = 64 * num d n := fun d => by
    rw [vl_tail 6 (fun i h1 _ => mb_tail0 d n i h1), vl_num d n n (Nat.le_refl _)]
  refine ⟨fun c => ?_, es⟩
  have ec : msum f n c = rs f (mb c n) (8 * n + 6) 0 := by
    have := tot_rs f (mb c n) (8 * n + 6) 0
    rw [Nat.zero_add] at this
    unfold msum
    rw [this]
    show 0 + _ = _
    rw [Int.zero_add]
  have hg : ∀ i, mb c n i < 2 := fun i => mb_lt c n i
  have h0 : ∀ i, 8 * n ≤ i → mb c n i = 0 := fun i h => mb_tail0 c n i h
  have le : rs f (mb c n) (8 * n + 6) 0 ≤ bsum f (8 * n) (8 * n + 6) 0 0 := rs_le hg h0 (8 * n + 6) 0
  rw [es, ec]
  by_cases q : rs f (mb c n) (8 * n + 6) 0 = bsum f (8 * n) (8 * n + 6) 0 0
  · have := follow_least (T := 8 * n + 6) hg h0 (8 * n + 6) 0 (by omega) (fun j hj => absurd hj (Nat.not_lt_zero j)) q
    rw [ev c, ← vl_congr (8 * n + 6) (fun i _ => em i), ev] at this
    exact .inr ⟨q, by omega⟩
  · exact .inl (by omega)
end Vit
end Go.Proofs.Ytgfihljledmaaaa
