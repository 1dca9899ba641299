/- Code blocks: their distance, what is encoded, what may be decoded: plain mathematics of layer 5. -/
import Derived.Test.YtlpjhmafplljaaaDoorBlkMath
namespace Go.Proofs.YtlpjhmafplljaaaDoor
set_option linter.unusedVariables false
namespace Blk
open Gal (mul co)
theorem rev_range (n : Nat) : (List.range n).map (fun i => n - 1 - i) = (List.range n).reverse := by
  apply List.ext_getElem
  · simp
  · intro i h1 h2
    simp at h1
    simp [List.getElem_reverse]
theorem count_rev (P : Nat → Bool) (n : Nat) : ((List.range n).filter (fun i => P (n - 1 - i))).length = ((List.range n).filter P).length := by
  rw [← List.countP_eq_length_filter, ← List.countP_eq_length_filter]
  have : (List.range n).countP (fun i => P (n - 1 - i)) = ((List.range n).map (fun i => n - 1 - i)).countP P := by rw [List.countP_map]; rfl
  rw [this, rev_range, List.countP_reverse]
theorem co_reverse (b : List UInt8) (i : Nat) (h : i < b.length) : co b.reverse i = co b (b.length - 1 - i) := by
  unfold Gal.co
  rw [List.getD_eq_getElem?_getD, List.getD_eq_getElem?_getD, List.getElem?_reverse h]
/-- The values of a block at the powers of 2. -/
def syn (b : List UInt8) (j : Nat) : BitVec 8 := Gal.evl (co b.reverse) (Gal.pw j) b.length
theorem syn_eval (b : List UInt8) (j : Nat) : syn b j = Gal.evalV b.reverse (Gal.pw j) := by
  unfold syn Gal.evalV
  rw [List.length_reverse]
/-- A code block. -/
def Code (b : List UInt8) : Prop := 9 ≤ b.length ∧ b.length ≤ 231 ∧ ∀ j, j < 8 → syn b j = 0#8
/-- The places in which blocks differ. -/
def dif (a b : List UInt8) : List Nat := (List.range a.length).filter (fun i => decide (co a i ≠ co b i))
theorem dif_nil {a b : List UInt8} (hl : a.length = b.length) (h : ∀ i, i < a.length → co a i = co b i) : a = b := Gal.ext hl h
theorem code_far {a b : List UInt8} (ha : Code a) (hb : Code b) (hl : a.length = b.length) (hd : (dif a b).length ≤ 8) : a = b := by
  refine dif_nil hl (fun i hi => ?_)
  have hz := few_zero (fun i => co a.reverse i ^^^ co b.reverse i) a.length (by have := ha.2.1; omega) (fun j hj => by
    rw [Gal.evl_xor]
    have h1 := ha.2.2 j hj
    have h2 := hb.2.2 j hj
    unfold syn at h1 h2
    rw [h1, hl, h2, BitVec.xor_self]) (by
    have e : (List.range a.length).filter (fun i => decide (co a.reverse i ^^^ co b.reverse i ≠ 0#8)) = (List.range a.length).filter (fun i => decide (co a (a.length - 1 - i) ≠ co b (a.length - 1 - i))) := by
      apply List.filter_congr
      intro i hi
      have hi' := List.mem_range.1 hi
      rw [co_reverse a i hi', co_reverse b i (by omega), ← hl, decide_eq_decide]
      exact not_congr xor_eq_zero
    show ((List.range a.length).filter (fun i => decide (co a.reverse i ^^^ co b.reverse i ≠ 0#8))).length ≤ 8
    rw [e, count_rev (fun i => decide (co a i ≠ co b i))]
    exact hd)
  have := hz (a.length - 1 - i) (by omega)
  rw [co_reverse a _ (by omega), co_reverse b _ (by omega), ← hl, show a.length - 1 - (a.length - 1 - i) = i by omega] at this
  exact xor_eq_zero.1 this
theorem code_least {a b : List UInt8} (ha : Code a) (hb : Code b) (hl : a.length = b.length) (hne : a ≠ b) : 9 ≤ (dif a b).length := by
  apply Nat.le_of_not_lt
  intro h
  exact hne (code_far ha hb hl (by omega))
/-- Blocks that differ in the last eight bytes alone. -/
theorem tail_few {a b : List UInt8} (h8 : 8 ≤ a.length) (h : ∀ i, i < a.length - 8 → co a i = co b i) : (dif a b).length ≤ 8 := by
  unfold dif
  have e : (List.range a.length).filter (fun i => decide (co a i ≠ co b i)) = ((List.range a.length).drop (a.length - 8)).filter (fun i => decide (co a i ≠ co b i)) := by
    conv => lhs; rw [← List.take_append_drop (a.length - 8) (List.range a.length)]
    rw [List.filter_append]
    have : ((List.range a.length).take (a.length - 8)).filter (fun i => decide (co a i ≠ co b i)) = [] := by
      rw [List.filter_eq_nil_iff]
      intro i hi
      have : i < a.length - 8 := by
        rw [List.take_range] at hi
        have := List.mem_range.1 hi
        omega
      simpa using h i this
    rw [this, List.nil_append]
  rw [e]
  refine Nat.le_trans (List.length_filter_le _ _) ?_
  rw [List.length_drop, List.length_range]
  omega
/-- There is at most one code block with given data. -/
theorem code_unique {a b : List UInt8} (ha : Code a) (hb : Code b) (hl : a.length = b.length) (h : ∀ i, i < a.length - 8 → co a i = co b i) : a = b :=
  code_far ha hb hl (tail_few (by have := ha.1; omega) h)
/-- The exclusive or of two code blocks is one. -/
def xors (a b : List UInt8) : List UInt8 := Gal.coefs (fun i => co a i ^^^ co b i) a.length
theorem xors_length (a b : List UInt8) : (xors a b).length = a.length := Gal.coefs_length _ _
theorem evl_cong {f g : Nat → BitVec 8} {x : BitVec 8} : ∀ (n : Nat), (∀ i, i < n → f i = g i) → Gal.evl f x n = Gal.evl g x n
  | 0, _ => rfl
  | n + 1, h => by
    unfold Gal.evl
    rw [evl_cong n (fun i hi => h i (by omega)), h n (by omega)]
theorem syn_xors {a b : List UInt8} (hl : a.length = b.length) (j : Nat) : syn (xors a b) j = syn a j ^^^ syn b j := by
  unfold syn
  rw [xors_length, ← hl, ← Gal.evl_xor]
  refine evl_cong _ (fun i hi => ?_)
  rw [co_reverse _ i (by rw [xors_length]; exact hi), co_reverse a i hi, co_reverse b i (by omega), xors_length]
  unfold xors
  rw [Gal.co_coefs, if_pos (by omega), hl]
theorem code_xors {a b : List UInt8} (ha : Code a) (hb : Code b) (hl : a.length = b.length) : Code (xors a b) :=
  ⟨by rw [xors_length]; exact ha.1, by rw [xors_length]; exact ha.2.1, fun j hj => by rw [syn_xors hl, ha.2.2 j hj, hb.2.2 j hj, BitVec.xor_self]⟩

/-- The generator. -/
def gen : List UInt8 := [24, 200, 173, 239, 54, 81, 11, 255, 1]
theorem gen_zero : ∀ j, j < 8 → Gal.evalV gen (Gal.pw j) = 0#8 := by decide +kernel
theorem gen_nn : Gal.nn gen = 9 := by decide +kernel
/-- The data as a polynomial, eight places higher. -/
def high (d : List UInt8) : List UInt8 := List.replicate 8 0 ++ d.reverse
theorem high_length (d : List UInt8) : (high d).length = d.length + 8 := by simp [high]
theorem co_high (d : List UInt8) (i : Nat) : co (high d) i = if i < 8 then 0#8 else co d.reverse (i - 8) := by
  unfold Gal.co high
  rw [List.getD_eq_getElem?_getD, List.getD_eq_getElem?_getD, List.getElem?_append, List.length_replicate]
  by_cases h : i < 8
  · rw [if_pos h, if_pos h, List.getElem?_replicate, if_pos h]
    rfl
  · rw [if_neg h, if_neg h]
/-- What is encoded: the data, and behind them the rest, backwards, of eight bytes. -/
def rem (d : List UInt8) : Nat → BitVec 8 := Gal.remF (high d) gen
def enc (d : List UInt8) : List UInt8 := d ++ (Gal.coefs (rem d) 8).reverse
theorem enc_length (d : List UInt8) : (enc d).length = d.length + 8 := by
  unfold enc
  rw [List.length_append, List.length_reverse, Gal.coefs_length]
theorem enc_data (d : List UInt8) (i : Nat) (h : i < d.length) : co (enc d) i = co d i := by
  unfold enc Gal.co
  rw [List.getD_eq_getElem?_getD, List.getD_eq_getElem?_getD, List.getElem?_append, if_pos h]
theorem rem_out (d : List UInt8) : ∀ j, 8 ≤ j → rem d j = 0#8 := fun j hj => by
  unfold rem
  exact Gal.remF_low (by rw [gen_nn]; omega) j (by rw [gen_nn]; omega)
theorem co_enc_rev (d : List UInt8) (i : Nat) : co (enc d).reverse i = rem d i ^^^ co (high d) i := by
  have e : (enc d).reverse = Gal.coefs (rem d) 8 ++ d.reverse := by
    unfold enc
    rw [List.reverse_append, List.reverse_reverse]
  rw [e, co_high]
  unfold Gal.co
  rw [List.getD_eq_getElem?_getD, List.getElem?_append, Gal.coefs_length]
  by_cases h : i < 8
  · rw [if_pos h, if_pos h, BitVec.xor_zero]
    have := Gal.co_coefs (rem d) 8 i
    rw [if_pos h] at this
    unfold Gal.co at this
    rw [List.getD_eq_getElem?_getD] at this
    exact this
  · rw [if_neg h, if_neg h, rem_out d i (by omega), BitVec.zero_xor, List.getD_eq_getElem?_getD]
theorem syn_enc (d : List UInt8) (j : Nat) (hj : j < 8) : syn (enc d) j = 0#8 := by
  unfold syn
  rw [enc_length]
  have hg : Gal.nn gen ≠ 0 := by rw [gen_nn]; omega
  have e : ∀ i, co (enc d).reverse i = Gal.conv (Gal.rounds (high d) gen) (Gal.quoF (high d) gen) (co gen) i := fun i => by
    rw [co_enc_rev, Gal.quot_eq (high d) gen hg i]
    unfold rem
    rw [← BitVec.xor_assoc, BitVec.xor_self, BitVec.zero_xor]
  rw [Gal.evl_congr e]
  have h9 : ∀ k, 9 ≤ k → co gen k = 0#8 := fun k hk => Gal.nn_out (by rw [gen_nn]; exact hk)
  have z : Gal.evl (Gal.conv (Gal.rounds (high d) gen) (Gal.quoF (high d) gen) (co gen)) (Gal.pw j) (Gal.rounds (high d) gen + 9) = 0#8 := by
    rw [Gal.evl_conv h9]
    have : Gal.evl (co gen) (Gal.pw j) 9 = 0#8 := gen_zero j hj
    rw [this, Gal.mul_zero]
  rw [← z]
  exact Gal.evl_any (fun i hi => by rw [← e]; exact Gal.co_out (by rw [List.length_reverse, enc_length]; exact hi)) (fun i hi => Gal.conv_zero h9 i hi)
theorem code_enc (d : List UInt8) (h1 : 1 ≤ d.length) (h2 : d.length ≤ 223) : Code (enc d) :=
  ⟨by rw [enc_length]; omega, by rw [enc_length]; omega, syn_enc d⟩
/-- A block is a code block just if it is what is encoded of its data. -/
theorem code_iff (b : List UInt8) (h1 : 9 ≤ b.length) (h2 : b.length ≤ 231) : Code b ↔ enc (b.take (b.length - 8)) = b := by
  have hl : (b.take (b.length - 8)).length = b.length - 8 := by rw [List.length_take]; omega
  constructor
  · intro h
    refine code_unique (code_enc _ (by omega) (by omega)) h (by rw [enc_length, hl]; omega) (fun i hi => ?_)
    rw [enc_length, hl] at hi
    rw [enc_data _ i (by rw [hl]; omega), Gal.co_take, if_pos (by omega)]
  · intro h
    rw [← h]
    exact code_enc _ (by omega) (by omega)
theorem enc_take (d : List UInt8) : (enc d).take d.length = d := by
  unfold enc
  simp

/-- How many places that are not erased differ. -/
def besides (b c : List UInt8) (f : List Nat) : Nat := ((List.range b.length).filter (fun i => decide (co b i ≠ co c i) && !f.contains i)).length
/-- c is a code block as near to b as decoding asks, with the erased places f. -/
def Near (b : List UInt8) (f : List Nat) (c : List UInt8) : Prop := Code c ∧ c.length = b.length ∧ 2 * besides b c f + f.length ≤ 8
theorem count_or {α : Type} (P Q R : α → Bool) : ∀ l : List α, (∀ x, x ∈ l → P x = true → Q x = true ∨ R x = true) → (l.filter P).length ≤ (l.filter Q).length + (l.filter R).length
  | [], _ => by simp
  | x :: l, h => by
    have ih := count_or P Q R l (fun y hy => h y (by simp [hy]))
    have hx := h x (by simp)
    by_cases p : P x = true
    · rw [List.filter_cons_of_pos p]
      rcases hx p with q | q
      · rw [List.filter_cons_of_pos q]
        by_cases r : R x = true
        · rw [List.filter_cons_of_pos r]; simp only [List.length_cons]; omega
        · rw [List.filter_cons_of_neg r]; simp only [List.length_cons]; omega
      · rw [List.filter_cons_of_pos q]
        by_cases r : Q x = true
        · rw [List.filter_cons_of_pos r]; simp only [List.length_cons]; omega
        · rw [List.filter_cons_of_neg r]; simp only [List.length_cons]; omega
    · rw [List.filter_cons_of_neg p]
      have h1 : (l.filter Q).length ≤ ((x :: l).filter Q).length := by
        by_cases q : Q x = true
        · rw [List.filter_cons_of_pos q]; simp
        · rw [List.filter_cons_of_neg q]; exact Nat.le_refl _
      have h2 : (l.filter R).length ≤ ((x :: l).filter R).length := by
        by_cases q : R x = true
        · rw [List.filter_cons_of_pos q]; simp
        · rw [List.filter_cons_of_neg q]; exact Nat.le_refl _
      omega
theorem count_in : ∀ (f : List Nat) (l : List Nat), l.Nodup → (l.filter (fun i => f.contains i)).length ≤ f.length
  | [], l, _ => by
    have : l.filter (fun i => ([] : List Nat).contains i) = [] := by
      rw [List.filter_eq_nil_iff]
      intro i _
      simp
    rw [this]
    exact Nat.le_refl _
  | a :: f, l, hl => by
    have ih := count_in f l hl
    have h1 := count_or (fun i => (a :: f).contains i) (fun i => decide (i = a)) (fun i => f.contains i) l (fun x _ hx => by
      simp only [List.contains_cons, Bool.or_eq_true, beq_iff_eq] at hx
      rcases hx with h | h
      · exact .inl (decide_eq_true h)
      · exact .inr h)
    have h2 : (l.filter (fun i => decide (i = a))).length ≤ 1 := by
      have : (l.filter (fun i => decide (i = a))).Nodup := hl.filter _
      match hq : l.filter (fun i => decide (i = a)) with
      | [] => simp
      | [x] => simp
      | x :: y :: r =>
        rw [hq] at this
        have hx : x ∈ l.filter (fun i => decide (i = a)) := by rw [hq]; simp
        have hy : y ∈ l.filter (fun i => decide (i = a)) := by rw [hq]; simp
        have ex : x = a := by simpa using (List.mem_filter.1 hx).2
        have ey : y = a := by simpa using (List.mem_filter.1 hy).2
        rw [ex, ey] at this
        simp at this
    rw [List.length_cons]
    omega
/-- There is at most one such. -/
theorem near_unique {b c c' : List UInt8} {f : List Nat} (h : Near b f c) (h' : Near b f c') : c = c' := by
  obtain ⟨h1, h2, h3⟩ := h
  obtain ⟨k1, k2, k3⟩ := h'
  refine code_far h1 k1 (by omega) ?_
  unfold dif
  unfold besides at h3 k3
  rw [h2]
  have u := count_or (fun i => decide (co c i ≠ co c' i)) (fun i => (decide (co b i ≠ co c i) && !f.contains i) || (decide (co b i ≠ co c' i) && !f.contains i)) (fun i => f.contains i) (List.range b.length) (fun x _ hx => by
    by_cases hf : f.contains x = true
    · exact .inr hf
    · left
      have hf' : f.contains x = false := by simpa using hf
      rw [hf', Bool.not_false, Bool.and_true, Bool.and_true, Bool.or_eq_true, decide_eq_true_eq, decide_eq_true_eq]
      have : co c x ≠ co c' x := by simpa using hx
      by_cases e : co b x = co c x
      · exact .inr (fun q => this (e.symm.trans q))
      · exact .inl e)
  have u2 := count_or (fun i => (decide (co b i ≠ co c i) && !f.contains i) || (decide (co b i ≠ co c' i) && !f.contains i)) (fun i => decide (co b i ≠ co c i) && !f.contains i) (fun i => decide (co b i ≠ co c' i) && !f.contains i) (List.range b.length) (fun x _ hx => Bool.or_eq_true .. ▸ hx)
  have u3 := count_in f (List.range b.length) List.nodup_range
  omega
end Blk
end Go.Proofs.YtlpjhmafplljaaaDoor
