/- Polynomials over the field of 256 elements: strings of bytes, trimmed; sums, products, quotients, values, derivatives. -/
import Derived.Test.YtphkaambodecdaaGalMath
namespace Go.Proofs.Ytphkaambodecdaa
set_option linter.unusedVariables false
namespace Gal
/-- The coefficient of a string. -/
def co (l : List UInt8) (i : Nat) : BitVec 8 := (l.getD i 0).toBitVec
theorem co_nat (l : List UInt8) (i : Nat) : (co l i).toNat = (l.getD i 0).toNat := rfl
theorem co_out {l : List UInt8} {i : Nat} (h : l.length ≤ i) : co l i = 0#8 := by
  unfold co
  rw [List.getD_eq_getElem?_getD, List.getElem?_eq_none h]
  rfl
theorem co_take (l : List UInt8) (n i : Nat) : co (l.take n) i = if i < n then co l i else 0#8 := by
  unfold co
  rw [List.getD_eq_getElem?_getD, List.getD_eq_getElem?_getD, List.getElem?_take]
  split <;> rfl
theorem ext {l m : List UInt8} (hl : l.length = m.length) (h : ∀ i, i < l.length → co l i = co m i) : l = m := by
  apply List.ext_getElem hl
  intro i h1 h2
  have := h i h1
  unfold co at this
  rw [List.getD_eq_getElem?_getD, List.getD_eq_getElem?_getD, List.getElem?_eq_getElem h1, List.getElem?_eq_getElem h2] at this
  exact UInt8.toBitVec_inj.1 this
/-- The length without the bytes 0 at the end of the first n. -/
def tn (f : Nat → BitVec 8) : Nat → Nat
  | 0 => 0
  | n + 1 => if f n = 0#8 then tn f n else n + 1
theorem tn_le (f : Nat → BitVec 8) : ∀ n, tn f n ≤ n
  | 0 => Nat.le_refl _
  | n + 1 => by
    unfold tn
    have := tn_le f n
    split <;> omega
theorem tn_zero (f : Nat → BitVec 8) : ∀ n i, tn f n ≤ i → i < n → f i = 0#8
  | 0, _, _, h => by omega
  | n + 1, i, h1, h2 => by
    unfold tn at h1
    split at h1
    · rename_i hz
      by_cases e : i = n
      · rw [e]; exact hz
      · exact tn_zero f n i h1 (by omega)
    · omega
theorem tn_top (f : Nat → BitVec 8) : ∀ n m, tn f n = m + 1 → f m ≠ 0#8
  | 0, m, h => by simp [tn] at h
  | n + 1, m, h => by
    unfold tn at h
    split at h
    · exact tn_top f n m h
    · rename_i hz
      obtain rfl : n = m := by omega
      exact hz
theorem tn_unique {f : Nat → BitVec 8} {n t : Nat} (ht : t ≤ n) (hz : ∀ i, t ≤ i → i < n → f i = 0#8) (htop : ∀ m, t = m + 1 → f m ≠ 0#8) : tn f n = t := by
  have h1 := tn_le f n
  apply Nat.le_antisymm
  · apply Nat.le_of_not_lt
    intro h
    obtain ⟨m, hm⟩ : ∃ m, tn f n = m + 1 := ⟨tn f n - 1, by omega⟩
    exact tn_top f n m hm (hz m (by omega) (by omega))
  · apply Nat.le_of_not_lt
    intro h
    obtain ⟨m, hm⟩ : ∃ m, t = m + 1 := ⟨t - 1, by omega⟩
    exact htop m hm (tn_zero f n m (by omega) (by omega))
/-- Two functions that are the same, and 0 from some place on, have the same trimmed length. -/
theorem tn_congr {f g : Nat → BitVec 8} {n m : Nat} (h : ∀ i, f i = g i) (hf : ∀ i, n ≤ i → f i = 0#8) (hg : ∀ i, m ≤ i → g i = 0#8) : tn f n = tn g m := by
  refine tn_unique (f := f) (t := tn g m) ?_ ?_ ?_
  · apply Nat.le_of_not_lt
    intro hh
    obtain ⟨k, hk⟩ : ∃ k, tn g m = k + 1 := ⟨tn g m - 1, by omega⟩
    exact tn_top g m k hk (by rw [← h]; exact hf k (by omega))
  · intro i h1 h2
    rw [h]
    by_cases e : i < m
    · exact tn_zero g m i h1 e
    · exact hg i (by omega)
  · intro k hk
    rw [h]
    exact tn_top g m k hk
/-- The number of coefficients without those at the end that are 0: the degree and one. -/
def nn (l : List UInt8) : Nat := tn (co l) l.length
theorem nn_le (l : List UInt8) : nn l ≤ l.length := tn_le _ _
theorem nn_out {l : List UInt8} {i : Nat} (h : nn l ≤ i) : co l i = 0#8 := by
  by_cases e : i < l.length
  · exact tn_zero _ _ _ h e
  · exact co_out (by omega)
theorem nn_top {l : List UInt8} {m : Nat} (h : nn l = m + 1) : co l m ≠ 0#8 := tn_top _ _ _ h
def trim (l : List UInt8) : List UInt8 := l.take (nn l)
theorem trim_length (l : List UInt8) : (trim l).length = nn l := by
  unfold trim
  rw [List.length_take]
  have := nn_le l
  omega
theorem co_trim (l : List UInt8) (i : Nat) : co (trim l) i = co l i := by
  unfold trim
  rw [co_take]
  split
  · rfl
  · exact (nn_out (by omega)).symm
theorem trim_eq {l m : List UInt8} (h : ∀ i, co l i = co m i) : trim l = trim m := by
  have e : nn l = nn m := tn_congr h (fun i hi => co_out hi) (fun i hi => co_out hi)
  refine ext (by rw [trim_length, trim_length, e]) (fun i _ => by rw [co_trim, co_trim, h])
theorem nn_eq {l m : List UInt8} (h : ∀ i, co l i = co m i) : nn l = nn m := tn_congr h (fun i hi => co_out hi) (fun i hi => co_out hi)
theorem nn_trim (l : List UInt8) : nn (trim l) = nn l := nn_eq (co_trim l)
theorem trim_trim (l : List UInt8) : trim (trim l) = trim l := trim_eq (co_trim l)
/-- So many coefficients. -/
def coefs (f : Nat → BitVec 8) (n : Nat) : List UInt8 := (List.range n).map (fun i => UInt8.ofBitVec (f i))
theorem coefs_length (f : Nat → BitVec 8) (n : Nat) : (coefs f n).length = n := by simp [coefs]
theorem co_coefs (f : Nat → BitVec 8) (n i : Nat) : co (coefs f n) i = if i < n then f i else 0#8 := by
  unfold co coefs
  rw [List.getD_eq_getElem?_getD, List.getElem?_map]
  by_cases h : i < n
  · simp [h]
  · rw [List.getElem?_eq_none (by simp; omega), if_neg h]
    rfl
theorem co_coefs' {f : Nat → BitVec 8} {n : Nat} (h : ∀ i, n ≤ i → f i = 0#8) (i : Nat) : co (coefs f n) i = f i := by
  rw [co_coefs]
  split
  · rfl
  · exact (h i (by omega)).symm
theorem coefs_congr {f g : Nat → BitVec 8} {n : Nat} (h : ∀ i, i < n → f i = g i) : coefs f n = coefs g n :=
  ext (by rw [coefs_length, coefs_length]) (fun i hi => by
    rw [coefs_length] at hi
    rw [co_coefs, co_coefs, if_pos hi, if_pos hi, h i hi])
theorem coefs_succ (f : Nat → BitVec 8) (n : Nat) : coefs f (n + 1) = coefs f n ++ [UInt8.ofBitVec (f n)] := by simp [coefs, List.range_succ]
theorem coefs_co (l : List UInt8) : coefs (co l) l.length = l := ext (coefs_length _ _) (fun i hi => by rw [coefs_length] at hi; rw [co_coefs, if_pos hi])
/-- The trimmed polynomial with these coefficients. -/
def pol (f : Nat → BitVec 8) (n : Nat) : List UInt8 := trim (coefs f n)
theorem pol_eq {f g : Nat → BitVec 8} {n m : Nat} (h : ∀ i, f i = g i) (hf : ∀ i, n ≤ i → f i = 0#8) (hg : ∀ i, m ≤ i → g i = 0#8) : pol f n = pol g m :=
  trim_eq (fun i => by rw [co_coefs' hf, co_coefs' hg, h])
theorem co_pol {f : Nat → BitVec 8} {n : Nat} (h : ∀ i, n ≤ i → f i = 0#8) (i : Nat) : co (pol f n) i = f i := by
  unfold pol
  rw [co_trim, co_coefs' h]
theorem trim_pol (l : List UInt8) : trim l = pol (co l) l.length := by
  unfold pol
  rw [coefs_co]
theorem pol_length_le (f : Nat → BitVec 8) (n : Nat) : (pol f n).length ≤ n := by
  unfold pol
  rw [trim_length]
  have := nn_le (coefs f n)
  rwa [coefs_length] at this

/-- A polynomial moved up. -/
def sh (i : Nat) (g : Nat → BitVec 8) (k : Nat) : BitVec 8 := if i ≤ k then g (k - i) else 0#8
theorem sh_out {i m : Nat} {g : Nat → BitVec 8} (hg : ∀ k, m ≤ k → g k = 0#8) : ∀ k, i + m ≤ k → sh i g k = 0#8 := fun k hk => by
  unfold sh
  rw [if_pos (by omega)]
  exact hg _ (by omega)
/-- The sum of the rows of a product. -/
def conv : Nat → (Nat → BitVec 8) → (Nat → BitVec 8) → Nat → BitVec 8
  | 0, _, _, _ => 0#8
  | n + 1, f, g, k => conv n f g k ^^^ mul (f n) (sh n g k)
theorem conv_congr {f f' g g' : Nat → BitVec 8} (h : ∀ i, g i = g' i) : ∀ n, (∀ i, i < n → f i = f' i) → ∀ k, conv n f g k = conv n f' g' k
  | 0, _, _ => rfl
  | n + 1, hf, k => by
    unfold conv
    rw [conv_congr h n (fun i hi => hf i (by omega)) k, hf n (by omega)]
    congr 2
    unfold sh
    split
    · exact h _
    · rfl
theorem conv_more {f g : Nat → BitVec 8} {n : Nat} (h : ∀ i, n ≤ i → f i = 0#8) (k : Nat) : ∀ m, conv (n + m) f g k = conv n f g k
  | 0 => rfl
  | m + 1 => by
    show conv (n + m) f g k ^^^ mul (f (n + m)) _ = _
    rw [h (n + m) (by omega), zero_mul, BitVec.xor_zero, conv_more h k m]
theorem conv_any {f g : Nat → BitVec 8} {n m : Nat} (hn : ∀ i, n ≤ i → f i = 0#8) (hm : ∀ i, m ≤ i → f i = 0#8) (k : Nat) : conv n f g k = conv m f g k := by
  rcases Nat.le_total n m with h | h
  · obtain ⟨d, rfl⟩ := Nat.exists_eq_add_of_le h
    exact (conv_more hn k d).symm
  · obtain ⟨d, rfl⟩ := Nat.exists_eq_add_of_le h
    exact conv_more hm k d
theorem conv_out {f g : Nat → BitVec 8} {m : Nat} (hg : ∀ k, m ≤ k → g k = 0#8) : ∀ n k, n + m ≤ k + 1 → n ≤ k + 1 → (n = 0 ∨ n + m ≤ k + 1) → conv n f g k = 0#8
  | 0, _, _, _, _ => rfl
  | n + 1, k, h1, h2, _ => by
    unfold conv
    rw [sh_out hg k (by omega), mul_zero, BitVec.xor_zero]
    exact conv_out hg n k (by omega) (by omega) (by omega)
theorem conv_zero {f g : Nat → BitVec 8} {n m : Nat} (hg : ∀ k, m ≤ k → g k = 0#8) : ∀ k, n + m ≤ k → conv n f g k = 0#8 := fun k h => conv_out hg n k (by omega) (by omega) (by omega)
/-- The product. -/
def prd (p q : List UInt8) (k : Nat) : BitVec 8 := conv p.length (co p) (co q) k
theorem prd_out (p q : List UInt8) : ∀ k, p.length + q.length ≤ k → prd p q k = 0#8 := conv_zero (fun _ h => co_out h)
theorem prd_congr {p q p' q' : List UInt8} (hp : ∀ i, co p i = co p' i) (hq : ∀ i, co q i = co q' i) (k : Nat) : prd p q k = prd p' q' k := by
  unfold prd
  rw [conv_congr hq _ (fun i _ => hp i) k]
  exact conv_any (fun i hi => by rw [← hp]; exact co_out hi) (fun i hi => co_out hi) k
def prodE (p q : List UInt8) : Int := if 1024 ≤ ((nn p : Int) - 1) + ((nn q : Int) - 1) then 3 else 0
def prodV (p q : List UInt8) : List UInt8 := if 1024 ≤ ((nn p : Int) - 1) + ((nn q : Int) - 1) then [] else pol (prd p q) (p.length + q.length)
theorem prod_trim (p q : List UInt8) : pol (prd (trim p) (trim q)) ((trim p).length + (trim q).length) = pol (prd p q) (p.length + q.length) :=
  pol_eq (prd_congr (co_trim p) (co_trim q)) (prd_out _ _) (prd_out _ _)
/-- Sums. -/
def sumF (p q : List UInt8) (k : Nat) : BitVec 8 := co p k ^^^ co q k
def sumV (p q : List UInt8) : List UInt8 := pol (sumF p q) (max p.length q.length)
theorem sumF_out (p q : List UInt8) : ∀ k, max p.length q.length ≤ k → sumF p q k = 0#8 := fun k h => by
  unfold sumF
  rw [co_out (by omega), co_out (by omega), BitVec.xor_zero]
theorem co_sumV (p q : List UInt8) (i : Nat) : co (sumV p q) i = co p i ^^^ co q i := co_pol (sumF_out p q) i
/-- Derivatives. -/
def der (f : Nat → BitVec 8) (i : Nat) : BitVec 8 := if i % 2 = 0 then f (i + 1) else 0#8
def derV (p : List UInt8) : List UInt8 := pol (der (co p)) (p.length - 1)
theorem der_out (p : List UInt8) : ∀ k, p.length - 1 ≤ k → der (co p) k = 0#8 := fun k h => by
  unfold der
  split
  · exact co_out (by omega)
  · rfl
theorem co_derV (p : List UInt8) (i : Nat) : co (derV p) i = der (co p) i := co_pol (der_out p) i
/-- Values, by Horner's rule over the last n coefficients, and by powers. -/
def horner (f : Nat → BitVec 8) (x : BitVec 8) : Nat → Nat → BitVec 8
  | _, 0 => 0#8
  | k, n + 1 => mul x (horner f x (k + 1) n) ^^^ f k
def evl (f : Nat → BitVec 8) (x : BitVec 8) : Nat → BitVec 8
  | 0 => 0#8
  | n + 1 => evl f x n ^^^ mul (f n) (pown x n)
def evalV (p : List UInt8) (x : BitVec 8) : BitVec 8 := evl (co p) x p.length
theorem evl_shift (f : Nat → BitVec 8) (x : BitVec 8) (k : Nat) : ∀ n, evl (fun i => f (k + i)) x (n + 1) = mul x (evl (fun i => f (k + 1 + i)) x n) ^^^ f k
  | 0 => by
    unfold evl evl pown
    rw [mul_zero, mul_one]
    rfl
  | n + 1 => by
    show evl (fun i => f (k + i)) x (n + 1) ^^^ mul (f (k + (n + 1))) (pown x (n + 1)) = mul x (evl (fun i => f (k + 1 + i)) x n ^^^ mul (f (k + 1 + n)) (pown x n)) ^^^ f k
    rw [evl_shift f x k n, mul_xor, show k + (n + 1) = k + 1 + n by omega]
    have e : mul (f (k + 1 + n)) (pown x (n + 1)) = mul x (mul (f (k + 1 + n)) (pown x n)) := by
      show mul _ (mul (pown x n) x) = _
      rw [← mul_assoc, mul_comm x]
    rw [e]
    ac_rfl
theorem horner_evl (f : Nat → BitVec 8) (x : BitVec 8) : ∀ n k, horner f x k n = evl (fun i => f (k + i)) x n
  | 0, _ => rfl
  | n + 1, k => by
    unfold horner
    rw [horner_evl f x n (k + 1), evl_shift]
theorem horner_all (f : Nat → BitVec 8) (x : BitVec 8) (n : Nat) : horner f x 0 n = evl f x n := by
  rw [horner_evl]
  congr 1
  funext i
  rw [Nat.zero_add]
theorem evl_more {f : Nat → BitVec 8} {x : BitVec 8} {n : Nat} (h : ∀ i, n ≤ i → f i = 0#8) : ∀ m, evl f x (n + m) = evl f x n
  | 0 => rfl
  | m + 1 => by
    show evl f x (n + m) ^^^ mul (f (n + m)) _ = _
    rw [h (n + m) (by omega), zero_mul, BitVec.xor_zero, evl_more h m]
theorem evl_any {f : Nat → BitVec 8} {x : BitVec 8} {n m : Nat} (hn : ∀ i, n ≤ i → f i = 0#8) (hm : ∀ i, m ≤ i → f i = 0#8) : evl f x n = evl f x m := by
  rcases Nat.le_total n m with h | h
  · obtain ⟨d, rfl⟩ := Nat.exists_eq_add_of_le h
    exact (evl_more hn d).symm
  · obtain ⟨d, rfl⟩ := Nat.exists_eq_add_of_le h
    exact evl_more hm d
theorem evl_congr {f g : Nat → BitVec 8} {x : BitVec 8} (h : ∀ i, f i = g i) : ∀ n, evl f x n = evl g x n
  | 0 => rfl
  | n + 1 => by
    unfold evl
    rw [evl_congr h n, h]
theorem evl_xor (f g : Nat → BitVec 8) (x : BitVec 8) : ∀ n, evl (fun i => f i ^^^ g i) x n = evl f x n ^^^ evl g x n
  | 0 => by simp [evl]
  | n + 1 => by
    unfold evl
    rw [evl_xor f g x n, xor_mul]
    ac_rfl
theorem evl_scale (c : BitVec 8) (f : Nat → BitVec 8) (x : BitVec 8) : ∀ n, evl (fun i => mul c (f i)) x n = mul c (evl f x n)
  | 0 => (mul_zero c).symm
  | n + 1 => by
    unfold evl
    rw [evl_scale c f x n, mul_xor, mul_assoc]
theorem evl_sh (g : Nat → BitVec 8) (x : BitVec 8) (i : Nat) : ∀ n, evl (sh i g) x (i + n) = mul (pown x i) (evl g x n)
  | 0 => by
    rw [show evl g x 0 = 0#8 from rfl, mul_zero, Nat.add_zero]
    have : ∀ m, m ≤ i → evl (sh i g) x m = 0#8 := by
      intro m
      induction m with
      | zero => intro _; rfl
      | succ m ih =>
        intro hm
        unfold evl
        rw [ih (by omega)]
        unfold sh
        rw [if_neg (by omega), zero_mul, BitVec.xor_zero]
    exact this i (Nat.le_refl _)
  | n + 1 => by
    show evl (sh i g) x (i + n) ^^^ mul (sh i g (i + n)) (pown x (i + n)) = mul (pown x i) (evl g x n ^^^ mul (g n) (pown x n))
    rw [evl_sh g x i n, mul_xor]
    have e1 : sh i g (i + n) = g n := by
      unfold sh
      rw [if_pos (by omega), show i + n - i = n by omega]
    have e2 : ∀ n, pown x (i + n) = mul (pown x i) (pown x n) := by
      intro n
      induction n with
      | zero => exact (mul_one _).symm
      | succ n ih => show mul (pown x (i + n)) x = mul _ (mul (pown x n) x); rw [ih, mul_assoc]
    rw [e1, e2, ← mul_assoc, mul_comm (g n), mul_assoc]
theorem evl_conv {f g : Nat → BitVec 8} {x : BitVec 8} {m : Nat} (hg : ∀ k, m ≤ k → g k = 0#8) : ∀ n, evl (conv n f g) x (n + m) = mul (evl f x n) (evl g x m)
  | 0 => by
    rw [show evl f x 0 = 0#8 from rfl, zero_mul]
    have : ∀ k, evl (conv 0 f g) x k = 0#8 := by
      intro k
      induction k with
      | zero => rfl
      | succ k ih => unfold evl; rw [ih]; show 0#8 ^^^ mul 0#8 _ = 0#8; rw [zero_mul, BitVec.xor_zero]
    exact this _
  | n + 1 => by
    have e : evl (conv (n + 1) f g) x (n + 1 + m) = evl (fun k => conv n f g k ^^^ mul (f n) (sh n g k)) x (n + 1 + m) := evl_congr (fun _ => rfl) _
    rw [e, evl_xor, evl_scale]
    have h1 : evl (conv n f g) x (n + 1 + m) = evl (conv n f g) x (n + m) := evl_any (fun k hk => conv_zero hg k (by omega)) (conv_zero hg)
    have h2 : evl (sh n g) x (n + 1 + m) = evl (sh n g) x (n + m) := evl_any (fun k hk => sh_out hg k (by omega)) (sh_out hg)
    rw [h1, h2, evl_conv hg n, evl_sh]
    show _ = mul (evl f x n ^^^ mul (f n) (pown x n)) (evl g x m)
    rw [xor_mul, mul_assoc]
theorem eval_prod (p q : List UInt8) (x : BitVec 8) : evalV (pol (prd p q) (p.length + q.length)) x = mul (evalV p x) (evalV q x) := by
  unfold evalV
  have e : ∀ i, co (pol (prd p q) (p.length + q.length)) i = conv p.length (co p) (co q) i := co_pol (prd_out p q)
  rw [evl_congr e, ← evl_conv (fun k hk => co_out hk)]
  exact evl_any (fun i hi => by rw [← e]; exact co_out hi) (prd_out p q)
theorem eval_sum (p q : List UInt8) (x : BitVec 8) : evalV (sumV p q) x = evalV p x ^^^ evalV q x := by
  unfold evalV
  have e : ∀ i, co (sumV p q) i = (fun i => co p i ^^^ co q i) i := co_sumV p q
  have h1 : evl (co p) x p.length = evl (co p) x (max p.length q.length) := evl_any (fun i hi => co_out hi) (fun i hi => co_out (by omega))
  have h2 : evl (co q) x q.length = evl (co q) x (max p.length q.length) := evl_any (fun i hi => co_out hi) (fun i hi => co_out (by omega))
  rw [h1, h2, ← evl_xor, ← evl_congr e]
  exact evl_any (fun i hi => co_out hi) (fun i hi => by rw [e]; exact sumF_out p q i hi)
/-- The derivative of a product. -/
theorem der_xor (f g : Nat → BitVec 8) (k : Nat) : der (fun i => f i ^^^ g i) k = der f k ^^^ der g k := by
  unfold der
  split <;> simp
theorem der_scale (c : BitVec 8) (f : Nat → BitVec 8) (k : Nat) : der (fun i => mul c (f i)) k = mul c (der f k) := by
  unfold der
  split
  · rfl
  · exact (mul_zero c).symm
theorem der_sh (g : Nat → BitVec 8) (n k : Nat) : der (sh n g) k = (if n % 2 = 1 then sh (n - 1) g k else 0#8) ^^^ sh n (der g) k := by
  unfold der sh
  dsimp only
  by_cases hk : k % 2 = 0
  · rw [if_pos hk]
    by_cases hn : n % 2 = 1
    · rw [if_pos hn]
      by_cases h : n ≤ k + 1
      · rw [if_pos h, if_pos (show n - 1 ≤ k by omega), show k + 1 - n = k - (n - 1) by omega]
        by_cases h2 : n ≤ k
        · rw [if_pos h2, if_neg (by omega), BitVec.xor_zero]
        · rw [if_neg h2, BitVec.xor_zero]
      · rw [if_neg h, if_neg (show ¬ n - 1 ≤ k by omega), if_neg (show ¬ n ≤ k by omega), BitVec.xor_zero]
    · rw [if_neg hn, BitVec.zero_xor]
      by_cases h : n ≤ k
      · rw [if_pos (show n ≤ k + 1 by omega), if_pos h, if_pos (by omega), show k + 1 - n = k - n + 1 by omega]
      · rw [if_neg h, if_neg (show ¬ n ≤ k + 1 by omega)]
  · rw [if_neg hk]
    by_cases hn : n % 2 = 1
    · rw [if_pos hn]
      by_cases h : n ≤ k
      · rw [if_pos (show n - 1 ≤ k by omega), if_pos h, if_pos (by omega), show k - n + 1 = k - (n - 1) by omega, BitVec.xor_self]
      · rw [if_neg h, if_neg (show ¬ n - 1 ≤ k by omega), BitVec.xor_zero]
    · rw [if_neg hn, BitVec.zero_xor]
      by_cases h : n ≤ k
      · rw [if_pos h, if_neg (by omega)]
      · rw [if_neg h]
theorem der_conv (f g : Nat → BitVec 8) (k : Nat) : ∀ n, der (conv n f g) k = conv (n - 1) (der f) g k ^^^ conv n f (der g) k
  | 0 => by unfold der conv; split <;> simp
  | n + 1 => by
    have e : der (conv (n + 1) f g) k = der (fun j => conv n f g j ^^^ mul (f n) (sh n g j)) k := rfl
    rw [e, der_xor, der_scale, der_sh, der_conv f g k n, mul_xor]
    show _ = conv n (der f) g k ^^^ (conv n f (der g) k ^^^ mul (f n) (sh n (der g) k))
    have h : conv n (der f) g k = conv (n - 1) (der f) g k ^^^ mul (f n) (if n % 2 = 1 then sh (n - 1) g k else 0#8) := by
      cases n with
      | zero => simp [conv, mul_zero]
      | succ n =>
        show conv n (der f) g k ^^^ mul (der f n) (sh n g k) = _
        rw [show n + 1 - 1 = n by omega]
        congr 1
        unfold der
        by_cases hn : n % 2 = 0
        · rw [if_pos hn, if_pos (show (n + 1) % 2 = 1 by omega)]
        · rw [if_neg hn, if_neg (show ¬ (n + 1) % 2 = 1 by omega), zero_mul, mul_zero]
    rw [h]
    ac_rfl
theorem der_prod (p q : List UInt8) : derV (pol (prd p q) (p.length + q.length)) = sumV (pol (prd (derV p) q) ((derV p).length + q.length)) (pol (prd p (derV q)) (p.length + (derV q).length)) := by
  refine pol_eq (fun i => ?_) (der_out _) (sumF_out _ _)
  have e : ∀ i, co (pol (prd p q) (p.length + q.length)) i = conv p.length (co p) (co q) i := co_pol (prd_out p q)
  have e2 : der (co (pol (prd p q) (p.length + q.length))) i = der (conv p.length (co p) (co q)) i := by
    unfold der
    split
    · exact e _
    · rfl
  unfold sumF
  rw [co_pol (prd_out _ _), co_pol (prd_out _ _), e2, der_conv]
  unfold prd
  congr 1
  · rw [conv_congr (f' := co (derV p)) (g' := co q) (fun _ => rfl) _ (fun i _ => (co_derV p i).symm) i]
    exact conv_any (fun i hi => by rw [co_derV]; exact der_out p i hi) (fun i hi => co_out hi) i
  · exact conv_congr (fun i => (co_derV q i).symm) _ (fun _ _ => rfl) i
/-- Division: what is left of f after r of m rounds by g, whose highest coefficient stands at top and has the inverse v. -/
def left (f g : Nat → BitVec 8) (m top : Nat) (v : BitVec 8) : Nat → Nat → BitVec 8
  | 0, j => f j
  | r + 1, j => left f g m top v r j ^^^ mul (mul (left f g m top v r (m - 1 - r + top)) v) (sh (m - 1 - r) g j)
/-- The quotient's coefficients. -/
def quo (f g : Nat → BitVec 8) (m top : Nat) (v : BitVec 8) (k : Nat) : BitVec 8 := if k < m then mul (left f g m top v (m - 1 - k) (k + top)) v else 0#8
theorem left_congr {f f' g g' : Nat → BitVec 8} (hf : ∀ i, f i = f' i) (hg : ∀ i, g i = g' i) (m top : Nat) (v : BitVec 8) : ∀ r j, left f g m top v r j = left f' g' m top v r j
  | 0, j => hf j
  | r + 1, j => by
    unfold left
    rw [left_congr hf hg m top v r j, left_congr hf hg m top v r (m - 1 - r + top)]
    congr 2
    unfold sh
    split
    · exact hg _
    · rfl
theorem quo_congr {f f' g g' : Nat → BitVec 8} (hf : ∀ i, f i = f' i) (hg : ∀ i, g i = g' i) (m top : Nat) (v : BitVec 8) (k : Nat) : quo f g m top v k = quo f' g' m top v k := by
  unfold quo
  rw [left_congr hf hg]
theorem left_out {f g : Nat → BitVec 8} {m top : Nat} {v : BitVec 8} (hf : ∀ i, m + top ≤ i → f i = 0#8) (hg : ∀ i, top + 1 ≤ i → g i = 0#8) (hv : mul v (g top) = 1#8) : ∀ r, r ≤ m → ∀ j, m - r + top ≤ j → left f g m top v r j = 0#8
  | 0, _, j, hj => hf j (by omega)
  | r + 1, hr, j, hj => by
    unfold left
    by_cases e : j = m - 1 - r + top
    · have s : sh (m - 1 - r) g j = g top := by
        unfold sh
        rw [if_pos (by omega), show j - (m - 1 - r) = top by omega]
      rw [s, mul_assoc, hv, mul_one, ← e, BitVec.xor_self]
    · rw [left_out hf hg hv r (by omega) j (by omega)]
      have s : sh (m - 1 - r) g j = 0#8 := by
        unfold sh
        split
        · exact hg _ (by omega)
        · rfl
      rw [s, mul_zero, BitVec.xor_zero]
theorem left_sum {f g : Nat → BitVec 8} {m top : Nat} {v : BitVec 8} (j : Nat) : ∀ r, r ≤ m → left f g m top v r j ^^^ conv m (quo f g m top v) g j = f j ^^^ conv (m - r) (quo f g m top v) g j
  | 0, _ => rfl
  | r + 1, hr => by
    have ih := left_sum (f := f) (g := g) (m := m) (top := top) (v := v) j r (by omega)
    obtain ⟨k, hk⟩ : ∃ k, m - (r + 1) = k := ⟨_, rfl⟩
    have e : m - r = k + 1 := by omega
    rw [e] at ih
    have e2 : conv (k + 1) (quo f g m top v) g j = conv k (quo f g m top v) g j ^^^ mul (mul (left f g m top v r (k + top)) v) (sh k g j) := by
      show _ ^^^ mul (quo f g m top v k) _ = _
      congr 2
      unfold quo
      rw [if_pos (by omega), show m - 1 - k = r by omega]
    have e3 : left f g m top v (r + 1) j = left f g m top v r j ^^^ mul (mul (left f g m top v r (k + top)) v) (sh k g j) := by
      have e4 : left f g m top v (r + 1) j = left f g m top v r j ^^^ mul (mul (left f g m top v r (m - 1 - r + top)) v) (sh (m - 1 - r) g j) := rfl
      rw [e4, show m - 1 - r = k by omega]
    rw [e2] at ih
    rw [hk, e3]
    obtain ⟨a, ha⟩ : ∃ a, left f g m top v r j = a := ⟨_, rfl⟩
    obtain ⟨b, hb⟩ : ∃ b, mul (mul (left f g m top v r (k + top)) v) (sh k g j) = b := ⟨_, rfl⟩
    obtain ⟨c, hc⟩ : ∃ c, conv m (quo f g m top v) g j = c := ⟨_, rfl⟩
    obtain ⟨d, hd⟩ : ∃ d, conv k (quo f g m top v) g j = d := ⟨_, rfl⟩
    rw [ha, hb, hc, hd] at ih
    rw [ha, hb, hc, hd]
    have : (a ^^^ c) ^^^ b = (f j ^^^ (d ^^^ b)) ^^^ b := by rw [ih]
    rw [show (f j ^^^ (d ^^^ b)) ^^^ b = (f j ^^^ d) ^^^ (b ^^^ b) by ac_rfl, BitVec.xor_self, BitVec.xor_zero] at this
    rw [← this]
    ac_rfl
/-- How many rounds there are: the quotient's length. -/
def rounds (p q : List UInt8) : Nat := nn p - (nn q - 1)
def vv (q : List UInt8) : BitVec 8 := inv (co q (nn q - 1))
def quoF (p q : List UInt8) : Nat → BitVec 8 := quo (co p) (co q) (rounds p q) (nn q - 1) (vv q)
def remF (p q : List UInt8) : Nat → BitVec 8 := left (co p) (co q) (rounds p q) (nn q - 1) (vv q) (rounds p q)
def quotE (q : List UInt8) : Int := if nn q = 0 then 2 else 0
def quotV (p q : List UInt8) : List UInt8 := if nn q = 0 then [] else coefs (quoF p q) (rounds p q)
def restV (p q : List UInt8) : List UInt8 := if nn q = 0 then [] else pol (remF p q) (nn p)
theorem vv_mul {q : List UInt8} (h : nn q ≠ 0) : mul (vv q) (co q (nn q - 1)) = 1#8 := by
  unfold vv
  rw [mul_comm, mul_inv (nn_top (by omega))]
theorem left_far {f g : Nat → BitVec 8} {m top L : Nat} {v : BitVec 8} (hf : ∀ i, L ≤ i → f i = 0#8) (hg : ∀ i, top + 1 ≤ i → g i = 0#8) (hL : m + top ≤ L ∨ m = 0) : ∀ r, r ≤ m → ∀ j, L ≤ j → left f g m top v r j = 0#8
  | 0, _, j, hj => hf j hj
  | r + 1, hr, j, hj => by
    unfold left
    rw [left_far hf hg hL r (by omega) j hj]
    have s : sh (m - 1 - r) g j = 0#8 := by
      unfold sh
      split
      · exact hg _ (by omega)
      · rfl
    rw [s, mul_zero, BitVec.xor_zero]
theorem remF_out {p q : List UInt8} (hq : nn q ≠ 0) : ∀ j, nn p ≤ j → remF p q j = 0#8 :=
  left_far (fun _ h => nn_out h) (fun _ h => nn_out (by omega)) (by unfold rounds; omega) _ (Nat.le_refl _)
theorem remF_low {p q : List UInt8} (hq : nn q ≠ 0) : ∀ j, nn q - 1 ≤ j → remF p q j = 0#8 := fun j hj => by
  by_cases h : nn p ≤ nn q - 1
  · exact remF_out hq j (by omega)
  · have := left_out (f := co p) (g := co q) (m := rounds p q) (top := nn q - 1) (v := vv q) (fun i hi => nn_out (by unfold rounds at hi; omega)) (fun i hi => nn_out (by omega)) (vv_mul hq) (rounds p q) (Nat.le_refl _) j (by omega)
    exact this
theorem quoF_out (p q : List UInt8) : ∀ k, rounds p q ≤ k → quoF p q k = 0#8 := fun k h => by
  unfold quoF quo
  rw [if_neg (by omega)]
/-- The quotient is trimmed. -/
theorem quo_trim (p q : List UInt8) (hq : nn q ≠ 0) : pol (quoF p q) (rounds p q) = coefs (quoF p q) (rounds p q) := by
  unfold pol trim
  have e : nn (coefs (quoF p q) (rounds p q)) = rounds p q := by
    unfold nn
    rw [coefs_length]
    refine tn_unique (Nat.le_refl _) (fun i h1 h2 => by omega) (fun m hm => ?_)
    rw [co_coefs, if_pos (by omega)]
    unfold quoF quo
    rw [if_pos (by omega), show rounds p q - 1 - m = 0 by omega]
    exact mul_ne (nn_top (by unfold rounds at hm; omega)) (inv_ne _)
  rw [e]
  exact List.take_of_length_le (by rw [coefs_length]; exact Nat.le_refl _)
theorem quot_eq (p q : List UInt8) (hq : nn q ≠ 0) (j : Nat) : co p j = remF p q j ^^^ conv (rounds p q) (quoF p q) (co q) j := by
  have h := left_sum (f := co p) (g := co q) (m := rounds p q) (top := nn q - 1) (v := vv q) j (rounds p q) (Nat.le_refl _)
  rw [Nat.sub_self] at h
  have h2 : co p j ^^^ conv 0 (quoF p q) (co q) j = co p j := BitVec.xor_zero
  exact h2.symm.trans h.symm
theorem co_quotV {p q : List UInt8} (hq : nn q ≠ 0) (i : Nat) : co (quotV p q) i = quoF p q i := by
  unfold quotV
  rw [if_neg hq, co_coefs' (quoF_out p q)]
theorem co_restV {p q : List UInt8} (hq : nn q ≠ 0) (i : Nat) : co (restV p q) i = remF p q i := by
  unfold restV
  rw [if_neg hq, co_pol (remF_out hq)]
/-- p is the rest and the quotient times q. -/
theorem quot_sum (p q : List UInt8) (hq : nn q ≠ 0) : sumV (pol (prd (quotV p q) q) ((quotV p q).length + q.length)) (restV p q) = trim p := by
  rw [trim_pol]
  refine pol_eq (fun i => ?_) (sumF_out _ _) (fun i hi => co_out hi)
  unfold sumF
  rw [co_pol (prd_out _ _), co_restV hq, quot_eq p q hq i, BitVec.xor_comm]
  congr 1
  unfold prd
  rw [conv_congr (f' := quoF p q) (g' := co q) (fun _ => rfl) _ (fun i _ => co_quotV hq i) i]
  exact conv_any (fun i hi => by rw [← co_quotV hq]; exact co_out hi) (quoF_out p q) i
theorem nn_le_of {l : List UInt8} {m : Nat} (h : ∀ i, m ≤ i → co l i = 0#8) : nn l ≤ m := by
  apply Nat.le_of_not_lt
  intro hh
  obtain ⟨k, hk⟩ : ∃ k, nn l = k + 1 := ⟨nn l - 1, by omega⟩
  exact nn_top hk (h k (by omega))
theorem rest_less (p q : List UInt8) (hq : nn q ≠ 0) : nn (restV p q) < nn q := by
  have := nn_le_of (l := restV p q) (m := nn q - 1) (fun i hi => by rw [co_restV hq]; exact remF_low hq i hi)
  omega
theorem quot_length (p q : List UInt8) : (quotV p q).length ≤ nn p := by
  unfold quotV
  split
  · exact Nat.zero_le _
  · rw [coefs_length]; unfold rounds; omega
theorem rest_length (p q : List UInt8) : (restV p q).length ≤ nn p := by
  unfold restV
  split
  · exact Nat.zero_le _
  · exact pol_length_le _ _
theorem quot_congr {p q p' q' : List UInt8} (hp : ∀ i, co p i = co p' i) (hq : ∀ i, co q i = co q' i) : quotE q = quotE q' ∧ quotV p q = quotV p' q' ∧ restV p q = restV p' q' := by
  have n1 := nn_eq hp
  have n2 := nn_eq hq
  have ev : vv q = vv q' := by unfold vv; rw [n2, hq]
  have er : rounds p q = rounds p' q' := by unfold rounds; rw [n1, n2]
  have eq : ∀ k, quoF p q k = quoF p' q' k := fun k => by unfold quoF; rw [ev, er, n2, quo_congr hp hq]
  have el : ∀ k, remF p q k = remF p' q' k := fun k => by unfold remF; rw [ev, er, n2, left_congr hp hq]
  refine ⟨by unfold quotE; rw [n2], ?_, ?_⟩
  · unfold quotV
    rw [n2, er, coefs_congr (fun i _ => eq i)]
  · unfold restV
    rw [n2]
    split
    · rfl
    · rename_i h
      exact pol_eq el (remF_out (by rw [n2]; exact h)) (remF_out h)
theorem prod_congr {p q p' q' : List UInt8} (hp : ∀ i, co p i = co p' i) (hq : ∀ i, co q i = co q' i) : prodE p q = prodE p' q' ∧ prodV p q = prodV p' q' := by
  unfold prodE prodV
  rw [nn_eq hp, nn_eq hq]
  refine ⟨rfl, ?_⟩
  split
  · rfl
  · exact pol_eq (prd_congr hp hq) (prd_out _ _) (prd_out _ _)
theorem sum_congr {p q p' q' : List UInt8} (hp : ∀ i, co p i = co p' i) (hq : ∀ i, co q i = co q' i) : sumV p q = sumV p' q' :=
  pol_eq (fun i => by unfold sumF; rw [hp, hq]) (sumF_out _ _) (sumF_out _ _)
theorem der_congr {p p' : List UInt8} (hp : ∀ i, co p i = co p' i) : derV p = derV p' :=
  pol_eq (fun i => by unfold der; rw [hp]) (der_out _) (der_out _)
theorem sum_nil (p : List UInt8) : sumV p [] = trim p := by
  rw [trim_pol]
  exact pol_eq (fun i => by unfold sumF; rw [co_out (l := []) (Nat.zero_le _), BitVec.xor_zero]) (sumF_out _ _) (fun i hi => co_out hi)
/-- Bytes 0 behind make no difference. -/
theorem co_zeros (p : List UInt8) (n i : Nat) : co (p ++ List.replicate n 0) i = co p i := by
  unfold co
  rw [List.getD_eq_getElem?_getD, List.getD_eq_getElem?_getD, List.getElem?_append]
  split
  · rfl
  · rename_i h
    rw [List.getElem?_eq_none (l := p) (by omega), List.getElem?_replicate]
    split <;> rfl
end Gal
end Go.Proofs.Ytphkaambodecdaa
