/- Bits of strings that were changed: plain mathematics. -/
import Derived.Test.YtgfjmolihobaeaaFldDist
namespace Go.Proofs.Ytgfjmolihobaeaa
namespace Fld
theorem setB_bit : ∀ y, y < 256 → ∀ d, d < 8 → ∀ x, x < 2 → setB y d x < 256 ∧ ∀ e, e < 8 → setB y d x / 2 ^ e % 2 = if e = d then x else y / 2 ^ e % 2 := by decide +kernel
theorem bit_set (l : List UInt8) (i x k : Nat) (hi : i / 8 < l.length) (hx : x < 2) : bit (set l i x) k = if k = i then x else bit l k := by
  have hy : (l.getD (i / 8) 0).toNat < 256 := UInt8.toNat_lt _
  obtain ⟨h1, h2⟩ := setB_bit _ hy (7 - i % 8) (by omega) x hx
  unfold bit
  by_cases e : k / 8 = i / 8
  · rw [e, set_at l i x hi, UInt8.toNat_ofNat_of_lt' h1, h2 (7 - k % 8) (by omega)]
    by_cases f : k = i
    · subst f; rw [if_pos rfl, if_pos rfl]
    · rw [if_neg (by omega), if_neg f]
  · rw [set_off l i x (k / 8) e, if_neg (by intro f; subst f; exact e rfl)]
theorem ext_bits (a b : List UInt8) (h : a.length = b.length) (k : ∀ i, i < 8 * a.length → bit a i = bit b i) : a = b := by
  apply List.ext_getElem h
  intro j h1 h2
  have e : ∀ d, d < 8 → (a.getD j 0).toNat / 2 ^ (7 - d) % 2 = (b.getD j 0).toNat / 2 ^ (7 - d) % 2 := fun d hd => by
    rw [← bit_of a j d hd, ← bit_of b j d hd]
    exact k _ (by omega)
  have e0 := e 0 (by omega)
  have e1 := e 1 (by omega)
  have e2 := e 2 (by omega)
  have e3 := e 3 (by omega)
  have e4 := e 4 (by omega)
  have e5 := e 5 (by omega)
  have e6 := e 6 (by omega)
  have e7 := e 7 (by omega)
  have hx : (a.getD j 0).toNat < 256 := UInt8.toNat_lt _
  have hy : (b.getD j 0).toNat < 256 := UInt8.toNat_lt _
  have ga : a.getD j 0 = a[j] := by simp [List.getD, h1]
  have gb : b.getD j 0 = b[j] := by simp [List.getD, h2]
  rw [ga, gb] at e0 e1 e2 e3 e4 e5 e6 e7
  rw [ga] at hx
  rw [gb] at hy
  apply UInt8.toNat_inj.1
  generalize a[j].toNat = x at *
  generalize b[j].toNat = y at *
  clear e k ga gb h
  simp only [Nat.reduceSub, Nat.reducePow] at e0 e1 e2 e3 e4 e5 e6 e7
  omega
theorem bit_put (l : List UInt8) (p w v : Nat) (h : p + w ≤ 8 * l.length) : ∀ m, m ≤ w → ∀ k, bit (put l p w v m) k = if p ≤ k ∧ k < p + m then v / 2 ^ (w - 1 - (k - p)) % 2 else bit l k
  | 0, _, k => by unfold put; rw [if_neg (by omega)]
  | m + 1, hm, k => by
    unfold put
    rw [bit_set _ _ _ _ (by rw [put_length]; omega) (Nat.mod_lt _ (by omega)), bit_put l p w v h m (by omega) k]
    by_cases e : k = p + m
    · subst e
      rw [if_pos rfl, if_pos (by omega), show p + m - p = m by omega]
    · rw [if_neg e]
      by_cases f : p ≤ k ∧ k < p + m
      · rw [if_pos f, if_pos (by omega)]
      · rw [if_neg f, if_neg (by omega)]
theorem dst_comm (a b : List UInt8) : ∀ k, dst a b k = dst b a k
  | 0 => rfl
  | k + 1 => by
    unfold dst
    rw [dst_comm a b k]
    by_cases e : bit a k = bit b k
    · rw [if_pos e, if_pos e.symm]
    · rw [if_neg e, if_neg (fun f => e f.symm)]
theorem dst_zero (a b : List UInt8) : ∀ k, dst a b k = 0 ↔ ∀ i, i < k → bit a i = bit b i
  | 0 => by simp [dst]
  | k + 1 => by
    unfold dst
    constructor
    · intro h i hi
      by_cases e : i = k
      · subst e
        split at h
        · assumption
        · omega
      · exact (dst_zero a b k).1 (by omega) i (by omega)
    · intro h
      have := (dst_zero a b k).2 (fun i hi => h i (by omega))
      rw [if_pos (h k (by omega))]
      omega
theorem dst_eq (a b : List UInt8) (h : a.length = b.length) : dst a b (8 * a.length) = 0 ↔ a = b := by
  rw [dst_zero]
  constructor
  · exact ext_bits a b h
  · rintro rfl i _; rfl
/-- What Flip does. -/
def flip (l : List UInt8) (p : Nat) : List UInt8 := put l p 1 (1 - bit l p) 1
theorem flip_length (l : List UInt8) (p : Nat) : (flip l p).length = l.length := put_length _ _ _ _ _
theorem bit_flip (l : List UInt8) (p k : Nat) (h : p < 8 * l.length) : bit (flip l p) k = if k = p then 1 - bit l p else bit l k := by
  have b := bit_lt l p
  unfold flip
  rw [bit_put l p 1 _ (by omega) 1 (by omega) k]
  by_cases e : k = p
  · subst e
    rw [if_pos (by omega), if_pos rfl]
    simp
    omega
  · rw [if_neg (by omega), if_neg e]
theorem flip_flip (l : List UInt8) (p : Nat) (h : p < 8 * l.length) : flip (flip l p) p = l := by
  apply ext_bits
  · rw [flip_length, flip_length]
  · intro i _
    have b := bit_lt l p
    rw [bit_flip (flip l p) p i (by rw [flip_length]; exact h), bit_flip l p i h, bit_flip l p p h, if_pos rfl]
    by_cases e : i = p
    · subst e
      rw [if_pos rfl]
      omega
    · rw [if_neg e, if_neg e]
theorem dst_flip (l : List UInt8) (p : Nat) (h : p < 8 * l.length) : ∀ k, dst l (flip l p) k = if p < k then 1 else 0
  | 0 => by simp [dst]
  | k + 1 => by
    unfold dst
    rw [dst_flip l p h k, bit_flip l p k h]
    have b := bit_lt l p
    by_cases e : k = p
    · subst e
      rw [if_pos rfl, if_neg (by omega), if_neg (by omega), if_pos (by omega)]
    · rw [if_neg e, if_pos rfl]
      by_cases f : p < k
      · rw [if_pos f, if_pos (by omega)]
      · rw [if_neg f, if_neg (by omega)]
theorem dst_flip_other (a b : List UInt8) (p : Nat) (h : p < 8 * a.length) : ∀ k, (k ≤ p → dst (flip a p) b k = dst a b k) ∧ (p < k → dst (flip a p) b k = dst a b k + 1 ∨ dst (flip a p) b k + 1 = dst a b k)
  | 0 => by simp [dst]
  | k + 1 => by
    obtain ⟨i1, i2⟩ := dst_flip_other a b p h k
    have e0 := bit_flip a p k h
    have ba := bit_lt a k
    have bb := bit_lt b k
    unfold dst
    constructor
    · intro hk
      rw [if_neg (show ¬ k = p by omega)] at e0
      rw [e0, i1 (by omega)]
    · intro hk
      by_cases e : k = p
      · subst e
        rw [if_pos rfl] at e0
        rw [e0, i1 (by omega)]
        by_cases f : bit a k = bit b k
        · rw [if_pos f, if_neg (by omega)]
          omega
        · rw [if_neg f, if_pos (by omega)]
          omega
      · rw [if_neg e] at e0
        rw [e0]
        rcases i2 (by omega) with j | j
        · rw [j]; omega
        · omega
end Fld
end Go.Proofs.Ytgfjmolihobaeaa
