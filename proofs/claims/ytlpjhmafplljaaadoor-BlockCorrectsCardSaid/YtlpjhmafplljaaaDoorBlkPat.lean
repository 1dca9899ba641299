/- What the reference's locator and mended come to: plain mathematics. -/
import Derived.Test.YtlpjhmafplljaaaDoorBlkLocF
namespace Go.Proofs.YtlpjhmafplljaaaDoor
set_option linter.unusedVariables false
namespace Blk
open Gal (co)
theorem tstep_low (X S S' : Nat → BitVec 8) (q : Nat) (h : ∀ j, j < 8 → S j = S' j) : ∀ j, j < 8 → tstep X S q j = tstep X S' q j := fun j hj => by
  unfold tstep Gal.sh
  rw [h j hj]
  by_cases e : 1 ≤ j
  · rw [if_pos e, if_pos e, h (j - 1) (by omega)]
  · rw [if_neg e, if_neg e]
theorem twist_low (X : Nat → BitVec 8) : ∀ (f : List Nat) (S S' : Nat → BitVec 8), (∀ j, j < 8 → S j = S' j) → ∀ j, j < 8 → twist X f S j = twist X f S' j
  | [], S, S', h => h
  | q :: f, S, S', h => fun j hj => by
    show twist X f (tstep X S q) j = twist X f (tstep X S' q) j
    exact twist_low X f _ _ (tstep_low X S S' q h) j hj
/-- The string's syndromes are the syndromes. -/
theorem twisted_low (b : List UInt8) (f : List Nat) : ∀ j, j < 8 → twisted b f j = twist (elem b.length) f (syn b) j :=
  twist_low _ f _ _ (fun j hj => by rw [Gal.co_coefs, if_pos hj])
theorem patch_out (b : List UInt8) (l : List Nat) (y : Nat → BitVec 8) {p : Nat} : ∀ k, (∀ i, i < k → p ≠ l.getD i 0) → patch b l y k p = co b p
  | 0, _ => rfl
  | k + 1, h => by
    show (if p = l.getD k 0 then _ else _) = _
    rw [if_neg (h k (by omega))]
    exact patch_out b l y k (fun i hi => h i (by omega))
theorem patch_in (b : List UInt8) (l : List Nat) (y : Nat → BitVec 8) (hd : ∀ i j, i < l.length → j < l.length → l.getD i 0 = l.getD j 0 → i = j) : ∀ k, k ≤ l.length → ∀ i, i < k → patch b l y k (l.getD i 0) = co b (l.getD i 0) ^^^ y i
  | 0, _, i, hi => absurd hi (Nat.not_lt_zero _)
  | k + 1, hk, i, hi => by
    show (if l.getD i 0 = l.getD k 0 then _ else _) = _
    by_cases e : i = k
    · subst e
      rw [if_pos rfl, patch_out b l y i (fun j hj q => by have := hd i j (by omega) (by omega) q; omega)]
    · rw [if_neg (fun q => e (hd i k (by omega) (by omega) q))]
      exact patch_in b l y hd k (by omega) i (by omega)
theorem nodup_getD {l : List Nat} (h : l.Nodup) : ∀ i j, i < l.length → j < l.length → l.getD i 0 = l.getD j 0 → i = j := fun i j hi hj e => by
  rw [List.getD_eq_getElem?_getD, List.getD_eq_getElem?_getD, List.getElem?_eq_getElem hi, List.getElem?_eq_getElem hj, Option.getD_some, Option.getD_some] at e
  have h1 := h.idxOf_getElem i hi
  have h2 := h.idxOf_getElem j hj
  rw [e, h2] at h1
  exact h1.symm
theorem mem_getD {l : List Nat} {p : Nat} (h : p ∈ l) : ∃ i, i < l.length ∧ l.getD i 0 = p := by
  obtain ⟨i, hi, e⟩ := List.getElem_of_mem h
  exact ⟨i, hi, by rw [List.getD_eq_getElem?_getD, List.getElem?_eq_getElem hi, Option.getD_some, e]⟩
/-- The right bytes at the right places make the code block. -/
theorem patch_found {b c : List UInt8} {l : List Nat} {y : Nat → BitVec 8} (hl : c.length = b.length) (hd : l.Nodup) (ho : ∀ p, p < b.length → p ∉ l → co b p = co c p) (hy : ∀ i, i < l.length → y i = dlt b c (l.getD i 0)) : Gal.coefs (patch b l y l.length) b.length = c := by
  refine Gal.ext (by rw [Gal.coefs_length, hl]) (fun p hp => ?_)
  rw [Gal.coefs_length] at hp
  rw [Gal.co_coefs, if_pos hp]
  by_cases h : p ∈ l
  · obtain ⟨i, hi, rfl⟩ := mem_getD h
    rw [patch_in b l y (nodup_getD hd) _ (Nat.le_refl _) i hi, hy i hi]
    unfold dlt
    rw [← BitVec.xor_assoc, BitVec.xor_self, BitVec.zero_xor]
  · rw [patch_out b l y _ (fun i hi e => h (by
      rw [e, List.getD_eq_getElem?_getD, List.getElem?_eq_getElem hi, Option.getD_some]
      exact List.getElem_mem hi)), ho p hp h]
/-- Whatever is put there, other places stay. -/
theorem patch_places {b : List UInt8} {l : List Nat} {y : Nat → BitVec 8} {p : Nat} (hp : p < b.length) (h : co b p ≠ co (Gal.coefs (patch b l y l.length) b.length) p) : p ∈ l := by
  apply Classical.byContradiction
  intro hn
  apply h
  rw [Gal.co_coefs, if_pos hp, patch_out b l y _ (fun i hi e => hn (by
    rw [e, List.getD_eq_getElem?_getD, List.getElem?_eq_getElem hi, Option.getD_some]
    exact List.getElem_mem hi))]
/-- Soundness: a code block made by bytes at the erased places and at e others. -/
theorem patch_near {b : List UInt8} {f g : List Nat} {y : Nat → BitVec 8} (hc : Code (Gal.coefs (patch b (f ++ g) y (f ++ g).length) b.length)) (he : f.length + 2 * g.length ≤ 8) : Near b f (Gal.coefs (patch b (f ++ g) y (f ++ g).length) b.length) :=
  near_of_places hc (Gal.coefs_length _ _) g.length (Nat.le_refl _) he (fun p hp hne hf => by
    have := patch_places hp hne
    rcases List.mem_append.1 this with h | h
    · exact absurd h hf
    · exact h)
end Blk
end Go.Proofs.YtlpjhmafplljaaaDoor
