/- Lists of bits: what they are as functions. -/
import Derived.Test.YtlfnglinalmpjaaCvMath
namespace Go.Proofs.Ytlfnglinalmpjaa
set_option linter.unusedVariables false
namespace Cv
/-- Bits as they come. -/
abbrev Bit := { x : Nat // x < 2 }
/-- The first k of f. -/
def upto (f : Nat → Bit) (k : Nat) : List Bit := (List.range k).map f
theorem upto_succ (f : Nat → Bit) (k : Nat) : upto f (k + 1) = upto f k ++ [f k] := by simp [upto, List.range_succ]
theorem upto_length (f : Nat → Bit) (k : Nat) : (upto f k).length = k := by simp [upto]
/-- The bits of a list of them. -/
def gl (xs : List Bit) (i : Nat) : Nat := (xs.getD i ⟨0, by omega⟩).1
theorem gl_lt (xs : List Bit) (i : Nat) : gl xs i < 2 := (xs.getD i ⟨0, by omega⟩).2
theorem gl_old (xs : List Bit) (x : Bit) (i : Nat) (h : i < xs.length) : gl (xs ++ [x]) i = gl xs i := by
  unfold gl
  rw [List.getD_eq_getElem?_getD, List.getD_eq_getElem?_getD, List.getElem?_append_left h]
theorem gl_new (xs : List Bit) (x : Bit) : gl (xs ++ [x]) xs.length = x.1 := by
  unfold gl
  rw [List.getD_eq_getElem?_getD, List.getElem?_append_right (Nat.le_refl _)]
  simp
theorem gl_upto (f : Nat → Bit) (k i : Nat) (h : i < k) : gl (upto f k) i = (f i).1 := by
  unfold gl upto
  rw [List.getD_eq_getElem?_getD]
  simp [h]
theorem stt_congr {f g : Nat → Nat} : ∀ k, (∀ i, i < k → f i = g i) → stt f k = stt g k
  | 0, _ => rfl
  | k + 1, h => by
    show nx (stt f k) (f k) = nx (stt g k) (g k)
    rw [stt_congr k (fun i hi => h i (by omega)), h k (by omega)]
theorem sym_congr {f g : Nat → Nat} (k : Nat) (h : ∀ i, i < k → f i = g i) (i : Nat) (hi : i < 2 * k) : sym f i = sym g i := by
  unfold sym
  rw [stt_congr (i / 2) (fun j hj => h j (by omega)), h (i / 2) (by omega)]
end Cv
end Go.Proofs.Ytlfnglinalmpjaa
