/- The contracts of perigeeref05's Differ, part, inside, Whole over this program. -/
import Derived.Test.YtlpjhmafplljaaaDoorBlkRef
namespace Go.Proofs.YtlpjhmafplljaaaDoor
open Go.RowKit
set_option linter.unusedVariables false

namespace Blk
/-- How many of the first k numbers keep P. -/
def cnt (P : Nat → Bool) (k : Nat) : Nat := ((List.range k).filter P).length
theorem cnt_succ (P : Nat → Bool) (k : Nat) : cnt P (k + 1) = cnt P k + (if P k then 1 else 0) := by
  unfold cnt
  rw [List.range_succ, List.filter_append, List.length_append]
  by_cases h : P k <;> simp [h]
theorem cnt_le (P : Nat → Bool) (k : Nat) : cnt P k ≤ k := by
  have := List.length_filter_le P (List.range k)
  simpa [cnt] using this
/-- Two lists differ at i. -/
def ne2 (a b : List UInt8) (i : Nat) : Bool := decide (Gal.co a i ≠ Gal.co b i)
theorem dif_cnt (a b : List UInt8) : (dif a b).length = cnt (ne2 a b) a.length := rfl
/-- How many bytes a part has. -/
def parts (n j d : Nat) : Nat := (n + d - 1 - j) / d
theorem parts_iff (n j d k : Nat) (hj : j < d) : j + k * d < n ↔ k < parts n j d := by
  unfold parts
  have e := Nat.le_div_iff_mul_le (x := k + 1) (y := n + d - 1 - j) (show 0 < d by omega)
  rw [Nat.add_mul, Nat.one_mul] at e
  constructor
  · intro h
    exact e.2 (by omega)
  · intro h
    have := e.1 h
    omega
/-- Every d-th byte, from j on. -/
def part (l : List UInt8) (j d : Nat) : List UInt8 := Gal.coefs (fun k => Gal.co l (j + k * d)) (parts l.length j d)
instance (b : List UInt8) : Decidable (Code b) := inferInstanceAs (Decidable (_ ∧ _ ∧ _))
end Blk
/-- The slice at a reads as the ints zs. -/
def Ints (w : World) (a : Option Addr) (zs : List Int) : Prop := zs = [] ∨ ∃ b off, a = some ⟨b, off, none⟩ ∧ b < w.heap.size ∧ ∀ j, j < zs.length → w.cell? ⟨b, off + j, none⟩ = some (.int .i64 (zs.getD j 0))
theorem getD_at (zs : List Int) {k : Nat} (h : k < zs.length) : zs.getD k 0 = zs[k] := by simp [List.getD, List.getElem?_eq_getElem h]
theorem Ints.below {w w' : World} {a : Option Addr} {zs : List Int} (h : Ints w a zs) (hb : Below w.heap.size w w') : Ints w' a zs := by
  rcases h with h | ⟨b, off, rfl, hl, hc⟩
  · exact .inl h
  · exact .inr ⟨b, off, rfl, Nat.lt_of_lt_of_le hl hb.size, fun j hj => (hb.cell (p := ⟨b, off + j, none⟩) hl).trans (hc j hj)⟩
theorem Ints.cell {w : World} {a : Option Addr} {zs : List Int} (h : Ints w a zs) (hn : 0 < zs.length) : ∃ b off, a = some ⟨b, off, none⟩ ∧ b < w.heap.size ∧ ∀ j, j < zs.length → w.cell? ⟨b, off + j, none⟩ = some (.int .i64 (zs.getD j 0)) := by
  rcases h with rfl | h
  · simp at hn
  · exact h
end Go.Proofs.YtlpjhmafplljaaaDoor
