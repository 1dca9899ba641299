/- Blocks whose cells are known and may be written: stores of one and of several cells, what stays. -/
import Derived.Test.YtphkaambodecdaaGalRow
import Derived.Test.YtphkaambodecdaaRegH
import Derived.Test.YtphkaambodecdaaAppKit
import Derived.Deep.MidRow
namespace Go.Proofs.Ytphkaambodecdaa
open Go.RowKit
set_option linter.unusedVariables false

/-- The block b holds n cells, and they may be written. -/
def Cel (w : World) (b n : Nat) (f : Nat → Value) : Prop := b < w.heap.size ∧ ∀ j, j < n → w.cell? ⟨b, j, none⟩ = some (f j) ∧ w.frozen? ⟨b, j, none⟩ = false
theorem heap_setCells_ne (b : Nat) : ∀ (vs : List Value) (p : Nat) (w : World) (c : Nat), c ≠ b → (w.setCells b p vs).heap[c]? = w.heap[c]?
  | [], _, _, _, _ => rfl
  | v :: r, p, w, c, h => by
    show ((w.setCell ⟨b, p, none⟩ v).setCells b (p + 1) r).heap[c]? = _
    rw [heap_setCells_ne b r (p + 1) _ c h]
    exact Below.heap_setCell _ _ _ _ h
theorem size_setCells (b : Nat) : ∀ (vs : List Value) (p : Nat) (w : World), (w.setCells b p vs).heap.size = w.heap.size
  | [], _, _ => rfl
  | v :: r, p, w => by
    show ((w.setCell ⟨b, p, none⟩ v).setCells b (p + 1) r).heap.size = _
    rw [size_setCells b r (p + 1) _, World.size_setCell]
theorem below_setCells {B b : Nat} {w0 : World} (hb : B ≤ b) : ∀ (vs : List Value) (p : Nat) (w : World), Below B w0 w → Below B w0 (w.setCells b p vs)
  | [], _, _, h => h
  | v :: r, p, w, h => by
    show Below B w0 ((w.setCell ⟨b, p, none⟩ v).setCells b (p + 1) r)
    exact below_setCells hb r (p + 1) _ (h.setCell (p := ⟨b, p, none⟩) hb _)
namespace Cel
variable {w w' : World} {b n : Nat} {f g : Nat → Value}
theorem lt (h : Cel w b n f) : b < w.heap.size := h.1
theorem cell (h : Cel w b n f) {j : Nat} (hj : j < n) : w.cell? ⟨b, j, none⟩ = some (f j) := (h.2 j hj).1
theorem frozen (h : Cel w b n f) {j : Nat} (hj : j < n) : w.frozen? ⟨b, j, none⟩ = false := (h.2 j hj).2
theorem congr (h : Cel w b n f) (e : ∀ j, j < n → f j = g j) : Cel w b n g := ⟨h.1, fun j hj => by rw [← e j hj]; exact h.2 j hj⟩
theorem of_block (h : Cel w b n f) (e : w'.heap[b]? = w.heap[b]?) : Cel w' b n f := by
  refine ⟨?_, fun j hj => ?_⟩
  · apply Nat.lt_of_not_le
    intro hh
    rw [Array.getElem?_eq_none hh, Array.getElem?_eq_getElem h.1] at e
    cases e
  · obtain ⟨h1, h2⟩ := h.2 j hj
    exact ⟨(World.cell?_of_block (w := w) (a := ⟨b, j, none⟩) e).trans h1, (World.frozen?_of_block (w := w) (a := ⟨b, j, none⟩) e).trans h2⟩
theorem below (h : Cel w b n f) (hb : Below w.heap.size w w') : Cel w' b n f := h.of_block (hb.block b h.1)
theorem alloc (h : Cel w b n f) (o : Obj) : Cel (w.alloc o) b n f := h.of_block (Below.heap_alloc _ _ _ h.1)
theorem but {c : Nat} (h : Cel w b n f) (hb : But c w w') (hc : b ≠ c) : Cel w' b n f := h.of_block (hb.rest b h.1 hc)
theorem set (h : Cel w b n f) (i : Nat) (v : Value) : Cel (w.setCell ⟨b, i, none⟩ v) b n (fun j => if j = i then v else f j) := by
  refine ⟨by rw [World.size_setCell]; exact h.1, fun j hj => ?_⟩
  obtain ⟨h1, h2⟩ := h.2 j hj
  refine ⟨?_, by rw [World.frozen?_setCell]; exact h2⟩
  show _ = some (if j = i then v else f j)
  by_cases e : j = i
  · subst e
    rw [World.cell?_setCell_same' _ _ _ (by rw [h1]; rfl), if_pos rfl]
  · rw [World.cell?_setCell_other (h := addr_off (fun x => e x.symm)), if_neg e]
    exact h1
theorem setOther (h : Cel w b n f) {c i : Nat} (hc : b ≠ c) (v : Value) : Cel (w.setCell ⟨c, i, none⟩ v) b n f := h.of_block (Below.heap_setCell _ _ _ _ hc)
theorem there (h : Cel w b n f) (o m : Nat) (hm : o + m ≤ n) : w.there b o m := fun j hj => by
  obtain ⟨h1, h2⟩ := h.2 (o + j) (by omega)
  exact ⟨by rw [h1]; rfl, h2⟩
theorem range (h : Cel w b n f) (o : Nat) (cs : List Value) (hc : ∀ j v, cs[j]? = some v → o + j < n ∧ f (o + j) = v) : w.rangeAt b o cs := fun j v hv => by
  obtain ⟨h1, h2⟩ := hc j v hv
  rw [h.cell h1, h2]
theorem setMany (h : Cel w b n f) (p : Nat) (vs : List Value) (hp : p + vs.length ≤ n) (u : Value) : Cel (w.setCells b p vs) b n (fun j => if p ≤ j ∧ j < p + vs.length then vs.getD (j - p) u else f j) := by
  refine ⟨by rw [size_setCells]; exact h.1, fun j hj => ?_⟩
  obtain ⟨h1, h2⟩ := h.2 j hj
  refine ⟨?_, by rw [World.frozen?_setCells]; exact h2⟩
  by_cases e : p ≤ j ∧ j < p + vs.length
  · have hi : ∀ i, i < vs.length → (w.cell? ⟨b, p + i, none⟩).isSome = true := fun i hi => by rw [h.cell (by omega)]; rfl
    have := World.cell?_setCells_in b vs p w hi (j - p) (by omega)
    rw [show p + (j - p) = j by omega] at this
    rw [this]
    show _ = some (if p ≤ j ∧ j < p + vs.length then vs.getD (j - p) u else f j)
    rw [if_pos e, List.getD_eq_getElem?_getD, List.getElem?_eq_getElem (by omega)]
    rfl
  · rw [World.cell?_setCells_out b vs p w ⟨b, j, none⟩ (fun _ _ => by show j < p ∨ p + vs.length ≤ j; omega), h1]
    show _ = some (if p ≤ j ∧ j < p + vs.length then vs.getD (j - p) u else f j)
    rw [if_neg e]
theorem manyOther (h : Cel w b n f) {c p : Nat} (vs : List Value) (hc : b ≠ c) : Cel (w.setCells c p vs) b n f := h.of_block (heap_setCells_ne c vs p w b hc)
theorem new (w : World) (C : Array Value) (t : TypeId) (hf : ∀ j, j < n → C[j]? = some (f j)) : Cel (w.alloc (.cells C t)) w.heap.size n f :=
  ⟨by rw [World.size_alloc]; omega, fun j hj => ⟨by rw [World.cell?_alloc_new]; exact hf j hj, by
    unfold World.frozen?
    rw [heap_alloc_new]
    simp⟩⟩
end Cel
section
variable {P : Program}
/-- Results of which the first lies in memory. -/
theorem results_cell_t1 {fn : Func} {p u : Tmp} {ty : TypeId} (h : fn.results = #[.cell p ty, .tmp u]) (tmps : Array Value) (w : World) (X : Nat) (cs : List Value) (d : TypeDesc)
    (hp : tmps.getD p undef = .pointer (some ⟨X, 0, none⟩)) (hc : w.rangeAt X 0 cs) (hu : P.underlying ty = some d) (hd : d.isRow = true) (hi : (P.info? ty).map (·.size) = some cs.length) :
    (results fn tmps).run P w = .ok (.tuple #[.agg cs.toArray, tmps.getD u undef]) w := by
  have hp' : tmps[p]?.getD undef = .pointer (some ⟨X, 0, none⟩) := by simpa using hp
  simp [results, h, hp', asAddr, run_loadVar_mid w X 0 ty cs d hc hu hd hi]
theorem results_cell_t2 {fn : Func} {p u v : Tmp} {ty : TypeId} (h : fn.results = #[.cell p ty, .tmp u, .tmp v]) (tmps : Array Value) (w : World) (X : Nat) (cs : List Value) (d : TypeDesc)
    (hp : tmps.getD p undef = .pointer (some ⟨X, 0, none⟩)) (hc : w.rangeAt X 0 cs) (hu : P.underlying ty = some d) (hd : d.isRow = true) (hi : (P.info? ty).map (·.size) = some cs.length) :
    (results fn tmps).run P w = .ok (.tuple #[.agg cs.toArray, tmps.getD u undef, tmps.getD v undef]) w := by
  have hp' : tmps[p]?.getD undef = .pointer (some ⟨X, 0, none⟩) := by simpa using hp
  simp [results, h, hp', asAddr, run_loadVar_mid w X 0 ty cs d hc hu hd hi]
end
end Go.Proofs.Ytphkaambodecdaa
