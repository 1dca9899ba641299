/- Operations that make or write memory, met in a walk: the world behind each is a variable, told by what lies in its blocks. -/
import Derived.Test.YtphkaambodecdaaCelKit
namespace Go.Proofs.Ytphkaambodecdaa
open Go.RowKit
set_option linter.unusedVariables false

section
variable {P : Program} {ops : Array Oper} {rest : List Oper} {op : Oper} {a : Act} {w : World} {Q : Exit → Act → World → Prop}
/-- An operation that makes a block. -/
theorem wpList_new (hgd : op.guard = none) (OP : Op) (ho : op.op = OP) (dn : Option Tmp) (hd : op.dst = dn) (cs : Array Value) (t : TypeId) (mk : Nat → Value) (n : Nat) (f : Nat → Value) (hf : ∀ j, j < n → cs[j]? = some (f j))
    (hrun : (execOp a.eval op).run P w = .ok (.value (mk w.heap.size)) (w.alloc (.cells cs t)))
    (K : ∀ X w', Hid (w.heap.size = X) → Hid (w'.heap.size = X + 1) → Hid (Cel w' X n f) → Hid (Below w.heap.size w w') → wpList P ops Q rest (a.put op.dst (mk X)) w') : wpList P ops Q (op :: rest) a w :=
  wpList_plain hgd fun _ hK => by
    unfold Oper.wp
    rw [hrun, Oper.upon_value]
    exact hK _ _ (K w.heap.size _ (Lib.hid rfl) (Lib.hid (by rw [World.size_alloc])) (Lib.hid (Cel.new w cs t hf)) (Lib.hid (ba (Below.refl _ _) _)))
/-- A store of one cell. -/
theorem wpList_set (hgd : op.guard = none) (OP : Op) (ho : op.op = OP) (X i n : Nat) (v : Value) (f g : Nat → Value) (C : Cel w X n f) (hi : i < n) (hg : ∀ j, j < n → (if j = i then v else f j) = g j)
    (hrun : (execOp a.eval op).run P w = .ok .skip (w.setCell ⟨X, i, none⟩ v))
    (K : ∀ w', Hid (Cel w' X n g) → Hid (But X w w') → Hid (w'.heap.size = w.heap.size) → wpList P ops Q rest (a.put op.dst undef) w') : wpList P ops Q (op :: rest) a w :=
  wpList_plain hgd fun _ hK => by
    unfold Oper.wp
    rw [hrun]
    exact hK _ _ (K _ (Lib.hid ((C.set i v).congr hg)) (Lib.hid ((But.refl X w).setCell i v)) (Lib.hid (by simp [World.setCell])))
theorem But.of_setCells (X : Nat) : ∀ (vs : List Value) (p : Nat) (w : World), But X w (w.setCells X p vs) := fun vs p w =>
  ⟨below_setCells (Nat.le_refl _) vs p w (Below.refl _ _), fun b _ hb => heap_setCells_ne X vs p w b hb⟩
/-- A store of a whole struct. -/
theorem wpList_setAll (hgd : op.guard = none) (ty : TypeId) (x y : Operand) (ho : op.op = .store ty x y) (X n : Nat) (vs : List Value) (f g : Nat → Value) (C : Cel w X n f) (hn : vs.length = n) (hg : ∀ j, j < n → vs[j]? = some (g j))
    (hx : a.eval x = .pointer (some ⟨X, 0, none⟩)) (hy : a.eval y = .agg vs.toArray) (hi : (P.info? ty).map (·.size) = some n) (h1 : vs.all (·.oneCell') = true)
    (K : ∀ w', Hid (Cel w' X n g) → Hid (But X w w') → Hid (w'.heap.size = w.heap.size) → wpList P ops Q rest (a.put op.dst undef) w') : wpList P ops Q (op :: rest) a w := by
  have there : w.there X 0 vs.toArray.size := C.there 0 _ (by simp [hn])
  refine wpList_store_mid hgd ty x y ho X 0 vs.toArray hx hy there (by rw [hi]; simp [hn]) (by simpa using h1) ?_
  refine K _ (Lib.hid ?_) (Lib.hid (But.of_setCells X _ _ _)) (Lib.hid (size_setCells _ _ _ _))
  refine (C.setMany 0 vs (by omega) undef).congr (fun j hj => ?_)
  rw [if_pos (by omega), Nat.sub_zero, List.getD_eq_getElem?_getD, hg j hj]
  rfl
/-- A load of a whole struct. -/
theorem wpList_getAll (hgd : op.guard = none) (ty : TypeId) (x : Operand) (ho : op.op = .load ty x) (X n : Nat) (vs : List Value) (f : Nat → Value) (d : TypeDesc) (C : Cel w X n f) (hn : vs.length = n) (hg : ∀ j, j < n → vs[j]? = some (f j))
    (hx : a.eval x = .pointer (some ⟨X, 0, none⟩)) (hu : P.underlying ty = some d) (hd : d.isRow = true) (hi : (P.info? ty).map (·.size) = some n)
    (h : wpList P ops Q rest (a.put op.dst (.agg vs.toArray)) w) : wpList P ops Q (op :: rest) a w :=
  wpList_load_mid hgd ty x ho X 0 hx vs d (C.range 0 vs (fun j v hv => by
    have hj : j < n := by have := (List.getElem?_eq_some_iff.1 hv).1; omega
    have := hg j hj
    rw [hv] at this
    exact ⟨by omega, by rw [Nat.zero_add]; exact (Option.some.inj this).symm⟩)) hu hd (by rw [hi, hn]) h
/-- A load of one cell. -/
theorem wpList_get (hgd : op.guard = none) (OP : Op) (ho : op.op = OP) (X i n : Nat) (v : Value) (f : Nat → Value) (C : Cel w X n f) (hi : i < n) (hv : f i = v)
    (hrun : w.cell? ⟨X, i, none⟩ = some v → (execOp a.eval op).run P w = .ok (.value v) w)
    (h : wpList P ops Q rest (a.put op.dst v) w) : wpList P ops Q (op :: rest) a w :=
  wpList_plain hgd fun _ hK => by
    unfold Oper.wp
    rw [hrun (by rw [← hv]; exact C.cell hi), Oper.upon_value]
    exact hK _ _ h
end
/-- The cells of a struct of a block, as a list. -/
theorem Cel.rangeAll {w : World} {X n : Nat} {f : Nat → Value} (C : Cel w X n f) (vs : List Value) (hn : vs.length = n) (hg : ∀ j, j < n → vs[j]? = some (f j)) : w.rangeAt X 0 vs := C.range 0 vs (fun j v hv => by
  have hj : j < n := by have := (List.getElem?_eq_some_iff.1 hv).1; omega
  have := hg j hj
  rw [hv] at this
  exact ⟨by omega, by rw [Nat.zero_add]; exact (Option.some.inj this).symm⟩)
theorem But.under {X B : Nat} {w0 w w' : World} (h : Below B w0 w) (k : But X w w') (hB : B ≤ X) : Below B w0 w' := h.trans (k.below.mono hB)
end Go.Proofs.Ytphkaambodecdaa
