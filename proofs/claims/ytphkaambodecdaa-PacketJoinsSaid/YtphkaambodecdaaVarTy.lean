/- Operations that make or write memory, with the type of the block; what is kept by its type. -/
import Derived.Test.YtphkaambodecdaaPpFeed2
namespace Go.Proofs.Ytphkaambodecdaa
open Go.RowKit
set_option linter.unusedVariables false

/-- A block of cells of a type. -/
def TyB (w : World) (X : Nat) (t : TypeId) : Prop := ∃ cur fr, w.heap[X]? = some (Obj.cells cur t fr)
theorem TyB.lt {w : World} {X : Nat} {t : TypeId} (h : TyB w X t) : X < w.heap.size := by
  obtain ⟨cur, fr, e⟩ := h
  exact (Array.getElem?_eq_some_iff.1 e).1
theorem TyB.of_block {w w' : World} {X : Nat} {t : TypeId} (h : TyB w X t) (e : w'.heap[X]? = w.heap[X]?) : TyB w' X t := by
  obtain ⟨cur, fr, h⟩ := h
  exact ⟨cur, fr, e.trans h⟩
theorem TyB.below {w w' : World} {X : Nat} {t : TypeId} (h : TyB w X t) (hb : Below w.heap.size w w') : TyB w' X t := h.of_block (hb.block X h.lt)
theorem TyB.but {w w' : World} {X Y : Nat} {t : TypeId} (h : TyB w X t) (hb : But Y w w') (hn : X ≠ Y) : TyB w' X t := h.of_block (hb.rest X h.lt hn)
theorem TyB.keep {base : Nat} {ts : List TypeId} {mp : Bool} {w w' : World} {X : Nat} {t : TypeId} (h : TyB w X t) (k : Kp base ts mp w w') (ht : t ∉ ts) : w'.heap[X]? = w.heap[X]? := by
  obtain ⟨cur, fr, e⟩ := h
  exact k.cells X cur t fr e ht
theorem tyB_setCells (X : Nat) (t : TypeId) : ∀ (vs : List Value) (p : Nat) (w : World), TyB w X t → TyB (w.setCells X p vs) X t
  | [], _, _, h => h
  | v :: vs, p, w, ⟨cur, fr, h⟩ => tyB_setCells X t vs (p + 1) _ (by obtain ⟨c, hc⟩ := cells_setCell (i := p) (u := v) h; exact ⟨c, fr, hc⟩)
section
variable {P : Program} {ops : Array Oper} {rest : List Oper} {op : Oper} {a : Act} {w : World} {Q : Exit → Act → World → Prop}
theorem wpList_newT (hgd : op.guard = none) (OP : Op) (ho : op.op = OP) (dn : Option Tmp) (hd : op.dst = dn) (cs : Array Value) (t : TypeId) (mk : Nat → Value) (n : Nat) (f : Nat → Value) (hf : ∀ j, j < n → cs[j]? = some (f j))
    (hrun : (execOp a.eval op).run P w = .ok (.value (mk w.heap.size)) (w.alloc (.cells cs t)))
    (K : ∀ X w', Hid (w.heap.size = X) → Hid (w'.heap.size = X + 1) → Hid (Cel w' X n f) → Hid (Below w.heap.size w w') → Hid (TyB w' X t) → wpList P ops Q rest (a.put op.dst (mk X)) w') : wpList P ops Q (op :: rest) a w :=
  wpList_plain hgd fun _ hK => by
    unfold Oper.wp
    rw [hrun, Oper.upon_value]
    exact hK _ _ (K w.heap.size _ (Lib.hid rfl) (Lib.hid (by rw [World.size_alloc])) (Lib.hid (Cel.new w cs t hf)) (Lib.hid (ba (Below.refl _ _) _)) (Lib.hid ⟨cs, _, heap_alloc_last w _⟩))
theorem wpList_setAllT (hgd : op.guard = none) (ty : TypeId) (x y : Operand) (ho : op.op = .store ty x y) (X n : Nat) (vs : List Value) (f g : Nat → Value) (C : Cel w X n f) (hn : vs.length = n) (hg : ∀ j, j < n → vs[j]? = some (g j))
    (hx : a.eval x = .pointer (some ⟨X, 0, none⟩)) (hy : a.eval y = .agg vs.toArray) (hi : (P.info? ty).map (·.size) = some n) (h1 : vs.all (·.oneCell') = true)
    (K : ∀ w', Hid (Cel w' X n g) → Hid (But X w w') → Hid (w'.heap.size = w.heap.size) → Hid (∀ t, TyB w X t → TyB w' X t) → wpList P ops Q rest (a.put op.dst undef) w') : wpList P ops Q (op :: rest) a w := by
  have there : w.there X 0 vs.toArray.size := C.there 0 _ (by simp [hn])
  refine wpList_store_mid hgd ty x y ho X 0 vs.toArray hx hy there (by rw [hi]; simp [hn]) (by simpa using h1) ?_
  refine K _ (Lib.hid ?_) (Lib.hid (But.of_setCells X _ _ _)) (Lib.hid (size_setCells _ _ _ _)) (Lib.hid (fun t h => tyB_setCells X t _ _ _ h))
  refine (C.setMany 0 vs (by omega) undef).congr (fun j hj => ?_)
  rw [if_pos (by omega), Nat.sub_zero, List.getD_eq_getElem?_getD, hg j hj]
  rfl
end
/-- A packet of a row of packets. -/
theorem pkL_at (f : Nat → Pkt) : ∀ (n k : Nat), k < n → ∀ j, j < 5 → (pkL f n)[k * 5 + j]? = some (pkCel (f k) j)
  | 0, _, h, _, _ => by omega
  | n + 1, k, h, j, hj => by
    unfold pkL
    by_cases e : k < n
    · rw [List.getElem?_append_left (by rw [pkL_length]; omega)]
      exact pkL_at f n k e j hj
    · obtain rfl : k = n := by omega
      rw [List.getElem?_append_right (by rw [pkL_length]; omega), pkL_length, show k * 5 + j - k * 5 = j by omega]
      exact pk_list (f k) j hj
theorem row_range {w : World} {base g n c : Nat} {f : Nat → Pkt} (h : w.ownsRow base 23 5 (.slice (some ⟨g, 0, none⟩) n c) n (pkL f n)) {k : Nat} (hk : k < n) : w.rangeAt g (k * 5) (pk5 (f k)) := fun j u hu => by
  have hj : j < 5 := (List.getElem?_eq_some_iff.1 hu).1
  have h1 := h.cells (g := g) rfl (k * 5 + j) (pkCel (f k) j) (pkL_at f n k hk j hj)
  rw [add_off, Nat.zero_add] at h1
  rw [h1, ← pk_list (f k) j hj]
  exact hu
end Go.Proofs.Ytphkaambodecdaa
