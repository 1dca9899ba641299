/- The deferred function that recovers: its two contracts; what corrected does behind a panic and behind a return. -/
import Derived.Test.YtlpjhmafplljaaaDoorBlkPL
import Derived.Defers
import Derived.Recover
namespace Go.Proofs.YtlpjhmafplljaaaDoor
open Go.RowKit
set_option linter.unusedVariables false

/-- The cells of the results: a word of two slices at c4, a truth value at c5. -/
structure Cells2 (w : World) (c4 c5 : Nat) (a b c : Value) : Prop where
  c0 : w.cell? ⟨c4, 0, none⟩ = some a
  c1 : w.cell? ⟨c4, 1, none⟩ = some b
  c2 : w.cell? ⟨c5, 0, none⟩ = some c
  f0 : w.frozen? ⟨c4, 0, none⟩ = false
  f1 : w.frozen? ⟨c4, 1, none⟩ = false
  f2 : w.frozen? ⟨c5, 0, none⟩ = false
  ne : c4 ≠ c5
theorem catch_pan (c4 c5 : Nat) (u : TypeId) (pv a b c : Value) (w : World) (H : Cells2 w c4 c5 a b c) :
    CallsD Tryd.prog 42 #[.pointer (some ⟨c4, 0, none⟩), .pointer (some ⟨c5, 0, none⟩)] (.panicking [{ v := .iface u pv, recovered := false }]) w fun e u' w' =>
      e = .returned (.tuple #[]) ∧ u' = .panicking [{ v := .iface u pv, recovered := true }] ∧ w' = ((w.setCell ⟨c4, 0, none⟩ (.slice none 0 0)).setCell ⟨c4, 1, none⟩ (.slice none 0 0)).setCell ⟨c5, 0, none⟩ (.bool false) := by
  obtain ⟨h0, h1, h2, g0, g1, g2, ne⟩ := H
  have e1 : ((w.setCell ⟨c4, 0, none⟩ (.slice none 0 0)).cell? ⟨c4, 1, none⟩) = some b := by rw [World.cell?_setCell_other (h := addr_off (by omega))]; exact h1
  have e2 : (((w.setCell ⟨c4, 0, none⟩ (.slice none 0 0)).setCell ⟨c4, 1, none⟩ (.slice none 0 0)).cell? ⟨c5, 0, none⟩) = some c := by
    rw [World.cell?_setCell_other (h := fun e => ne (congrArg Addr.block e)), World.cell?_setCell_other (h := fun e => ne (congrArg Addr.block e))]; exact h2
  refine callsD_of_wpS Tryd.func42 rfl fun c₀ cs hu => ?_
  apply wpS_seq
  apply wpS_region
  simp [wpOpsS, go_sem, recoverD, hu, Tryd.ntmps42, Exit.thenS]
  refine wpS_cond (t := true) (by simp [Act.eval, Array.replicate]) ?_
  simp only [if_true]
  apply wpS_region
  have f1' : (w.setCell ⟨c4, 0, none⟩ (.slice none 0 0)).frozen? ⟨c4, 1, none⟩ = false := by rw [World.frozen?_setCell]; exact g1
  have f2' : ((w.setCell ⟨c4, 0, none⟩ (.slice none 0 0)).setCell ⟨c4, 1, none⟩ (.slice none 0 0)).frozen? ⟨c5, 0, none⟩ = false := by rw [World.frozen?_setCell, World.frozen?_setCell]; exact g2
  simp [wpOpsS, go_sem, h0, g0, e1, g1, e2, g2, bodyPostS, results, Tryd.results42, Array.replicate]
theorem catch_idle (c4 c5 : Nat) (w : World) :
    CallsD Tryd.prog 42 #[.pointer (some ⟨c4, 0, none⟩), .pointer (some ⟨c5, 0, none⟩)] .returning w fun e u' w' => e = .returned (.tuple #[]) ∧ u' = .returning ∧ w' = w := by
  refine callsD_of_wpS Tryd.func42 rfl fun c₀ cs hu => ?_
  apply wpS_seq
  apply wpS_region
  simp [wpOpsS, go_sem, recoverD, hu, Tryd.ntmps42, Exit.thenS]
  refine wpS_cond (t := false) (by simp [Act.eval, Array.replicate]) ?_
  simp only [Bool.false_eq_true, if_false]
  refine wpS_of_wp (wp_skip ?_)
  cases c₀
  simp_all [bodyPostS, results, Tryd.results42]
/-- The deferred call of corrected. -/
def dcl (c4 c5 : Nat) : Deferred := { target := .fn (.func 42) #[.pointer (some ⟨c4, 0, none⟩), .pointer (some ⟨c5, 0, none⟩)], args := #[] }
theorem door_pan {R : Ending → World → Prop} {a : Act} {w : World} {p : List PanicEntry} (c4 c5 : Nat) (x y z : Value) (H : Cells2 w c4 c5 x y z) (hp : Pan p) (hd : a.defers = [dcl c4 c5]) (h4 : a.eval (.tmp 4) = .pointer (some ⟨c4, 0, none⟩)) (h5 : a.eval (.tmp 5) = .pointer (some ⟨c5, 0, none⟩))
    (hR : ∀ w', w' = ((w.setCell ⟨c4, 0, none⟩ (.slice none 0 0)).setCell ⟨c4, 1, none⟩ (.slice none 0 0)).setCell ⟨c5, 0, none⟩ (.bool false) → R (.returned (.tuple #[.agg #[.slice none 0 0, .slice none 0 0], .bool false])) w') :
    bodyPostD Tryd.prog Tryd.f28 R (.panic p) a w := by
  obtain ⟨u, v, rfl⟩ := hp
  show Leaves Tryd.prog Tryd.f28 a.tmps R a.defers (.panicking [{ v := .iface u v, recovered := false }]) w
  rw [hd]
  refine leaves_cons (f := 42) (args := #[.pointer (some ⟨c4, 0, none⟩), .pointer (some ⟨c5, 0, none⟩)]) (by simp) (by simp [go_sem]) ?_
  refine (catch_pan c4 c5 u v x y z w H).mono ?_
  rintro e u' w'' ⟨rfl, rfl, hw⟩
  have q := hR w'' hw
  obtain ⟨h0, h1, h2, g0, g1, g2, ne⟩ := H
  have e0 : w''.cell? ⟨c4, 0, none⟩ = some (.slice none 0 0) := by
    rw [hw, World.cell?_setCell_other (h := fun e => ne (congrArg Addr.block e).symm), World.cell?_setCell_other (h := addr_off (by omega))]
    exact World.cell?_setCell_same' _ _ _ (by rw [h0]; rfl)
  have e1 : w''.cell? ⟨c4, 1, none⟩ = some (.slice none 0 0) := by
    rw [hw, World.cell?_setCell_other (h := fun e => ne (congrArg Addr.block e).symm)]
    exact World.cell?_setCell_same' _ _ _ (by rw [World.cell?_setCell_other (h := addr_off (by omega)), h1]; rfl)
  have e2 : w''.cell? ⟨c5, 0, none⟩ = some (.bool false) := by
    rw [hw]
    exact World.cell?_setCell_same' _ _ _ (by rw [World.cell?_setCell_other (h := fun e => ne (congrArg Addr.block e)), World.cell?_setCell_other (h := fun e => ne (congrArg Addr.block e)), h2]; rfl)
  have t4 : a.tmps.getD 4 undef = .pointer (some ⟨c4, 0, none⟩) := h4
  have t5 : a.tmps.getD 5 undef = .pointer (some ⟨c5, 0, none⟩) := h5
  have t4' : a.tmps[4]?.getD undef = .pointer (some ⟨c4, 0, none⟩) := by rw [← t4]; simp
  have t5' : a.tmps[5]?.getD undef = .pointer (some ⟨c5, 0, none⟩) := by rw [← t5]; simp
  simp [Leaves, settle, results, Tryd.results28, go_sem, t4', t5', e0, e1, e2]
  exact q
theorem door_ret {R : Ending → World → Prop} {a : Act} {w : World} (c4 c5 : Nat) (x y z : Value) (H : Cells2 w c4 c5 x y z) (hd : a.defers = [dcl c4 c5]) (h4 : a.eval (.tmp 4) = .pointer (some ⟨c4, 0, none⟩)) (h5 : a.eval (.tmp 5) = .pointer (some ⟨c5, 0, none⟩))
    (hR : R (.returned (.tuple #[.agg #[x, y], z])) w) : bodyPostD Tryd.prog Tryd.f28 R .ret a w := by
  show Leaves Tryd.prog Tryd.f28 a.tmps R a.defers .returning w
  rw [hd]
  refine leaves_cons (f := 42) (args := #[.pointer (some ⟨c4, 0, none⟩), .pointer (some ⟨c5, 0, none⟩)]) (by simp) (by simp [go_sem]) ?_
  refine (catch_idle c4 c5 w).mono ?_
  rintro e u' w'' ⟨rfl, rfl, rfl⟩
  obtain ⟨h0, h1, h2, g0, g1, g2, ne⟩ := H
  have t4 : a.tmps.getD 4 undef = .pointer (some ⟨c4, 0, none⟩) := h4
  have t5 : a.tmps.getD 5 undef = .pointer (some ⟨c5, 0, none⟩) := h5
  have t4' : a.tmps[4]?.getD undef = .pointer (some ⟨c4, 0, none⟩) := by rw [← t4]; simp
  have t5' : a.tmps[5]?.getD undef = .pointer (some ⟨c5, 0, none⟩) := by rw [← t5]; simp
  simp [Leaves, settle, results, Tryd.results28, go_sem, t4', t5', h0, h1, h2]
  exact hR
end Go.Proofs.YtlpjhmafplljaaaDoor
