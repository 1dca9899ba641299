/- ChArg -/
import Derived.OpenShut
import Derived.ChangeKeysEq
import Derived.Laws.StructEq
import Derived.Test.YtchfkncbemjepaaGreatChShown
/- Layer 11's laws: an argument that is an array of eight ints; such arrays compared. -/
namespace Go.Proofs.YtchfkncbemjepaaGreat
open Go.ChangeShapes Go.WideShapes Go.ChangeAt Go.RowKit Go.Deep
set_option linter.unusedVariables false
set_option maxRecDepth 100000

section
variable {H : Type} {enc : TypeId × Value → H}
theorem cells_a8 : Tryz.prog.cellsOf 22 = 8 := by kernel_rfl
theorem cells_i1 : Tryz.prog.cellsOf 3 = 1 := by kernel_rfl
theorem a8_open {w : World} {n : Nat} {cs : List Value} {y : DataW H × List MemPlace} (h : DataW.trod enc Tryz.prog w 0 (fun _ => true) true n 22 cs = some y) : ∃ f : Nat → Int, cs = list8 f ∧ ∀ i, i < 8 → (Lit.int .i64 (f i)).wf = true := by
  obtain ⟨xs, m, _, rfl, hl, hlen, hf⟩ := DataW.trod_array Tryz.underlying22 h
  rw [cells_a8] at hl
  have hc1 := cells_i1
  match xs, hlen with
  | [y0, y1, y2, y3, y4, y5, y6, y7], _ =>
    match cs, hl with
    | [v0, v1, v2, v3, v4, v5, v6, v7], _ =>
      have g0 := hf 0 (by omega)
      rw [hc1] at g0
      simp only [Nat.mul_one, List.drop_zero, List.take_succ_cons, List.take_zero] at g0
      have g1 := hf 1 (by omega)
      rw [hc1] at g1
      simp only [Nat.mul_one, List.drop_zero, List.drop_succ_cons, List.take_succ_cons, List.take_zero] at g1
      have g2 := hf 2 (by omega)
      rw [hc1] at g2
      simp only [Nat.mul_one, List.drop_zero, List.drop_succ_cons, List.take_succ_cons, List.take_zero] at g2
      have g3 := hf 3 (by omega)
      rw [hc1] at g3
      simp only [Nat.mul_one, List.drop_zero, List.drop_succ_cons, List.take_succ_cons, List.take_zero] at g3
      have g4 := hf 4 (by omega)
      rw [hc1] at g4
      simp only [Nat.mul_one, List.drop_zero, List.drop_succ_cons, List.take_succ_cons, List.take_zero] at g4
      have g5 := hf 5 (by omega)
      rw [hc1] at g5
      simp only [Nat.mul_one, List.drop_zero, List.drop_succ_cons, List.take_succ_cons, List.take_zero] at g5
      have g6 := hf 6 (by omega)
      rw [hc1] at g6
      simp only [Nat.mul_one, List.drop_zero, List.drop_succ_cons, List.take_succ_cons, List.take_zero] at g6
      have g7 := hf 7 (by omega)
      rw [hc1] at g7
      simp only [Nat.mul_one, List.drop_zero, List.drop_succ_cons, List.take_succ_cons, List.take_zero] at g7
      obtain ⟨i0, c0, _, w0⟩ := DataW.trod_int Tryz.underlying3 (g0.trans rfl)
      simp only [List.cons.injEq, and_true] at c0
      subst c0
      obtain ⟨i1, c1, _, w1⟩ := DataW.trod_int Tryz.underlying3 (g1.trans rfl)
      simp only [List.cons.injEq, and_true] at c1
      subst c1
      obtain ⟨i2, c2, _, w2⟩ := DataW.trod_int Tryz.underlying3 (g2.trans rfl)
      simp only [List.cons.injEq, and_true] at c2
      subst c2
      obtain ⟨i3, c3, _, w3⟩ := DataW.trod_int Tryz.underlying3 (g3.trans rfl)
      simp only [List.cons.injEq, and_true] at c3
      subst c3
      obtain ⟨i4, c4, _, w4⟩ := DataW.trod_int Tryz.underlying3 (g4.trans rfl)
      simp only [List.cons.injEq, and_true] at c4
      subst c4
      obtain ⟨i5, c5, _, w5⟩ := DataW.trod_int Tryz.underlying3 (g5.trans rfl)
      simp only [List.cons.injEq, and_true] at c5
      subst c5
      obtain ⟨i6, c6, _, w6⟩ := DataW.trod_int Tryz.underlying3 (g6.trans rfl)
      simp only [List.cons.injEq, and_true] at c6
      subst c6
      obtain ⟨i7, c7, _, w7⟩ := DataW.trod_int Tryz.underlying3 (g7.trans rfl)
      simp only [List.cons.injEq, and_true] at c7
      subst c7
      refine ⟨fun j => match j with | 0 => i0 | 1 => i1 | 2 => i2 | 3 => i3 | 4 => i4 | 5 => i5 | 6 => i6 | _ => i7, rfl, fun i hi => ?_⟩
      match i, hi with
      | 0, _ => exact w0
      | 1, _ => exact w1
      | 2, _ => exact w2
      | 3, _ => exact w3
      | 4, _ => exact w4
      | 5, _ => exact w5
      | 6, _ => exact w6
      | 7, _ => exact w7
theorem a8_stay {t : TypeId} (hr : Tryz.prog.readableRec t = true) (ht : t < Tryz.prog.types.size) {w W' : World} {v : Value} {d : DataW H} {p : List MemPlace} (h : DataW.Trod enc Tryz.prog w 0 (fun _ => true) true t v d p) (hb : Below w.heap.size w W') {sp : Nat → Bool} (hs : ∀ q ∈ p, sp q.block = true) :
    DataW.Trod enc Tryz.prog W' 0 sp true t v d p := by
  refine WideElems.Trod_stays (by kernel_rfl) hr ht h (fun x hx => hb.same ?_) hs
  obtain ⟨n, hn⟩ := h
  exact DataW.trod_lt n _ _ _ hn x hx
/-- An array of eight ints as an argument. -/
theorem a8_arg {r : Reach} {b0 : Nat} {w : World} {v : Value} {d : DataW H} {p : List MemPlace} (hv : Value.okWide Tryz.prog w r b0 22 v) (hd : DataW.Trod enc Tryz.prog w 0 (fun _ => true) true 22 v d p) :
    ∃ f : Nat → Int, v = arr8 f ∧ (∀ i, i < 8 → (Lit.int .i64 (f i)).wf = true) ∧ ∀ W', Below w.heap.size w W' → ∀ sp : Nat → Bool, (∀ x ∈ p, sp x.block = true) → DataW.Trod enc Tryz.prog W' 0 sp true 22 v d p := by
  have ST := fun W' (hb : Below w.heap.size w W') (sp : Nat → Bool) (hs : ∀ q ∈ p, sp q.block = true) => a8_stay (t := 22) (by kernel_rfl) (of_decide_eq_true (by kernel_rfl)) hd hb (sp := sp) hs
  have hx : ∃ cs : Array Value, v = .agg cs := by
    simp only [Value.okWide, Tryz.underlying22] at hv
    obtain ⟨cs, h1, h2, _⟩ := hv
    exact ⟨cs, h1⟩
  obtain ⟨cs, rfl⟩ := hx
  obtain ⟨fuel, hf⟩ := hd
  obtain ⟨f, hq, hw⟩ := a8_open hf
  refine ⟨f, ?_, hw, ST⟩
  have e : cs.toList = list8 f := hq
  have : cs = (list8 f).toArray := by rw [← e, Array.toArray_toList]
  rw [this]
  rfl
end
end Go.Proofs.YtchfkncbemjepaaGreat
