/- Arguments of the struct type Change: how they are opened and shut, and what a box that holds one says. -/
import Derived.Test.YtgfjmolihobaeaaRowKit
import Derived.Test.YtgfjmolihobaeaaFldAwake
namespace Go.Proofs.Ytgfjmolihobaeaa
open Go.ChangeShapes Go.WideShapes Go.ChangeAt Go.RowKit
set_option linter.unusedVariables false

/-- The box at b holds a change. -/
def Chg (w : World) (b : Nat) (s : ByteArray) (p wd v : Int) : Prop :=
  (b < w.heap.size ∧ w.cell? ⟨b, 0, none⟩ = some (.string s)) ∧ w.cell? ⟨b, 1, none⟩ = some (.int .i64 p) ∧ w.cell? ⟨b, 2, none⟩ = some (.int .i64 wd) ∧ w.cell? ⟨b, 3, none⟩ = some (.int .u64 v)
theorem Chg.below {w w' : World} {b : Nat} {s : ByteArray} {p wd v : Int} (h : Chg w b s p wd v) (hb : Below w.heap.size w w') : Chg w' b s p wd v :=
  ⟨⟨Nat.lt_of_lt_of_le h.1.1 hb.size, (hb.cell (p := ⟨b, 0, none⟩) h.1.1).trans h.1.2⟩, (hb.cell (p := ⟨b, 1, none⟩) h.1.1).trans h.2.1, (hb.cell (p := ⟨b, 2, none⟩) h.1.1).trans h.2.2.1, (hb.cell (p := ⟨b, 3, none⟩) h.1.1).trans h.2.2.2⟩
theorem Chg.new (w : World) (s : ByteArray) (p wd v : Int) (t : TypeId) : Chg (w.alloc (.cells #[.string s, .int .i64 p, .int .i64 wd, .int .u64 v] t)) w.heap.size s p wd v :=
  ⟨⟨by simp, cellAt _ _ _ _ _ rfl⟩, cellAt _ _ _ _ _ rfl, cellAt _ _ _ _ _ rfl, cellAt _ _ _ _ _ rfl⟩
theorem cells_chg : Try.prog.cellsOf 31 = 4 := by kernel_rfl
theorem under_chg : ∃ f0 f1 f2 f3 : Field, Try.prog.underlying 31 = some (.struct #[f0, f1, f2, f3]) ∧ Go.Deep.oneCellFields Try.prog #[f0, f1, f2, f3] = true ∧ f0.type = 9 ∧ f1.type = 3 ∧ f2.type = 3 ∧ f3.type = 23 :=
  ⟨_, _, _, _, Try.underlying31, by kernel_rfl, rfl, rfl, rfl, rfl⟩
section
variable {H : Type} {enc : TypeId × Value → H}
def chgD (H : Type) (s : ByteArray) (p wd v : Int) : DataW H := .agg [.lit (.string s.data.toList), .lit (.int .i64 p), .lit (.int .i64 wd), .lit (.int .u64 v)]
theorem shut_chg {w : World} {base : Nat} {sp : Nat → Bool} {held : Bool} {s : ByteArray} {p wd v : Int} (hs : s.size ≤ maxLen) (hp : (Lit.int .i64 p).wf = true) (hw : (Lit.int .i64 wd).wf = true) (hv : (Lit.int .u64 v).wf = true) :
    DataW.Trod enc Try.prog w base sp held 31 (.agg #[.string s, .int .i64 p, .int .i64 wd, .int .u64 v]) (chgD H s p wd v) [] := by
  obtain ⟨f0, f1, f2, f3, uS, uO, e0, e1, e2, e3⟩ := under_chg
  exact Joins.shut_agg4 (y0 := (.lit (.string s.data.toList), [])) (y1 := (.lit (.int .i64 p), [])) (y2 := (.lit (.int .i64 wd), [])) (y3 := (.lit (.int .u64 v), [])) uS uO cells_chg
    (by rw [e0]; exact Joins.field_of_Trod (ChangeMaps.shut_string Try.underlying9 hs) rfl) (by rw [e1]; exact Joins.field_of_Trod (shut_int Try.underlying3 hp) rfl)
    (by rw [e2]; exact Joins.field_of_Trod (shut_int Try.underlying3 hw) rfl) (by rw [e3]; exact Joins.field_of_Trod (shut_int Try.underlying23 hv) rfl)
theorem open_chg {w : World} {r : Reach} {b0 base : Nat} {sp : Nat → Bool} {held : Bool} {x : Value} {d : DataW H} {ps : List MemPlace} (hval : Value.okWide Try.prog w r b0 31 x) (hd : DataW.Trod enc Try.prog w base sp held 31 x d ps) :
    ∃ (s : ByteArray) (p wd v : Int), x = .agg #[.string s, .int .i64 p, .int .i64 wd, .int .u64 v] ∧ d = chgD H s p wd v ∧ ps = [] ∧ s.size ≤ maxLen ∧ (Lit.int .i64 p).wf = true ∧ (Lit.int .i64 wd).wf = true ∧ (Lit.int .u64 v).wf = true := by
  obtain ⟨f0, f1, f2, f3, uS, uO, e0, e1, e2, e3⟩ := under_chg
  obtain ⟨g0, g1, g2, g3, y0, y1, y2, y3, n, rfl, rfl, rfl, t0, t1, t2, t3⟩ := Joins.open_agg4 uS uO cells_chg hval hd
  rw [e0] at t0
  rw [e1] at t1
  rw [e2] at t2
  rw [e3] at t3
  obtain ⟨s, c0, rfl, k0⟩ := DataW.trod_string Try.underlying9 t0
  obtain ⟨p, c1, rfl, k1⟩ := DataW.trod_int Try.underlying3 t1
  obtain ⟨wd, c2, rfl, k2⟩ := DataW.trod_int Try.underlying3 t2
  obtain ⟨v, c3, rfl, k3⟩ := DataW.trod_int Try.underlying23 t3
  simp only [List.cons.injEq, and_true] at c0 c1 c2 c3
  subst c0 c1 c2 c3
  exact ⟨s, p, wd, v, rfl, rfl, rfl, k0, k1, k2, k3⟩
end
end Go.Proofs.Ytgfjmolihobaeaa
