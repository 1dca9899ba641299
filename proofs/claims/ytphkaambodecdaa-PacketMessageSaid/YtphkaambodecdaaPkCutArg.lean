/- An argument that is a Cut (as a packet: a bool, three ints, a string). -/
import Derived.Test.YtphkaambodecdaaPkArg
import Derived.Test.YtphkaambodecdaaPkEq
namespace Go.Proofs.Ytphkaambodecdaa
open Go.ChangeShapes Go.WideShapes Go.ChangeAt Go.RowKit Go.Deep
set_option linter.unusedVariables false
set_option maxRecDepth 100000
section
variable {H : Type} {enc : TypeId × Value → H}
theorem under_cut : ∃ f0 f1 f2 f3 f4 : Field, Try.prog.underlying 35 = some (.struct #[f0, f1, f2, f3, f4]) ∧ oneCellFields Try.prog #[f0, f1, f2, f3, f4] = true ∧ f0.type = 4 ∧ f1.type = 3 ∧ f2.type = 3 ∧ f3.type = 3 ∧ f4.type = 9 :=
  ⟨_, _, _, _, _, Try.underlying35, by kernel_rfl, rfl, rfl, rfl, rfl, rfl⟩
theorem cells_cut : Try.prog.cellsOf 35 = 5 := by kernel_rfl
/-- A cut as an argument. -/
theorem cut_arg {r : Reach} {b0 : Nat} {w : World} {v : Value} {d : DataW H} {p : List MemPlace} (hv : Value.okWide Try.prog w r b0 35 v) (hd : DataW.Trod enc Try.prog w 0 (fun _ => true) true 35 v d p) :
    ∃ q : Pkt, v = pkVal q ∧ PkWf q ∧ ∀ W', Below w.heap.size w W' → ∀ sp : Nat → Bool, (∀ x ∈ p, sp x.block = true) → DataW.Trod enc Try.prog W' 0 sp true 35 v d p := by
  have ST := fun W' (hb : Below w.heap.size w W') (sp : Nat → Bool) (hs : ∀ q ∈ p, sp q.block = true) => pk_stay (t := 35) (by kernel_rfl) (of_decide_eq_true (by kernel_rfl)) hd hb (sp := sp) hs
  obtain ⟨f0, f1, f2, f3, f4, uS, uO, e0, e1, e2, e3, e4⟩ := under_cut
  obtain ⟨cs, rfl, hsz⟩ := okWide_struct uS hv
  obtain ⟨fuel, hf⟩ := hd
  obtain ⟨q, hq, hw⟩ := five_cells uS uO cells_cut e0 e1 e2 e3 e4 hf
  refine ⟨q, ?_, hw, ST⟩
  have e : cs.toList = pkCells q := hq
  have : cs = (pkCells q).toArray := by rw [← e, Array.toArray_toList]
  rw [this]
  rfl
end
theorem box_cut {ev : Operand → Value} {o : Oper} {w : World} {x : Operand} {cmd : Bool} {ap fl ct : Int} {da : ByteArray} (h : o.op = .box 35 x) (hx : ev x = .agg #[.bool cmd, .int .i64 ap, .int .i64 fl, .int .i64 ct, .string da]) : (execOp ev o).run Try.prog w = .ok (.value (.pointer (some ⟨w.heap.size, 0, none⟩))) (w.alloc (.cells #[.bool cmd, .int .i64 ap, .int .i64 fl, .int .i64 ct, .string da] 35)) := by
  simp only [execOp, h, hx]; go_simp
end Go.Proofs.Ytphkaambodecdaa
