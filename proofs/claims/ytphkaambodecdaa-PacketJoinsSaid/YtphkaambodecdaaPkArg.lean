/- Layer 9: arguments that are a packet, a struct of the same shape, or a list of packets: opened, and shut again. -/
import Derived.Test.YtphkaambodecdaaPkRef
import Derived.Lib.SmallJoins
import Derived.Carry
namespace Go.Proofs.Ytphkaambodecdaa
open Go.ChangeShapes Go.WideShapes Go.ChangeAt Go.RowKit Go.Deep
set_option linter.unusedVariables false
set_option maxRecDepth 100000

/-- The cells of a packet. -/
def pkCells (q : Pkt) : List Value := [.bool q.cmd, .int .i64 q.ap, .int .i64 q.fl, .int .i64 q.ct, .string q.da]
def PkWf (q : Pkt) : Prop := (Lit.int .i64 q.ap).wf = true ∧ (Lit.int .i64 q.fl).wf = true ∧ (Lit.int .i64 q.ct).wf = true ∧ q.da.size ≤ maxLen
theorem array5 {α : Type} {cs : Array α} (h : cs.size = 5) : ∃ c0 c1 c2 c3 c4, cs = #[c0, c1, c2, c3, c4] := by
  obtain ⟨l⟩ := cs
  match l, h with
  | [c0, c1, c2, c3, c4], _ => exact ⟨c0, c1, c2, c3, c4, rfl⟩
section
variable {H : Type} {enc : TypeId × Value → H}
theorem five_cells {t : TypeId} {f0 f1 f2 f3 f4 : Field} {w : World} {n : Nat} {cs : List Value} {y : DataW H × List MemPlace} (uS : Try.prog.underlying t = some (.struct #[f0, f1, f2, f3, f4])) (uO : oneCellFields Try.prog #[f0, f1, f2, f3, f4] = true) (c5 : Try.prog.cellsOf t = 5)
    (e0 : f0.type = 4) (e1 : f1.type = 3) (e2 : f2.type = 3) (e3 : f3.type = 3) (e4 : f4.type = 9) (h : DataW.trod enc Try.prog w 0 (fun _ => true) true n t cs = some y) : ∃ q : Pkt, cs = pkCells q ∧ PkWf q := by
  obtain ⟨o0, k0⟩ := hone_of uO 0 f0 rfl
  obtain ⟨o1, k1⟩ := hone_of uO 1 f1 rfl
  obtain ⟨o2, k2⟩ := hone_of uO 2 f2 rfl
  obtain ⟨o3, k3⟩ := hone_of uO 3 f3 rfl
  obtain ⟨o4, k4⟩ := hone_of uO 4 f4 rfl
  obtain ⟨xs, m, _, rfl, hl, hlen, hf⟩ := DataW.trod_struct uS h
  rw [c5] at hl
  match xs, hlen with
  | [y0, y1, y2, y3, y4], _ =>
    have h0 := hf 0 f0 rfl
    have h1 := hf 1 f1 rfl
    have h2 := hf 2 f2 rfl
    have h3 := hf 3 f3 rfl
    have h4 := hf 4 f4 rfl
    match cs, hl with
    | [v0, v1, v2, v3, v4], _ =>
      rw [o0, k0, e0] at h0
      rw [o1, k1, e1] at h1
      rw [o2, k2, e2] at h2
      rw [o3, k3, e3] at h3
      rw [o4, k4, e4] at h4
      simp only [List.drop_zero, List.drop_succ_cons, List.take_succ_cons, List.take_zero] at h0 h1 h2 h3 h4
      obtain ⟨b, c0, _⟩ := DataW.trod_bool Try.underlying4 h0
      obtain ⟨i1, c1, _, g1⟩ := DataW.trod_int Try.underlying3 h1
      obtain ⟨i2, c2, _, g2⟩ := DataW.trod_int Try.underlying3 h2
      obtain ⟨i3, c3, _, g3⟩ := DataW.trod_int Try.underlying3 h3
      obtain ⟨s, c4, _, g4⟩ := DataW.trod_string Try.underlying9 h4
      simp only [List.cons.injEq, and_true] at c0 c1 c2 c3 c4
      subst c0 c1 c2 c3 c4
      exact ⟨⟨b, i1, i2, i3, s⟩, rfl, g1, g2, g3, g4⟩
/-- A datum that lay in memory lies there still, whatever is new. -/
theorem pk_stay {t : TypeId} (hr : Try.prog.readableRec t = true) (ht : t < Try.prog.types.size) {w W' : World} {v : Value} {d : DataW H} {p : List MemPlace} (h : DataW.Trod enc Try.prog w 0 (fun _ => true) true t v d p) (hb : Below w.heap.size w W') {sp : Nat → Bool} (hs : ∀ q ∈ p, sp q.block = true) :
    DataW.Trod enc Try.prog W' 0 sp true t v d p := by
  refine WideElems.Trod_stays (by kernel_rfl) hr ht h (fun x hx => hb.same ?_) hs
  obtain ⟨n, hn⟩ := h
  exact DataW.trod_lt n _ _ _ hn x hx
theorem under_packet : ∃ f0 f1 f2 f3 f4 : Field, Try.prog.underlying 23 = some (.struct #[f0, f1, f2, f3, f4]) ∧ oneCellFields Try.prog #[f0, f1, f2, f3, f4] = true ∧ f0.type = 4 ∧ f1.type = 3 ∧ f2.type = 3 ∧ f3.type = 3 ∧ f4.type = 9 :=
  ⟨_, _, _, _, _, Try.underlying23, by kernel_rfl, rfl, rfl, rfl, rfl, rfl⟩
theorem cells_packet : Try.prog.cellsOf 23 = 5 := by kernel_rfl
theorem packet_cells {w : World} {n : Nat} {cs : List Value} {y : DataW H × List MemPlace} (h : DataW.trod enc Try.prog w 0 (fun _ => true) true n 23 cs = some y) : ∃ q : Pkt, cs = pkCells q ∧ PkWf q := by
  obtain ⟨f0, f1, f2, f3, f4, uS, uO, e0, e1, e2, e3, e4⟩ := under_packet
  exact five_cells uS uO cells_packet e0 e1 e2 e3 e4 h
/-- A packet as an argument. -/
theorem packet_arg {r : Reach} {b0 : Nat} {w : World} {v : Value} {d : DataW H} {p : List MemPlace} (hv : Value.okWide Try.prog w r b0 23 v) (hd : DataW.Trod enc Try.prog w 0 (fun _ => true) true 23 v d p) :
    ∃ q : Pkt, v = pkVal q ∧ PkWf q ∧ ∀ W', Below w.heap.size w W' → ∀ sp : Nat → Bool, (∀ x ∈ p, sp x.block = true) → DataW.Trod enc Try.prog W' 0 sp true 23 v d p := by
  have ST := fun W' (hb : Below w.heap.size w W') (sp : Nat → Bool) (hs : ∀ q ∈ p, sp q.block = true) => pk_stay (t := 23) (by kernel_rfl) (of_decide_eq_true (by kernel_rfl)) hd hb (sp := sp) hs
  obtain ⟨f0, f1, f2, f3, f4, uS, _⟩ := under_packet
  obtain ⟨cs, rfl, hsz⟩ := okWide_struct uS hv
  obtain ⟨fuel, hf⟩ := hd
  obtain ⟨q, hq, hw⟩ := packet_cells hf
  refine ⟨q, ?_, hw, ST⟩
  have e : cs.toList = pkCells q := hq
  have : cs = (pkCells q).toArray := by rw [← e, Array.toArray_toList]
  rw [this]
  rfl
end
end Go.Proofs.Ytphkaambodecdaa
