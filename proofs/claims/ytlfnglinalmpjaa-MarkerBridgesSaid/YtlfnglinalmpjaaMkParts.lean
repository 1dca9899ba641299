/- Layer 8: an argument that is a list of parts (a struct of a bool, two lists of numbers and a number): opened, and shut again. -/
import Derived.Test.YtlfnglinalmpjaaMkSame
import Derived.Lib.SmallJoins
import Derived.Carry
namespace Go.Proofs.Ytlfnglinalmpjaa
open Go.ChangeShapes Go.WideShapes Go.ChangeAt Go.RowKit Go.Deep
set_option linter.unusedVariables false

/-- A part. -/
structure PartV where
  plain : Bool
  vals : List Int
  va : Option Addr
  vc : Nat
  wrg : List Int
  wa : Option Addr
  wc : Nat
  cut : Int
instance : Inhabited PartV := ⟨⟨false, [], none, 0, [], none, 0, 0⟩⟩
/-- What it says of memory. -/
def PartR (w : World) (x : PartV) : Prop := (Ints w x.va x.vals ∧ x.vals.length ≤ x.vc ∧ x.vc ≤ maxLen ∧ ∀ z ∈ x.vals, (Lit.int .i64 z).wf = true) ∧ (Ints w x.wa x.wrg ∧ x.wrg.length ≤ x.wc ∧ x.wc ≤ maxLen ∧ ∀ z ∈ x.wrg, (Lit.int .i64 z).wf = true) ∧ (Lit.int .i64 x.cut).wf = true
theorem PartR.below {w w' : World} {x : PartV} (h : PartR w x) (hb : Below w.heap.size w w') : PartR w' x := ⟨⟨h.1.1.below hb, h.1.2⟩, ⟨h.2.1.1.below hb, h.2.1.2⟩, h.2.2⟩
/-- Its cells. -/
def partC (x : PartV) : List Value := [.bool x.plain, .slice x.va x.vals.length x.vc, .slice x.wa x.wrg.length x.wc, .int .i64 x.cut]
/-- The slice at a reads as these parts. -/
def Parts (w : World) (a : Option Addr) (l : List PartV) : Prop := l = [] ∨ ∃ B off, a = some ⟨B, off, none⟩ ∧ B < w.heap.size ∧ ∀ i x, l[i]? = some x → (∀ j u, (partC x)[j]? = some u → w.cell? ⟨B, off + i * 4 + j, none⟩ = some u) ∧ PartR w x
theorem Parts.below {w w' : World} {a : Option Addr} {l : List PartV} (h : Parts w a l) (hb : Below w.heap.size w w') : Parts w' a l := by
  rcases h with h | ⟨B, off, e, hl, hc⟩
  · exact .inl h
  · exact .inr ⟨B, off, e, Nat.lt_of_lt_of_le hl hb.size, fun i x hx => ⟨fun j u hu => (hb.cell (p := ⟨B, off + i * 4 + j, none⟩) hl).trans ((hc i x hx).1 j u hu), (hc i x hx).2.below hb⟩⟩
theorem cells_part : Try.prog.cellsOf 70 = 4 := by kernel_rfl
theorem under_part : ∃ f0 f1 f2 f3 : Field, Try.prog.underlying 70 = some (.struct #[f0, f1, f2, f3]) ∧ oneCellFields Try.prog #[f0, f1, f2, f3] = true ∧ f0.type = 4 ∧ f1.type = 29 ∧ f2.type = 29 ∧ f3.type = 3 :=
  ⟨_, _, _, _, Try.underlying70, by kernel_rfl, rfl, rfl, rfl, rfl⟩
theorem addr_eta (a : Addr) (h : a.spot = none) : a = ⟨a.block, a.off, none⟩ := by
  cases a
  cases h
  rfl
theorem cells_int : Try.prog.cellsOf 3 = 1 := by kernel_rfl
section
variable {H : Type} {enc : TypeId × Value → H}
theorem field_ints {w : World} {n : Nat} {c : Value} {y : DataW H × List MemPlace} (h : DataW.trod enc Try.prog w 0 (fun _ => true) true n 29 [c] = some y) :
    ∃ ao cap xs, c = .slice ao xs.length cap ∧ Ints w ao xs ∧ xs.length ≤ cap ∧ cap ≤ maxLen ∧ ∀ z ∈ xs, (Lit.int .i64 z).wf = true := by
  have hc : ∃ a l k, c = .slice a l k := by
    rcases ChangeShapes.open_ints Try.underlying29 Try.underlying3 cells_int h with ⟨h1, _⟩ | ⟨a, len, cap, zs, h1, _⟩
    · simp only [List.cons.injEq, and_true] at h1
      exact ⟨_, _, _, h1⟩
    · simp only [List.cons.injEq, and_true] at h1
      exact ⟨_, _, _, h1⟩
  obtain ⟨a, l, k, rfl⟩ := hc
  obtain ⟨d, p⟩ := y
  obtain ⟨xs, ⟨ao, cap, e, h1, h2, h3⟩, h4, _⟩ := slice_arg (P := Try.prog) (enc := enc) (k := .i64) Try.underlying29 Try.underlying3 cells_int (v := .slice a l k) rfl ⟨n, h⟩
  exact ⟨ao, cap, xs, e, h3, h1, h2, h4⟩
theorem part_cells {w : World} {n : Nat} {cs : List Value} {y : DataW H × List MemPlace} (h : DataW.trod enc Try.prog w 0 (fun _ => true) true n 70 cs = some y) : ∃ x : PartV, cs = partC x ∧ PartR w x := by
  obtain ⟨f0, f1, f2, f3, uS, uO, e0, e1, e2, e3⟩ := under_part
  obtain ⟨o0, k0⟩ := hone_of uO 0 f0 rfl
  obtain ⟨o1, k1⟩ := hone_of uO 1 f1 rfl
  obtain ⟨o2, k2⟩ := hone_of uO 2 f2 rfl
  obtain ⟨o3, k3⟩ := hone_of uO 3 f3 rfl
  obtain ⟨y0, y1, y2, y3, n, rfl, hl, h0, h1, h2, h3⟩ := Joins.trod_struct4 uS h
  rw [cells_part] at hl
  match cs, hl with
  | [v0, v1, v2, v3], _ =>
    rw [o0, k0, e0] at h0
    rw [o1, k1, e1] at h1
    rw [o2, k2, e2] at h2
    rw [o3, k3, e3] at h3
    simp only [List.drop_zero, List.drop_succ_cons, List.take_succ_cons, List.take_zero] at h0 h1 h2 h3
    obtain ⟨b, c0, rfl⟩ := DataW.trod_bool Try.underlying4 h0
    obtain ⟨va, vc, vs, rfl, i1, l1, m1, w1⟩ := field_ints h1
    obtain ⟨wa, wc, ws, rfl, i2, l2, m2, w2⟩ := field_ints h2
    obtain ⟨c, c3, rfl, g3⟩ := DataW.trod_int Try.underlying3 h3
    simp only [List.cons.injEq, and_true] at c0 c3
    subst c0 c3
    exact ⟨⟨b, vs, va, vc, ws, wa, wc, c⟩, rfl, ⟨i1, l1, m1, w1⟩, ⟨i2, l2, m2, w2⟩, g3⟩
/-- A datum that lay in memory lies there still, whatever is new. -/
theorem trod_stay {t : TypeId} (hr : Try.prog.readableRec t = true) (ht : t < Try.prog.types.size) {w W' : World} {v : Value} {d : DataW H} {p : List MemPlace} (h : DataW.Trod enc Try.prog w 0 (fun _ => true) true t v d p) (hb : Below w.heap.size w W') {sp : Nat → Bool} (hs : ∀ q ∈ p, sp q.block = true) :
    DataW.Trod enc Try.prog W' 0 sp true t v d p := by
  refine WideElems.Trod_stays (by kernel_rfl) hr ht h (fun x hx => hb.same ?_) hs
  obtain ⟨n, hn⟩ := h
  exact DataW.trod_lt n _ _ _ hn x hx
theorem parts_arg {w : World} {v : Value} {d : DataW H} {p : List MemPlace} (hv : v.cells.toList = [v]) (hd : DataW.Trod enc Try.prog w 0 (fun _ => true) true 28 v d p) :
    ∃ a l cap, v = .slice a l.length cap ∧ l.length ≤ cap ∧ cap ≤ maxLen ∧ Parts w a l ∧ ∀ W', Below w.heap.size w W' → ∀ sp : Nat → Bool, (∀ q ∈ p, sp q.block = true) → DataW.Trod enc Try.prog W' 0 sp true 28 v d p := by
  have ST := fun W' (hb : Below w.heap.size w W') (sp : Nat → Bool) (hs : ∀ q ∈ p, sp q.block = true) => trod_stay (t := 28) (by kernel_rfl) (of_decide_eq_true (by kernel_rfl)) hd hb (sp := sp) hs
  obtain ⟨fuel, hf⟩ := hd
  rw [hv] at hf
  rcases open_slice Try.underlying28 hf with ⟨h1, h2⟩ | ⟨a, len, cap, m, n, D, Pl, h1, hb, hl, hm, hmm, hx, hel⟩
  · simp only [List.cons.injEq, and_true] at h1
    subst h1
    exact ⟨none, [], 0, rfl, Nat.le_refl _, by unfold maxLen; omega, .inl rfl, ST⟩
  · simp only [List.cons.injEq, and_true] at h1
    subst h1
    obtain rfl : m = cap := by simpa using hmm
    rw [cells_part] at hel
    obtain ⟨q, hq⟩ := choose_lt (α := PartV) (p := fun i q => w.cells? 0 (a.add (i * 4)) 4 = some (partC q) ∧ PartR w q) (fun i hi => by
      obtain ⟨cs', g1, g2⟩ := hel i hi
      obtain ⟨x, rfl, hr⟩ := part_cells g2
      exact ⟨x, g1, hr⟩)
    refine ⟨some a, (List.range len).map q, m, by simp, by simpa using hl, hm, ?_, ST⟩
    rcases Nat.eq_zero_or_pos len with h0 | h0
    · exact .inl (by rw [h0]; rfl)
    · have base : a.block < w.heap.size ∧ a.spot = none := by
        obtain ⟨_, _, hat⟩ := World.cells?_some (hq 0 (by omega)).1
        have h0' := hat 0 (by omega)
        rw [Go.Deep.add_add] at h0'
        have h5 := World.block_lt_of_cell? w _ (show w.cell? (a.add (0 * 4 + 0)) = some (.bool (q 0).plain) from h0')
        rw [ChangeShapes.block_add] at h5
        exact ⟨h5, World.cell?_spot (a := a) (show w.cell? (a.add 0) = some (.bool (q 0).plain) from h0')⟩
      refine .inr ⟨a.block, a.off, congrArg some (addr_eta a base.2), base.1, fun i x hx => ?_⟩
      have hi : i < len := by
        have := (List.getElem?_eq_some_iff.1 hx).1
        simpa using this
      rw [List.getElem?_map, List.getElem?_range hi] at hx
      simp only [Option.map_some, Option.some.injEq] at hx
      subst hx
      obtain ⟨g1, g2⟩ := hq i (by omega)
      refine ⟨fun j u hu => ?_, g2⟩
      obtain ⟨_, _, hat⟩ := World.cells?_some g1
      have hj : j < 4 := by
        have := (List.getElem?_eq_some_iff.1 hu).1
        exact this
      have hj' := hat j hj
      rw [Go.Deep.add_add, hu] at hj'
      rw [← hj']
      have e := addr_eta a base.2
      rw [show a.add (i * 4 + j) = (⟨a.block, a.off, none⟩ : Addr).add (i * 4 + j) by rw [← e], add_off, Nat.add_assoc]
end
end Go.Proofs.Ytlfnglinalmpjaa
