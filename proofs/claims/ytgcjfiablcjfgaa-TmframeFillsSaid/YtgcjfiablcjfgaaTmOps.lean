/- TmOps -/
import Derived.Test.YtgcjfiablcjfgaaTyKit
import Derived.Laws.StructEq
import Derived.Lib.SmallJoins
import Derived.Carry
/- Layer 10: an argument that is a list of calls of a filler (a number and a string each): opened, and shut again. -/
namespace Go.Proofs.Ytgcjfiablcjfgaa
open Go.ChangeShapes Go.WideShapes Go.ChangeAt Go.RowKit Go.Deep
set_option linter.unusedVariables false
set_option maxRecDepth 100000

structure OpA where
  k : Int
  p : ByteArray
instance opaInh : Inhabited OpA := ⟨⟨0, ⟨#[]⟩⟩⟩
def opCells (q : OpA) : List Value := [.int .i64 q.k, .string q.p]
def opCel (q : OpA) : Nat → Value
  | 0 => .int .i64 q.k
  | _ => .string q.p
def OpWf (q : OpA) : Prop := (Lit.int .i64 q.k).wf = true ∧ q.p.size ≤ maxLen
/-- The slice at a reads as these calls. -/
def Ops (w : World) (a : Option Addr) (l : List OpA) : Prop := l = [] ∨ ∃ B off, a = some ⟨B, off, none⟩ ∧ B < w.heap.size ∧ ∀ i q, l[i]? = some q → (∀ j u, (opCells q)[j]? = some u → w.cell? ⟨B, off + i * 2 + j, none⟩ = some u) ∧ OpWf q
theorem Ops.below {w w' : World} {a : Option Addr} {l : List OpA} (h : Ops w a l) (hb : Below w.heap.size w w') : Ops w' a l := by
  rcases h with h | ⟨B, off, e, hl, hc⟩
  · exact .inl h
  · exact .inr ⟨B, off, e, Nat.lt_of_lt_of_le hl hb.size, fun i x hx => ⟨fun j u hu => (hb.cell (p := ⟨B, off + i * 2 + j, none⟩) hl).trans ((hc i x hx).1 j u hu), (hc i x hx).2⟩⟩
section
variable {H : Type} {enc : TypeId × Value → H}
theorem under_op : ∃ f0 f1 : Field, Try.prog.underlying 52 = some (.struct #[f0, f1]) ∧ oneCellFields Try.prog #[f0, f1] = true ∧ f0.type = 3 ∧ f1.type = 9 :=
  ⟨_, _, Try.underlying52, by kernel_rfl, rfl, rfl⟩
theorem cells_op : Try.prog.cellsOf 52 = 2 := by kernel_rfl
theorem op_cells {w : World} {n : Nat} {cs : List Value} {y : DataW H × List MemPlace} (h : DataW.trod enc Try.prog w 0 (fun _ => true) true n 52 cs = some y) : ∃ q : OpA, cs = opCells q ∧ OpWf q := by
  obtain ⟨f0, f1, uS, uO, e0, e1⟩ := under_op
  obtain ⟨o0, k0⟩ := hone_of uO 0 f0 rfl
  obtain ⟨o1, k1⟩ := hone_of uO 1 f1 rfl
  obtain ⟨xs, m, _, rfl, hl, hlen, hf⟩ := DataW.trod_struct uS h
  rw [cells_op] at hl
  match xs, hlen with
  | [y0, y1], _ =>
    have h0 := hf 0 f0 rfl
    have h1 := hf 1 f1 rfl
    match cs, hl with
    | [v0, v1], _ =>
      rw [o0, k0, e0] at h0
      rw [o1, k1, e1] at h1
      simp only [List.drop_zero, List.drop_succ_cons, List.take_succ_cons, List.take_zero] at h0 h1
      obtain ⟨i0, c0, _, g0⟩ := DataW.trod_int Try.underlying3 h0
      obtain ⟨s, c1, _, g1⟩ := DataW.trod_string Try.underlying9 h1
      simp only [List.cons.injEq, and_true] at c0 c1
      subst c0 c1
      exact ⟨⟨i0, s⟩, rfl, g0, g1⟩
theorem ops_arg {w : World} {v : Value} {d : DataW H} {p : List MemPlace} (hv : v.cells.toList = [v]) (hd : DataW.Trod enc Try.prog w 0 (fun _ => true) true 33 v d p) :
    ∃ a l cap, v = .slice a l.length cap ∧ l.length ≤ cap ∧ cap ≤ maxLen ∧ Ops w a l ∧ ∀ W', Below w.heap.size w W' → ∀ sp : Nat → Bool, (∀ q ∈ p, sp q.block = true) → DataW.Trod enc Try.prog W' 0 sp true 33 v d p := by
  have ST := fun W' (hb : Below w.heap.size w W') (sp : Nat → Bool) (hs : ∀ q ∈ p, sp q.block = true) => pk_stay (t := 33) (by kernel_rfl) (of_decide_eq_true (by kernel_rfl)) hd hb (sp := sp) hs
  obtain ⟨fuel, hf⟩ := hd
  rw [hv] at hf
  rcases open_slice Try.underlying33 hf with ⟨h1, h2⟩ | ⟨a, len, cap, m, n, D, Pl, h1, hb, hl, hm, hmm, hx, hel⟩
  · simp only [List.cons.injEq, and_true] at h1
    subst h1
    exact ⟨none, [], 0, rfl, Nat.le_refl _, by unfold maxLen; omega, .inl rfl, ST⟩
  · simp only [List.cons.injEq, and_true] at h1
    subst h1
    obtain rfl : m = cap := by simpa using hmm
    rw [cells_op] at hel
    obtain ⟨q, hq⟩ := choose_lt (α := OpA) (p := fun i q => w.cells? 0 (a.add (i * 2)) 2 = some (opCells q) ∧ OpWf q) (fun i hi => by
      obtain ⟨cs', g1, g2⟩ := hel i hi
      obtain ⟨x, rfl, hr⟩ := op_cells g2
      exact ⟨x, g1, hr⟩)
    refine ⟨some a, (List.range len).map q, m, by simp, by simpa using hl, hm, ?_, ST⟩
    rcases Nat.eq_zero_or_pos len with h0 | h0
    · exact .inl (by rw [h0]; rfl)
    · have base : a.block < w.heap.size ∧ a.spot = none := by
        obtain ⟨_, _, hat⟩ := World.cells?_some (hq 0 (by omega)).1
        have h0' := hat 0 (by omega)
        rw [Go.Deep.add_add] at h0'
        have h5 := World.block_lt_of_cell? w _ (show w.cell? (a.add (0 * 2 + 0)) = some (.int .i64 (q 0).k) from h0')
        rw [ChangeShapes.block_add] at h5
        exact ⟨h5, World.cell?_spot (a := a) (show w.cell? (a.add 0) = some (.int .i64 (q 0).k) from h0')⟩
      refine .inr ⟨a.block, a.off, congrArg some (addr_eta a base.2), base.1, fun i x hx => ?_⟩
      have hi : i < len := by
        have := (List.getElem?_eq_some_iff.1 hx).1
        simpa using this
      rw [List.getElem?_map, List.getElem?_range hi] at hx
      simp only [Option.map_some, Option.some.injEq] at hx
      subst hx
      obtain ⟨g1, g2⟩ := hq i (by omega)
      refine ⟨fun j u hu => ?_, g2⟩
      obtain ⟨_, _, hat⟩ := World.cells?_some g1
      have hj : j < 2 := by
        have := (List.getElem?_eq_some_iff.1 hu).1
        exact this
      have hj' := hat j hj
      rw [Go.Deep.add_add, hu] at hj'
      rw [← hj']
      have e := addr_eta a base.2
      rw [show a.add (i * 2 + j) = (⟨a.block, a.off, none⟩ : Addr).add (i * 2 + j) by rw [← e], add_off, Nat.add_assoc]
end
end Go.Proofs.Ytgcjfiablcjfgaa
