/- Layer 8: an argument that is a list of lists of numbers: opened, and shut again; a list of rows of one's own. -/
import Derived.Test.YtlfnglinalmpjaaMkParts
namespace Go.Proofs.Ytlfnglinalmpjaa
open Go.ChangeShapes Go.WideShapes Go.ChangeAt Go.RowKit Go.Deep
set_option linter.unusedVariables false

/-- A row. -/
structure RowV where
  vals : List Int
  va : Option Addr
  vc : Nat
instance : Inhabited RowV := ⟨⟨[], none, 0⟩⟩
def RowR (w : World) (x : RowV) : Prop := Ints w x.va x.vals ∧ x.vals.length ≤ x.vc ∧ x.vc ≤ maxLen ∧ ∀ z ∈ x.vals, (Lit.int .i64 z).wf = true
theorem RowR.below {w w' : World} {x : RowV} (h : RowR w x) (hb : Below w.heap.size w w') : RowR w' x := ⟨h.1.below hb, h.2⟩
/-- The slice at a reads as these rows. -/
def RowL (w : World) (a : Option Addr) (l : List RowV) : Prop := l = [] ∨ ∃ B off, a = some ⟨B, off, none⟩ ∧ B < w.heap.size ∧ ∀ i x, l[i]? = some x → w.cell? ⟨B, off + i, none⟩ = some (.slice x.va x.vals.length x.vc) ∧ RowR w x
theorem RowL.below {w w' : World} {a : Option Addr} {l : List RowV} (h : RowL w a l) (hb : Below w.heap.size w w') : RowL w' a l := by
  rcases h with h | ⟨B, off, e, hl, hc⟩
  · exact .inl h
  · exact .inr ⟨B, off, e, Nat.lt_of_lt_of_le hl hb.size, fun i x hx => ⟨(hb.cell (p := ⟨B, off + i, none⟩) hl).trans (hc i x hx).1, (hc i x hx).2.below hb⟩⟩
theorem cells_row : Try.prog.cellsOf 29 = 1 := by kernel_rfl
section
variable {H : Type} {enc : TypeId × Value → H}
theorem rows_arg {w : World} {v : Value} {d : DataW H} {p : List MemPlace} (hv : v.cells.toList = [v]) (hd : DataW.Trod enc Try.prog w 0 (fun _ => true) true 51 v d p) :
    ∃ a l cap, v = .slice a l.length cap ∧ l.length ≤ cap ∧ cap ≤ maxLen ∧ RowL w a l ∧ ∀ W', Below w.heap.size w W' → ∀ sp : Nat → Bool, (∀ q ∈ p, sp q.block = true) → DataW.Trod enc Try.prog W' 0 sp true 51 v d p := by
  have ST := fun W' (hb : Below w.heap.size w W') (sp : Nat → Bool) (hs : ∀ q ∈ p, sp q.block = true) => trod_stay (t := 51) (by kernel_rfl) (of_decide_eq_true (by kernel_rfl)) hd hb (sp := sp) hs
  obtain ⟨fuel, hf⟩ := hd
  rw [hv] at hf
  rcases open_slice Try.underlying51 hf with ⟨h1, h2⟩ | ⟨a, len, cap, m, n, D, Pl, h1, hb, hl, hm, hmm, hx, hel⟩
  · simp only [List.cons.injEq, and_true] at h1
    subst h1
    exact ⟨none, [], 0, rfl, Nat.le_refl _, by unfold maxLen; omega, .inl rfl, ST⟩
  · simp only [List.cons.injEq, and_true] at h1
    subst h1
    obtain rfl : m = cap := by simpa using hmm
    rw [cells_row] at hel
    obtain ⟨q, hq⟩ := choose_lt (α := RowV) (p := fun i q => w.cells? 0 (a.add (i * 1)) 1 = some [.slice q.va q.vals.length q.vc] ∧ RowR w q) (fun i hi => by
      obtain ⟨cs', g1, g2⟩ := hel i hi
      obtain ⟨h3, _, _⟩ := World.cells?_some g1
      obtain ⟨c, rfl⟩ : ∃ c, cs' = [c] := by
        match cs', h3 with
        | [c], _ => exact ⟨c, rfl⟩
      obtain ⟨ao, k, xs, rfl, r1, r2, r3, r4⟩ := field_ints g2
      exact ⟨⟨xs, ao, k⟩, g1, r1, r2, r3, r4⟩)
    refine ⟨some a, (List.range len).map q, m, by simp, by simpa using hl, hm, ?_, ST⟩
    rcases Nat.eq_zero_or_pos len with h0 | h0
    · exact .inl (by rw [h0]; rfl)
    · have base : a.block < w.heap.size ∧ a.spot = none := by
        obtain ⟨_, _, hat⟩ := World.cells?_some (hq 0 (by omega)).1
        have h0' := hat 0 (by simp)
        rw [Go.Deep.add_add] at h0'
        have h5 := World.block_lt_of_cell? w _ (show w.cell? (a.add (0 * 1 + 0)) = some (.slice (q 0).va (q 0).vals.length (q 0).vc) from h0')
        rw [ChangeShapes.block_add] at h5
        exact ⟨h5, World.cell?_spot (a := a) (show w.cell? (a.add 0) = some (.slice (q 0).va (q 0).vals.length (q 0).vc) from h0')⟩
      refine .inr ⟨a.block, a.off, congrArg some (addr_eta a base.2), base.1, fun i x hx => ?_⟩
      have hi : i < len := by
        have := (List.getElem?_eq_some_iff.1 hx).1
        simpa using this
      rw [List.getElem?_map, List.getElem?_range hi] at hx
      simp only [Option.map_some, Option.some.injEq] at hx
      subst hx
      obtain ⟨g1, g2⟩ := hq i (by omega)
      refine ⟨?_, g2⟩
      obtain ⟨_, _, hat⟩ := World.cells?_some g1
      have hj' := hat 0 (by simp)
      rw [Go.Deep.add_add] at hj'
      have e := addr_eta a base.2
      rw [show a.add (i * 1 + 0) = (⟨a.block, a.off, none⟩ : Addr).add (i * 1 + 0) by rw [← e], add_off, Nat.mul_one, Nat.add_zero] at hj'
      exact hj'
end
end Go.Proofs.Ytlfnglinalmpjaa
