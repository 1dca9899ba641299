/- IntsKit -/
import Derived.Test.YtgcjfiablcjfgaaTyKit
import Derived.Laws.Cover3
/- Slices of numbers: as what they are read, lent and compared by the check kit, and as arguments. -/
namespace Go.Proofs.Ytgcjfiablcjfgaa
open Go.ChangeShapes Go.WideShapes Go.ChangeAt Go.RowKit
set_option linter.unusedVariables false

/-- The slice at a reads as these numbers. -/
def Ints (w : World) (a : Option Addr) (zs : List Int) : Prop := zs = [] ∨ ∃ b off, a = some ⟨b, off, none⟩ ∧ b < w.heap.size ∧ ∀ j, j < zs.length → w.cell? ⟨b, off + j, none⟩ = some (.int .i64 (zs.getD j 0))
theorem getD_at (zs : List Int) {k : Nat} (h : k < zs.length) : zs.getD k 0 = zs[k] := by simp [List.getD, List.getElem?_eq_getElem h]
theorem Ints.below {w w' : World} {a : Option Addr} {zs : List Int} (h : Ints w a zs) (hb : Below w.heap.size w w') : Ints w' a zs := by
  rcases h with h | ⟨b, off, rfl, hl, hc⟩
  · exact .inl h
  · exact .inr ⟨b, off, rfl, Nat.lt_of_lt_of_le hl hb.size, fun j hj => (hb.cell (p := ⟨b, off + j, none⟩) hl).trans (hc j hj)⟩
theorem Ints.cell {w : World} {a : Option Addr} {zs : List Int} (h : Ints w a zs) (hn : 0 < zs.length) : ∃ b off, a = some ⟨b, off, none⟩ ∧ b < w.heap.size ∧ ∀ j, j < zs.length → w.cell? ⟨b, off + j, none⟩ = some (.int .i64 (zs.getD j 0)) := by
  rcases h with rfl | h
  · simp at hn
  · exact h
theorem ints_of_own {w : World} {base e : Nat} {a : Option Addr} {n cap : Nat} {zs : List Int} (h : w.ownsRow base e 1 (.slice a n cap) n (zs.map (Value.int .i64))) : Ints w a zs ∧ n = zs.length ∧ n ≤ cap := by
  obtain ⟨hl, h⟩ := h
  have hn : n = zs.length := by simpa using hl.symm
  rcases h with ⟨hv, h0⟩ | ⟨g, c, cur, hv, hb, hg, hnc, hm, hsz, ht⟩
  · simp only [Value.slice.injEq] at hv
    exact ⟨.inl (List.eq_nil_of_length_eq_zero (by omega)), hn, by omega⟩
  · simp only [Value.slice.injEq] at hv
    obtain ⟨rfl, _, rfl⟩ := hv
    refine ⟨.inr ⟨g, 0, rfl, (Array.getElem?_eq_some_iff.1 hg).1, fun j hj => ?_⟩, hn, hnc⟩
    have e1 : w.cell? ⟨g, 0 + j, none⟩ = cur[j]? := by
      unfold World.cell?
      rw [hg]
      simp
    have e2 : (cur.toList.take (n * 1))[j]? = cur[j]? := by
      rw [List.getElem?_take_of_lt (by omega)]
      simp
    rw [e1, ← e2, ht, List.getElem?_map]
    simp [List.getD, List.getElem?_eq_getElem hj]
theorem add_addr2 (b off j : Nat) : (⟨b, off, none⟩ : Addr).add j = ⟨b, off + j, none⟩ := by unfold Addr.add; split <;> simp_all
theorem ints_add {w : World} {b off : Nat} {zs : List Int} (hc : ∀ j, j < zs.length → w.cell? ⟨b, off + j, none⟩ = some (.int .i64 (zs.getD j 0))) :
    ∀ b', some (⟨b, off, none⟩ : Addr) = some b' → ∀ j u, (zs.map (Value.int .i64))[j]? = some u → w.cell? (b'.add j) = some u := by
  intro b' e j u hu
  cases e
  have hj : j < zs.length := by
    have := (List.getElem?_eq_some_iff.1 hu).1
    simpa using this
  rw [add_addr2, hc j hj]
  rw [List.getElem?_map, List.getElem?_eq_getElem hj] at hu
  simp [List.getD, List.getElem?_eq_getElem hj]
  simpa using hu

/-- A lent list: a copy of zs in the block g, and the mark behind it. -/
def Lent (w : World) (g : Nat) (zs : List Int) : Prop := g < w.heap.size ∧ ∀ j, j < zs.length + 1 → w.cell? ⟨g, j, none⟩ = some (.int .i64 ((zs ++ [-77177]).getD j 0))
theorem Lent.below {w w' : World} {g : Nat} {zs : List Int} (h : Lent w g zs) (hb : Below w.heap.size w w') : Lent w' g zs :=
  ⟨Nat.lt_of_lt_of_le h.1 hb.size, fun j hj => (hb.cell (p := ⟨g, j, none⟩) h.1).trans (h.2 j hj)⟩
theorem Lent.reads {w : World} {g : Nat} {zs : List Int} (h : Lent w g zs) : Ints w (some ⟨g, 0, none⟩) zs :=
  .inr ⟨g, 0, rfl, h.1, fun j hj => by
    rw [Nat.zero_add, h.2 j (by omega)]
    simp [List.getD, List.getElem?_append_left hj]⟩
theorem Lent.mark {w : World} {g : Nat} {zs : List Int} (h : Lent w g zs) : w.cell? ⟨g, zs.length, none⟩ = some (.int .i64 (-77177)) := by
  rw [h.2 zs.length (by omega)]
  simp [List.getD]
theorem ints_cells {w : World} {ao : Option Addr} {zs : List Int} (h : Ints w ao zs) : ∀ ad, ao = some ad → ∀ j u, (zs.map (Value.int .i64))[j]? = some u → w.cell? (ad.add j) = some u := by
  intro ad had j u hu
  rcases h with rfl | ⟨b, off, rfl, hl, hc⟩
  · simp at hu
  · exact ints_add hc ad had j u hu
theorem lent_own {w : World} {base e g cap n : Nat} {zs : List Int} (hn : zs.length = n) (h : w.ownsRow base e 1 (.slice (some ⟨g, 0, none⟩) (n + 1) cap) (n + 1) ((zs ++ [-77177]).map (Value.int .i64))) : Lent w g zs := by
  obtain ⟨r, _, _⟩ := ints_of_own h
  rcases r with h0 | ⟨b, off, e, hl, hc⟩
  · simp at h0
  · simp only [Option.some.injEq, Addr.mk.injEq] at e
    obtain ⟨rfl, rfl, _⟩ := e
    exact ⟨hl, fun j hj => by
      have := hc j (by simpa using hj)
      rw [Nat.zero_add] at this
      exact this⟩

theorem eql_nil (w : World) (a : Option Addr) (n c : Nat) : (binOp .eql 41 (.slice a n c) (.slice none 0 0)).run Try.prog w = .ok (.bool a.isNone) w := by
  simp [binOp, run_equal_slice_nil w 41 3 a n c Try.underlying41]




/-- A slice that reads as numbers of a kind (Ints for the kind int). -/
def Reads (k : IntKind) (w : World) (a : Option Addr) (zs : List Int) : Prop := zs = [] ∨ ∃ b off, a = some ⟨b, off, none⟩ ∧ b < w.heap.size ∧ ∀ j, j < zs.length → w.cell? ⟨b, off + j, none⟩ = some (.int k (zs.getD j 0))
section
variable {H : Type} {enc : TypeId × Value → H} {P : Program}
/-- An argument v that is a slice of integers of the kind k: xs are its elements. -/
def SliceArg (enc : TypeId × Value → H) (P : Program) (k : IntKind) (t : TypeId) (w : World) (v : Value) (d : DataW H) (p : List MemPlace) (xs : List Int) : Prop :=
  (∃ ao cap, v = .slice ao xs.length cap ∧ xs.length ≤ cap ∧ cap ≤ maxLen ∧ Reads k w ao xs) ∧ (∀ n ∈ xs, (Lit.int k n).wf = true) ∧
    ∀ W', Below w.heap.size w W' → ∀ sp : Nat → Bool, (∀ q ∈ p, sp q.block = true) → DataW.Trod enc P W' 0 sp true t v d p
theorem slice_arg {k : IntKind} {t e : TypeId} {w : World} {v : Value} {d : DataW H} {p : List MemPlace} (ht : P.underlying t = some (.slice e)) (he : P.underlying e = some (.int k)) (hc : P.cellsOf e = 1)
    (hv : v.cells.toList = [v]) (hd : DataW.Trod enc P w 0 (fun _ => true) true t v d p) : ∃ xs, SliceArg enc P k t w v d p xs := by
  obtain ⟨fuel, hf⟩ := hd
  rw [hv] at hf
  rcases ChangeShapes.open_ints ht he hc hf with ⟨h1, h2⟩ | ⟨a, len, cap, zs, h1, hb, hl, hm, hz, hx, hcell, hw⟩
  · simp only [List.cons.injEq, and_true] at h1
    subst h1
    simp only [Prod.mk.injEq] at h2
    obtain ⟨rfl, rfl⟩ := h2
    refine ⟨[], ⟨none, 0, rfl, Nat.le_refl _, by unfold maxLen; omega, .inl rfl⟩, by simp, fun W' _ sp _ => ⟨1, ?_⟩⟩
    simp [DataW.trod, Value.cells, ht]
  · simp only [List.cons.injEq, and_true] at h1
    subst h1
    simp only [Prod.mk.injEq] at hx
    obtain ⟨rfl, rfl⟩ := hx
    have hzl : zs.length = cap := by simpa using hz
    have hl' : len ≤ zs.length := by omega
    have hlt : ∀ i, i < zs.length → a.block < w.heap.size ∧ a.spot = none := fun i hi => by
      have h := hcell i hi
      have h2 := World.shape?_of_cell? h
      obtain ⟨_, _, h3, _, h4⟩ := h2
      have h5 := World.block_lt_of_cell? w _ h
      rw [ChangeShapes.block_add] at h5
      refine ⟨h5, ?_⟩
      have h0 := hcell 0 (by omega)
      obtain ⟨_, _, _, _, h6⟩ := World.shape?_of_cell? h0
      simpa [Addr.add] using h6
    have hlen : (zs.take len).length = len := by rw [List.length_take]; omega
    refine ⟨zs.take len, ⟨some a, cap, by rw [hlen], by rw [hlen]; exact hl, hm, ?_⟩, fun n hn => hw n (List.mem_of_mem_take hn), fun W' hB sp hsp => ?_⟩
    · by_cases h0 : len = 0
      · exact .inl (by rw [h0]; rfl)
      · obtain ⟨h5, h6⟩ := hlt 0 (by omega)
        refine .inr ⟨a.block, a.off, by cases a; simp_all, h5, fun j hj => ?_⟩
        have hj' : j < len := by rw [hlen] at hj; exact hj
        have e : (⟨a.block, a.off + j, none⟩ : Addr) = a.add j := by
          have : a = ⟨a.block, a.off, none⟩ := by cases a; simp_all
          rw [this, add_addr2]
        rw [e, hcell j (by omega)]
        simp [List.getD, hj']
    · refine ⟨2, ?_⟩
      show DataW.trod enc P W' 0 sp true 2 t (Value.cells _).toList = _
      rw [hv]
      refine ChangeShapes.shut_ints 0 ht he hc (Nat.zero_le _) hl hm ?_ (fun i hi => ?_) hw
      · by_cases h0 : cap = 0
        · rw [hzl]
          split <;> omega
        · have hin : MemPlace.cell a.block a.off ∈ MemPlace.row a zs.length := by
            unfold MemPlace.row
            exact List.mem_map.2 ⟨0, by simp; omega, by simp⟩
          have := hsp _ hin
          rw [show sp a.block = true from this, if_pos rfl]
          exact hzl
      · rw [hB.cell (by rw [ChangeShapes.block_add]; exact (hlt i hi).1)]
        exact hcell i hi
end
theorem cells_slice (a : Option Addr) (l c : Nat) : (Value.slice a l c).cells.toList = [.slice a l c] := rfl
end Go.Proofs.Ytgcjfiablcjfgaa
