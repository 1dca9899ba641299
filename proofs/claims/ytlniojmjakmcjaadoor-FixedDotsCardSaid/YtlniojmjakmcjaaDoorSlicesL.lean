/- How an argument that is a slice of integers is opened, and shut again in a world in which nothing old has changed. -/
import Derived.Test.YtlniojmjakmcjaaDoorLaid
import Derived.Lib.SmallJoins
namespace Go.Proofs.YtlniojmjakmcjaaDoor
open Go.ChangeShapes Go.WideShapes Go.ChangeAt Go.RowKit
set_option linter.unusedVariables false

theorem add_addr (b off j : Nat) : (⟨b, off, none⟩ : Addr).add j = ⟨b, off + j, none⟩ := by unfold Addr.add; split <;> simp_all
/-- The slice at a reads as the numbers zs. -/
def Reads (k : IntKind) (w : World) (a : Option Addr) (zs : List Int) : Prop := zs = [] ∨ ∃ b off, a = some ⟨b, off, none⟩ ∧ b < w.heap.size ∧ ∀ j, j < zs.length → w.cell? ⟨b, off + j, none⟩ = some (.int k (zs.getD j 0))
theorem Reads.below {k : IntKind} {w w' : World} {a : Option Addr} {zs : List Int} (h : Reads k w a zs) (hb : Below w.heap.size w w') : Reads k w' a zs := by
  rcases h with h | ⟨b, off, rfl, hl, hc⟩
  · exact .inl h
  · exact .inr ⟨b, off, rfl, Nat.lt_of_lt_of_le hl hb.size, fun j hj => (hb.cell (p := ⟨b, off + j, none⟩) hl).trans (hc j hj)⟩
theorem Reads.ints {w : World} {a : Option Addr} {zs : List Int} (h : Reads .i64 w a zs) (hl : zs.length ≤ 9223372036854775807) : Ints w a zs.length zs := by
  refine ⟨rfl, hl, ?_⟩
  rcases h with rfl | ⟨b, off, rfl, _, hc⟩
  · exact .inl rfl
  · exact .inr ⟨b, off, rfl, hc⟩
theorem fits_of {zs : List Int} (wz : ∀ n ∈ zs, (Lit.int .i64 n).wf = true) : ∀ k, k < zs.length → Fix.fits (zs.getD k 0) := by
  intro k hk
  have h : Fix.fits zs[k] := bounds_i64 (wz zs[k] (List.getElem_mem hk))
  have e : zs.getD k 0 = zs[k] := by simp [List.getD, hk]
  rw [e]
  exact h

section
variable {H : Type} {enc : TypeId × Value → H} {P : Program}
/-- An argument v that is a slice of integers of the kind k: xs are its elements. -/
def SliceArg (enc : TypeId × Value → H) (P : Program) (k : IntKind) (t : TypeId) (w : World) (v : Value) (d : DataW H) (p : List MemPlace) (xs : List Int) : Prop :=
  (∃ ao cap, v = .slice ao xs.length cap ∧ xs.length ≤ cap ∧ cap ≤ maxLen ∧ Reads k w ao xs) ∧ (∀ n ∈ xs, (Lit.int k n).wf = true) ∧
    ∀ W', Below w.heap.size w W' → ∀ sp : Nat → Bool, (∀ q ∈ p, sp q.block = true) → DataW.Trod enc P W' 0 sp true t v d p
theorem slice_arg {k : IntKind} {t e : TypeId} {w : World} {v : Value} {d : DataW H} {p : List MemPlace} (ht : P.underlying t = some (.slice e)) (he : P.underlying e = some (.int k)) (hc : P.cellsOf e = 1)
    (hv : v.cells.toList = [v]) (hd : DataW.Trod enc P w 0 (fun _ => true) true t v d p) : ∃ xs, SliceArg enc P k t w v d p xs := by
  obtain ⟨fuel, hf⟩ := hd
  rw [hv] at hf
  rcases ChangeShapes.open_ints ht he hc hf with ⟨h1, h2⟩ | ⟨a, len, cap, zs, h1, hb, hl, hm, hz, hx, hcell, hw⟩
  · simp only [List.cons.injEq, and_true] at h1
    subst h1
    simp only [Prod.mk.injEq] at h2
    obtain ⟨rfl, rfl⟩ := h2
    refine ⟨[], ⟨none, 0, rfl, Nat.le_refl _, by unfold maxLen; omega, .inl rfl⟩, by simp, fun W' _ sp _ => ⟨1, ?_⟩⟩
    simp [DataW.trod, Value.cells, ht]
  · simp only [List.cons.injEq, and_true] at h1
    subst h1
    simp only [Prod.mk.injEq] at hx
    obtain ⟨rfl, rfl⟩ := hx
    have hzl : zs.length = cap := by simpa using hz
    have hl' : len ≤ zs.length := by omega
    have hlt : ∀ i, i < zs.length → a.block < w.heap.size ∧ a.spot = none := fun i hi => by
      have h := hcell i hi
      have h2 := World.shape?_of_cell? h
      obtain ⟨_, _, h3, _, h4⟩ := h2
      have h5 := World.block_lt_of_cell? w _ h
      rw [ChangeShapes.block_add] at h5
      refine ⟨h5, ?_⟩
      have h0 := hcell 0 (by omega)
      obtain ⟨_, _, _, _, h6⟩ := World.shape?_of_cell? h0
      simpa [Addr.add] using h6
    have hlen : (zs.take len).length = len := by rw [List.length_take]; omega
    refine ⟨zs.take len, ⟨some a, cap, by rw [hlen], by rw [hlen]; exact hl, hm, ?_⟩, fun n hn => hw n (List.mem_of_mem_take hn), fun W' hB sp hsp => ?_⟩
    · by_cases h0 : len = 0
      · exact .inl (by rw [h0]; rfl)
      · obtain ⟨h5, h6⟩ := hlt 0 (by omega)
        refine .inr ⟨a.block, a.off, by cases a; simp_all, h5, fun j hj => ?_⟩
        have hj' : j < len := by rw [hlen] at hj; exact hj
        have e : (⟨a.block, a.off + j, none⟩ : Addr) = a.add j := by
          have : a = ⟨a.block, a.off, none⟩ := by cases a; simp_all
          rw [this, add_addr]
        rw [e, hcell j (by omega)]
        simp [List.getD, hj']
    · refine ⟨2, ?_⟩
      show DataW.trod enc P W' 0 sp true 2 t (Value.cells _).toList = _
      rw [hv]
      refine ChangeShapes.shut_ints 0 ht he hc (Nat.zero_le _) hl hm ?_ (fun i hi => ?_) hw
      · by_cases h0 : cap = 0
        · rw [hzl]
          split <;> omega
        · have hin : MemPlace.cell a.block a.off ∈ MemPlace.row a zs.length := by
            unfold MemPlace.row
            exact List.mem_map.2 ⟨0, by simp; omega, by simp⟩
          have := hsp _ hin
          rw [show sp a.block = true from this, if_pos rfl]
          exact hzl
      · rw [hB.cell (by rw [ChangeShapes.block_add]; exact (hlt i hi).1)]
        exact hcell i hi
end
theorem cells_slice (a : Option Addr) (l c : Nat) : (Value.slice a l c).cells.toList = [.slice a l c] := rfl
end Go.Proofs.YtlniojmjakmcjaaDoor
