/- Rows of bytes that are appended to a slice of rows. -/
import Derived.Test.YtlpjhmafplljaaaDoorBlkSolve
namespace Go.Proofs.YtlpjhmafplljaaaDoor
open Go.RowKit
set_option linter.unusedVariables false

theorem own_at {w : World} {base e b n cap : Nat} {xs : List Value} (h : w.ownsRow base e 1 (.slice (some ⟨b, 0, none⟩) n cap) n xs) :
    base ≤ b ∧ b < w.heap.size ∧ (∃ cur, w.heap[b]? = some (.cells cur e (0, 0))) ∧ ∀ j v, xs[j]? = some v → w.cell? ⟨b, j, none⟩ = some v ∧ w.frozen? ⟨b, j, none⟩ = false := by
  obtain ⟨hl, h⟩ := h
  rcases h with ⟨hv, _⟩ | ⟨g, c, cur, hv, hb, hg, hnc, hm, hsz, ht⟩
  · simp at hv
  · simp only [Value.slice.injEq, Option.some.injEq, Addr.mk.injEq] at hv
    obtain ⟨⟨rfl, _, _⟩, _, rfl⟩ := hv
    refine ⟨hb, (Array.getElem?_eq_some_iff.1 hg).1, ⟨cur, hg⟩, fun j v hj => ⟨?_, ?_⟩⟩
    · have e1 : w.cell? ⟨b, j, none⟩ = cur[j]? := by
        unfold World.cell?
        rw [hg]
        simp
      have jn : j < n * 1 := by
        have := (List.getElem?_eq_some_iff.1 hj).1
        omega
      have e2 : (cur.toList.take (n * 1))[j]? = cur[j]? := by
        rw [List.getElem?_take_of_lt jn]
        simp
      rw [e1, ← e2, ht, hj]
    · unfold World.frozen?
      rw [hg]
      simp
theorem own_keep {w w' : World} {base e size n : Nat} {v : Value} {xs : List Value} (h : w.ownsRow base e size v n xs) (hb : ∀ g, v.ownBlock = some g → g < w.heap.size → w'.heap[g]? = w.heap[g]?) : w'.ownsRow base e size v n xs := by
  obtain ⟨hl, h⟩ := h
  refine ⟨hl, ?_⟩
  rcases h with h | ⟨g, c, cur, rfl, h1, hg, h2⟩
  · exact .inl h
  · exact .inr ⟨g, c, cur, rfl, h1, (hb g rfl (Array.getElem?_eq_some_iff.1 hg).1).trans hg, h2⟩
theorem own_below {w w' : World} {base e size n : Nat} {v : Value} {xs : List Value} (h : w.ownsRow base e size v n xs) (hb : Below w.heap.size w w') : w'.ownsRow base e size v n xs :=
  own_keep h (fun g _ hg => hb.block g hg)
theorem own_mono {w : World} {base base' e size n : Nat} {v : Value} {xs : List Value} (h : w.ownsRow base e size v n xs) (hb : base' ≤ base) : w.ownsRow base' e size v n xs := by
  obtain ⟨hl, h⟩ := h
  refine ⟨hl, ?_⟩
  rcases h with h | ⟨g, c, cur, rfl, h1, h2⟩
  · exact .inl h
  · exact .inr ⟨g, c, cur, rfl, Nat.le_trans hb h1, h2⟩
theorem vals_at (f : Nat → BitVec 8) {n j : Nat} (h : j < n) : (vals f n)[j]? = some (.int .u8 ((f j).toNat : Nat)) := by simp [vals, h]
theorem own_nums {w : World} {base b n cap : Nat} {f : Nat → BitVec 8} (h : w.ownsRow base 5 1 (.slice (some ⟨b, 0, none⟩) n cap) n (vals f n)) : NumsK .u8 w b n (fun j => (f j).toNat) :=
  ⟨(own_at h).2.1, fun j hj => (own_at h).2.2.2 j _ (vals_at f hj)⟩
/-- The rows as values. -/
def rowsV (β γ : Nat → Nat) (N j : Nat) : List Value := (List.range j).map (fun i => .slice (some ⟨β i, 0, none⟩) N (γ i))
theorem rowsV_succ (β γ : Nat → Nat) (N j : Nat) : rowsV β γ N (j + 1) = rowsV β γ N j ++ [.slice (some ⟨β j, 0, none⟩) N (γ j)] := by simp [rowsV, List.range_succ]
theorem rowsV_at (β γ : Nat → Nat) (N : Nat) {j i : Nat} (h : i < j) : (rowsV β γ N j)[i]? = some (.slice (some ⟨β i, 0, none⟩) N (γ i)) := by simp [rowsV, h]
theorem rowsV_congr {β γ β' γ' : Nat → Nat} (N j : Nat) (h : ∀ i, i < j → β i = β' i ∧ γ i = γ' i) : rowsV β γ N j = rowsV β' γ' N j := by
  unfold rowsV
  refine List.map_congr_left (fun i hi => ?_)
  obtain ⟨h1, h2⟩ := h i (List.mem_range.1 hi)
  rw [h1, h2]
/-- j rows have been appended. -/
structure Rows (w : World) (base : Nat) (o : Value) (j N : Nat) (β γ : Nat → Nat) (m : Nat → Nat → BitVec 8) : Prop where
  own : w.ownsRow base 33 1 o j (rowsV β γ N j)
  row : ∀ i, i < j → w.ownsRow base 5 1 (.slice (some ⟨β i, 0, none⟩) N (γ i)) N (vals (m i) N)
  inj : ∀ i i', i < j → i' < j → β i = β i' → i = i'
namespace Rows
variable {w w' : World} {base j N : Nat} {o : Value} {β γ : Nat → Nat} {m : Nat → Nat → BitVec 8}
theorem nil (w : World) (base N : Nat) (β γ : Nat → Nat) (m : Nat → Nat → BitVec 8) : Rows w base (.slice none 0 0) 0 N β γ m :=
  ⟨World.ownsRow_nil _ _ _ _, fun i hi => absurd hi (Nat.not_lt_zero _), fun i i' hi => absurd hi (Nat.not_lt_zero _)⟩
theorem below (h : Rows w base o j N β γ m) (hb : Below w.heap.size w w') : Rows w' base o j N β γ m :=
  ⟨own_below h.own hb, fun i hi => own_below (h.row i hi) hb, h.inj⟩
/-- The block of the rows is none of the rows' blocks. -/
theorem apart (h : Rows w base o j N β γ m) {i g : Nat} (hi : i < j) (hg : o.ownBlock = some g) : β i ≠ g := by
  intro e
  obtain ⟨_, _, ⟨cur, hc⟩, _⟩ := own_at (h.row i hi)
  rcases h.own.2 with ⟨rfl, _⟩ | ⟨g', c, cur', rfl, _, hg', _⟩
  · cases hg
  · obtain rfl : g' = g := by simpa [Value.ownBlock] using hg
    rw [e, hg'] at hc
    simp only [Option.some.injEq, Obj.cells.injEq] at hc
    exact absurd hc.2.1 (by decide)
/-- One row more: v in its own block above b1, and o has grown by it. -/
theorem push (h : Rows w base o j N β γ m) {b1 g c : Nat} (hb : ∀ i, i < j → β i < b1) (hbb : base ≤ b1) {f : Nat → BitVec 8} (hv : w.ownsRow b1 5 1 (.slice (some ⟨g, 0, none⟩) N c) N (vals f N)) (hf : ∀ k, k < N → m j k = f k)
    {v' : Value} (hown : w'.ownsRow base 33 1 v' (j + 1) (rowsV β γ N j ++ [.slice (some ⟨g, 0, none⟩) N c])) (hg : w.grownBy w' o.ownBlock) :
    Rows w' base v' (j + 1) N (fun i => if i = j then g else β i) (fun i => if i = j then c else γ i) m := by
  have gb := (own_at hv).1
  have ne : o.ownBlock ≠ some g := by
    intro e
    obtain ⟨_, _, ⟨cur, hc⟩, _⟩ := own_at hv
    rcases h.own.2 with ⟨rfl, _⟩ | ⟨g', c', cur', rfl, _, hg', _⟩
    · cases e
    · obtain rfl : g' = g := by simpa [Value.ownBlock] using e
      rw [hg'] at hc
      simp only [Option.some.injEq, Obj.cells.injEq] at hc
      exact absurd hc.2.1 (by decide)
  refine ⟨?_, fun i hi => ?_, fun i i' hi hi' e => ?_⟩
  · rw [rowsV_succ, rowsV_congr (β' := β) (γ' := γ) N j (fun i hi => ⟨if_neg (by omega), if_neg (by omega)⟩), if_pos rfl, if_pos rfl]
    exact hown
  · by_cases q : i = j
    · subst q
      rw [if_pos rfl, if_pos rfl]
      rw [show vals (m i) N = vals f N from List.map_congr_left (fun k hk => by rw [hf k (List.mem_range.1 hk)])]
      refine own_mono (own_keep hv (fun g' e hl => ?_)) hbb
      obtain rfl : g = g' := by simpa [Value.ownBlock] using e
      exact hg.block g hl (fun x => ne x.symm)
    · rw [if_neg q, if_neg q]
      have ij : i < j := by omega
      refine own_keep (h.row i ij) (fun g' e hl => ?_)
      obtain rfl : β i = g' := by simpa [Value.ownBlock] using e
      exact hg.block _ hl (fun x => h.apart ij x.symm rfl)
  · by_cases q : i = j
    · by_cases q' : i' = j
      · omega
      · rw [if_pos q, if_neg q'] at e
        have := hb i' (by omega)
        omega
    · by_cases q' : i' = j
      · rw [if_neg q, if_pos q'] at e
        have := hb i (by omega)
        omega
      · rw [if_neg q, if_neg q'] at e
        exact h.inj i i' (by omega) (by omega) e
theorem mat (h : Rows w base o j N β γ m) (h0 : 0 < j) : ∃ R C, o = .slice (some ⟨R, 0, none⟩) j C ∧ Mat w base R j N β γ m := by
  rcases h.own.2 with ⟨rfl, h1⟩ | ⟨R, C, cur, rfl, _⟩
  · omega
  · refine ⟨R, C, rfl, ?_⟩
    obtain ⟨h1, h2, _, h3⟩ := own_at h.own
    exact ⟨h1, h2, fun i hi => (h3 i _ (rowsV_at β γ N hi)).1, fun i hi => (h3 i _ (rowsV_at β γ N hi)).2, fun i hi => ⟨(own_at (h.row i hi)).1, h.apart hi rfl⟩, h.inj, fun i hi => own_nums (h.row i hi)⟩
end Rows
end Go.Proofs.YtlpjhmafplljaaaDoor
