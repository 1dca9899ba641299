/- Layer 8: lists of blocks of one's own whose values lie elsewhere: what they hold, how they grow by a list that is read. -/
import Derived.Test.YtlfnglinalmpjaaMkSame
namespace Go.Proofs.Ytlfnglinalmpjaa
open Go.RowKit
set_option linter.unusedVariables false

/-- The cells of a list of blocks: places, wrong bits, slices whose values lie in blocks of memory with Q. -/
def BlkI (Q : Nat → Prop) (w : World) (l : List (Nat × Nat × List Int)) (cs : List Value) : Prop :=
  cs.length = l.length * 3 ∧ ∀ i x, l[i]? = some x → cs[i * 3]? = some (.int .i64 (x.1 : Nat)) ∧ cs[i * 3 + 1]? = some (.int .i64 (x.2.1 : Nat)) ∧
    ∃ sa c, cs[i * 3 + 2]? = some (.slice sa x.2.2.length c) ∧ Ints w sa x.2.2 ∧ ∀ g o, sa = some ⟨g, o, none⟩ → x.2.2 ≠ [] → Q g
namespace BlkI
variable {Q R : Nat → Prop} {w w' : World} {l l2 : List (Nat × Nat × List Int)} {cs cs2 : List Value}
theorem nil (Q : Nat → Prop) (w : World) : BlkI Q w [] [] := ⟨rfl, fun i x h => by simp at h⟩
theorem mono (h : BlkI Q w l cs) (k : ∀ g, Q g → R g) : BlkI R w l cs := ⟨h.1, fun i x hx => by
  obtain ⟨c1, c2, sa, c, c3, hi, hg⟩ := h.2 i x hx
  exact ⟨c1, c2, sa, c, c3, hi, fun g o e hz => k g (hg g o e hz)⟩⟩
theorem keep (h : BlkI Q w l cs) (hs : w.heap.size ≤ w'.heap.size) (hk : ∀ g, g < w.heap.size → Q g → w'.heap[g]? = w.heap[g]?) : BlkI Q w' l cs := ⟨h.1, fun i x hx => by
  obtain ⟨c1, c2, sa, c, c3, hi, hg⟩ := h.2 i x hx
  refine ⟨c1, c2, sa, c, c3, hi.keep hs (fun g o ea hz => ?_), hg⟩
  rcases hi with q | ⟨b, o', e', hb, _⟩
  · exact absurd q hz
  · rw [ea] at e'
    simp only [Option.some.injEq, Addr.mk.injEq] at e'
    obtain ⟨rfl, _, _⟩ := e'
    exact hk g hb (hg g o ea hz)⟩
theorem app (h : BlkI Q w l cs) (k : BlkI Q w l2 cs2) : BlkI Q w (l ++ l2) (cs ++ cs2) := by
  have e1 := h.1
  have e2 := k.1
  refine ⟨by rw [List.length_append, List.length_append, e1, e2, Nat.add_mul], fun i x hx => ?_⟩
  by_cases hi : i < l.length
  · rw [List.getElem?_append_left hi] at hx
    have := h.2 i x hx
    rw [List.getElem?_append_left (by omega), List.getElem?_append_left (by omega), List.getElem?_append_left (by omega)]
    exact this
  · rw [List.getElem?_append_right (by omega)] at hx
    have := k.2 (i - l.length) x hx
    rw [List.getElem?_append_right (by omega), List.getElem?_append_right (by omega), List.getElem?_append_right (by omega)]
    rw [show i * 3 - cs.length = (i - l.length) * 3 by omega, show i * 3 + 1 - cs.length = (i - l.length) * 3 + 1 by omega, show i * 3 + 2 - cs.length = (i - l.length) * 3 + 2 by omega]
    exact this
theorem one (h : BlkI Q w l cs) : ∀ u ∈ cs, u.oneCell' = true := by
  intro u hu
  obtain ⟨j, hj⟩ := List.mem_iff_getElem?.1 hu
  have jl : j < cs.length := (List.getElem?_eq_some_iff.1 hj).1
  have e1 := h.1
  have il : j / 3 < l.length := by omega
  obtain ⟨c1, c2, sa, c, c3, _⟩ := h.2 (j / 3) _ (List.getElem?_eq_getElem il)
  have : j = j / 3 * 3 ∨ j = j / 3 * 3 + 1 ∨ j = j / 3 * 3 + 2 := by omega
  rcases this with e | e | e
  · rw [e, c1] at hj
    cases hj
    rfl
  · rw [e, c2] at hj
    cases hj
    rfl
  · rw [e, c3] at hj
    cases hj
    rfl
end BlkI
/-- What is read can be appended. -/
theorem BlkR.cells {Q : Nat → Prop} {w : World} {a : Option Addr} {l : List (Nat × Nat × List Int)} (h : BlkR Q w a l) : ∃ cs, BlkI Q w l cs ∧ (a = none → l.length = 0) ∧ ∀ ad, a = some ad → ∀ j u, cs[j]? = some u → w.cell? (ad.add j) = some u := by
  rcases h with rfl | ⟨B, off, rfl, hP, hB, hc⟩
  · exact ⟨[], BlkI.nil Q w, fun _ => rfl, fun ad _ j u hu => by simp at hu⟩
  · refine ⟨(List.range (l.length * 3)).map (fun j => (w.cell? ⟨B, off + j, none⟩).getD undef), ⟨by simp, fun i x hx => ?_⟩, (fun h => nomatch h), fun ad e j u hu => ?_⟩
    · have il : i < l.length := (List.getElem?_eq_some_iff.1 hx).1
      obtain ⟨c1, c2, sa, c, c3, hi, hg⟩ := hc i x hx
      have at' : ∀ j, j < l.length * 3 → ((List.range (l.length * 3)).map (fun j => (w.cell? ⟨B, off + j, none⟩).getD undef))[j]? = some ((w.cell? ⟨B, off + j, none⟩).getD undef) := fun j hj => by
        rw [List.getElem?_map, List.getElem?_range hj]
        rfl
      refine ⟨?_, ?_, sa, c, ?_, hi, hg⟩
      · rw [at' _ (by omega), c1]
        rfl
      · rw [at' _ (by omega), ← Nat.add_assoc, c2]
        rfl
      · rw [at' _ (by omega), ← Nat.add_assoc, c3]
        rfl
    · simp only [Option.some.injEq] at e
      subst e
      have jl : j < l.length * 3 := by
        have := (List.getElem?_eq_some_iff.1 hu).1
        simpa using this
      rw [List.getElem?_map, List.getElem?_range jl] at hu
      simp only [Option.map_some, Option.some.injEq] at hu
      rw [add_off, ← hu]
      have il : j / 3 < l.length := by omega
      obtain ⟨c1, c2, sa, c, c3, _⟩ := hc (j / 3) _ (List.getElem?_eq_getElem il)
      have : j = j / 3 * 3 ∨ j = j / 3 * 3 + 1 ∨ j = j / 3 * 3 + 2 := by omega
      rcases this with e | e | e
      · rw [← e] at c1
        rw [c1]
        rfl
      · rw [Nat.add_assoc, ← e] at c2
        rw [c2]
        rfl
      · rw [Nat.add_assoc, ← e] at c3
        rw [c3]
        rfl
/-- A list of one's own is read. -/
theorem BlkI.reads {Q : Nat → Prop} {w : World} {base : Nat} {v : Value} {l : List (Nat × Nat × List Int)} {cs : List Value} (h : BlkI Q w l cs) (ho : w.ownsRow base 50 3 v l.length cs) :
    ∃ a cap, v = .slice a l.length cap ∧ BlkR (fun k => Q k ∨ v.ownBlock = some k) w a l := by
  rcases ho.2 with ⟨rfl, h0⟩ | ⟨g, cap, cur, rfl, hb, hg, hc, _⟩
  · exact ⟨none, 0, by rw [h0], .inl (List.eq_nil_of_length_eq_zero h0)⟩
  · refine ⟨_, cap, rfl, .inr ⟨g, 0, rfl, .inr rfl, (Array.getElem?_eq_some_iff.1 hg).1, fun i x hx => ?_⟩⟩
    have at' : ∀ j u, cs[j]? = some u → w.cell? ⟨g, 0 + j, none⟩ = some u := fun j u hu => by
      have := ho.cells (g := g) rfl j u hu
      rwa [add_off] at this
    obtain ⟨c1, c2, sa, c, c3, hi, hq⟩ := h.2 i x hx
    exact ⟨at' _ _ c1, at' _ _ c2, sa, c, at' _ _ c3, hi, fun g' o' e hz => .inl (hq g' o' e hz)⟩
end Go.Proofs.Ytlfnglinalmpjaa
