/- Layer 8: lists of blocks as they are read, and compared by perigeelaw08's same. -/
import Derived.Test.YtlfnglinalmpjaaMkFeed
namespace Go.Proofs.Ytlfnglinalmpjaa
open Go.RowKit
set_option linter.unusedVariables false

theorem cellD {w wr : World} {m : Nat} (h : wr = w.drewN m) (a : Addr) : wr.cell? a = w.cell? a := by rw [h]; rfl
/-- Two lists of the same numbers are compared: nothing changes but draws. -/
theorem sameIntsQ_any (a1 a2 : Option Addr) (cap1 cap2 : Nat) (zs : List Int) (n : Nat) (hn : zs.length = n) (hl : n ≤ 100000) (w : World) (R1 : Ints w a1 zs) (R2 : Ints w a2 zs) :
    Calls Try.prog 28 #[.slice a1 n cap1, .slice a2 n cap2] w fun e w' => e = .returned (.bool true) ∧ ∃ m, w' = w.drewN m := by
  have e1 : ((n : Int) == (n : Int)) = true := by simp
  have e2 : ((n : Int) != (n : Int)) = false := by simp
  by_cases n0 : n = 0
  · subst n0
    clear R1 R2
    go_enter Try.func28, Try.ntmps28
    go_wp2_with fail
    refine wp_loop_rounds 1 ?_
    rw [rounds_succ]
    go_wp2_with fail
    go_ret
    exact ⟨rfl, 0, rfl⟩
  · obtain ⟨b1, o1, rfl, l1, c1⟩ := R1.cell (by omega)
    obtain ⟨b2, o2, rfl, l2, c2⟩ := R2.cell (by omega)
    rw [hn] at c1 c2
    have C1 := Lib.hid c1
    have C2 := Lib.hid c2
    clear c1 c2 R1 R2 hn
    go_enter Try.func28, Try.ntmps28
    go_wp2_with fail
    go_loopw [5] (fun i wr => ∃ k m : Nat, k ≤ n ∧ i = .int .i64 k ∧ wr = w.drewN m) (fun i _ => n - (intOf i).toNat)
    case atStart => exact ⟨0, 0, Nat.zero_le _, rfl, rfl⟩
    case round =>
      obtain ⟨k, m, hk, rfl, hw⟩ := hrel
      by_cases hlt : k < n
      · have q1 := (cellD hw ⟨b1, o1 + k, none⟩).trans (C1.out k hlt)
        have q2 := (cellD hw ⟨b2, o2 + k, none⟩).trans (C2.out k hlt)
        obtain ⟨x, hx⟩ : ∃ x, zs.getD k 0 = x := ⟨_, rfl⟩
        rw [hx] at q1 q2
        have k0 : (0 : Int) ≤ (k : Int) := by omega
        have k1 : (k : Int) < (n : Int) := by omega
        have x1 : ((x : Int) == (x : Int)) = true := by simp
        have x2 : ((x : Int) != (x : Int)) = false := by simp
        have HW := Lib.hid hw
        clear hw hx
        go_wp2_with fail
        go_quiet (fail)
        go_wp2_with fail
        go_roundw
        case rel => exact ⟨k + 1, m + nq, by omega, by go_num, by rw [HW.out, World.drewN_drewN]⟩
        case measure => simp [intOf]; omega
      · obtain rfl : n = k := by omega
        have HW := Lib.hid hw
        clear hw
        go_wp2_with fail
        go_ret
        exact ⟨rfl, m, HW.out⟩
/-- The slice at a reads as these blocks, all of them in blocks of memory with P. -/
def BlkR (P : Nat → Prop) (w : World) (a : Option Addr) (l : List (Nat × Nat × List Int)) : Prop :=
  l = [] ∨ ∃ B off, a = some ⟨B, off, none⟩ ∧ P B ∧ B < w.heap.size ∧ ∀ i x, l[i]? = some x → w.cell? ⟨B, off + i * 3, none⟩ = some (.int .i64 (x.1 : Nat)) ∧ w.cell? ⟨B, off + i * 3 + 1, none⟩ = some (.int .i64 (x.2.1 : Nat)) ∧
    ∃ sa c, w.cell? ⟨B, off + i * 3 + 2, none⟩ = some (.slice sa x.2.2.length c) ∧ Ints w sa x.2.2 ∧ ∀ g o, sa = some ⟨g, o, none⟩ → x.2.2 ≠ [] → P g
theorem Ints.keep {w w' : World} {a : Option Addr} {zs : List Int} (h : Ints w a zs) (hs : w.heap.size ≤ w'.heap.size) (hk : ∀ g o, a = some ⟨g, o, none⟩ → zs ≠ [] → w'.heap[g]? = w.heap[g]?) : Ints w' a zs := by
  by_cases h0 : zs = []
  · exact .inl h0
  · rcases h with h | ⟨b, off, rfl, hl, hc⟩
    · exact .inl h
    · exact .inr ⟨b, off, rfl, Nat.lt_of_lt_of_le hl hs, fun j hj => (World.cell?_of_block (w := w) (a := ⟨b, off + j, none⟩) (hk b off rfl h0)).trans (hc j hj)⟩
theorem BlkR.keep {P : Nat → Prop} {w w' : World} {a : Option Addr} {l : List (Nat × Nat × List Int)} (h : BlkR P w a l) (hs : w.heap.size ≤ w'.heap.size) (hk : ∀ g, g < w.heap.size → P g → w'.heap[g]? = w.heap[g]?) : BlkR P w' a l := by
  rcases h with h | ⟨B, off, rfl, hP, hl, hc⟩
  · exact .inl h
  · refine .inr ⟨B, off, rfl, hP, Nat.lt_of_lt_of_le hl hs, fun i x hx => ?_⟩
    obtain ⟨c1, c2, sa, c, c3, hi, hg⟩ := hc i x hx
    have e := hk B hl hP
    refine ⟨(World.cell?_of_block (w := w) (a := ⟨B, off + i * 3, none⟩) e).trans c1, (World.cell?_of_block (w := w) (a := ⟨B, off + i * 3 + 1, none⟩) e).trans c2, sa, c, (World.cell?_of_block (w := w) (a := ⟨B, off + i * 3 + 2, none⟩) e).trans c3, ?_, hg⟩
    refine hi.keep hs (fun g o ea hz => ?_)
    rcases hi with q | ⟨b, o', e', hb, _⟩
    · exact absurd q hz
    · rw [ea] at e'
      simp only [Option.some.injEq, Addr.mk.injEq] at e'
      obtain ⟨rfl, _, _⟩ := e'
      exact hk g hb (hg g o ea hz)
theorem BlkR.below {P : Nat → Prop} {w w' : World} {a : Option Addr} {l : List (Nat × Nat × List Int)} (h : BlkR P w a l) (hb : Below w.heap.size w w') : BlkR P w' a l := h.keep hb.size (fun g hg _ => hb.block g hg)
/-- Blocks of one's own are read. -/
theorem blkR_own {w : World} {n1 : Nat} {ov : Value} {l : List (Nat × Nat × List Int)} {cs : List Value} (h : w.ownsRow n1 50 3 ov l.length cs) (C : BlkC w n1 l cs) : ∃ a cap, ov = .slice a l.length cap ∧ l.length ≤ cap ∧ BlkR (fun k => n1 ≤ k) w a l := by
  rcases h.2 with ⟨rfl, h0⟩ | ⟨g, cap, cur, rfl, hb, hg, hc, _⟩
  · exact ⟨none, 0, by rw [h0], by omega, .inl (List.eq_nil_of_length_eq_zero h0)⟩
  · refine ⟨_, cap, rfl, hc, .inr ⟨g, 0, rfl, hb, (Array.getElem?_eq_some_iff.1 hg).1, ?_⟩⟩
    have at' : ∀ j u, cs[j]? = some u → w.cell? ⟨g, j, none⟩ = some u := fun j u hu => by
      have := h.cells (g := g) rfl j u hu
      rwa [add_off, Nat.zero_add] at this
    have key : ∀ (l : List (Nat × Nat × List Int)) (cs : List Value) (p : Nat), BlkC w n1 l cs → (∀ j u, cs[j]? = some u → w.cell? ⟨g, p + j, none⟩ = some u) → ∀ i x, l[i]? = some x → w.cell? ⟨g, p + i * 3, none⟩ = some (.int .i64 (x.1 : Nat)) ∧ w.cell? ⟨g, p + i * 3 + 1, none⟩ = some (.int .i64 (x.2.1 : Nat)) ∧
        ∃ sa c, w.cell? ⟨g, p + i * 3 + 2, none⟩ = some (.slice sa x.2.2.length c) ∧ Ints w sa x.2.2 ∧ ∀ g o, sa = some ⟨g, o, none⟩ → x.2.2 ≠ [] → n1 ≤ g := by
      intro l
      induction l with
      | nil => intro cs p _ _ i x hx; simp at hx
      | cons y r ih =>
        intro cs p hC ha i x hx
        obtain ⟨sv, cs', rfl, ho, hC'⟩ := hC
        match i, hx with
        | 0, hx =>
          simp only [List.getElem?_cons_zero, Option.some.injEq] at hx
          subst hx
          obtain ⟨sa, sc, rfl⟩ := own_is ho
          obtain ⟨hi, _, _⟩ := ints_of_own ho
          refine ⟨by simpa using ha 0 _ rfl, by simpa using ha 1 _ rfl, sa, sc, by simpa using ha 2 _ rfl, hi, fun g' o e _ => ?_⟩
          subst e
          exact own_block_ge ho rfl
        | i + 1, hx =>
          have := ih cs' (p + 3) hC' (fun j u hu => by
            have := ha (j + 3) u (by simpa using hu)
            rwa [show p + (j + 3) = p + 3 + j by omega] at this) i x (by simpa using hx)
          rw [show p + (i + 1) * 3 = p + 3 + i * 3 by omega]
          exact this
    exact key l cs 0 C (fun j u hu => by rw [Nat.zero_add]; exact at' j u hu)
set_option maxRecDepth 100000 in
set_option maxHeartbeats 2000000 in
theorem same_any (P1 P2 : Nat → Prop) (a1 a2 : Option Addr) (cap1 cap2 : Nat) (l : List (Nat × Nat × List Int)) (n : Nat) (hn : l.length = n) (hl : n ≤ 100000) (hx : ∀ x ∈ l, x.2.2.length ≤ 100000) (w : World) (R1 : BlkR P1 w a1 l) (R2 : BlkR P2 w a2 l) :
    Calls Try.prog 24 #[.slice a1 n cap1, .slice a2 n cap2] w fun e w' => e = .returned (.bool true) ∧ ∃ m, w' = w.drewN m := by
  have e1 : ((n : Int) == (n : Int)) = true := by simp
  have e2 : ((n : Int) != (n : Int)) = false := by simp
  have HN := Lib.hid hn
  have HX := Lib.hid hx
  by_cases n0 : n = 0
  · subst n0
    clear R1 R2 hn hx
    go_enter Try.func24, Try.ntmps24
    go_wp2_with fail
    refine wp_loop_rounds 1 ?_
    rw [rounds_succ]
    go_wp2_with fail
    go_ret
    exact ⟨rfl, 0, rfl⟩
  · rcases R1 with h0 | ⟨b1, o1, rfl, _, l1, c1⟩
    · rw [h0] at hn
      exact absurd hn.symm n0
    rcases R2 with h0 | ⟨b2, o2, rfl, _, l2, c2⟩
    · rw [h0] at hn
      exact absurd hn.symm n0
    have C1 := Lib.hid c1
    have C2 := Lib.hid c2
    clear c1 c2 hn hx
    go_enter Try.func24, Try.ntmps24
    go_wp2_with fail
    go_loopw [5] (fun i wr => ∃ k m : Nat, k ≤ n ∧ i = .int .i64 k ∧ wr = w.drewN m) (fun i _ => n - (intOf i).toNat)
    case atStart => exact ⟨0, 0, Nat.zero_le _, rfl, rfl⟩
    case round =>
      obtain ⟨k, m, hk, rfl, hw⟩ := hrel
      by_cases hlt : k < n
      · obtain ⟨⟨p, q, zs⟩, hxk⟩ : ∃ x, l[k]? = some x := ⟨l[k]'(by rw [HN.out]; exact hlt), List.getElem?_eq_getElem _⟩
        obtain ⟨x1, x2, sa, sc, x3, xi, _⟩ := C1.out k _ hxk
        obtain ⟨y1, y2, ta, tc, y3, yi, _⟩ := C2.out k _ hxk
        have zl := HX.out _ (List.mem_of_getElem? hxk)
        simp only at x1 x2 x3 xi y1 y2 y3 yi zl
        obtain ⟨z, hz⟩ : ∃ z, zs.length = z := ⟨_, rfl⟩
        rw [hz] at x3 y3 zl
        have SQ := Lib.hid (fun nq => sameIntsQ_any sa ta sc tc zs z hz zl (wr.drewN nq) (by rw [hw]; exact xi) (by rw [hw]; exact yi))
        replace x1 := (cellD hw ⟨b1, o1 + k * 3, none⟩).trans x1
        replace x2 := (cellD hw ⟨b1, o1 + k * 3 + 1, none⟩).trans x2
        replace x3 := (cellD hw ⟨b1, o1 + k * 3 + 2, none⟩).trans x3
        replace y1 := (cellD hw ⟨b2, o2 + k * 3, none⟩).trans y1
        replace y2 := (cellD hw ⟨b2, o2 + k * 3 + 1, none⟩).trans y2
        replace y3 := (cellD hw ⟨b2, o2 + k * 3 + 2, none⟩).trans y3
        have k1 : (k : Int) < (n : Int) := by omega
        have p2 : ((p : Int) != (p : Int)) = false := by simp
        have q2 : ((q : Int) != (q : Int)) = false := by simp
        have HW := Lib.hid hw
        clear hw hxk xi yi hz
        go_wp2_with fail
        go_quiet ((go_at_call 28; exact Calls.quiet_of (SQ.out _)))
        go_wp2_with fail
        go_roundw
        case rel => exact ⟨k + 1, m + nq, by omega, by go_num, by rw [HW.out, World.drewN_drewN]⟩
        case measure => simp [intOf]; omega
      · obtain rfl : n = k := by omega
        have HW := Lib.hid hw
        clear hw
        go_wp2_with fail
        go_ret
        exact ⟨rfl, m, HW.out⟩
end Go.Proofs.Ytlfnglinalmpjaa
