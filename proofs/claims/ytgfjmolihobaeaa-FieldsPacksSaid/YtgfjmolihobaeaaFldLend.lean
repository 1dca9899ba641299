/- The contracts of the reference's Unpack (all cases), and of the kit's SameInts, LendInts, KeptInts over this program. -/
import Derived.Test.YtgfjmolihobaeaaFldRefV
import Derived.Test.YtgfjmolihobaeaaFldSame
import Derived.Laws.Cover3
namespace Go.Proofs.Ytgfjmolihobaeaa
open Go.RowKit Go.Shelf
set_option linter.unusedVariables false

theorem runpack_any (a : Option Addr) (cap : Nat) (zs : List Int) (s : ByteArray) (hz : zs.length ≤ 500) (hs : s.size ≤ 5000) (w : World) (R : Reads .i64 w a zs) :
    Calls Try.prog 22 #[.slice a zs.length cap, .string s] w (Unpacked zs s.data.toList w) := by
  by_cases hw : Fld.allW zs = true
  · by_cases he : s.size = (Fld.tot (Fld.nats zs) + 7) / 8
    · exact runp_ok a cap zs s zs.length rfl hz hs hw he w R
    · exact runp_len a cap zs s zs.length rfl hz hs hw he w R
  · exact runp_bad a cap zs s zs.length rfl hz hs (by simpa using hw) w R

set_option maxHeartbeats 1000000 in
theorem sameInts_any (a1 a2 : Option Addr) (cap1 cap2 : Nat) (zs : List Int) (n : Nat) (hn : zs.length = n) (hl : n ≤ 600) (w : World) (R1 : Reads .i64 w a1 zs) (R2 : Reads .i64 w a2 zs) :
    Calls Try.prog 46 #[.slice a1 n cap1, .slice a2 n cap2] w fun e w' => e = .returned (.bool true) ∧ Below w.heap.size w w' := by
  have e1 : ((n : Int) == (n : Int)) = true := by simp
  have e2 : ((n : Int) != (n : Int)) = false := by simp
  by_cases n0 : n = 0
  · subst n0
    have B := Below.refl w.heap.size w
    clear R1 R2
    go_enter Try.func46, Try.ntmps46
    go_wp2_with fail
    refine wp_loop_rounds 1 ?_
    rw [rounds_succ]
    go_wp2_with fail
    go_ret
    exact ⟨rfl, B⟩
  · obtain ⟨b1, o1, rfl, l1, c1⟩ := R1.cell (by omega)
    obtain ⟨b2, o2, rfl, l2, c2⟩ := R2.cell (by omega)
    rw [hn] at c1 c2
    have C1 := Lib.hid c1
    have C2 := Lib.hid c2
    have B := Below.refl w.heap.size w
    clear c1 c2 R1 R2 hn
    go_enter Try.func46, Try.ntmps46
    go_wp2_with fail
    go_loopw [5] (fun i wr => ∃ k : Nat, k ≤ n ∧ i = .int .i64 k ∧ Below w.heap.size w wr) (fun i _ => n - (intOf i).toNat)
    case atStart => exact ⟨0, Nat.zero_le _, rfl, B⟩
    case round =>
      obtain ⟨k, hk, rfl, hB⟩ := hrel
      have HB := Lib.hid hB
      by_cases hlt : k < n
      · have q1 := (hB.cell (p := ⟨b1, o1 + k, none⟩) l1).trans (C1.out k hlt)
        have q2 := (hB.cell (p := ⟨b2, o2 + k, none⟩) l2).trans (C2.out k hlt)
        obtain ⟨x, hx⟩ : ∃ x, zs.getD k 0 = x := ⟨_, rfl⟩
        rw [hx] at q1 q2
        have k0 : (0 : Int) ≤ (k : Int) := by omega
        have k1 : (k : Int) < (n : Int) := by omega
        have x1 : ((x : Int) == (x : Int)) = true := by simp
        have x2 : ((x : Int) != (x : Int)) = false := by simp
        clear hB hx
        go_wp2_with fail
        go_quiet (fail)
        go_wp2_with fail
        go_roundw
        case rel => exact ⟨k + 1, by omega, by go_num, below_drewN HB.out _⟩
        case measure => simp [intOf]; omega
      · obtain rfl : n = k := by omega
        clear hB
        go_wp2_with fail
        go_ret
        exact ⟨rfl, HB.out⟩

/-- A lent list: a copy of zs in the block g, and the mark behind it. -/
def Lent (w : World) (g : Nat) (zs : List Int) : Prop := g < w.heap.size ∧ ∀ j, j < zs.length + 1 → w.cell? ⟨g, j, none⟩ = some (.int .i64 ((zs ++ [-77177]).getD j 0))
theorem Lent.below {w w' : World} {g : Nat} {zs : List Int} (h : Lent w g zs) (hb : Below w.heap.size w w') : Lent w' g zs :=
  ⟨Nat.lt_of_lt_of_le h.1 hb.size, fun j hj => (hb.cell (p := ⟨g, j, none⟩) h.1).trans (h.2 j hj)⟩
theorem Lent.reads {w : World} {g : Nat} {zs : List Int} (h : Lent w g zs) : Reads .i64 w (some ⟨g, 0, none⟩) zs :=
  .inr ⟨g, 0, rfl, h.1, fun j hj => by
    rw [Nat.zero_add, h.2 j (by omega)]
    simp [List.getD, List.getElem?_append_left hj]⟩
theorem Lent.mark {w : World} {g : Nat} {zs : List Int} (h : Lent w g zs) : w.cell? ⟨g, zs.length, none⟩ = some (.int .i64 (-77177)) := by
  rw [h.2 zs.length (by omega)]
  simp [List.getD]
theorem reads_cells {k : IntKind} {w : World} {ao : Option Addr} {zs : List Int} (h : Reads k w ao zs) : ∀ ad, ao = some ad → ∀ j u, (zs.map (Value.int k))[j]? = some u → w.cell? (ad.add j) = some u := by
  intro ad had j u hu
  rcases h with rfl | ⟨b, off, rfl, hl, hc⟩
  · simp at hu
  · exact cells_add hc ad had j u hu
theorem lent_own {w : World} {base e g cap n : Nat} {zs : List Int} (hn : zs.length = n) (h : w.ownsRow base e 1 (.slice (some ⟨g, 0, none⟩) (n + 1) cap) (n + 1) ((zs ++ [-77177]).map (Value.int .i64))) : Lent w g zs := by
  obtain ⟨r, _, _⟩ := reads_own h
  rcases r with h0 | ⟨b, off, e, hl, hc⟩
  · simp at h0
  · simp only [Option.some.injEq, Addr.mk.injEq] at e
    obtain ⟨rfl, rfl, _⟩ := e
    exact ⟨hl, fun j hj => by
      have := hc j (by simpa using hj)
      rw [Nat.zero_add] at this
      exact this⟩

theorem eql_nil (w : World) (a : Option Addr) (n c : Nat) : (binOp .eql 36 (.slice a n c) (.slice none 0 0)).run Try.prog w = .ok (.bool a.isNone) w := by
  simp [binOp, run_equal_slice_nil w 36 3 a n c Try.underlying36]

theorem lend_nil (cap : Nat) (w : World) : Calls Try.prog 18 #[.slice none 0 cap] w fun e w' => e = .returned (.slice none 0 0) ∧ w = w' := by
  have q : (binOp .eql 36 (.slice none 0 cap) (.slice none 0 0)).run Try.prog w = .ok (.bool true) w := eql_nil w none 0 cap
  go_enter Try.func18, Try.ntmps18
  go_wp2_with fail
  go_ret
  exact ⟨rfl, rfl⟩

set_option maxHeartbeats 1000000 in
theorem lend_some (a : Addr) (cap : Nat) (zs : List Int) (n : Nat) (hn : zs.length = n) (hl : n ≤ 500) (hc : n ≤ cap) (w : World) (R : Reads .i64 w (some a) zs) :
    Calls Try.prog 18 #[.slice (some a) n cap] w fun e w' => ∃ g, e = .returned (.slice (some ⟨g, 0, none⟩) n (n + 1)) ∧ Lent w' g zs ∧ Below w.heap.size w w' := by
  have RR := Lib.hid R
  have HN := Lib.hid hn
  have L1 := Lib.hid (show (zs.map (Value.int .i64)).length = n * 1 by simp [hn])
  obtain ⟨i0, hi, hz0, hz1, hz2⟩ := info_parts info_int
  have E1 : Hid ((n : Int) + 1 = ((n + 1 : Nat) : Int)) := Lib.hid (by omega)
  have q : (binOp .eql 36 (.slice (some a) n cap) (.slice none 0 0)).run Try.prog w = .ok (.bool false) w := eql_nil w (some a) n cap
  clear R hn
  go_enter Try.func18, Try.ntmps18
  go_wp2_with (first
    | (at_make; refine wpList_make_own _ rfl _ _ 36 rfl w.heap.size 3 i0 (.int .i64 0) 1 Try.underlying36 hi hz0 hz1 .i64 .i64 _ (n + 1) rfl rfl E1.out (by rw [hz2]; omega) (by unfold maxLen; omega) (Nat.le_refl _) ?_; intro w1 hown1 hg1; have HO1 := Lib.hid hown1; have HB1 := Lib.hid (show Below w.heap.size w w1 from (Below.refl _ _).grown hg1 (Nat.le_refl _) (fun k e => by cases e)); clear hown1 hg1)
    | (at_builtin; refine wpList_append_fits _ rfl _ _ 36 rfl w.heap.size 3 i0 1 Try.underlying36 hi hz1 w.heap.size n (n + 1) (zs.map (Value.int .i64)) rfl (HO2.out.alloc _) ⟨w2.heap.size, 0, none⟩ 1 1 [.int .i64 (-77177)] rfl rfl cell_one (by simp [Value.oneCell']) (by omega) ?_; intro w3 hown3 hg3; have HO3 := Lib.hid hown3; have HB3 := Lib.hid ((HB2.out.alloc HB2.out.size _).grown hg3 (by have := HB2.out.size; simp; omega) (fun k e => by cases e; exact Nat.le_refl _)); clear hown3 hg3)
    | (at_builtin; refine wpList_append_fits_any _ rfl _ _ 36 rfl w.heap.size 3 i0 1 Try.underlying36 hi hz1 w.heap.size 0 (n + 1) [] rfl HO1.out (some a) n cap (zs.map (Value.int .i64)) rfl L1.out (fun h => by cases h) (reads_cells (RR.out.below HB1.out)) (by simp [Value.oneCell']) (by omega) ?_; clear RR; intro w2 hown2 hg2; have HO2 := Lib.hid (show w2.ownsRow w.heap.size 3 1 (.slice (some ⟨w.heap.size, 0, none⟩) n (n + 1)) n (zs.map (Value.int .i64)) by simpa using hown2); have HB2 := Lib.hid (HB1.out.grown hg2 HB1.out.size (fun k e => by cases e; exact Nat.le_refl _)); have HG2 := Lib.hid hg2.size; clear hown2 hg2))
  go_ret
  exact ⟨w.heap.size, rfl, lent_own (zs := zs) HN.out (by have h := HO3.out; rw [List.map_append]; exact h), HB3.out⟩

theorem kept_nil (cap1 cap2 : Nat) (w : World) :
    Calls Try.prog 24 #[.slice none 0 cap1, .slice none 0 cap2] w fun e w' => e = .returned (.bool true) ∧ Below w.heap.size w w' := by
  have S := Lib.hid (fun w => sameInts_any none none cap1 cap2 [] 0 rfl (by omega) w (.inl rfl) (.inl rfl))
  have Q := Lib.hid (fun w => (eql_nil w none 0 cap2 : (binOp .eql 36 (.slice none 0 cap2) (.slice none 0 0)).run Try.prog w = .ok (.bool true) w))
  go_enter Try.func24, Try.ntmps24
  go_wp2_with fail
  (with_reducible refine (S.out _).mono ?_)
  rintro e w1 ⟨rfl, h1⟩
  have H1 := Lib.hid h1
  have q := Q.out w1
  clear h1
  go_wp2_with fail
  go_ret
  exact ⟨rfl, H1.out⟩

set_option maxHeartbeats 1000000 in
theorem kept_some (g : Nat) (a : Addr) (cap : Nat) (zs : List Int) (n : Nat) (hn : zs.length = n) (hl : n ≤ 500) (w : World) (L : Lent w g zs) (R : Reads .i64 w (some a) zs) :
    Calls Try.prog 24 #[.slice (some ⟨g, 0, none⟩) n (n + 1), .slice (some a) n cap] w fun e w' => e = .returned (.bool true) ∧ Below w.heap.size w w' := by
  have S := Lib.hid (sameInts_any (some ⟨g, 0, none⟩) (some a) (n + 1) cap zs n hn (by omega) w L.reads R)
  have Q := Lib.hid (fun w => (eql_nil w (some a) n cap : (binOp .eql 36 (.slice (some a) n cap) (.slice none 0 0)).run Try.prog w = .ok (.bool false) w))
  have LL := Lib.hid L
  have HN := Lib.hid hn
  clear L R hn
  go_enter Try.func24, Try.ntmps24
  go_wp2_with fail
  (with_reducible refine S.out.mono ?_)
  rintro e w1 ⟨rfl, h1⟩
  have H1 := Lib.hid h1
  have q := Q.out w1
  have m := (LL.out.below h1).mark
  rw [HN.out] at m
  clear h1
  go_wp2_with fail
  go_ret
  exact ⟨rfl, H1.out⟩
end Go.Proofs.Ytgfjmolihobaeaa
