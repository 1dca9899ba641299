/- Layer 8: what the laws need besides: KeptInts that only draws, great, the reference finder as what the laws see of it. -/
import Derived.Test.YtlfnglinalmpjaaMkStream
namespace Go.Proofs.Ytlfnglinalmpjaa
open Go.RowKit
set_option linter.unusedVariables false

set_option maxHeartbeats 1000000 in
theorem keptQ_any (g : Nat) (a : Addr) (cap : Nat) (zs : List Int) (n : Nat) (hn : zs.length = n) (hl : n ≤ 100000) (w : World) (L : Lent w g zs) (R : Ints w (some a) zs) :
    Calls Try.prog 25 #[.slice (some ⟨g, 0, none⟩) n (n + 1), .slice (some a) n cap] w fun e w' => e = .returned (.bool true) ∧ ∃ m, w' = w.drewN m := by
  have S := Lib.hid (sameIntsQ_any (some ⟨g, 0, none⟩) (some a) (n + 1) cap zs n hn (by omega) w L.reads R)
  have Q := Lib.hid (fun w => (eql_nil w (some a) n cap : (binOp .eql 29 (.slice (some a) n cap) (.slice none 0 0)).run Try.prog w = .ok (.bool false) w))
  have LL := Lib.hid L
  have HN := Lib.hid hn
  clear L R hn
  go_enter Try.func25, Try.ntmps25
  go_wp2_with fail
  (with_reducible refine S.out.mono ?_)
  rintro e w1 ⟨rfl, m, h1⟩
  have H1 := Lib.hid h1
  have q := Q.out w1
  have mk := (cellD h1 ⟨g, zs.length, none⟩).trans LL.out.mark
  rw [HN.out] at mk
  clear h1
  go_wp2_with fail
  go_ret
  exact ⟨rfl, m, H1.out⟩
-- LendInts, and that its copy may be written
set_option maxHeartbeats 1000000 in
theorem lendW_some (a : Addr) (cap : Nat) (zs : List Int) (n : Nat) (hn : zs.length = n) (hl : n ≤ 100000) (hc : n ≤ cap) (w : World) (R : Ints w (some a) zs) :
    Calls Try.prog 21 #[.slice (some a) n cap] w fun e w' => ∃ g, e = .returned (.slice (some ⟨g, 0, none⟩) n (n + 1)) ∧ w.heap.size ≤ g ∧ Lent w' g zs ∧ (∀ j, w'.frozen? ⟨g, j, none⟩ = false) ∧ Below w.heap.size w w' := by
  have RR := Lib.hid R
  have HN := Lib.hid hn
  have L1 := Lib.hid (show (zs.map (Value.int .i64)).length = n * 1 by simp [hn])
  obtain ⟨i0, hi, hz0, hz1, hz2⟩ := info_parts info_i64
  have E1 : Hid ((n : Int) + 1 = ((n + 1 : Nat) : Int)) := Lib.hid (by omega)
  have q : (binOp .eql 29 (.slice (some a) n cap) (.slice none 0 0)).run Try.prog w = .ok (.bool false) w := eql_nil w (some a) n cap
  clear R hn
  go_enter Try.func21, Try.ntmps21
  go_wp2_with (first
    | (at_make; refine wpList_make_own _ rfl _ _ 29 rfl w.heap.size 3 i0 (.int .i64 0) 1 Try.underlying29 hi hz0 hz1 .i64 .i64 _ (n + 1) rfl rfl E1.out (by rw [hz2]; omega) (by unfold maxLen; omega) (Nat.le_refl _) ?_; intro w1 hown1 hg1; have HO1 := Lib.hid hown1; have HB1 := Lib.hid (show Below w.heap.size w w1 from (Below.refl _ _).grown hg1 (Nat.le_refl _) (fun k e => by cases e)); clear hown1 hg1)
    | (at_builtin; refine wpList_append_fits _ rfl _ _ 29 rfl w.heap.size 3 i0 1 Try.underlying29 hi hz1 w.heap.size n (n + 1) (zs.map (Value.int .i64)) rfl (HO2.out.alloc _) ⟨w2.heap.size, 0, none⟩ 1 1 [.int .i64 (-77177)] rfl rfl cell_one (by simp [Value.oneCell']) (by omega) ?_; intro w3 hown3 hg3; have HO3 := Lib.hid hown3; have HB3 := Lib.hid ((HB2.out.alloc HB2.out.size _).grown hg3 (by have := HB2.out.size; simp; omega) (fun k e => by cases e; exact Nat.le_refl _)); clear hown3 hg3)
    | (at_builtin; refine wpList_append_fits_any _ rfl _ _ 29 rfl w.heap.size 3 i0 1 Try.underlying29 hi hz1 w.heap.size 0 (n + 1) [] rfl HO1.out (some a) n cap (zs.map (Value.int .i64)) rfl L1.out (fun h => by cases h) (ints_cells (RR.out.below HB1.out)) (by simp [Value.oneCell']) (by omega) ?_; clear RR; intro w2 hown2 hg2; have HO2 := Lib.hid (show w2.ownsRow w.heap.size 3 1 (.slice (some ⟨w.heap.size, 0, none⟩) n (n + 1)) n (zs.map (Value.int .i64)) by simpa using hown2); have HB2 := Lib.hid (HB1.out.grown hg2 HB1.out.size (fun k e => by cases e; exact Nat.le_refl _)); have HG2 := Lib.hid hg2.size; clear hown2 hg2))
  go_ret
  exact ⟨w.heap.size, rfl, Nat.le_refl _, lent_own (zs := zs) HN.out (by have h := HO3.out; rw [List.map_append]; exact h), fun j => HO3.out.frozenAt j, HB3.out⟩
/-- great. -/
theorem great_any (a : Option Addr) (n cap : Nat) (len : Int) (w : World) :
    Calls Try.prog 16 #[.slice a n cap, .int .i64 len] w fun e w' => e = .returned (.bool (decide (30 < n ∨ 300 < len))) ∧ w = w' := by
  by_cases h1 : 30 < n
  · have V := Lib.hid (decide_eq_true (show 30 < n ∨ 300 < len from .inl h1))
    have d1 : decide ((30 : Int) < (n : Int)) = true := by simp; omega
    clear h1
    go_enter Try.func16, Try.ntmps16
    go_wp2_with fail
    go_ret
    exact ⟨by rw [V.out]; rfl, rfl⟩
  · have d1 : decide ((30 : Int) < (n : Int)) = false := by simp; omega
    by_cases h2 : 300 < len
    · have V := Lib.hid (decide_eq_true (show 30 < n ∨ 300 < len from .inr h2))
      have d2 : decide ((300 : Int) < len) = true := by simp; omega
      clear h1 h2
      go_enter Try.func16, Try.ntmps16
      go_wp2_with fail
      go_ret
      exact ⟨by rw [V.out]; rfl, rfl⟩
    · have V := Lib.hid (decide_eq_false (show ¬ (30 < n ∨ 300 < len) from fun h => by omega))
      have d2 : decide ((300 : Int) < len) = false := by simp; omega
      clear h1 h2
      go_enter Try.func16, Try.ntmps16
      go_wp2_with fail
      go_ret
      exact ⟨by rw [V.out]; rfl, rfl⟩
/-- The blocks of memory that the reference's finder calls its own. -/
def rown (b : Nat) (lv : Value) (k : Nat) : Prop := k = b ∨ lv.ownBlock = some k
/-- A finder that stays as it is while its own blocks do. -/
theorem RF.keep {base b len : Nat} {lv : Value} {zs : List Int} {s : Mk.Fs} {w w' : World} (h : RF base w b len lv zs s) (hk : ∀ k, k < w.heap.size → rown b lv k → w'.heap[k]? = w.heap[k]?) : RF base w' b len lv zs s :=
  ⟨h.obj.of_block (hk b h.obj.1 (.inl rfl)), own_keep h.row (fun g hg hl => hk g hl (.inr hg)), h.ne⟩
/-- What the laws see of Feed: the blocks are read in memory that is new and is not the finder's. -/
theorem rfeed_law {base b len : Nat} {lv : Value} {zs ys : List Int} {s : Mk.Fs} {w w' : World} {e : Ending} (hb : b < w.heap.size) (h : RFed base b len lv zs ys s w e w') :
    ∃ lv' o t oa oc, e = .returned (.tuple #[.slice oa o.length oc, .int .i64 0]) ∧ o.length ≤ oc ∧ Mk.Runs (fz (zs ++ ys)) len (zs ++ ys).length s o t ∧ Mk.Ok t ∧ t.place ≤ (zs ++ ys).length ∧ RF base w' b len lv' (zs ++ ys) t ∧
      (∀ k, rown b lv' k → rown b lv k ∨ w.heap.size ≤ k) ∧ BlkR (fun k => w.heap.size ≤ k ∧ ¬ rown b lv' k) w' oa (blks (zs ++ ys) len o) ∧ Buts (rown b lv) w w' := by
  obtain ⟨lv', o, t, ov, cs, n1, rfl, h1, h2, h3, h4, h5, h6, h7, h8, h9⟩ := h
  have hl : (blks (zs ++ ys) len o).length = o.length := by unfold blks; simp
  obtain ⟨oa, oc, rfl, hc, hr⟩ := blkR_own (by rw [hl]; exact h7) h8
  rw [hl] at hc
  refine ⟨lv', o, t, oa, oc, by rw [hl], hc, h1, h2, h3, h4, fun k hk => ?_, ?_, h9⟩
  · rcases hk with hk | hk
    · exact .inl (.inl hk)
    · rcases (h5 k hk).1 with g | g
      · exact .inl (.inr g)
      · exact .inr g
  · have imp : ∀ k, n1 ≤ k → w.heap.size ≤ k ∧ ¬ rown b lv' k := fun k hk => ⟨by omega, fun q => by
      rcases q with q | q
      · omega
      · have := (h5 k q).2
        omega⟩
    rcases hr with hr | ⟨B, off, e1, hP, hB, hcell⟩
    · exact .inl hr
    · refine .inr ⟨B, off, e1, imp B hP, hB, fun i x hx => ?_⟩
      obtain ⟨c1, c2, sa, c, c3, hi, hg⟩ := hcell i x hx
      exact ⟨c1, c2, sa, c, c3, hi, fun g o' e' hz => imp g (hg g o' e' hz)⟩
end Go.Proofs.Ytlfnglinalmpjaa
