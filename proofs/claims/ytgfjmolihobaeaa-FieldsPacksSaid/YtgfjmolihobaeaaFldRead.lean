/- The contracts of package fields' iterators and of read over this program. -/
import Derived.RangeFuncNested
import Derived.RangeFuncBound
import Derived.RangeFuncCalls
import Derived.RangeFuncLeaves
import Derived.Shelf.Abstract
import Derived.Shelf.RegionOpen
import Derived.WalkKit
import Derived.OwnWalkIn
import Derived.TacticsInMore
import Derived.LoopNIn
import Derived.LoopIn
import Derived.Lib.Hide
import Derived.Lib.BitFns
import Derived.Test.YtgfjmolihobaeaaChecked
import Derived.Test.YtgfjmolihobaeaaFldMath
namespace Go.Proofs.Ytgfjmolihobaeaa
open Go.RowKit Go.Shelf
attribute [local go_sem] Oper.semAt_some
set_option linter.unusedVariables false

theorem cell_new_l (w : World) (v : Value) (t : TypeId) : (w.alloc (.cells #[v] t)).cell? ⟨w.heap.size, 0, none⟩ = some v ∧ (w.alloc (.cells #[v] t)).frozen? ⟨w.heap.size, 0, none⟩ = false := by
  constructor <;> go_simp
theorem cell_alloc_l {W : World} {a : Addr} {v : Value} (o : Obj) (h : W.cell? a = some v) : (W.alloc o).cell? a = some v := cell_kept h (World.grownBy_alloc W o none) (fun r e => by cases e)
theorem frozen_alloc_l {W : World} {a : Addr} {v : Value} (o : Obj) (h : W.cell? a = some v) (hf : W.frozen? a = false) : (W.alloc o).frozen? a = false := (frozen_kept h (World.grownBy_alloc W o none) (fun r e => by cases e)).trans hf
/-- WHAT A ROUND KEEPS: the cells of the blocks from lo to hi. -/
def Mid (lo hi : Nat) (W W' : World) : Prop := ∀ b o v, lo ≤ b → b < hi → W.cell? ⟨b, o, none⟩ = some v → W'.cell? ⟨b, o, none⟩ = some v
theorem Mid.refl (lo hi : Nat) (W : World) : Mid lo hi W W := fun _ _ _ _ _ h => h
theorem Mid.trans {lo hi : Nat} {A B C : World} (h : Mid lo hi A B) (k : Mid lo hi B C) : Mid lo hi A C := fun b o v a c d => k b o v a c (h b o v a c d)
theorem Mid.setCell {lo hi : Nat} {A B : World} (h : Mid lo hi A B) (b o : Nat) (v : Value) (hb : b < lo ∨ hi ≤ b) : Mid lo hi A (B.setCell ⟨b, o, none⟩ v) := fun b' o' v' h1 h2 h3 => by
  exact (World.cell?_setCell_other (h := by intro e; cases e; omega) ..).trans (h b' o' v' h1 h2 h3)
theorem mid_b {lo hi : Nat} {w : World} (hn : hi ≤ w.heap.size) (W : World) (l : Nat) (o o' : Obj) (hl : w.heap.size ≤ l) (h : W.heap[l]? = some o) (hc : o.isCells = false) (_ : o.isWalk = false) : Mid lo hi W (W.putObj l o') :=
  fun b q v _ _ hv => cell_kept hv (grownBy_putObj' W l o') (fun r e => by cases e; exact ⟨_, h, hc⟩)

theorem byte_at (s : ByteArray) (i : Nat) (h : i < s.size) : s.data.toList.getD i 0 = s[i] := by
  have h' : i < s.data.toList.length := by simpa using h
  rw [List.getD_eq_getElem?_getD, List.getElem?_eq_getElem h']
  rfl
theorem bit_walk (s : ByteArray) (i : Nat) (h : i / 8 < s.size) : bits .and .u64 (IntKind.u64.wrap ((s[i / 8].toNat : Int) / 2 ^ (7 - i % 8))) 1 = (Fld.bit s.data.toList i : Int) := by
  have b : s[i / 8].toNat < 256 := s[i / 8].toNat_lt
  have d : s[i / 8].toNat / 2 ^ (7 - i % 8) ≤ s[i / 8].toNat := Nat.div_le_self _ _
  have e : ((s[i / 8].toNat : Int) / 2 ^ (7 - i % 8)) = ((s[i / 8].toNat / 2 ^ (7 - i % 8) : Nat) : Int) := by
    rw [Int.natCast_ediv]; simp
  rw [e]
  unfold Fld.bit
  rw [byte_at s _ h]
  generalize s[i / 8].toNat / 2 ^ (7 - i % 8) = q at *
  have e2 : IntKind.u64.wrap (q : Int) = (q : Int) := by rw [IntKind.wrap_u64]; omega
  rw [e2]
  have := bits_and_u64_nat q 1 (by omega) (by omega)
  rw [Nat.and_one_is_mod] at this
  exact this

set_option maxRecDepth 100000 in
set_option maxHeartbeats 2000000 in
theorem fieldBits1_in (F : Fence) (n : Nat) (hF : F.fn 52) (hro : F.round = none) (hn : 1 ≤ n) (l Ba Bw Bs lo hi p wd : Nat) (s : ByteArray) (hs : s.size ≤ 70000) (hin : p + wd ≤ 8 * s.size)
    (ha : lo ≤ Ba ∧ Ba < hi) (hw : lo ≤ Bw ∧ Bw < hi) (hb : lo ≤ Bs ∧ Bs < hi) (J Jx : List Fld.Bit → World → Prop)
    (hY : ∀ pre x W, J pre W → pre.length < wd → YieldAt F (n - 1) Try.prog l #[.int .u64 (x.1 : Nat)] W fun e W' =>
      (e = .returned (.bool true) ∧ J (pre ++ [x]) W' ∧ Mid lo hi W W') ∨ (e = .returned (.bool false) ∧ Jx (pre ++ [x]) W'))
    (W : World) (c1 : W.cell? ⟨Ba, 0, none⟩ = some (.int .i64 p)) (c2 : W.cell? ⟨Bw, 0, none⟩ = some (.int .i64 wd)) (c3 : W.cell? ⟨Bs, 0, none⟩ = some (.string s)) (h0 : J [] W) :
    CallsIn F n Try.prog 52 #[.func (.yield l) #[] #[], .pointer (some ⟨Ba, 0, none⟩), .pointer (some ⟨Bw, 0, none⟩), .pointer (some ⟨Bs, 0, none⟩)] W fun e W' => (∃ v, e = .returned v) ∧
      ((∃ ys, ys = Fld.upto (Fld.fbit s.data.toList p) wd ∧ J ys W') ∨ (∃ pre, (∃ k, k ≤ wd ∧ pre = Fld.upto (Fld.fbit s.data.toList p) k) ∧ Jx pre W')) := by
  refine callsIn_of_wp Try.func52 rfl hF ?_ hro
  simp only [Try.ntmps52, List.size_toArray, List.length_cons, List.length_nil, Nat.reduceAdd, Nat.reduceSub, Array.replicate_succ, Array.replicate_zero, List.push_toArray, List.append_toArray, List.nil_append, List.cons_append]
  gi_wp2
  gi_loopw [5] (fun i wr => ∃ k : Nat, k ≤ wd ∧ i = .int .i64 ((p + k : Nat) : Int) ∧ J (Fld.upto (Fld.fbit s.data.toList p) k) wr ∧ Mid lo hi W wr)
    (fun i _ => p + wd - (intOf i).toNat)
  case atStart => exact ⟨0, Nat.zero_le _, rfl, h0, Mid.refl _ _ _⟩
  case round =>
    obtain ⟨k, hk, rfl, hJs, hnx⟩ := hrel
    have d1 := hnx _ _ _ ha.1 ha.2 c1
    have d2 := hnx _ _ _ hw.1 hw.2 c2
    have d3 := hnx _ _ _ hb.1 hb.2 c3
    by_cases hlt : k < wd
    · obtain ⟨fn, tmps, assign, body, hy, hR⟩ := hY _ (Fld.fbit s.data.toList p k) wr hJs (by rw [Fld.upto_length]; exact hlt)
      have q1 : (p + k) / 8 < s.size := by omega
      have q2 := bit_walk s (p + k) q1
      have q3 : ((Fld.fbit s.data.toList p k).1 : Int) = (Fld.bit s.data.toList (p + k) : Int) := rfl
      rw [q3] at hy
      have q4 := Fld.upto_succ (Fld.fbit s.data.toList p) k
      rw [← q4] at hR
      clear q3
      have Q4 := Lib.hid q4
      clear q4
      gi_wp2
      refine hR.mono ?_
      rintro e W3 (⟨rfl, hJ3, hk3⟩ | ⟨rfl, hJx3⟩)
      · gi_wp2
        go_roundw
        case rel => exact ⟨k + 1, by omega, by go_num, hJ3, hnx.trans hk3⟩
        case measure => simp [intOf]; omega
      · gi_wp2
        refine bodyPost_ret (results_none rfl _ _ _) rfl ?_
        exact ⟨⟨_, rfl⟩, .inr ⟨_, ⟨k + 1, by omega, rfl⟩, hJx3⟩⟩
    · obtain rfl : k = wd := by omega
      gi_wp2
      go_end0
      exact ⟨⟨_, rfl⟩, .inl ⟨_, rfl, hJs⟩⟩

set_option maxHeartbeats 1000000 in
theorem fieldBits_in (F : Fence) (n : Nat) (hF : F.fn 49) (hro : F.round = none) (s : ByteArray) (p wd : Int) (w : World) :
    CallsIn F n Try.prog 49 #[.string s, .int .i64 p, .int .i64 wd] w fun e w' => e = .returned (.func (.func 52) #[] #[.pointer (some ⟨w.heap.size + 1, 0, none⟩), .pointer (some ⟨w.heap.size + 1 + 1, 0, none⟩), .pointer (some ⟨w.heap.size, 0, none⟩)]) ∧
      w' = ((w.alloc (.cells #[.string s] 9)).alloc (.cells #[.int .i64 p] 3)).alloc (.cells #[.int .i64 wd] 3) := by
  refine callsIn_of_wp Try.func49 rfl hF ?_ hro
  simp only [Try.ntmps49, List.size_toArray, List.length_cons, List.length_nil, Nat.reduceAdd, Nat.reduceSub, Array.replicate_succ, Array.replicate_zero, List.push_toArray, List.append_toArray, List.nil_append, List.cons_append]
  gi_wp2
  go_ret
  exact ⟨rfl, rfl⟩

/-- The iterator of a field hands on its bits, as long as the boxes of its variables stay. -/
theorem fieldBits_stops (F : Fence) (n : Nat) (hF : F.fn 52) (hro : F.round = none) (hn : 1 ≤ n) (lo p wd : Nat) (s : ByteArray) (hs : s.size ≤ 70000) (hin : p + wd ≤ 8 * s.size) (w : World) (hz : w.heap.size = lo + 3)
    (c3 : w.cell? ⟨lo, 0, none⟩ = some (.string s)) (c1 : w.cell? ⟨lo + 1, 0, none⟩ = some (.int .i64 p)) (c2 : w.cell? ⟨lo + 1 + 1, 0, none⟩ = some (.int .i64 wd)) :
    SeqStopsK F n Try.prog 52 #[.pointer (some ⟨lo + 1, 0, none⟩), .pointer (some ⟨lo + 1 + 1, 0, none⟩), .pointer (some ⟨lo, 0, none⟩)] (fun x : Fld.Bit => #[Value.int .u64 (x.1 : Nat)]) (Mid lo (lo + 3))
      (fun ys => ys = Fld.upto (Fld.fbit s.data.toList p) wd) (fun _ => True) wd w := fun l J Jx W hW _ _ hY h0 => by
  have g1 := (hW.cell (p := ⟨lo + 1, 0, none⟩) (by simp; omega)).trans c1
  have g2 := (hW.cell (p := ⟨lo + 1 + 1, 0, none⟩) (by simp; omega)).trans c2
  have g3 := (hW.cell (p := ⟨lo, 0, none⟩) (by simp; omega)).trans c3
  refine (fieldBits1_in F n hF hro hn l (lo + 1) (lo + 1 + 1) lo lo (lo + 3) p wd s hs hin ⟨by omega, by omega⟩ ⟨by omega, by omega⟩ ⟨by omega, by omega⟩ J Jx hY W g1 g2 g3 h0).mono ?_
  rintro e W' ⟨he, h | ⟨pre, _, hj⟩⟩
  · exact ⟨he, .inl h⟩
  · exact ⟨he, .inr ⟨pre, trivial, hj⟩⟩

theorem or_low (m x : Nat) (hm : m < 9223372036854775808) (hx : x < 2) : bits .or .u64 ((m : Int) * 2) (x : Int) = ((2 * m + x : Nat) : Int) := by
  have h := bits_or_u64_nat (m * 2) x (by omega) (by omega)
  have e : m * 2 ||| x = 2 * m + x := by
    have := Nat.two_pow_add_eq_or_of_lt (i := 1) (b := x) (by simpa using hx) m
    rw [Nat.mul_comm]
    simpa using this.symm
  rw [e] at h
  simpa using h

set_option maxRecDepth 100000 in
set_option maxHeartbeats 2000000 in
theorem read_in (F : Fence) (n : Nat) (h1 : F.fn 30) (h2 : F.fn 49) (h3 : F.fn 52) (hro : F.round = none) (hn : 3 ≤ n) (s : ByteArray) (p wd : Nat) (hs : s.size ≤ 70000) (hin : p + wd ≤ 8 * s.size) (hwd : wd ≤ 64) (w : World) :
    CallsIn F n Try.prog 30 #[.string s, .int .i64 p, .int .i64 wd] w fun e W' => e = .returned (.int .u64 (Fld.num s.data.toList p wd : Nat)) ∧ Below w.heap.size w W' := by
  have hn1 : 1 ≤ n := by omega
  refine callsIn_of_wp_marks Try.func30 rfl h1 ?_ hro
  simp only [Try.ntmps30, List.size_toArray, List.length_cons, List.length_nil, Nat.reduceAdd, Nat.reduceSub, Array.replicate_succ, Array.replicate_zero, List.push_toArray, List.append_toArray, List.nil_append, List.cons_append]
  gi_wp2_with (gi_at_call 49; refine (fieldBits_in F (n - 1) h2 hro _ _ _ _).mono ?_; rintro e w' ⟨rfl, rfl⟩)
  have s1 := cell_new_l w (.int .u64 0) 23
  have s2 := cell_new_l (w.alloc (.cells #[.int .u64 0] 23)) (.string s) 9
  have s3 := cell_new_l ((w.alloc (.cells #[.int .u64 0] 23)).alloc (.cells #[.string s] 9)) (.int .i64 p) 3
  have s4 := cell_new_l (((w.alloc (.cells #[.int .u64 0] 23)).alloc (.cells #[.string s] 9)).alloc (.cells #[.int .i64 p] 3)) (.int .i64 wd) 3
  simp only [World.size_alloc] at s2 s3 s4
  have hB0 : Below w.heap.size w ((((w.alloc (.cells #[.int .u64 0] 23)).alloc (.cells #[.string s] 9)).alloc (.cells #[.int .i64 p] 3)).alloc (.cells #[.int .i64 wd] 3)) :=
    ((((Below.refl _ w).alloc (Nat.le_refl _) _).alloc (by simp) _).alloc (by simp; omega) _).alloc (by simp; omega) _
  refine wpIn_rangeFunc_ownF hro hn1 (gf := 52) (lb := #[.pointer (some ⟨w.heap.size + 1 + 1, 0, none⟩), .pointer (some ⟨w.heap.size + 1 + 1 + 1, 0, none⟩), .pointer (some ⟨w.heap.size + 1, 0, none⟩)]) rfl h3 (enters_of Try.func52 (by kernel_rfl) rfl)
    (fieldBits_stops F (n - 1) h3 hro (by omega) (w.heap.size + 1) p wd s hs hin _ (by simp) (cell_alloc_l _ (cell_alloc_l _ s2.1)) (cell_alloc_l _ s3.1) s4.1) (fun h k => h.trans k) (mid_b (by simp)) (Below.refl _ _) (fun _ => rfl)
    (fun pre W => (W.cell? ⟨w.heap.size, 0, none⟩ = some (.int .u64 (Fld.val pre : Nat)) ∧ W.frozen? ⟨w.heap.size, 0, none⟩ = false) ∧ Below w.heap.size w W)
    (fun _ _ _ => False)
    (OwnFrom.and (Own.from (fun s A B row hs hg hr => ⟨cell_kept hs.1 hg hr, (frozen_kept hs.1 hg hr).trans hs.2⟩) _) (ownFrom_below (Nat.le_refl _) (by simp; omega)))
    (fun _ _ _ _ _ hs _ _ => hs)
    ⟨⟨cell_alloc_l _ (cell_alloc_l _ (cell_alloc_l _ s1.1)), frozen_alloc_l _ (cell_alloc_l _ (cell_alloc_l _ s1.1)) (frozen_alloc_l _ (cell_alloc_l _ s1.1) (frozen_alloc_l _ s1.1 s1.2))⟩, hB0⟩
    (fun x => { tmps := #[.string s, .int .i64 p, .int .i64 wd, undef, undef, undef, .int .u64 0, .pointer (some ⟨w.heap.size, 0, none⟩), .int .u64 (x.1 : Nat), .string s, .int .i64 p, .int .i64 wd,
      .func (.func 52) #[] #[.pointer (some ⟨w.heap.size + 1 + 1, 0, none⟩), .pointer (some ⟨w.heap.size + 1 + 1 + 1, 0, none⟩), .pointer (some ⟨w.heap.size + 1, 0, none⟩)], .int .u64 (x.1 : Nat), undef, undef, undef, undef, undef], defers := [] }) ?assign ?body ?done ?stop
  case assign =>
    intro l x W K hK
    gi_wp2
    exact hK
  case body =>
    rintro l pre x W ⟨⟨hc, hf⟩, hB⟩ hl
    have b1 := Fld.val_lt pre
    have b2 : Fld.val pre < 9223372036854775808 := by
      have := Nat.pow_le_pow_right (n := 2) (by omega) (show pre.length ≤ 63 by omega)
      have e : (2 : Nat) ^ 63 = 9223372036854775808 := by decide
      omega
    have b3 := or_low _ _ b2 x.2
    rw [← Fld.val_snoc] at b3
    clear b1
    gi_wp2
    exact ⟨KeepsOthers.setCell _ _ _, (Mid.refl _ _ _).setCell _ _ _ (by omega), ⟨World.cell?_setCell_same' _ _ _ (by rw [hc]; rfl), by rw [World.frozen?_setCell]; exact hf⟩, hB.setCell (p := ⟨w.heap.size, 0, none⟩) (Nat.le_refl _) _⟩
  case done =>
    rintro D ys W hD rfl ⟨⟨hc, _⟩, hB⟩ hK
    gi_wp2
    refine ⟨by simp, .inl ⟨_, _, rfl, run_takeDeferred hK, ?_⟩⟩
    exact ⟨_, results_tmp rfl _ _ _, by rw [Fld.val_fbit]; rfl, hB.trans (belowK_b (w := w) (Nat.le_refl _) W D _ _ (by simp at hD; omega) hK rfl rfl)⟩
  case stop =>
    rintro D c pre W _ _ h _
    exact h.elim
end Go.Proofs.Ytgfjmolihobaeaa
