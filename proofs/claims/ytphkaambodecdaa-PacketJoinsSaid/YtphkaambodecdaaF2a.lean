/- FldMath, FldRead, StillIn, FldWrite of layer 2 as one text, under names of their own. -/
import Derived.RangeFuncNested
import Derived.RangeFuncBound
import Derived.RangeFuncCalls
import Derived.RangeFuncLeaves
import Derived.Shelf.Abstract
import Derived.Shelf.RegionOpen
import Derived.WalkKit
import Derived.OwnWalkIn
import Derived.TacticsInMore
import Derived.LoopNIn
import Derived.LoopIn
import Derived.Lib.Hide
import Derived.Lib.BitFns
import Derived.Test.YtphkaambodecdaaChecked
import Derived.StillTailTactics
import Derived.OrdersIn
import Derived.TacticsIn
import Derived.Lib.QuoteBits
import Derived.Laws.BitsAllLaws
/- Bits of strings of bytes: plain mathematics. -/
namespace Go.Proofs.Ytphkaambodecdaa
namespace Fld
/-- Bit i of a string: bit 0 is the highest one of the first byte. -/
def bit (l : List UInt8) (i : Nat) : Nat := (l.getD (i / 8) 0).toNat / 2 ^ (7 - i % 8) % 2
theorem bit_lt (l : List UInt8) (i : Nat) : bit l i < 2 := by unfold bit; omega
/-- The number of a field. -/
def num (l : List UInt8) (p : Nat) : Nat → Nat
  | 0 => 0
  | k + 1 => 2 * num l p k + bit l (p + k)
theorem num_lt (l : List UInt8) (p : Nat) : ∀ k, num l p k < 2 ^ k
  | 0 => by simp [num]
  | k + 1 => by
    have a := num_lt l p k
    have b := bit_lt l (p + k)
    have e : 2 ^ (k + 1) = 2 * 2 ^ k := by rw [Nat.pow_succ]; omega
    unfold num
    omega
/-- Bits as they come. -/
abbrev Bit := { x : Nat // x < 2 }
def val (xs : List Bit) : Nat := xs.foldl (fun n x => 2 * n + x.1) 0
theorem val_nil : val [] = 0 := rfl
theorem val_snoc (xs : List Bit) (x : Bit) : val (xs ++ [x]) = 2 * val xs + x.1 := by unfold val; simp
theorem val_lt (xs : List Bit) : val xs < 2 ^ xs.length := by
  suffices h : ∀ (xs : List Bit) (n k : Nat), n < 2 ^ k → xs.foldl (fun n x => 2 * n + x.1) n < 2 ^ (k + xs.length) by
    have := h xs 0 0 (by simp)
    simpa [val] using this
  intro xs
  induction xs with
  | nil => intro n k h; simpa using h
  | cons x xs ih =>
    intro n k h
    have e : 2 ^ (k + 1) = 2 * 2 ^ k := by rw [Nat.pow_succ]; omega
    have hx := x.2
    have := ih (2 * n + x.1) (k + 1) (by omega)
    rw [List.foldl_cons, List.length_cons, show k + (xs.length + 1) = k + 1 + xs.length by omega]
    exact this
theorem pow_le_64 {k : Nat} (h : k ≤ 64) : 2 ^ k ≤ 18446744073709551616 := by
  have := Nat.pow_le_pow_right (n := 2) (by omega) h
  simpa using this
/-- The first k of f. -/
def upto {α : Type} (f : Nat → α) (k : Nat) : List α := (List.range k).map f
theorem upto_succ {α : Type} (f : Nat → α) (k : Nat) : upto f (k + 1) = upto f k ++ [f k] := by simp [upto, List.range_succ]
theorem upto_length {α : Type} (f : Nat → α) (k : Nat) : (upto f k).length = k := by simp [upto]
def fbit (l : List UInt8) (p k : Nat) : Bit := ⟨bit l (p + k), bit_lt _ _⟩
theorem val_fbit (l : List UInt8) (p : Nat) : ∀ k, val (upto (fbit l p) k) = num l p k
  | 0 => rfl
  | k + 1 => by rw [upto_succ, val_snoc, val_fbit l p k]; rfl
/-- Bit k from above of a number of width w. -/
def nbit (v w k : Nat) : Bit := ⟨v / 2 ^ (w - 1 - k) % 2, by omega⟩
/-- A byte with bit d (0 is the lowest one) set to x. -/
def setB (c d x : Nat) : Nat := c - c / 2 ^ d % 2 * 2 ^ d + x * 2 ^ d
/-- A string with bit i set to x. -/
def set (l : List UInt8) (i x : Nat) : List UInt8 := l.set (i / 8) (UInt8.ofNat (setB (l.getD (i / 8) 0).toNat (7 - i % 8) x))
theorem set_length (l : List UInt8) (i x : Nat) : (set l i x).length = l.length := by unfold set; simp
theorem set_at (l : List UInt8) (i x : Nat) (h : i / 8 < l.length) : (set l i x).getD (i / 8) 0 = UInt8.ofNat (setB (l.getD (i / 8) 0).toNat (7 - i % 8) x) := by
  unfold set
  rw [List.getD_eq_getElem?_getD, List.getElem?_set_self h]
  rfl
theorem set_off (l : List UInt8) (i x j : Nat) (h : j ≠ i / 8) : (set l i x).getD j 0 = l.getD j 0 := by
  unfold set
  rw [List.getD_eq_getElem?_getD, List.getElem?_set_ne (by omega), ← List.getD_eq_getElem?_getD]
/-- A string with the first k bits of a field of width w set to those of v. -/
def put (l : List UInt8) (p w v : Nat) : Nat → List UInt8
  | 0 => l
  | k + 1 => set (put l p w v k) (p + k) (v / 2 ^ (w - 1 - k) % 2)
theorem put_length (l : List UInt8) (p w v : Nat) : ∀ k, (put l p w v k).length = l.length
  | 0 => rfl
  | k + 1 => by unfold put; rw [set_length, put_length l p w v k]
/-- A string with bits put one after the other. -/
def puts (l : List UInt8) (p : Nat) : List Bit → List UInt8
  | [] => l
  | x :: xs => puts (set l p x.1) (p + 1) xs
theorem puts_snoc (x : Bit) : ∀ (xs : List Bit) (l : List UInt8) (p : Nat), puts l p (xs ++ [x]) = set (puts l p xs) (p + xs.length) x.1
  | [], _, _ => rfl
  | y :: ys, l, p => by
    rw [List.cons_append, puts, puts, puts_snoc x ys, List.length_cons, show p + 1 + ys.length = p + (ys.length + 1) by omega]
theorem puts_length : ∀ (xs : List Bit) (l : List UInt8) (p : Nat), (puts l p xs).length = l.length
  | [], _, _ => rfl
  | y :: ys, l, p => by rw [puts, puts_length ys, set_length]
theorem puts_nbit (l : List UInt8) (p w v : Nat) : ∀ k, puts l p (upto (nbit v w) k) = put l p w v k
  | 0 => rfl
  | k + 1 => by rw [upto_succ, puts_snoc, upto_length, puts_nbit l p w v k]; rfl
end Fld
end Go.Proofs.Ytphkaambodecdaa
/- The contracts of package fields' iterators and of read over this program. -/
namespace Go.Proofs.Ytphkaambodecdaa
open Go.RowKit Go.Shelf
attribute [local go_sem] Oper.semAt_some
set_option linter.unusedVariables false

theorem f2_cell_new_l (w : World) (v : Value) (t : TypeId) : (w.alloc (.cells #[v] t)).cell? ⟨w.heap.size, 0, none⟩ = some v ∧ (w.alloc (.cells #[v] t)).frozen? ⟨w.heap.size, 0, none⟩ = false := by
  constructor <;> go_simp
theorem cell_alloc_l {W : World} {a : Addr} {v : Value} (o : Obj) (h : W.cell? a = some v) : (W.alloc o).cell? a = some v := cell_kept h (World.grownBy_alloc W o none) (fun r e => by cases e)
theorem frozen_alloc_l {W : World} {a : Addr} {v : Value} (o : Obj) (h : W.cell? a = some v) (hf : W.frozen? a = false) : (W.alloc o).frozen? a = false := (frozen_kept h (World.grownBy_alloc W o none) (fun r e => by cases e)).trans hf
/-- WHAT A ROUND KEEPS: the cells of the blocks from lo to hi. -/
def Mid (lo hi : Nat) (W W' : World) : Prop := ∀ b o v, lo ≤ b → b < hi → W.cell? ⟨b, o, none⟩ = some v → W'.cell? ⟨b, o, none⟩ = some v
theorem Mid.refl (lo hi : Nat) (W : World) : Mid lo hi W W := fun _ _ _ _ _ h => h
theorem Mid.trans {lo hi : Nat} {A B C : World} (h : Mid lo hi A B) (k : Mid lo hi B C) : Mid lo hi A C := fun b o v a c d => k b o v a c (h b o v a c d)
theorem Mid.setCell {lo hi : Nat} {A B : World} (h : Mid lo hi A B) (b o : Nat) (v : Value) (hb : b < lo ∨ hi ≤ b) : Mid lo hi A (B.setCell ⟨b, o, none⟩ v) := fun b' o' v' h1 h2 h3 => by
  exact (World.cell?_setCell_other (h := by intro e; cases e; omega) ..).trans (h b' o' v' h1 h2 h3)
theorem mid_b {lo hi : Nat} {w : World} (hn : hi ≤ w.heap.size) (W : World) (l : Nat) (o o' : Obj) (hl : w.heap.size ≤ l) (h : W.heap[l]? = some o) (hc : o.isCells = false) (_ : o.isWalk = false) : Mid lo hi W (W.putObj l o') :=
  fun b q v _ _ hv => cell_kept hv (grownBy_putObj' W l o') (fun r e => by cases e; exact ⟨_, h, hc⟩)

theorem f2_byte_at (s : ByteArray) (i : Nat) (h : i < s.size) : s.data.toList.getD i 0 = s[i] := by
  have h' : i < s.data.toList.length := by simpa using h
  rw [List.getD_eq_getElem?_getD, List.getElem?_eq_getElem h']
  rfl
theorem bit_walk (s : ByteArray) (i : Nat) (h : i / 8 < s.size) : bits .and .u64 (IntKind.u64.wrap ((s[i / 8].toNat : Int) / 2 ^ (7 - i % 8))) 1 = (Fld.bit s.data.toList i : Int) := by
  have b : s[i / 8].toNat < 256 := s[i / 8].toNat_lt
  have d : s[i / 8].toNat / 2 ^ (7 - i % 8) ≤ s[i / 8].toNat := Nat.div_le_self _ _
  have e : ((s[i / 8].toNat : Int) / 2 ^ (7 - i % 8)) = ((s[i / 8].toNat / 2 ^ (7 - i % 8) : Nat) : Int) := by
    rw [Int.natCast_ediv]; simp
  rw [e]
  unfold Fld.bit
  rw [f2_byte_at s _ h]
  generalize s[i / 8].toNat / 2 ^ (7 - i % 8) = q at *
  have e2 : IntKind.u64.wrap (q : Int) = (q : Int) := by rw [IntKind.wrap_u64]; omega
  rw [e2]
  have := bits_and_u64_nat q 1 (by omega) (by omega)
  rw [Nat.and_one_is_mod] at this
  exact this

set_option maxRecDepth 100000 in
set_option maxHeartbeats 2000000 in
theorem fieldBits1_in (F : Fence) (n : Nat) (hF : F.fn 80) (hro : F.round = none) (hn : 1 ≤ n) (l Ba Bw Bs lo hi p wd : Nat) (s : ByteArray) (hs : s.size ≤ 70000) (hin : p + wd ≤ 8 * s.size)
    (ha : lo ≤ Ba ∧ Ba < hi) (hw : lo ≤ Bw ∧ Bw < hi) (hb : lo ≤ Bs ∧ Bs < hi) (J Jx : List Fld.Bit → World → Prop)
    (hY : ∀ pre x W, J pre W → pre.length < wd → YieldAt F (n - 1) Try.prog l #[.int .u64 (x.1 : Nat)] W fun e W' =>
      (e = .returned (.bool true) ∧ J (pre ++ [x]) W' ∧ Mid lo hi W W') ∨ (e = .returned (.bool false) ∧ Jx (pre ++ [x]) W'))
    (W : World) (c1 : W.cell? ⟨Ba, 0, none⟩ = some (.int .i64 p)) (c2 : W.cell? ⟨Bw, 0, none⟩ = some (.int .i64 wd)) (c3 : W.cell? ⟨Bs, 0, none⟩ = some (.string s)) (h0 : J [] W) :
    CallsIn F n Try.prog 80 #[.func (.yield l) #[] #[], .pointer (some ⟨Ba, 0, none⟩), .pointer (some ⟨Bw, 0, none⟩), .pointer (some ⟨Bs, 0, none⟩)] W fun e W' => (∃ v, e = .returned v) ∧
      ((∃ ys, ys = Fld.upto (Fld.fbit s.data.toList p) wd ∧ J ys W') ∨ (∃ pre, (∃ k, k ≤ wd ∧ pre = Fld.upto (Fld.fbit s.data.toList p) k) ∧ Jx pre W')) := by
  refine callsIn_of_wp Try.func80 rfl hF ?_ hro
  simp only [Try.ntmps80, List.size_toArray, List.length_cons, List.length_nil, Nat.reduceAdd, Nat.reduceSub, Array.replicate_succ, Array.replicate_zero, List.push_toArray, List.append_toArray, List.nil_append, List.cons_append]
  gi_wp2
  gi_loopw [5] (fun i wr => ∃ k : Nat, k ≤ wd ∧ i = .int .i64 ((p + k : Nat) : Int) ∧ J (Fld.upto (Fld.fbit s.data.toList p) k) wr ∧ Mid lo hi W wr)
    (fun i _ => p + wd - (intOf i).toNat)
  case atStart => exact ⟨0, Nat.zero_le _, rfl, h0, Mid.refl _ _ _⟩
  case round =>
    obtain ⟨k, hk, rfl, hJs, hnx⟩ := hrel
    have d1 := hnx _ _ _ ha.1 ha.2 c1
    have d2 := hnx _ _ _ hw.1 hw.2 c2
    have d3 := hnx _ _ _ hb.1 hb.2 c3
    by_cases hlt : k < wd
    · obtain ⟨fn, tmps, assign, body, hy, hR⟩ := hY _ (Fld.fbit s.data.toList p k) wr hJs (by rw [Fld.upto_length]; exact hlt)
      have q1 : (p + k) / 8 < s.size := by omega
      have q2 := bit_walk s (p + k) q1
      have q3 : ((Fld.fbit s.data.toList p k).1 : Int) = (Fld.bit s.data.toList (p + k) : Int) := rfl
      rw [q3] at hy
      have q4 := Fld.upto_succ (Fld.fbit s.data.toList p) k
      rw [← q4] at hR
      clear q3
      have Q4 := Lib.hid q4
      clear q4
      gi_wp2
      refine hR.mono ?_
      rintro e W3 (⟨rfl, hJ3, hk3⟩ | ⟨rfl, hJx3⟩)
      · gi_wp2
        go_roundw
        case rel => exact ⟨k + 1, by omega, by go_num, hJ3, hnx.trans hk3⟩
        case measure => simp [intOf]; omega
      · gi_wp2
        refine bodyPost_ret (results_none rfl _ _ _) rfl ?_
        exact ⟨⟨_, rfl⟩, .inr ⟨_, ⟨k + 1, by omega, rfl⟩, hJx3⟩⟩
    · obtain rfl : k = wd := by omega
      gi_wp2
      go_end0
      exact ⟨⟨_, rfl⟩, .inl ⟨_, rfl, hJs⟩⟩

set_option maxHeartbeats 1000000 in
theorem fieldBits_in (F : Fence) (n : Nat) (hF : F.fn 78) (hro : F.round = none) (s : ByteArray) (p wd : Int) (w : World) :
    CallsIn F n Try.prog 78 #[.string s, .int .i64 p, .int .i64 wd] w fun e w' => e = .returned (.func (.func 80) #[] #[.pointer (some ⟨w.heap.size + 1, 0, none⟩), .pointer (some ⟨w.heap.size + 1 + 1, 0, none⟩), .pointer (some ⟨w.heap.size, 0, none⟩)]) ∧
      w' = ((w.alloc (.cells #[.string s] 9)).alloc (.cells #[.int .i64 p] 3)).alloc (.cells #[.int .i64 wd] 3) := by
  refine callsIn_of_wp Try.func78 rfl hF ?_ hro
  simp only [Try.ntmps78, List.size_toArray, List.length_cons, List.length_nil, Nat.reduceAdd, Nat.reduceSub, Array.replicate_succ, Array.replicate_zero, List.push_toArray, List.append_toArray, List.nil_append, List.cons_append]
  gi_wp2
  go_ret
  exact ⟨rfl, rfl⟩

/-- The iterator of a field hands on its bits, as long as the boxes of its variables stay. -/
theorem fieldBits_stops (F : Fence) (n : Nat) (hF : F.fn 80) (hro : F.round = none) (hn : 1 ≤ n) (lo p wd : Nat) (s : ByteArray) (hs : s.size ≤ 70000) (hin : p + wd ≤ 8 * s.size) (w : World) (hz : w.heap.size = lo + 3)
    (c3 : w.cell? ⟨lo, 0, none⟩ = some (.string s)) (c1 : w.cell? ⟨lo + 1, 0, none⟩ = some (.int .i64 p)) (c2 : w.cell? ⟨lo + 1 + 1, 0, none⟩ = some (.int .i64 wd)) :
    SeqStopsK F n Try.prog 80 #[.pointer (some ⟨lo + 1, 0, none⟩), .pointer (some ⟨lo + 1 + 1, 0, none⟩), .pointer (some ⟨lo, 0, none⟩)] (fun x : Fld.Bit => #[Value.int .u64 (x.1 : Nat)]) (Mid lo (lo + 3))
      (fun ys => ys = Fld.upto (Fld.fbit s.data.toList p) wd) (fun _ => True) wd w := fun l J Jx W hW _ _ hY h0 => by
  have g1 := (hW.cell (p := ⟨lo + 1, 0, none⟩) (by simp; omega)).trans c1
  have g2 := (hW.cell (p := ⟨lo + 1 + 1, 0, none⟩) (by simp; omega)).trans c2
  have g3 := (hW.cell (p := ⟨lo, 0, none⟩) (by simp; omega)).trans c3
  refine (fieldBits1_in F n hF hro hn l (lo + 1) (lo + 1 + 1) lo lo (lo + 3) p wd s hs hin ⟨by omega, by omega⟩ ⟨by omega, by omega⟩ ⟨by omega, by omega⟩ J Jx hY W g1 g2 g3 h0).mono ?_
  rintro e W' ⟨he, h | ⟨pre, _, hj⟩⟩
  · exact ⟨he, .inl h⟩
  · exact ⟨he, .inr ⟨pre, trivial, hj⟩⟩

theorem or_low (m x : Nat) (hm : m < 9223372036854775808) (hx : x < 2) : bits .or .u64 ((m : Int) * 2) (x : Int) = ((2 * m + x : Nat) : Int) := by
  have h := bits_or_u64_nat (m * 2) x (by omega) (by omega)
  have e : m * 2 ||| x = 2 * m + x := by
    have := Nat.two_pow_add_eq_or_of_lt (i := 1) (b := x) (by simpa using hx) m
    rw [Nat.mul_comm]
    simpa using this.symm
  rw [e] at h
  simpa using h

set_option maxRecDepth 100000 in
set_option maxHeartbeats 2000000 in
theorem read_in (F : Fence) (n : Nat) (h1 : F.fn 72) (h2 : F.fn 78) (h3 : F.fn 80) (hro : F.round = none) (hn : 3 ≤ n) (s : ByteArray) (p wd : Nat) (hs : s.size ≤ 70000) (hin : p + wd ≤ 8 * s.size) (hwd : wd ≤ 64) (w : World) :
    CallsIn F n Try.prog 72 #[.string s, .int .i64 p, .int .i64 wd] w fun e W' => e = .returned (.int .u64 (Fld.num s.data.toList p wd : Nat)) ∧ Below w.heap.size w W' := by
  have hn1 : 1 ≤ n := by omega
  refine callsIn_of_wp_marks Try.func72 rfl h1 ?_ hro
  simp only [Try.ntmps72, List.size_toArray, List.length_cons, List.length_nil, Nat.reduceAdd, Nat.reduceSub, Array.replicate_succ, Array.replicate_zero, List.push_toArray, List.append_toArray, List.nil_append, List.cons_append]
  gi_wp2_with (gi_at_call 78; refine (fieldBits_in F (n - 1) h2 hro _ _ _ _).mono ?_; rintro e w' ⟨rfl, rfl⟩)
  have s1 := f2_cell_new_l w (.int .u64 0) 107
  have s2 := f2_cell_new_l (w.alloc (.cells #[.int .u64 0] 107)) (.string s) 9
  have s3 := f2_cell_new_l ((w.alloc (.cells #[.int .u64 0] 107)).alloc (.cells #[.string s] 9)) (.int .i64 p) 3
  have s4 := f2_cell_new_l (((w.alloc (.cells #[.int .u64 0] 107)).alloc (.cells #[.string s] 9)).alloc (.cells #[.int .i64 p] 3)) (.int .i64 wd) 3
  simp only [World.size_alloc] at s2 s3 s4
  have hB0 : Below w.heap.size w ((((w.alloc (.cells #[.int .u64 0] 107)).alloc (.cells #[.string s] 9)).alloc (.cells #[.int .i64 p] 3)).alloc (.cells #[.int .i64 wd] 3)) :=
    ((((Below.refl _ w).alloc (Nat.le_refl _) _).alloc (by simp) _).alloc (by simp; omega) _).alloc (by simp; omega) _
  refine wpIn_rangeFunc_ownF hro hn1 (gf := 80) (lb := #[.pointer (some ⟨w.heap.size + 1 + 1, 0, none⟩), .pointer (some ⟨w.heap.size + 1 + 1 + 1, 0, none⟩), .pointer (some ⟨w.heap.size + 1, 0, none⟩)]) rfl h3 (enters_of Try.func80 (by kernel_rfl) rfl)
    (fieldBits_stops F (n - 1) h3 hro (by omega) (w.heap.size + 1) p wd s hs hin _ (by simp) (cell_alloc_l _ (cell_alloc_l _ s2.1)) (cell_alloc_l _ s3.1) s4.1) (fun h k => h.trans k) (mid_b (by simp)) (Below.refl _ _) (fun _ => rfl)
    (fun pre W => (W.cell? ⟨w.heap.size, 0, none⟩ = some (.int .u64 (Fld.val pre : Nat)) ∧ W.frozen? ⟨w.heap.size, 0, none⟩ = false) ∧ Below w.heap.size w W)
    (fun _ _ _ => False)
    (OwnFrom.and (Own.from (fun s A B row hs hg hr => ⟨cell_kept hs.1 hg hr, (frozen_kept hs.1 hg hr).trans hs.2⟩) _) (ownFrom_below (Nat.le_refl _) (by simp; omega)))
    (fun _ _ _ _ _ hs _ _ => hs)
    ⟨⟨cell_alloc_l _ (cell_alloc_l _ (cell_alloc_l _ s1.1)), frozen_alloc_l _ (cell_alloc_l _ (cell_alloc_l _ s1.1)) (frozen_alloc_l _ (cell_alloc_l _ s1.1) (frozen_alloc_l _ s1.1 s1.2))⟩, hB0⟩
    (fun x => { tmps := #[.string s, .int .i64 p, .int .i64 wd, undef, undef, undef, .int .u64 0, .pointer (some ⟨w.heap.size, 0, none⟩), .int .u64 (x.1 : Nat), .string s, .int .i64 p, .int .i64 wd,
      .func (.func 80) #[] #[.pointer (some ⟨w.heap.size + 1 + 1, 0, none⟩), .pointer (some ⟨w.heap.size + 1 + 1 + 1, 0, none⟩), .pointer (some ⟨w.heap.size + 1, 0, none⟩)], .int .u64 (x.1 : Nat), undef, undef, undef, undef, undef], defers := [] }) ?assign ?body ?done ?stop
  case assign =>
    intro l x W K hK
    gi_wp2
    exact hK
  case body =>
    rintro l pre x W ⟨⟨hc, hf⟩, hB⟩ hl
    have b1 := Fld.val_lt pre
    have b2 : Fld.val pre < 9223372036854775808 := by
      have := Nat.pow_le_pow_right (n := 2) (by omega) (show pre.length ≤ 63 by omega)
      have e : (2 : Nat) ^ 63 = 9223372036854775808 := by decide
      omega
    have b3 := or_low _ _ b2 x.2
    rw [← Fld.val_snoc] at b3
    clear b1
    gi_wp2
    exact ⟨KeepsOthers.setCell _ _ _, (Mid.refl _ _ _).setCell _ _ _ (by omega), ⟨World.cell?_setCell_same' _ _ _ (by rw [hc]; rfl), by rw [World.frozen?_setCell]; exact hf⟩, hB.setCell (p := ⟨w.heap.size, 0, none⟩) (Nat.le_refl _) _⟩
  case done =>
    rintro D ys W hD rfl ⟨⟨hc, _⟩, hB⟩ hK
    gi_wp2
    refine ⟨by simp, .inl ⟨_, _, rfl, run_takeDeferred hK, ?_⟩⟩
    exact ⟨_, results_tmp rfl _ _ _, by rw [Fld.val_fbit]; rfl, hB.trans (belowK_b (w := w) (Nat.le_refl _) W D _ _ (by simp at hD; omega) hK rfl rfl)⟩
  case stop =>
    rintro D c pre W _ _ h _
    exact h.elim
end Go.Proofs.Ytphkaambodecdaa
/- A region that draws its order, all of whose operations but a forced tail only read, inside a round of a range over a function (at the wide fence): one walk in the order of the text. -/
namespace Go.Proofs.Ytphkaambodecdaa
section
variable {P : Program} {ops : Array Oper} {md : Region.Mode} {w : World} {l : Nat} {n : Nat}

def noDefer (ops : Array Oper) : Bool := ops.all fun o => match o.op with | .defer _ => false | _ => true
theorem noDefer_spec {o : Oper} {i : Nat} (h : noDefer ops = true) (ho : ops[i]? = some o) : ∀ c, o.op ≠ .defer c := by
  intro c hc
  unfold noDefer at h
  rw [Array.all_eq_true'] at h
  have := h o (Array.mem_of_getElem? ho)
  rw [hc] at this
  cases this

theorem wpIn_of_still {o : Oper} {a : Act} {K : Act → Prop} {K' : Act → World → Prop} {Q' : Exit → Act → World → Prop} (hd : ∀ c, o.op ≠ .defer c) (h : ∀ a, K a → K' a w) (hh : o.still P a w K) : o.wpIn (Fence.wide.inRound l) n P a w K' Q' := by
  unfold Oper.still at hh
  unfold Oper.wpIn
  refine ⟨fun _ _ => trivial, ?_⟩
  rw [Oper.semAt_eq _ _ _ hd]
  generalize (execOp a.eval o).run P w = r at *
  cases r with
  | ok x w' =>
    cases x <;> simp only [Oper.stillUpon] at hh <;> simp only [Oper.uponIn]
    case enter f args =>
      obtain ⟨rfl, v, hc, hn⟩ := hh
      refine ⟨fun hz => (by cases hz), ?_⟩
      have hc' : CallsIn Fence.wide (n - 1) P f args w' (fun e w'' => e = .returned v ∧ w'' = w') := callsIn_wide.2 hc
      have hc2 : CallsIn (Fence.wide.inRound l) (n - 1) P f args w' (fun e w'' => e = .returned v ∧ w'' = w') := hc'
      exact hc2.mono fun e w'' ⟨he, hw⟩ => by subst he; subst hw; exact h _ hn
    all_goals (obtain ⟨rfl, h2⟩ := hh; exact h _ h2)
  | halt x w' => simp only [Oper.stillUpon] at hh

theorem wpOpIn_of_still {i : Nat} {a : Act} {K : Act → Prop} {K' : Act → World → Prop} {Q' : Exit → Act → World → Prop} (hd : noDefer ops = true) (h : ∀ a, K a → K' a w) (hh : stOp P ops w i K a) : wpOpIn (Fence.wide.inRound l) n P ops Q' i K' a w := by
  unfold stOp at hh
  unfold wpOpIn
  split
  · rename_i ho; simp only [ho] at hh; exact h _ hh
  · rename_i o ho
    simp only [ho] at hh
    split
    · rename_i hw; simp only [hw, if_true] at hh; exact wpIn_of_still (noDefer_spec hd ho) h hh
    · rename_i hw; simp only [hw] at hh; exact ⟨fun _ _ => trivial, h _ hh⟩

theorem anyIn_of_head {m g : Nat} {L : Array Bool → Act → Prop} {Q' : Exit → Act → World → Prop} (hd : noDefer ops = true) (hL : ∀ listed a, L listed a → wpAnyIn (Fence.wide.inRound l) n P md ops Q' g listed a w) :
    ∀ (f : Nat) (listed : Array Bool) (a : Act), wpAnyL P md ops w m L f listed a → wpAnyIn (Fence.wide.inRound l) n P md ops Q' (f + g) listed a w
  | 0, listed, a, h => by rw [Nat.zero_add]; exact hL _ _ h
  | f + 1, listed, a, h => by
    rw [show f + 1 + g = (f + g) + 1 by omega]
    exact ⟨fun h0 => absurd h0 h.1, fun i hi => wpOpIn_of_still hd (fun a' h' => anyIn_of_head hd hL f _ a' h') (h.2 i hi).2⟩

theorem anyIn_of_seq {F : Fence} {Q' : Exit → Act → World → Prop} : ∀ (xs : List Oper) (k : Nat) (listed : Array Bool) (a : Act) (w : World), (∀ j, xs[j]? = ops[k + j]?) →
    Region.seqB md ops xs.length k listed = true → wpListIn F n P ops Q' xs a w → wpAnyIn F n P md ops Q' xs.length listed a w
  | [], _, _, _, _, _, hB, h => ⟨by simpa [Region.seqB] using hB, h⟩
  | o :: xs, k, listed, a, w, hl, hB, h => by
    have h0 : ops[k]? = some o := by simpa using (hl 0).symm
    simp only [List.length_cons, Region.seqB, Bool.and_eq_true, decide_eq_true_eq] at hB
    refine ⟨fun h1 => (by rw [hB.1] at h1; cases h1), fun i hi => ?_⟩
    rw [hB.1] at hi
    have hik : i = k := by simpa using hi
    subst hik
    have hw : wpOpIn F n P ops Q' i (wpListIn F n P ops Q' xs) a w := by unfold wpOpIn; simp only [h0]; exact h
    exact wpOpIn_mono (fun a' w' h' => anyIn_of_seq xs (i + 1) _ a' w' (fun j => by have := hl (j + 1); simpa [Nat.add_assoc, Nat.add_comm 1 j] using this) hB.2 h') hw

/-- The law. -/
theorem wpIn_region_still_tail {id : Nat} {Q : Exit → Act → World → Prop} {a : Act} {w : World} {xs : List Oper} (m : Nat) (hm : P.follows .mixedOrders = true) (hd : noDefer xs.toArray = true) (hB : Region.lexTailB .any xs.toArray m = true)
    (h : wpStill P xs.toArray { w with drawn := w.drawn + 1 } (fun a' => wpListIn (Fence.wide.inRound l) n P xs.toArray Q (xs.drop m) a' { w with drawn := w.drawn + 1 }) (xs.take m) a) : (Code.region id xs.toArray true).wpIn (Fence.wide.inRound l) n P Q a w := by
  simp only [Region.lexTailB, Bool.and_eq_true, decide_eq_true_eq] at hB
  obtain ⟨⟨⟨⟨hsel, hn⟩, hs⟩, hc⟩, hlex⟩ := hB
  have hn' : m < xs.length := by simpa using hn
  have htl : (xs.take m).length = m := by simp; omega
  have hdl : (xs.drop m).length = xs.toArray.size - m := by simp
  have inv0 : HeadInv .any xs.toArray m (Array.replicate xs.toArray.size false) :=
    ⟨by simp, fun j oj _ hl => (by rw [getD_replicate_false] at hl; cases hl), fun t _ ht => getD_in (by simpa using ht) (getD_replicate_false _ _)⟩
  have H := wpAnyL_lex (md := .any) (g := xs.toArray.size - m) hsel hs hc hn (xs.take m) 0 _ a (fun j hj => by
    have hj' : j < m := by rw [htl] at hj; exact hj
    simp [hj']) (by simpa using htl) inv0 (by rw [htl]; exact hlex) h
  refine wpIn_region_any hm ?_
  have := anyIn_of_head (Q' := Q) (n := n) (l := l) (g := xs.toArray.size - m) hd (fun listed a' hL => by
    have := anyIn_of_seq (md := .any) (F := Fence.wide.inRound l) (n := n) (Q' := Q) (xs.drop m) m listed a' { w with drawn := w.drawn + 1 } (fun j => by simp [List.getElem?_drop]) (by rw [hdl]; exact hL.1) hL.2
    rwa [hdl] at this) _ _ _ H
  rw [htl, show m + (xs.toArray.size - m) = xs.toArray.size by omega] at this
  exact this
end
end Go.Proofs.Ytphkaambodecdaa
/- The contracts of package fields' numberBits and write over this program. -/
namespace Go.Proofs.Ytphkaambodecdaa
open Go.RowKit Go.Shelf
attribute [local go_sem] Oper.semAt_some
set_option linter.unusedVariables false

theorem nbit_walk (v i : Nat) (hv : v < 18446744073709551616) : bits .and .u64 ((v : Int) / 2 ^ i) 1 = ((v / 2 ^ i % 2 : Nat) : Int) := by
  have d : v / 2 ^ i ≤ v := Nat.div_le_self _ _
  have e : ((v : Int) / 2 ^ i) = ((v / 2 ^ i : Nat) : Int) := by
    rw [Int.natCast_ediv]; simp
  rw [e]
  generalize v / 2 ^ i = q at *
  have := bits_and_u64_nat q 1 (by omega) (by omega)
  rw [Nat.and_one_is_mod] at this
  exact this

set_option maxRecDepth 100000 in
set_option maxHeartbeats 2000000 in
theorem numberBits1_in (F : Fence) (n : Nat) (hF : F.fn 79) (hro : F.round = none) (hn : 1 ≤ n) (l Bw Bv lo hi wd v : Nat) (hv : v < 18446744073709551616) (hwd : wd ≤ 64)
    (hw : lo ≤ Bw ∧ Bw < hi) (hb : lo ≤ Bv ∧ Bv < hi) (J Jx : List Fld.Bit → World → Prop)
    (hY : ∀ pre x W, J pre W → pre.length < wd → YieldAt F (n - 1) Try.prog l #[.int .u64 (x.1 : Nat)] W fun e W' =>
      (e = .returned (.bool true) ∧ J (pre ++ [x]) W' ∧ Mid lo hi W W') ∨ (e = .returned (.bool false) ∧ Jx (pre ++ [x]) W'))
    (W : World) (c1 : W.cell? ⟨Bw, 0, none⟩ = some (.int .i64 wd)) (c2 : W.cell? ⟨Bv, 0, none⟩ = some (.int .u64 v)) (h0 : J [] W) :
    CallsIn F n Try.prog 79 #[.func (.yield l) #[] #[], .pointer (some ⟨Bw, 0, none⟩), .pointer (some ⟨Bv, 0, none⟩)] W fun e W' => (∃ v, e = .returned v) ∧
      ((∃ ys, ys = Fld.upto (Fld.nbit v wd) wd ∧ J ys W') ∨ (∃ pre, (∃ k, k ≤ wd ∧ pre = Fld.upto (Fld.nbit v wd) k) ∧ Jx pre W')) := by
  refine callsIn_of_wp Try.func79 rfl hF ?_ hro
  simp only [Try.ntmps79, List.size_toArray, List.length_cons, List.length_nil, Nat.reduceAdd, Nat.reduceSub, Array.replicate_succ, Array.replicate_zero, List.push_toArray, List.append_toArray, List.nil_append, List.cons_append]
  gi_wp2
  gi_loopw [4] (fun i wr => ∃ k : Nat, k ≤ wd ∧ i = .int .i64 ((wd : Int) - 1 - (k : Int)) ∧ J (Fld.upto (Fld.nbit v wd) k) wr ∧ Mid lo hi W wr)
    (fun i _ => (intOf i + 1).toNat)
  case atStart => exact ⟨0, Nat.zero_le _, by go_num, h0, Mid.refl _ _ _⟩
  case round =>
    obtain ⟨k, hk, rfl, hJs, hnx⟩ := hrel
    have d1 := hnx _ _ _ hw.1 hw.2 c1
    have d2 := hnx _ _ _ hb.1 hb.2 c2
    by_cases hlt : k < wd
    · obtain ⟨fn, tmps, assign, body, hy, hR⟩ := hY _ (Fld.nbit v wd k) wr hJs (by rw [Fld.upto_length]; exact hlt)
      obtain ⟨j, hj⟩ : ∃ j : Nat, wd - 1 - k = j := ⟨_, rfl⟩
      have q2 := nbit_walk v j hv
      have q3 : ((Fld.nbit v wd k).1 : Int) = (v : Int) / 2 ^ j % 2 := by
        show ((v / 2 ^ (wd - 1 - k) % 2 : Nat) : Int) = _
        rw [hj]; simp
      rw [q3] at hy
      have q4 := Fld.upto_succ (Fld.nbit v wd) k
      rw [← q4] at hR
      clear q3
      have Q4 := Lib.hid q4
      clear q4
      have hj2 : (wd : Int) - 1 - (k : Int) = (j : Int) := by omega
      rw [hj2]
      have hj3 : j < 64 := by omega
      have Q5 := Lib.hid hj2
      have Q6 := Lib.hid hj
      clear hj hj2
      gi_wp2
      refine hR.mono ?_
      rintro e W3 (⟨rfl, hJ3, hk3⟩ | ⟨rfl, hJx3⟩)
      · gi_wp2
        go_roundw
        case rel => exact ⟨k + 1, by omega, by have := Q5.out; rw [show (wd : Int) - 1 - ((k + 1 : Nat) : Int) = (j : Int) - 1 by omega], hJ3, hnx.trans hk3⟩
        case measure => simp [intOf]
      · gi_wp2
        refine bodyPost_ret (results_none rfl _ _ _) rfl ?_
        exact ⟨⟨_, rfl⟩, .inr ⟨_, ⟨k + 1, by omega, rfl⟩, hJx3⟩⟩
    · obtain rfl : k = wd := by omega
      have e : (k : Int) - 1 - (k : Int) = -1 := by omega
      rw [e]
      clear e
      gi_wp2
      go_end0
      exact ⟨⟨_, rfl⟩, .inl ⟨_, rfl, hJs⟩⟩

set_option maxHeartbeats 1000000 in
theorem numberBits_in (F : Fence) (n : Nat) (hF : F.fn 77) (hro : F.round = none) (v wd : Int) (w : World) :
    CallsIn F n Try.prog 77 #[.int .u64 v, .int .i64 wd] w fun e w' => e = .returned (.func (.func 79) #[] #[.pointer (some ⟨w.heap.size + 1, 0, none⟩), .pointer (some ⟨w.heap.size, 0, none⟩)]) ∧
      w' = (w.alloc (.cells #[.int .u64 v] 107)).alloc (.cells #[.int .i64 wd] 3) := by
  refine callsIn_of_wp Try.func77 rfl hF ?_ hro
  simp only [Try.ntmps77, List.size_toArray, List.length_cons, List.length_nil, Nat.reduceAdd, Nat.reduceSub, Array.replicate_succ, Array.replicate_zero, List.push_toArray, List.append_toArray, List.nil_append, List.cons_append]
  gi_wp2
  go_ret
  exact ⟨rfl, rfl⟩

/-- The iterator of a number hands on its bits, as long as the boxes of its variables stay. -/
theorem numberBits_stops (F : Fence) (n : Nat) (hF : F.fn 79) (hro : F.round = none) (hn : 1 ≤ n) (lo v wd : Nat) (hv : v < 18446744073709551616) (hwd : wd ≤ 64) (w : World) (hz : w.heap.size = lo + 2)
    (c1 : w.cell? ⟨lo, 0, none⟩ = some (.int .u64 v)) (c2 : w.cell? ⟨lo + 1, 0, none⟩ = some (.int .i64 wd)) :
    SeqStopsK F n Try.prog 79 #[.pointer (some ⟨lo + 1, 0, none⟩), .pointer (some ⟨lo, 0, none⟩)] (fun x : Fld.Bit => #[Value.int .u64 (x.1 : Nat)]) (Mid lo (lo + 2))
      (fun ys => ys = Fld.upto (Fld.nbit v wd) wd) (fun _ => True) wd w := fun l J Jx W hW _ _ hY h0 => by
  have g1 := (hW.cell (p := ⟨lo, 0, none⟩) (by simp; omega)).trans c1
  have g2 := (hW.cell (p := ⟨lo + 1, 0, none⟩) (by simp; omega)).trans c2
  refine (numberBits1_in F n hF hro hn l (lo + 1) lo lo (lo + 2) wd v hv hwd ⟨by omega, by omega⟩ ⟨by omega, by omega⟩ J Jx hY W g2 g1 h0).mono ?_
  rintro e W' ⟨he, h | ⟨pre, _, hj⟩⟩
  · exact ⟨he, .inl h⟩
  · exact ⟨he, .inr ⟨pre, trivial, hj⟩⟩

theorem addr_ne {b o b' o' : Nat} (h : b ≠ b') : (⟨b, o, none⟩ : Addr) ≠ ⟨b', o', none⟩ := fun e => h (congrArg Addr.block e)
theorem addr_ne_off {b o b' o' : Nat} (h : o ≠ o') : (⟨b, o, none⟩ : Addr) ≠ ⟨b', o', none⟩ := fun e => h (congrArg Addr.off e)
theorem setB_all : ∀ y, y < 256 → ∀ d, d < 8 → ∀ x, x < 2 → (y &&& (255 - 2 ^ d)) ||| (x * 2 ^ d) = Fld.setB y d x ∧ Fld.setB y d x < 256 := by decide +kernel
theorem set_walk (y d x : Nat) (hy : y < 256) (hd : d ≤ 7) (hx : x < 2) :
    bits .or .u8 (bits .andNot .u8 (y : Int) (IntKind.u8.wrap (2 ^ d))) (IntKind.u8.wrap (IntKind.u8.wrap (x : Int) * 2 ^ d)) = (Fld.setB y d x : Int) := by
  have p1 : 2 ^ d ≤ 2 ^ 7 := Nat.pow_le_pow_right (by omega) hd
  have e0 : ((2 : Int) ^ d) = ((2 ^ d : Nat) : Int) := by simp
  have p2 : x * 2 ^ d ≤ 1 * 2 ^ 7 := Nat.mul_le_mul (by omega) p1
  have ea : IntKind.u8.wrap ((2 : Int) ^ d) = ((2 ^ d : Nat) : Int) := by
    rw [e0]
    generalize 2 ^ d = t at *
    rw [IntKind.wrap_u8]; omega
  have eb : IntKind.u8.wrap (x : Int) = (x : Int) := by rw [IntKind.wrap_u8]; omega
  have ec : IntKind.u8.wrap ((x : Int) * 2 ^ d) = ((x * 2 ^ d : Nat) : Int) := by
    rw [e0, ← Int.natCast_mul]
    generalize x * 2 ^ d = t at *
    rw [IntKind.wrap_u8]; omega
  rw [ea, eb, ec, u8_andNot_nat y (2 ^ d) hy (by omega)]
  have l : y &&& (255 - 2 ^ d) ≤ y := Nat.and_le_left
  rw [u8_or_nat _ _ (by omega) (by omega), (setB_all y hy d (by omega) x hx).1]

theorem Mid.drew {lo hi : Nat} {A B : World} (h : Mid lo hi A B) : Mid lo hi A B.drew := h
/-- The block b holds the bytes of l in its first cells, and they may be written. -/
def Holds (W : World) (b : Nat) (l : List UInt8) : Prop := ∀ j, j < l.length → W.cell? ⟨b, j, none⟩ = some (.int .u8 ((l.getD j 0).toNat : Nat)) ∧ W.frozen? ⟨b, j, none⟩ = false

set_option maxRecDepth 100000 in
set_option maxHeartbeats 4000000 in
theorem write_in (n : Nat) (hn : 3 ≤ n)
    (b cap p wd v n₀ : Nat) (l : List UInt8) (hl : l.length ≤ 70000) (hin : p + wd ≤ 8 * l.length) (hwd : wd ≤ 64) (hv : v < 18446744073709551616) (w : World) (hb : b < w.heap.size) (hn₀ : n₀ ≤ b) (hh : Holds w b l) :
    CallsIn Fence.wide n Try.prog 71 #[.slice (some ⟨b, 0, none⟩) l.length cap, .int .i64 p, .int .i64 wd, .int .u64 v] w fun e W' => (∃ v, e = .returned v) ∧ Holds W' b (Fld.put l p wd v wd) ∧ Below n₀ w W' := by
  have hn1 : 1 ≤ n := by omega
  refine callsIn_of_wp_marks Try.func71 rfl trivial ?_ rfl
  simp only [Try.ntmps71, List.size_toArray, List.length_cons, List.length_nil, Nat.reduceAdd, Nat.reduceSub, Array.replicate_succ, Array.replicate_zero, List.push_toArray, List.append_toArray, List.nil_append, List.cons_append]
  gi_wp2_with (refine ⟨trivial, ?_⟩; gi_at_call 77; refine (numberBits_in Fence.wide (n - 1) trivial rfl _ _ _).mono ?_; rintro e w' ⟨rfl, rfl⟩)
  have s1 := f2_cell_new_l w (.slice (some ⟨b, 0, none⟩) l.length cap) 73
  have s2 := f2_cell_new_l (w.alloc (.cells #[.slice (some ⟨b, 0, none⟩) l.length cap] 73)) (.int .i64 p) 3
  have s3 := f2_cell_new_l ((w.alloc (.cells #[.slice (some ⟨b, 0, none⟩) l.length cap] 73)).alloc (.cells #[.int .i64 p] 3)) (.int .u64 v) 107
  have s4 := f2_cell_new_l (((w.alloc (.cells #[.slice (some ⟨b, 0, none⟩) l.length cap] 73)).alloc (.cells #[.int .i64 p] 3)).alloc (.cells #[.int .u64 v] 107)) (.int .i64 wd) 3
  simp only [World.size_alloc] at s2 s3 s4
  have hB0 : Below n₀ w ((((w.alloc (.cells #[.slice (some ⟨b, 0, none⟩) l.length cap] 73)).alloc (.cells #[.int .i64 p] 3)).alloc (.cells #[.int .u64 v] 107)).alloc (.cells #[.int .i64 wd] 3)) :=
    ((((Below.refl _ w).alloc (by omega) _).alloc (by simp; omega) _).alloc (by simp; omega) _).alloc (by simp; omega) _
  refine wpIn_rangeFunc_ownF (F := Fence.wide) Fence.wide_round hn1 (gf := 79) (lb := #[.pointer (some ⟨w.heap.size + 1 + 1 + 1, 0, none⟩), .pointer (some ⟨w.heap.size + 1 + 1, 0, none⟩)]) rfl trivial (enters_of Try.func79 (by kernel_rfl) rfl)
    (numberBits_stops Fence.wide (n - 1) trivial rfl (by omega) (w.heap.size + 1 + 1) v wd hv hwd _ (by simp) (cell_alloc_l _ s3.1) s4.1) (fun h k => h.trans k) (mid_b (by simp)) (Below.refl _ _) (fun _ => rfl)
    (fun pre W => ((W.cell? ⟨w.heap.size, 0, none⟩ = some (.slice (some ⟨b, 0, none⟩) l.length cap) ∧ W.cell? ⟨w.heap.size + 1, 0, none⟩ = some (.int .i64 ((p + pre.length : Nat) : Int)) ∧ W.frozen? ⟨w.heap.size + 1, 0, none⟩ = false) ∧ Holds W b (Fld.puts l p pre)) ∧ Below n₀ w W)
    (fun _ _ _ => False)
    (OwnFrom.and (Own.from (fun s A B row hs hg hr => ⟨⟨cell_kept hs.1.1 hg hr, cell_kept hs.1.2.1 hg hr, (frozen_kept hs.1.2.1 hg hr).trans hs.1.2.2⟩, fun j h => ⟨cell_kept (hs.2 j h).1 hg hr, (frozen_kept (hs.2 j h).1 hg hr).trans (hs.2 j h).2⟩⟩) _) (ownFrom_below (by omega) (by simp; omega)))
    (fun _ _ _ _ _ hs _ _ => hs)
    ⟨⟨⟨cell_alloc_l _ (cell_alloc_l _ (cell_alloc_l _ s1.1)), cell_alloc_l _ (cell_alloc_l _ s2.1), frozen_alloc_l _ (cell_alloc_l _ s2.1) (frozen_alloc_l _ s2.1 s2.2)⟩,
      fun j h => ⟨cell_alloc_l _ (cell_alloc_l _ (cell_alloc_l _ (cell_alloc_l _ (hh j h).1))), frozen_alloc_l _ (cell_alloc_l _ (cell_alloc_l _ (cell_alloc_l _ (hh j h).1))) (frozen_alloc_l _ (cell_alloc_l _ (cell_alloc_l _ (hh j h).1)) (frozen_alloc_l _ (cell_alloc_l _ (hh j h).1) (frozen_alloc_l _ (hh j h).1 (hh j h).2)))⟩⟩, hB0⟩
    (fun x => { tmps := #[.slice (some ⟨b, 0, none⟩) l.length cap, .int .i64 p, .int .i64 wd, .int .u64 v, .pointer (some ⟨w.heap.size, 0, none⟩), .pointer (some ⟨w.heap.size + 1, 0, none⟩), undef, undef, .int .u64 (x.1 : Nat), undef, .int .u64 v, .int .i64 wd,
      .func (.func 79) #[] #[.pointer (some ⟨w.heap.size + 1 + 1 + 1, 0, none⟩), .pointer (some ⟨w.heap.size + 1 + 1, 0, none⟩)], .int .u64 (x.1 : Nat), undef, undef, undef, undef, undef, undef, undef, undef, undef, undef, undef, undef, undef, undef, undef, undef, undef, undef, undef, undef, undef, undef], defers := [] }) ?assign ?body ?done ?stop
  case assign =>
    intro l x W K hK
    gi_wp2
    exact hK
  case body =>
    rintro r pre x W ⟨⟨⟨c1, c2, f2⟩, hh⟩, hB⟩ hlen
    obtain ⟨q, hq⟩ : ∃ q, p + pre.length = q := ⟨_, rfl⟩
    rw [hq] at c2
    have q1 : q / 8 < l.length := by omega
    have q2 : q ≤ 600000 := by omega
    have ml := Fld.puts_length pre l p
    obtain ⟨m, hm⟩ : ∃ m, Fld.puts l p pre = m := ⟨_, rfl⟩
    rw [hm] at hh ml
    obtain ⟨c3, f3⟩ := hh (q / 8) (by omega)
    obtain ⟨d, hd⟩ : ∃ d : Nat, 7 - q % 8 = d := ⟨_, rfl⟩
    obtain ⟨j, hj⟩ : ∃ j : Nat, q / 8 = j := ⟨_, rfl⟩
    have hd7 : d ≤ 7 := by omega
    have e1 : IntKind.i64.wrap (j : Int) = (j : Int) := by rw [IntKind.wrap_i64]; omega
    have e2 : 7 - (q : Int) % 8 = (d : Int) := by omega
    have e3 : (q : Int) / 8 = (j : Int) := by omega
    have jl : j < l.length := by omega
    have jl' : (j : Int) < (l.length : Int) := by omega
    rw [hj] at c3 f3
    obtain ⟨y, hy⟩ : ∃ y : Nat, (m.getD j 0).toNat = y := ⟨_, rfl⟩
    have y8 : y < 256 := by rw [← hy]; exact UInt8.toNat_lt _
    rw [hy] at c3
    have HY := Lib.hid hy
    clear hy
    have HD := Lib.hid hd
    have HJ := Lib.hid hj
    have HQ := Lib.hid hq
    have HM := Lib.hid hm
    have HH := Lib.hid hh
    have ML := Lib.hid ml
    clear hd hj hq hm hh ml
    have e4 := set_walk y d x.1 y8 hd7 x.2
    obtain ⟨z, hz⟩ : ∃ z : Nat, Fld.setB y d x.1 = z := ⟨_, rfl⟩
    rw [hz] at e4
    have HZ := Lib.hid hz
    clear hz
    gi_wp2
    refine wpIn_region_still_tail 16 (by kernel_rfl) (by kernel_rfl) (by kernel_rfl) ?_
    simp only [List.take_succ_cons, List.take_zero, List.drop_succ_cons, List.drop_zero]
    repeat still_step
    refine wpStill_nil ?_
    gi_wp2
    have k1 : (⟨b, j, none⟩ : Addr) ≠ ⟨w.heap.size, 0, none⟩ := addr_ne (by omega)
    have k2 : (⟨w.heap.size + 1, 0, none⟩ : Addr) ≠ ⟨w.heap.size, 0, none⟩ := addr_ne (by omega)
    have k3 : (⟨b, j, none⟩ : Addr) ≠ ⟨w.heap.size + 1, 0, none⟩ := addr_ne (by omega)
    refine ⟨((KeepsOthers.setCell _ _ _).trans (KeepsOthers.setCell _ _ _)).trans (KeepsOthers.drew _), (((Mid.refl _ _ _).setCell _ _ _ (by omega)).setCell _ _ _ (by omega)).drew, ⟨⟨?_, ?_, ?_⟩, ?_⟩, ((hB.setCell (p := ⟨b, j, none⟩) hn₀ _).setCell (p := ⟨w.heap.size + 1, 0, none⟩) (by simp; omega) _).drew⟩
    · exact ((World.cell?_setCell_other (h := k2) ..).trans (World.cell?_setCell_other (h := k1) ..)).trans c1
    · have e5 : ((p + (pre ++ [x]).length : Nat) : Int) = (q : Int) + 1 := by have := HQ.out; simp; omega
      rw [e5]
      exact World.cell?_setCell_same' _ _ _ (by rw [World.cell?_setCell_other (h := k3), c2]; rfl)
    · show (World.setCell _ _ _).frozen? _ = _
      rw [World.frozen?_setCell, World.frozen?_setCell]
      exact f2
    · rw [Fld.puts_snoc, HM.out, HQ.out]
      intro i hi
      rw [Fld.set_length] at hi
      have k4 : (⟨w.heap.size + 1, 0, none⟩ : Addr) ≠ ⟨b, i, none⟩ := addr_ne (by omega)
      have e6 := HH.out i hi
      refine ⟨?_, ?_⟩
      · refine (World.cell?_setCell_other (h := k4) ..).trans ?_
        by_cases hij : i = j
        · subst hij
          rw [World.cell?_setCell_same' _ _ _ (by rw [c3]; rfl), ← HJ.out, Fld.set_at _ _ _ (by have := HJ.out; have := ML.out; omega), HJ.out, HY.out, HD.out, HZ.out]
          have hz := HZ.out
          have hz2 := (setB_all y y8 d (by omega) x.1 x.2).2
          rw [UInt8.toNat_ofNat_of_lt' (by rw [← hz]; exact hz2)]
        · rw [World.cell?_setCell_other (h := addr_ne_off (fun e => hij e.symm)), Fld.set_off _ _ _ _ (by have := HJ.out; omega)]
          exact e6.1
      · show (World.setCell _ _ _).frozen? _ = _
        rw [World.frozen?_setCell, World.frozen?_setCell]
        exact e6.2
  case done =>
    rintro D ys W hD rfl ⟨⟨_, hh'⟩, hB⟩ hK
    gi_wp2
    rw [Fld.puts_nbit] at hh'
    refine ⟨by simp, .inl ⟨_, _, rfl, run_takeDeferred hK, ?_⟩⟩
    have hz : w.heap.size ≤ D := by simp at hD; omega
    exact ⟨_, results_none rfl _ _ _, ⟨_, rfl⟩, fun j h => ⟨cell_kept (hh' j h).1 (grownBy_putObj' W D _) (fun r e => by cases e; exact ⟨_, hK, rfl⟩), (frozen_kept (hh' j h).1 (grownBy_putObj' W D _) (fun r e => by cases e; exact ⟨_, hK, rfl⟩)).trans (hh' j h).2⟩, hB.trans (belowK_b (w := w) (by omega) W D _ _ hz hK rfl rfl)⟩
  case stop =>
    rintro D c pre W _ _ h _
    exact h.elim
end Go.Proofs.Ytphkaambodecdaa
