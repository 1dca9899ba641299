/- The contract of convol's bitsOf over this program: an iterator of the bits of a message. -/
import Derived.RangeFuncNested
import Derived.RangeFuncBound
import Derived.RangeFuncCalls
import Derived.RangeFuncLeaves
import Derived.Shelf.Abstract
import Derived.Shelf.RegionOpen
import Derived.WalkKit
import Derived.OwnWalkIn
import Derived.TacticsInMore
import Derived.LoopNIn
import Derived.LoopIn
import Derived.Lib.Hide
import Derived.Test.YtgfihljledmaaaaCvRef
import Derived.Test.YtgfihljledmaaaaCvBits
namespace Go.Proofs.Ytgfihljledmaaaa
open Go.RowKit Go.Shelf
attribute [local go_sem] Oper.semAt_some
set_option linter.unusedVariables false

/-- The block B still holds the string. -/
def KeepS (B : Nat) (s : ByteArray) (W W' : World) : Prop := Boxed W B 9 (.string s) → Boxed W' B 9 (.string s)
theorem keepS_b {w : World} {B : Nat} {s : ByteArray} (hn : B < w.heap.size) (W : World) (l : Nat) (o o' : Obj) (hl : w.heap.size ≤ l) (h : W.heap[l]? = some o) (hc : o.isCells = false) (_ : o.isWalk = false) : KeepS B s W (W.putObj l o') :=
  fun hb => hb.kept (grownBy_putObj' W l o') (fun e => by cases e; omega)

set_option maxRecDepth 100000 in
set_option maxHeartbeats 2000000 in
theorem bits1_in (F : Fence) (n : Nat) (hF : F.fn 44) (hro : F.round = none) (hn : 1 ≤ n) (l B : Nat) (s : ByteArray) (m : Nat) (hm : s.size = m) (hs : m ≤ 1100) (g : Nat → Cv.Bit) (hg : ∀ i, (g i).1 = Cv.mb (Gal.co s.data.toList) m i) (J Jx : List Cv.Bit → World → Prop)
    (hY : ∀ pre x W, J pre W → pre.length < 8 * m + 6 → YieldAt F (n - 1) Try.prog l #[.int .i64 (x.1 : Nat)] W fun e W' =>
      (e = .returned (.bool true) ∧ J (pre ++ [x]) W' ∧ KeepS B s W W') ∨ (e = .returned (.bool false) ∧ Jx (pre ++ [x]) W'))
    (W : World) (hb : Boxed W B 9 (.string s)) (h0 : J [] W) :
    CallsIn F n Try.prog 44 #[.func (.yield l) #[] #[], .pointer (some ⟨B, 0, none⟩)] W fun e W' => (∃ v, e = .returned v) ∧
      ((∃ ys, ys = Cv.upto g (8 * m + 6) ∧ J ys W') ∨ (∃ pre, (∃ k, pre = Cv.upto g k) ∧ Jx pre W')) := by
  have HM := Lib.hid hm
  have BY := Lib.hid (fun i h => byte_co s i h)
  have MA := Lib.hid (fun i j hi hj => (hg (8 * i + j)).trans (mb_at (Gal.co s.data.toList) m i j hi hj))
  have MT := Lib.hid (fun i hi => (hg i).trans (mb_tail (Gal.co s.data.toList) m i hi))
  have BP := Lib.hid (fun i j => bit_parts (Gal.co s.data.toList i) j)
  have HY := Lib.hid hY
  have c0 := hb.cell
  clear hY hg
  refine callsIn_of_wp Try.func44 rfl hF ?_ hro
  simp only [Try.ntmps44, List.size_toArray, List.length_cons, List.length_nil, Nat.reduceAdd, Nat.reduceSub, Array.replicate_succ, Array.replicate_zero, List.push_toArray, List.append_toArray, List.nil_append, List.cons_append]
  gi_wp2
  clear hm c0
  gi_loopw [7] (fun x wr => ∃ i : Nat, i ≤ m ∧ x = .int .i64 (i : Nat) ∧ J (Cv.upto g (8 * i)) wr ∧ Boxed wr B 9 (.string s)) (fun x _ => m - (intOf x).toNat)
  case atStart => exact ⟨0, Nat.zero_le _, rfl, h0, hb⟩
  case round =>
    obtain ⟨i, hi, rfl, hJ, hb2⟩ := hrel
    have HJ := Lib.hid hJ
    have HB := Lib.hid hb2
    clear hJ hb2 hb h0
    by_cases hlt : i < m
    · have is : i < s.size := by rw [HM.out]; exact hlt
      have bi := BY.out i is
      obtain ⟨c, hc⟩ : ∃ c, (Gal.co s.data.toList i).toNat = c := ⟨_, rfl⟩
      have HC := Lib.hid hc
      rw [hc] at bi
      have c256 : c < 256 := by rw [← hc]; exact (Gal.co s.data.toList i).isLt
      have l1 : decide ((i : Int) < (m : Int)) = true := by simp; omega
      clear hc
      gi_wp2
      gi_loopw [4] (fun x wr => ∃ j : Nat, j ≤ 8 ∧ x = .int .i64 ((7 : Int) - (j : Int)) ∧ J (Cv.upto g (8 * i + j)) wr ∧ Boxed wr B 9 (.string s)) (fun x _ => (1 + intOf x).toNat)
      case atStart => exact ⟨0, Nat.zero_le _, rfl, HJ.out, HB.out⟩
      case round =>
        obtain ⟨j, hj, rfl, hJ, hb2⟩ := hrel
        by_cases hlj : j < 8
        · obtain ⟨d, hd⟩ : ∃ d, 7 - j = d := ⟨_, rfl⟩
          rw [show (7 : Int) - (j : Int) = (d : Int) by omega]
          obtain ⟨q, hq, q256, hqu⟩ := BP.out i j
          rw [hd, HC.out] at hq
          have sh := div_cast c d q hq
          have ma := MA.out i j hlt hlj
          rw [← hqu] at ma
          obtain ⟨u, hu⟩ : ∃ u, q % 2 = u := ⟨_, rfl⟩
          rw [hu] at ma
          have an := i64_and q 1 (by omega) (by omega)
          rw [Nat.and_one_is_mod, hu, show ((1 : Nat) : Int) = 1 from rfl] at an
          have u2 : u < 2 := by omega
          have d8 : d < 8 := by omega
          obtain ⟨fn, tmps, assign, body, hy, hR⟩ := HY.out _ (g (8 * i + j)) wr hJ (by rw [Cv.upto_length]; omega)
          rw [← Cv.upto_succ] at hR
          rw [ma] at hy
          have HK := Lib.hid (show (d : Int) - 1 = 7 - ((j + 1 : Nat) : Int) by omega)
          have d0 : decide ((0 : Int) ≤ (d : Int)) = true := by simp
          have cS := hb2.cell
          clear HJ HB hd hq hqu hu ma BP MA MT BY HY
          gi_wp2
          refine hR.mono ?_
          rintro e W3 (⟨rfl, hJ3, hk3⟩ | ⟨rfl, hJx3⟩)
          · have HB3 := Lib.hid (hk3 hb2)
            have HJ3 := Lib.hid hJ3
            clear hk3 hJ3 hb2 hJ cS
            gi_wp2
            go_roundw
            case rel => exact ⟨j + 1, by omega, by rw [HK.out], HJ3.out, HB3.out⟩
            case measure => simp [intOf]; omega
          · gi_wp2
            refine bodyPost_ret (results_none rfl _ _ _) rfl ?_
            exact ⟨⟨_, rfl⟩, .inr ⟨_, ⟨8 * i + j + 1, rfl⟩, hJx3⟩⟩
        · have j8 : j = 8 := by omega
          have d0 : decide ((0 : Int) ≤ (7 : Int) - (j : Int)) = false := by simp; omega
          have HJ2 := Lib.hid (show J (Cv.upto g (8 * (i + 1))) wr by rw [show 8 * (i + 1) = 8 * i + j by omega]; exact hJ)
          have HB2 := Lib.hid hb2
          clear hJ hb2 HJ HB j8 BP MA MT BY HY
          gi_wp2
          go_roundw
          case rel => exact ⟨i + 1, by omega, by go_num, HJ2.out, HB2.out⟩
          case measure => simp [intOf]; omega
    · have l1 : decide ((i : Int) < (m : Int)) = false := by simp; omega
      have HI := Lib.hid (show i = m by omega)
      have sm := HM.out
      gi_wp2
      gi_loopw [25] (fun x wr => ∃ j : Nat, j ≤ 6 ∧ x = .int .i64 (j : Nat) ∧ J (Cv.upto g (8 * m + j)) wr) (fun x _ => 6 - (intOf x).toNat)
      case atStart => exact ⟨0, Nat.zero_le _, rfl, by have := HJ.out; rw [HI.out] at this; exact this⟩
      case round =>
        obtain ⟨j, hj, rfl, hJ⟩ := hrel
        by_cases hlj : j < 6
        · have l2 : decide ((j : Int) < 6) = true := by simp; omega
          have mt := MT.out (8 * m + j) (by omega)
          obtain ⟨fn, tmps, assign, body, hy, hR⟩ := HY.out _ (g (8 * m + j)) wr hJ (by rw [Cv.upto_length]; omega)
          rw [← Cv.upto_succ] at hR
          rw [mt, show ((0 : Nat) : Int) = 0 from rfl] at hy
          clear HJ HB mt BP MA MT BY HY
          gi_wp2
          refine hR.mono ?_
          rintro e W3 (⟨rfl, hJ3, hk3⟩ | ⟨rfl, hJx3⟩)
          · have HJ3 := Lib.hid hJ3
            clear hk3 hJ3 hJ
            gi_wp2
            go_roundw
            case rel => exact ⟨j + 1, by omega, by go_num, HJ3.out⟩
            case measure => simp [intOf]; omega
          · gi_wp2
            refine bodyPost_ret (results_none rfl _ _ _) rfl ?_
            exact ⟨⟨_, rfl⟩, .inr ⟨_, ⟨8 * m + j + 1, rfl⟩, hJx3⟩⟩
        · have l2 : decide ((j : Int) < 6) = false := by simp; omega
          have HJ6 := Lib.hid (show J (Cv.upto g (8 * m + 6)) wr by rw [show 8 * m + 6 = 8 * m + j by omega]; exact hJ)
          clear hJ HJ HB BP MA MT BY HY
          gi_wp2
          go_end0
          exact ⟨⟨_, rfl⟩, .inl ⟨_, rfl, HJ6.out⟩⟩
end Go.Proofs.Ytgfihljledmaaaa
