/- Layer 8: the reference's Sequence. -/
import Derived.Test.YtlfnglinalmpjaaMkMath
import Derived.Test.YtlfnglinalmpjaaAppKit
import Derived.Test.YtlfnglinalmpjaaRowKit
import Derived.RangeFuncBox
import Derived.Test.YtlfnglinalmpjaaRegH
namespace Go.Proofs.Ytlfnglinalmpjaa
open Go.RowKit
set_option linter.unusedVariables false

/-- The bits and the bytes of the sequence. -/
def pbv (j : Nat) : BitVec 8 := BitVec.ofNat 8 (Mk.prb j)
def sqv (j : Nat) : BitVec 8 := BitVec.ofNat 8 (Mk.sqb j)
theorem pbv_nat (j : Nat) : (pbv j).toNat = Mk.prb j := by
  have := Mk.prb_lt j
  unfold pbv
  rw [BitVec.toNat_ofNat]
  omega
theorem sqv_nat (j : Nat) : (sqv j).toNat = Mk.sqb j := by
  have := Mk.sqb_lt j
  unfold sqv
  rw [BitVec.toNat_ofNat]
  omega
def seqS (n : Nat) : ByteArray := ⟨(Gal.coefs sqv n).toArray⟩
/-- A slice written out. -/
theorem own_new {w : World} {base n : Nat} {t : TypeId} (vs : List Value) (hn : vs.length = n) (hl : n ≤ maxLen) (hb : base ≤ w.heap.size) : (w.alloc (.cells vs.toArray t)).ownsRow base t 1 (.slice (some ⟨w.heap.size, 0, none⟩) n n) n vs :=
  ⟨by rw [hn, Nat.mul_one], .inr ⟨w.heap.size, n, vs.toArray, rfl, hb, heap_alloc_last w _, Nat.le_refl _, hl, by simp [hn], by simp [← hn]⟩⟩
/-- What can be read of a row of bytes. -/
theorem own_reads {w : World} {base e n : Nat} {v : Value} {f : Nat → BitVec 8} (h : w.ownsRow base e 1 v n (vals f n)) (hn : n ≠ 0) : ∃ g cap, v = .slice (some ⟨g, 0, none⟩) n cap ∧ base ≤ g ∧ g < w.heap.size ∧ ∀ j, j < n → w.cell? ⟨g, j, none⟩ = some (.int .u8 ((f j).toNat : Nat)) := by
  have h0 := h
  obtain ⟨hl, h⟩ := h
  rcases h with ⟨hv, q⟩ | ⟨g, c, cur, rfl, hb, hg, hnc, hm, hsz, ht⟩
  · exact absurd q hn
  · refine ⟨g, c, rfl, hb, (Array.getElem?_eq_some_iff.1 hg).1, fun j hj => ?_⟩
    rw [h0.cellAt j (by omega)]
    simp [vals, hj]
theorem vals_first : vals pbv 8 = [.int .u8 1, .int .u8 1, .int .u8 1, .int .u8 1, .int .u8 1, .int .u8 1, .int .u8 1, .int .u8 1] := by
  unfold vals
  rw [show (List.range 8) = [0, 1, 2, 3, 4, 5, 6, 7] from rfl]
  simp only [List.map_cons, List.map_nil, pbv_nat]
  rw [Mk.prb_first 0 (by omega), Mk.prb_first 1 (by omega), Mk.prb_first 2 (by omega), Mk.prb_first 3 (by omega), Mk.prb_first 4 (by omega), Mk.prb_first 5 (by omega), Mk.prb_first 6 (by omega), Mk.prb_first 7 (by omega)]
  rfl
theorem rsequence_no (n : Int) (h : n < 0 ∨ 65536 < n) (w : World) :
    Calls Try.prog 11 #[.int .i64 n] w fun e w' => e = .returned (.tuple #[.string ⟨#[]⟩, .int .i64 2]) ∧ w = w' := by
  by_cases g : n < 0
  · have t1 : decide (n < 0) = true := by simp; omega
    go_enter Try.func11, Try.ntmps11
    go_wp2_with fail
    go_ret2
    exact ⟨rfl, rfl⟩
  · have t1 : decide (n < 0) = false := by simp; omega
    have t2 : decide (65536 < n) = true := by simp; omega
    go_enter Try.func11, Try.ntmps11
    go_wp2_with fail
    go_ret2
    exact ⟨rfl, rfl⟩
structure SqRegion (g k cap k1 k3 k5 k8 b1 b3 b5 b8 z1 z2 z3 : Nat) (A : Act) (w0 : World) (s : Nat → Bool) (a : Act) (w : World) : Prop where
  off : Off [23, 24, 25, 26, 27, 28, 29, 30, 31, 32, 33, 34, 35, 36, 37, 38, 39, 40, 41, 42, 43, 44, 45, 46, 47] a A
  before : Below w0.heap.size w0 w
  t0 : s 0 = true → a.eval (.tmp 23) = .slice (some ⟨g, 0, none⟩) k cap
  t1 : s 1 = true → a.eval (.tmp 24) = .slice (some ⟨g, 0, none⟩) k cap
  t2 : s 2 = true → a.eval (.tmp 25) = .int .i64 (k : Nat)
  t3 : s 3 = true → a.eval (.tmp 26) = .int .i64 (k1 : Nat)
  t4 : s 4 = true → a.eval (.tmp 27) = .pointer (some ⟨g, k1, none⟩)
  t5 : s 5 = true → a.eval (.tmp 28) = .int .u8 (b1 : Nat)
  t6 : s 6 = true → a.eval (.tmp 29) = .slice (some ⟨g, 0, none⟩) k cap
  t7 : s 7 = true → a.eval (.tmp 30) = .int .i64 (k : Nat)
  t8 : s 8 = true → a.eval (.tmp 31) = .int .i64 (k3 : Nat)
  t9 : s 9 = true → a.eval (.tmp 32) = .pointer (some ⟨g, k3, none⟩)
  t10 : s 10 = true → a.eval (.tmp 33) = .int .u8 (b3 : Nat)
  t11 : s 11 = true → a.eval (.tmp 34) = .int .u8 (z1 : Nat)
  t12 : s 12 = true → a.eval (.tmp 35) = .slice (some ⟨g, 0, none⟩) k cap
  t13 : s 13 = true → a.eval (.tmp 36) = .int .i64 (k : Nat)
  t14 : s 14 = true → a.eval (.tmp 37) = .int .i64 (k5 : Nat)
  t15 : s 15 = true → a.eval (.tmp 38) = .pointer (some ⟨g, k5, none⟩)
  t16 : s 16 = true → a.eval (.tmp 39) = .int .u8 (b5 : Nat)
  t17 : s 17 = true → a.eval (.tmp 40) = .int .u8 (z2 : Nat)
  t18 : s 18 = true → a.eval (.tmp 41) = .slice (some ⟨g, 0, none⟩) k cap
  t19 : s 19 = true → a.eval (.tmp 42) = .int .i64 (k : Nat)
  t20 : s 20 = true → a.eval (.tmp 43) = .int .i64 (k8 : Nat)
  t21 : s 21 = true → a.eval (.tmp 44) = .pointer (some ⟨g, k8, none⟩)
  t22 : s 22 = true → a.eval (.tmp 45) = .int .u8 (b8 : Nat)
  t23 : s 23 = true → a.eval (.tmp 46) = .int .u8 (z3 : Nat)
  t24 : s 24 = true → ∃ v24, a.eval (.tmp 47) = v24 ∧ Bld (.int .u8 (z3 : Nat)) v24 w
set_option maxHeartbeats 2000000 in
set_option maxRecDepth 100000 in
theorem sqRegion {id : Nat} {l : List Oper} {A : Act} {w : World} {Q : Exit → Act → World → Prop} (g k cap k1 k3 k5 k8 b1 b3 b5 b8 z1 z2 z3 : Nat)
    (hk : k ≤ 600000) (d1 : (k : Int) - 1 = (k1 : Int)) (d3 : (k : Int) - 3 = (k3 : Int)) (d5 : (k : Int) - 5 = (k5 : Int)) (d8 : (k : Int) - 8 = (k8 : Int)) (q1 : (k1 : Int) < (k : Int)) (q3 : (k3 : Int) < (k : Int)) (q5 : (k5 : Int) < (k : Int)) (q8 : (k8 : Int) < (k : Int))
    (hz1 : bits .xor .u8 (b1 : Int) (b3 : Int) = (z1 : Int)) (hz2 : bits .xor .u8 (z1 : Int) (b5 : Int) = (z2 : Int)) (hz3 : bits .xor .u8 (z2 : Int) (b8 : Int) = (z3 : Int)) (hgl : g < w.heap.size)
    (c1 : w.cell? ⟨g, k1, none⟩ = some (.int .u8 (b1 : Nat))) (c3 : w.cell? ⟨g, k3, none⟩ = some (.int .u8 (b3 : Nat))) (c5 : w.cell? ⟨g, k5, none⟩ = some (.int .u8 (b5 : Nat))) (c8 : w.cell? ⟨g, k8, none⟩ = some (.int .u8 (b8 : Nat)))
    (hB : tableH l.toArray 25 (fun i => match i with | 0 => [] | 1 => [] | 2 => [] | 3 => [2] | 4 => [1, 3] | 5 => [4] | 6 => [] | 7 => [] | 8 => [7] | 9 => [6, 8] | 10 => [9] | 11 => [5, 10] | 12 => [] | 13 => [] | 14 => [13] | 15 => [12, 14] | 16 => [15] | 17 => [11, 16] | 18 => [] | 19 => [] | 20 => [19] | 21 => [18, 20] | 22 => [21] | 23 => [17, 22] | 24 => [23] | _ => []) (fun _ => []) = true)
    (h0 : pick l 0 = some (.move (.tmp 4), some 23))
    (h1 : pick l 1 = some (.move (.tmp 4), some 24))
    (h2 : pick l 2 = some (.move (.tmp 5), some 25))
    (h3 : pick l 3 = some (.binOp .sub 3 (.tmp 25) (.const (.int .i64 1)) 3, some 26))
    (h4 : pick l 4 = some (.indexAddr 53 (.tmp 24) (.tmp 26), some 27))
    (h5 : pick l 5 = some (.load 5 (.tmp 27), some 28))
    (h6 : pick l 6 = some (.move (.tmp 4), some 29))
    (h7 : pick l 7 = some (.move (.tmp 5), some 30))
    (h8 : pick l 8 = some (.binOp .sub 3 (.tmp 30) (.const (.int .i64 3)) 3, some 31))
    (h9 : pick l 9 = some (.indexAddr 53 (.tmp 29) (.tmp 31), some 32))
    (h10 : pick l 10 = some (.load 5 (.tmp 32), some 33))
    (h11 : pick l 11 = some (.binOp .xor 5 (.tmp 28) (.tmp 33) 5, some 34))
    (h12 : pick l 12 = some (.move (.tmp 4), some 35))
    (h13 : pick l 13 = some (.move (.tmp 5), some 36))
    (h14 : pick l 14 = some (.binOp .sub 3 (.tmp 36) (.const (.int .i64 5)) 3, some 37))
    (h15 : pick l 15 = some (.indexAddr 53 (.tmp 35) (.tmp 37), some 38))
    (h16 : pick l 16 = some (.load 5 (.tmp 38), some 39))
    (h17 : pick l 17 = some (.binOp .xor 5 (.tmp 34) (.tmp 39) 5, some 40))
    (h18 : pick l 18 = some (.move (.tmp 4), some 41))
    (h19 : pick l 19 = some (.move (.tmp 5), some 42))
    (h20 : pick l 20 = some (.binOp .sub 3 (.tmp 42) (.const (.int .i64 8)) 3, some 43))
    (h21 : pick l 21 = some (.indexAddr 53 (.tmp 41) (.tmp 43), some 44))
    (h22 : pick l 22 = some (.load 5 (.tmp 44), some 45))
    (h23 : pick l 23 = some (.binOp .xor 5 (.tmp 40) (.tmp 45) 5, some 46))
    (h24 : pick l 24 = some (.buildSlice 53 1 #[(0, .tmp 46)], some 47))
    (hs : A.tmps.size = 74)
    (x4 : A.eval (.tmp 4) = .slice (some ⟨g, 0, none⟩) k cap)
    (x5 : A.eval (.tmp 5) = .int .i64 (k : Nat))
    (h : ∀ v24 w1, Below w.heap.size w w1 → Bld (.int .u8 (z3 : Nat)) v24 w1 → wpList Try.prog l.toArray Q (l.drop 25) (((((((((((((((((((((((((A.put (some 23) (.slice (some ⟨g, 0, none⟩) k cap)).put (some 24) (.slice (some ⟨g, 0, none⟩) k cap)).put (some 25) (.int .i64 (k : Nat))).put (some 26) (.int .i64 (k1 : Nat))).put (some 27) (.pointer (some ⟨g, k1, none⟩))).put (some 28) (.int .u8 (b1 : Nat))).put (some 29) (.slice (some ⟨g, 0, none⟩) k cap)).put (some 30) (.int .i64 (k : Nat))).put (some 31) (.int .i64 (k3 : Nat))).put (some 32) (.pointer (some ⟨g, k3, none⟩))).put (some 33) (.int .u8 (b3 : Nat))).put (some 34) (.int .u8 (z1 : Nat))).put (some 35) (.slice (some ⟨g, 0, none⟩) k cap)).put (some 36) (.int .i64 (k : Nat))).put (some 37) (.int .i64 (k5 : Nat))).put (some 38) (.pointer (some ⟨g, k5, none⟩))).put (some 39) (.int .u8 (b5 : Nat))).put (some 40) (.int .u8 (z2 : Nat))).put (some 41) (.slice (some ⟨g, 0, none⟩) k cap)).put (some 42) (.int .i64 (k : Nat))).put (some 43) (.int .i64 (k8 : Nat))).put (some 44) (.pointer (some ⟨g, k8, none⟩))).put (some 45) (.int .u8 (b8 : Nat))).put (some 46) (.int .u8 (z3 : Nat))).put (some 47) (v24)) w1) :
    (Code.region id l.toArray true).wp Try.prog Q A w := by
  refine wp_region_head (by kernel_rfl) _ _ _ hB (SqRegion g k cap k1 k3 k5 k8 b1 b3 b5 b8 z1 z2 z3 A w) ⟨Off.refl _ _, (Below.refl _ _).drew, by simp, by simp, by simp, by simp, by simp, by simp, by simp, by simp, by simp, by simp, by simp, by simp, by simp, by simp, by simp, by simp, by simp, by simp, by simp, by simp, by simp, by simp, by simp, by simp, by simp⟩ ?_ ?_
  · intro s a w' S i' o il ho hsi hT K hK
    have sz : a.tmps.size = 74 := by rw [S.off.2.1]; exact hs
    have y4 : a.eval (.tmp 4) = .slice (some ⟨g, 0, none⟩) k cap := by rw [S.off.eval (by decide)]; exact x4
    have y5 : a.eval (.tmp 5) = .int .i64 (k : Nat) := by rw [S.off.eval (by decide)]; exact x5
    match i', il, ho, hsi, hT with
    | 0, _, ho, hsi, hT =>
      obtain ⟨e1, e2⟩ := pick_of h0 ho
      have BW := S.before
      refine step_val (v := .slice (some ⟨g, 0, none⟩) k cap) (by simp only [execOp, e1, y4]; go_simp) (hK _ _ ?_)
      rw [e2]
      exact ⟨S.off.put (by decide) _, S.before, fun _ => (eval_put _ _ _ (by omega)).trans rfl, fun g => by rw [eval_put_ne _ _ _ _ (by decide)]; exact S.t1 (by simpa using g), fun g => by rw [eval_put_ne _ _ _ _ (by decide)]; exact S.t2 (by simpa using g), fun g => by rw [eval_put_ne _ _ _ _ (by decide)]; exact S.t3 (by simpa using g), fun g => by rw [eval_put_ne _ _ _ _ (by decide)]; exact S.t4 (by simpa using g), fun g => by rw [eval_put_ne _ _ _ _ (by decide)]; exact S.t5 (by simpa using g), fun g => by rw [eval_put_ne _ _ _ _ (by decide)]; exact S.t6 (by simpa using g), fun g => by rw [eval_put_ne _ _ _ _ (by decide)]; exact S.t7 (by simpa using g), fun g => by rw [eval_put_ne _ _ _ _ (by decide)]; exact S.t8 (by simpa using g), fun g => by rw [eval_put_ne _ _ _ _ (by decide)]; exact S.t9 (by simpa using g), fun g => by rw [eval_put_ne _ _ _ _ (by decide)]; exact S.t10 (by simpa using g), fun g => by rw [eval_put_ne _ _ _ _ (by decide)]; exact S.t11 (by simpa using g), fun g => by rw [eval_put_ne _ _ _ _ (by decide)]; exact S.t12 (by simpa using g), fun g => by rw [eval_put_ne _ _ _ _ (by decide)]; exact S.t13 (by simpa using g), fun g => by rw [eval_put_ne _ _ _ _ (by decide)]; exact S.t14 (by simpa using g), fun g => by rw [eval_put_ne _ _ _ _ (by decide)]; exact S.t15 (by simpa using g), fun g => by rw [eval_put_ne _ _ _ _ (by decide)]; exact S.t16 (by simpa using g), fun g => by rw [eval_put_ne _ _ _ _ (by decide)]; exact S.t17 (by simpa using g), fun g => by rw [eval_put_ne _ _ _ _ (by decide)]; exact S.t18 (by simpa using g), fun g => by rw [eval_put_ne _ _ _ _ (by decide)]; exact S.t19 (by simpa using g), fun g => by rw [eval_put_ne _ _ _ _ (by decide)]; exact S.t20 (by simpa using g), fun g => by rw [eval_put_ne _ _ _ _ (by decide)]; exact S.t21 (by simpa using g), fun g => by rw [eval_put_ne _ _ _ _ (by decide)]; exact S.t22 (by simpa using g), fun g => by rw [eval_put_ne _ _ _ _ (by decide)]; exact S.t23 (by simpa using g), fun g => (S.t24 (by simpa using g)).imp fun b hb => ⟨by rw [eval_put_ne _ _ _ _ (by decide)]; exact hb.1, hb.2⟩⟩
    | 1, _, ho, hsi, hT =>
      obtain ⟨e1, e2⟩ := pick_of h1 ho
      have BW := S.before
      refine step_val (v := .slice (some ⟨g, 0, none⟩) k cap) (by simp only [execOp, e1, y4]; go_simp) (hK _ _ ?_)
      rw [e2]
      exact ⟨S.off.put (by decide) _, S.before, fun g => by rw [eval_put_ne _ _ _ _ (by decide)]; exact S.t0 (by simpa using g), fun _ => (eval_put _ _ _ (by omega)).trans rfl, fun g => by rw [eval_put_ne _ _ _ _ (by decide)]; exact S.t2 (by simpa using g), fun g => by rw [eval_put_ne _ _ _ _ (by decide)]; exact S.t3 (by simpa using g), fun g => by rw [eval_put_ne _ _ _ _ (by decide)]; exact S.t4 (by simpa using g), fun g => by rw [eval_put_ne _ _ _ _ (by decide)]; exact S.t5 (by simpa using g), fun g => by rw [eval_put_ne _ _ _ _ (by decide)]; exact S.t6 (by simpa using g), fun g => by rw [eval_put_ne _ _ _ _ (by decide)]; exact S.t7 (by simpa using g), fun g => by rw [eval_put_ne _ _ _ _ (by decide)]; exact S.t8 (by simpa using g), fun g => by rw [eval_put_ne _ _ _ _ (by decide)]; exact S.t9 (by simpa using g), fun g => by rw [eval_put_ne _ _ _ _ (by decide)]; exact S.t10 (by simpa using g), fun g => by rw [eval_put_ne _ _ _ _ (by decide)]; exact S.t11 (by simpa using g), fun g => by rw [eval_put_ne _ _ _ _ (by decide)]; exact S.t12 (by simpa using g), fun g => by rw [eval_put_ne _ _ _ _ (by decide)]; exact S.t13 (by simpa using g), fun g => by rw [eval_put_ne _ _ _ _ (by decide)]; exact S.t14 (by simpa using g), fun g => by rw [eval_put_ne _ _ _ _ (by decide)]; exact S.t15 (by simpa using g), fun g => by rw [eval_put_ne _ _ _ _ (by decide)]; exact S.t16 (by simpa using g), fun g => by rw [eval_put_ne _ _ _ _ (by decide)]; exact S.t17 (by simpa using g), fun g => by rw [eval_put_ne _ _ _ _ (by decide)]; exact S.t18 (by simpa using g), fun g => by rw [eval_put_ne _ _ _ _ (by decide)]; exact S.t19 (by simpa using g), fun g => by rw [eval_put_ne _ _ _ _ (by decide)]; exact S.t20 (by simpa using g), fun g => by rw [eval_put_ne _ _ _ _ (by decide)]; exact S.t21 (by simpa using g), fun g => by rw [eval_put_ne _ _ _ _ (by decide)]; exact S.t22 (by simpa using g), fun g => by rw [eval_put_ne _ _ _ _ (by decide)]; exact S.t23 (by simpa using g), fun g => (S.t24 (by simpa using g)).imp fun b hb => ⟨by rw [eval_put_ne _ _ _ _ (by decide)]; exact hb.1, hb.2⟩⟩
    | 2, _, ho, hsi, hT =>
      obtain ⟨e1, e2⟩ := pick_of h2 ho
      have BW := S.before
      refine step_val (v := .int .i64 (k : Nat)) (by simp only [execOp, e1, y5]; go_simp) (hK _ _ ?_)
      rw [e2]
      exact ⟨S.off.put (by decide) _, S.before, fun g => by rw [eval_put_ne _ _ _ _ (by decide)]; exact S.t0 (by simpa using g), fun g => by rw [eval_put_ne _ _ _ _ (by decide)]; exact S.t1 (by simpa using g), fun _ => (eval_put _ _ _ (by omega)).trans rfl, fun g => by rw [eval_put_ne _ _ _ _ (by decide)]; exact S.t3 (by simpa using g), fun g => by rw [eval_put_ne _ _ _ _ (by decide)]; exact S.t4 (by simpa using g), fun g => by rw [eval_put_ne _ _ _ _ (by decide)]; exact S.t5 (by simpa using g), fun g => by rw [eval_put_ne _ _ _ _ (by decide)]; exact S.t6 (by simpa using g), fun g => by rw [eval_put_ne _ _ _ _ (by decide)]; exact S.t7 (by simpa using g), fun g => by rw [eval_put_ne _ _ _ _ (by decide)]; exact S.t8 (by simpa using g), fun g => by rw [eval_put_ne _ _ _ _ (by decide)]; exact S.t9 (by simpa using g), fun g => by rw [eval_put_ne _ _ _ _ (by decide)]; exact S.t10 (by simpa using g), fun g => by rw [eval_put_ne _ _ _ _ (by decide)]; exact S.t11 (by simpa using g), fun g => by rw [eval_put_ne _ _ _ _ (by decide)]; exact S.t12 (by simpa using g), fun g => by rw [eval_put_ne _ _ _ _ (by decide)]; exact S.t13 (by simpa using g), fun g => by rw [eval_put_ne _ _ _ _ (by decide)]; exact S.t14 (by simpa using g), fun g => by rw [eval_put_ne _ _ _ _ (by decide)]; exact S.t15 (by simpa using g), fun g => by rw [eval_put_ne _ _ _ _ (by decide)]; exact S.t16 (by simpa using g), fun g => by rw [eval_put_ne _ _ _ _ (by decide)]; exact S.t17 (by simpa using g), fun g => by rw [eval_put_ne _ _ _ _ (by decide)]; exact S.t18 (by simpa using g), fun g => by rw [eval_put_ne _ _ _ _ (by decide)]; exact S.t19 (by simpa using g), fun g => by rw [eval_put_ne _ _ _ _ (by decide)]; exact S.t20 (by simpa using g), fun g => by rw [eval_put_ne _ _ _ _ (by decide)]; exact S.t21 (by simpa using g), fun g => by rw [eval_put_ne _ _ _ _ (by decide)]; exact S.t22 (by simpa using g), fun g => by rw [eval_put_ne _ _ _ _ (by decide)]; exact S.t23 (by simpa using g), fun g => (S.t24 (by simpa using g)).imp fun b hb => ⟨by rw [eval_put_ne _ _ _ _ (by decide)]; exact hb.1, hb.2⟩⟩
    | 3, _, ho, hsi, hT =>
      obtain ⟨e1, e2⟩ := pick_of h3 ho
      have D2 : s 2 = true := list_pos hT (d := 2) (by decide)
      have BW := S.before
      refine step_val (v := .int .i64 (k1 : Nat)) (by simp only [execOp, e1, S.t2 D2]; go_simp; rw [IntKind.wrap_i64]; omega) (hK _ _ ?_)
      rw [e2]
      exact ⟨S.off.put (by decide) _, S.before, fun g => by rw [eval_put_ne _ _ _ _ (by decide)]; exact S.t0 (by simpa using g), fun g => by rw [eval_put_ne _ _ _ _ (by decide)]; exact S.t1 (by simpa using g), fun g => by rw [eval_put_ne _ _ _ _ (by decide)]; exact S.t2 (by simpa using g), fun _ => (eval_put _ _ _ (by omega)).trans rfl, fun g => by rw [eval_put_ne _ _ _ _ (by decide)]; exact S.t4 (by simpa using g), fun g => by rw [eval_put_ne _ _ _ _ (by decide)]; exact S.t5 (by simpa using g), fun g => by rw [eval_put_ne _ _ _ _ (by decide)]; exact S.t6 (by simpa using g), fun g => by rw [eval_put_ne _ _ _ _ (by decide)]; exact S.t7 (by simpa using g), fun g => by rw [eval_put_ne _ _ _ _ (by decide)]; exact S.t8 (by simpa using g), fun g => by rw [eval_put_ne _ _ _ _ (by decide)]; exact S.t9 (by simpa using g), fun g => by rw [eval_put_ne _ _ _ _ (by decide)]; exact S.t10 (by simpa using g), fun g => by rw [eval_put_ne _ _ _ _ (by decide)]; exact S.t11 (by simpa using g), fun g => by rw [eval_put_ne _ _ _ _ (by decide)]; exact S.t12 (by simpa using g), fun g => by rw [eval_put_ne _ _ _ _ (by decide)]; exact S.t13 (by simpa using g), fun g => by rw [eval_put_ne _ _ _ _ (by decide)]; exact S.t14 (by simpa using g), fun g => by rw [eval_put_ne _ _ _ _ (by decide)]; exact S.t15 (by simpa using g), fun g => by rw [eval_put_ne _ _ _ _ (by decide)]; exact S.t16 (by simpa using g), fun g => by rw [eval_put_ne _ _ _ _ (by decide)]; exact S.t17 (by simpa using g), fun g => by rw [eval_put_ne _ _ _ _ (by decide)]; exact S.t18 (by simpa using g), fun g => by rw [eval_put_ne _ _ _ _ (by decide)]; exact S.t19 (by simpa using g), fun g => by rw [eval_put_ne _ _ _ _ (by decide)]; exact S.t20 (by simpa using g), fun g => by rw [eval_put_ne _ _ _ _ (by decide)]; exact S.t21 (by simpa using g), fun g => by rw [eval_put_ne _ _ _ _ (by decide)]; exact S.t22 (by simpa using g), fun g => by rw [eval_put_ne _ _ _ _ (by decide)]; exact S.t23 (by simpa using g), fun g => (S.t24 (by simpa using g)).imp fun b hb => ⟨by rw [eval_put_ne _ _ _ _ (by decide)]; exact hb.1, hb.2⟩⟩
    | 4, _, ho, hsi, hT =>
      obtain ⟨e1, e2⟩ := pick_of h4 ho
      have D1 : s 1 = true := list_pos hT (d := 1) (by decide)
      have D3 : s 3 = true := list_pos hT (d := 3) (by decide)
      have BW := S.before
      refine step_val (v := .pointer (some ⟨g, k1, none⟩)) (by simp only [execOp, e1, S.t1 D1, S.t3 D3]; go_simp; try (intro h; omega)) (hK _ _ ?_)
      rw [e2]
      exact ⟨S.off.put (by decide) _, S.before, fun g => by rw [eval_put_ne _ _ _ _ (by decide)]; exact S.t0 (by simpa using g), fun g => by rw [eval_put_ne _ _ _ _ (by decide)]; exact S.t1 (by simpa using g), fun g => by rw [eval_put_ne _ _ _ _ (by decide)]; exact S.t2 (by simpa using g), fun g => by rw [eval_put_ne _ _ _ _ (by decide)]; exact S.t3 (by simpa using g), fun _ => (eval_put _ _ _ (by omega)).trans rfl, fun g => by rw [eval_put_ne _ _ _ _ (by decide)]; exact S.t5 (by simpa using g), fun g => by rw [eval_put_ne _ _ _ _ (by decide)]; exact S.t6 (by simpa using g), fun g => by rw [eval_put_ne _ _ _ _ (by decide)]; exact S.t7 (by simpa using g), fun g => by rw [eval_put_ne _ _ _ _ (by decide)]; exact S.t8 (by simpa using g), fun g => by rw [eval_put_ne _ _ _ _ (by decide)]; exact S.t9 (by simpa using g), fun g => by rw [eval_put_ne _ _ _ _ (by decide)]; exact S.t10 (by simpa using g), fun g => by rw [eval_put_ne _ _ _ _ (by decide)]; exact S.t11 (by simpa using g), fun g => by rw [eval_put_ne _ _ _ _ (by decide)]; exact S.t12 (by simpa using g), fun g => by rw [eval_put_ne _ _ _ _ (by decide)]; exact S.t13 (by simpa using g), fun g => by rw [eval_put_ne _ _ _ _ (by decide)]; exact S.t14 (by simpa using g), fun g => by rw [eval_put_ne _ _ _ _ (by decide)]; exact S.t15 (by simpa using g), fun g => by rw [eval_put_ne _ _ _ _ (by decide)]; exact S.t16 (by simpa using g), fun g => by rw [eval_put_ne _ _ _ _ (by decide)]; exact S.t17 (by simpa using g), fun g => by rw [eval_put_ne _ _ _ _ (by decide)]; exact S.t18 (by simpa using g), fun g => by rw [eval_put_ne _ _ _ _ (by decide)]; exact S.t19 (by simpa using g), fun g => by rw [eval_put_ne _ _ _ _ (by decide)]; exact S.t20 (by simpa using g), fun g => by rw [eval_put_ne _ _ _ _ (by decide)]; exact S.t21 (by simpa using g), fun g => by rw [eval_put_ne _ _ _ _ (by decide)]; exact S.t22 (by simpa using g), fun g => by rw [eval_put_ne _ _ _ _ (by decide)]; exact S.t23 (by simpa using g), fun g => (S.t24 (by simpa using g)).imp fun b hb => ⟨by rw [eval_put_ne _ _ _ _ (by decide)]; exact hb.1, hb.2⟩⟩
    | 5, _, ho, hsi, hT =>
      obtain ⟨e1, e2⟩ := pick_of h5 ho
      have D4 : s 4 = true := list_pos hT (d := 4) (by decide)
      have BW := S.before
      have cl := (BW.cell (p := ⟨g, k1, none⟩) hgl).trans c1
      refine step_val (v := .int .u8 (b1 : Nat)) (by simp only [execOp, e1, S.t4 D4]; go_simp) (hK _ _ ?_)
      rw [e2]
      exact ⟨S.off.put (by decide) _, S.before, fun g => by rw [eval_put_ne _ _ _ _ (by decide)]; exact S.t0 (by simpa using g), fun g => by rw [eval_put_ne _ _ _ _ (by decide)]; exact S.t1 (by simpa using g), fun g => by rw [eval_put_ne _ _ _ _ (by decide)]; exact S.t2 (by simpa using g), fun g => by rw [eval_put_ne _ _ _ _ (by decide)]; exact S.t3 (by simpa using g), fun g => by rw [eval_put_ne _ _ _ _ (by decide)]; exact S.t4 (by simpa using g), fun _ => (eval_put _ _ _ (by omega)).trans rfl, fun g => by rw [eval_put_ne _ _ _ _ (by decide)]; exact S.t6 (by simpa using g), fun g => by rw [eval_put_ne _ _ _ _ (by decide)]; exact S.t7 (by simpa using g), fun g => by rw [eval_put_ne _ _ _ _ (by decide)]; exact S.t8 (by simpa using g), fun g => by rw [eval_put_ne _ _ _ _ (by decide)]; exact S.t9 (by simpa using g), fun g => by rw [eval_put_ne _ _ _ _ (by decide)]; exact S.t10 (by simpa using g), fun g => by rw [eval_put_ne _ _ _ _ (by decide)]; exact S.t11 (by simpa using g), fun g => by rw [eval_put_ne _ _ _ _ (by decide)]; exact S.t12 (by simpa using g), fun g => by rw [eval_put_ne _ _ _ _ (by decide)]; exact S.t13 (by simpa using g), fun g => by rw [eval_put_ne _ _ _ _ (by decide)]; exact S.t14 (by simpa using g), fun g => by rw [eval_put_ne _ _ _ _ (by decide)]; exact S.t15 (by simpa using g), fun g => by rw [eval_put_ne _ _ _ _ (by decide)]; exact S.t16 (by simpa using g), fun g => by rw [eval_put_ne _ _ _ _ (by decide)]; exact S.t17 (by simpa using g), fun g => by rw [eval_put_ne _ _ _ _ (by decide)]; exact S.t18 (by simpa using g), fun g => by rw [eval_put_ne _ _ _ _ (by decide)]; exact S.t19 (by simpa using g), fun g => by rw [eval_put_ne _ _ _ _ (by decide)]; exact S.t20 (by simpa using g), fun g => by rw [eval_put_ne _ _ _ _ (by decide)]; exact S.t21 (by simpa using g), fun g => by rw [eval_put_ne _ _ _ _ (by decide)]; exact S.t22 (by simpa using g), fun g => by rw [eval_put_ne _ _ _ _ (by decide)]; exact S.t23 (by simpa using g), fun g => (S.t24 (by simpa using g)).imp fun b hb => ⟨by rw [eval_put_ne _ _ _ _ (by decide)]; exact hb.1, hb.2⟩⟩
    | 6, _, ho, hsi, hT =>
      obtain ⟨e1, e2⟩ := pick_of h6 ho
      have BW := S.before
      refine step_val (v := .slice (some ⟨g, 0, none⟩) k cap) (by simp only [execOp, e1, y4]; go_simp) (hK _ _ ?_)
      rw [e2]
      exact ⟨S.off.put (by decide) _, S.before, fun g => by rw [eval_put_ne _ _ _ _ (by decide)]; exact S.t0 (by simpa using g), fun g => by rw [eval_put_ne _ _ _ _ (by decide)]; exact S.t1 (by simpa using g), fun g => by rw [eval_put_ne _ _ _ _ (by decide)]; exact S.t2 (by simpa using g), fun g => by rw [eval_put_ne _ _ _ _ (by decide)]; exact S.t3 (by simpa using g), fun g => by rw [eval_put_ne _ _ _ _ (by decide)]; exact S.t4 (by simpa using g), fun g => by rw [eval_put_ne _ _ _ _ (by decide)]; exact S.t5 (by simpa using g), fun _ => (eval_put _ _ _ (by omega)).trans rfl, fun g => by rw [eval_put_ne _ _ _ _ (by decide)]; exact S.t7 (by simpa using g), fun g => by rw [eval_put_ne _ _ _ _ (by decide)]; exact S.t8 (by simpa using g), fun g => by rw [eval_put_ne _ _ _ _ (by decide)]; exact S.t9 (by simpa using g), fun g => by rw [eval_put_ne _ _ _ _ (by decide)]; exact S.t10 (by simpa using g), fun g => by rw [eval_put_ne _ _ _ _ (by decide)]; exact S.t11 (by simpa using g), fun g => by rw [eval_put_ne _ _ _ _ (by decide)]; exact S.t12 (by simpa using g), fun g => by rw [eval_put_ne _ _ _ _ (by decide)]; exact S.t13 (by simpa using g), fun g => by rw [eval_put_ne _ _ _ _ (by decide)]; exact S.t14 (by simpa using g), fun g => by rw [eval_put_ne _ _ _ _ (by decide)]; exact S.t15 (by simpa using g), fun g => by rw [eval_put_ne _ _ _ _ (by decide)]; exact S.t16 (by simpa using g), fun g => by rw [eval_put_ne _ _ _ _ (by decide)]; exact S.t17 (by simpa using g), fun g => by rw [eval_put_ne _ _ _ _ (by decide)]; exact S.t18 (by simpa using g), fun g => by rw [eval_put_ne _ _ _ _ (by decide)]; exact S.t19 (by simpa using g), fun g => by rw [eval_put_ne _ _ _ _ (by decide)]; exact S.t20 (by simpa using g), fun g => by rw [eval_put_ne _ _ _ _ (by decide)]; exact S.t21 (by simpa using g), fun g => by rw [eval_put_ne _ _ _ _ (by decide)]; exact S.t22 (by simpa using g), fun g => by rw [eval_put_ne _ _ _ _ (by decide)]; exact S.t23 (by simpa using g), fun g => (S.t24 (by simpa using g)).imp fun b hb => ⟨by rw [eval_put_ne _ _ _ _ (by decide)]; exact hb.1, hb.2⟩⟩
    | 7, _, ho, hsi, hT =>
      obtain ⟨e1, e2⟩ := pick_of h7 ho
      have BW := S.before
      refine step_val (v := .int .i64 (k : Nat)) (by simp only [execOp, e1, y5]; go_simp) (hK _ _ ?_)
      rw [e2]
      exact ⟨S.off.put (by decide) _, S.before, fun g => by rw [eval_put_ne _ _ _ _ (by decide)]; exact S.t0 (by simpa using g), fun g => by rw [eval_put_ne _ _ _ _ (by decide)]; exact S.t1 (by simpa using g), fun g => by rw [eval_put_ne _ _ _ _ (by decide)]; exact S.t2 (by simpa using g), fun g => by rw [eval_put_ne _ _ _ _ (by decide)]; exact S.t3 (by simpa using g), fun g => by rw [eval_put_ne _ _ _ _ (by decide)]; exact S.t4 (by simpa using g), fun g => by rw [eval_put_ne _ _ _ _ (by decide)]; exact S.t5 (by simpa using g), fun g => by rw [eval_put_ne _ _ _ _ (by decide)]; exact S.t6 (by simpa using g), fun _ => (eval_put _ _ _ (by omega)).trans rfl, fun g => by rw [eval_put_ne _ _ _ _ (by decide)]; exact S.t8 (by simpa using g), fun g => by rw [eval_put_ne _ _ _ _ (by decide)]; exact S.t9 (by simpa using g), fun g => by rw [eval_put_ne _ _ _ _ (by decide)]; exact S.t10 (by simpa using g), fun g => by rw [eval_put_ne _ _ _ _ (by decide)]; exact S.t11 (by simpa using g), fun g => by rw [eval_put_ne _ _ _ _ (by decide)]; exact S.t12 (by simpa using g), fun g => by rw [eval_put_ne _ _ _ _ (by decide)]; exact S.t13 (by simpa using g), fun g => by rw [eval_put_ne _ _ _ _ (by decide)]; exact S.t14 (by simpa using g), fun g => by rw [eval_put_ne _ _ _ _ (by decide)]; exact S.t15 (by simpa using g), fun g => by rw [eval_put_ne _ _ _ _ (by decide)]; exact S.t16 (by simpa using g), fun g => by rw [eval_put_ne _ _ _ _ (by decide)]; exact S.t17 (by simpa using g), fun g => by rw [eval_put_ne _ _ _ _ (by decide)]; exact S.t18 (by simpa using g), fun g => by rw [eval_put_ne _ _ _ _ (by decide)]; exact S.t19 (by simpa using g), fun g => by rw [eval_put_ne _ _ _ _ (by decide)]; exact S.t20 (by simpa using g), fun g => by rw [eval_put_ne _ _ _ _ (by decide)]; exact S.t21 (by simpa using g), fun g => by rw [eval_put_ne _ _ _ _ (by decide)]; exact S.t22 (by simpa using g), fun g => by rw [eval_put_ne _ _ _ _ (by decide)]; exact S.t23 (by simpa using g), fun g => (S.t24 (by simpa using g)).imp fun b hb => ⟨by rw [eval_put_ne _ _ _ _ (by decide)]; exact hb.1, hb.2⟩⟩
    | 8, _, ho, hsi, hT =>
      obtain ⟨e1, e2⟩ := pick_of h8 ho
      have D7 : s 7 = true := list_pos hT (d := 7) (by decide)
      have BW := S.before
      refine step_val (v := .int .i64 (k3 : Nat)) (by simp only [execOp, e1, S.t7 D7]; go_simp; rw [IntKind.wrap_i64]; omega) (hK _ _ ?_)
      rw [e2]
      exact ⟨S.off.put (by decide) _, S.before, fun g => by rw [eval_put_ne _ _ _ _ (by decide)]; exact S.t0 (by simpa using g), fun g => by rw [eval_put_ne _ _ _ _ (by decide)]; exact S.t1 (by simpa using g), fun g => by rw [eval_put_ne _ _ _ _ (by decide)]; exact S.t2 (by simpa using g), fun g => by rw [eval_put_ne _ _ _ _ (by decide)]; exact S.t3 (by simpa using g), fun g => by rw [eval_put_ne _ _ _ _ (by decide)]; exact S.t4 (by simpa using g), fun g => by rw [eval_put_ne _ _ _ _ (by decide)]; exact S.t5 (by simpa using g), fun g => by rw [eval_put_ne _ _ _ _ (by decide)]; exact S.t6 (by simpa using g), fun g => by rw [eval_put_ne _ _ _ _ (by decide)]; exact S.t7 (by simpa using g), fun _ => (eval_put _ _ _ (by omega)).trans rfl, fun g => by rw [eval_put_ne _ _ _ _ (by decide)]; exact S.t9 (by simpa using g), fun g => by rw [eval_put_ne _ _ _ _ (by decide)]; exact S.t10 (by simpa using g), fun g => by rw [eval_put_ne _ _ _ _ (by decide)]; exact S.t11 (by simpa using g), fun g => by rw [eval_put_ne _ _ _ _ (by decide)]; exact S.t12 (by simpa using g), fun g => by rw [eval_put_ne _ _ _ _ (by decide)]; exact S.t13 (by simpa using g), fun g => by rw [eval_put_ne _ _ _ _ (by decide)]; exact S.t14 (by simpa using g), fun g => by rw [eval_put_ne _ _ _ _ (by decide)]; exact S.t15 (by simpa using g), fun g => by rw [eval_put_ne _ _ _ _ (by decide)]; exact S.t16 (by simpa using g), fun g => by rw [eval_put_ne _ _ _ _ (by decide)]; exact S.t17 (by simpa using g), fun g => by rw [eval_put_ne _ _ _ _ (by decide)]; exact S.t18 (by simpa using g), fun g => by rw [eval_put_ne _ _ _ _ (by decide)]; exact S.t19 (by simpa using g), fun g => by rw [eval_put_ne _ _ _ _ (by decide)]; exact S.t20 (by simpa using g), fun g => by rw [eval_put_ne _ _ _ _ (by decide)]; exact S.t21 (by simpa using g), fun g => by rw [eval_put_ne _ _ _ _ (by decide)]; exact S.t22 (by simpa using g), fun g => by rw [eval_put_ne _ _ _ _ (by decide)]; exact S.t23 (by simpa using g), fun g => (S.t24 (by simpa using g)).imp fun b hb => ⟨by rw [eval_put_ne _ _ _ _ (by decide)]; exact hb.1, hb.2⟩⟩
    | 9, _, ho, hsi, hT =>
      obtain ⟨e1, e2⟩ := pick_of h9 ho
      have D6 : s 6 = true := list_pos hT (d := 6) (by decide)
      have D8 : s 8 = true := list_pos hT (d := 8) (by decide)
      have BW := S.before
      refine step_val (v := .pointer (some ⟨g, k3, none⟩)) (by simp only [execOp, e1, S.t6 D6, S.t8 D8]; go_simp; try (intro h; omega)) (hK _ _ ?_)
      rw [e2]
      exact ⟨S.off.put (by decide) _, S.before, fun g => by rw [eval_put_ne _ _ _ _ (by decide)]; exact S.t0 (by simpa using g), fun g => by rw [eval_put_ne _ _ _ _ (by decide)]; exact S.t1 (by simpa using g), fun g => by rw [eval_put_ne _ _ _ _ (by decide)]; exact S.t2 (by simpa using g), fun g => by rw [eval_put_ne _ _ _ _ (by decide)]; exact S.t3 (by simpa using g), fun g => by rw [eval_put_ne _ _ _ _ (by decide)]; exact S.t4 (by simpa using g), fun g => by rw [eval_put_ne _ _ _ _ (by decide)]; exact S.t5 (by simpa using g), fun g => by rw [eval_put_ne _ _ _ _ (by decide)]; exact S.t6 (by simpa using g), fun g => by rw [eval_put_ne _ _ _ _ (by decide)]; exact S.t7 (by simpa using g), fun g => by rw [eval_put_ne _ _ _ _ (by decide)]; exact S.t8 (by simpa using g), fun _ => (eval_put _ _ _ (by omega)).trans rfl, fun g => by rw [eval_put_ne _ _ _ _ (by decide)]; exact S.t10 (by simpa using g), fun g => by rw [eval_put_ne _ _ _ _ (by decide)]; exact S.t11 (by simpa using g), fun g => by rw [eval_put_ne _ _ _ _ (by decide)]; exact S.t12 (by simpa using g), fun g => by rw [eval_put_ne _ _ _ _ (by decide)]; exact S.t13 (by simpa using g), fun g => by rw [eval_put_ne _ _ _ _ (by decide)]; exact S.t14 (by simpa using g), fun g => by rw [eval_put_ne _ _ _ _ (by decide)]; exact S.t15 (by simpa using g), fun g => by rw [eval_put_ne _ _ _ _ (by decide)]; exact S.t16 (by simpa using g), fun g => by rw [eval_put_ne _ _ _ _ (by decide)]; exact S.t17 (by simpa using g), fun g => by rw [eval_put_ne _ _ _ _ (by decide)]; exact S.t18 (by simpa using g), fun g => by rw [eval_put_ne _ _ _ _ (by decide)]; exact S.t19 (by simpa using g), fun g => by rw [eval_put_ne _ _ _ _ (by decide)]; exact S.t20 (by simpa using g), fun g => by rw [eval_put_ne _ _ _ _ (by decide)]; exact S.t21 (by simpa using g), fun g => by rw [eval_put_ne _ _ _ _ (by decide)]; exact S.t22 (by simpa using g), fun g => by rw [eval_put_ne _ _ _ _ (by decide)]; exact S.t23 (by simpa using g), fun g => (S.t24 (by simpa using g)).imp fun b hb => ⟨by rw [eval_put_ne _ _ _ _ (by decide)]; exact hb.1, hb.2⟩⟩
    | 10, _, ho, hsi, hT =>
      obtain ⟨e1, e2⟩ := pick_of h10 ho
      have D9 : s 9 = true := list_pos hT (d := 9) (by decide)
      have BW := S.before
      have cl := (BW.cell (p := ⟨g, k3, none⟩) hgl).trans c3
      refine step_val (v := .int .u8 (b3 : Nat)) (by simp only [execOp, e1, S.t9 D9]; go_simp) (hK _ _ ?_)
      rw [e2]
      exact ⟨S.off.put (by decide) _, S.before, fun g => by rw [eval_put_ne _ _ _ _ (by decide)]; exact S.t0 (by simpa using g), fun g => by rw [eval_put_ne _ _ _ _ (by decide)]; exact S.t1 (by simpa using g), fun g => by rw [eval_put_ne _ _ _ _ (by decide)]; exact S.t2 (by simpa using g), fun g => by rw [eval_put_ne _ _ _ _ (by decide)]; exact S.t3 (by simpa using g), fun g => by rw [eval_put_ne _ _ _ _ (by decide)]; exact S.t4 (by simpa using g), fun g => by rw [eval_put_ne _ _ _ _ (by decide)]; exact S.t5 (by simpa using g), fun g => by rw [eval_put_ne _ _ _ _ (by decide)]; exact S.t6 (by simpa using g), fun g => by rw [eval_put_ne _ _ _ _ (by decide)]; exact S.t7 (by simpa using g), fun g => by rw [eval_put_ne _ _ _ _ (by decide)]; exact S.t8 (by simpa using g), fun g => by rw [eval_put_ne _ _ _ _ (by decide)]; exact S.t9 (by simpa using g), fun _ => (eval_put _ _ _ (by omega)).trans rfl, fun g => by rw [eval_put_ne _ _ _ _ (by decide)]; exact S.t11 (by simpa using g), fun g => by rw [eval_put_ne _ _ _ _ (by decide)]; exact S.t12 (by simpa using g), fun g => by rw [eval_put_ne _ _ _ _ (by decide)]; exact S.t13 (by simpa using g), fun g => by rw [eval_put_ne _ _ _ _ (by decide)]; exact S.t14 (by simpa using g), fun g => by rw [eval_put_ne _ _ _ _ (by decide)]; exact S.t15 (by simpa using g), fun g => by rw [eval_put_ne _ _ _ _ (by decide)]; exact S.t16 (by simpa using g), fun g => by rw [eval_put_ne _ _ _ _ (by decide)]; exact S.t17 (by simpa using g), fun g => by rw [eval_put_ne _ _ _ _ (by decide)]; exact S.t18 (by simpa using g), fun g => by rw [eval_put_ne _ _ _ _ (by decide)]; exact S.t19 (by simpa using g), fun g => by rw [eval_put_ne _ _ _ _ (by decide)]; exact S.t20 (by simpa using g), fun g => by rw [eval_put_ne _ _ _ _ (by decide)]; exact S.t21 (by simpa using g), fun g => by rw [eval_put_ne _ _ _ _ (by decide)]; exact S.t22 (by simpa using g), fun g => by rw [eval_put_ne _ _ _ _ (by decide)]; exact S.t23 (by simpa using g), fun g => (S.t24 (by simpa using g)).imp fun b hb => ⟨by rw [eval_put_ne _ _ _ _ (by decide)]; exact hb.1, hb.2⟩⟩
    | 11, _, ho, hsi, hT =>
      obtain ⟨e1, e2⟩ := pick_of h11 ho
      have D5 : s 5 = true := list_pos hT (d := 5) (by decide)
      have D10 : s 10 = true := list_pos hT (d := 10) (by decide)
      have BW := S.before
      refine step_val (v := .int .u8 (z1 : Nat)) (by simp only [execOp, e1, S.t5 D5, S.t10 D10]; go_simp; try exact hz1) (hK _ _ ?_)
      rw [e2]
      exact ⟨S.off.put (by decide) _, S.before, fun g => by rw [eval_put_ne _ _ _ _ (by decide)]; exact S.t0 (by simpa using g), fun g => by rw [eval_put_ne _ _ _ _ (by decide)]; exact S.t1 (by simpa using g), fun g => by rw [eval_put_ne _ _ _ _ (by decide)]; exact S.t2 (by simpa using g), fun g => by rw [eval_put_ne _ _ _ _ (by decide)]; exact S.t3 (by simpa using g), fun g => by rw [eval_put_ne _ _ _ _ (by decide)]; exact S.t4 (by simpa using g), fun g => by rw [eval_put_ne _ _ _ _ (by decide)]; exact S.t5 (by simpa using g), fun g => by rw [eval_put_ne _ _ _ _ (by decide)]; exact S.t6 (by simpa using g), fun g => by rw [eval_put_ne _ _ _ _ (by decide)]; exact S.t7 (by simpa using g), fun g => by rw [eval_put_ne _ _ _ _ (by decide)]; exact S.t8 (by simpa using g), fun g => by rw [eval_put_ne _ _ _ _ (by decide)]; exact S.t9 (by simpa using g), fun g => by rw [eval_put_ne _ _ _ _ (by decide)]; exact S.t10 (by simpa using g), fun _ => (eval_put _ _ _ (by omega)).trans rfl, fun g => by rw [eval_put_ne _ _ _ _ (by decide)]; exact S.t12 (by simpa using g), fun g => by rw [eval_put_ne _ _ _ _ (by decide)]; exact S.t13 (by simpa using g), fun g => by rw [eval_put_ne _ _ _ _ (by decide)]; exact S.t14 (by simpa using g), fun g => by rw [eval_put_ne _ _ _ _ (by decide)]; exact S.t15 (by simpa using g), fun g => by rw [eval_put_ne _ _ _ _ (by decide)]; exact S.t16 (by simpa using g), fun g => by rw [eval_put_ne _ _ _ _ (by decide)]; exact S.t17 (by simpa using g), fun g => by rw [eval_put_ne _ _ _ _ (by decide)]; exact S.t18 (by simpa using g), fun g => by rw [eval_put_ne _ _ _ _ (by decide)]; exact S.t19 (by simpa using g), fun g => by rw [eval_put_ne _ _ _ _ (by decide)]; exact S.t20 (by simpa using g), fun g => by rw [eval_put_ne _ _ _ _ (by decide)]; exact S.t21 (by simpa using g), fun g => by rw [eval_put_ne _ _ _ _ (by decide)]; exact S.t22 (by simpa using g), fun g => by rw [eval_put_ne _ _ _ _ (by decide)]; exact S.t23 (by simpa using g), fun g => (S.t24 (by simpa using g)).imp fun b hb => ⟨by rw [eval_put_ne _ _ _ _ (by decide)]; exact hb.1, hb.2⟩⟩
    | 12, _, ho, hsi, hT =>
      obtain ⟨e1, e2⟩ := pick_of h12 ho
      have BW := S.before
      refine step_val (v := .slice (some ⟨g, 0, none⟩) k cap) (by simp only [execOp, e1, y4]; go_simp) (hK _ _ ?_)
      rw [e2]
      exact ⟨S.off.put (by decide) _, S.before, fun g => by rw [eval_put_ne _ _ _ _ (by decide)]; exact S.t0 (by simpa using g), fun g => by rw [eval_put_ne _ _ _ _ (by decide)]; exact S.t1 (by simpa using g), fun g => by rw [eval_put_ne _ _ _ _ (by decide)]; exact S.t2 (by simpa using g), fun g => by rw [eval_put_ne _ _ _ _ (by decide)]; exact S.t3 (by simpa using g), fun g => by rw [eval_put_ne _ _ _ _ (by decide)]; exact S.t4 (by simpa using g), fun g => by rw [eval_put_ne _ _ _ _ (by decide)]; exact S.t5 (by simpa using g), fun g => by rw [eval_put_ne _ _ _ _ (by decide)]; exact S.t6 (by simpa using g), fun g => by rw [eval_put_ne _ _ _ _ (by decide)]; exact S.t7 (by simpa using g), fun g => by rw [eval_put_ne _ _ _ _ (by decide)]; exact S.t8 (by simpa using g), fun g => by rw [eval_put_ne _ _ _ _ (by decide)]; exact S.t9 (by simpa using g), fun g => by rw [eval_put_ne _ _ _ _ (by decide)]; exact S.t10 (by simpa using g), fun g => by rw [eval_put_ne _ _ _ _ (by decide)]; exact S.t11 (by simpa using g), fun _ => (eval_put _ _ _ (by omega)).trans rfl, fun g => by rw [eval_put_ne _ _ _ _ (by decide)]; exact S.t13 (by simpa using g), fun g => by rw [eval_put_ne _ _ _ _ (by decide)]; exact S.t14 (by simpa using g), fun g => by rw [eval_put_ne _ _ _ _ (by decide)]; exact S.t15 (by simpa using g), fun g => by rw [eval_put_ne _ _ _ _ (by decide)]; exact S.t16 (by simpa using g), fun g => by rw [eval_put_ne _ _ _ _ (by decide)]; exact S.t17 (by simpa using g), fun g => by rw [eval_put_ne _ _ _ _ (by decide)]; exact S.t18 (by simpa using g), fun g => by rw [eval_put_ne _ _ _ _ (by decide)]; exact S.t19 (by simpa using g), fun g => by rw [eval_put_ne _ _ _ _ (by decide)]; exact S.t20 (by simpa using g), fun g => by rw [eval_put_ne _ _ _ _ (by decide)]; exact S.t21 (by simpa using g), fun g => by rw [eval_put_ne _ _ _ _ (by decide)]; exact S.t22 (by simpa using g), fun g => by rw [eval_put_ne _ _ _ _ (by decide)]; exact S.t23 (by simpa using g), fun g => (S.t24 (by simpa using g)).imp fun b hb => ⟨by rw [eval_put_ne _ _ _ _ (by decide)]; exact hb.1, hb.2⟩⟩
    | 13, _, ho, hsi, hT =>
      obtain ⟨e1, e2⟩ := pick_of h13 ho
      have BW := S.before
      refine step_val (v := .int .i64 (k : Nat)) (by simp only [execOp, e1, y5]; go_simp) (hK _ _ ?_)
      rw [e2]
      exact ⟨S.off.put (by decide) _, S.before, fun g => by rw [eval_put_ne _ _ _ _ (by decide)]; exact S.t0 (by simpa using g), fun g => by rw [eval_put_ne _ _ _ _ (by decide)]; exact S.t1 (by simpa using g), fun g => by rw [eval_put_ne _ _ _ _ (by decide)]; exact S.t2 (by simpa using g), fun g => by rw [eval_put_ne _ _ _ _ (by decide)]; exact S.t3 (by simpa using g), fun g => by rw [eval_put_ne _ _ _ _ (by decide)]; exact S.t4 (by simpa using g), fun g => by rw [eval_put_ne _ _ _ _ (by decide)]; exact S.t5 (by simpa using g), fun g => by rw [eval_put_ne _ _ _ _ (by decide)]; exact S.t6 (by simpa using g), fun g => by rw [eval_put_ne _ _ _ _ (by decide)]; exact S.t7 (by simpa using g), fun g => by rw [eval_put_ne _ _ _ _ (by decide)]; exact S.t8 (by simpa using g), fun g => by rw [eval_put_ne _ _ _ _ (by decide)]; exact S.t9 (by simpa using g), fun g => by rw [eval_put_ne _ _ _ _ (by decide)]; exact S.t10 (by simpa using g), fun g => by rw [eval_put_ne _ _ _ _ (by decide)]; exact S.t11 (by simpa using g), fun g => by rw [eval_put_ne _ _ _ _ (by decide)]; exact S.t12 (by simpa using g), fun _ => (eval_put _ _ _ (by omega)).trans rfl, fun g => by rw [eval_put_ne _ _ _ _ (by decide)]; exact S.t14 (by simpa using g), fun g => by rw [eval_put_ne _ _ _ _ (by decide)]; exact S.t15 (by simpa using g), fun g => by rw [eval_put_ne _ _ _ _ (by decide)]; exact S.t16 (by simpa using g), fun g => by rw [eval_put_ne _ _ _ _ (by decide)]; exact S.t17 (by simpa using g), fun g => by rw [eval_put_ne _ _ _ _ (by decide)]; exact S.t18 (by simpa using g), fun g => by rw [eval_put_ne _ _ _ _ (by decide)]; exact S.t19 (by simpa using g), fun g => by rw [eval_put_ne _ _ _ _ (by decide)]; exact S.t20 (by simpa using g), fun g => by rw [eval_put_ne _ _ _ _ (by decide)]; exact S.t21 (by simpa using g), fun g => by rw [eval_put_ne _ _ _ _ (by decide)]; exact S.t22 (by simpa using g), fun g => by rw [eval_put_ne _ _ _ _ (by decide)]; exact S.t23 (by simpa using g), fun g => (S.t24 (by simpa using g)).imp fun b hb => ⟨by rw [eval_put_ne _ _ _ _ (by decide)]; exact hb.1, hb.2⟩⟩
    | 14, _, ho, hsi, hT =>
      obtain ⟨e1, e2⟩ := pick_of h14 ho
      have D13 : s 13 = true := list_pos hT (d := 13) (by decide)
      have BW := S.before
      refine step_val (v := .int .i64 (k5 : Nat)) (by simp only [execOp, e1, S.t13 D13]; go_simp; rw [IntKind.wrap_i64]; omega) (hK _ _ ?_)
      rw [e2]
      exact ⟨S.off.put (by decide) _, S.before, fun g => by rw [eval_put_ne _ _ _ _ (by decide)]; exact S.t0 (by simpa using g), fun g => by rw [eval_put_ne _ _ _ _ (by decide)]; exact S.t1 (by simpa using g), fun g => by rw [eval_put_ne _ _ _ _ (by decide)]; exact S.t2 (by simpa using g), fun g => by rw [eval_put_ne _ _ _ _ (by decide)]; exact S.t3 (by simpa using g), fun g => by rw [eval_put_ne _ _ _ _ (by decide)]; exact S.t4 (by simpa using g), fun g => by rw [eval_put_ne _ _ _ _ (by decide)]; exact S.t5 (by simpa using g), fun g => by rw [eval_put_ne _ _ _ _ (by decide)]; exact S.t6 (by simpa using g), fun g => by rw [eval_put_ne _ _ _ _ (by decide)]; exact S.t7 (by simpa using g), fun g => by rw [eval_put_ne _ _ _ _ (by decide)]; exact S.t8 (by simpa using g), fun g => by rw [eval_put_ne _ _ _ _ (by decide)]; exact S.t9 (by simpa using g), fun g => by rw [eval_put_ne _ _ _ _ (by decide)]; exact S.t10 (by simpa using g), fun g => by rw [eval_put_ne _ _ _ _ (by decide)]; exact S.t11 (by simpa using g), fun g => by rw [eval_put_ne _ _ _ _ (by decide)]; exact S.t12 (by simpa using g), fun g => by rw [eval_put_ne _ _ _ _ (by decide)]; exact S.t13 (by simpa using g), fun _ => (eval_put _ _ _ (by omega)).trans rfl, fun g => by rw [eval_put_ne _ _ _ _ (by decide)]; exact S.t15 (by simpa using g), fun g => by rw [eval_put_ne _ _ _ _ (by decide)]; exact S.t16 (by simpa using g), fun g => by rw [eval_put_ne _ _ _ _ (by decide)]; exact S.t17 (by simpa using g), fun g => by rw [eval_put_ne _ _ _ _ (by decide)]; exact S.t18 (by simpa using g), fun g => by rw [eval_put_ne _ _ _ _ (by decide)]; exact S.t19 (by simpa using g), fun g => by rw [eval_put_ne _ _ _ _ (by decide)]; exact S.t20 (by simpa using g), fun g => by rw [eval_put_ne _ _ _ _ (by decide)]; exact S.t21 (by simpa using g), fun g => by rw [eval_put_ne _ _ _ _ (by decide)]; exact S.t22 (by simpa using g), fun g => by rw [eval_put_ne _ _ _ _ (by decide)]; exact S.t23 (by simpa using g), fun g => (S.t24 (by simpa using g)).imp fun b hb => ⟨by rw [eval_put_ne _ _ _ _ (by decide)]; exact hb.1, hb.2⟩⟩
    | 15, _, ho, hsi, hT =>
      obtain ⟨e1, e2⟩ := pick_of h15 ho
      have D12 : s 12 = true := list_pos hT (d := 12) (by decide)
      have D14 : s 14 = true := list_pos hT (d := 14) (by decide)
      have BW := S.before
      refine step_val (v := .pointer (some ⟨g, k5, none⟩)) (by simp only [execOp, e1, S.t12 D12, S.t14 D14]; go_simp; try (intro h; omega)) (hK _ _ ?_)
      rw [e2]
      exact ⟨S.off.put (by decide) _, S.before, fun g => by rw [eval_put_ne _ _ _ _ (by decide)]; exact S.t0 (by simpa using g), fun g => by rw [eval_put_ne _ _ _ _ (by decide)]; exact S.t1 (by simpa using g), fun g => by rw [eval_put_ne _ _ _ _ (by decide)]; exact S.t2 (by simpa using g), fun g => by rw [eval_put_ne _ _ _ _ (by decide)]; exact S.t3 (by simpa using g), fun g => by rw [eval_put_ne _ _ _ _ (by decide)]; exact S.t4 (by simpa using g), fun g => by rw [eval_put_ne _ _ _ _ (by decide)]; exact S.t5 (by simpa using g), fun g => by rw [eval_put_ne _ _ _ _ (by decide)]; exact S.t6 (by simpa using g), fun g => by rw [eval_put_ne _ _ _ _ (by decide)]; exact S.t7 (by simpa using g), fun g => by rw [eval_put_ne _ _ _ _ (by decide)]; exact S.t8 (by simpa using g), fun g => by rw [eval_put_ne _ _ _ _ (by decide)]; exact S.t9 (by simpa using g), fun g => by rw [eval_put_ne _ _ _ _ (by decide)]; exact S.t10 (by simpa using g), fun g => by rw [eval_put_ne _ _ _ _ (by decide)]; exact S.t11 (by simpa using g), fun g => by rw [eval_put_ne _ _ _ _ (by decide)]; exact S.t12 (by simpa using g), fun g => by rw [eval_put_ne _ _ _ _ (by decide)]; exact S.t13 (by simpa using g), fun g => by rw [eval_put_ne _ _ _ _ (by decide)]; exact S.t14 (by simpa using g), fun _ => (eval_put _ _ _ (by omega)).trans rfl, fun g => by rw [eval_put_ne _ _ _ _ (by decide)]; exact S.t16 (by simpa using g), fun g => by rw [eval_put_ne _ _ _ _ (by decide)]; exact S.t17 (by simpa using g), fun g => by rw [eval_put_ne _ _ _ _ (by decide)]; exact S.t18 (by simpa using g), fun g => by rw [eval_put_ne _ _ _ _ (by decide)]; exact S.t19 (by simpa using g), fun g => by rw [eval_put_ne _ _ _ _ (by decide)]; exact S.t20 (by simpa using g), fun g => by rw [eval_put_ne _ _ _ _ (by decide)]; exact S.t21 (by simpa using g), fun g => by rw [eval_put_ne _ _ _ _ (by decide)]; exact S.t22 (by simpa using g), fun g => by rw [eval_put_ne _ _ _ _ (by decide)]; exact S.t23 (by simpa using g), fun g => (S.t24 (by simpa using g)).imp fun b hb => ⟨by rw [eval_put_ne _ _ _ _ (by decide)]; exact hb.1, hb.2⟩⟩
    | 16, _, ho, hsi, hT =>
      obtain ⟨e1, e2⟩ := pick_of h16 ho
      have D15 : s 15 = true := list_pos hT (d := 15) (by decide)
      have BW := S.before
      have cl := (BW.cell (p := ⟨g, k5, none⟩) hgl).trans c5
      refine step_val (v := .int .u8 (b5 : Nat)) (by simp only [execOp, e1, S.t15 D15]; go_simp) (hK _ _ ?_)
      rw [e2]
      exact ⟨S.off.put (by decide) _, S.before, fun g => by rw [eval_put_ne _ _ _ _ (by decide)]; exact S.t0 (by simpa using g), fun g => by rw [eval_put_ne _ _ _ _ (by decide)]; exact S.t1 (by simpa using g), fun g => by rw [eval_put_ne _ _ _ _ (by decide)]; exact S.t2 (by simpa using g), fun g => by rw [eval_put_ne _ _ _ _ (by decide)]; exact S.t3 (by simpa using g), fun g => by rw [eval_put_ne _ _ _ _ (by decide)]; exact S.t4 (by simpa using g), fun g => by rw [eval_put_ne _ _ _ _ (by decide)]; exact S.t5 (by simpa using g), fun g => by rw [eval_put_ne _ _ _ _ (by decide)]; exact S.t6 (by simpa using g), fun g => by rw [eval_put_ne _ _ _ _ (by decide)]; exact S.t7 (by simpa using g), fun g => by rw [eval_put_ne _ _ _ _ (by decide)]; exact S.t8 (by simpa using g), fun g => by rw [eval_put_ne _ _ _ _ (by decide)]; exact S.t9 (by simpa using g), fun g => by rw [eval_put_ne _ _ _ _ (by decide)]; exact S.t10 (by simpa using g), fun g => by rw [eval_put_ne _ _ _ _ (by decide)]; exact S.t11 (by simpa using g), fun g => by rw [eval_put_ne _ _ _ _ (by decide)]; exact S.t12 (by simpa using g), fun g => by rw [eval_put_ne _ _ _ _ (by decide)]; exact S.t13 (by simpa using g), fun g => by rw [eval_put_ne _ _ _ _ (by decide)]; exact S.t14 (by simpa using g), fun g => by rw [eval_put_ne _ _ _ _ (by decide)]; exact S.t15 (by simpa using g), fun _ => (eval_put _ _ _ (by omega)).trans rfl, fun g => by rw [eval_put_ne _ _ _ _ (by decide)]; exact S.t17 (by simpa using g), fun g => by rw [eval_put_ne _ _ _ _ (by decide)]; exact S.t18 (by simpa using g), fun g => by rw [eval_put_ne _ _ _ _ (by decide)]; exact S.t19 (by simpa using g), fun g => by rw [eval_put_ne _ _ _ _ (by decide)]; exact S.t20 (by simpa using g), fun g => by rw [eval_put_ne _ _ _ _ (by decide)]; exact S.t21 (by simpa using g), fun g => by rw [eval_put_ne _ _ _ _ (by decide)]; exact S.t22 (by simpa using g), fun g => by rw [eval_put_ne _ _ _ _ (by decide)]; exact S.t23 (by simpa using g), fun g => (S.t24 (by simpa using g)).imp fun b hb => ⟨by rw [eval_put_ne _ _ _ _ (by decide)]; exact hb.1, hb.2⟩⟩
    | 17, _, ho, hsi, hT =>
      obtain ⟨e1, e2⟩ := pick_of h17 ho
      have D11 : s 11 = true := list_pos hT (d := 11) (by decide)
      have D16 : s 16 = true := list_pos hT (d := 16) (by decide)
      have BW := S.before
      refine step_val (v := .int .u8 (z2 : Nat)) (by simp only [execOp, e1, S.t11 D11, S.t16 D16]; go_simp; try exact hz2) (hK _ _ ?_)
      rw [e2]
      exact ⟨S.off.put (by decide) _, S.before, fun g => by rw [eval_put_ne _ _ _ _ (by decide)]; exact S.t0 (by simpa using g), fun g => by rw [eval_put_ne _ _ _ _ (by decide)]; exact S.t1 (by simpa using g), fun g => by rw [eval_put_ne _ _ _ _ (by decide)]; exact S.t2 (by simpa using g), fun g => by rw [eval_put_ne _ _ _ _ (by decide)]; exact S.t3 (by simpa using g), fun g => by rw [eval_put_ne _ _ _ _ (by decide)]; exact S.t4 (by simpa using g), fun g => by rw [eval_put_ne _ _ _ _ (by decide)]; exact S.t5 (by simpa using g), fun g => by rw [eval_put_ne _ _ _ _ (by decide)]; exact S.t6 (by simpa using g), fun g => by rw [eval_put_ne _ _ _ _ (by decide)]; exact S.t7 (by simpa using g), fun g => by rw [eval_put_ne _ _ _ _ (by decide)]; exact S.t8 (by simpa using g), fun g => by rw [eval_put_ne _ _ _ _ (by decide)]; exact S.t9 (by simpa using g), fun g => by rw [eval_put_ne _ _ _ _ (by decide)]; exact S.t10 (by simpa using g), fun g => by rw [eval_put_ne _ _ _ _ (by decide)]; exact S.t11 (by simpa using g), fun g => by rw [eval_put_ne _ _ _ _ (by decide)]; exact S.t12 (by simpa using g), fun g => by rw [eval_put_ne _ _ _ _ (by decide)]; exact S.t13 (by simpa using g), fun g => by rw [eval_put_ne _ _ _ _ (by decide)]; exact S.t14 (by simpa using g), fun g => by rw [eval_put_ne _ _ _ _ (by decide)]; exact S.t15 (by simpa using g), fun g => by rw [eval_put_ne _ _ _ _ (by decide)]; exact S.t16 (by simpa using g), fun _ => (eval_put _ _ _ (by omega)).trans rfl, fun g => by rw [eval_put_ne _ _ _ _ (by decide)]; exact S.t18 (by simpa using g), fun g => by rw [eval_put_ne _ _ _ _ (by decide)]; exact S.t19 (by simpa using g), fun g => by rw [eval_put_ne _ _ _ _ (by decide)]; exact S.t20 (by simpa using g), fun g => by rw [eval_put_ne _ _ _ _ (by decide)]; exact S.t21 (by simpa using g), fun g => by rw [eval_put_ne _ _ _ _ (by decide)]; exact S.t22 (by simpa using g), fun g => by rw [eval_put_ne _ _ _ _ (by decide)]; exact S.t23 (by simpa using g), fun g => (S.t24 (by simpa using g)).imp fun b hb => ⟨by rw [eval_put_ne _ _ _ _ (by decide)]; exact hb.1, hb.2⟩⟩
    | 18, _, ho, hsi, hT =>
      obtain ⟨e1, e2⟩ := pick_of h18 ho
      have BW := S.before
      refine step_val (v := .slice (some ⟨g, 0, none⟩) k cap) (by simp only [execOp, e1, y4]; go_simp) (hK _ _ ?_)
      rw [e2]
      exact ⟨S.off.put (by decide) _, S.before, fun g => by rw [eval_put_ne _ _ _ _ (by decide)]; exact S.t0 (by simpa using g), fun g => by rw [eval_put_ne _ _ _ _ (by decide)]; exact S.t1 (by simpa using g), fun g => by rw [eval_put_ne _ _ _ _ (by decide)]; exact S.t2 (by simpa using g), fun g => by rw [eval_put_ne _ _ _ _ (by decide)]; exact S.t3 (by simpa using g), fun g => by rw [eval_put_ne _ _ _ _ (by decide)]; exact S.t4 (by simpa using g), fun g => by rw [eval_put_ne _ _ _ _ (by decide)]; exact S.t5 (by simpa using g), fun g => by rw [eval_put_ne _ _ _ _ (by decide)]; exact S.t6 (by simpa using g), fun g => by rw [eval_put_ne _ _ _ _ (by decide)]; exact S.t7 (by simpa using g), fun g => by rw [eval_put_ne _ _ _ _ (by decide)]; exact S.t8 (by simpa using g), fun g => by rw [eval_put_ne _ _ _ _ (by decide)]; exact S.t9 (by simpa using g), fun g => by rw [eval_put_ne _ _ _ _ (by decide)]; exact S.t10 (by simpa using g), fun g => by rw [eval_put_ne _ _ _ _ (by decide)]; exact S.t11 (by simpa using g), fun g => by rw [eval_put_ne _ _ _ _ (by decide)]; exact S.t12 (by simpa using g), fun g => by rw [eval_put_ne _ _ _ _ (by decide)]; exact S.t13 (by simpa using g), fun g => by rw [eval_put_ne _ _ _ _ (by decide)]; exact S.t14 (by simpa using g), fun g => by rw [eval_put_ne _ _ _ _ (by decide)]; exact S.t15 (by simpa using g), fun g => by rw [eval_put_ne _ _ _ _ (by decide)]; exact S.t16 (by simpa using g), fun g => by rw [eval_put_ne _ _ _ _ (by decide)]; exact S.t17 (by simpa using g), fun _ => (eval_put _ _ _ (by omega)).trans rfl, fun g => by rw [eval_put_ne _ _ _ _ (by decide)]; exact S.t19 (by simpa using g), fun g => by rw [eval_put_ne _ _ _ _ (by decide)]; exact S.t20 (by simpa using g), fun g => by rw [eval_put_ne _ _ _ _ (by decide)]; exact S.t21 (by simpa using g), fun g => by rw [eval_put_ne _ _ _ _ (by decide)]; exact S.t22 (by simpa using g), fun g => by rw [eval_put_ne _ _ _ _ (by decide)]; exact S.t23 (by simpa using g), fun g => (S.t24 (by simpa using g)).imp fun b hb => ⟨by rw [eval_put_ne _ _ _ _ (by decide)]; exact hb.1, hb.2⟩⟩
    | 19, _, ho, hsi, hT =>
      obtain ⟨e1, e2⟩ := pick_of h19 ho
      have BW := S.before
      refine step_val (v := .int .i64 (k : Nat)) (by simp only [execOp, e1, y5]; go_simp) (hK _ _ ?_)
      rw [e2]
      exact ⟨S.off.put (by decide) _, S.before, fun g => by rw [eval_put_ne _ _ _ _ (by decide)]; exact S.t0 (by simpa using g), fun g => by rw [eval_put_ne _ _ _ _ (by decide)]; exact S.t1 (by simpa using g), fun g => by rw [eval_put_ne _ _ _ _ (by decide)]; exact S.t2 (by simpa using g), fun g => by rw [eval_put_ne _ _ _ _ (by decide)]; exact S.t3 (by simpa using g), fun g => by rw [eval_put_ne _ _ _ _ (by decide)]; exact S.t4 (by simpa using g), fun g => by rw [eval_put_ne _ _ _ _ (by decide)]; exact S.t5 (by simpa using g), fun g => by rw [eval_put_ne _ _ _ _ (by decide)]; exact S.t6 (by simpa using g), fun g => by rw [eval_put_ne _ _ _ _ (by decide)]; exact S.t7 (by simpa using g), fun g => by rw [eval_put_ne _ _ _ _ (by decide)]; exact S.t8 (by simpa using g), fun g => by rw [eval_put_ne _ _ _ _ (by decide)]; exact S.t9 (by simpa using g), fun g => by rw [eval_put_ne _ _ _ _ (by decide)]; exact S.t10 (by simpa using g), fun g => by rw [eval_put_ne _ _ _ _ (by decide)]; exact S.t11 (by simpa using g), fun g => by rw [eval_put_ne _ _ _ _ (by decide)]; exact S.t12 (by simpa using g), fun g => by rw [eval_put_ne _ _ _ _ (by decide)]; exact S.t13 (by simpa using g), fun g => by rw [eval_put_ne _ _ _ _ (by decide)]; exact S.t14 (by simpa using g), fun g => by rw [eval_put_ne _ _ _ _ (by decide)]; exact S.t15 (by simpa using g), fun g => by rw [eval_put_ne _ _ _ _ (by decide)]; exact S.t16 (by simpa using g), fun g => by rw [eval_put_ne _ _ _ _ (by decide)]; exact S.t17 (by simpa using g), fun g => by rw [eval_put_ne _ _ _ _ (by decide)]; exact S.t18 (by simpa using g), fun _ => (eval_put _ _ _ (by omega)).trans rfl, fun g => by rw [eval_put_ne _ _ _ _ (by decide)]; exact S.t20 (by simpa using g), fun g => by rw [eval_put_ne _ _ _ _ (by decide)]; exact S.t21 (by simpa using g), fun g => by rw [eval_put_ne _ _ _ _ (by decide)]; exact S.t22 (by simpa using g), fun g => by rw [eval_put_ne _ _ _ _ (by decide)]; exact S.t23 (by simpa using g), fun g => (S.t24 (by simpa using g)).imp fun b hb => ⟨by rw [eval_put_ne _ _ _ _ (by decide)]; exact hb.1, hb.2⟩⟩
    | 20, _, ho, hsi, hT =>
      obtain ⟨e1, e2⟩ := pick_of h20 ho
      have D19 : s 19 = true := list_pos hT (d := 19) (by decide)
      have BW := S.before
      refine step_val (v := .int .i64 (k8 : Nat)) (by simp only [execOp, e1, S.t19 D19]; go_simp; rw [IntKind.wrap_i64]; omega) (hK _ _ ?_)
      rw [e2]
      exact ⟨S.off.put (by decide) _, S.before, fun g => by rw [eval_put_ne _ _ _ _ (by decide)]; exact S.t0 (by simpa using g), fun g => by rw [eval_put_ne _ _ _ _ (by decide)]; exact S.t1 (by simpa using g), fun g => by rw [eval_put_ne _ _ _ _ (by decide)]; exact S.t2 (by simpa using g), fun g => by rw [eval_put_ne _ _ _ _ (by decide)]; exact S.t3 (by simpa using g), fun g => by rw [eval_put_ne _ _ _ _ (by decide)]; exact S.t4 (by simpa using g), fun g => by rw [eval_put_ne _ _ _ _ (by decide)]; exact S.t5 (by simpa using g), fun g => by rw [eval_put_ne _ _ _ _ (by decide)]; exact S.t6 (by simpa using g), fun g => by rw [eval_put_ne _ _ _ _ (by decide)]; exact S.t7 (by simpa using g), fun g => by rw [eval_put_ne _ _ _ _ (by decide)]; exact S.t8 (by simpa using g), fun g => by rw [eval_put_ne _ _ _ _ (by decide)]; exact S.t9 (by simpa using g), fun g => by rw [eval_put_ne _ _ _ _ (by decide)]; exact S.t10 (by simpa using g), fun g => by rw [eval_put_ne _ _ _ _ (by decide)]; exact S.t11 (by simpa using g), fun g => by rw [eval_put_ne _ _ _ _ (by decide)]; exact S.t12 (by simpa using g), fun g => by rw [eval_put_ne _ _ _ _ (by decide)]; exact S.t13 (by simpa using g), fun g => by rw [eval_put_ne _ _ _ _ (by decide)]; exact S.t14 (by simpa using g), fun g => by rw [eval_put_ne _ _ _ _ (by decide)]; exact S.t15 (by simpa using g), fun g => by rw [eval_put_ne _ _ _ _ (by decide)]; exact S.t16 (by simpa using g), fun g => by rw [eval_put_ne _ _ _ _ (by decide)]; exact S.t17 (by simpa using g), fun g => by rw [eval_put_ne _ _ _ _ (by decide)]; exact S.t18 (by simpa using g), fun g => by rw [eval_put_ne _ _ _ _ (by decide)]; exact S.t19 (by simpa using g), fun _ => (eval_put _ _ _ (by omega)).trans rfl, fun g => by rw [eval_put_ne _ _ _ _ (by decide)]; exact S.t21 (by simpa using g), fun g => by rw [eval_put_ne _ _ _ _ (by decide)]; exact S.t22 (by simpa using g), fun g => by rw [eval_put_ne _ _ _ _ (by decide)]; exact S.t23 (by simpa using g), fun g => (S.t24 (by simpa using g)).imp fun b hb => ⟨by rw [eval_put_ne _ _ _ _ (by decide)]; exact hb.1, hb.2⟩⟩
    | 21, _, ho, hsi, hT =>
      obtain ⟨e1, e2⟩ := pick_of h21 ho
      have D18 : s 18 = true := list_pos hT (d := 18) (by decide)
      have D20 : s 20 = true := list_pos hT (d := 20) (by decide)
      have BW := S.before
      refine step_val (v := .pointer (some ⟨g, k8, none⟩)) (by simp only [execOp, e1, S.t18 D18, S.t20 D20]; go_simp; try (intro h; omega)) (hK _ _ ?_)
      rw [e2]
      exact ⟨S.off.put (by decide) _, S.before, fun g => by rw [eval_put_ne _ _ _ _ (by decide)]; exact S.t0 (by simpa using g), fun g => by rw [eval_put_ne _ _ _ _ (by decide)]; exact S.t1 (by simpa using g), fun g => by rw [eval_put_ne _ _ _ _ (by decide)]; exact S.t2 (by simpa using g), fun g => by rw [eval_put_ne _ _ _ _ (by decide)]; exact S.t3 (by simpa using g), fun g => by rw [eval_put_ne _ _ _ _ (by decide)]; exact S.t4 (by simpa using g), fun g => by rw [eval_put_ne _ _ _ _ (by decide)]; exact S.t5 (by simpa using g), fun g => by rw [eval_put_ne _ _ _ _ (by decide)]; exact S.t6 (by simpa using g), fun g => by rw [eval_put_ne _ _ _ _ (by decide)]; exact S.t7 (by simpa using g), fun g => by rw [eval_put_ne _ _ _ _ (by decide)]; exact S.t8 (by simpa using g), fun g => by rw [eval_put_ne _ _ _ _ (by decide)]; exact S.t9 (by simpa using g), fun g => by rw [eval_put_ne _ _ _ _ (by decide)]; exact S.t10 (by simpa using g), fun g => by rw [eval_put_ne _ _ _ _ (by decide)]; exact S.t11 (by simpa using g), fun g => by rw [eval_put_ne _ _ _ _ (by decide)]; exact S.t12 (by simpa using g), fun g => by rw [eval_put_ne _ _ _ _ (by decide)]; exact S.t13 (by simpa using g), fun g => by rw [eval_put_ne _ _ _ _ (by decide)]; exact S.t14 (by simpa using g), fun g => by rw [eval_put_ne _ _ _ _ (by decide)]; exact S.t15 (by simpa using g), fun g => by rw [eval_put_ne _ _ _ _ (by decide)]; exact S.t16 (by simpa using g), fun g => by rw [eval_put_ne _ _ _ _ (by decide)]; exact S.t17 (by simpa using g), fun g => by rw [eval_put_ne _ _ _ _ (by decide)]; exact S.t18 (by simpa using g), fun g => by rw [eval_put_ne _ _ _ _ (by decide)]; exact S.t19 (by simpa using g), fun g => by rw [eval_put_ne _ _ _ _ (by decide)]; exact S.t20 (by simpa using g), fun _ => (eval_put _ _ _ (by omega)).trans rfl, fun g => by rw [eval_put_ne _ _ _ _ (by decide)]; exact S.t22 (by simpa using g), fun g => by rw [eval_put_ne _ _ _ _ (by decide)]; exact S.t23 (by simpa using g), fun g => (S.t24 (by simpa using g)).imp fun b hb => ⟨by rw [eval_put_ne _ _ _ _ (by decide)]; exact hb.1, hb.2⟩⟩
    | 22, _, ho, hsi, hT =>
      obtain ⟨e1, e2⟩ := pick_of h22 ho
      have D21 : s 21 = true := list_pos hT (d := 21) (by decide)
      have BW := S.before
      have cl := (BW.cell (p := ⟨g, k8, none⟩) hgl).trans c8
      refine step_val (v := .int .u8 (b8 : Nat)) (by simp only [execOp, e1, S.t21 D21]; go_simp) (hK _ _ ?_)
      rw [e2]
      exact ⟨S.off.put (by decide) _, S.before, fun g => by rw [eval_put_ne _ _ _ _ (by decide)]; exact S.t0 (by simpa using g), fun g => by rw [eval_put_ne _ _ _ _ (by decide)]; exact S.t1 (by simpa using g), fun g => by rw [eval_put_ne _ _ _ _ (by decide)]; exact S.t2 (by simpa using g), fun g => by rw [eval_put_ne _ _ _ _ (by decide)]; exact S.t3 (by simpa using g), fun g => by rw [eval_put_ne _ _ _ _ (by decide)]; exact S.t4 (by simpa using g), fun g => by rw [eval_put_ne _ _ _ _ (by decide)]; exact S.t5 (by simpa using g), fun g => by rw [eval_put_ne _ _ _ _ (by decide)]; exact S.t6 (by simpa using g), fun g => by rw [eval_put_ne _ _ _ _ (by decide)]; exact S.t7 (by simpa using g), fun g => by rw [eval_put_ne _ _ _ _ (by decide)]; exact S.t8 (by simpa using g), fun g => by rw [eval_put_ne _ _ _ _ (by decide)]; exact S.t9 (by simpa using g), fun g => by rw [eval_put_ne _ _ _ _ (by decide)]; exact S.t10 (by simpa using g), fun g => by rw [eval_put_ne _ _ _ _ (by decide)]; exact S.t11 (by simpa using g), fun g => by rw [eval_put_ne _ _ _ _ (by decide)]; exact S.t12 (by simpa using g), fun g => by rw [eval_put_ne _ _ _ _ (by decide)]; exact S.t13 (by simpa using g), fun g => by rw [eval_put_ne _ _ _ _ (by decide)]; exact S.t14 (by simpa using g), fun g => by rw [eval_put_ne _ _ _ _ (by decide)]; exact S.t15 (by simpa using g), fun g => by rw [eval_put_ne _ _ _ _ (by decide)]; exact S.t16 (by simpa using g), fun g => by rw [eval_put_ne _ _ _ _ (by decide)]; exact S.t17 (by simpa using g), fun g => by rw [eval_put_ne _ _ _ _ (by decide)]; exact S.t18 (by simpa using g), fun g => by rw [eval_put_ne _ _ _ _ (by decide)]; exact S.t19 (by simpa using g), fun g => by rw [eval_put_ne _ _ _ _ (by decide)]; exact S.t20 (by simpa using g), fun g => by rw [eval_put_ne _ _ _ _ (by decide)]; exact S.t21 (by simpa using g), fun _ => (eval_put _ _ _ (by omega)).trans rfl, fun g => by rw [eval_put_ne _ _ _ _ (by decide)]; exact S.t23 (by simpa using g), fun g => (S.t24 (by simpa using g)).imp fun b hb => ⟨by rw [eval_put_ne _ _ _ _ (by decide)]; exact hb.1, hb.2⟩⟩
    | 23, _, ho, hsi, hT =>
      obtain ⟨e1, e2⟩ := pick_of h23 ho
      have D17 : s 17 = true := list_pos hT (d := 17) (by decide)
      have D22 : s 22 = true := list_pos hT (d := 22) (by decide)
      have BW := S.before
      refine step_val (v := .int .u8 (z3 : Nat)) (by simp only [execOp, e1, S.t17 D17, S.t22 D22]; go_simp; try exact hz3) (hK _ _ ?_)
      rw [e2]
      exact ⟨S.off.put (by decide) _, S.before, fun g => by rw [eval_put_ne _ _ _ _ (by decide)]; exact S.t0 (by simpa using g), fun g => by rw [eval_put_ne _ _ _ _ (by decide)]; exact S.t1 (by simpa using g), fun g => by rw [eval_put_ne _ _ _ _ (by decide)]; exact S.t2 (by simpa using g), fun g => by rw [eval_put_ne _ _ _ _ (by decide)]; exact S.t3 (by simpa using g), fun g => by rw [eval_put_ne _ _ _ _ (by decide)]; exact S.t4 (by simpa using g), fun g => by rw [eval_put_ne _ _ _ _ (by decide)]; exact S.t5 (by simpa using g), fun g => by rw [eval_put_ne _ _ _ _ (by decide)]; exact S.t6 (by simpa using g), fun g => by rw [eval_put_ne _ _ _ _ (by decide)]; exact S.t7 (by simpa using g), fun g => by rw [eval_put_ne _ _ _ _ (by decide)]; exact S.t8 (by simpa using g), fun g => by rw [eval_put_ne _ _ _ _ (by decide)]; exact S.t9 (by simpa using g), fun g => by rw [eval_put_ne _ _ _ _ (by decide)]; exact S.t10 (by simpa using g), fun g => by rw [eval_put_ne _ _ _ _ (by decide)]; exact S.t11 (by simpa using g), fun g => by rw [eval_put_ne _ _ _ _ (by decide)]; exact S.t12 (by simpa using g), fun g => by rw [eval_put_ne _ _ _ _ (by decide)]; exact S.t13 (by simpa using g), fun g => by rw [eval_put_ne _ _ _ _ (by decide)]; exact S.t14 (by simpa using g), fun g => by rw [eval_put_ne _ _ _ _ (by decide)]; exact S.t15 (by simpa using g), fun g => by rw [eval_put_ne _ _ _ _ (by decide)]; exact S.t16 (by simpa using g), fun g => by rw [eval_put_ne _ _ _ _ (by decide)]; exact S.t17 (by simpa using g), fun g => by rw [eval_put_ne _ _ _ _ (by decide)]; exact S.t18 (by simpa using g), fun g => by rw [eval_put_ne _ _ _ _ (by decide)]; exact S.t19 (by simpa using g), fun g => by rw [eval_put_ne _ _ _ _ (by decide)]; exact S.t20 (by simpa using g), fun g => by rw [eval_put_ne _ _ _ _ (by decide)]; exact S.t21 (by simpa using g), fun g => by rw [eval_put_ne _ _ _ _ (by decide)]; exact S.t22 (by simpa using g), fun _ => (eval_put _ _ _ (by omega)).trans rfl, fun g => (S.t24 (by simpa using g)).imp fun b hb => ⟨by rw [eval_put_ne _ _ _ _ (by decide)]; exact hb.1, hb.2⟩⟩
    | 24, _, ho, hsi, hT =>
      obtain ⟨e1, e2⟩ := pick_of h24 ho
      have D23 : s 23 = true := list_pos hT (d := 23) (by decide)
      have BW := S.before
      have q46 : a.tmps[46]'(by omega) = .int .u8 (z3 : Nat) := by have := S.t23 D23; simpa [Act.eval, sz] using this
      refine step_to1 (w2 := w'.alloc (.cells #[.int .u8 (z3 : Nat)] 5)) (v := .slice (some ⟨w'.heap.size, 0, none⟩) 1 1) (by simp only [execOp, e1]; go_simp) (hK _ _ ?_)
      have BB := ba (Below.refl w'.heap.size w') (.cells #[.int .u8 (z3 : Nat)] 5)
      have FF := bld_new w' (.int .u8 (z3 : Nat)) 5
      rw [e2]
      exact ⟨S.off.put (by decide) _, bt BW BB, fun g => by rw [eval_put_ne _ _ _ _ (by decide)]; exact S.t0 (by simpa using g), fun g => by rw [eval_put_ne _ _ _ _ (by decide)]; exact S.t1 (by simpa using g), fun g => by rw [eval_put_ne _ _ _ _ (by decide)]; exact S.t2 (by simpa using g), fun g => by rw [eval_put_ne _ _ _ _ (by decide)]; exact S.t3 (by simpa using g), fun g => by rw [eval_put_ne _ _ _ _ (by decide)]; exact S.t4 (by simpa using g), fun g => by rw [eval_put_ne _ _ _ _ (by decide)]; exact S.t5 (by simpa using g), fun g => by rw [eval_put_ne _ _ _ _ (by decide)]; exact S.t6 (by simpa using g), fun g => by rw [eval_put_ne _ _ _ _ (by decide)]; exact S.t7 (by simpa using g), fun g => by rw [eval_put_ne _ _ _ _ (by decide)]; exact S.t8 (by simpa using g), fun g => by rw [eval_put_ne _ _ _ _ (by decide)]; exact S.t9 (by simpa using g), fun g => by rw [eval_put_ne _ _ _ _ (by decide)]; exact S.t10 (by simpa using g), fun g => by rw [eval_put_ne _ _ _ _ (by decide)]; exact S.t11 (by simpa using g), fun g => by rw [eval_put_ne _ _ _ _ (by decide)]; exact S.t12 (by simpa using g), fun g => by rw [eval_put_ne _ _ _ _ (by decide)]; exact S.t13 (by simpa using g), fun g => by rw [eval_put_ne _ _ _ _ (by decide)]; exact S.t14 (by simpa using g), fun g => by rw [eval_put_ne _ _ _ _ (by decide)]; exact S.t15 (by simpa using g), fun g => by rw [eval_put_ne _ _ _ _ (by decide)]; exact S.t16 (by simpa using g), fun g => by rw [eval_put_ne _ _ _ _ (by decide)]; exact S.t17 (by simpa using g), fun g => by rw [eval_put_ne _ _ _ _ (by decide)]; exact S.t18 (by simpa using g), fun g => by rw [eval_put_ne _ _ _ _ (by decide)]; exact S.t19 (by simpa using g), fun g => by rw [eval_put_ne _ _ _ _ (by decide)]; exact S.t20 (by simpa using g), fun g => by rw [eval_put_ne _ _ _ _ (by decide)]; exact S.t21 (by simpa using g), fun g => by rw [eval_put_ne _ _ _ _ (by decide)]; exact S.t22 (by simpa using g), fun g => by rw [eval_put_ne _ _ _ _ (by decide)]; exact S.t23 (by simpa using g), fun _ => ⟨_, (eval_put _ _ _ (by omega)).trans rfl, FF⟩⟩
    | _ + 25, il, _, _, _ => exact absurd il (by omega)
  · intro s a w' S hall
    have a0 := hall 0 (by omega)
    have a1 := hall 1 (by omega)
    have a2 := hall 2 (by omega)
    have a3 := hall 3 (by omega)
    have a4 := hall 4 (by omega)
    have a5 := hall 5 (by omega)
    have a6 := hall 6 (by omega)
    have a7 := hall 7 (by omega)
    have a8 := hall 8 (by omega)
    have a9 := hall 9 (by omega)
    have a10 := hall 10 (by omega)
    have a11 := hall 11 (by omega)
    have a12 := hall 12 (by omega)
    have a13 := hall 13 (by omega)
    have a14 := hall 14 (by omega)
    have a15 := hall 15 (by omega)
    have a16 := hall 16 (by omega)
    have a17 := hall 17 (by omega)
    have a18 := hall 18 (by omega)
    have a19 := hall 19 (by omega)
    have a20 := hall 20 (by omega)
    have a21 := hall 21 (by omega)
    have a22 := hall 22 (by omega)
    have a23 := hall 23 (by omega)
    have a24 := hall 24 (by omega)
    have e := off_norm _ (by intro d hd; simp at hd; omega) S.off
    obtain ⟨v24, M24, F24⟩ := S.t24 a24
    simp only [List.foldl, S.t0 a0, S.t1 a1, S.t2 a2, S.t3 a3, S.t4 a4, S.t5 a5, S.t6 a6, S.t7 a7, S.t8 a8, S.t9 a9, S.t10 a10, S.t11 a11, S.t12 a12, S.t13 a13, S.t14 a14, S.t15 a15, S.t16 a16, S.t17 a17, S.t18 a18, S.t19 a19, S.t20 a20, S.t21 a21, S.t22 a22, S.t23 a23, M24] at e
    rw [e]
    exact h _ _ S.before F24
set_option maxRecDepth 100000 in
set_option maxHeartbeats 2000000 in
theorem rsequence_any (n : Nat) (hn : n ≤ 65536) (w : World) :
    Calls Try.prog 11 #[.int .i64 n] w fun e w' => e = .returned (.tuple #[.string (seqS n), .int .i64 0]) ∧ Below w.heap.size w w' := by
  have t1 : decide ((n : Int) < 0) = false := decide_eq_false (by omega)
  have t2 : decide (65536 < (n : Int)) = false := by simp; omega
  obtain ⟨i0, hi0, hz0, hz1, hz2⟩ := info_parts info_u8
  have H0 := Lib.hid (show (w.alloc (.cells #[.int .u8 1, .int .u8 1, .int .u8 1, .int .u8 1, .int .u8 1, .int .u8 1, .int .u8 1, .int .u8 1] 5)).ownsRow w.heap.size 5 1 (.slice (some ⟨w.heap.size, 0, none⟩) 8 8) 8 (vals pbv 8) from by rw [vals_first]; exact own_new _ rfl (by unfold maxLen; omega) (Nat.le_refl _))
  have B0 := Lib.hid (ba (Below.refl w.heap.size w) (.cells #[.int .u8 1, .int .u8 1, .int .u8 1, .int .u8 1, .int .u8 1, .int .u8 1, .int .u8 1, .int .u8 1] 5))
  have HS := Lib.hid (show seqS n = ⟨(Gal.coefs sqv n).toArray⟩ from rfl)
  obtain ⟨R, hR⟩ : ∃ R, seqS n = R := ⟨_, rfl⟩
  rw [hR] at HS ⊢
  clear hR
  have w8 : IntKind.i64.wrap (8 * (n : Int)) = 8 * (n : Int) := by rw [IntKind.wrap_i64]; omega
  go_enter Try.func11, Try.ntmps11
  go_wp2_with fail
  go_loopw [4, 5] (fun v x wr => ∃ k : Nat, 8 ≤ k ∧ (k ≤ 8 * n ∨ k = 8) ∧ x = .int .i64 (k : Nat) ∧ wr.ownsRow w.heap.size 5 1 v k (vals pbv k) ∧ Below w.heap.size w wr) (fun _ x _ => 8 * n - (intOf x).toNat)
  case atStart => exact ⟨8, by omega, .inr rfl, rfl, H0.out, B0.out⟩
  case round =>
    obtain ⟨k, hk8, hkn, rfl, hown, hB⟩ := hrel
    clear H0 B0
    by_cases hlt : k < 8 * n
    · have t3 : decide ((k : Int) < 8 * (n : Int)) = true := by simp; omega
      obtain ⟨g, cap, rfl, hg, hgl, hc⟩ := own_reads hown (by omega)
      have HO := Lib.hid hown
      have B1 := Lib.hid hB
      obtain ⟨k1, hk1⟩ : ∃ q, k - 1 = q := ⟨_, rfl⟩
      obtain ⟨k3, hk3⟩ : ∃ q, k - 3 = q := ⟨_, rfl⟩
      obtain ⟨k5, hk5⟩ : ∃ q, k - 5 = q := ⟨_, rfl⟩
      obtain ⟨k8, hk8'⟩ : ∃ q, k - 8 = q := ⟨_, rfl⟩
      have c1 := hc k1 (by omega)
      have c3 := hc k3 (by omega)
      have c5 := hc k5 (by omega)
      have c8 := hc k8 (by omega)
      rw [pbv_nat] at c1 c3 c5 c8
      have px := Mk.prb_xor k8
      rw [show k8 + 8 = k by omega, show k8 + 7 = k1 by omega, show k8 + 5 = k3 by omega, show k8 + 3 = k5 by omega] at px
      have l1 := Mk.prb_lt k1
      have l3 := Mk.prb_lt k3
      have l5 := Mk.prb_lt k5
      have l8 := Mk.prb_lt k8
      obtain ⟨x1, hx1⟩ : ∃ x, Mk.prb k1 = x := ⟨_, rfl⟩
      obtain ⟨x3, hx3⟩ : ∃ x, Mk.prb k3 = x := ⟨_, rfl⟩
      obtain ⟨x5, hx5⟩ : ∃ x, Mk.prb k5 = x := ⟨_, rfl⟩
      obtain ⟨x8, hx8⟩ : ∃ x, Mk.prb k8 = x := ⟨_, rfl⟩
      rw [hx1] at c1 px l1
      rw [hx3] at c3 px l3
      rw [hx5] at c5 px l5
      rw [hx8] at c8 px l8
      have y1 := u8_xor_nat x1 x3 (by omega) (by omega)
      have m1 := Nat.xor_lt_two_pow (n := 8) (show x1 < 2 ^ 8 by omega) (show x3 < 2 ^ 8 by omega)
      obtain ⟨z1, hz1'⟩ : ∃ z, x1 ^^^ x3 = z := ⟨_, rfl⟩
      rw [hz1'] at y1 px m1
      have y2 := u8_xor_nat z1 x5 (by omega) (by omega)
      have m2 := Nat.xor_lt_two_pow (n := 8) m1 (show x5 < 2 ^ 8 by omega)
      obtain ⟨z2, hz2'⟩ : ∃ z, z1 ^^^ x5 = z := ⟨_, rfl⟩
      rw [hz2'] at y2 px m2
      have y3 := u8_xor_nat z2 x8 (by omega) (by omega)
      rw [← px] at y3
      have e1 : IntKind.i64.wrap ((k : Int) - 1) = (k1 : Int) := by rw [IntKind.wrap_i64]; omega
      have e3 : IntKind.i64.wrap ((k : Int) - 3) = (k3 : Int) := by rw [IntKind.wrap_i64]; omega
      have e5 : IntKind.i64.wrap ((k : Int) - 5) = (k5 : Int) := by rw [IntKind.wrap_i64]; omega
      have e8 : IntKind.i64.wrap ((k : Int) - 8) = (k8 : Int) := by rw [IntKind.wrap_i64]; omega
      have q1 : (k1 : Int) < (k : Int) := by omega
      have q3 : (k3 : Int) < (k : Int) := by omega
      have q5 : (k5 : Int) < (k : Int) := by omega
      have q8 : (k8 : Int) < (k : Int) := by omega
      have NS := Lib.hid (show vals pbv (k + 1) = vals pbv k ++ [.int .u8 (Mk.prb k : Nat)] by rw [vals_succ, pbv_nat])
      obtain ⟨z3, hz3'⟩ : ∃ z, Mk.prb k = z := ⟨_, rfl⟩
      rw [hz3'] at y3 NS
      have B1 := Lib.hid hB
      have HH := Lib.hid (⟨⟨c1, c3, c5, c8, hgl⟩, ⟨q1, q3, q5, q8⟩, ⟨y1, y2, y3⟩, ⟨by omega, by omega, by omega, by omega⟩⟩ : (wr.cell? ⟨g, k1, none⟩ = some (.int .u8 (x1 : Nat)) ∧ wr.cell? ⟨g, k3, none⟩ = some (.int .u8 (x3 : Nat)) ∧ wr.cell? ⟨g, k5, none⟩ = some (.int .u8 (x5 : Nat)) ∧ wr.cell? ⟨g, k8, none⟩ = some (.int .u8 (x8 : Nat)) ∧ g < wr.heap.size) ∧ ((k1 : Int) < (k : Int) ∧ (k3 : Int) < (k : Int) ∧ (k5 : Int) < (k : Int) ∧ (k8 : Int) < (k : Int)) ∧ (bits .xor .u8 (x1 : Int) (x3 : Int) = (z1 : Int) ∧ bits .xor .u8 (z1 : Int) (x5 : Int) = (z2 : Int) ∧ bits .xor .u8 (z2 : Int) (x8 : Int) = (z3 : Int)) ∧ ((k : Int) - 1 = (k1 : Int) ∧ (k : Int) - 3 = (k3 : Int) ∧ (k : Int) - 5 = (k5 : Int) ∧ (k : Int) - 8 = (k8 : Int)))
      have hk2 : k ≤ 600000 := by omega
      clear hown hB hc hx1 hx3 hx5 hx8 hz1' hz2' hz3' px m1 m2 hk1 hk3 hk5 hk8' hg hgl l1 l3 l5 l8 c1 c3 c5 c8 q1 q3 q5 q8 e1 e3 e5 e8 y1 y2 y3
      go_upto_region 7 with fail
      refine sqRegion g k cap k1 k3 k5 k8 x1 x3 x5 x8 z1 z2 z3 hk2 HH.out.2.2.2.1 HH.out.2.2.2.2.1 HH.out.2.2.2.2.2.1 HH.out.2.2.2.2.2.2 HH.out.2.1.1 HH.out.2.1.2.1 HH.out.2.1.2.2.1 HH.out.2.1.2.2.2 HH.out.2.2.1.1 HH.out.2.2.1.2.1 HH.out.2.2.1.2.2 HH.out.1.2.2.2.2 HH.out.1.1 HH.out.1.2.1 HH.out.1.2.2.1 HH.out.1.2.2.2.1 (by kernel_rfl) rfl rfl rfl rfl rfl rfl rfl rfl rfl rfl rfl rfl rfl rfl rfl rfl rfl rfl rfl rfl rfl rfl rfl rfl rfl rfl rfl rfl ?_
      intro vq w6 B6 hvq
      obtain ⟨P, rfl, hPc⟩ := hvq.cells
      have BA := Lib.hid (bt B1.out B6)
      have HO1 := Lib.hid (own_below HO.out B6)
      have PC := Lib.hid hPc
      simp only [Act.put, List.setIfInBounds_toArray, List.set_cons_succ, List.set_cons_zero, List.drop_succ_cons, List.drop_zero]
      clear HH hPc B6 hvq HO B1
      go_wp2_with (at_builtin; go_loud (refine wpList_append_own _ rfl _ _ 53 rfl w.heap.size 5 i0 (.int .u8 0) 1 1 Try.underlying53 hi0 hz0 hz1 hz2 rfl (by decide) _ _ _ rfl HO1.out ⟨P, 0, none⟩ 1 1 [.int .u8 (z3 : Nat)] rfl rfl PC.out (by simp [Value.oneCell']) (by unfold maxLen; omega) (by omega) BA.out.size ?_); intro v' w9 hown2 hgrow _; obtain ⟨g', cap', rfl⟩ := ownsRow_succ hown2; have HO2 := Lib.hid hown2; have BW := Lib.hid (BA.out.grown hgrow BA.out.size (fun k e => own_block_ge HO1.out e)); clear hown2 hgrow)
      go_roundw
      case rel => exact ⟨k + 1, by omega, by omega, by go_num, by rw [NS.out]; exact HO2.out, BW.out⟩
      case measure => simp [intOf]; omega
    · have t3 : decide ((k : Int) < 8 * (n : Int)) = false := by simp; omega
      obtain ⟨g, cap, rfl, hg, hgl, hc⟩ := own_reads hown (by omega)
      have hc' : ∀ j, j < k → wr.cell? ⟨g, j, none⟩ = some (.int .u8 (Mk.prb j : Nat)) := fun j hj => by rw [← pbv_nat]; exact hc j hj
      have CC := Lib.hid (fun (j : Nat) (hj : j < k) w' (hb : Below wr.heap.size wr w') => (hb.cell (p := ⟨g, j, none⟩) hgl).trans (hc' j hj))
      have B1 := Lib.hid hB
      have KN := Lib.hid (show 8 * n ≤ k by omega)
      have hk2 : k ≤ 600000 := by omega
      clear hown hB hc hc' hg hgl hkn hk8
      go_wp2_with fail
      go_loopw [6, 7] (fun o x w2 => ∃ j : Nat, j ≤ n ∧ x = .int .i64 (j : Nat) ∧ w2.ownsRow wr.heap.size 5 1 o j (vals sqv j) ∧ Below wr.heap.size wr w2) (fun _ x _ => n - (intOf x).toNat)
      case atStart => exact ⟨0, Nat.zero_le _, rfl, World.ownsRow_nil _ _ _ _, Below.refl _ _⟩
      case round =>
        obtain ⟨j, hj, rfl, hown, hB⟩ := hrel
        have HO := Lib.hid hown
        have B2 := Lib.hid hB
        have SL := Lib.hid (own_slen hown)
        clear hown hB
        by_cases hjn : j < n
        · have t4 : decide ((j : Int) < (n : Int)) = true := by simp; omega
          go_wp2_with fail
          go_loopw [8, 9] (fun c x w3 => ∃ q : Nat, q ≤ 8 ∧ x = .int .i64 (q : Nat) ∧ c = .int .u8 (Mk.acc Mk.prb (8 * j) q : Nat) ∧ Below wr.heap.size wr w3) (fun _ x _ => 8 - (intOf x).toNat)
          case atStart => exact ⟨0, Nat.zero_le _, rfl, rfl, Below.refl _ _⟩
          case round =>
            obtain ⟨q, hq, rfl, rfl, hB⟩ := hrel
            have B3 := Lib.hid hB
            clear hB
            by_cases hq8 : q < 8
            · have t5 : decide ((q : Int) < 8) = true := by simp; omega
              obtain ⟨p, hp⟩ : ∃ p, 8 * j + q = p := ⟨_, rfl⟩
              have pk : p < k := by have := KN.out; omega
              have c1 := CC.out p pk _ (bt B2.out B3.out)
              have x2 := Mk.prb_lt p
              have a2 := Mk.acc_lt (g := Mk.prb) Mk.prb_lt (8 * j) q
              have a3 : 2 ^ q ≤ 128 := Nat.le_trans (Nat.pow_le_pow_right (by omega) (show q ≤ 7 by omega)) (by decide)
              have ae : Mk.acc Mk.prb (8 * j) (q + 1) = 2 * Mk.acc Mk.prb (8 * j) q + Mk.prb p := by rw [← hp]; rfl
              obtain ⟨x, hx⟩ : ∃ x, Mk.prb p = x := ⟨_, rfl⟩
              obtain ⟨a, ha⟩ : ∃ x, Mk.acc Mk.prb (8 * j) q = x := ⟨_, rfl⟩
              rw [hx] at c1 x2 ae
              rw [ha] at a2 ae ⊢
              obtain ⟨m2, hm2⟩ : ∃ m2, a * 2 = m2 := ⟨_, rfl⟩
              obtain ⟨y, hy⟩ : ∃ y, m2 + x = y := ⟨_, rfl⟩
              have AE := Lib.hid (show Mk.acc Mk.prb (8 * j) (q + 1) = y by omega)
              have e1 : IntKind.i64.wrap (8 * (j : Int)) = 8 * (j : Int) := by rw [IntKind.wrap_i64]; omega
              have e2 : IntKind.i64.wrap (8 * (j : Int) + (q : Int)) = (p : Int) := by rw [IntKind.wrap_i64]; omega
              have e3 : IntKind.u8.wrap ((a : Int) * 2) = (m2 : Int) := by rw [IntKind.wrap_u8]; omega
              have e4 : IntKind.u8.wrap ((m2 : Int) + (x : Int)) = (y : Int) := by rw [IntKind.wrap_u8]; omega
              have pk' : (p : Int) < (k : Int) := by omega
              clear hx ha hm2 hy ae a2 a3 x2 hp
              go_wp2_with fail
              go_roundw
              case rel => exact ⟨q + 1, by omega, by go_num, by rw [AE.out], B3.out⟩
              case measure => simp [intOf]; omega
            · have t5 : decide ((q : Int) < 8) = false := by simp; omega
              obtain rfl : q = 8 := by omega
              rw [Mk.acc_byte]
              have NS := Lib.hid (show vals sqv (j + 1) = vals sqv j ++ [.int .u8 (Mk.sqb j : Nat)] by rw [vals_succ, sqv_nat])
              obtain ⟨z, hz⟩ : ∃ z, Mk.sqb j = z := ⟨_, rfl⟩
              rw [hz] at NS ⊢
              have B4 := bt B2.out B3.out
              have HO1 := Lib.hid (own_below HO.out B3.out)
              have BA := Lib.hid (ba B4 (.cells #[.int .u8 (z : Nat)] 5))
              have B4 := Lib.hid B4
              clear hz HO
              go_wp2_with (at_builtin; go_loud (refine wpList_append_own _ rfl _ _ 53 rfl _ 5 i0 (.int .u8 0) 1 1 Try.underlying53 hi0 hz0 hz1 hz2 rfl (by decide) _ _ _ rfl (HO1.out.alloc _) ⟨wr.heap.size, 0, none⟩ 1 1 [.int .u8 (z : Nat)] rfl rfl cell_one (by simp [Value.oneCell']) (by unfold maxLen; omega) (by omega) (by have := BA.out.size; simp at this ⊢; omega) ?_); intro v' w9 hown2 hgrow _; obtain ⟨g', cap', rfl⟩ := ownsRow_succ hown2; have HO2 := Lib.hid hown2; have BW := Lib.hid (BA.out.grown hgrow BA.out.size (fun k e => own_block_ge HO1.out e)); clear hown2 hgrow)
              go_roundw
              case rel => exact ⟨j + 1, by omega, by go_num, by rw [NS.out]; exact HO2.out, BW.out⟩
              case measure => simp [intOf]; omega
        · have t4 : decide ((j : Int) < (n : Int)) = false := by simp; omega
          obtain rfl : j = n := by omega
          have CV := Lib.hid (own_back HO.out)
          have HS1 := HS.out
          have BF := Lib.hid (bt B1.out B2.out)
          clear CC
          go_wp2_with (simp only [CV.out])
          go_ret2
          exact ⟨by rw [HS1]; rfl, BF.out⟩
end Go.Proofs.Ytlfnglinalmpjaa
