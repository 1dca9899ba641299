/- The contract of block's isolate over this program. -/
import Derived.Test.YtlpjhmafplljaaaGreatDoorBlkSub
import Derived.Test.YtlpjhmafplljaaaGreatDoorPkM
namespace Go.Proofs.YtlpjhmafplljaaaGreatDoor
open Go.RowKit
set_option linter.unusedVariables false

structure ExRegion (b j k : Nat) (M : Nat → Nat → BitVec 8) (A : Act) (w0 : World) (s : Nat → Bool) (a : Act) (w : World) : Prop where
  off : Off [26, 27, 28, 29, 30, 31, 32, 33, 34, 35, 36, 37, 38, 39, 40, 41, 42, 43] a A
  before : s 16 = false → Below w0.heap.size w0 w
  mid : s 16 = true → s 19 = false → ∃ w1, Below w0.heap.size w0 w1 ∧ w = w1.setCells b (k * 9) (arrK .u8 9 (fun c => (M j c).toNat)).toList
  behind : s 19 = true → ∃ w1, Below w0.heap.size w0 w1 ∧ w = (w1.setCells b (k * 9) (arrK .u8 9 (fun c => (M j c).toNat)).toList).setCells b (j * 9) (arrK .u8 9 (fun c => (M k c).toNat)).toList
  t0 : s 0 = true → a.eval (.tmp 26) = .pointer (some ⟨b, 0, none⟩)
  t1 : s 1 = true → a.eval (.tmp 27) = .int .i64 (k : Nat)
  t2 : s 2 = true → a.eval (.tmp 28) = .pointer (some ⟨b, 0, none⟩)
  t3 : s 3 = true → a.eval (.tmp 29) = .int .i64 (j : Nat)
  t4 : s 4 = true → a.eval (.tmp 30) = .pointer (some ⟨b, 0, none⟩)
  t5 : s 5 = true → a.eval (.tmp 31) = .int .i64 (j : Nat)
  t6 : s 6 = true → a.eval (.tmp 32) = .pointer (some ⟨b, 0, none⟩)
  t7 : s 7 = true → a.eval (.tmp 33) = .pointer (some ⟨b, j * 9, none⟩)
  t8 : s 8 = true → a.eval (.tmp 34) = .agg (arrK .u8 9 (fun c => (M j c).toNat))
  t9 : s 9 = true → a.eval (.tmp 35) = .pointer (some ⟨b, 0, none⟩)
  t10 : s 10 = true → a.eval (.tmp 36) = .int .i64 (k : Nat)
  t11 : s 11 = true → a.eval (.tmp 37) = .pointer (some ⟨b, 0, none⟩)
  t12 : s 12 = true → a.eval (.tmp 38) = .pointer (some ⟨b, k * 9, none⟩)
  t13 : s 13 = true → a.eval (.tmp 39) = .agg (arrK .u8 9 (fun c => (M k c).toNat))
  t14 : s 14 = true → a.eval (.tmp 40) = .pointer (some ⟨b, 0, none⟩)
  t15 : s 15 = true → a.eval (.tmp 41) = .pointer (some ⟨b, k * 9, none⟩)
  t17 : s 17 = true → a.eval (.tmp 42) = .pointer (some ⟨b, 0, none⟩)
  t18 : s 18 = true → a.eval (.tmp 43) = .pointer (some ⟨b, j * 9, none⟩)
set_option maxHeartbeats 2000000 in
set_option maxRecDepth 100000 in
theorem exRegion {id : Nat} {d : Bool} {l : List Oper} {A : Act} {w : World} {Q : Exit → Act → World → Prop} (b j k : Nat) (M : Nat → Nat → BitVec 8)
    (hj : j < 8) (hk : k < 8) (HM : Matx w b M)
    (hB : tableL d l.toArray (fun i => match i with | 0 => [] | 1 => [] | 2 => [] | 3 => [] | 4 => [] | 5 => [] | 6 => [4] | 7 => [5, 6] | 8 => [7] | 9 => [] | 10 => [] | 11 => [9] | 12 => [10, 11] | 13 => [12] | 14 => [0] | 15 => [1, 14] | 16 => [0, 1, 4, 5, 6, 7, 8, 9, 10, 11, 12, 13, 14, 15] | 17 => [2] | 18 => [3, 17] | 19 => [0, 1, 2, 3, 4, 5, 6, 7, 8, 9, 10, 11, 12, 13, 14, 15, 16, 17, 18] | _ => []) (fun i => match i with | 0 => [] | 1 => [] | 2 => [] | 3 => [] | 4 => [] | 5 => [] | 6 => [] | 7 => [] | 8 => [16] | 9 => [] | 10 => [] | 11 => [] | 12 => [] | 13 => [16] | 14 => [] | 15 => [] | 16 => [19] | 17 => [] | 18 => [] | 19 => [] | _ => []) = true) (hl : l.length = 20)
    (h0 : pick l 0 = some (.move (.tmp 0), some 26))
    (h1 : pick l 1 = some (.move (.tmp 6), some 27))
    (h2 : pick l 2 = some (.move (.tmp 0), some 28))
    (h3 : pick l 3 = some (.move (.tmp 1), some 29))
    (h4 : pick l 4 = some (.move (.tmp 0), some 30))
    (h5 : pick l 5 = some (.move (.tmp 1), some 31))
    (h6 : pick l 6 = some (.nilCheck (.tmp 30), some 32))
    (h7 : pick l 7 = some (.indexAddr 120 (.tmp 32) (.tmp 31), some 33))
    (h8 : pick l 8 = some (.load 118 (.tmp 33), some 34))
    (h9 : pick l 9 = some (.move (.tmp 0), some 35))
    (h10 : pick l 10 = some (.move (.tmp 6), some 36))
    (h11 : pick l 11 = some (.nilCheck (.tmp 35), some 37))
    (h12 : pick l 12 = some (.indexAddr 120 (.tmp 37) (.tmp 36), some 38))
    (h13 : pick l 13 = some (.load 118 (.tmp 38), some 39))
    (h14 : pick l 14 = some (.nilCheck (.tmp 26), some 40))
    (h15 : pick l 15 = some (.indexAddr 120 (.tmp 40) (.tmp 27), some 41))
    (h16 : pick l 16 = some (.store 118 (.tmp 41) (.tmp 34), none))
    (h17 : pick l 17 = some (.nilCheck (.tmp 28), some 42))
    (h18 : pick l 18 = some (.indexAddr 120 (.tmp 42) (.tmp 29), some 43))
    (h19 : pick l 19 = some (.store 118 (.tmp 43) (.tmp 39), none))
    (hs : A.tmps.size = 97)
    (x0 : A.eval (.tmp 0) = .pointer (some ⟨b, 0, none⟩))
    (x1 : A.eval (.tmp 1) = .int .i64 (j : Nat))
    (x6 : A.eval (.tmp 6) = .int .i64 (k : Nat))
    (h : ∀ w1, Below w.heap.size w w1 → Q .normal ((((((((((((((((((A.put (some 26) (.pointer (some ⟨b, 0, none⟩))).put (some 27) (.int .i64 (k : Nat))).put (some 28) (.pointer (some ⟨b, 0, none⟩))).put (some 29) (.int .i64 (j : Nat))).put (some 30) (.pointer (some ⟨b, 0, none⟩))).put (some 31) (.int .i64 (j : Nat))).put (some 32) (.pointer (some ⟨b, 0, none⟩))).put (some 33) (.pointer (some ⟨b, j * 9, none⟩))).put (some 34) (.agg (arrK .u8 9 (fun c => (M j c).toNat)))).put (some 35) (.pointer (some ⟨b, 0, none⟩))).put (some 36) (.int .i64 (k : Nat))).put (some 37) (.pointer (some ⟨b, 0, none⟩))).put (some 38) (.pointer (some ⟨b, k * 9, none⟩))).put (some 39) (.agg (arrK .u8 9 (fun c => (M k c).toNat)))).put (some 40) (.pointer (some ⟨b, 0, none⟩))).put (some 41) (.pointer (some ⟨b, k * 9, none⟩))).put (some 42) (.pointer (some ⟨b, 0, none⟩))).put (some 43) (.pointer (some ⟨b, j * 9, none⟩))) ((w1.setCells b (k * 9) (arrK .u8 9 (fun c => (M j c).toNat)).toList).setCells b (j * 9) (arrK .u8 9 (fun c => (M k c).toNat)).toList)) :
    (Code.region id l.toArray d).wp Tryz.prog Q A w := by
  refine wp_region_invL (by kernel_rfl) _ _ hB (ExRegion b j k M A w) ⟨Off.refl _ _, fun _ => Below.refl _ _, by simp, by simp, by simp, by simp, by simp, by simp, by simp, by simp, by simp, by simp, by simp, by simp, by simp, by simp, by simp, by simp, by simp, by simp, by simp, by simp⟩ ⟨Off.refl _ _, fun _ => (Below.refl _ _).drew, by simp, by simp, by simp, by simp, by simp, by simp, by simp, by simp, by simp, by simp, by simp, by simp, by simp, by simp, by simp, by simp, by simp, by simp, by simp, by simp⟩ ?_ ?_
  · intro s a w' S i' o ho hsi hT K hK
    have sz : a.tmps.size = 97 := by rw [S.off.2.1]; exact hs
    have il : i' < 20 := by have := (List.getElem?_eq_some_iff.1 ho).1; omega
    have y0 : a.eval (.tmp 0) = .pointer (some ⟨b, 0, none⟩) := by rw [S.off.eval (by decide)]; exact x0
    have y1 : a.eval (.tmp 1) = .int .i64 (j : Nat) := by rw [S.off.eval (by decide)]; exact x1
    have y6 : a.eval (.tmp 6) = .int .i64 (k : Nat) := by rw [S.off.eval (by decide)]; exact x6
    match i', il, ho, hsi, hT with
    | 0, _, ho, hsi, hT =>
      obtain ⟨e1, e2⟩ := pick_of h0 ho
      refine step_val (v := .pointer (some ⟨b, 0, none⟩)) (by simp only [execOp, e1, y0]; go_simp) (hK _ _ ?_)
      rw [e2]
      exact ⟨S.off.put (by decide) _, fun g => S.before (by simpa using g), fun g h => S.mid (by simpa using g) (by simpa using h), fun g => S.behind (by simpa using g), fun _ => (eval_put _ _ _ (by omega)).trans rfl, kp S.t1, kp S.t2, kp S.t3, kp S.t4, kp S.t5, kp S.t6, kp S.t7, kp S.t8, kp S.t9, kp S.t10, kp S.t11, kp S.t12, kp S.t13, kp S.t14, kp S.t15, kp S.t17, kp S.t18⟩
    | 1, _, ho, hsi, hT =>
      obtain ⟨e1, e2⟩ := pick_of h1 ho
      refine step_val (v := .int .i64 (k : Nat)) (by simp only [execOp, e1, y6]; go_simp) (hK _ _ ?_)
      rw [e2]
      exact ⟨S.off.put (by decide) _, fun g => S.before (by simpa using g), fun g h => S.mid (by simpa using g) (by simpa using h), fun g => S.behind (by simpa using g), kp S.t0, fun _ => (eval_put _ _ _ (by omega)).trans rfl, kp S.t2, kp S.t3, kp S.t4, kp S.t5, kp S.t6, kp S.t7, kp S.t8, kp S.t9, kp S.t10, kp S.t11, kp S.t12, kp S.t13, kp S.t14, kp S.t15, kp S.t17, kp S.t18⟩
    | 2, _, ho, hsi, hT =>
      obtain ⟨e1, e2⟩ := pick_of h2 ho
      refine step_val (v := .pointer (some ⟨b, 0, none⟩)) (by simp only [execOp, e1, y0]; go_simp) (hK _ _ ?_)
      rw [e2]
      exact ⟨S.off.put (by decide) _, fun g => S.before (by simpa using g), fun g h => S.mid (by simpa using g) (by simpa using h), fun g => S.behind (by simpa using g), kp S.t0, kp S.t1, fun _ => (eval_put _ _ _ (by omega)).trans rfl, kp S.t3, kp S.t4, kp S.t5, kp S.t6, kp S.t7, kp S.t8, kp S.t9, kp S.t10, kp S.t11, kp S.t12, kp S.t13, kp S.t14, kp S.t15, kp S.t17, kp S.t18⟩
    | 3, _, ho, hsi, hT =>
      obtain ⟨e1, e2⟩ := pick_of h3 ho
      refine step_val (v := .int .i64 (j : Nat)) (by simp only [execOp, e1, y1]; go_simp) (hK _ _ ?_)
      rw [e2]
      exact ⟨S.off.put (by decide) _, fun g => S.before (by simpa using g), fun g h => S.mid (by simpa using g) (by simpa using h), fun g => S.behind (by simpa using g), kp S.t0, kp S.t1, kp S.t2, fun _ => (eval_put _ _ _ (by omega)).trans rfl, kp S.t4, kp S.t5, kp S.t6, kp S.t7, kp S.t8, kp S.t9, kp S.t10, kp S.t11, kp S.t12, kp S.t13, kp S.t14, kp S.t15, kp S.t17, kp S.t18⟩
    | 4, _, ho, hsi, hT =>
      obtain ⟨e1, e2⟩ := pick_of h4 ho
      refine step_val (v := .pointer (some ⟨b, 0, none⟩)) (by simp only [execOp, e1, y0]; go_simp) (hK _ _ ?_)
      rw [e2]
      exact ⟨S.off.put (by decide) _, fun g => S.before (by simpa using g), fun g h => S.mid (by simpa using g) (by simpa using h), fun g => S.behind (by simpa using g), kp S.t0, kp S.t1, kp S.t2, kp S.t3, fun _ => (eval_put _ _ _ (by omega)).trans rfl, kp S.t5, kp S.t6, kp S.t7, kp S.t8, kp S.t9, kp S.t10, kp S.t11, kp S.t12, kp S.t13, kp S.t14, kp S.t15, kp S.t17, kp S.t18⟩
    | 5, _, ho, hsi, hT =>
      obtain ⟨e1, e2⟩ := pick_of h5 ho
      refine step_val (v := .int .i64 (j : Nat)) (by simp only [execOp, e1, y1]; go_simp) (hK _ _ ?_)
      rw [e2]
      exact ⟨S.off.put (by decide) _, fun g => S.before (by simpa using g), fun g h => S.mid (by simpa using g) (by simpa using h), fun g => S.behind (by simpa using g), kp S.t0, kp S.t1, kp S.t2, kp S.t3, kp S.t4, fun _ => (eval_put _ _ _ (by omega)).trans rfl, kp S.t6, kp S.t7, kp S.t8, kp S.t9, kp S.t10, kp S.t11, kp S.t12, kp S.t13, kp S.t14, kp S.t15, kp S.t17, kp S.t18⟩
    | 6, _, ho, hsi, hT =>
      obtain ⟨e1, e2⟩ := pick_of h6 ho
      have D4 : s 4 = true := list_pos hT (d := 4) (by decide)
      refine step_val (v := .pointer (some ⟨b, 0, none⟩)) (by simp only [execOp, e1, S.t4 D4]; go_simp) (hK _ _ ?_)
      rw [e2]
      exact ⟨S.off.put (by decide) _, fun g => S.before (by simpa using g), fun g h => S.mid (by simpa using g) (by simpa using h), fun g => S.behind (by simpa using g), kp S.t0, kp S.t1, kp S.t2, kp S.t3, kp S.t4, kp S.t5, fun _ => (eval_put _ _ _ (by omega)).trans rfl, kp S.t7, kp S.t8, kp S.t9, kp S.t10, kp S.t11, kp S.t12, kp S.t13, kp S.t14, kp S.t15, kp S.t17, kp S.t18⟩
    | 7, _, ho, hsi, hT =>
      obtain ⟨e1, e2⟩ := pick_of h7 ho
      have D5 : s 5 = true := list_pos hT (d := 5) (by decide)
      have D6 : s 6 = true := list_pos hT (d := 6) (by decide)
      refine step_val (v := .pointer (some ⟨b, j * 9, none⟩)) (by simp only [execOp, e1, S.t5 D5, S.t6 D6]; go_simp; intro h; omega) (hK _ _ ?_)
      rw [e2]
      exact ⟨S.off.put (by decide) _, fun g => S.before (by simpa using g), fun g h => S.mid (by simpa using g) (by simpa using h), fun g => S.behind (by simpa using g), kp S.t0, kp S.t1, kp S.t2, kp S.t3, kp S.t4, kp S.t5, kp S.t6, fun _ => (eval_put _ _ _ (by omega)).trans rfl, kp S.t8, kp S.t9, kp S.t10, kp S.t11, kp S.t12, kp S.t13, kp S.t14, kp S.t15, kp S.t17, kp S.t18⟩
    | 8, _, ho, hsi, hT =>
      obtain ⟨e1, e2⟩ := pick_of h8 ho
      have D7 : s 7 = true := list_pos hT (d := 7) (by decide)
      have N16 : s 16 = false := list_neg hT (k := 16) (by decide)
      have BW := S.before N16
      refine step_load_sub (.tmp 33) e1 b (j * 9) (fun c => (M j c).toNat) (S.t7 D7) (fun q hq => (HM.below BW).cell hj hq) (hK _ _ ?_)
      rw [e2]
      exact ⟨S.off.put (by decide) _, fun g => S.before (by simpa using g), fun g h => S.mid (by simpa using g) (by simpa using h), fun g => S.behind (by simpa using g), kp S.t0, kp S.t1, kp S.t2, kp S.t3, kp S.t4, kp S.t5, kp S.t6, kp S.t7, fun _ => (eval_put _ _ _ (by omega)).trans rfl, kp S.t9, kp S.t10, kp S.t11, kp S.t12, kp S.t13, kp S.t14, kp S.t15, kp S.t17, kp S.t18⟩
    | 9, _, ho, hsi, hT =>
      obtain ⟨e1, e2⟩ := pick_of h9 ho
      refine step_val (v := .pointer (some ⟨b, 0, none⟩)) (by simp only [execOp, e1, y0]; go_simp) (hK _ _ ?_)
      rw [e2]
      exact ⟨S.off.put (by decide) _, fun g => S.before (by simpa using g), fun g h => S.mid (by simpa using g) (by simpa using h), fun g => S.behind (by simpa using g), kp S.t0, kp S.t1, kp S.t2, kp S.t3, kp S.t4, kp S.t5, kp S.t6, kp S.t7, kp S.t8, fun _ => (eval_put _ _ _ (by omega)).trans rfl, kp S.t10, kp S.t11, kp S.t12, kp S.t13, kp S.t14, kp S.t15, kp S.t17, kp S.t18⟩
    | 10, _, ho, hsi, hT =>
      obtain ⟨e1, e2⟩ := pick_of h10 ho
      refine step_val (v := .int .i64 (k : Nat)) (by simp only [execOp, e1, y6]; go_simp) (hK _ _ ?_)
      rw [e2]
      exact ⟨S.off.put (by decide) _, fun g => S.before (by simpa using g), fun g h => S.mid (by simpa using g) (by simpa using h), fun g => S.behind (by simpa using g), kp S.t0, kp S.t1, kp S.t2, kp S.t3, kp S.t4, kp S.t5, kp S.t6, kp S.t7, kp S.t8, kp S.t9, fun _ => (eval_put _ _ _ (by omega)).trans rfl, kp S.t11, kp S.t12, kp S.t13, kp S.t14, kp S.t15, kp S.t17, kp S.t18⟩
    | 11, _, ho, hsi, hT =>
      obtain ⟨e1, e2⟩ := pick_of h11 ho
      have D9 : s 9 = true := list_pos hT (d := 9) (by decide)
      refine step_val (v := .pointer (some ⟨b, 0, none⟩)) (by simp only [execOp, e1, S.t9 D9]; go_simp) (hK _ _ ?_)
      rw [e2]
      exact ⟨S.off.put (by decide) _, fun g => S.before (by simpa using g), fun g h => S.mid (by simpa using g) (by simpa using h), fun g => S.behind (by simpa using g), kp S.t0, kp S.t1, kp S.t2, kp S.t3, kp S.t4, kp S.t5, kp S.t6, kp S.t7, kp S.t8, kp S.t9, kp S.t10, fun _ => (eval_put _ _ _ (by omega)).trans rfl, kp S.t12, kp S.t13, kp S.t14, kp S.t15, kp S.t17, kp S.t18⟩
    | 12, _, ho, hsi, hT =>
      obtain ⟨e1, e2⟩ := pick_of h12 ho
      have D10 : s 10 = true := list_pos hT (d := 10) (by decide)
      have D11 : s 11 = true := list_pos hT (d := 11) (by decide)
      refine step_val (v := .pointer (some ⟨b, k * 9, none⟩)) (by simp only [execOp, e1, S.t10 D10, S.t11 D11]; go_simp; intro h; omega) (hK _ _ ?_)
      rw [e2]
      exact ⟨S.off.put (by decide) _, fun g => S.before (by simpa using g), fun g h => S.mid (by simpa using g) (by simpa using h), fun g => S.behind (by simpa using g), kp S.t0, kp S.t1, kp S.t2, kp S.t3, kp S.t4, kp S.t5, kp S.t6, kp S.t7, kp S.t8, kp S.t9, kp S.t10, kp S.t11, fun _ => (eval_put _ _ _ (by omega)).trans rfl, kp S.t13, kp S.t14, kp S.t15, kp S.t17, kp S.t18⟩
    | 13, _, ho, hsi, hT =>
      obtain ⟨e1, e2⟩ := pick_of h13 ho
      have D12 : s 12 = true := list_pos hT (d := 12) (by decide)
      have N16 : s 16 = false := list_neg hT (k := 16) (by decide)
      have BW := S.before N16
      refine step_load_sub (.tmp 38) e1 b (k * 9) (fun c => (M k c).toNat) (S.t12 D12) (fun q hq => (HM.below BW).cell hk hq) (hK _ _ ?_)
      rw [e2]
      exact ⟨S.off.put (by decide) _, fun g => S.before (by simpa using g), fun g h => S.mid (by simpa using g) (by simpa using h), fun g => S.behind (by simpa using g), kp S.t0, kp S.t1, kp S.t2, kp S.t3, kp S.t4, kp S.t5, kp S.t6, kp S.t7, kp S.t8, kp S.t9, kp S.t10, kp S.t11, kp S.t12, fun _ => (eval_put _ _ _ (by omega)).trans rfl, kp S.t14, kp S.t15, kp S.t17, kp S.t18⟩
    | 14, _, ho, hsi, hT =>
      obtain ⟨e1, e2⟩ := pick_of h14 ho
      have D0 : s 0 = true := list_pos hT (d := 0) (by decide)
      refine step_val (v := .pointer (some ⟨b, 0, none⟩)) (by simp only [execOp, e1, S.t0 D0]; go_simp) (hK _ _ ?_)
      rw [e2]
      exact ⟨S.off.put (by decide) _, fun g => S.before (by simpa using g), fun g h => S.mid (by simpa using g) (by simpa using h), fun g => S.behind (by simpa using g), kp S.t0, kp S.t1, kp S.t2, kp S.t3, kp S.t4, kp S.t5, kp S.t6, kp S.t7, kp S.t8, kp S.t9, kp S.t10, kp S.t11, kp S.t12, kp S.t13, fun _ => (eval_put _ _ _ (by omega)).trans rfl, kp S.t15, kp S.t17, kp S.t18⟩
    | 15, _, ho, hsi, hT =>
      obtain ⟨e1, e2⟩ := pick_of h15 ho
      have D1 : s 1 = true := list_pos hT (d := 1) (by decide)
      have D14 : s 14 = true := list_pos hT (d := 14) (by decide)
      refine step_val (v := .pointer (some ⟨b, k * 9, none⟩)) (by simp only [execOp, e1, S.t1 D1, S.t14 D14]; go_simp; intro h; omega) (hK _ _ ?_)
      rw [e2]
      exact ⟨S.off.put (by decide) _, fun g => S.before (by simpa using g), fun g h => S.mid (by simpa using g) (by simpa using h), fun g => S.behind (by simpa using g), kp S.t0, kp S.t1, kp S.t2, kp S.t3, kp S.t4, kp S.t5, kp S.t6, kp S.t7, kp S.t8, kp S.t9, kp S.t10, kp S.t11, kp S.t12, kp S.t13, kp S.t14, fun _ => (eval_put _ _ _ (by omega)).trans rfl, kp S.t17, kp S.t18⟩
    | 16, _, ho, hsi, hT =>
      obtain ⟨e1, e2⟩ := pick_of h16 ho
      have D0 : s 0 = true := list_pos hT (d := 0) (by decide)
      have D1 : s 1 = true := list_pos hT (d := 1) (by decide)
      have D4 : s 4 = true := list_pos hT (d := 4) (by decide)
      have D5 : s 5 = true := list_pos hT (d := 5) (by decide)
      have D6 : s 6 = true := list_pos hT (d := 6) (by decide)
      have D7 : s 7 = true := list_pos hT (d := 7) (by decide)
      have D8 : s 8 = true := list_pos hT (d := 8) (by decide)
      have D9 : s 9 = true := list_pos hT (d := 9) (by decide)
      have D10 : s 10 = true := list_pos hT (d := 10) (by decide)
      have D11 : s 11 = true := list_pos hT (d := 11) (by decide)
      have D12 : s 12 = true := list_pos hT (d := 12) (by decide)
      have D13 : s 13 = true := list_pos hT (d := 13) (by decide)
      have D14 : s 14 = true := list_pos hT (d := 14) (by decide)
      have D15 : s 15 = true := list_pos hT (d := 15) (by decide)
      have N19 : s 19 = false := list_neg hT (k := 19) (by decide)
      have BW := S.before hsi
      refine step_store_sub (.tmp 41) (.tmp 34) e1 b (k * 9) (fun c => (M j c).toNat) (S.t15 D15) (S.t8 D8) ((HM.below BW).isSome hk) ((HM.below BW).frees hk) (hK _ _ ?_)
      rw [e2]
      exact ⟨S.off.put_none _, fun g => absurd g (by simp), fun _ _ => ⟨w', BW, rfl⟩, fun g => absurd g (by simp [N19]), fun g => S.t0 (by simpa using g), fun g => S.t1 (by simpa using g), fun g => S.t2 (by simpa using g), fun g => S.t3 (by simpa using g), fun g => S.t4 (by simpa using g), fun g => S.t5 (by simpa using g), fun g => S.t6 (by simpa using g), fun g => S.t7 (by simpa using g), fun g => S.t8 (by simpa using g), fun g => S.t9 (by simpa using g), fun g => S.t10 (by simpa using g), fun g => S.t11 (by simpa using g), fun g => S.t12 (by simpa using g), fun g => S.t13 (by simpa using g), fun g => S.t14 (by simpa using g), fun g => S.t15 (by simpa using g), fun g => S.t17 (by simpa using g), fun g => S.t18 (by simpa using g)⟩
    | 17, _, ho, hsi, hT =>
      obtain ⟨e1, e2⟩ := pick_of h17 ho
      have D2 : s 2 = true := list_pos hT (d := 2) (by decide)
      refine step_val (v := .pointer (some ⟨b, 0, none⟩)) (by simp only [execOp, e1, S.t2 D2]; go_simp) (hK _ _ ?_)
      rw [e2]
      exact ⟨S.off.put (by decide) _, fun g => S.before (by simpa using g), fun g h => S.mid (by simpa using g) (by simpa using h), fun g => S.behind (by simpa using g), kp S.t0, kp S.t1, kp S.t2, kp S.t3, kp S.t4, kp S.t5, kp S.t6, kp S.t7, kp S.t8, kp S.t9, kp S.t10, kp S.t11, kp S.t12, kp S.t13, kp S.t14, kp S.t15, fun _ => (eval_put _ _ _ (by omega)).trans rfl, kp S.t18⟩
    | 18, _, ho, hsi, hT =>
      obtain ⟨e1, e2⟩ := pick_of h18 ho
      have D3 : s 3 = true := list_pos hT (d := 3) (by decide)
      have D17 : s 17 = true := list_pos hT (d := 17) (by decide)
      refine step_val (v := .pointer (some ⟨b, j * 9, none⟩)) (by simp only [execOp, e1, S.t3 D3, S.t17 D17]; go_simp; intro h; omega) (hK _ _ ?_)
      rw [e2]
      exact ⟨S.off.put (by decide) _, fun g => S.before (by simpa using g), fun g h => S.mid (by simpa using g) (by simpa using h), fun g => S.behind (by simpa using g), kp S.t0, kp S.t1, kp S.t2, kp S.t3, kp S.t4, kp S.t5, kp S.t6, kp S.t7, kp S.t8, kp S.t9, kp S.t10, kp S.t11, kp S.t12, kp S.t13, kp S.t14, kp S.t15, kp S.t17, fun _ => (eval_put _ _ _ (by omega)).trans rfl⟩
    | 19, _, ho, hsi, hT =>
      obtain ⟨e1, e2⟩ := pick_of h19 ho
      have D0 : s 0 = true := list_pos hT (d := 0) (by decide)
      have D1 : s 1 = true := list_pos hT (d := 1) (by decide)
      have D2 : s 2 = true := list_pos hT (d := 2) (by decide)
      have D3 : s 3 = true := list_pos hT (d := 3) (by decide)
      have D4 : s 4 = true := list_pos hT (d := 4) (by decide)
      have D5 : s 5 = true := list_pos hT (d := 5) (by decide)
      have D6 : s 6 = true := list_pos hT (d := 6) (by decide)
      have D7 : s 7 = true := list_pos hT (d := 7) (by decide)
      have D8 : s 8 = true := list_pos hT (d := 8) (by decide)
      have D9 : s 9 = true := list_pos hT (d := 9) (by decide)
      have D10 : s 10 = true := list_pos hT (d := 10) (by decide)
      have D11 : s 11 = true := list_pos hT (d := 11) (by decide)
      have D12 : s 12 = true := list_pos hT (d := 12) (by decide)
      have D13 : s 13 = true := list_pos hT (d := 13) (by decide)
      have D14 : s 14 = true := list_pos hT (d := 14) (by decide)
      have D15 : s 15 = true := list_pos hT (d := 15) (by decide)
      have D16 : s 16 = true := list_pos hT (d := 16) (by decide)
      have D17 : s 17 = true := list_pos hT (d := 17) (by decide)
      have D18 : s 18 = true := list_pos hT (d := 18) (by decide)
      obtain ⟨w1, BW, rfl⟩ := S.mid D16 hsi
      refine step_store_sub (.tmp 43) (.tmp 39) e1 b (j * 9) (fun c => (M k c).toNat) (S.t18 D18) (S.t13 D13) (((HM.below BW).putRow hk (M j)).isSome hj) (((HM.below BW).putRow hk (M j)).frees hj) (hK _ _ ?_)
      rw [e2]
      exact ⟨S.off.put_none _, fun g => absurd g (by simp [D16]), fun _ g => absurd g (by simp), fun _ => ⟨w1, BW, rfl⟩, fun g => S.t0 (by simpa using g), fun g => S.t1 (by simpa using g), fun g => S.t2 (by simpa using g), fun g => S.t3 (by simpa using g), fun g => S.t4 (by simpa using g), fun g => S.t5 (by simpa using g), fun g => S.t6 (by simpa using g), fun g => S.t7 (by simpa using g), fun g => S.t8 (by simpa using g), fun g => S.t9 (by simpa using g), fun g => S.t10 (by simpa using g), fun g => S.t11 (by simpa using g), fun g => S.t12 (by simpa using g), fun g => S.t13 (by simpa using g), fun g => S.t14 (by simpa using g), fun g => S.t15 (by simpa using g), fun g => S.t17 (by simpa using g), fun g => S.t18 (by simpa using g)⟩
    | _ + 20, il, _, _, _ => exact absurd il (by omega)
  · intro s a w' S hall
    have a0 := hall 0 (by omega)
    have a1 := hall 1 (by omega)
    have a2 := hall 2 (by omega)
    have a3 := hall 3 (by omega)
    have a4 := hall 4 (by omega)
    have a5 := hall 5 (by omega)
    have a6 := hall 6 (by omega)
    have a7 := hall 7 (by omega)
    have a8 := hall 8 (by omega)
    have a9 := hall 9 (by omega)
    have a10 := hall 10 (by omega)
    have a11 := hall 11 (by omega)
    have a12 := hall 12 (by omega)
    have a13 := hall 13 (by omega)
    have a14 := hall 14 (by omega)
    have a15 := hall 15 (by omega)
    have a16 := hall 16 (by omega)
    have a17 := hall 17 (by omega)
    have a18 := hall 18 (by omega)
    have a19 := hall 19 (by omega)
    have e := off_norm _ (by intro d hd; simp at hd; omega) S.off
    simp only [List.foldl, S.t0 a0, S.t1 a1, S.t2 a2, S.t3 a3, S.t4 a4, S.t5 a5, S.t6 a6, S.t7 a7, S.t8 a8, S.t9 a9, S.t10 a10, S.t11 a11, S.t12 a12, S.t13 a13, S.t14 a14, S.t15 a15, S.t17 a17, S.t18 a18] at e
    obtain ⟨w1, BW, rfl⟩ := S.behind a19
    rw [e]
    exact h _ BW
structure ScRegion (b j : Nat) (v : BitVec 8) (M : Nat → Nat → BitVec 8) (A : Act) (w0 : World) (s : Nat → Bool) (a : Act) (w : World) : Prop where
  off : Off [55, 56, 57, 58, 59, 60, 61, 62, 63, 64, 65] a A
  before : Below w0.heap.size w0 w
  t0 : s 0 = true → a.eval (.tmp 55) = .pointer (some ⟨b, 0, none⟩)
  t1 : s 1 = true → a.eval (.tmp 56) = .int .i64 (j : Nat)
  t2 : s 2 = true → a.eval (.tmp 57) = .pointer (some ⟨b, 0, none⟩)
  t3 : s 3 = true → a.eval (.tmp 58) = .int .i64 (j : Nat)
  t4 : s 4 = true → a.eval (.tmp 59) = .pointer (some ⟨b, 0, none⟩)
  t5 : s 5 = true → a.eval (.tmp 60) = .pointer (some ⟨b, j * 9, none⟩)
  t6 : s 6 = true → a.eval (.tmp 61) = .agg (arrK .u8 9 (fun c => (M j c).toNat))
  t7 : s 7 = true → a.eval (.tmp 62) = .int .u8 (v.toNat : Nat)
  t8 : s 8 = true → a.eval (.tmp 63) = .agg (arrK .u8 9 (fun c => (Gal.mul v (M j c)).toNat))
  t9 : s 9 = true → a.eval (.tmp 64) = .pointer (some ⟨b, 0, none⟩)
  t10 : s 10 = true → a.eval (.tmp 65) = .pointer (some ⟨b, j * 9, none⟩)
set_option maxHeartbeats 2000000 in
set_option maxRecDepth 100000 in
theorem scRegion {id : Nat} {l : List Oper} {A : Act} {w : World} {Q : Exit → Act → World → Prop} (b j : Nat) (v : BitVec 8) (M : Nat → Nat → BitVec 8)
    (hj : j < 8) (HM : Matx w b M)
    (hB : tableH l.toArray 11 (fun i => match i with | 0 => [] | 1 => [] | 2 => [] | 3 => [] | 4 => [2] | 5 => [3, 4] | 6 => [5] | 7 => [] | 8 => [6, 7] | 9 => [0] | 10 => [1, 9] | _ => []) (fun _ => []) = true)
    (h0 : pick l 0 = some (.move (.tmp 0), some 55))
    (h1 : pick l 1 = some (.move (.tmp 1), some 56))
    (h2 : pick l 2 = some (.move (.tmp 0), some 57))
    (h3 : pick l 3 = some (.move (.tmp 1), some 58))
    (h4 : pick l 4 = some (.nilCheck (.tmp 57), some 59))
    (h5 : pick l 5 = some (.indexAddr 120 (.tmp 59) (.tmp 58), some 60))
    (h6 : pick l 6 = some (.load 118 (.tmp 60), some 61))
    (h7 : pick l 7 = some (.move (.tmp 7), some 62))
    (h8 : pick l 8 = some (.call { callee := .value (.func 105), args := #[.tmp 61, .tmp 62], argTypes := #[118, 5] }, some 63))
    (h9 : pick l 9 = some (.nilCheck (.tmp 55), some 64))
    (h10 : pick l 10 = some (.indexAddr 120 (.tmp 64) (.tmp 56), some 65))
    (hs : A.tmps.size = 97)
    (x0 : A.eval (.tmp 0) = .pointer (some ⟨b, 0, none⟩))
    (x1 : A.eval (.tmp 1) = .int .i64 (j : Nat))
    (x7 : A.eval (.tmp 7) = .int .u8 (v.toNat : Nat))
    (h : ∀ w1, Below w.heap.size w w1 → wpList Tryz.prog l.toArray Q (l.drop 11) (((((((((((A.put (some 55) (.pointer (some ⟨b, 0, none⟩))).put (some 56) (.int .i64 (j : Nat))).put (some 57) (.pointer (some ⟨b, 0, none⟩))).put (some 58) (.int .i64 (j : Nat))).put (some 59) (.pointer (some ⟨b, 0, none⟩))).put (some 60) (.pointer (some ⟨b, j * 9, none⟩))).put (some 61) (.agg (arrK .u8 9 (fun c => (M j c).toNat)))).put (some 62) (.int .u8 (v.toNat : Nat))).put (some 63) (.agg (arrK .u8 9 (fun c => (Gal.mul v (M j c)).toNat)))).put (some 64) (.pointer (some ⟨b, 0, none⟩))).put (some 65) (.pointer (some ⟨b, j * 9, none⟩))) w1) :
    (Code.region id l.toArray true).wp Tryz.prog Q A w := by
  refine wp_region_head (by kernel_rfl) _ _ _ hB (ScRegion b j v M A w) ⟨Off.refl _ _, (Below.refl _ _).drew, by simp, by simp, by simp, by simp, by simp, by simp, by simp, by simp, by simp, by simp, by simp⟩ ?_ ?_
  · intro s a w' S i' o il ho hsi hT K hK
    have sz : a.tmps.size = 97 := by rw [S.off.2.1]; exact hs
    have y0 : a.eval (.tmp 0) = .pointer (some ⟨b, 0, none⟩) := by rw [S.off.eval (by decide)]; exact x0
    have y1 : a.eval (.tmp 1) = .int .i64 (j : Nat) := by rw [S.off.eval (by decide)]; exact x1
    have y7 : a.eval (.tmp 7) = .int .u8 (v.toNat : Nat) := by rw [S.off.eval (by decide)]; exact x7
    match i', il, ho, hsi, hT with
    | 0, _, ho, hsi, hT =>
      obtain ⟨e1, e2⟩ := pick_of h0 ho
      have BW := S.before
      refine step_val (v := .pointer (some ⟨b, 0, none⟩)) (by simp only [execOp, e1, y0]; go_simp) (hK _ _ ?_)
      rw [e2]
      exact ⟨S.off.put (by decide) _, S.before, fun _ => (eval_put _ _ _ (by omega)).trans rfl, kp S.t1, kp S.t2, kp S.t3, kp S.t4, kp S.t5, kp S.t6, kp S.t7, kp S.t8, kp S.t9, kp S.t10⟩
    | 1, _, ho, hsi, hT =>
      obtain ⟨e1, e2⟩ := pick_of h1 ho
      have BW := S.before
      refine step_val (v := .int .i64 (j : Nat)) (by simp only [execOp, e1, y1]; go_simp) (hK _ _ ?_)
      rw [e2]
      exact ⟨S.off.put (by decide) _, S.before, kp S.t0, fun _ => (eval_put _ _ _ (by omega)).trans rfl, kp S.t2, kp S.t3, kp S.t4, kp S.t5, kp S.t6, kp S.t7, kp S.t8, kp S.t9, kp S.t10⟩
    | 2, _, ho, hsi, hT =>
      obtain ⟨e1, e2⟩ := pick_of h2 ho
      have BW := S.before
      refine step_val (v := .pointer (some ⟨b, 0, none⟩)) (by simp only [execOp, e1, y0]; go_simp) (hK _ _ ?_)
      rw [e2]
      exact ⟨S.off.put (by decide) _, S.before, kp S.t0, kp S.t1, fun _ => (eval_put _ _ _ (by omega)).trans rfl, kp S.t3, kp S.t4, kp S.t5, kp S.t6, kp S.t7, kp S.t8, kp S.t9, kp S.t10⟩
    | 3, _, ho, hsi, hT =>
      obtain ⟨e1, e2⟩ := pick_of h3 ho
      have BW := S.before
      refine step_val (v := .int .i64 (j : Nat)) (by simp only [execOp, e1, y1]; go_simp) (hK _ _ ?_)
      rw [e2]
      exact ⟨S.off.put (by decide) _, S.before, kp S.t0, kp S.t1, kp S.t2, fun _ => (eval_put _ _ _ (by omega)).trans rfl, kp S.t4, kp S.t5, kp S.t6, kp S.t7, kp S.t8, kp S.t9, kp S.t10⟩
    | 4, _, ho, hsi, hT =>
      obtain ⟨e1, e2⟩ := pick_of h4 ho
      have D2 : s 2 = true := list_pos hT (d := 2) (by decide)
      have BW := S.before
      refine step_val (v := .pointer (some ⟨b, 0, none⟩)) (by simp only [execOp, e1, S.t2 D2]; go_simp) (hK _ _ ?_)
      rw [e2]
      exact ⟨S.off.put (by decide) _, S.before, kp S.t0, kp S.t1, kp S.t2, kp S.t3, fun _ => (eval_put _ _ _ (by omega)).trans rfl, kp S.t5, kp S.t6, kp S.t7, kp S.t8, kp S.t9, kp S.t10⟩
    | 5, _, ho, hsi, hT =>
      obtain ⟨e1, e2⟩ := pick_of h5 ho
      have D3 : s 3 = true := list_pos hT (d := 3) (by decide)
      have D4 : s 4 = true := list_pos hT (d := 4) (by decide)
      have BW := S.before
      refine step_val (v := .pointer (some ⟨b, j * 9, none⟩)) (by simp only [execOp, e1, S.t3 D3, S.t4 D4]; go_simp; intro h; omega) (hK _ _ ?_)
      rw [e2]
      exact ⟨S.off.put (by decide) _, S.before, kp S.t0, kp S.t1, kp S.t2, kp S.t3, kp S.t4, fun _ => (eval_put _ _ _ (by omega)).trans rfl, kp S.t6, kp S.t7, kp S.t8, kp S.t9, kp S.t10⟩
    | 6, _, ho, hsi, hT =>
      obtain ⟨e1, e2⟩ := pick_of h6 ho
      have D5 : s 5 = true := list_pos hT (d := 5) (by decide)
      have BW := S.before
      refine step_load_sub (.tmp 60) e1 b (j * 9) (fun c => (M j c).toNat) (S.t5 D5) (fun q hq => (HM.below BW).cell hj hq) (hK _ _ ?_)
      rw [e2]
      exact ⟨S.off.put (by decide) _, S.before, kp S.t0, kp S.t1, kp S.t2, kp S.t3, kp S.t4, kp S.t5, fun _ => (eval_put _ _ _ (by omega)).trans rfl, kp S.t7, kp S.t8, kp S.t9, kp S.t10⟩
    | 7, _, ho, hsi, hT =>
      obtain ⟨e1, e2⟩ := pick_of h7 ho
      have BW := S.before
      refine step_val (v := .int .u8 (v.toNat : Nat)) (by simp only [execOp, e1, y7]; go_simp) (hK _ _ ?_)
      rw [e2]
      exact ⟨S.off.put (by decide) _, S.before, kp S.t0, kp S.t1, kp S.t2, kp S.t3, kp S.t4, kp S.t5, kp S.t6, fun _ => (eval_put _ _ _ (by omega)).trans rfl, kp S.t8, kp S.t9, kp S.t10⟩
    | 8, _, ho, hsi, hT =>
      obtain ⟨e1, e2⟩ := pick_of h8 ho
      have D6 : s 6 = true := list_pos hT (d := 6) (by decide)
      have D7 : s 7 = true := list_pos hT (d := 7) (by decide)
      have BW := S.before
      refine step_call 105 (fun args w => by go_simp) _ _ e1 #[.agg (arrK .u8 9 (fun c => (M j c).toNat)), .int .u8 (v.toNat : Nat)] (by simp only [List.map_toArray, List.map_cons, List.map_nil, S.t6 D6, S.t7 D7]) ((rowTimes_any (M j) v _).mono ?_)
      rintro e w2 ⟨rfl, BB⟩
      refine ⟨_, rfl, hK _ _ ?_⟩
      rw [e2]
      exact ⟨S.off.put (by decide) _, bt BW BB, kp S.t0, kp S.t1, kp S.t2, kp S.t3, kp S.t4, kp S.t5, kp S.t6, kp S.t7, fun _ => (eval_put _ _ _ (by omega)).trans rfl, kp S.t9, kp S.t10⟩
    | 9, _, ho, hsi, hT =>
      obtain ⟨e1, e2⟩ := pick_of h9 ho
      have D0 : s 0 = true := list_pos hT (d := 0) (by decide)
      have BW := S.before
      refine step_val (v := .pointer (some ⟨b, 0, none⟩)) (by simp only [execOp, e1, S.t0 D0]; go_simp) (hK _ _ ?_)
      rw [e2]
      exact ⟨S.off.put (by decide) _, S.before, kp S.t0, kp S.t1, kp S.t2, kp S.t3, kp S.t4, kp S.t5, kp S.t6, kp S.t7, kp S.t8, fun _ => (eval_put _ _ _ (by omega)).trans rfl, kp S.t10⟩
    | 10, _, ho, hsi, hT =>
      obtain ⟨e1, e2⟩ := pick_of h10 ho
      have D1 : s 1 = true := list_pos hT (d := 1) (by decide)
      have D9 : s 9 = true := list_pos hT (d := 9) (by decide)
      have BW := S.before
      refine step_val (v := .pointer (some ⟨b, j * 9, none⟩)) (by simp only [execOp, e1, S.t1 D1, S.t9 D9]; go_simp; intro h; omega) (hK _ _ ?_)
      rw [e2]
      exact ⟨S.off.put (by decide) _, S.before, kp S.t0, kp S.t1, kp S.t2, kp S.t3, kp S.t4, kp S.t5, kp S.t6, kp S.t7, kp S.t8, kp S.t9, fun _ => (eval_put _ _ _ (by omega)).trans rfl⟩
    | _ + 11, il, _, _, _ => exact absurd il (by omega)
  · intro s a w' S hall
    have a0 := hall 0 (by omega)
    have a1 := hall 1 (by omega)
    have a2 := hall 2 (by omega)
    have a3 := hall 3 (by omega)
    have a4 := hall 4 (by omega)
    have a5 := hall 5 (by omega)
    have a6 := hall 6 (by omega)
    have a7 := hall 7 (by omega)
    have a8 := hall 8 (by omega)
    have a9 := hall 9 (by omega)
    have a10 := hall 10 (by omega)
    have e := off_norm _ (by intro d hd; simp at hd; omega) S.off
    simp only [List.foldl, S.t0 a0, S.t1 a1, S.t2 a2, S.t3 a3, S.t4 a4, S.t5 a5, S.t6 a6, S.t7 a7, S.t8 a8, S.t9 a9, S.t10 a10] at e
    rw [e]
    exact h _ S.before
structure ElRegion (b i j : Nat) (M : Nat → Nat → BitVec 8) (A : Act) (w0 : World) (s : Nat → Bool) (a : Act) (w : World) : Prop where
  off : Off [73, 74, 75, 76, 77, 78, 79, 80, 81, 82, 83, 84, 85, 86, 87, 88, 89, 90, 91, 92, 93, 94, 95] a A
  before : Below w0.heap.size w0 w
  t0 : s 0 = true → a.eval (.tmp 73) = .pointer (some ⟨b, 0, none⟩)
  t1 : s 1 = true → a.eval (.tmp 74) = .int .i64 (i : Nat)
  t2 : s 2 = true → a.eval (.tmp 75) = .pointer (some ⟨b, 0, none⟩)
  t3 : s 3 = true → a.eval (.tmp 76) = .int .i64 (i : Nat)
  t4 : s 4 = true → a.eval (.tmp 77) = .pointer (some ⟨b, 0, none⟩)
  t5 : s 5 = true → a.eval (.tmp 78) = .pointer (some ⟨b, i * 9, none⟩)
  t6 : s 6 = true → a.eval (.tmp 79) = .agg (arrK .u8 9 (fun c => (M i c).toNat))
  t7 : s 7 = true → a.eval (.tmp 80) = .pointer (some ⟨b, 0, none⟩)
  t8 : s 8 = true → a.eval (.tmp 81) = .int .i64 (j : Nat)
  t9 : s 9 = true → a.eval (.tmp 82) = .pointer (some ⟨b, 0, none⟩)
  t10 : s 10 = true → a.eval (.tmp 83) = .pointer (some ⟨b, j * 9, none⟩)
  t11 : s 11 = true → a.eval (.tmp 84) = .agg (arrK .u8 9 (fun c => (M j c).toNat))
  t12 : s 12 = true → a.eval (.tmp 85) = .pointer (some ⟨b, 0, none⟩)
  t13 : s 13 = true → a.eval (.tmp 86) = .int .i64 (i : Nat)
  t14 : s 14 = true → a.eval (.tmp 87) = .int .i64 (j : Nat)
  t15 : s 15 = true → a.eval (.tmp 88) = .pointer (some ⟨b, 0, none⟩)
  t16 : s 16 = true → a.eval (.tmp 89) = .pointer (some ⟨b, i * 9, none⟩)
  t17 : s 17 = true → a.eval (.tmp 90) = .pointer (some ⟨b, i * 9 + j, none⟩)
  t18 : s 18 = true → a.eval (.tmp 91) = .int .u8 ((M i j).toNat : Nat)
  t19 : s 19 = true → a.eval (.tmp 92) = .agg (arrK .u8 9 (fun c => (Gal.mul (M i j) (M j c)).toNat))
  t20 : s 20 = true → a.eval (.tmp 93) = .agg (arrK .u8 9 (fun c => (M i c ^^^ Gal.mul (M i j) (M j c)).toNat))
  t21 : s 21 = true → a.eval (.tmp 94) = .pointer (some ⟨b, 0, none⟩)
  t22 : s 22 = true → a.eval (.tmp 95) = .pointer (some ⟨b, i * 9, none⟩)
set_option maxHeartbeats 2000000 in
set_option maxRecDepth 100000 in
theorem elRegion {id : Nat} {l : List Oper} {A : Act} {w : World} {Q : Exit → Act → World → Prop} (b i j : Nat) (M : Nat → Nat → BitVec 8)
    (hi : i < 8) (hj : j < 8) (HM : Matx w b M)
    (hB : tableH l.toArray 23 (fun i => match i with | 0 => [] | 1 => [] | 2 => [] | 3 => [] | 4 => [2] | 5 => [3, 4] | 6 => [5] | 7 => [] | 8 => [] | 9 => [7] | 10 => [8, 9] | 11 => [10] | 12 => [] | 13 => [] | 14 => [] | 15 => [12] | 16 => [13, 15] | 17 => [14, 16] | 18 => [17] | 19 => [11, 18] | 20 => [6, 19] | 21 => [0] | 22 => [1, 21] | _ => []) (fun _ => []) = true)
    (h0 : pick l 0 = some (.move (.tmp 0), some 73))
    (h1 : pick l 1 = some (.move (.tmp 9), some 74))
    (h2 : pick l 2 = some (.move (.tmp 0), some 75))
    (h3 : pick l 3 = some (.move (.tmp 9), some 76))
    (h4 : pick l 4 = some (.nilCheck (.tmp 75), some 77))
    (h5 : pick l 5 = some (.indexAddr 120 (.tmp 77) (.tmp 76), some 78))
    (h6 : pick l 6 = some (.load 118 (.tmp 78), some 79))
    (h7 : pick l 7 = some (.move (.tmp 0), some 80))
    (h8 : pick l 8 = some (.move (.tmp 1), some 81))
    (h9 : pick l 9 = some (.nilCheck (.tmp 80), some 82))
    (h10 : pick l 10 = some (.indexAddr 120 (.tmp 82) (.tmp 81), some 83))
    (h11 : pick l 11 = some (.load 118 (.tmp 83), some 84))
    (h12 : pick l 12 = some (.move (.tmp 0), some 85))
    (h13 : pick l 13 = some (.move (.tmp 9), some 86))
    (h14 : pick l 14 = some (.move (.tmp 1), some 87))
    (h15 : pick l 15 = some (.nilCheck (.tmp 85), some 88))
    (h16 : pick l 16 = some (.indexAddr 120 (.tmp 88) (.tmp 86), some 89))
    (h17 : pick l 17 = some (.indexAddr 118 (.tmp 89) (.tmp 87), some 90))
    (h18 : pick l 18 = some (.load 5 (.tmp 90), some 91))
    (h19 : pick l 19 = some (.call { callee := .value (.func 105), args := #[.tmp 84, .tmp 91], argTypes := #[118, 5] }, some 92))
    (h20 : pick l 20 = some (.call { callee := .value (.func 106), args := #[.tmp 79, .tmp 92], argTypes := #[118, 118] }, some 93))
    (h21 : pick l 21 = some (.nilCheck (.tmp 73), some 94))
    (h22 : pick l 22 = some (.indexAddr 120 (.tmp 94) (.tmp 74), some 95))
    (hs : A.tmps.size = 97)
    (x0 : A.eval (.tmp 0) = .pointer (some ⟨b, 0, none⟩))
    (x1 : A.eval (.tmp 1) = .int .i64 (j : Nat))
    (x9 : A.eval (.tmp 9) = .int .i64 (i : Nat))
    (h : ∀ w1, Below w.heap.size w w1 → wpList Tryz.prog l.toArray Q (l.drop 23) (((((((((((((((((((((((A.put (some 73) (.pointer (some ⟨b, 0, none⟩))).put (some 74) (.int .i64 (i : Nat))).put (some 75) (.pointer (some ⟨b, 0, none⟩))).put (some 76) (.int .i64 (i : Nat))).put (some 77) (.pointer (some ⟨b, 0, none⟩))).put (some 78) (.pointer (some ⟨b, i * 9, none⟩))).put (some 79) (.agg (arrK .u8 9 (fun c => (M i c).toNat)))).put (some 80) (.pointer (some ⟨b, 0, none⟩))).put (some 81) (.int .i64 (j : Nat))).put (some 82) (.pointer (some ⟨b, 0, none⟩))).put (some 83) (.pointer (some ⟨b, j * 9, none⟩))).put (some 84) (.agg (arrK .u8 9 (fun c => (M j c).toNat)))).put (some 85) (.pointer (some ⟨b, 0, none⟩))).put (some 86) (.int .i64 (i : Nat))).put (some 87) (.int .i64 (j : Nat))).put (some 88) (.pointer (some ⟨b, 0, none⟩))).put (some 89) (.pointer (some ⟨b, i * 9, none⟩))).put (some 90) (.pointer (some ⟨b, i * 9 + j, none⟩))).put (some 91) (.int .u8 ((M i j).toNat : Nat))).put (some 92) (.agg (arrK .u8 9 (fun c => (Gal.mul (M i j) (M j c)).toNat)))).put (some 93) (.agg (arrK .u8 9 (fun c => (M i c ^^^ Gal.mul (M i j) (M j c)).toNat)))).put (some 94) (.pointer (some ⟨b, 0, none⟩))).put (some 95) (.pointer (some ⟨b, i * 9, none⟩))) w1) :
    (Code.region id l.toArray true).wp Tryz.prog Q A w := by
  refine wp_region_head (by kernel_rfl) _ _ _ hB (ElRegion b i j M A w) ⟨Off.refl _ _, (Below.refl _ _).drew, by simp, by simp, by simp, by simp, by simp, by simp, by simp, by simp, by simp, by simp, by simp, by simp, by simp, by simp, by simp, by simp, by simp, by simp, by simp, by simp, by simp, by simp, by simp⟩ ?_ ?_
  · intro s a w' S i' o il ho hsi hT K hK
    have sz : a.tmps.size = 97 := by rw [S.off.2.1]; exact hs
    have y0 : a.eval (.tmp 0) = .pointer (some ⟨b, 0, none⟩) := by rw [S.off.eval (by decide)]; exact x0
    have y1 : a.eval (.tmp 1) = .int .i64 (j : Nat) := by rw [S.off.eval (by decide)]; exact x1
    have y9 : a.eval (.tmp 9) = .int .i64 (i : Nat) := by rw [S.off.eval (by decide)]; exact x9
    match i', il, ho, hsi, hT with
    | 0, _, ho, hsi, hT =>
      obtain ⟨e1, e2⟩ := pick_of h0 ho
      have BW := S.before
      refine step_val (v := .pointer (some ⟨b, 0, none⟩)) (by simp only [execOp, e1, y0]; go_simp) (hK _ _ ?_)
      rw [e2]
      exact ⟨S.off.put (by decide) _, S.before, fun _ => (eval_put _ _ _ (by omega)).trans rfl, kp S.t1, kp S.t2, kp S.t3, kp S.t4, kp S.t5, kp S.t6, kp S.t7, kp S.t8, kp S.t9, kp S.t10, kp S.t11, kp S.t12, kp S.t13, kp S.t14, kp S.t15, kp S.t16, kp S.t17, kp S.t18, kp S.t19, kp S.t20, kp S.t21, kp S.t22⟩
    | 1, _, ho, hsi, hT =>
      obtain ⟨e1, e2⟩ := pick_of h1 ho
      have BW := S.before
      refine step_val (v := .int .i64 (i : Nat)) (by simp only [execOp, e1, y9]; go_simp) (hK _ _ ?_)
      rw [e2]
      exact ⟨S.off.put (by decide) _, S.before, kp S.t0, fun _ => (eval_put _ _ _ (by omega)).trans rfl, kp S.t2, kp S.t3, kp S.t4, kp S.t5, kp S.t6, kp S.t7, kp S.t8, kp S.t9, kp S.t10, kp S.t11, kp S.t12, kp S.t13, kp S.t14, kp S.t15, kp S.t16, kp S.t17, kp S.t18, kp S.t19, kp S.t20, kp S.t21, kp S.t22⟩
    | 2, _, ho, hsi, hT =>
      obtain ⟨e1, e2⟩ := pick_of h2 ho
      have BW := S.before
      refine step_val (v := .pointer (some ⟨b, 0, none⟩)) (by simp only [execOp, e1, y0]; go_simp) (hK _ _ ?_)
      rw [e2]
      exact ⟨S.off.put (by decide) _, S.before, kp S.t0, kp S.t1, fun _ => (eval_put _ _ _ (by omega)).trans rfl, kp S.t3, kp S.t4, kp S.t5, kp S.t6, kp S.t7, kp S.t8, kp S.t9, kp S.t10, kp S.t11, kp S.t12, kp S.t13, kp S.t14, kp S.t15, kp S.t16, kp S.t17, kp S.t18, kp S.t19, kp S.t20, kp S.t21, kp S.t22⟩
    | 3, _, ho, hsi, hT =>
      obtain ⟨e1, e2⟩ := pick_of h3 ho
      have BW := S.before
      refine step_val (v := .int .i64 (i : Nat)) (by simp only [execOp, e1, y9]; go_simp) (hK _ _ ?_)
      rw [e2]
      exact ⟨S.off.put (by decide) _, S.before, kp S.t0, kp S.t1, kp S.t2, fun _ => (eval_put _ _ _ (by omega)).trans rfl, kp S.t4, kp S.t5, kp S.t6, kp S.t7, kp S.t8, kp S.t9, kp S.t10, kp S.t11, kp S.t12, kp S.t13, kp S.t14, kp S.t15, kp S.t16, kp S.t17, kp S.t18, kp S.t19, kp S.t20, kp S.t21, kp S.t22⟩
    | 4, _, ho, hsi, hT =>
      obtain ⟨e1, e2⟩ := pick_of h4 ho
      have D2 : s 2 = true := list_pos hT (d := 2) (by decide)
      have BW := S.before
      refine step_val (v := .pointer (some ⟨b, 0, none⟩)) (by simp only [execOp, e1, S.t2 D2]; go_simp) (hK _ _ ?_)
      rw [e2]
      exact ⟨S.off.put (by decide) _, S.before, kp S.t0, kp S.t1, kp S.t2, kp S.t3, fun _ => (eval_put _ _ _ (by omega)).trans rfl, kp S.t5, kp S.t6, kp S.t7, kp S.t8, kp S.t9, kp S.t10, kp S.t11, kp S.t12, kp S.t13, kp S.t14, kp S.t15, kp S.t16, kp S.t17, kp S.t18, kp S.t19, kp S.t20, kp S.t21, kp S.t22⟩
    | 5, _, ho, hsi, hT =>
      obtain ⟨e1, e2⟩ := pick_of h5 ho
      have D3 : s 3 = true := list_pos hT (d := 3) (by decide)
      have D4 : s 4 = true := list_pos hT (d := 4) (by decide)
      have BW := S.before
      refine step_val (v := .pointer (some ⟨b, i * 9, none⟩)) (by simp only [execOp, e1, S.t3 D3, S.t4 D4]; go_simp; intro h; omega) (hK _ _ ?_)
      rw [e2]
      exact ⟨S.off.put (by decide) _, S.before, kp S.t0, kp S.t1, kp S.t2, kp S.t3, kp S.t4, fun _ => (eval_put _ _ _ (by omega)).trans rfl, kp S.t6, kp S.t7, kp S.t8, kp S.t9, kp S.t10, kp S.t11, kp S.t12, kp S.t13, kp S.t14, kp S.t15, kp S.t16, kp S.t17, kp S.t18, kp S.t19, kp S.t20, kp S.t21, kp S.t22⟩
    | 6, _, ho, hsi, hT =>
      obtain ⟨e1, e2⟩ := pick_of h6 ho
      have D5 : s 5 = true := list_pos hT (d := 5) (by decide)
      have BW := S.before
      refine step_load_sub (.tmp 78) e1 b (i * 9) (fun c => (M i c).toNat) (S.t5 D5) (fun q hq => (HM.below BW).cell hi hq) (hK _ _ ?_)
      rw [e2]
      exact ⟨S.off.put (by decide) _, S.before, kp S.t0, kp S.t1, kp S.t2, kp S.t3, kp S.t4, kp S.t5, fun _ => (eval_put _ _ _ (by omega)).trans rfl, kp S.t7, kp S.t8, kp S.t9, kp S.t10, kp S.t11, kp S.t12, kp S.t13, kp S.t14, kp S.t15, kp S.t16, kp S.t17, kp S.t18, kp S.t19, kp S.t20, kp S.t21, kp S.t22⟩
    | 7, _, ho, hsi, hT =>
      obtain ⟨e1, e2⟩ := pick_of h7 ho
      have BW := S.before
      refine step_val (v := .pointer (some ⟨b, 0, none⟩)) (by simp only [execOp, e1, y0]; go_simp) (hK _ _ ?_)
      rw [e2]
      exact ⟨S.off.put (by decide) _, S.before, kp S.t0, kp S.t1, kp S.t2, kp S.t3, kp S.t4, kp S.t5, kp S.t6, fun _ => (eval_put _ _ _ (by omega)).trans rfl, kp S.t8, kp S.t9, kp S.t10, kp S.t11, kp S.t12, kp S.t13, kp S.t14, kp S.t15, kp S.t16, kp S.t17, kp S.t18, kp S.t19, kp S.t20, kp S.t21, kp S.t22⟩
    | 8, _, ho, hsi, hT =>
      obtain ⟨e1, e2⟩ := pick_of h8 ho
      have BW := S.before
      refine step_val (v := .int .i64 (j : Nat)) (by simp only [execOp, e1, y1]; go_simp) (hK _ _ ?_)
      rw [e2]
      exact ⟨S.off.put (by decide) _, S.before, kp S.t0, kp S.t1, kp S.t2, kp S.t3, kp S.t4, kp S.t5, kp S.t6, kp S.t7, fun _ => (eval_put _ _ _ (by omega)).trans rfl, kp S.t9, kp S.t10, kp S.t11, kp S.t12, kp S.t13, kp S.t14, kp S.t15, kp S.t16, kp S.t17, kp S.t18, kp S.t19, kp S.t20, kp S.t21, kp S.t22⟩
    | 9, _, ho, hsi, hT =>
      obtain ⟨e1, e2⟩ := pick_of h9 ho
      have D7 : s 7 = true := list_pos hT (d := 7) (by decide)
      have BW := S.before
      refine step_val (v := .pointer (some ⟨b, 0, none⟩)) (by simp only [execOp, e1, S.t7 D7]; go_simp) (hK _ _ ?_)
      rw [e2]
      exact ⟨S.off.put (by decide) _, S.before, kp S.t0, kp S.t1, kp S.t2, kp S.t3, kp S.t4, kp S.t5, kp S.t6, kp S.t7, kp S.t8, fun _ => (eval_put _ _ _ (by omega)).trans rfl, kp S.t10, kp S.t11, kp S.t12, kp S.t13, kp S.t14, kp S.t15, kp S.t16, kp S.t17, kp S.t18, kp S.t19, kp S.t20, kp S.t21, kp S.t22⟩
    | 10, _, ho, hsi, hT =>
      obtain ⟨e1, e2⟩ := pick_of h10 ho
      have D8 : s 8 = true := list_pos hT (d := 8) (by decide)
      have D9 : s 9 = true := list_pos hT (d := 9) (by decide)
      have BW := S.before
      refine step_val (v := .pointer (some ⟨b, j * 9, none⟩)) (by simp only [execOp, e1, S.t8 D8, S.t9 D9]; go_simp; intro h; omega) (hK _ _ ?_)
      rw [e2]
      exact ⟨S.off.put (by decide) _, S.before, kp S.t0, kp S.t1, kp S.t2, kp S.t3, kp S.t4, kp S.t5, kp S.t6, kp S.t7, kp S.t8, kp S.t9, fun _ => (eval_put _ _ _ (by omega)).trans rfl, kp S.t11, kp S.t12, kp S.t13, kp S.t14, kp S.t15, kp S.t16, kp S.t17, kp S.t18, kp S.t19, kp S.t20, kp S.t21, kp S.t22⟩
    | 11, _, ho, hsi, hT =>
      obtain ⟨e1, e2⟩ := pick_of h11 ho
      have D10 : s 10 = true := list_pos hT (d := 10) (by decide)
      have BW := S.before
      refine step_load_sub (.tmp 83) e1 b (j * 9) (fun c => (M j c).toNat) (S.t10 D10) (fun q hq => (HM.below BW).cell hj hq) (hK _ _ ?_)
      rw [e2]
      exact ⟨S.off.put (by decide) _, S.before, kp S.t0, kp S.t1, kp S.t2, kp S.t3, kp S.t4, kp S.t5, kp S.t6, kp S.t7, kp S.t8, kp S.t9, kp S.t10, fun _ => (eval_put _ _ _ (by omega)).trans rfl, kp S.t12, kp S.t13, kp S.t14, kp S.t15, kp S.t16, kp S.t17, kp S.t18, kp S.t19, kp S.t20, kp S.t21, kp S.t22⟩
    | 12, _, ho, hsi, hT =>
      obtain ⟨e1, e2⟩ := pick_of h12 ho
      have BW := S.before
      refine step_val (v := .pointer (some ⟨b, 0, none⟩)) (by simp only [execOp, e1, y0]; go_simp) (hK _ _ ?_)
      rw [e2]
      exact ⟨S.off.put (by decide) _, S.before, kp S.t0, kp S.t1, kp S.t2, kp S.t3, kp S.t4, kp S.t5, kp S.t6, kp S.t7, kp S.t8, kp S.t9, kp S.t10, kp S.t11, fun _ => (eval_put _ _ _ (by omega)).trans rfl, kp S.t13, kp S.t14, kp S.t15, kp S.t16, kp S.t17, kp S.t18, kp S.t19, kp S.t20, kp S.t21, kp S.t22⟩
    | 13, _, ho, hsi, hT =>
      obtain ⟨e1, e2⟩ := pick_of h13 ho
      have BW := S.before
      refine step_val (v := .int .i64 (i : Nat)) (by simp only [execOp, e1, y9]; go_simp) (hK _ _ ?_)
      rw [e2]
      exact ⟨S.off.put (by decide) _, S.before, kp S.t0, kp S.t1, kp S.t2, kp S.t3, kp S.t4, kp S.t5, kp S.t6, kp S.t7, kp S.t8, kp S.t9, kp S.t10, kp S.t11, kp S.t12, fun _ => (eval_put _ _ _ (by omega)).trans rfl, kp S.t14, kp S.t15, kp S.t16, kp S.t17, kp S.t18, kp S.t19, kp S.t20, kp S.t21, kp S.t22⟩
    | 14, _, ho, hsi, hT =>
      obtain ⟨e1, e2⟩ := pick_of h14 ho
      have BW := S.before
      refine step_val (v := .int .i64 (j : Nat)) (by simp only [execOp, e1, y1]; go_simp) (hK _ _ ?_)
      rw [e2]
      exact ⟨S.off.put (by decide) _, S.before, kp S.t0, kp S.t1, kp S.t2, kp S.t3, kp S.t4, kp S.t5, kp S.t6, kp S.t7, kp S.t8, kp S.t9, kp S.t10, kp S.t11, kp S.t12, kp S.t13, fun _ => (eval_put _ _ _ (by omega)).trans rfl, kp S.t15, kp S.t16, kp S.t17, kp S.t18, kp S.t19, kp S.t20, kp S.t21, kp S.t22⟩
    | 15, _, ho, hsi, hT =>
      obtain ⟨e1, e2⟩ := pick_of h15 ho
      have D12 : s 12 = true := list_pos hT (d := 12) (by decide)
      have BW := S.before
      refine step_val (v := .pointer (some ⟨b, 0, none⟩)) (by simp only [execOp, e1, S.t12 D12]; go_simp) (hK _ _ ?_)
      rw [e2]
      exact ⟨S.off.put (by decide) _, S.before, kp S.t0, kp S.t1, kp S.t2, kp S.t3, kp S.t4, kp S.t5, kp S.t6, kp S.t7, kp S.t8, kp S.t9, kp S.t10, kp S.t11, kp S.t12, kp S.t13, kp S.t14, fun _ => (eval_put _ _ _ (by omega)).trans rfl, kp S.t16, kp S.t17, kp S.t18, kp S.t19, kp S.t20, kp S.t21, kp S.t22⟩
    | 16, _, ho, hsi, hT =>
      obtain ⟨e1, e2⟩ := pick_of h16 ho
      have D13 : s 13 = true := list_pos hT (d := 13) (by decide)
      have D15 : s 15 = true := list_pos hT (d := 15) (by decide)
      have BW := S.before
      refine step_val (v := .pointer (some ⟨b, i * 9, none⟩)) (by simp only [execOp, e1, S.t13 D13, S.t15 D15]; go_simp; intro h; omega) (hK _ _ ?_)
      rw [e2]
      exact ⟨S.off.put (by decide) _, S.before, kp S.t0, kp S.t1, kp S.t2, kp S.t3, kp S.t4, kp S.t5, kp S.t6, kp S.t7, kp S.t8, kp S.t9, kp S.t10, kp S.t11, kp S.t12, kp S.t13, kp S.t14, kp S.t15, fun _ => (eval_put _ _ _ (by omega)).trans rfl, kp S.t17, kp S.t18, kp S.t19, kp S.t20, kp S.t21, kp S.t22⟩
    | 17, _, ho, hsi, hT =>
      obtain ⟨e1, e2⟩ := pick_of h17 ho
      have D14 : s 14 = true := list_pos hT (d := 14) (by decide)
      have D16 : s 16 = true := list_pos hT (d := 16) (by decide)
      have BW := S.before
      refine step_val (v := .pointer (some ⟨b, i * 9 + j, none⟩)) (by simp only [execOp, e1, S.t14 D14, S.t16 D16]; go_simp; intro h; omega) (hK _ _ ?_)
      rw [e2]
      exact ⟨S.off.put (by decide) _, S.before, kp S.t0, kp S.t1, kp S.t2, kp S.t3, kp S.t4, kp S.t5, kp S.t6, kp S.t7, kp S.t8, kp S.t9, kp S.t10, kp S.t11, kp S.t12, kp S.t13, kp S.t14, kp S.t15, kp S.t16, fun _ => (eval_put _ _ _ (by omega)).trans rfl, kp S.t18, kp S.t19, kp S.t20, kp S.t21, kp S.t22⟩
    | 18, _, ho, hsi, hT =>
      obtain ⟨e1, e2⟩ := pick_of h18 ho
      have D17 : s 17 = true := list_pos hT (d := 17) (by decide)
      have BW := S.before
      have cl := (HM.below BW).cell hi (show j < 9 by omega)
      refine step_val (v := .int .u8 ((M i j).toNat : Nat)) (by simp only [execOp, e1, S.t17 D17]; go_simp) (hK _ _ ?_)
      rw [e2]
      exact ⟨S.off.put (by decide) _, S.before, kp S.t0, kp S.t1, kp S.t2, kp S.t3, kp S.t4, kp S.t5, kp S.t6, kp S.t7, kp S.t8, kp S.t9, kp S.t10, kp S.t11, kp S.t12, kp S.t13, kp S.t14, kp S.t15, kp S.t16, kp S.t17, fun _ => (eval_put _ _ _ (by omega)).trans rfl, kp S.t19, kp S.t20, kp S.t21, kp S.t22⟩
    | 19, _, ho, hsi, hT =>
      obtain ⟨e1, e2⟩ := pick_of h19 ho
      have D11 : s 11 = true := list_pos hT (d := 11) (by decide)
      have D18 : s 18 = true := list_pos hT (d := 18) (by decide)
      have BW := S.before
      refine step_call 105 (fun args w => by go_simp) _ _ e1 #[.agg (arrK .u8 9 (fun c => (M j c).toNat)), .int .u8 ((M i j).toNat : Nat)] (by simp only [List.map_toArray, List.map_cons, List.map_nil, S.t11 D11, S.t18 D18]) ((rowTimes_any (M j) (M i j) _).mono ?_)
      rintro e w2 ⟨rfl, BB⟩
      refine ⟨_, rfl, hK _ _ ?_⟩
      rw [e2]
      exact ⟨S.off.put (by decide) _, bt BW BB, kp S.t0, kp S.t1, kp S.t2, kp S.t3, kp S.t4, kp S.t5, kp S.t6, kp S.t7, kp S.t8, kp S.t9, kp S.t10, kp S.t11, kp S.t12, kp S.t13, kp S.t14, kp S.t15, kp S.t16, kp S.t17, kp S.t18, fun _ => (eval_put _ _ _ (by omega)).trans rfl, kp S.t20, kp S.t21, kp S.t22⟩
    | 20, _, ho, hsi, hT =>
      obtain ⟨e1, e2⟩ := pick_of h20 ho
      have D6 : s 6 = true := list_pos hT (d := 6) (by decide)
      have D19 : s 19 = true := list_pos hT (d := 19) (by decide)
      have BW := S.before
      refine step_call 106 (fun args w => by go_simp) _ _ e1 #[.agg (arrK .u8 9 (fun c => (M i c).toNat)), .agg (arrK .u8 9 (fun c => (Gal.mul (M i j) (M j c)).toNat))] (by simp only [List.map_toArray, List.map_cons, List.map_nil, S.t6 D6, S.t19 D19]) ((rowPlus_any (M i) (fun c => Gal.mul (M i j) (M j c)) _).mono ?_)
      rintro e w2 ⟨rfl, BB⟩
      refine ⟨_, rfl, hK _ _ ?_⟩
      rw [e2]
      exact ⟨S.off.put (by decide) _, bt BW BB, kp S.t0, kp S.t1, kp S.t2, kp S.t3, kp S.t4, kp S.t5, kp S.t6, kp S.t7, kp S.t8, kp S.t9, kp S.t10, kp S.t11, kp S.t12, kp S.t13, kp S.t14, kp S.t15, kp S.t16, kp S.t17, kp S.t18, kp S.t19, fun _ => (eval_put _ _ _ (by omega)).trans rfl, kp S.t21, kp S.t22⟩
    | 21, _, ho, hsi, hT =>
      obtain ⟨e1, e2⟩ := pick_of h21 ho
      have D0 : s 0 = true := list_pos hT (d := 0) (by decide)
      have BW := S.before
      refine step_val (v := .pointer (some ⟨b, 0, none⟩)) (by simp only [execOp, e1, S.t0 D0]; go_simp) (hK _ _ ?_)
      rw [e2]
      exact ⟨S.off.put (by decide) _, S.before, kp S.t0, kp S.t1, kp S.t2, kp S.t3, kp S.t4, kp S.t5, kp S.t6, kp S.t7, kp S.t8, kp S.t9, kp S.t10, kp S.t11, kp S.t12, kp S.t13, kp S.t14, kp S.t15, kp S.t16, kp S.t17, kp S.t18, kp S.t19, kp S.t20, fun _ => (eval_put _ _ _ (by omega)).trans rfl, kp S.t22⟩
    | 22, _, ho, hsi, hT =>
      obtain ⟨e1, e2⟩ := pick_of h22 ho
      have D1 : s 1 = true := list_pos hT (d := 1) (by decide)
      have D21 : s 21 = true := list_pos hT (d := 21) (by decide)
      have BW := S.before
      refine step_val (v := .pointer (some ⟨b, i * 9, none⟩)) (by simp only [execOp, e1, S.t1 D1, S.t21 D21]; go_simp; intro h; omega) (hK _ _ ?_)
      rw [e2]
      exact ⟨S.off.put (by decide) _, S.before, kp S.t0, kp S.t1, kp S.t2, kp S.t3, kp S.t4, kp S.t5, kp S.t6, kp S.t7, kp S.t8, kp S.t9, kp S.t10, kp S.t11, kp S.t12, kp S.t13, kp S.t14, kp S.t15, kp S.t16, kp S.t17, kp S.t18, kp S.t19, kp S.t20, kp S.t21, fun _ => (eval_put _ _ _ (by omega)).trans rfl⟩
    | _ + 23, il, _, _, _ => exact absurd il (by omega)
  · intro s a w' S hall
    have a0 := hall 0 (by omega)
    have a1 := hall 1 (by omega)
    have a2 := hall 2 (by omega)
    have a3 := hall 3 (by omega)
    have a4 := hall 4 (by omega)
    have a5 := hall 5 (by omega)
    have a6 := hall 6 (by omega)
    have a7 := hall 7 (by omega)
    have a8 := hall 8 (by omega)
    have a9 := hall 9 (by omega)
    have a10 := hall 10 (by omega)
    have a11 := hall 11 (by omega)
    have a12 := hall 12 (by omega)
    have a13 := hall 13 (by omega)
    have a14 := hall 14 (by omega)
    have a15 := hall 15 (by omega)
    have a16 := hall 16 (by omega)
    have a17 := hall 17 (by omega)
    have a18 := hall 18 (by omega)
    have a19 := hall 19 (by omega)
    have a20 := hall 20 (by omega)
    have a21 := hall 21 (by omega)
    have a22 := hall 22 (by omega)
    have e := off_norm _ (by intro d hd; simp at hd; omega) S.off
    simp only [List.foldl, S.t0 a0, S.t1 a1, S.t2 a2, S.t3 a3, S.t4 a4, S.t5 a5, S.t6 a6, S.t7 a7, S.t8 a8, S.t9 a9, S.t10 a10, S.t11 a11, S.t12 a12, S.t13 a13, S.t14 a14, S.t15 a15, S.t16 a16, S.t17 a17, S.t18 a18, S.t19 a19, S.t20 a20, S.t21 a21, S.t22 a22] at e
    rw [e]
    exact h _ S.before
theorem gsome_row (m : Nat → Nat → BitVec 8) (i r c : Nat) : Blk.gsome m i r r c = m r c := if_neg (by omega)
theorem gsome_full (m : Nat → Nat → BitVec 8) (i : Nat) {n r : Nat} (h : r < n) (c : Nat) : Blk.gsome m i n r c = Blk.gelim m i r c := by
  unfold Blk.gsome Blk.gelim
  by_cases e : r = i
  · rw [if_neg (fun q => q.1 e), if_pos e]
  · rw [if_pos ⟨e, h⟩, if_neg e]
/-- A panic of one value. -/
def Pan (p : List PanicEntry) : Prop := ∃ u v, p = [{ v := .iface u v, recovered := false }]
/-- What isolate does. -/
def Iso (b n j : Nat) (M : Nat → Nat → BitVec 8) (w : World) (e : Ending) (w' : World) : Prop :=
  But b w w' ∧ ((∃ M', e = .returned (.tuple #[]) ∧ Matx w' b M' ∧ Blk.Equiv n M M' ∧ Blk.UnitTo M' n (j + 1)) ∨
    ((∀ r, j ≤ r → r < n → M r j = 0#8) ∧ ∃ p, e = .panicked p ∧ Pan p))
set_option maxRecDepth 100000 in
set_option maxHeartbeats 1000000 in
theorem isolate_any (b n j : Nat) (M : Nat → Nat → BitVec 8) (hn : n ≤ 8) (hj : j < n) (w : World) (HM0 : Matx w b M) (HU0 : Blk.UnitTo M n j) :
    Calls Tryz.prog 93 #[.pointer (some ⟨b, 0, none⟩), .int .i64 (j : Nat), .int .i64 (n : Nat)] w (Iso b n j M w) := by
  have HM := Lib.hid HM0
  have HU := Lib.hid HU0
  have DV := Lib.hid (fun a w => div_any 1#8 a w)
  rw [show ((1#8 : BitVec 8).toNat : Int) = 1 from rfl] at DV
  have j8 : j < 8 := by omega
  have j9 : j < 9 := by omega
  clear HM0 HU0
  go_enter Tryz.func93, Tryz.ntmps93
  go_wp2_with fail
  go_loop [6] (fun u => ∃ k : Nat, j ≤ k ∧ k < n ∧ u = .int .i64 (k : Nat) ∧ ∀ r, j ≤ r → r < k → M r j = 0#8) (fun u => n - (intOf u).toNat)
  case atStart => exact ⟨j, Nat.le_refl _, hj, rfl, fun r h1 h2 => absurd h1 (Nat.not_le_of_lt h2)⟩
  case round =>
    obtain ⟨k, hjk, hkn, rfl, hz⟩ := hrel
    have HZ := Lib.hid hz
    have k8 : k < 8 := by omega
    have c1 := HM.out.cell k8 j9
    obtain ⟨x, hx⟩ : ∃ x, (M k j).toNat = x := ⟨_, rfl⟩
    rw [hx] at c1
    have HX := Lib.hid hx
    clear hz hx
    by_cases g : x = 0
    · subst g
      have HZ2 := Lib.hid (show ∀ r, j ≤ r → r < k + 1 → M r j = 0#8 from fun r h1 h2 => by
        by_cases e : r = k
        · subst e; exact BitVec.eq_of_toNat_eq HX.out
        · exact HZ.out r h1 (by omega))
      by_cases hl : k + 1 = n
      · have FIN := Lib.hid (show ∀ p, Pan p → Iso b n j M w (.panicked p) w from fun p hp => ⟨But.refl _ _, .inr ⟨fun r h1 h2 => HZ2.out r h1 (by omega), p, rfl, hp⟩⟩)
        have e1 : (k : Int) + 1 = (n : Int) := by omega
        have e2 : ((n : Int) == (n : Int)) = true := by simp
        clear HZ2 HZ HM HU DV HX hl
        go_wp2_with fail
        exact ⟨rfl, FIN.out _ ⟨_, _, rfl⟩⟩
      · have e1 : ¬ ((k : Int) + 1 = (n : Int)) := by omega
        go_wp2_with fail
        go_round
        case rel => exact ⟨k + 1, by omega, by omega, by go_num, HZ2.out⟩
        case measure => simp [intOf]; omega
    · have x1 : ((x : Int) == (0 : Int)) = false := by simp; omega
      have pv := Lib.hid (show M k j ≠ 0#8 from fun q => g (by rw [← HX.out, q]; rfl))
      have bl := HM.out.lt
      clear HZ
      go_upto_region 5 with fail
      refine exRegion b j k M j8 k8 HM.out (by kernel_rfl) rfl rfl rfl rfl rfl rfl rfl rfl rfl rfl rfl rfl rfl rfl rfl rfl rfl rfl rfl rfl rfl rfl rfl rfl rfl ?_
      intro w1 B1
      simp only [Act.put, List.setIfInBounds_toArray, List.set_cons_succ, List.set_cons_zero]
      have M1 := Lib.hid ((((HM.out.below B1).putRow k8 (M j)).putRow j8 (M k)).congr (m' := Blk.gswap M j k) (fun i c _ _ => rfl))
      have BB1 := Lib.hid (but_setCells b (arrK .u8 9 (fun c => (M k c).toNat)).toList (j * 9) _ _ (but_setCells b (arrK .u8 9 (fun c => (M j c).toNat)).toList (k * 9) _ _ (But.of_below B1 (Nat.le_of_lt bl))))
      obtain ⟨w2, hw2⟩ : ∃ w2, (w1.setCells b (k * 9) (arrK .u8 9 (fun c => (M j c).toNat)).toList).setCells b (j * 9) (arrK .u8 9 (fun c => (M k c).toNat)).toList = w2 := ⟨_, rfl⟩
      rw [hw2] at M1 BB1 ⊢
      have HR2 := Lib.hid (Blk.round_unit HU.out hj hkn hjk pv.out)
      have HE2 := Lib.hid ((Blk.swap_equiv M hj hkn).trans (Blk.scale_equiv (Blk.gswap M j k) j (Gal.inv_ne (M k j))))
      have HP2 := Lib.hid (show Blk.gswap M j k j j = M k j by unfold Blk.gswap; rw [if_pos rfl])
      obtain ⟨p, hp⟩ : ∃ p, M k j = p := ⟨_, rfl⟩
      rw [hp] at HR2 HE2 HP2 HX pv
      obtain ⟨m2, hm2⟩ : ∃ m2, Blk.gswap M j k = m2 := ⟨_, rfl⟩
      rw [hm2] at HR2 HE2 HP2 M1
      obtain ⟨v, hv⟩ : ∃ v, Gal.inv p = v := ⟨_, rfl⟩
      rw [hv] at HR2 HE2
      have dv := DV.out p w2
      rw [show Gal.divV 1#8 p = v from (if_neg pv.out).trans ((Gal.one_mul _).trans hv), HX.out] at dv
      have c2 := M1.out.cell j8 j9
      rw [HP2.out, HX.out] at c2
      have DP := Lib.hid dv
      clear hw2 B1 hp hm2 hv dv HX pv HP2 HM HU DV c1 x1 bl
      go_wp2_with fail
      (with_reducible refine DP.out.mono ?_)
      rintro e w3 ⟨rfl, h3⟩
      have M3 := Lib.hid (M1.out.below h3)
      have BB3 := Lib.hid (BB1.out.trans (But.of_below h3 (Nat.le_of_lt M1.out.lt)))
      clear h3 DP c2 M1 BB1
      go_upto_region 7 with fail
      refine scRegion b j v m2 j8 M3.out (by kernel_rfl) rfl rfl rfl rfl rfl rfl rfl rfl rfl rfl rfl rfl rfl rfl rfl ?_
      intro w4 B4
      simp only [Act.put, List.setIfInBounds_toArray, List.set_cons_succ, List.set_cons_zero, List.drop_succ_cons, List.drop_zero]
      have M4 := M3.out.below B4
      refine wpList_store_sub rfl (.tmp 65) (.tmp 63) rfl b (j * 9) (fun c => (Gal.mul v (m2 j c)).toNat) rfl rfl (M4.isSome j8) (M4.frees j8) ?_
      refine wpList_nil ?_
      simp only [Act.put]
      have M5 := Lib.hid ((M4.putRow j8 (fun c => Gal.mul v (m2 j c))).congr (m' := Blk.gscale m2 j v) (fun i c _ _ => by
        unfold Blk.gscale
        by_cases e : i = j
        · rw [if_pos e, if_pos e, e, Gal.mul_comm]
        · rw [if_neg e, if_neg e]))
      have BB5 := Lib.hid (but_setCells b (arrK .u8 9 (fun c => (Gal.mul v (m2 j c)).toNat)).toList (j * 9) _ _ (BB3.out.trans (But.of_below B4 (Nat.le_of_lt M3.out.lt))))
      obtain ⟨w5, hw5⟩ : ∃ w5, w4.setCells b (j * 9) (arrK .u8 9 (fun c => (Gal.mul v (m2 j c)).toNat)).toList = w5 := ⟨_, rfl⟩
      rw [hw5] at M5 BB5 ⊢
      obtain ⟨m3, hm3⟩ : ∃ m3, Blk.gscale m2 j v = m3 := ⟨_, rfl⟩
      rw [hm3] at M5 HR2 HE2
      clear hw5 hm3 M4 M3 BB3 B4
      go_wp2_with fail
      go_loopw [67] (fun u wr => ∃ t : Nat, t ≤ n ∧ u = .int .i64 (t : Nat) ∧ Matx wr b (Blk.gsome m3 j t) ∧ But b w wr) (fun u _ => n - (intOf u).toNat)
      case atStart => exact ⟨0, Nat.zero_le _, rfl, by rw [Blk.gsome_zero]; exact M5.out, BB5.out⟩
      case round =>
        obtain ⟨t, ht, rfl, hM, hB⟩ := hrel
        have HM := Lib.hid hM
        have HB := Lib.hid hB
        clear hM hB M5 BB5
        by_cases htn : t < n
        · have t8 : t < 8 := by omega
          have GA := Lib.hid (Blk.gsome_self m3 j t)
          by_cases e : t = j
          · have M6 := Lib.hid (show Matx wr b (Blk.gsome m3 j (t + 1)) by rw [GA.out, if_pos e]; exact HM.out)
            have ri : ((t : Int) != (j : Int)) = false := by simp; omega
            clear HM GA
            go_wp2_with fail
            go_roundw
            case rel => exact ⟨t + 1, by omega, by go_num, M6.out, HB.out⟩
            case measure => simp [intOf]; omega
          · have ri : ((t : Int) != (j : Int)) = true := by simp; omega
            obtain ⟨mA, hmA⟩ : ∃ mA, Blk.gsome m3 j t = mA := ⟨_, rfl⟩
            rw [hmA] at HM GA
            have GT := Lib.hid (show mA t j = m3 t j by rw [← hmA]; exact gsome_row m3 j t j)
            clear hmA
            go_upto_region 12 with fail
            refine elRegion b t j mA t8 j8 HM.out (by kernel_rfl) rfl rfl rfl rfl rfl rfl rfl rfl rfl rfl rfl rfl rfl rfl rfl rfl rfl rfl rfl rfl rfl rfl rfl rfl rfl rfl rfl ?_
            intro w6 B6
            simp only [Act.put, List.setIfInBounds_toArray, List.set_cons_succ, List.set_cons_zero, List.drop_succ_cons, List.drop_zero]
            have M6 := HM.out.below B6
            refine wpList_store_sub rfl (.tmp 95) (.tmp 93) rfl b (t * 9) (fun c => (mA t c ^^^ Gal.mul (mA t j) (mA j c)).toNat) rfl rfl (M6.isSome t8) (M6.frees t8) ?_
            refine wpList_nil ?_
            simp only [Act.put]
            have M7 := Lib.hid ((M6.putRow t8 (fun c => mA t c ^^^ Gal.mul (mA t j) (mA j c))).congr (m' := Blk.gsome m3 j (t + 1)) (fun i c _ _ => by
              rw [GA.out, if_neg e]
              unfold Blk.gadd
              by_cases q : i = t
              · rw [if_pos q, if_pos q, q, GT.out]
              · rw [if_neg q, if_neg q]))
            have BB7 := Lib.hid (but_setCells b (arrK .u8 9 (fun c => (mA t c ^^^ Gal.mul (mA t j) (mA j c)).toNat)).toList (t * 9) _ _ (HB.out.trans (But.of_below B6 (Nat.le_of_lt HM.out.lt))))
            obtain ⟨w7, hw7⟩ : ∃ w7, w6.setCells b (t * 9) (arrK .u8 9 (fun c => (mA t c ^^^ Gal.mul (mA t j) (mA j c)).toNat)).toList = w7 := ⟨_, rfl⟩
            rw [hw7] at M7 BB7 ⊢
            clear hw7 M6 B6 HM HB GA GT
            go_wp2_with fail
            go_roundw
            case rel => exact ⟨t + 1, by omega, by go_num, M7.out, BB7.out⟩
            case measure => simp [intOf]; omega
        · obtain rfl : t = n := by omega
          have FIN := Lib.hid (show Iso b t j M w (.returned (.tuple #[])) wr from ⟨HB.out, .inl ⟨_, rfl, HM.out, HE2.out.trans (Blk.gsome_equiv m3 hj t), fun r c hr hc => by rw [gsome_full m3 j hr c]; exact HR2.out r c hr hc⟩⟩)
          clear HM HB HE2 HR2
          go_wp2_with fail
          go_end0
          exact FIN.out
end Go.Proofs.YtlpjhmafplljaaaGreatDoor
