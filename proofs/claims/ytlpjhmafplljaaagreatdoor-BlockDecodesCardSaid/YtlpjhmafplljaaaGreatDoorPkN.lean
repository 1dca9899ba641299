/- BlkMendR, BlkMend as one text. -/
import Derived.Test.YtlpjhmafplljaaaGreatDoorBlkRefB
import Derived.Test.YtlpjhmafplljaaaGreatDoorPkS
/- The regions of perigeeref05's mended that draw their order. -/
namespace Go.Proofs.YtlpjhmafplljaaaGreatDoor
open Go.RowKit
set_option linter.unusedVariables false

structure MendRegion (ob L C pb po n Pc yb Yc k q : Nat) (x y : BitVec 8) (m : Nat → Nat) (A : Act) (w0 : World) (s : Nat → Bool) (a : Act) (w : World) : Prop where
  off : Off [66, 67, 68, 69, 70, 71, 72, 73, 74, 75, 76, 77, 78, 79, 80, 81, 82, 83] a A
  before : s 18 = false → Below w0.heap.size w0 w
  behind : s 18 = true → ∃ w1, Below w0.heap.size w0 w1 ∧ w = w1.setCell ⟨ob, q, none⟩ (.int .u8 ((x ^^^ y).toNat : Nat))
  t0 : s 0 = true → a.eval (.tmp 66) = .slice (some ⟨ob, 0, none⟩) L C
  t1 : s 1 = true → a.eval (.tmp 67) = .slice (some ⟨pb, po, none⟩) n Pc
  t2 : s 2 = true → a.eval (.tmp 68) = .int .i64 (k : Nat)
  t3 : s 3 = true → a.eval (.tmp 69) = .pointer (some ⟨pb, po + k, none⟩)
  t4 : s 4 = true → a.eval (.tmp 70) = .int .i64 (q : Nat)
  t5 : s 5 = true → a.eval (.tmp 71) = .slice (some ⟨ob, 0, none⟩) L C
  t6 : s 6 = true → a.eval (.tmp 72) = .slice (some ⟨pb, po, none⟩) n Pc
  t7 : s 7 = true → a.eval (.tmp 73) = .int .i64 (k : Nat)
  t8 : s 8 = true → a.eval (.tmp 74) = .pointer (some ⟨pb, po + k, none⟩)
  t9 : s 9 = true → a.eval (.tmp 75) = .int .i64 (q : Nat)
  t10 : s 10 = true → a.eval (.tmp 76) = .pointer (some ⟨ob, q, none⟩)
  t11 : s 11 = true → a.eval (.tmp 77) = .int .u8 (x.toNat : Nat)
  t12 : s 12 = true → a.eval (.tmp 78) = .slice (some ⟨yb, 0, none⟩) n Yc
  t13 : s 13 = true → a.eval (.tmp 79) = .int .i64 (k : Nat)
  t14 : s 14 = true → a.eval (.tmp 80) = .pointer (some ⟨yb, k, none⟩)
  t15 : s 15 = true → a.eval (.tmp 81) = .int .u8 (y.toNat : Nat)
  t16 : s 16 = true → a.eval (.tmp 82) = .int .u8 ((x ^^^ y).toNat : Nat)
  t17 : s 17 = true → a.eval (.tmp 83) = .pointer (some ⟨ob, q, none⟩)
set_option maxHeartbeats 2000000 in
set_option maxRecDepth 100000 in
theorem mendRegion {id : Nat} {d : Bool} {l : List Oper} {A : Act} {w : World} {Q : Exit → Act → World → Prop} (ob L C pb po n Pc yb Yc k q : Nat) (x y : BitVec 8) (m : Nat → Nat)
    (hk : k < n) (hn : n ≤ 1000) (hq : q < L) (hL : L ≤ 1000000) (hpl : pb < w.heap.size) (hp : w.cell? ⟨pb, po + k, none⟩ = some (.int .i64 (q : Nat))) (hO : NumsK .u8 w ob L m) (hx : m q = x.toNat) (hyl : yb < w.heap.size) (hy : w.cell? ⟨yb, k, none⟩ = some (.int .u8 (y.toNat : Nat)))
    (hB : tableL d l.toArray (fun i => match i with | 0 => [] | 1 => [] | 2 => [] | 3 => [1, 2] | 4 => [3] | 5 => [] | 6 => [] | 7 => [] | 8 => [6, 7] | 9 => [8] | 10 => [5, 9] | 11 => [10] | 12 => [] | 13 => [] | 14 => [12, 13] | 15 => [14] | 16 => [11, 15] | 17 => [0, 4] | 18 => [0, 1, 2, 3, 4, 5, 6, 7, 8, 9, 10, 11, 12, 13, 14, 15, 16, 17] | _ => []) (fun i => match i with | 0 => [18] | 1 => [18] | 2 => [18] | 3 => [18] | 4 => [18] | 5 => [18] | 6 => [18] | 7 => [18] | 8 => [18] | 9 => [18] | 10 => [18] | 11 => [18] | 12 => [18] | 13 => [18] | 14 => [18] | 15 => [18] | 16 => [18] | 17 => [18] | 18 => [] | _ => []) = true) (hl : l.length = 19)
    (h0 : pick l 0 = some (.move (.tmp 13), some 66))
    (h1 : pick l 1 = some (.move (.tmp 1), some 67))
    (h2 : pick l 2 = some (.move (.tmp 14), some 68))
    (h3 : pick l 3 = some (.indexAddr 28 (.tmp 67) (.tmp 68), some 69))
    (h4 : pick l 4 = some (.load 3 (.tmp 69), some 70))
    (h5 : pick l 5 = some (.move (.tmp 13), some 71))
    (h6 : pick l 6 = some (.move (.tmp 1), some 72))
    (h7 : pick l 7 = some (.move (.tmp 14), some 73))
    (h8 : pick l 8 = some (.indexAddr 28 (.tmp 72) (.tmp 73), some 74))
    (h9 : pick l 9 = some (.load 3 (.tmp 74), some 75))
    (h10 : pick l 10 = some (.indexAddr 41 (.tmp 71) (.tmp 75), some 76))
    (h11 : pick l 11 = some (.load 5 (.tmp 76), some 77))
    (h12 : pick l 12 = some (.move (.tmp 11), some 78))
    (h13 : pick l 13 = some (.move (.tmp 14), some 79))
    (h14 : pick l 14 = some (.indexAddr 41 (.tmp 78) (.tmp 79), some 80))
    (h15 : pick l 15 = some (.load 5 (.tmp 80), some 81))
    (h16 : pick l 16 = some (.binOp .xor 5 (.tmp 77) (.tmp 81) 5, some 82))
    (h17 : pick l 17 = some (.indexAddr 41 (.tmp 66) (.tmp 70), some 83))
    (h18 : pick l 18 = some (.store 5 (.tmp 83) (.tmp 82), none))
    (hs : A.tmps.size = 89)
    (x1 : A.eval (.tmp 1) = .slice (some ⟨pb, po, none⟩) n Pc)
    (x11 : A.eval (.tmp 11) = .slice (some ⟨yb, 0, none⟩) n Yc)
    (x13 : A.eval (.tmp 13) = .slice (some ⟨ob, 0, none⟩) L C)
    (x14 : A.eval (.tmp 14) = .int .i64 (k : Nat))
    (h : ∀ w1, Below w.heap.size w w1 → Q .normal ((((((((((((((((((A.put (some 66) (.slice (some ⟨ob, 0, none⟩) L C)).put (some 67) (.slice (some ⟨pb, po, none⟩) n Pc)).put (some 68) (.int .i64 (k : Nat))).put (some 69) (.pointer (some ⟨pb, po + k, none⟩))).put (some 70) (.int .i64 (q : Nat))).put (some 71) (.slice (some ⟨ob, 0, none⟩) L C)).put (some 72) (.slice (some ⟨pb, po, none⟩) n Pc)).put (some 73) (.int .i64 (k : Nat))).put (some 74) (.pointer (some ⟨pb, po + k, none⟩))).put (some 75) (.int .i64 (q : Nat))).put (some 76) (.pointer (some ⟨ob, q, none⟩))).put (some 77) (.int .u8 (x.toNat : Nat))).put (some 78) (.slice (some ⟨yb, 0, none⟩) n Yc)).put (some 79) (.int .i64 (k : Nat))).put (some 80) (.pointer (some ⟨yb, k, none⟩))).put (some 81) (.int .u8 (y.toNat : Nat))).put (some 82) (.int .u8 ((x ^^^ y).toNat : Nat))).put (some 83) (.pointer (some ⟨ob, q, none⟩))) (w1.setCell ⟨ob, q, none⟩ (.int .u8 ((x ^^^ y).toNat : Nat)))) :
    (Code.region id l.toArray d).wp Tryz.prog Q A w := by
  refine wp_region_invL (by kernel_rfl) _ _ hB (MendRegion ob L C pb po n Pc yb Yc k q x y m A w) ⟨Off.refl _ _, fun _ => Below.refl _ _, by simp, by simp, by simp, by simp, by simp, by simp, by simp, by simp, by simp, by simp, by simp, by simp, by simp, by simp, by simp, by simp, by simp, by simp, by simp⟩ ⟨Off.refl _ _, fun _ => (Below.refl _ _).drew, by simp, by simp, by simp, by simp, by simp, by simp, by simp, by simp, by simp, by simp, by simp, by simp, by simp, by simp, by simp, by simp, by simp, by simp, by simp⟩ ?_ ?_
  · intro s a w' S i' o ho hsi hT K hK
    have sz : a.tmps.size = 89 := by rw [S.off.2.1]; exact hs
    have il : i' < 19 := by have := (List.getElem?_eq_some_iff.1 ho).1; omega
    have y1 : a.eval (.tmp 1) = .slice (some ⟨pb, po, none⟩) n Pc := by rw [S.off.eval (by decide)]; exact x1
    have y11 : a.eval (.tmp 11) = .slice (some ⟨yb, 0, none⟩) n Yc := by rw [S.off.eval (by decide)]; exact x11
    have y13 : a.eval (.tmp 13) = .slice (some ⟨ob, 0, none⟩) L C := by rw [S.off.eval (by decide)]; exact x13
    have y14 : a.eval (.tmp 14) = .int .i64 (k : Nat) := by rw [S.off.eval (by decide)]; exact x14
    match i', il, ho, hsi, hT with
    | 0, _, ho, hsi, hT =>
      obtain ⟨e1, e2⟩ := pick_of h0 ho
      have NL : s 18 = false := list_neg hT (k := 18) (by decide)
      have BW := S.before NL
      refine step_val (v := .slice (some ⟨ob, 0, none⟩) L C) (by simp only [execOp, e1, y13]; go_simp) (hK _ _ ?_)
      rw [e2]
      exact ⟨S.off.put (by decide) _, fun _ => S.before NL, fun g => absurd g (by simp [NL]), fun _ => (eval_put _ _ _ (by omega)).trans rfl, kp S.t1, kp S.t2, kp S.t3, kp S.t4, kp S.t5, kp S.t6, kp S.t7, kp S.t8, kp S.t9, kp S.t10, kp S.t11, kp S.t12, kp S.t13, kp S.t14, kp S.t15, kp S.t16, kp S.t17⟩
    | 1, _, ho, hsi, hT =>
      obtain ⟨e1, e2⟩ := pick_of h1 ho
      have NL : s 18 = false := list_neg hT (k := 18) (by decide)
      have BW := S.before NL
      refine step_val (v := .slice (some ⟨pb, po, none⟩) n Pc) (by simp only [execOp, e1, y1]; go_simp) (hK _ _ ?_)
      rw [e2]
      exact ⟨S.off.put (by decide) _, fun _ => S.before NL, fun g => absurd g (by simp [NL]), kp S.t0, fun _ => (eval_put _ _ _ (by omega)).trans rfl, kp S.t2, kp S.t3, kp S.t4, kp S.t5, kp S.t6, kp S.t7, kp S.t8, kp S.t9, kp S.t10, kp S.t11, kp S.t12, kp S.t13, kp S.t14, kp S.t15, kp S.t16, kp S.t17⟩
    | 2, _, ho, hsi, hT =>
      obtain ⟨e1, e2⟩ := pick_of h2 ho
      have NL : s 18 = false := list_neg hT (k := 18) (by decide)
      have BW := S.before NL
      refine step_val (v := .int .i64 (k : Nat)) (by simp only [execOp, e1, y14]; go_simp) (hK _ _ ?_)
      rw [e2]
      exact ⟨S.off.put (by decide) _, fun _ => S.before NL, fun g => absurd g (by simp [NL]), kp S.t0, kp S.t1, fun _ => (eval_put _ _ _ (by omega)).trans rfl, kp S.t3, kp S.t4, kp S.t5, kp S.t6, kp S.t7, kp S.t8, kp S.t9, kp S.t10, kp S.t11, kp S.t12, kp S.t13, kp S.t14, kp S.t15, kp S.t16, kp S.t17⟩
    | 3, _, ho, hsi, hT =>
      obtain ⟨e1, e2⟩ := pick_of h3 ho
      have D1 : s 1 = true := list_pos hT (d := 1) (by decide)
      have D2 : s 2 = true := list_pos hT (d := 2) (by decide)
      have NL : s 18 = false := list_neg hT (k := 18) (by decide)
      have BW := S.before NL
      refine step_val (v := .pointer (some ⟨pb, po + k, none⟩)) (by simp only [execOp, e1, S.t1 D1, S.t2 D2]; go_simp) (hK _ _ ?_)
      rw [e2]
      exact ⟨S.off.put (by decide) _, fun _ => S.before NL, fun g => absurd g (by simp [NL]), kp S.t0, kp S.t1, kp S.t2, fun _ => (eval_put _ _ _ (by omega)).trans rfl, kp S.t4, kp S.t5, kp S.t6, kp S.t7, kp S.t8, kp S.t9, kp S.t10, kp S.t11, kp S.t12, kp S.t13, kp S.t14, kp S.t15, kp S.t16, kp S.t17⟩
    | 4, _, ho, hsi, hT =>
      obtain ⟨e1, e2⟩ := pick_of h4 ho
      have D3 : s 3 = true := list_pos hT (d := 3) (by decide)
      have NL : s 18 = false := list_neg hT (k := 18) (by decide)
      have BW := S.before NL
      have cl := (BW.cell (p := ⟨pb, po + k, none⟩) hpl).trans hp
      refine step_val (v := .int .i64 (q : Nat)) (by simp only [execOp, e1, S.t3 D3]; go_simp) (hK _ _ ?_)
      rw [e2]
      exact ⟨S.off.put (by decide) _, fun _ => S.before NL, fun g => absurd g (by simp [NL]), kp S.t0, kp S.t1, kp S.t2, kp S.t3, fun _ => (eval_put _ _ _ (by omega)).trans rfl, kp S.t5, kp S.t6, kp S.t7, kp S.t8, kp S.t9, kp S.t10, kp S.t11, kp S.t12, kp S.t13, kp S.t14, kp S.t15, kp S.t16, kp S.t17⟩
    | 5, _, ho, hsi, hT =>
      obtain ⟨e1, e2⟩ := pick_of h5 ho
      have NL : s 18 = false := list_neg hT (k := 18) (by decide)
      have BW := S.before NL
      refine step_val (v := .slice (some ⟨ob, 0, none⟩) L C) (by simp only [execOp, e1, y13]; go_simp) (hK _ _ ?_)
      rw [e2]
      exact ⟨S.off.put (by decide) _, fun _ => S.before NL, fun g => absurd g (by simp [NL]), kp S.t0, kp S.t1, kp S.t2, kp S.t3, kp S.t4, fun _ => (eval_put _ _ _ (by omega)).trans rfl, kp S.t6, kp S.t7, kp S.t8, kp S.t9, kp S.t10, kp S.t11, kp S.t12, kp S.t13, kp S.t14, kp S.t15, kp S.t16, kp S.t17⟩
    | 6, _, ho, hsi, hT =>
      obtain ⟨e1, e2⟩ := pick_of h6 ho
      have NL : s 18 = false := list_neg hT (k := 18) (by decide)
      have BW := S.before NL
      refine step_val (v := .slice (some ⟨pb, po, none⟩) n Pc) (by simp only [execOp, e1, y1]; go_simp) (hK _ _ ?_)
      rw [e2]
      exact ⟨S.off.put (by decide) _, fun _ => S.before NL, fun g => absurd g (by simp [NL]), kp S.t0, kp S.t1, kp S.t2, kp S.t3, kp S.t4, kp S.t5, fun _ => (eval_put _ _ _ (by omega)).trans rfl, kp S.t7, kp S.t8, kp S.t9, kp S.t10, kp S.t11, kp S.t12, kp S.t13, kp S.t14, kp S.t15, kp S.t16, kp S.t17⟩
    | 7, _, ho, hsi, hT =>
      obtain ⟨e1, e2⟩ := pick_of h7 ho
      have NL : s 18 = false := list_neg hT (k := 18) (by decide)
      have BW := S.before NL
      refine step_val (v := .int .i64 (k : Nat)) (by simp only [execOp, e1, y14]; go_simp) (hK _ _ ?_)
      rw [e2]
      exact ⟨S.off.put (by decide) _, fun _ => S.before NL, fun g => absurd g (by simp [NL]), kp S.t0, kp S.t1, kp S.t2, kp S.t3, kp S.t4, kp S.t5, kp S.t6, fun _ => (eval_put _ _ _ (by omega)).trans rfl, kp S.t8, kp S.t9, kp S.t10, kp S.t11, kp S.t12, kp S.t13, kp S.t14, kp S.t15, kp S.t16, kp S.t17⟩
    | 8, _, ho, hsi, hT =>
      obtain ⟨e1, e2⟩ := pick_of h8 ho
      have D6 : s 6 = true := list_pos hT (d := 6) (by decide)
      have D7 : s 7 = true := list_pos hT (d := 7) (by decide)
      have NL : s 18 = false := list_neg hT (k := 18) (by decide)
      have BW := S.before NL
      refine step_val (v := .pointer (some ⟨pb, po + k, none⟩)) (by simp only [execOp, e1, S.t6 D6, S.t7 D7]; go_simp) (hK _ _ ?_)
      rw [e2]
      exact ⟨S.off.put (by decide) _, fun _ => S.before NL, fun g => absurd g (by simp [NL]), kp S.t0, kp S.t1, kp S.t2, kp S.t3, kp S.t4, kp S.t5, kp S.t6, kp S.t7, fun _ => (eval_put _ _ _ (by omega)).trans rfl, kp S.t9, kp S.t10, kp S.t11, kp S.t12, kp S.t13, kp S.t14, kp S.t15, kp S.t16, kp S.t17⟩
    | 9, _, ho, hsi, hT =>
      obtain ⟨e1, e2⟩ := pick_of h9 ho
      have D8 : s 8 = true := list_pos hT (d := 8) (by decide)
      have NL : s 18 = false := list_neg hT (k := 18) (by decide)
      have BW := S.before NL
      have cl := (BW.cell (p := ⟨pb, po + k, none⟩) hpl).trans hp
      refine step_val (v := .int .i64 (q : Nat)) (by simp only [execOp, e1, S.t8 D8]; go_simp) (hK _ _ ?_)
      rw [e2]
      exact ⟨S.off.put (by decide) _, fun _ => S.before NL, fun g => absurd g (by simp [NL]), kp S.t0, kp S.t1, kp S.t2, kp S.t3, kp S.t4, kp S.t5, kp S.t6, kp S.t7, kp S.t8, fun _ => (eval_put _ _ _ (by omega)).trans rfl, kp S.t10, kp S.t11, kp S.t12, kp S.t13, kp S.t14, kp S.t15, kp S.t16, kp S.t17⟩
    | 10, _, ho, hsi, hT =>
      obtain ⟨e1, e2⟩ := pick_of h10 ho
      have D5 : s 5 = true := list_pos hT (d := 5) (by decide)
      have D9 : s 9 = true := list_pos hT (d := 9) (by decide)
      have NL : s 18 = false := list_neg hT (k := 18) (by decide)
      have BW := S.before NL
      refine step_val (v := .pointer (some ⟨ob, q, none⟩)) (by simp only [execOp, e1, S.t5 D5, S.t9 D9]; go_simp) (hK _ _ ?_)
      rw [e2]
      exact ⟨S.off.put (by decide) _, fun _ => S.before NL, fun g => absurd g (by simp [NL]), kp S.t0, kp S.t1, kp S.t2, kp S.t3, kp S.t4, kp S.t5, kp S.t6, kp S.t7, kp S.t8, kp S.t9, fun _ => (eval_put _ _ _ (by omega)).trans rfl, kp S.t11, kp S.t12, kp S.t13, kp S.t14, kp S.t15, kp S.t16, kp S.t17⟩
    | 11, _, ho, hsi, hT =>
      obtain ⟨e1, e2⟩ := pick_of h11 ho
      have D10 : s 10 = true := list_pos hT (d := 10) (by decide)
      have NL : s 18 = false := list_neg hT (k := 18) (by decide)
      have BW := S.before NL
      have cl := (hO.below BW).cell hq
      rw [hx] at cl
      refine step_val (v := .int .u8 (x.toNat : Nat)) (by simp only [execOp, e1, S.t10 D10]; go_simp) (hK _ _ ?_)
      rw [e2]
      exact ⟨S.off.put (by decide) _, fun _ => S.before NL, fun g => absurd g (by simp [NL]), kp S.t0, kp S.t1, kp S.t2, kp S.t3, kp S.t4, kp S.t5, kp S.t6, kp S.t7, kp S.t8, kp S.t9, kp S.t10, fun _ => (eval_put _ _ _ (by omega)).trans rfl, kp S.t12, kp S.t13, kp S.t14, kp S.t15, kp S.t16, kp S.t17⟩
    | 12, _, ho, hsi, hT =>
      obtain ⟨e1, e2⟩ := pick_of h12 ho
      have NL : s 18 = false := list_neg hT (k := 18) (by decide)
      have BW := S.before NL
      refine step_val (v := .slice (some ⟨yb, 0, none⟩) n Yc) (by simp only [execOp, e1, y11]; go_simp) (hK _ _ ?_)
      rw [e2]
      exact ⟨S.off.put (by decide) _, fun _ => S.before NL, fun g => absurd g (by simp [NL]), kp S.t0, kp S.t1, kp S.t2, kp S.t3, kp S.t4, kp S.t5, kp S.t6, kp S.t7, kp S.t8, kp S.t9, kp S.t10, kp S.t11, fun _ => (eval_put _ _ _ (by omega)).trans rfl, kp S.t13, kp S.t14, kp S.t15, kp S.t16, kp S.t17⟩
    | 13, _, ho, hsi, hT =>
      obtain ⟨e1, e2⟩ := pick_of h13 ho
      have NL : s 18 = false := list_neg hT (k := 18) (by decide)
      have BW := S.before NL
      refine step_val (v := .int .i64 (k : Nat)) (by simp only [execOp, e1, y14]; go_simp) (hK _ _ ?_)
      rw [e2]
      exact ⟨S.off.put (by decide) _, fun _ => S.before NL, fun g => absurd g (by simp [NL]), kp S.t0, kp S.t1, kp S.t2, kp S.t3, kp S.t4, kp S.t5, kp S.t6, kp S.t7, kp S.t8, kp S.t9, kp S.t10, kp S.t11, kp S.t12, fun _ => (eval_put _ _ _ (by omega)).trans rfl, kp S.t14, kp S.t15, kp S.t16, kp S.t17⟩
    | 14, _, ho, hsi, hT =>
      obtain ⟨e1, e2⟩ := pick_of h14 ho
      have D12 : s 12 = true := list_pos hT (d := 12) (by decide)
      have D13 : s 13 = true := list_pos hT (d := 13) (by decide)
      have NL : s 18 = false := list_neg hT (k := 18) (by decide)
      have BW := S.before NL
      refine step_val (v := .pointer (some ⟨yb, k, none⟩)) (by simp only [execOp, e1, S.t12 D12, S.t13 D13]; go_simp) (hK _ _ ?_)
      rw [e2]
      exact ⟨S.off.put (by decide) _, fun _ => S.before NL, fun g => absurd g (by simp [NL]), kp S.t0, kp S.t1, kp S.t2, kp S.t3, kp S.t4, kp S.t5, kp S.t6, kp S.t7, kp S.t8, kp S.t9, kp S.t10, kp S.t11, kp S.t12, kp S.t13, fun _ => (eval_put _ _ _ (by omega)).trans rfl, kp S.t15, kp S.t16, kp S.t17⟩
    | 15, _, ho, hsi, hT =>
      obtain ⟨e1, e2⟩ := pick_of h15 ho
      have D14 : s 14 = true := list_pos hT (d := 14) (by decide)
      have NL : s 18 = false := list_neg hT (k := 18) (by decide)
      have BW := S.before NL
      have cl := (BW.cell (p := ⟨yb, k, none⟩) hyl).trans hy
      refine step_val (v := .int .u8 (y.toNat : Nat)) (by simp only [execOp, e1, S.t14 D14]; go_simp) (hK _ _ ?_)
      rw [e2]
      exact ⟨S.off.put (by decide) _, fun _ => S.before NL, fun g => absurd g (by simp [NL]), kp S.t0, kp S.t1, kp S.t2, kp S.t3, kp S.t4, kp S.t5, kp S.t6, kp S.t7, kp S.t8, kp S.t9, kp S.t10, kp S.t11, kp S.t12, kp S.t13, kp S.t14, fun _ => (eval_put _ _ _ (by omega)).trans rfl, kp S.t16, kp S.t17⟩
    | 16, _, ho, hsi, hT =>
      obtain ⟨e1, e2⟩ := pick_of h16 ho
      have D11 : s 11 = true := list_pos hT (d := 11) (by decide)
      have D15 : s 15 = true := list_pos hT (d := 15) (by decide)
      have NL : s 18 = false := list_neg hT (k := 18) (by decide)
      have BW := S.before NL
      have xr := xor8 x y
      refine step_val (v := .int .u8 ((x ^^^ y).toNat : Nat)) (by simp only [execOp, e1, S.t11 D11, S.t15 D15]; go_simp) (hK _ _ ?_)
      rw [e2]
      exact ⟨S.off.put (by decide) _, fun _ => S.before NL, fun g => absurd g (by simp [NL]), kp S.t0, kp S.t1, kp S.t2, kp S.t3, kp S.t4, kp S.t5, kp S.t6, kp S.t7, kp S.t8, kp S.t9, kp S.t10, kp S.t11, kp S.t12, kp S.t13, kp S.t14, kp S.t15, fun _ => (eval_put _ _ _ (by omega)).trans rfl, kp S.t17⟩
    | 17, _, ho, hsi, hT =>
      obtain ⟨e1, e2⟩ := pick_of h17 ho
      have D0 : s 0 = true := list_pos hT (d := 0) (by decide)
      have D4 : s 4 = true := list_pos hT (d := 4) (by decide)
      have NL : s 18 = false := list_neg hT (k := 18) (by decide)
      have BW := S.before NL
      refine step_val (v := .pointer (some ⟨ob, q, none⟩)) (by simp only [execOp, e1, S.t0 D0, S.t4 D4]; go_simp) (hK _ _ ?_)
      rw [e2]
      exact ⟨S.off.put (by decide) _, fun _ => S.before NL, fun g => absurd g (by simp [NL]), kp S.t0, kp S.t1, kp S.t2, kp S.t3, kp S.t4, kp S.t5, kp S.t6, kp S.t7, kp S.t8, kp S.t9, kp S.t10, kp S.t11, kp S.t12, kp S.t13, kp S.t14, kp S.t15, kp S.t16, fun _ => (eval_put _ _ _ (by omega)).trans rfl⟩
    | 18, _, ho, hsi, hT =>
      obtain ⟨e1, e2⟩ := pick_of h18 ho
      have D0 : s 0 = true := list_pos hT (d := 0) (by decide)
      have D1 : s 1 = true := list_pos hT (d := 1) (by decide)
      have D2 : s 2 = true := list_pos hT (d := 2) (by decide)
      have D3 : s 3 = true := list_pos hT (d := 3) (by decide)
      have D4 : s 4 = true := list_pos hT (d := 4) (by decide)
      have D5 : s 5 = true := list_pos hT (d := 5) (by decide)
      have D6 : s 6 = true := list_pos hT (d := 6) (by decide)
      have D7 : s 7 = true := list_pos hT (d := 7) (by decide)
      have D8 : s 8 = true := list_pos hT (d := 8) (by decide)
      have D9 : s 9 = true := list_pos hT (d := 9) (by decide)
      have D10 : s 10 = true := list_pos hT (d := 10) (by decide)
      have D11 : s 11 = true := list_pos hT (d := 11) (by decide)
      have D12 : s 12 = true := list_pos hT (d := 12) (by decide)
      have D13 : s 13 = true := list_pos hT (d := 13) (by decide)
      have D14 : s 14 = true := list_pos hT (d := 14) (by decide)
      have D15 : s 15 = true := list_pos hT (d := 15) (by decide)
      have D16 : s 16 = true := list_pos hT (d := 16) (by decide)
      have D17 : s 17 = true := list_pos hT (d := 17) (by decide)
      have BW := S.before hsi
      have cl := (hO.below BW).cell hq
      have fz := (hO.below BW).frozen hq
      refine step_to (w2 := w'.setCell ⟨ob, q, none⟩ (.int .u8 ((x ^^^ y).toNat : Nat))) (by simp only [execOp, e1, S.t17 D17, S.t16 D16]; go_simp) (hK _ _ ?_)
      rw [e2]
      exact ⟨S.off.put_none _, fun g => absurd g (by simp), fun _ => ⟨w', BW, rfl⟩, fun g => S.t0 (by simpa using g), fun g => S.t1 (by simpa using g), fun g => S.t2 (by simpa using g), fun g => S.t3 (by simpa using g), fun g => S.t4 (by simpa using g), fun g => S.t5 (by simpa using g), fun g => S.t6 (by simpa using g), fun g => S.t7 (by simpa using g), fun g => S.t8 (by simpa using g), fun g => S.t9 (by simpa using g), fun g => S.t10 (by simpa using g), fun g => S.t11 (by simpa using g), fun g => S.t12 (by simpa using g), fun g => S.t13 (by simpa using g), fun g => S.t14 (by simpa using g), fun g => S.t15 (by simpa using g), fun g => S.t16 (by simpa using g), fun g => S.t17 (by simpa using g)⟩
    | _ + 19, il, _, _, _ => exact absurd il (by omega)
  · intro s a w' S hall
    have a0 := hall 0 (by omega)
    have a1 := hall 1 (by omega)
    have a2 := hall 2 (by omega)
    have a3 := hall 3 (by omega)
    have a4 := hall 4 (by omega)
    have a5 := hall 5 (by omega)
    have a6 := hall 6 (by omega)
    have a7 := hall 7 (by omega)
    have a8 := hall 8 (by omega)
    have a9 := hall 9 (by omega)
    have a10 := hall 10 (by omega)
    have a11 := hall 11 (by omega)
    have a12 := hall 12 (by omega)
    have a13 := hall 13 (by omega)
    have a14 := hall 14 (by omega)
    have a15 := hall 15 (by omega)
    have a16 := hall 16 (by omega)
    have a17 := hall 17 (by omega)
    have a18 := hall 18 (by omega)
    have e := off_norm _ (by intro d hd; simp at hd; omega) S.off
    simp only [List.foldl, S.t0 a0, S.t1 a1, S.t2 a2, S.t3 a3, S.t4 a4, S.t5 a5, S.t6 a6, S.t7 a7, S.t8 a8, S.t9 a9, S.t10 a10, S.t11 a11, S.t12 a12, S.t13 a13, S.t14 a14, S.t15 a15, S.t16 a16, S.t17 a17] at e
    obtain ⟨w1, BW, rfl⟩ := S.behind a18
    rw [e]
    exact h _ BW
theorem wholeB (g : Nat → BitVec 8) (L : Nat) (h : L ≤ 400000) (w : World) :
    Calls Tryz.prog 54 #[.string ⟨(Gal.coefs g L).toArray⟩] w fun e w' => e = .returned (.bool (decide (Blk.Code (Gal.coefs g L)))) ∧ Below w.heap.size w w' :=
  whole_any ⟨(Gal.coefs g L).toArray⟩ (by rw [coefs_size]; exact h) w
structure MendEnd (ob L C : Nat) (g : Nat → BitVec 8) (A : Act) (w0 : World) (s : Nat → Bool) (a : Act) (w : World) : Prop where
  off : Off [84, 85, 86, 87, 88, 4, 5] a A
  before : Below w0.heap.size w0 w
  t0 : s 0 = true → a.eval (.tmp 84) = .slice (some ⟨ob, 0, none⟩) L C
  t1 : s 1 = true → a.eval (.tmp 85) = .string ⟨(Gal.coefs g L).toArray⟩
  t2 : s 2 = true → a.eval (.tmp 86) = .slice (some ⟨ob, 0, none⟩) L C
  t3 : s 3 = true → a.eval (.tmp 87) = .string ⟨(Gal.coefs g L).toArray⟩
  t4 : s 4 = true → a.eval (.tmp 88) = .bool (decide (Blk.Code (Gal.coefs g L)))
  t5 : s 5 = true → a.eval (.tmp 4) = .string ⟨(Gal.coefs g L).toArray⟩
  t6 : s 6 = true → a.eval (.tmp 5) = .bool (decide (Blk.Code (Gal.coefs g L)))
set_option maxHeartbeats 2000000 in
set_option maxRecDepth 100000 in
theorem mendEnd {id : Nat} {d : Bool} {l : List Oper} {A : Act} {w : World} {Q : Exit → Act → World → Prop} (ob L C : Nat) (g : Nat → BitVec 8)
    (hL : L ≤ 400000) (hO : NumsK .u8 w ob L (fun j => (g j).toNat))
    (hB : tableL d l.toArray (fun i => match i with | 0 => [] | 1 => [0] | 2 => [] | 3 => [2] | 4 => [3] | 5 => [1] | 6 => [4] | _ => []) (fun i => match i with | 0 => [] | 1 => [] | 2 => [] | 3 => [] | 4 => [] | 5 => [] | 6 => [] | _ => []) = true) (hl : l.length = 7)
    (h0 : pick l 0 = some (.move (.tmp 13), some 84))
    (h1 : pick l 1 = some (.convert 41 9 (.tmp 84), some 85))
    (h2 : pick l 2 = some (.move (.tmp 13), some 86))
    (h3 : pick l 3 = some (.convert 41 9 (.tmp 86), some 87))
    (h4 : pick l 4 = some (.call { callee := .value (.func 54), args := #[.tmp 87], argTypes := #[9] }, some 88))
    (h5 : pick l 5 = some (.assign (.tmp 85), some 4))
    (h6 : pick l 6 = some (.assign (.tmp 88), some 5))
    (hs : A.tmps.size = 89)
    (x13 : A.eval (.tmp 13) = .slice (some ⟨ob, 0, none⟩) L C)
    (h : ∀ w1, Below w.heap.size w w1 → Q .normal (((((((A.put (some 84) (.slice (some ⟨ob, 0, none⟩) L C)).put (some 85) (.string ⟨(Gal.coefs g L).toArray⟩)).put (some 86) (.slice (some ⟨ob, 0, none⟩) L C)).put (some 87) (.string ⟨(Gal.coefs g L).toArray⟩)).put (some 88) (.bool (decide (Blk.Code (Gal.coefs g L))))).put (some 4) (.string ⟨(Gal.coefs g L).toArray⟩)).put (some 5) (.bool (decide (Blk.Code (Gal.coefs g L))))) w1) :
    (Code.region id l.toArray d).wp Tryz.prog Q A w := by
  refine wp_region_invL (by kernel_rfl) _ _ hB (MendEnd ob L C g A w) ⟨Off.refl _ _, Below.refl _ _, by simp, by simp, by simp, by simp, by simp, by simp, by simp⟩ ⟨Off.refl _ _, (Below.refl _ _).drew, by simp, by simp, by simp, by simp, by simp, by simp, by simp⟩ ?_ ?_
  · intro s a w' S i' o ho hsi hT K hK
    have sz : a.tmps.size = 89 := by rw [S.off.2.1]; exact hs
    have il : i' < 7 := by have := (List.getElem?_eq_some_iff.1 ho).1; omega
    have y13 : a.eval (.tmp 13) = .slice (some ⟨ob, 0, none⟩) L C := by rw [S.off.eval (by decide)]; exact x13
    match i', il, ho, hsi, hT with
    | 0, _, ho, hsi, hT =>
      obtain ⟨e1, e2⟩ := pick_of h0 ho
      have BW := S.before
      refine step_val (v := .slice (some ⟨ob, 0, none⟩) L C) (by simp only [execOp, e1, y13]; go_simp) (hK _ _ ?_)
      rw [e2]
      exact ⟨S.off.put (by decide) _, S.before, fun _ => (eval_put _ _ _ (by omega)).trans rfl, kp S.t1, kp S.t2, kp S.t3, kp S.t4, kp S.t5, kp S.t6⟩
    | 1, _, ho, hsi, hT =>
      obtain ⟨e1, e2⟩ := pick_of h1 ho
      have D0 : s 0 = true := list_pos hT (d := 0) (by decide)
      have BW := S.before
      have cv := nums_back C (hO.below BW)
      refine step_val (v := .string ⟨(Gal.coefs g L).toArray⟩) (by simp only [execOp, e1, S.t0 D0]; go_simp) (hK _ _ ?_)
      rw [e2]
      exact ⟨S.off.put (by decide) _, S.before, kp S.t0, fun _ => (eval_put _ _ _ (by omega)).trans rfl, kp S.t2, kp S.t3, kp S.t4, kp S.t5, kp S.t6⟩
    | 2, _, ho, hsi, hT =>
      obtain ⟨e1, e2⟩ := pick_of h2 ho
      have BW := S.before
      refine step_val (v := .slice (some ⟨ob, 0, none⟩) L C) (by simp only [execOp, e1, y13]; go_simp) (hK _ _ ?_)
      rw [e2]
      exact ⟨S.off.put (by decide) _, S.before, kp S.t0, kp S.t1, fun _ => (eval_put _ _ _ (by omega)).trans rfl, kp S.t3, kp S.t4, kp S.t5, kp S.t6⟩
    | 3, _, ho, hsi, hT =>
      obtain ⟨e1, e2⟩ := pick_of h3 ho
      have D2 : s 2 = true := list_pos hT (d := 2) (by decide)
      have BW := S.before
      have cv := nums_back C (hO.below BW)
      refine step_val (v := .string ⟨(Gal.coefs g L).toArray⟩) (by simp only [execOp, e1, S.t2 D2]; go_simp) (hK _ _ ?_)
      rw [e2]
      exact ⟨S.off.put (by decide) _, S.before, kp S.t0, kp S.t1, kp S.t2, fun _ => (eval_put _ _ _ (by omega)).trans rfl, kp S.t4, kp S.t5, kp S.t6⟩
    | 4, _, ho, hsi, hT =>
      obtain ⟨e1, e2⟩ := pick_of h4 ho
      have D3 : s 3 = true := list_pos hT (d := 3) (by decide)
      have BW := S.before
      refine step_call 54 (fun args w => by go_simp) _ _ e1 #[.string ⟨(Gal.coefs g L).toArray⟩] (by simp only [List.map_toArray, List.map_cons, List.map_nil, S.t3 D3]) ((wholeB g L hL _).mono ?_)
      rintro e w2 ⟨rfl, BB⟩
      refine ⟨_, rfl, hK _ _ ?_⟩
      rw [e2]
      exact ⟨S.off.put (by decide) _, bt BW BB, kp S.t0, kp S.t1, kp S.t2, kp S.t3, fun _ => (eval_put _ _ _ (by omega)).trans rfl, kp S.t5, kp S.t6⟩
    | 5, _, ho, hsi, hT =>
      obtain ⟨e1, e2⟩ := pick_of h5 ho
      have D1 : s 1 = true := list_pos hT (d := 1) (by decide)
      have BW := S.before
      refine step_val (v := .string ⟨(Gal.coefs g L).toArray⟩) (by simp only [execOp, e1, S.t1 D1]; go_simp) (hK _ _ ?_)
      rw [e2]
      exact ⟨S.off.put (by decide) _, S.before, kp S.t0, kp S.t1, kp S.t2, kp S.t3, kp S.t4, fun _ => (eval_put _ _ _ (by omega)).trans rfl, kp S.t6⟩
    | 6, _, ho, hsi, hT =>
      obtain ⟨e1, e2⟩ := pick_of h6 ho
      have D4 : s 4 = true := list_pos hT (d := 4) (by decide)
      have BW := S.before
      refine step_val (v := .bool (decide (Blk.Code (Gal.coefs g L)))) (by simp only [execOp, e1, S.t4 D4]; go_simp) (hK _ _ ?_)
      rw [e2]
      exact ⟨S.off.put (by decide) _, S.before, kp S.t0, kp S.t1, kp S.t2, kp S.t3, kp S.t4, kp S.t5, fun _ => (eval_put _ _ _ (by omega)).trans rfl⟩
  · intro s a w' S hall
    have a0 := hall 0 (by omega)
    have a1 := hall 1 (by omega)
    have a2 := hall 2 (by omega)
    have a3 := hall 3 (by omega)
    have a4 := hall 4 (by omega)
    have a5 := hall 5 (by omega)
    have a6 := hall 6 (by omega)
    have e := off_norm _ (by intro d hd; simp at hd; omega) S.off
    simp only [List.foldl, S.t0 a0, S.t1 a1, S.t2 a2, S.t3 a3, S.t4 a4, S.t5 a5, S.t6 a6] at e
    rw [e]
    exact h _ S.before
end Go.Proofs.YtlpjhmafplljaaaGreatDoor
/- The contract of perigeeref05's mended over this program. -/
namespace Go.Proofs.YtlpjhmafplljaaaGreatDoor
open Go.RowKit
set_option linter.unusedVariables false

namespace Blk
/-- b with k bytes changed. -/
def patch (b : List UInt8) (l : List Nat) (y : Nat → BitVec 8) : Nat → Nat → BitVec 8
  | 0 => Gal.co b
  | k + 1 => fun p => if p = l.getD k 0 then patch b l y k p ^^^ y k else patch b l y k p
end Blk
theorem info_bytes : (Tryz.prog.info? 41).map (fun i => (i.zero, i.size, i.bytes)) = some (some (.slice none 0 0), 1, 24) := by kernel_rfl
/-- What mended does. -/
def Mended (b : List UInt8) (l : List Nat) (w : World) (e : Ending) (w' : World) : Prop :=
  Below w.heap.size w w' ∧ ((∃ y, Blk.Solves (Blk.mendM b l) l.length y 1#8 ∧ (∀ z, Blk.Solves (Blk.mendM b l) l.length z 1#8 → ∀ r, r < l.length → z r = y r) ∧ e = .returned (.tuple #[.string ⟨(Gal.coefs (Blk.patch b l y l.length) b.length).toArray⟩, .bool (decide (Blk.Code (Gal.coefs (Blk.patch b l y l.length) b.length)))])) ∨
    (∃ z i, i < l.length ∧ z i = 1#8 ∧ Blk.Solves (Blk.mendM b l) l.length z 0#8 ∧ e = .returned (.tuple #[.string ⟨#[]⟩, .bool false])))
set_option maxRecDepth 100000 in
set_option maxHeartbeats 1000000 in
theorem rmended_any (b : ByteArray) (pb po Pc : Nat) (l : List Nat) (n L : Nat) (hl : l.length = n) (h0 : 0 < n) (h8 : n ≤ 8) (hb : b.size = L) (hL : L ≤ 231) (hp : ∀ k, k < n → l.getD k 0 < L) (w : World) (hpb : pb < w.heap.size) (hpl : ∀ k, k < n → w.cell? ⟨pb, po + k, none⟩ = some (.int .i64 (l.getD k 0 : Nat))) :
    Calls Tryz.prog 34 #[.string b, .slice (some ⟨pb, po, none⟩) n Pc] w (Mended b.data.toList l w) := by
  have HP := Lib.hid hp
  have HPL := Lib.hid hpl
  have PW := Lib.hid (fun k w => power2_any (k : Nat) w)
  have TU := Lib.hid (fun w => turned_any b (by omega) w)
  have EV := Lib.hid (fun x w => reval_any ⟨b.data.toList.reverse.toArray⟩ x (by rw [sz, List.length_reverse, ls]; omega) w)
  have MD := Lib.hid (fun j k (h : k < n) => (show Blk.mendM b.data.toList l j k = Gal.pw (j * (L - 1 - l.getD k 0)) by
    unfold Blk.mendM
    rw [hl, if_pos h, ls, hb, Blk.elem_pown]))
  have ME := Lib.hid (fun j => (show Blk.mendM b.data.toList l j n = Gal.evalV b.data.toList.reverse (Gal.pw j) by
    unfold Blk.mendM
    rw [hl, if_neg (by omega), Blk.syn_eval]))
  obtain ⟨mm, hmm⟩ : ∃ mm, Blk.mendM b.data.toList l = mm := ⟨_, rfl⟩
  rw [hmm] at MD ME
  have HMM := Lib.hid hmm
  have HL := Lib.hid hl
  clear hp hpl hmm hl
  go_enter Tryz.func34, Tryz.ntmps34
  go_wp2_with fail
  go_loopw [7, 8] (fun o u wr => ∃ (j : Nat) (β γ : Nat → Nat), j ≤ n ∧ u = .int .i64 j ∧ Rows wr w.heap.size o j (n + 1) β γ mm ∧ Below w.heap.size w wr) (fun _ u _ => n - (intOf u).toNat)
  case atStart => exact ⟨0, fun _ => 0, fun _ => 0, Nat.zero_le _, rfl, Rows.nil _ _ _ _ _ _, Below.refl _ _⟩
  case round =>
    obtain ⟨j, β, γ, hj, rfl, hR, hB⟩ := hrel
    have HR := Lib.hid hR
    have HB := Lib.hid hB
    rename World => w1
    by_cases hlt : j < n
    · clear hR hB
      go_wp2_with fail
      go_loopw [9, 10] (fun o u wr => ∃ k : Nat, k ≤ n ∧ u = .int .i64 k ∧ wr.ownsRow w1.heap.size 5 1 o k (vals (mm j) k) ∧ Below w1.heap.size w1 wr) (fun _ u _ => n - (intOf u).toNat)
      case atStart => exact ⟨0, Nat.zero_le _, rfl, World.ownsRow_nil _ _ _ _, Below.refl _ _⟩
      case round =>
        obtain ⟨k, hk, rfl, hown, hBq⟩ := hrel
        by_cases hkn : k < n
        · have c1 := ((HB.out.trans (hBq.mono HB.out.size)).cell (p := ⟨pb, po + k, none⟩) hpb).trans (HPL.out k hkn)
          have ql := HP.out k hkn
          have md := MD.out j k hkn
          have ns := vals_succ (mm j) k
          rw [md] at ns
          obtain ⟨q, hq⟩ : ∃ q, l.getD k 0 = q := ⟨_, rfl⟩
          rw [hq] at c1 ql ns
          obtain ⟨dd, hdd⟩ : ∃ dd, L - 1 - q = dd := ⟨_, rfl⟩
          rw [hdd] at ns
          obtain ⟨t, ht⟩ : ∃ t, j * dd = t := ⟨_, rfl⟩
          rw [ht] at ns
          have e1 : (L : Int) - 1 - (q : Int) = (dd : Int) := by omega
          have e2 : (j : Int) * (dd : Int) = (t : Int) := by rw [← ht]; exact (Int.natCast_mul j dd).symm
          have t9 : t ≤ 8 * 231 := by rw [← ht]; exact Nat.mul_le_mul (by omega) (by omega)
          have i3 : IntKind.i64.wrap ((L : Int) - 1 - (q : Int)) = (dd : Int) := by rw [IntKind.wrap_i64]; omega
          have i4 : IntKind.i64.wrap ((j : Int) * (dd : Int)) = (t : Int) := by rw [e2, IntKind.wrap_i64]; omega
          have cp := Lib.hid (PW.out t wr)
          rw [Gal.pwi_nat] at cp
          obtain ⟨v, hv⟩ : ∃ v, (Gal.pw t).toNat = v := ⟨_, rfl⟩
          rw [hv] at cp ns
          have NS := Lib.hid ns
          have HO := Lib.hid hown
          have HQ := Lib.hid hBq
          have k9 : k ≤ 9 := by omega
          clear md ns hown hBq hv hq hdd ht
          go_wp2_with fail
          (with_reducible refine cp.out.mono ?_)
          rintro e w' ⟨rfl, rfl⟩
          obtain ⟨i0, hi0, hz0, hz1, hz2⟩ := info_parts info_u8
          have B1 := Lib.hid (HQ.out.alloc HQ.out.size (.cells #[.int .u8 (v : Int)] 5))
          go_wp2_with (at_builtin; refine wpList_append_own _ rfl _ _ 41 rfl w1.heap.size 5 i0 (.int .u8 0) 1 1 Tryz.underlying41 hi0 hz0 hz1 hz2 rfl (by decide) _ _ _ rfl (HO.out.alloc _) ⟨wr.heap.size, 0, none⟩ 1 1 [.int .u8 (v : Int)] rfl rfl cell_one (by simp [Value.oneCell']) (by unfold maxLen; omega) (by omega) (by have := B1.out.size; simp at this ⊢; omega) ?_; intro v' w2 hown2 hgrow _; obtain ⟨g', cap', rfl⟩ := ownsRow_succ hown2; have HO2 := Lib.hid hown2; have BW2 := Lib.hid (B1.out.grown hgrow B1.out.size (fun k e => own_block_ge HO.out e)); clear hown2 hgrow)
          go_roundw
          case rel => exact ⟨k + 1, by omega, by go_num, by rw [NS.out]; exact HO2.out, BW2.out⟩
          case measure => simp [intOf]; omega
        · obtain rfl : k = n := by omega
          have me := ME.out j
          have tu := Lib.hid (TU.out wr)
          have ns := vals_succ (mm j) k
          rw [me] at ns
          have HO := Lib.hid hown
          have HQ := Lib.hid hBq
          have CP := Lib.hid (fun w => PW.out j w)
          rw [Gal.pwi_nat] at CP
          have CE := Lib.hid (fun w => EV.out (Gal.pw j) w)
          obtain ⟨tb, htb⟩ : ∃ t : ByteArray, (⟨b.data.toList.reverse.toArray⟩ : ByteArray) = t := ⟨_, rfl⟩
          rw [htb] at tu CE
          rw [show b.data.toList.reverse = tb.data.toList by rw [← htb]] at ns CE
          obtain ⟨pv, hpv⟩ : ∃ v, (Gal.pw j).toNat = v := ⟨_, rfl⟩
          rw [hpv] at CP CE
          obtain ⟨v, hv⟩ : ∃ v, (Gal.evalV tb.data.toList (Gal.pw j)).toNat = v := ⟨_, rfl⟩
          rw [hv] at ns CE
          have NS := Lib.hid ns
          clear me ns hown hBq htb hpv hv
          go_wp2_with fail
          (with_reducible refine tu.out.mono ?_)
          rintro e w3 ⟨rfl, h3⟩
          have HO3 := Lib.hid (own_below HO.out h3)
          have HQ3 := Lib.hid (bt HQ.out h3)
          clear h3
          go_wp2_with fail
          (with_reducible refine (CP.out _).mono ?_)
          rintro e w' ⟨rfl, rfl⟩
          go_wp2_with fail
          (with_reducible refine (CE.out _).mono ?_)
          rintro e w' ⟨rfl, rfl⟩
          obtain ⟨i0, hi0, hz0, hz1, hz2⟩ := info_parts info_u8
          obtain ⟨j0, hj0, hy0, hy1, hy2⟩ := info_parts info_bytes
          have B1 := Lib.hid (HQ3.out.alloc HQ3.out.size (.cells #[.int .u8 (v : Int)] 5))
          go_wp2_with (first
            | (at_builtin; refine wpList_append_own _ rfl _ _ 41 rfl w1.heap.size 5 i0 (.int .u8 0) 1 1 Tryz.underlying41 hi0 hz0 hz1 hz2 rfl (by decide) _ _ _ rfl (HO3.out.alloc _) ⟨w3.heap.size, 0, none⟩ 1 1 [.int .u8 (v : Int)] rfl rfl cell_one (by simp [Value.oneCell']) (by unfold maxLen; omega) (by omega) (by have := B1.out.size; simp at this ⊢; omega) ?_; intro v' w5 hown5 hgrow5 _; obtain ⟨g', cap', rfl⟩ := ownsRow_succ hown5; have BW5 := Lib.hid (B1.out.grown hgrow5 B1.out.size (fun k e => own_block_ge HO3.out e)); have HOA := Lib.hid (hown5.alloc (.cells #[.slice (some ⟨g', 0, none⟩) (k + 1) cap'] 41)); have RA := Lib.hid (HR.out.below (ba BW5.out (.cells #[.slice (some ⟨g', 0, none⟩) (k + 1) cap'] 41))); have BA := Lib.hid (HB.out.trans ((ba BW5.out (.cells #[.slice (some ⟨g', 0, none⟩) (k + 1) cap'] 41)).mono HB.out.size)); clear hown5 hgrow5)
            | (at_builtin; refine wpList_append_own _ rfl _ _ 76 rfl w.heap.size 41 j0 (.slice none 0 0) 1 24 Tryz.underlying76 hj0 hy0 hy1 hy2 rfl (by decide) _ _ _ rfl RA.out.own ⟨w5.heap.size, 0, none⟩ 1 1 [.slice (some ⟨g', 0, none⟩) (k + 1) cap'] rfl rfl cell_one (by simp [Value.oneCell']) (by unfold maxLen; omega) (by omega) BA.out.size ?_; intro v'' w6 hown6 hgrow6 _; have RP := Lib.hid (RA.out.push (b1 := w1.heap.size) (fun i hi => (own_at (HR.out.row i hi)).2.1) HB.out.size (f := mm j) (by rw [NS.out]; exact HOA.out) (fun _ _ => rfl) hown6 hgrow6); have BW6 := Lib.hid (BA.out.grown hgrow6 BA.out.size (fun k e => own_block_ge RA.out.own e)); clear hown6 hgrow6))
          go_roundw
          case rel => exact ⟨j + 1, _, _, by omega, by go_num, RP.out, BW6.out⟩
          case measure => simp [intOf]; omega
    · obtain rfl : j = n := by omega
      obtain ⟨R, C, rfl, hMat⟩ := HR.out.mat h0
      have SV := Lib.hid (rsolve_any w.heap.size R j C (j + 1) β γ mm h8 h0 rfl w1 hMat)
      clear hMat hR hB HR PW TU EV MD ME
      go_wp2_with fail
      (with_reducible refine SV.out.mono ?_)
      rintro e w3 ⟨hB3, h⟩
      have HB3 := Lib.hid (HB.out.trans hB3)
      rcases h with ⟨v, M', b0, hb0, rfl, hU, hE, hO⟩ | ⟨M', i, hi, rfl, hE, hU, hz⟩
      · rcases hO.2 with ⟨_, h1⟩ | ⟨yb, Yc, _, rfl, _⟩
        · omega
        · obtain ⟨_, hyl, _, hya⟩ := own_at hO
          have HS1 := (hE (fun r => M' r j) 1#8).2 ((Blk.unit_solves hU (fun r => M' r j) 1#8).2 (fun r hr => by rw [Gal.mul_one]))
          have HS2 : ∀ z, Blk.Solves mm j z 1#8 → ∀ r, r < j → z r = (fun r => M' r j) r := fun z hz r hr => by
            have := (Blk.unit_solves hU z 1#8).1 ((hE z 1#8).1 hz) r hr
            rwa [Gal.mul_one] at this
          have hya2 : ∀ k, k < j → w3.cell? ⟨yb, k, none⟩ = some (.int .u8 (((fun r => M' r j) k).toNat : Nat)) := fun k hk => (hya k _ (vals_at (fun r => M' r j) hk)).1
          obtain ⟨y, hy⟩ : ∃ y, (fun r => M' r j) = y := ⟨_, rfl⟩
          rw [hy] at HS1 HS2 hya2
          have H1 := Lib.hid HS1
          have H2 := Lib.hid HS2
          have HYA := Lib.hid hya2
          have c1 := run_bytes_of_string (P := Tryz.prog) w3 9 41 5 b Tryz.underlying9 Tryz.underlying41 Tryz.underlying5
          obtain ⟨D, hcap⟩ : ∃ D, grownCap w3 b.size 0 5 = D := ⟨_, rfl⟩
          rw [hcap, hb] at c1
          have n1 := nums_new b D 5 w3.drew
          rw [hb, show w3.drew.heap.size = w3.heap.size from rfl] at n1
          have b4 := ba HB3.out.drew (.cells (bytesRow b D) 5 ((bytesRow b D).size, (bytesRow b D).size + 1))
          have b34 := ba (Below.refl w3.heap.size w3).drew (.cells (bytesRow b D) 5 ((bytesRow b D).size, (bytesRow b D).size + 1))
          obtain ⟨w4, hw4⟩ : ∃ w4, w3.drew.alloc (.cells (bytesRow b D) 5 ((bytesRow b D).size, (bytesRow b D).size + 1)) = w4 := ⟨_, rfl⟩
          rw [hw4] at c1 n1 b4 b34
          have C1 := Lib.hid c1
          have N1 := Lib.hid n1
          have B4 := Lib.hid b4
          have B34 := Lib.hid b34
          have w3l : w.heap.size ≤ w3.heap.size := HB3.out.size
          have HBS := Lib.hid hb
          clear SV hB3 hE hU hO hya hya2 HS1 HS2 hy c1 n1 b4 b34 hw4 hcap
          go_wp2_with (simp only [C1.out])
          go_loopw [14] (fun u wr => ∃ k : Nat, k ≤ j ∧ u = .int .i64 k ∧ NumsK .u8 wr w3.heap.size L (fun p => (Blk.patch b.data.toList l y k p).toNat) ∧ But w3.heap.size w4 wr) (fun u _ => j - (intOf u).toNat)
          case atStart => exact ⟨0, Nat.zero_le _, rfl, N1.out, But.refl _ _⟩
          case round =>
            obtain ⟨k, hk, rfl, hF, hBt⟩ := hrel
            by_cases hkj : k < j
            · have NF := Lib.hid hF
              have NB := Lib.hid hBt
              have BW := Lib.hid (B4.out.trans (hBt.below.mono w3l))
              have BY := Lib.hid (B34.out.trans hBt.below)
              have PL := Lib.hid (HPL.out k hkj)
              have ql := HP.out k hkj
              obtain ⟨q, hq⟩ : ∃ q, l.getD k 0 = q := ⟨_, rfl⟩
              rw [hq] at PL ql
              have HQ := Lib.hid hq
              clear hF hBt hq
              go_upto_region 19 with fail
              refine mendRegion w3.heap.size L D pb po j Pc yb Yc k q (Blk.patch b.data.toList l y k q) (y k) (fun p => (Blk.patch b.data.toList l y k p).toNat) hkj (by omega) ql (by omega) (Nat.lt_of_lt_of_le hpb BW.out.size) ((BW.out.cell (p := ⟨pb, po + k, none⟩) hpb).trans PL.out) NF.out rfl (Nat.lt_of_lt_of_le hyl BY.out.size) ((BY.out.cell (p := ⟨yb, k, none⟩) hyl).trans (HYA.out k hkj)) (by kernel_rfl) rfl rfl rfl rfl rfl rfl rfl rfl rfl rfl rfl rfl rfl rfl rfl rfl rfl rfl rfl rfl rfl rfl rfl rfl rfl ?_
              intro w5 B5
              simp only [Act.put, List.setIfInBounds_toArray, List.set_cons_succ, List.set_cons_zero]
              have M1 := Lib.hid ((NF.out.below B5).set (g := fun p => (Blk.patch b.data.toList l y (k + 1) p).toNat) q (Blk.patch b.data.toList l y k q ^^^ y k).toNat ql (by
                show (if q = l.getD k 0 then _ else _ : BitVec 8).toNat = _
                rw [if_pos HQ.out.symm]) (fun p hp hpq => by
                show (if p = l.getD k 0 then _ else _ : BitVec 8).toNat = _
                rw [if_neg (by rw [HQ.out]; exact hpq)]))
              have M2 := Lib.hid ((NB.out.trans (But.of_below B5 (Nat.le_of_lt NF.out.1))).setCell q (.int .u8 ((Blk.patch b.data.toList l y k q ^^^ y k).toNat : Nat)))
              obtain ⟨w6, hw6⟩ : ∃ w6, w5.setCell ⟨w3.heap.size, q, none⟩ (.int .u8 ((Blk.patch b.data.toList l y k q ^^^ y k).toNat : Nat)) = w6 := ⟨_, rfl⟩
              rw [hw6] at M1 M2 ⊢
              clear hw6 B5 NF NB BW BY PL
              go_wp2_with fail
              go_roundw
              case rel => exact ⟨k + 1, by omega, by go_num, M1.out, M2.out⟩
              case measure => simp [intOf]; omega
            · obtain rfl : k = j := by omega
              have NF := Lib.hid hF
              have BW := Lib.hid (B4.out.trans (hBt.below.mono w3l))
              clear hF hBt
              go_upto_region 20 with fail
              refine mendEnd w3.heap.size L D (Blk.patch b.data.toList l y k) (by omega) NF.out (by kernel_rfl) rfl rfl rfl rfl rfl rfl rfl rfl rfl rfl ?_
              intro w7 B7
              simp only [Act.put, List.setIfInBounds_toArray, List.set_cons_succ, List.set_cons_zero]
              have FIN := Lib.hid (show Mended b.data.toList l w (.returned (.tuple #[.string ⟨(Gal.coefs (Blk.patch b.data.toList l y k) L).toArray⟩, .bool (decide (Blk.Code (Gal.coefs (Blk.patch b.data.toList l y k) L)))])) w7 from by
                unfold Mended
                rw [HMM.out, HL.out, ls, HBS.out]
                exact ⟨bt BW.out B7, .inl ⟨y, H1.out, H2.out, rfl⟩⟩)
              clear B7 NF BW
              go_wp2_with fail
              go_ret2
              exact FIN.out
      · have FIN := Lib.hid (show Mended b.data.toList l w (.returned (.tuple #[.string ⟨#[]⟩, .bool false])) w3 from by
          obtain ⟨z, hz1, hz2⟩ := Blk.stuck_kernel hU hi hz
          refine ⟨HB3.out, .inr ⟨z, i, by rw [HL.out]; exact hi, hz2, ?_, rfl⟩⟩
          rw [HMM.out, HL.out]
          exact (hE z 0#8).2 hz1)
        clear SV hB3 hE hU hz
        go_wp2_with fail
        go_ret2
        exact FIN.out
end Go.Proofs.YtlpjhmafplljaaaGreatDoor
