/- The regions of perigeeref05's mended that draw their order. -/
import Derived.Test.YtlpjhmafplljaaaDoorBlkRefB
namespace Go.Proofs.YtlpjhmafplljaaaDoor
open Go.RowKit
set_option linter.unusedVariables false

structure MendRegion (ob L C pb po n Pc yb Yc k q : Nat) (x y : BitVec 8) (m : Nat → Nat) (A : Act) (w0 : World) (s : Nat → Bool) (a : Act) (w : World) : Prop where
  off : Off [66, 67, 68, 69, 70, 71, 72, 73, 74, 75, 76, 77, 78, 79, 80, 81, 82, 83] a A
  before : s 18 = false → Below w0.heap.size w0 w
  behind : s 18 = true → ∃ w1, Below w0.heap.size w0 w1 ∧ w = w1.setCell ⟨ob, q, none⟩ (.int .u8 ((x ^^^ y).toNat : Nat))
  t0 : s 0 = true → a.eval (.tmp 66) = .slice (some ⟨ob, 0, none⟩) L C
  t1 : s 1 = true → a.eval (.tmp 67) = .slice (some ⟨pb, po, none⟩) n Pc
  t2 : s 2 = true → a.eval (.tmp 68) = .int .i64 (k : Nat)
  t3 : s 3 = true → a.eval (.tmp 69) = .pointer (some ⟨pb, po + k, none⟩)
  t4 : s 4 = true → a.eval (.tmp 70) = .int .i64 (q : Nat)
  t5 : s 5 = true → a.eval (.tmp 71) = .slice (some ⟨ob, 0, none⟩) L C
  t6 : s 6 = true → a.eval (.tmp 72) = .slice (some ⟨pb, po, none⟩) n Pc
  t7 : s 7 = true → a.eval (.tmp 73) = .int .i64 (k : Nat)
  t8 : s 8 = true → a.eval (.tmp 74) = .pointer (some ⟨pb, po + k, none⟩)
  t9 : s 9 = true → a.eval (.tmp 75) = .int .i64 (q : Nat)
  t10 : s 10 = true → a.eval (.tmp 76) = .pointer (some ⟨ob, q, none⟩)
  t11 : s 11 = true → a.eval (.tmp 77) = .int .u8 (x.toNat : Nat)
  t12 : s 12 = true → a.eval (.tmp 78) = .slice (some ⟨yb, 0, none⟩) n Yc
  t13 : s 13 = true → a.eval (.tmp 79) = .int .i64 (k : Nat)
  t14 : s 14 = true → a.eval (.tmp 80) = .pointer (some ⟨yb, k, none⟩)
  t15 : s 15 = true → a.eval (.tmp 81) = .int .u8 (y.toNat : Nat)
  t16 : s 16 = true → a.eval (.tmp 82) = .int .u8 ((x ^^^ y).toNat : Nat)
  t17 : s 17 = true → a.eval (.tmp 83) = .pointer (some ⟨ob, q, none⟩)
set_option maxHeartbeats 2000000 in
set_option maxRecDepth 100000 in
theorem mendRegion {id : Nat} {d : Bool} {l : List Oper} {A : Act} {w : World} {Q : Exit → Act → World → Prop} (ob L C pb po n Pc yb Yc k q : Nat) (x y : BitVec 8) (m : Nat → Nat)
    (hk : k < n) (hn : n ≤ 1000) (hq : q < L) (hL : L ≤ 1000000) (hpl : pb < w.heap.size) (hp : w.cell? ⟨pb, po + k, none⟩ = some (.int .i64 (q : Nat))) (hO : NumsK .u8 w ob L m) (hx : m q = x.toNat) (hyl : yb < w.heap.size) (hy : w.cell? ⟨yb, k, none⟩ = some (.int .u8 (y.toNat : Nat)))
    (hB : tableL d l.toArray (fun i => match i with | 0 => [] | 1 => [] | 2 => [] | 3 => [1, 2] | 4 => [3] | 5 => [] | 6 => [] | 7 => [] | 8 => [6, 7] | 9 => [8] | 10 => [5, 9] | 11 => [10] | 12 => [] | 13 => [] | 14 => [12, 13] | 15 => [14] | 16 => [11, 15] | 17 => [0, 4] | 18 => [0, 1, 2, 3, 4, 5, 6, 7, 8, 9, 10, 11, 12, 13, 14, 15, 16, 17] | _ => []) (fun i => match i with | 0 => [18] | 1 => [18] | 2 => [18] | 3 => [18] | 4 => [18] | 5 => [18] | 6 => [18] | 7 => [18] | 8 => [18] | 9 => [18] | 10 => [18] | 11 => [18] | 12 => [18] | 13 => [18] | 14 => [18] | 15 => [18] | 16 => [18] | 17 => [18] | 18 => [] | _ => []) = true) (hl : l.length = 19)
    (h0 : pick l 0 = some (.move (.tmp 13), some 66))
    (h1 : pick l 1 = some (.move (.tmp 1), some 67))
    (h2 : pick l 2 = some (.move (.tmp 14), some 68))
    (h3 : pick l 3 = some (.indexAddr 27 (.tmp 67) (.tmp 68), some 69))
    (h4 : pick l 4 = some (.load 3 (.tmp 69), some 70))
    (h5 : pick l 5 = some (.move (.tmp 13), some 71))
    (h6 : pick l 6 = some (.move (.tmp 1), some 72))
    (h7 : pick l 7 = some (.move (.tmp 14), some 73))
    (h8 : pick l 8 = some (.indexAddr 27 (.tmp 72) (.tmp 73), some 74))
    (h9 : pick l 9 = some (.load 3 (.tmp 74), some 75))
    (h10 : pick l 10 = some (.indexAddr 33 (.tmp 71) (.tmp 75), some 76))
    (h11 : pick l 11 = some (.load 5 (.tmp 76), some 77))
    (h12 : pick l 12 = some (.move (.tmp 11), some 78))
    (h13 : pick l 13 = some (.move (.tmp 14), some 79))
    (h14 : pick l 14 = some (.indexAddr 33 (.tmp 78) (.tmp 79), some 80))
    (h15 : pick l 15 = some (.load 5 (.tmp 80), some 81))
    (h16 : pick l 16 = some (.binOp .xor 5 (.tmp 77) (.tmp 81) 5, some 82))
    (h17 : pick l 17 = some (.indexAddr 33 (.tmp 66) (.tmp 70), some 83))
    (h18 : pick l 18 = some (.store 5 (.tmp 83) (.tmp 82), none))
    (hs : A.tmps.size = 89)
    (x1 : A.eval (.tmp 1) = .slice (some ⟨pb, po, none⟩) n Pc)
    (x11 : A.eval (.tmp 11) = .slice (some ⟨yb, 0, none⟩) n Yc)
    (x13 : A.eval (.tmp 13) = .slice (some ⟨ob, 0, none⟩) L C)
    (x14 : A.eval (.tmp 14) = .int .i64 (k : Nat))
    (h : ∀ w1, Below w.heap.size w w1 → Q .normal ((((((((((((((((((A.put (some 66) (.slice (some ⟨ob, 0, none⟩) L C)).put (some 67) (.slice (some ⟨pb, po, none⟩) n Pc)).put (some 68) (.int .i64 (k : Nat))).put (some 69) (.pointer (some ⟨pb, po + k, none⟩))).put (some 70) (.int .i64 (q : Nat))).put (some 71) (.slice (some ⟨ob, 0, none⟩) L C)).put (some 72) (.slice (some ⟨pb, po, none⟩) n Pc)).put (some 73) (.int .i64 (k : Nat))).put (some 74) (.pointer (some ⟨pb, po + k, none⟩))).put (some 75) (.int .i64 (q : Nat))).put (some 76) (.pointer (some ⟨ob, q, none⟩))).put (some 77) (.int .u8 (x.toNat : Nat))).put (some 78) (.slice (some ⟨yb, 0, none⟩) n Yc)).put (some 79) (.int .i64 (k : Nat))).put (some 80) (.pointer (some ⟨yb, k, none⟩))).put (some 81) (.int .u8 (y.toNat : Nat))).put (some 82) (.int .u8 ((x ^^^ y).toNat : Nat))).put (some 83) (.pointer (some ⟨ob, q, none⟩))) (w1.setCell ⟨ob, q, none⟩ (.int .u8 ((x ^^^ y).toNat : Nat)))) :
    (Code.region id l.toArray d).wp Tryd.prog Q A w := by
  refine wp_region_invL (by kernel_rfl) _ _ hB (MendRegion ob L C pb po n Pc yb Yc k q x y m A w) ⟨Off.refl _ _, fun _ => Below.refl _ _, by simp, by simp, by simp, by simp, by simp, by simp, by simp, by simp, by simp, by simp, by simp, by simp, by simp, by simp, by simp, by simp, by simp, by simp, by simp⟩ ⟨Off.refl _ _, fun _ => (Below.refl _ _).drew, by simp, by simp, by simp, by simp, by simp, by simp, by simp, by simp, by simp, by simp, by simp, by simp, by simp, by simp, by simp, by simp, by simp, by simp, by simp⟩ ?_ ?_
  · intro s a w' S i' o ho hsi hT K hK
    have sz : a.tmps.size = 89 := by rw [S.off.2.1]; exact hs
    have il : i' < 19 := by have := (List.getElem?_eq_some_iff.1 ho).1; omega
    have y1 : a.eval (.tmp 1) = .slice (some ⟨pb, po, none⟩) n Pc := by rw [S.off.eval (by decide)]; exact x1
    have y11 : a.eval (.tmp 11) = .slice (some ⟨yb, 0, none⟩) n Yc := by rw [S.off.eval (by decide)]; exact x11
    have y13 : a.eval (.tmp 13) = .slice (some ⟨ob, 0, none⟩) L C := by rw [S.off.eval (by decide)]; exact x13
    have y14 : a.eval (.tmp 14) = .int .i64 (k : Nat) := by rw [S.off.eval (by decide)]; exact x14
    match i', il, ho, hsi, hT with
    | 0, _, ho, hsi, hT =>
      obtain ⟨e1, e2⟩ := pick_of h0 ho
      have NL : s 18 = false := list_neg hT (k := 18) (by decide)
      have BW := S.before NL
      refine step_val (v := .slice (some ⟨ob, 0, none⟩) L C) (by simp only [execOp, e1, y13]; go_simp) (hK _ _ ?_)
      rw [e2]
      exact ⟨S.off.put (by decide) _, fun _ => S.before NL, fun g => absurd g (by simp [NL]), fun _ => (eval_put _ _ _ (by omega)).trans rfl, fun g => by rw [eval_put_ne _ _ _ _ (by decide)]; exact S.t1 (by simpa using g), fun g => by rw [eval_put_ne _ _ _ _ (by decide)]; exact S.t2 (by simpa using g), fun g => by rw [eval_put_ne _ _ _ _ (by decide)]; exact S.t3 (by simpa using g), fun g => by rw [eval_put_ne _ _ _ _ (by decide)]; exact S.t4 (by simpa using g), fun g => by rw [eval_put_ne _ _ _ _ (by decide)]; exact S.t5 (by simpa using g), fun g => by rw [eval_put_ne _ _ _ _ (by decide)]; exact S.t6 (by simpa using g), fun g => by rw [eval_put_ne _ _ _ _ (by decide)]; exact S.t7 (by simpa using g), fun g => by rw [eval_put_ne _ _ _ _ (by decide)]; exact S.t8 (by simpa using g), fun g => by rw [eval_put_ne _ _ _ _ (by decide)]; exact S.t9 (by simpa using g), fun g => by rw [eval_put_ne _ _ _ _ (by decide)]; exact S.t10 (by simpa using g), fun g => by rw [eval_put_ne _ _ _ _ (by decide)]; exact S.t11 (by simpa using g), fun g => by rw [eval_put_ne _ _ _ _ (by decide)]; exact S.t12 (by simpa using g), fun g => by rw [eval_put_ne _ _ _ _ (by decide)]; exact S.t13 (by simpa using g), fun g => by rw [eval_put_ne _ _ _ _ (by decide)]; exact S.t14 (by simpa using g), fun g => by rw [eval_put_ne _ _ _ _ (by decide)]; exact S.t15 (by simpa using g), fun g => by rw [eval_put_ne _ _ _ _ (by decide)]; exact S.t16 (by simpa using g), fun g => by rw [eval_put_ne _ _ _ _ (by decide)]; exact S.t17 (by simpa using g)⟩
    | 1, _, ho, hsi, hT =>
      obtain ⟨e1, e2⟩ := pick_of h1 ho
      have NL : s 18 = false := list_neg hT (k := 18) (by decide)
      have BW := S.before NL
      refine step_val (v := .slice (some ⟨pb, po, none⟩) n Pc) (by simp only [execOp, e1, y1]; go_simp) (hK _ _ ?_)
      rw [e2]
      exact ⟨S.off.put (by decide) _, fun _ => S.before NL, fun g => absurd g (by simp [NL]), fun g => by rw [eval_put_ne _ _ _ _ (by decide)]; exact S.t0 (by simpa using g), fun _ => (eval_put _ _ _ (by omega)).trans rfl, fun g => by rw [eval_put_ne _ _ _ _ (by decide)]; exact S.t2 (by simpa using g), fun g => by rw [eval_put_ne _ _ _ _ (by decide)]; exact S.t3 (by simpa using g), fun g => by rw [eval_put_ne _ _ _ _ (by decide)]; exact S.t4 (by simpa using g), fun g => by rw [eval_put_ne _ _ _ _ (by decide)]; exact S.t5 (by simpa using g), fun g => by rw [eval_put_ne _ _ _ _ (by decide)]; exact S.t6 (by simpa using g), fun g => by rw [eval_put_ne _ _ _ _ (by decide)]; exact S.t7 (by simpa using g), fun g => by rw [eval_put_ne _ _ _ _ (by decide)]; exact S.t8 (by simpa using g), fun g => by rw [eval_put_ne _ _ _ _ (by decide)]; exact S.t9 (by simpa using g), fun g => by rw [eval_put_ne _ _ _ _ (by decide)]; exact S.t10 (by simpa using g), fun g => by rw [eval_put_ne _ _ _ _ (by decide)]; exact S.t11 (by simpa using g), fun g => by rw [eval_put_ne _ _ _ _ (by decide)]; exact S.t12 (by simpa using g), fun g => by rw [eval_put_ne _ _ _ _ (by decide)]; exact S.t13 (by simpa using g), fun g => by rw [eval_put_ne _ _ _ _ (by decide)]; exact S.t14 (by simpa using g), fun g => by rw [eval_put_ne _ _ _ _ (by decide)]; exact S.t15 (by simpa using g), fun g => by rw [eval_put_ne _ _ _ _ (by decide)]; exact S.t16 (by simpa using g), fun g => by rw [eval_put_ne _ _ _ _ (by decide)]; exact S.t17 (by simpa using g)⟩
    | 2, _, ho, hsi, hT =>
      obtain ⟨e1, e2⟩ := pick_of h2 ho
      have NL : s 18 = false := list_neg hT (k := 18) (by decide)
      have BW := S.before NL
      refine step_val (v := .int .i64 (k : Nat)) (by simp only [execOp, e1, y14]; go_simp) (hK _ _ ?_)
      rw [e2]
      exact ⟨S.off.put (by decide) _, fun _ => S.before NL, fun g => absurd g (by simp [NL]), fun g => by rw [eval_put_ne _ _ _ _ (by decide)]; exact S.t0 (by simpa using g), fun g => by rw [eval_put_ne _ _ _ _ (by decide)]; exact S.t1 (by simpa using g), fun _ => (eval_put _ _ _ (by omega)).trans rfl, fun g => by rw [eval_put_ne _ _ _ _ (by decide)]; exact S.t3 (by simpa using g), fun g => by rw [eval_put_ne _ _ _ _ (by decide)]; exact S.t4 (by simpa using g), fun g => by rw [eval_put_ne _ _ _ _ (by decide)]; exact S.t5 (by simpa using g), fun g => by rw [eval_put_ne _ _ _ _ (by decide)]; exact S.t6 (by simpa using g), fun g => by rw [eval_put_ne _ _ _ _ (by decide)]; exact S.t7 (by simpa using g), fun g => by rw [eval_put_ne _ _ _ _ (by decide)]; exact S.t8 (by simpa using g), fun g => by rw [eval_put_ne _ _ _ _ (by decide)]; exact S.t9 (by simpa using g), fun g => by rw [eval_put_ne _ _ _ _ (by decide)]; exact S.t10 (by simpa using g), fun g => by rw [eval_put_ne _ _ _ _ (by decide)]; exact S.t11 (by simpa using g), fun g => by rw [eval_put_ne _ _ _ _ (by decide)]; exact S.t12 (by simpa using g), fun g => by rw [eval_put_ne _ _ _ _ (by decide)]; exact S.t13 (by simpa using g), fun g => by rw [eval_put_ne _ _ _ _ (by decide)]; exact S.t14 (by simpa using g), fun g => by rw [eval_put_ne _ _ _ _ (by decide)]; exact S.t15 (by simpa using g), fun g => by rw [eval_put_ne _ _ _ _ (by decide)]; exact S.t16 (by simpa using g), fun g => by rw [eval_put_ne _ _ _ _ (by decide)]; exact S.t17 (by simpa using g)⟩
    | 3, _, ho, hsi, hT =>
      obtain ⟨e1, e2⟩ := pick_of h3 ho
      have D1 : s 1 = true := list_pos hT (d := 1) (by decide)
      have D2 : s 2 = true := list_pos hT (d := 2) (by decide)
      have NL : s 18 = false := list_neg hT (k := 18) (by decide)
      have BW := S.before NL
      refine step_val (v := .pointer (some ⟨pb, po + k, none⟩)) (by simp only [execOp, e1, S.t1 D1, S.t2 D2]; go_simp) (hK _ _ ?_)
      rw [e2]
      exact ⟨S.off.put (by decide) _, fun _ => S.before NL, fun g => absurd g (by simp [NL]), fun g => by rw [eval_put_ne _ _ _ _ (by decide)]; exact S.t0 (by simpa using g), fun g => by rw [eval_put_ne _ _ _ _ (by decide)]; exact S.t1 (by simpa using g), fun g => by rw [eval_put_ne _ _ _ _ (by decide)]; exact S.t2 (by simpa using g), fun _ => (eval_put _ _ _ (by omega)).trans rfl, fun g => by rw [eval_put_ne _ _ _ _ (by decide)]; exact S.t4 (by simpa using g), fun g => by rw [eval_put_ne _ _ _ _ (by decide)]; exact S.t5 (by simpa using g), fun g => by rw [eval_put_ne _ _ _ _ (by decide)]; exact S.t6 (by simpa using g), fun g => by rw [eval_put_ne _ _ _ _ (by decide)]; exact S.t7 (by simpa using g), fun g => by rw [eval_put_ne _ _ _ _ (by decide)]; exact S.t8 (by simpa using g), fun g => by rw [eval_put_ne _ _ _ _ (by decide)]; exact S.t9 (by simpa using g), fun g => by rw [eval_put_ne _ _ _ _ (by decide)]; exact S.t10 (by simpa using g), fun g => by rw [eval_put_ne _ _ _ _ (by decide)]; exact S.t11 (by simpa using g), fun g => by rw [eval_put_ne _ _ _ _ (by decide)]; exact S.t12 (by simpa using g), fun g => by rw [eval_put_ne _ _ _ _ (by decide)]; exact S.t13 (by simpa using g), fun g => by rw [eval_put_ne _ _ _ _ (by decide)]; exact S.t14 (by simpa using g), fun g => by rw [eval_put_ne _ _ _ _ (by decide)]; exact S.t15 (by simpa using g), fun g => by rw [eval_put_ne _ _ _ _ (by decide)]; exact S.t16 (by simpa using g), fun g => by rw [eval_put_ne _ _ _ _ (by decide)]; exact S.t17 (by simpa using g)⟩
    | 4, _, ho, hsi, hT =>
      obtain ⟨e1, e2⟩ := pick_of h4 ho
      have D3 : s 3 = true := list_pos hT (d := 3) (by decide)
      have NL : s 18 = false := list_neg hT (k := 18) (by decide)
      have BW := S.before NL
      have cl := (BW.cell (p := ⟨pb, po + k, none⟩) hpl).trans hp
      refine step_val (v := .int .i64 (q : Nat)) (by simp only [execOp, e1, S.t3 D3]; go_simp) (hK _ _ ?_)
      rw [e2]
      exact ⟨S.off.put (by decide) _, fun _ => S.before NL, fun g => absurd g (by simp [NL]), fun g => by rw [eval_put_ne _ _ _ _ (by decide)]; exact S.t0 (by simpa using g), fun g => by rw [eval_put_ne _ _ _ _ (by decide)]; exact S.t1 (by simpa using g), fun g => by rw [eval_put_ne _ _ _ _ (by decide)]; exact S.t2 (by simpa using g), fun g => by rw [eval_put_ne _ _ _ _ (by decide)]; exact S.t3 (by simpa using g), fun _ => (eval_put _ _ _ (by omega)).trans rfl, fun g => by rw [eval_put_ne _ _ _ _ (by decide)]; exact S.t5 (by simpa using g), fun g => by rw [eval_put_ne _ _ _ _ (by decide)]; exact S.t6 (by simpa using g), fun g => by rw [eval_put_ne _ _ _ _ (by decide)]; exact S.t7 (by simpa using g), fun g => by rw [eval_put_ne _ _ _ _ (by decide)]; exact S.t8 (by simpa using g), fun g => by rw [eval_put_ne _ _ _ _ (by decide)]; exact S.t9 (by simpa using g), fun g => by rw [eval_put_ne _ _ _ _ (by decide)]; exact S.t10 (by simpa using g), fun g => by rw [eval_put_ne _ _ _ _ (by decide)]; exact S.t11 (by simpa using g), fun g => by rw [eval_put_ne _ _ _ _ (by decide)]; exact S.t12 (by simpa using g), fun g => by rw [eval_put_ne _ _ _ _ (by decide)]; exact S.t13 (by simpa using g), fun g => by rw [eval_put_ne _ _ _ _ (by decide)]; exact S.t14 (by simpa using g), fun g => by rw [eval_put_ne _ _ _ _ (by decide)]; exact S.t15 (by simpa using g), fun g => by rw [eval_put_ne _ _ _ _ (by decide)]; exact S.t16 (by simpa using g), fun g => by rw [eval_put_ne _ _ _ _ (by decide)]; exact S.t17 (by simpa using g)⟩
    | 5, _, ho, hsi, hT =>
      obtain ⟨e1, e2⟩ := pick_of h5 ho
      have NL : s 18 = false := list_neg hT (k := 18) (by decide)
      have BW := S.before NL
      refine step_val (v := .slice (some ⟨ob, 0, none⟩) L C) (by simp only [execOp, e1, y13]; go_simp) (hK _ _ ?_)
      rw [e2]
      exact ⟨S.off.put (by decide) _, fun _ => S.before NL, fun g => absurd g (by simp [NL]), fun g => by rw [eval_put_ne _ _ _ _ (by decide)]; exact S.t0 (by simpa using g), fun g => by rw [eval_put_ne _ _ _ _ (by decide)]; exact S.t1 (by simpa using g), fun g => by rw [eval_put_ne _ _ _ _ (by decide)]; exact S.t2 (by simpa using g), fun g => by rw [eval_put_ne _ _ _ _ (by decide)]; exact S.t3 (by simpa using g), fun g => by rw [eval_put_ne _ _ _ _ (by decide)]; exact S.t4 (by simpa using g), fun _ => (eval_put _ _ _ (by omega)).trans rfl, fun g => by rw [eval_put_ne _ _ _ _ (by decide)]; exact S.t6 (by simpa using g), fun g => by rw [eval_put_ne _ _ _ _ (by decide)]; exact S.t7 (by simpa using g), fun g => by rw [eval_put_ne _ _ _ _ (by decide)]; exact S.t8 (by simpa using g), fun g => by rw [eval_put_ne _ _ _ _ (by decide)]; exact S.t9 (by simpa using g), fun g => by rw [eval_put_ne _ _ _ _ (by decide)]; exact S.t10 (by simpa using g), fun g => by rw [eval_put_ne _ _ _ _ (by decide)]; exact S.t11 (by simpa using g), fun g => by rw [eval_put_ne _ _ _ _ (by decide)]; exact S.t12 (by simpa using g), fun g => by rw [eval_put_ne _ _ _ _ (by decide)]; exact S.t13 (by simpa using g), fun g => by rw [eval_put_ne _ _ _ _ (by decide)]; exact S.t14 (by simpa using g), fun g => by rw [eval_put_ne _ _ _ _ (by decide)]; exact S.t15 (by simpa using g), fun g => by rw [eval_put_ne _ _ _ _ (by decide)]; exact S.t16 (by simpa using g), fun g => by rw [eval_put_ne _ _ _ _ (by decide)]; exact S.t17 (by simpa using g)⟩
    | 6, _, ho, hsi, hT =>
      obtain ⟨e1, e2⟩ := pick_of h6 ho
      have NL : s 18 = false := list_neg hT (k := 18) (by decide)
      have BW := S.before NL
      refine step_val (v := .slice (some ⟨pb, po, none⟩) n Pc) (by simp only [execOp, e1, y1]; go_simp) (hK _ _ ?_)
      rw [e2]
      exact ⟨S.off.put (by decide) _, fun _ => S.before NL, fun g => absurd g (by simp [NL]), fun g => by rw [eval_put_ne _ _ _ _ (by decide)]; exact S.t0 (by simpa using g), fun g => by rw [eval_put_ne _ _ _ _ (by decide)]; exact S.t1 (by simpa using g), fun g => by rw [eval_put_ne _ _ _ _ (by decide)]; exact S.t2 (by simpa using g), fun g => by rw [eval_put_ne _ _ _ _ (by decide)]; exact S.t3 (by simpa using g), fun g => by rw [eval_put_ne _ _ _ _ (by decide)]; exact S.t4 (by simpa using g), fun g => by rw [eval_put_ne _ _ _ _ (by decide)]; exact S.t5 (by simpa using g), fun _ => (eval_put _ _ _ (by omega)).trans rfl, fun g => by rw [eval_put_ne _ _ _ _ (by decide)]; exact S.t7 (by simpa using g), fun g => by rw [eval_put_ne _ _ _ _ (by decide)]; exact S.t8 (by simpa using g), fun g => by rw [eval_put_ne _ _ _ _ (by decide)]; exact S.t9 (by simpa using g), fun g => by rw [eval_put_ne _ _ _ _ (by decide)]; exact S.t10 (by simpa using g), fun g => by rw [eval_put_ne _ _ _ _ (by decide)]; exact S.t11 (by simpa using g), fun g => by rw [eval_put_ne _ _ _ _ (by decide)]; exact S.t12 (by simpa using g), fun g => by rw [eval_put_ne _ _ _ _ (by decide)]; exact S.t13 (by simpa using g), fun g => by rw [eval_put_ne _ _ _ _ (by decide)]; exact S.t14 (by simpa using g), fun g => by rw [eval_put_ne _ _ _ _ (by decide)]; exact S.t15 (by simpa using g), fun g => by rw [eval_put_ne _ _ _ _ (by decide)]; exact S.t16 (by simpa using g), fun g => by rw [eval_put_ne _ _ _ _ (by decide)]; exact S.t17 (by simpa using g)⟩
    | 7, _, ho, hsi, hT =>
      obtain ⟨e1, e2⟩ := pick_of h7 ho
      have NL : s 18 = false := list_neg hT (k := 18) (by decide)
      have BW := S.before NL
      refine step_val (v := .int .i64 (k : Nat)) (by simp only [execOp, e1, y14]; go_simp) (hK _ _ ?_)
      rw [e2]
      exact ⟨S.off.put (by decide) _, fun _ => S.before NL, fun g => absurd g (by simp [NL]), fun g => by rw [eval_put_ne _ _ _ _ (by decide)]; exact S.t0 (by simpa using g), fun g => by rw [eval_put_ne _ _ _ _ (by decide)]; exact S.t1 (by simpa using g), fun g => by rw [eval_put_ne _ _ _ _ (by decide)]; exact S.t2 (by simpa using g), fun g => by rw [eval_put_ne _ _ _ _ (by decide)]; exact S.t3 (by simpa using g), fun g => by rw [eval_put_ne _ _ _ _ (by decide)]; exact S.t4 (by simpa using g), fun g => by rw [eval_put_ne _ _ _ _ (by decide)]; exact S.t5 (by simpa using g), fun g => by rw [eval_put_ne _ _ _ _ (by decide)]; exact S.t6 (by simpa using g), fun _ => (eval_put _ _ _ (by omega)).trans rfl, fun g => by rw [eval_put_ne _ _ _ _ (by decide)]; exact S.t8 (by simpa using g), fun g => by rw [eval_put_ne _ _ _ _ (by decide)]; exact S.t9 (by simpa using g), fun g => by rw [eval_put_ne _ _ _ _ (by decide)]; exact S.t10 (by simpa using g), fun g => by rw [eval_put_ne _ _ _ _ (by decide)]; exact S.t11 (by simpa using g), fun g => by rw [eval_put_ne _ _ _ _ (by decide)]; exact S.t12 (by simpa using g), fun g => by rw [eval_put_ne _ _ _ _ (by decide)]; exact S.t13 (by simpa using g), fun g => by rw [eval_put_ne _ _ _ _ (by decide)]; exact S.t14 (by simpa using g), fun g => by rw [eval_put_ne _ _ _ _ (by decide)]; exact S.t15 (by simpa using g), fun g => by rw [eval_put_ne _ _ _ _ (by decide)]; exact S.t16 (by simpa using g), fun g => by rw [eval_put_ne _ _ _ _ (by decide)]; exact S.t17 (by simpa using g)⟩
    | 8, _, ho, hsi, hT =>
      obtain ⟨e1, e2⟩ := pick_of h8 ho
      have D6 : s 6 = true := list_pos hT (d := 6) (by decide)
      have D7 : s 7 = true := list_pos hT (d := 7) (by decide)
      have NL : s 18 = false := list_neg hT (k := 18) (by decide)
      have BW := S.before NL
      refine step_val (v := .pointer (some ⟨pb, po + k, none⟩)) (by simp only [execOp, e1, S.t6 D6, S.t7 D7]; go_simp) (hK _ _ ?_)
      rw [e2]
      exact ⟨S.off.put (by decide) _, fun _ => S.before NL, fun g => absurd g (by simp [NL]), fun g => by rw [eval_put_ne _ _ _ _ (by decide)]; exact S.t0 (by simpa using g), fun g => by rw [eval_put_ne _ _ _ _ (by decide)]; exact S.t1 (by simpa using g), fun g => by rw [eval_put_ne _ _ _ _ (by decide)]; exact S.t2 (by simpa using g), fun g => by rw [eval_put_ne _ _ _ _ (by decide)]; exact S.t3 (by simpa using g), fun g => by rw [eval_put_ne _ _ _ _ (by decide)]; exact S.t4 (by simpa using g), fun g => by rw [eval_put_ne _ _ _ _ (by decide)]; exact S.t5 (by simpa using g), fun g => by rw [eval_put_ne _ _ _ _ (by decide)]; exact S.t6 (by simpa using g), fun g => by rw [eval_put_ne _ _ _ _ (by decide)]; exact S.t7 (by simpa using g), fun _ => (eval_put _ _ _ (by omega)).trans rfl, fun g => by rw [eval_put_ne _ _ _ _ (by decide)]; exact S.t9 (by simpa using g), fun g => by rw [eval_put_ne _ _ _ _ (by decide)]; exact S.t10 (by simpa using g), fun g => by rw [eval_put_ne _ _ _ _ (by decide)]; exact S.t11 (by simpa using g), fun g => by rw [eval_put_ne _ _ _ _ (by decide)]; exact S.t12 (by simpa using g), fun g => by rw [eval_put_ne _ _ _ _ (by decide)]; exact S.t13 (by simpa using g), fun g => by rw [eval_put_ne _ _ _ _ (by decide)]; exact S.t14 (by simpa using g), fun g => by rw [eval_put_ne _ _ _ _ (by decide)]; exact S.t15 (by simpa using g), fun g => by rw [eval_put_ne _ _ _ _ (by decide)]; exact S.t16 (by simpa using g), fun g => by rw [eval_put_ne _ _ _ _ (by decide)]; exact S.t17 (by simpa using g)⟩
    | 9, _, ho, hsi, hT =>
      obtain ⟨e1, e2⟩ := pick_of h9 ho
      have D8 : s 8 = true := list_pos hT (d := 8) (by decide)
      have NL : s 18 = false := list_neg hT (k := 18) (by decide)
      have BW := S.before NL
      have cl := (BW.cell (p := ⟨pb, po + k, none⟩) hpl).trans hp
      refine step_val (v := .int .i64 (q : Nat)) (by simp only [execOp, e1, S.t8 D8]; go_simp) (hK _ _ ?_)
      rw [e2]
      exact ⟨S.off.put (by decide) _, fun _ => S.before NL, fun g => absurd g (by simp [NL]), fun g => by rw [eval_put_ne _ _ _ _ (by decide)]; exact S.t0 (by simpa using g), fun g => by rw [eval_put_ne _ _ _ _ (by decide)]; exact S.t1 (by simpa using g), fun g => by rw [eval_put_ne _ _ _ _ (by decide)]; exact S.t2 (by simpa using g), fun g => by rw [eval_put_ne _ _ _ _ (by decide)]; exact S.t3 (by simpa using g), fun g => by rw [eval_put_ne _ _ _ _ (by decide)]; exact S.t4 (by simpa using g), fun g => by rw [eval_put_ne _ _ _ _ (by decide)]; exact S.t5 (by simpa using g), fun g => by rw [eval_put_ne _ _ _ _ (by decide)]; exact S.t6 (by simpa using g), fun g => by rw [eval_put_ne _ _ _ _ (by decide)]; exact S.t7 (by simpa using g), fun g => by rw [eval_put_ne _ _ _ _ (by decide)]; exact S.t8 (by simpa using g), fun _ => (eval_put _ _ _ (by omega)).trans rfl, fun g => by rw [eval_put_ne _ _ _ _ (by decide)]; exact S.t10 (by simpa using g), fun g => by rw [eval_put_ne _ _ _ _ (by decide)]; exact S.t11 (by simpa using g), fun g => by rw [eval_put_ne _ _ _ _ (by decide)]; exact S.t12 (by simpa using g), fun g => by rw [eval_put_ne _ _ _ _ (by decide)]; exact S.t13 (by simpa using g), fun g => by rw [eval_put_ne _ _ _ _ (by decide)]; exact S.t14 (by simpa using g), fun g => by rw [eval_put_ne _ _ _ _ (by decide)]; exact S.t15 (by simpa using g), fun g => by rw [eval_put_ne _ _ _ _ (by decide)]; exact S.t16 (by simpa using g), fun g => by rw [eval_put_ne _ _ _ _ (by decide)]; exact S.t17 (by simpa using g)⟩
    | 10, _, ho, hsi, hT =>
      obtain ⟨e1, e2⟩ := pick_of h10 ho
      have D5 : s 5 = true := list_pos hT (d := 5) (by decide)
      have D9 : s 9 = true := list_pos hT (d := 9) (by decide)
      have NL : s 18 = false := list_neg hT (k := 18) (by decide)
      have BW := S.before NL
      refine step_val (v := .pointer (some ⟨ob, q, none⟩)) (by simp only [execOp, e1, S.t5 D5, S.t9 D9]; go_simp) (hK _ _ ?_)
      rw [e2]
      exact ⟨S.off.put (by decide) _, fun _ => S.before NL, fun g => absurd g (by simp [NL]), fun g => by rw [eval_put_ne _ _ _ _ (by decide)]; exact S.t0 (by simpa using g), fun g => by rw [eval_put_ne _ _ _ _ (by decide)]; exact S.t1 (by simpa using g), fun g => by rw [eval_put_ne _ _ _ _ (by decide)]; exact S.t2 (by simpa using g), fun g => by rw [eval_put_ne _ _ _ _ (by decide)]; exact S.t3 (by simpa using g), fun g => by rw [eval_put_ne _ _ _ _ (by decide)]; exact S.t4 (by simpa using g), fun g => by rw [eval_put_ne _ _ _ _ (by decide)]; exact S.t5 (by simpa using g), fun g => by rw [eval_put_ne _ _ _ _ (by decide)]; exact S.t6 (by simpa using g), fun g => by rw [eval_put_ne _ _ _ _ (by decide)]; exact S.t7 (by simpa using g), fun g => by rw [eval_put_ne _ _ _ _ (by decide)]; exact S.t8 (by simpa using g), fun g => by rw [eval_put_ne _ _ _ _ (by decide)]; exact S.t9 (by simpa using g), fun _ => (eval_put _ _ _ (by omega)).trans rfl, fun g => by rw [eval_put_ne _ _ _ _ (by decide)]; exact S.t11 (by simpa using g), fun g => by rw [eval_put_ne _ _ _ _ (by decide)]; exact S.t12 (by simpa using g), fun g => by rw [eval_put_ne _ _ _ _ (by decide)]; exact S.t13 (by simpa using g), fun g => by rw [eval_put_ne _ _ _ _ (by decide)]; exact S.t14 (by simpa using g), fun g => by rw [eval_put_ne _ _ _ _ (by decide)]; exact S.t15 (by simpa using g), fun g => by rw [eval_put_ne _ _ _ _ (by decide)]; exact S.t16 (by simpa using g), fun g => by rw [eval_put_ne _ _ _ _ (by decide)]; exact S.t17 (by simpa using g)⟩
    | 11, _, ho, hsi, hT =>
      obtain ⟨e1, e2⟩ := pick_of h11 ho
      have D10 : s 10 = true := list_pos hT (d := 10) (by decide)
      have NL : s 18 = false := list_neg hT (k := 18) (by decide)
      have BW := S.before NL
      have cl := (hO.below BW).cell hq
      rw [hx] at cl
      refine step_val (v := .int .u8 (x.toNat : Nat)) (by simp only [execOp, e1, S.t10 D10]; go_simp) (hK _ _ ?_)
      rw [e2]
      exact ⟨S.off.put (by decide) _, fun _ => S.before NL, fun g => absurd g (by simp [NL]), fun g => by rw [eval_put_ne _ _ _ _ (by decide)]; exact S.t0 (by simpa using g), fun g => by rw [eval_put_ne _ _ _ _ (by decide)]; exact S.t1 (by simpa using g), fun g => by rw [eval_put_ne _ _ _ _ (by decide)]; exact S.t2 (by simpa using g), fun g => by rw [eval_put_ne _ _ _ _ (by decide)]; exact S.t3 (by simpa using g), fun g => by rw [eval_put_ne _ _ _ _ (by decide)]; exact S.t4 (by simpa using g), fun g => by rw [eval_put_ne _ _ _ _ (by decide)]; exact S.t5 (by simpa using g), fun g => by rw [eval_put_ne _ _ _ _ (by decide)]; exact S.t6 (by simpa using g), fun g => by rw [eval_put_ne _ _ _ _ (by decide)]; exact S.t7 (by simpa using g), fun g => by rw [eval_put_ne _ _ _ _ (by decide)]; exact S.t8 (by simpa using g), fun g => by rw [eval_put_ne _ _ _ _ (by decide)]; exact S.t9 (by simpa using g), fun g => by rw [eval_put_ne _ _ _ _ (by decide)]; exact S.t10 (by simpa using g), fun _ => (eval_put _ _ _ (by omega)).trans rfl, fun g => by rw [eval_put_ne _ _ _ _ (by decide)]; exact S.t12 (by simpa using g), fun g => by rw [eval_put_ne _ _ _ _ (by decide)]; exact S.t13 (by simpa using g), fun g => by rw [eval_put_ne _ _ _ _ (by decide)]; exact S.t14 (by simpa using g), fun g => by rw [eval_put_ne _ _ _ _ (by decide)]; exact S.t15 (by simpa using g), fun g => by rw [eval_put_ne _ _ _ _ (by decide)]; exact S.t16 (by simpa using g), fun g => by rw [eval_put_ne _ _ _ _ (by decide)]; exact S.t17 (by simpa using g)⟩
    | 12, _, ho, hsi, hT =>
      obtain ⟨e1, e2⟩ := pick_of h12 ho
      have NL : s 18 = false := list_neg hT (k := 18) (by decide)
      have BW := S.before NL
      refine step_val (v := .slice (some ⟨yb, 0, none⟩) n Yc) (by simp only [execOp, e1, y11]; go_simp) (hK _ _ ?_)
      rw [e2]
      exact ⟨S.off.put (by decide) _, fun _ => S.before NL, fun g => absurd g (by simp [NL]), fun g => by rw [eval_put_ne _ _ _ _ (by decide)]; exact S.t0 (by simpa using g), fun g => by rw [eval_put_ne _ _ _ _ (by decide)]; exact S.t1 (by simpa using g), fun g => by rw [eval_put_ne _ _ _ _ (by decide)]; exact S.t2 (by simpa using g), fun g => by rw [eval_put_ne _ _ _ _ (by decide)]; exact S.t3 (by simpa using g), fun g => by rw [eval_put_ne _ _ _ _ (by decide)]; exact S.t4 (by simpa using g), fun g => by rw [eval_put_ne _ _ _ _ (by decide)]; exact S.t5 (by simpa using g), fun g => by rw [eval_put_ne _ _ _ _ (by decide)]; exact S.t6 (by simpa using g), fun g => by rw [eval_put_ne _ _ _ _ (by decide)]; exact S.t7 (by simpa using g), fun g => by rw [eval_put_ne _ _ _ _ (by decide)]; exact S.t8 (by simpa using g), fun g => by rw [eval_put_ne _ _ _ _ (by decide)]; exact S.t9 (by simpa using g), fun g => by rw [eval_put_ne _ _ _ _ (by decide)]; exact S.t10 (by simpa using g), fun g => by rw [eval_put_ne _ _ _ _ (by decide)]; exact S.t11 (by simpa using g), fun _ => (eval_put _ _ _ (by omega)).trans rfl, fun g => by rw [eval_put_ne _ _ _ _ (by decide)]; exact S.t13 (by simpa using g), fun g => by rw [eval_put_ne _ _ _ _ (by decide)]; exact S.t14 (by simpa using g), fun g => by rw [eval_put_ne _ _ _ _ (by decide)]; exact S.t15 (by simpa using g), fun g => by rw [eval_put_ne _ _ _ _ (by decide)]; exact S.t16 (by simpa using g), fun g => by rw [eval_put_ne _ _ _ _ (by decide)]; exact S.t17 (by simpa using g)⟩
    | 13, _, ho, hsi, hT =>
      obtain ⟨e1, e2⟩ := pick_of h13 ho
      have NL : s 18 = false := list_neg hT (k := 18) (by decide)
      have BW := S.before NL
      refine step_val (v := .int .i64 (k : Nat)) (by simp only [execOp, e1, y14]; go_simp) (hK _ _ ?_)
      rw [e2]
      exact ⟨S.off.put (by decide) _, fun _ => S.before NL, fun g => absurd g (by simp [NL]), fun g => by rw [eval_put_ne _ _ _ _ (by decide)]; exact S.t0 (by simpa using g), fun g => by rw [eval_put_ne _ _ _ _ (by decide)]; exact S.t1 (by simpa using g), fun g => by rw [eval_put_ne _ _ _ _ (by decide)]; exact S.t2 (by simpa using g), fun g => by rw [eval_put_ne _ _ _ _ (by decide)]; exact S.t3 (by simpa using g), fun g => by rw [eval_put_ne _ _ _ _ (by decide)]; exact S.t4 (by simpa using g), fun g => by rw [eval_put_ne _ _ _ _ (by decide)]; exact S.t5 (by simpa using g), fun g => by rw [eval_put_ne _ _ _ _ (by decide)]; exact S.t6 (by simpa using g), fun g => by rw [eval_put_ne _ _ _ _ (by decide)]; exact S.t7 (by simpa using g), fun g => by rw [eval_put_ne _ _ _ _ (by decide)]; exact S.t8 (by simpa using g), fun g => by rw [eval_put_ne _ _ _ _ (by decide)]; exact S.t9 (by simpa using g), fun g => by rw [eval_put_ne _ _ _ _ (by decide)]; exact S.t10 (by simpa using g), fun g => by rw [eval_put_ne _ _ _ _ (by decide)]; exact S.t11 (by simpa using g), fun g => by rw [eval_put_ne _ _ _ _ (by decide)]; exact S.t12 (by simpa using g), fun _ => (eval_put _ _ _ (by omega)).trans rfl, fun g => by rw [eval_put_ne _ _ _ _ (by decide)]; exact S.t14 (by simpa using g), fun g => by rw [eval_put_ne _ _ _ _ (by decide)]; exact S.t15 (by simpa using g), fun g => by rw [eval_put_ne _ _ _ _ (by decide)]; exact S.t16 (by simpa using g), fun g => by rw [eval_put_ne _ _ _ _ (by decide)]; exact S.t17 (by simpa using g)⟩
    | 14, _, ho, hsi, hT =>
      obtain ⟨e1, e2⟩ := pick_of h14 ho
      have D12 : s 12 = true := list_pos hT (d := 12) (by decide)
      have D13 : s 13 = true := list_pos hT (d := 13) (by decide)
      have NL : s 18 = false := list_neg hT (k := 18) (by decide)
      have BW := S.before NL
      refine step_val (v := .pointer (some ⟨yb, k, none⟩)) (by simp only [execOp, e1, S.t12 D12, S.t13 D13]; go_simp) (hK _ _ ?_)
      rw [e2]
      exact ⟨S.off.put (by decide) _, fun _ => S.before NL, fun g => absurd g (by simp [NL]), fun g => by rw [eval_put_ne _ _ _ _ (by decide)]; exact S.t0 (by simpa using g), fun g => by rw [eval_put_ne _ _ _ _ (by decide)]; exact S.t1 (by simpa using g), fun g => by rw [eval_put_ne _ _ _ _ (by decide)]; exact S.t2 (by simpa using g), fun g => by rw [eval_put_ne _ _ _ _ (by decide)]; exact S.t3 (by simpa using g), fun g => by rw [eval_put_ne _ _ _ _ (by decide)]; exact S.t4 (by simpa using g), fun g => by rw [eval_put_ne _ _ _ _ (by decide)]; exact S.t5 (by simpa using g), fun g => by rw [eval_put_ne _ _ _ _ (by decide)]; exact S.t6 (by simpa using g), fun g => by rw [eval_put_ne _ _ _ _ (by decide)]; exact S.t7 (by simpa using g), fun g => by rw [eval_put_ne _ _ _ _ (by decide)]; exact S.t8 (by simpa using g), fun g => by rw [eval_put_ne _ _ _ _ (by decide)]; exact S.t9 (by simpa using g), fun g => by rw [eval_put_ne _ _ _ _ (by decide)]; exact S.t10 (by simpa using g), fun g => by rw [eval_put_ne _ _ _ _ (by decide)]; exact S.t11 (by simpa using g), fun g => by rw [eval_put_ne _ _ _ _ (by decide)]; exact S.t12 (by simpa using g), fun g => by rw [eval_put_ne _ _ _ _ (by decide)]; exact S.t13 (by simpa using g), fun _ => (eval_put _ _ _ (by omega)).trans rfl, fun g => by rw [eval_put_ne _ _ _ _ (by decide)]; exact S.t15 (by simpa using g), fun g => by rw [eval_put_ne _ _ _ _ (by decide)]; exact S.t16 (by simpa using g), fun g => by rw [eval_put_ne _ _ _ _ (by decide)]; exact S.t17 (by simpa using g)⟩
    | 15, _, ho, hsi, hT =>
      obtain ⟨e1, e2⟩ := pick_of h15 ho
      have D14 : s 14 = true := list_pos hT (d := 14) (by decide)
      have NL : s 18 = false := list_neg hT (k := 18) (by decide)
      have BW := S.before NL
      have cl := (BW.cell (p := ⟨yb, k, none⟩) hyl).trans hy
      refine step_val (v := .int .u8 (y.toNat : Nat)) (by simp only [execOp, e1, S.t14 D14]; go_simp) (hK _ _ ?_)
      rw [e2]
      exact ⟨S.off.put (by decide) _, fun _ => S.before NL, fun g => absurd g (by simp [NL]), fun g => by rw [eval_put_ne _ _ _ _ (by decide)]; exact S.t0 (by simpa using g), fun g => by rw [eval_put_ne _ _ _ _ (by decide)]; exact S.t1 (by simpa using g), fun g => by rw [eval_put_ne _ _ _ _ (by decide)]; exact S.t2 (by simpa using g), fun g => by rw [eval_put_ne _ _ _ _ (by decide)]; exact S.t3 (by simpa using g), fun g => by rw [eval_put_ne _ _ _ _ (by decide)]; exact S.t4 (by simpa using g), fun g => by rw [eval_put_ne _ _ _ _ (by decide)]; exact S.t5 (by simpa using g), fun g => by rw [eval_put_ne _ _ _ _ (by decide)]; exact S.t6 (by simpa using g), fun g => by rw [eval_put_ne _ _ _ _ (by decide)]; exact S.t7 (by simpa using g), fun g => by rw [eval_put_ne _ _ _ _ (by decide)]; exact S.t8 (by simpa using g), fun g => by rw [eval_put_ne _ _ _ _ (by decide)]; exact S.t9 (by simpa using g), fun g => by rw [eval_put_ne _ _ _ _ (by decide)]; exact S.t10 (by simpa using g), fun g => by rw [eval_put_ne _ _ _ _ (by decide)]; exact S.t11 (by simpa using g), fun g => by rw [eval_put_ne _ _ _ _ (by decide)]; exact S.t12 (by simpa using g), fun g => by rw [eval_put_ne _ _ _ _ (by decide)]; exact S.t13 (by simpa using g), fun g => by rw [eval_put_ne _ _ _ _ (by decide)]; exact S.t14 (by simpa using g), fun _ => (eval_put _ _ _ (by omega)).trans rfl, fun g => by rw [eval_put_ne _ _ _ _ (by decide)]; exact S.t16 (by simpa using g), fun g => by rw [eval_put_ne _ _ _ _ (by decide)]; exact S.t17 (by simpa using g)⟩
    | 16, _, ho, hsi, hT =>
      obtain ⟨e1, e2⟩ := pick_of h16 ho
      have D11 : s 11 = true := list_pos hT (d := 11) (by decide)
      have D15 : s 15 = true := list_pos hT (d := 15) (by decide)
      have NL : s 18 = false := list_neg hT (k := 18) (by decide)
      have BW := S.before NL
      have xr := xor8 x y
      refine step_val (v := .int .u8 ((x ^^^ y).toNat : Nat)) (by simp only [execOp, e1, S.t11 D11, S.t15 D15]; go_simp) (hK _ _ ?_)
      rw [e2]
      exact ⟨S.off.put (by decide) _, fun _ => S.before NL, fun g => absurd g (by simp [NL]), fun g => by rw [eval_put_ne _ _ _ _ (by decide)]; exact S.t0 (by simpa using g), fun g => by rw [eval_put_ne _ _ _ _ (by decide)]; exact S.t1 (by simpa using g), fun g => by rw [eval_put_ne _ _ _ _ (by decide)]; exact S.t2 (by simpa using g), fun g => by rw [eval_put_ne _ _ _ _ (by decide)]; exact S.t3 (by simpa using g), fun g => by rw [eval_put_ne _ _ _ _ (by decide)]; exact S.t4 (by simpa using g), fun g => by rw [eval_put_ne _ _ _ _ (by decide)]; exact S.t5 (by simpa using g), fun g => by rw [eval_put_ne _ _ _ _ (by decide)]; exact S.t6 (by simpa using g), fun g => by rw [eval_put_ne _ _ _ _ (by decide)]; exact S.t7 (by simpa using g), fun g => by rw [eval_put_ne _ _ _ _ (by decide)]; exact S.t8 (by simpa using g), fun g => by rw [eval_put_ne _ _ _ _ (by decide)]; exact S.t9 (by simpa using g), fun g => by rw [eval_put_ne _ _ _ _ (by decide)]; exact S.t10 (by simpa using g), fun g => by rw [eval_put_ne _ _ _ _ (by decide)]; exact S.t11 (by simpa using g), fun g => by rw [eval_put_ne _ _ _ _ (by decide)]; exact S.t12 (by simpa using g), fun g => by rw [eval_put_ne _ _ _ _ (by decide)]; exact S.t13 (by simpa using g), fun g => by rw [eval_put_ne _ _ _ _ (by decide)]; exact S.t14 (by simpa using g), fun g => by rw [eval_put_ne _ _ _ _ (by decide)]; exact S.t15 (by simpa using g), fun _ => (eval_put _ _ _ (by omega)).trans rfl, fun g => by rw [eval_put_ne _ _ _ _ (by decide)]; exact S.t17 (by simpa using g)⟩
    | 17, _, ho, hsi, hT =>
      obtain ⟨e1, e2⟩ := pick_of h17 ho
      have D0 : s 0 = true := list_pos hT (d := 0) (by decide)
      have D4 : s 4 = true := list_pos hT (d := 4) (by decide)
      have NL : s 18 = false := list_neg hT (k := 18) (by decide)
      have BW := S.before NL
      refine step_val (v := .pointer (some ⟨ob, q, none⟩)) (by simp only [execOp, e1, S.t0 D0, S.t4 D4]; go_simp) (hK _ _ ?_)
      rw [e2]
      exact ⟨S.off.put (by decide) _, fun _ => S.before NL, fun g => absurd g (by simp [NL]), fun g => by rw [eval_put_ne _ _ _ _ (by decide)]; exact S.t0 (by simpa using g), fun g => by rw [eval_put_ne _ _ _ _ (by decide)]; exact S.t1 (by simpa using g), fun g => by rw [eval_put_ne _ _ _ _ (by decide)]; exact S.t2 (by simpa using g), fun g => by rw [eval_put_ne _ _ _ _ (by decide)]; exact S.t3 (by simpa using g), fun g => by rw [eval_put_ne _ _ _ _ (by decide)]; exact S.t4 (by simpa using g), fun g => by rw [eval_put_ne _ _ _ _ (by decide)]; exact S.t5 (by simpa using g), fun g => by rw [eval_put_ne _ _ _ _ (by decide)]; exact S.t6 (by simpa using g), fun g => by rw [eval_put_ne _ _ _ _ (by decide)]; exact S.t7 (by simpa using g), fun g => by rw [eval_put_ne _ _ _ _ (by decide)]; exact S.t8 (by simpa using g), fun g => by rw [eval_put_ne _ _ _ _ (by decide)]; exact S.t9 (by simpa using g), fun g => by rw [eval_put_ne _ _ _ _ (by decide)]; exact S.t10 (by simpa using g), fun g => by rw [eval_put_ne _ _ _ _ (by decide)]; exact S.t11 (by simpa using g), fun g => by rw [eval_put_ne _ _ _ _ (by decide)]; exact S.t12 (by simpa using g), fun g => by rw [eval_put_ne _ _ _ _ (by decide)]; exact S.t13 (by simpa using g), fun g => by rw [eval_put_ne _ _ _ _ (by decide)]; exact S.t14 (by simpa using g), fun g => by rw [eval_put_ne _ _ _ _ (by decide)]; exact S.t15 (by simpa using g), fun g => by rw [eval_put_ne _ _ _ _ (by decide)]; exact S.t16 (by simpa using g), fun _ => (eval_put _ _ _ (by omega)).trans rfl⟩
    | 18, _, ho, hsi, hT =>
      obtain ⟨e1, e2⟩ := pick_of h18 ho
      have D0 : s 0 = true := list_pos hT (d := 0) (by decide)
      have D1 : s 1 = true := list_pos hT (d := 1) (by decide)
      have D2 : s 2 = true := list_pos hT (d := 2) (by decide)
      have D3 : s 3 = true := list_pos hT (d := 3) (by decide)
      have D4 : s 4 = true := list_pos hT (d := 4) (by decide)
      have D5 : s 5 = true := list_pos hT (d := 5) (by decide)
      have D6 : s 6 = true := list_pos hT (d := 6) (by decide)
      have D7 : s 7 = true := list_pos hT (d := 7) (by decide)
      have D8 : s 8 = true := list_pos hT (d := 8) (by decide)
      have D9 : s 9 = true := list_pos hT (d := 9) (by decide)
      have D10 : s 10 = true := list_pos hT (d := 10) (by decide)
      have D11 : s 11 = true := list_pos hT (d := 11) (by decide)
      have D12 : s 12 = true := list_pos hT (d := 12) (by decide)
      have D13 : s 13 = true := list_pos hT (d := 13) (by decide)
      have D14 : s 14 = true := list_pos hT (d := 14) (by decide)
      have D15 : s 15 = true := list_pos hT (d := 15) (by decide)
      have D16 : s 16 = true := list_pos hT (d := 16) (by decide)
      have D17 : s 17 = true := list_pos hT (d := 17) (by decide)
      have BW := S.before hsi
      have cl := (hO.below BW).cell hq
      have fz := (hO.below BW).frozen hq
      refine step_to (w2 := w'.setCell ⟨ob, q, none⟩ (.int .u8 ((x ^^^ y).toNat : Nat))) (by simp only [execOp, e1, S.t17 D17, S.t16 D16]; go_simp) (hK _ _ ?_)
      rw [e2]
      exact ⟨S.off.put_none _, fun g => absurd g (by simp), fun _ => ⟨w', BW, rfl⟩, fun g => S.t0 (by simpa using g), fun g => S.t1 (by simpa using g), fun g => S.t2 (by simpa using g), fun g => S.t3 (by simpa using g), fun g => S.t4 (by simpa using g), fun g => S.t5 (by simpa using g), fun g => S.t6 (by simpa using g), fun g => S.t7 (by simpa using g), fun g => S.t8 (by simpa using g), fun g => S.t9 (by simpa using g), fun g => S.t10 (by simpa using g), fun g => S.t11 (by simpa using g), fun g => S.t12 (by simpa using g), fun g => S.t13 (by simpa using g), fun g => S.t14 (by simpa using g), fun g => S.t15 (by simpa using g), fun g => S.t16 (by simpa using g), fun g => S.t17 (by simpa using g)⟩
    | _ + 19, il, _, _, _ => exact absurd il (by omega)
  · intro s a w' S hall
    have a0 := hall 0 (by omega)
    have a1 := hall 1 (by omega)
    have a2 := hall 2 (by omega)
    have a3 := hall 3 (by omega)
    have a4 := hall 4 (by omega)
    have a5 := hall 5 (by omega)
    have a6 := hall 6 (by omega)
    have a7 := hall 7 (by omega)
    have a8 := hall 8 (by omega)
    have a9 := hall 9 (by omega)
    have a10 := hall 10 (by omega)
    have a11 := hall 11 (by omega)
    have a12 := hall 12 (by omega)
    have a13 := hall 13 (by omega)
    have a14 := hall 14 (by omega)
    have a15 := hall 15 (by omega)
    have a16 := hall 16 (by omega)
    have a17 := hall 17 (by omega)
    have a18 := hall 18 (by omega)
    have e := off_norm _ (by intro d hd; simp at hd; omega) S.off
    simp only [List.foldl, S.t0 a0, S.t1 a1, S.t2 a2, S.t3 a3, S.t4 a4, S.t5 a5, S.t6 a6, S.t7 a7, S.t8 a8, S.t9 a9, S.t10 a10, S.t11 a11, S.t12 a12, S.t13 a13, S.t14 a14, S.t15 a15, S.t16 a16, S.t17 a17] at e
    obtain ⟨w1, BW, rfl⟩ := S.behind a18
    rw [e]
    exact h _ BW
structure MendEnd (ob L C : Nat) (g : Nat → BitVec 8) (A : Act) (w0 : World) (s : Nat → Bool) (a : Act) (w : World) : Prop where
  off : Off [84, 85, 86, 87, 88, 4, 5] a A
  before : Below w0.heap.size w0 w
  t0 : s 0 = true → a.eval (.tmp 84) = .slice (some ⟨ob, 0, none⟩) L C
  t1 : s 1 = true → a.eval (.tmp 85) = .string ⟨(Gal.coefs g L).toArray⟩
  t2 : s 2 = true → a.eval (.tmp 86) = .slice (some ⟨ob, 0, none⟩) L C
  t3 : s 3 = true → a.eval (.tmp 87) = .string ⟨(Gal.coefs g L).toArray⟩
  t4 : s 4 = true → a.eval (.tmp 88) = .bool (decide (Blk.Code (Gal.coefs g L)))
  t5 : s 5 = true → a.eval (.tmp 4) = .string ⟨(Gal.coefs g L).toArray⟩
  t6 : s 6 = true → a.eval (.tmp 5) = .bool (decide (Blk.Code (Gal.coefs g L)))
end Go.Proofs.YtlpjhmafplljaaaDoor
