/- PacketPuts: Valid and Put return what the document says. No condition. -/
import Derived.Test.YtphkaambodecdaaPkEq
import Derived.Test.YtphkaambodecdaaRowKit
import Derived.Test.YtphkaambodecdaaPkArg
import Derived.Test.YtphkaambodecdaaRegHG
import Derived.ProofKit
namespace Go.Proofs.Ytphkaambodecdaa
open Go.ChangeShapes Go.WideShapes Go.ChangeAt Go.RowKit
set_option linter.unusedVariables false

namespace packetPuts
structure PuRegion (X : Nat) (p : Pkt) (sv : ByteArray) (cd : Int) (A : Act) (w0 : World) (s : Nat → Bool) (a : Act) (w : World) : Prop where
  off : Off [23, 24, 25, 26, 27, 28, 29, 30, 31, 32, 33, 34, 35, 36, 37] a A
  before : Below w0.heap.size w0 w
  t0 : s 0 = true → a.eval (.tmp 23) = .string sv
  t1 : s 1 = true → a.eval (.tmp 24) = .string sv
  t2 : s 2 = true → a.eval (.tmp 25) = .bool true
  t3 : s 3 = true → a.eval (.tmp 26) = .bool true
  t4 : s 4 = true → a.eval (.tmp 27) = .int .i64 cd
  t5 : s 5 = true → a.eval (.tmp 28) = .int .i64 cd
  t6 : s 6 = true → a.eval (.tmp 29) = .bool true
  t7 : s 7 = true → a.eval (.tmp 30) = .bool true
  t8 : s 8 = true → a.eval (.tmp 31) = .bool true
  t9 : s 9 = true → a.eval (.tmp 32) = .agg #[.bool p.cmd, .int .i64 p.ap, .int .i64 p.fl, .int .i64 p.ct, .string p.da]
  t10 : s 10 = true → a.eval (.tmp 33) = .bool (decide (Pk.Ok p))
  t11 : s 11 = true → a.eval (.tmp 34) = .agg #[.bool p.cmd, .int .i64 p.ap, .int .i64 p.fl, .int .i64 p.ct, .string p.da]
  t12 : s 12 = true → a.eval (.tmp 35) = .bool (decide (Pk.Ok p))
  t13 : s 13 = true → a.eval (.tmp 36) = .bool true
  t14 : s 14 = true → a.eval (.tmp 37) = .bool true
set_option maxHeartbeats 2000000 in
set_option maxRecDepth 100000 in
theorem puRegion {id : Nat} {l : List Oper} {A : Act} {w : World} {Q : Exit → Act → World → Prop} (X : Nat) (p : Pkt) (sv : ByteArray) (cd : Int)
    (lX : X < w.heap.size) (hml : p.da.size ≤ maxLen) (hrl : p.da.size ≤ 1000000000)
    (c0 : w.cell? ⟨X, 0, none⟩ = some (.bool p.cmd))
    (c1 : w.cell? ⟨X, 1, none⟩ = some (.int .i64 p.ap))
    (c2 : w.cell? ⟨X, 2, none⟩ = some (.int .i64 p.fl))
    (c3 : w.cell? ⟨X, 3, none⟩ = some (.int .i64 p.ct))
    (c4 : w.cell? ⟨X, 4, none⟩ = some (.string p.da))
    (hB : tableHG l.toArray 15 (fun i => match i with | 0 => [] | 1 => [] | 2 => [0, 1] | 3 => [2] | 4 => [3] | 5 => [3] | 6 => [3, 4, 5] | 7 => [3, 6] | 8 => [7] | 9 => [8] | 10 => [8, 9] | 11 => [8] | 12 => [8, 11] | 13 => [8, 10, 12] | 14 => [8, 13] | _ => []) (fun _ => []) = true)
    (h0 : pick l 0 = some (.move (.tmp 3), some 23))
    (h1 : pick l 1 = some (.move (.tmp 5), some 24))
    (h2 : pick l 2 = some (.binOp .eql 9 (.tmp 23) (.tmp 24) 9, some 25))
    (h3 : pick l 3 = some (.move (.tmp 25), some 26))
    (h4 : pick l 4 = some (.move (.tmp 4), some 27))
    (h5 : pick l 5 = some (.move (.tmp 6), some 28))
    (h6 : pick l 6 = some (.binOp .eql 25 (.tmp 27) (.tmp 28) 25, some 29))
    (h7 : pick l 7 = some (.pick (.tmp 26) (.tmp 29) (.const (.bool false)), some 30))
    (h8 : pick l 8 = some (.move (.tmp 30), some 31))
    (h9 : pick l 9 = some (.load 23 (.tmp 1), some 32))
    (h10 : pick l 10 = some (.call { callee := .value (.func 13), args := #[.tmp 32], argTypes := #[23] }, some 33))
    (h11 : pick l 11 = some (.load 23 (.tmp 1), some 34))
    (h12 : pick l 12 = some (.call { callee := .value (.func 14), args := #[.tmp 34], argTypes := #[23] }, some 35))
    (h13 : pick l 13 = some (.binOp .eql 4 (.tmp 33) (.tmp 35) 4, some 36))
    (h14 : pick l 14 = some (.pick (.tmp 31) (.tmp 36) (.const (.bool false)), some 37))
    (gd0 : pickG l 0 = some (none))
    (gd1 : pickG l 1 = some (none))
    (gd2 : pickG l 2 = some (none))
    (gd3 : pickG l 3 = some (none))
    (gd4 : pickG l 4 = some (some (3, true)))
    (gd5 : pickG l 5 = some (some (3, true)))
    (gd6 : pickG l 6 = some (some (3, true)))
    (gd7 : pickG l 7 = some (none))
    (gd8 : pickG l 8 = some (none))
    (gd9 : pickG l 9 = some (some (8, true)))
    (gd10 : pickG l 10 = some (some (8, true)))
    (gd11 : pickG l 11 = some (some (8, true)))
    (gd12 : pickG l 12 = some (some (8, true)))
    (gd13 : pickG l 13 = some (some (8, true)))
    (gd14 : pickG l 14 = some (none))
    (hs : A.tmps.size = 38)
    (x1 : A.eval (.tmp 1) = .pointer (some ⟨X, 0, none⟩))
    (x3 : A.eval (.tmp 3) = .string sv)
    (x4 : A.eval (.tmp 4) = .int .i64 cd)
    (x5 : A.eval (.tmp 5) = .string sv)
    (x6 : A.eval (.tmp 6) = .int .i64 cd)
    (h : ∀ w1, Below w.heap.size w w1 → wpList Try.prog l.toArray Q (l.drop 15) (((((((((((((((A.put (some 23) (.string sv)).put (some 24) (.string sv)).put (some 25) (.bool true)).put (some 26) (.bool true)).put (some 27) (.int .i64 cd)).put (some 28) (.int .i64 cd)).put (some 29) (.bool true)).put (some 30) (.bool true)).put (some 31) (.bool true)).put (some 32) (.agg #[.bool p.cmd, .int .i64 p.ap, .int .i64 p.fl, .int .i64 p.ct, .string p.da])).put (some 33) (.bool (decide (Pk.Ok p)))).put (some 34) (.agg #[.bool p.cmd, .int .i64 p.ap, .int .i64 p.fl, .int .i64 p.ct, .string p.da])).put (some 35) (.bool (decide (Pk.Ok p)))).put (some 36) (.bool true)).put (some 37) (.bool true)) w1) :
    (Code.region id l.toArray true).wp Try.prog Q A w := by
  refine wp_region_headG (by kernel_rfl) _ _ _ hB (PuRegion X p sv cd A w) ⟨Off.refl _ _, (Below.refl _ _).drew, by simp, by simp, by simp, by simp, by simp, by simp, by simp, by simp, by simp, by simp, by simp, by simp, by simp, by simp, by simp⟩ ?_ ?_
  · intro s a w' S i' o il ho hsi hT
    have sz : a.tmps.size = 38 := by rw [S.off.2.1]; exact hs
    have y1 : a.eval (.tmp 1) = .pointer (some ⟨X, 0, none⟩) := by rw [S.off.eval (by decide)]; exact x1
    have y3 : a.eval (.tmp 3) = .string sv := by rw [S.off.eval (by decide)]; exact x3
    have y4 : a.eval (.tmp 4) = .int .i64 cd := by rw [S.off.eval (by decide)]; exact x4
    have y5 : a.eval (.tmp 5) = .string sv := by rw [S.off.eval (by decide)]; exact x5
    have y6 : a.eval (.tmp 6) = .int .i64 cd := by rw [S.off.eval (by decide)]; exact x6
    match i', il, ho, hsi, hT with
    | 0, _, ho, hsi, hT =>
      obtain ⟨e1, e2⟩ := pick_of h0 ho
      refine ⟨wanted_open gd0 ho a, fun K hK => ?_⟩
      have BW := S.before
      refine step_val (v := .string sv) (by simp only [execOp, e1, y3]; go_simp) (hK _ _ ?_)
      rw [e2]
      exact ⟨S.off.put (by decide) _, S.before, fun _ => (eval_put _ _ _ (by omega)).trans rfl, fun g => by rw [eval_put_ne _ _ _ _ (by decide)]; exact S.t1 (by simpa using g), fun g => by rw [eval_put_ne _ _ _ _ (by decide)]; exact S.t2 (by simpa using g), fun g => by rw [eval_put_ne _ _ _ _ (by decide)]; exact S.t3 (by simpa using g), fun g => by rw [eval_put_ne _ _ _ _ (by decide)]; exact S.t4 (by simpa using g), fun g => by rw [eval_put_ne _ _ _ _ (by decide)]; exact S.t5 (by simpa using g), fun g => by rw [eval_put_ne _ _ _ _ (by decide)]; exact S.t6 (by simpa using g), fun g => by rw [eval_put_ne _ _ _ _ (by decide)]; exact S.t7 (by simpa using g), fun g => by rw [eval_put_ne _ _ _ _ (by decide)]; exact S.t8 (by simpa using g), fun g => by rw [eval_put_ne _ _ _ _ (by decide)]; exact S.t9 (by simpa using g), fun g => by rw [eval_put_ne _ _ _ _ (by decide)]; exact S.t10 (by simpa using g), fun g => by rw [eval_put_ne _ _ _ _ (by decide)]; exact S.t11 (by simpa using g), fun g => by rw [eval_put_ne _ _ _ _ (by decide)]; exact S.t12 (by simpa using g), fun g => by rw [eval_put_ne _ _ _ _ (by decide)]; exact S.t13 (by simpa using g), fun g => by rw [eval_put_ne _ _ _ _ (by decide)]; exact S.t14 (by simpa using g)⟩
    | 1, _, ho, hsi, hT =>
      obtain ⟨e1, e2⟩ := pick_of h1 ho
      refine ⟨wanted_open gd1 ho a, fun K hK => ?_⟩
      have BW := S.before
      refine step_val (v := .string sv) (by simp only [execOp, e1, y5]; go_simp) (hK _ _ ?_)
      rw [e2]
      exact ⟨S.off.put (by decide) _, S.before, fun g => by rw [eval_put_ne _ _ _ _ (by decide)]; exact S.t0 (by simpa using g), fun _ => (eval_put _ _ _ (by omega)).trans rfl, fun g => by rw [eval_put_ne _ _ _ _ (by decide)]; exact S.t2 (by simpa using g), fun g => by rw [eval_put_ne _ _ _ _ (by decide)]; exact S.t3 (by simpa using g), fun g => by rw [eval_put_ne _ _ _ _ (by decide)]; exact S.t4 (by simpa using g), fun g => by rw [eval_put_ne _ _ _ _ (by decide)]; exact S.t5 (by simpa using g), fun g => by rw [eval_put_ne _ _ _ _ (by decide)]; exact S.t6 (by simpa using g), fun g => by rw [eval_put_ne _ _ _ _ (by decide)]; exact S.t7 (by simpa using g), fun g => by rw [eval_put_ne _ _ _ _ (by decide)]; exact S.t8 (by simpa using g), fun g => by rw [eval_put_ne _ _ _ _ (by decide)]; exact S.t9 (by simpa using g), fun g => by rw [eval_put_ne _ _ _ _ (by decide)]; exact S.t10 (by simpa using g), fun g => by rw [eval_put_ne _ _ _ _ (by decide)]; exact S.t11 (by simpa using g), fun g => by rw [eval_put_ne _ _ _ _ (by decide)]; exact S.t12 (by simpa using g), fun g => by rw [eval_put_ne _ _ _ _ (by decide)]; exact S.t13 (by simpa using g), fun g => by rw [eval_put_ne _ _ _ _ (by decide)]; exact S.t14 (by simpa using g)⟩
    | 2, _, ho, hsi, hT =>
      obtain ⟨e1, e2⟩ := pick_of h2 ho
      have D0 : s 0 = true := list_pos hT (d := 0) (by decide)
      have D1 : s 1 = true := list_pos hT (d := 1) (by decide)
      refine ⟨wanted_open gd2 ho a, fun K hK => ?_⟩
      have BW := S.before
      refine step_val (v := .bool true) (by simp only [execOp, e1, S.t0 D0, S.t1 D1]; go_simp) (hK _ _ ?_)
      rw [e2]
      exact ⟨S.off.put (by decide) _, S.before, fun g => by rw [eval_put_ne _ _ _ _ (by decide)]; exact S.t0 (by simpa using g), fun g => by rw [eval_put_ne _ _ _ _ (by decide)]; exact S.t1 (by simpa using g), fun _ => (eval_put _ _ _ (by omega)).trans rfl, fun g => by rw [eval_put_ne _ _ _ _ (by decide)]; exact S.t3 (by simpa using g), fun g => by rw [eval_put_ne _ _ _ _ (by decide)]; exact S.t4 (by simpa using g), fun g => by rw [eval_put_ne _ _ _ _ (by decide)]; exact S.t5 (by simpa using g), fun g => by rw [eval_put_ne _ _ _ _ (by decide)]; exact S.t6 (by simpa using g), fun g => by rw [eval_put_ne _ _ _ _ (by decide)]; exact S.t7 (by simpa using g), fun g => by rw [eval_put_ne _ _ _ _ (by decide)]; exact S.t8 (by simpa using g), fun g => by rw [eval_put_ne _ _ _ _ (by decide)]; exact S.t9 (by simpa using g), fun g => by rw [eval_put_ne _ _ _ _ (by decide)]; exact S.t10 (by simpa using g), fun g => by rw [eval_put_ne _ _ _ _ (by decide)]; exact S.t11 (by simpa using g), fun g => by rw [eval_put_ne _ _ _ _ (by decide)]; exact S.t12 (by simpa using g), fun g => by rw [eval_put_ne _ _ _ _ (by decide)]; exact S.t13 (by simpa using g), fun g => by rw [eval_put_ne _ _ _ _ (by decide)]; exact S.t14 (by simpa using g)⟩
    | 3, _, ho, hsi, hT =>
      obtain ⟨e1, e2⟩ := pick_of h3 ho
      have D2 : s 2 = true := list_pos hT (d := 2) (by decide)
      refine ⟨wanted_open gd3 ho a, fun K hK => ?_⟩
      have BW := S.before
      refine step_val (v := .bool true) (by simp only [execOp, e1, S.t2 D2]; go_simp) (hK _ _ ?_)
      rw [e2]
      exact ⟨S.off.put (by decide) _, S.before, fun g => by rw [eval_put_ne _ _ _ _ (by decide)]; exact S.t0 (by simpa using g), fun g => by rw [eval_put_ne _ _ _ _ (by decide)]; exact S.t1 (by simpa using g), fun g => by rw [eval_put_ne _ _ _ _ (by decide)]; exact S.t2 (by simpa using g), fun _ => (eval_put _ _ _ (by omega)).trans rfl, fun g => by rw [eval_put_ne _ _ _ _ (by decide)]; exact S.t4 (by simpa using g), fun g => by rw [eval_put_ne _ _ _ _ (by decide)]; exact S.t5 (by simpa using g), fun g => by rw [eval_put_ne _ _ _ _ (by decide)]; exact S.t6 (by simpa using g), fun g => by rw [eval_put_ne _ _ _ _ (by decide)]; exact S.t7 (by simpa using g), fun g => by rw [eval_put_ne _ _ _ _ (by decide)]; exact S.t8 (by simpa using g), fun g => by rw [eval_put_ne _ _ _ _ (by decide)]; exact S.t9 (by simpa using g), fun g => by rw [eval_put_ne _ _ _ _ (by decide)]; exact S.t10 (by simpa using g), fun g => by rw [eval_put_ne _ _ _ _ (by decide)]; exact S.t11 (by simpa using g), fun g => by rw [eval_put_ne _ _ _ _ (by decide)]; exact S.t12 (by simpa using g), fun g => by rw [eval_put_ne _ _ _ _ (by decide)]; exact S.t13 (by simpa using g), fun g => by rw [eval_put_ne _ _ _ _ (by decide)]; exact S.t14 (by simpa using g)⟩
    | 4, _, ho, hsi, hT =>
      obtain ⟨e1, e2⟩ := pick_of h4 ho
      have D3 : s 3 = true := list_pos hT (d := 3) (by decide)
      refine ⟨wanted_yes gd4 ho h3 (S.t3 D3), fun K hK => ?_⟩
      have BW := S.before
      refine step_val (v := .int .i64 cd) (by simp only [execOp, e1, y4]; go_simp) (hK _ _ ?_)
      rw [e2]
      exact ⟨S.off.put (by decide) _, S.before, fun g => by rw [eval_put_ne _ _ _ _ (by decide)]; exact S.t0 (by simpa using g), fun g => by rw [eval_put_ne _ _ _ _ (by decide)]; exact S.t1 (by simpa using g), fun g => by rw [eval_put_ne _ _ _ _ (by decide)]; exact S.t2 (by simpa using g), fun g => by rw [eval_put_ne _ _ _ _ (by decide)]; exact S.t3 (by simpa using g), fun _ => (eval_put _ _ _ (by omega)).trans rfl, fun g => by rw [eval_put_ne _ _ _ _ (by decide)]; exact S.t5 (by simpa using g), fun g => by rw [eval_put_ne _ _ _ _ (by decide)]; exact S.t6 (by simpa using g), fun g => by rw [eval_put_ne _ _ _ _ (by decide)]; exact S.t7 (by simpa using g), fun g => by rw [eval_put_ne _ _ _ _ (by decide)]; exact S.t8 (by simpa using g), fun g => by rw [eval_put_ne _ _ _ _ (by decide)]; exact S.t9 (by simpa using g), fun g => by rw [eval_put_ne _ _ _ _ (by decide)]; exact S.t10 (by simpa using g), fun g => by rw [eval_put_ne _ _ _ _ (by decide)]; exact S.t11 (by simpa using g), fun g => by rw [eval_put_ne _ _ _ _ (by decide)]; exact S.t12 (by simpa using g), fun g => by rw [eval_put_ne _ _ _ _ (by decide)]; exact S.t13 (by simpa using g), fun g => by rw [eval_put_ne _ _ _ _ (by decide)]; exact S.t14 (by simpa using g)⟩
    | 5, _, ho, hsi, hT =>
      obtain ⟨e1, e2⟩ := pick_of h5 ho
      have D3 : s 3 = true := list_pos hT (d := 3) (by decide)
      refine ⟨wanted_yes gd5 ho h3 (S.t3 D3), fun K hK => ?_⟩
      have BW := S.before
      refine step_val (v := .int .i64 cd) (by simp only [execOp, e1, y6]; go_simp) (hK _ _ ?_)
      rw [e2]
      exact ⟨S.off.put (by decide) _, S.before, fun g => by rw [eval_put_ne _ _ _ _ (by decide)]; exact S.t0 (by simpa using g), fun g => by rw [eval_put_ne _ _ _ _ (by decide)]; exact S.t1 (by simpa using g), fun g => by rw [eval_put_ne _ _ _ _ (by decide)]; exact S.t2 (by simpa using g), fun g => by rw [eval_put_ne _ _ _ _ (by decide)]; exact S.t3 (by simpa using g), fun g => by rw [eval_put_ne _ _ _ _ (by decide)]; exact S.t4 (by simpa using g), fun _ => (eval_put _ _ _ (by omega)).trans rfl, fun g => by rw [eval_put_ne _ _ _ _ (by decide)]; exact S.t6 (by simpa using g), fun g => by rw [eval_put_ne _ _ _ _ (by decide)]; exact S.t7 (by simpa using g), fun g => by rw [eval_put_ne _ _ _ _ (by decide)]; exact S.t8 (by simpa using g), fun g => by rw [eval_put_ne _ _ _ _ (by decide)]; exact S.t9 (by simpa using g), fun g => by rw [eval_put_ne _ _ _ _ (by decide)]; exact S.t10 (by simpa using g), fun g => by rw [eval_put_ne _ _ _ _ (by decide)]; exact S.t11 (by simpa using g), fun g => by rw [eval_put_ne _ _ _ _ (by decide)]; exact S.t12 (by simpa using g), fun g => by rw [eval_put_ne _ _ _ _ (by decide)]; exact S.t13 (by simpa using g), fun g => by rw [eval_put_ne _ _ _ _ (by decide)]; exact S.t14 (by simpa using g)⟩
    | 6, _, ho, hsi, hT =>
      obtain ⟨e1, e2⟩ := pick_of h6 ho
      have D3 : s 3 = true := list_pos hT (d := 3) (by decide)
      have D4 : s 4 = true := list_pos hT (d := 4) (by decide)
      have D5 : s 5 = true := list_pos hT (d := 5) (by decide)
      refine ⟨wanted_yes gd6 ho h3 (S.t3 D3), fun K hK => ?_⟩
      have BW := S.before
      refine step_val (v := .bool true) (by simp only [execOp, e1, S.t4 D4, S.t5 D5]; go_simp) (hK _ _ ?_)
      rw [e2]
      exact ⟨S.off.put (by decide) _, S.before, fun g => by rw [eval_put_ne _ _ _ _ (by decide)]; exact S.t0 (by simpa using g), fun g => by rw [eval_put_ne _ _ _ _ (by decide)]; exact S.t1 (by simpa using g), fun g => by rw [eval_put_ne _ _ _ _ (by decide)]; exact S.t2 (by simpa using g), fun g => by rw [eval_put_ne _ _ _ _ (by decide)]; exact S.t3 (by simpa using g), fun g => by rw [eval_put_ne _ _ _ _ (by decide)]; exact S.t4 (by simpa using g), fun g => by rw [eval_put_ne _ _ _ _ (by decide)]; exact S.t5 (by simpa using g), fun _ => (eval_put _ _ _ (by omega)).trans rfl, fun g => by rw [eval_put_ne _ _ _ _ (by decide)]; exact S.t7 (by simpa using g), fun g => by rw [eval_put_ne _ _ _ _ (by decide)]; exact S.t8 (by simpa using g), fun g => by rw [eval_put_ne _ _ _ _ (by decide)]; exact S.t9 (by simpa using g), fun g => by rw [eval_put_ne _ _ _ _ (by decide)]; exact S.t10 (by simpa using g), fun g => by rw [eval_put_ne _ _ _ _ (by decide)]; exact S.t11 (by simpa using g), fun g => by rw [eval_put_ne _ _ _ _ (by decide)]; exact S.t12 (by simpa using g), fun g => by rw [eval_put_ne _ _ _ _ (by decide)]; exact S.t13 (by simpa using g), fun g => by rw [eval_put_ne _ _ _ _ (by decide)]; exact S.t14 (by simpa using g)⟩
    | 7, _, ho, hsi, hT =>
      obtain ⟨e1, e2⟩ := pick_of h7 ho
      have D3 : s 3 = true := list_pos hT (d := 3) (by decide)
      have D6 : s 6 = true := list_pos hT (d := 6) (by decide)
      refine ⟨wanted_open gd7 ho a, fun K hK => ?_⟩
      have BW := S.before
      refine step_val (v := .bool true) (by simp only [execOp, e1, S.t3 D3, S.t6 D6]; go_simp) (hK _ _ ?_)
      rw [e2]
      exact ⟨S.off.put (by decide) _, S.before, fun g => by rw [eval_put_ne _ _ _ _ (by decide)]; exact S.t0 (by simpa using g), fun g => by rw [eval_put_ne _ _ _ _ (by decide)]; exact S.t1 (by simpa using g), fun g => by rw [eval_put_ne _ _ _ _ (by decide)]; exact S.t2 (by simpa using g), fun g => by rw [eval_put_ne _ _ _ _ (by decide)]; exact S.t3 (by simpa using g), fun g => by rw [eval_put_ne _ _ _ _ (by decide)]; exact S.t4 (by simpa using g), fun g => by rw [eval_put_ne _ _ _ _ (by decide)]; exact S.t5 (by simpa using g), fun g => by rw [eval_put_ne _ _ _ _ (by decide)]; exact S.t6 (by simpa using g), fun _ => (eval_put _ _ _ (by omega)).trans rfl, fun g => by rw [eval_put_ne _ _ _ _ (by decide)]; exact S.t8 (by simpa using g), fun g => by rw [eval_put_ne _ _ _ _ (by decide)]; exact S.t9 (by simpa using g), fun g => by rw [eval_put_ne _ _ _ _ (by decide)]; exact S.t10 (by simpa using g), fun g => by rw [eval_put_ne _ _ _ _ (by decide)]; exact S.t11 (by simpa using g), fun g => by rw [eval_put_ne _ _ _ _ (by decide)]; exact S.t12 (by simpa using g), fun g => by rw [eval_put_ne _ _ _ _ (by decide)]; exact S.t13 (by simpa using g), fun g => by rw [eval_put_ne _ _ _ _ (by decide)]; exact S.t14 (by simpa using g)⟩
    | 8, _, ho, hsi, hT =>
      obtain ⟨e1, e2⟩ := pick_of h8 ho
      have D7 : s 7 = true := list_pos hT (d := 7) (by decide)
      refine ⟨wanted_open gd8 ho a, fun K hK => ?_⟩
      have BW := S.before
      refine step_val (v := .bool true) (by simp only [execOp, e1, S.t7 D7]; go_simp) (hK _ _ ?_)
      rw [e2]
      exact ⟨S.off.put (by decide) _, S.before, fun g => by rw [eval_put_ne _ _ _ _ (by decide)]; exact S.t0 (by simpa using g), fun g => by rw [eval_put_ne _ _ _ _ (by decide)]; exact S.t1 (by simpa using g), fun g => by rw [eval_put_ne _ _ _ _ (by decide)]; exact S.t2 (by simpa using g), fun g => by rw [eval_put_ne _ _ _ _ (by decide)]; exact S.t3 (by simpa using g), fun g => by rw [eval_put_ne _ _ _ _ (by decide)]; exact S.t4 (by simpa using g), fun g => by rw [eval_put_ne _ _ _ _ (by decide)]; exact S.t5 (by simpa using g), fun g => by rw [eval_put_ne _ _ _ _ (by decide)]; exact S.t6 (by simpa using g), fun g => by rw [eval_put_ne _ _ _ _ (by decide)]; exact S.t7 (by simpa using g), fun _ => (eval_put _ _ _ (by omega)).trans rfl, fun g => by rw [eval_put_ne _ _ _ _ (by decide)]; exact S.t9 (by simpa using g), fun g => by rw [eval_put_ne _ _ _ _ (by decide)]; exact S.t10 (by simpa using g), fun g => by rw [eval_put_ne _ _ _ _ (by decide)]; exact S.t11 (by simpa using g), fun g => by rw [eval_put_ne _ _ _ _ (by decide)]; exact S.t12 (by simpa using g), fun g => by rw [eval_put_ne _ _ _ _ (by decide)]; exact S.t13 (by simpa using g), fun g => by rw [eval_put_ne _ _ _ _ (by decide)]; exact S.t14 (by simpa using g)⟩
    | 9, _, ho, hsi, hT =>
      obtain ⟨e1, e2⟩ := pick_of h9 ho
      have D8 : s 8 = true := list_pos hT (d := 8) (by decide)
      refine ⟨wanted_yes gd9 ho h8 (S.t8 D8), fun K hK => ?_⟩
      have BW := S.before
      have cl0 := (BW.cell (p := ⟨X, 0, none⟩) lX).trans c0
      have cl1 := (BW.cell (p := ⟨X, 1, none⟩) lX).trans c1
      have cl2 := (BW.cell (p := ⟨X, 2, none⟩) lX).trans c2
      have cl3 := (BW.cell (p := ⟨X, 3, none⟩) lX).trans c3
      have cl4 := (BW.cell (p := ⟨X, 4, none⟩) lX).trans c4
      refine step_val (v := .agg #[.bool p.cmd, .int .i64 p.ap, .int .i64 p.fl, .int .i64 p.ct, .string p.da]) (by simp only [execOp, e1, y1]; go_simp) (hK _ _ ?_)
      rw [e2]
      exact ⟨S.off.put (by decide) _, S.before, fun g => by rw [eval_put_ne _ _ _ _ (by decide)]; exact S.t0 (by simpa using g), fun g => by rw [eval_put_ne _ _ _ _ (by decide)]; exact S.t1 (by simpa using g), fun g => by rw [eval_put_ne _ _ _ _ (by decide)]; exact S.t2 (by simpa using g), fun g => by rw [eval_put_ne _ _ _ _ (by decide)]; exact S.t3 (by simpa using g), fun g => by rw [eval_put_ne _ _ _ _ (by decide)]; exact S.t4 (by simpa using g), fun g => by rw [eval_put_ne _ _ _ _ (by decide)]; exact S.t5 (by simpa using g), fun g => by rw [eval_put_ne _ _ _ _ (by decide)]; exact S.t6 (by simpa using g), fun g => by rw [eval_put_ne _ _ _ _ (by decide)]; exact S.t7 (by simpa using g), fun g => by rw [eval_put_ne _ _ _ _ (by decide)]; exact S.t8 (by simpa using g), fun _ => (eval_put _ _ _ (by omega)).trans rfl, fun g => by rw [eval_put_ne _ _ _ _ (by decide)]; exact S.t10 (by simpa using g), fun g => by rw [eval_put_ne _ _ _ _ (by decide)]; exact S.t11 (by simpa using g), fun g => by rw [eval_put_ne _ _ _ _ (by decide)]; exact S.t12 (by simpa using g), fun g => by rw [eval_put_ne _ _ _ _ (by decide)]; exact S.t13 (by simpa using g), fun g => by rw [eval_put_ne _ _ _ _ (by decide)]; exact S.t14 (by simpa using g)⟩
    | 10, _, ho, hsi, hT =>
      obtain ⟨e1, e2⟩ := pick_of h10 ho
      have D8 : s 8 = true := list_pos hT (d := 8) (by decide)
      have D9 : s 9 = true := list_pos hT (d := 9) (by decide)
      refine ⟨wanted_yes gd10 ho h8 (S.t8 D8), fun K hK => ?_⟩
      have BW := S.before
      refine step_call 13 (fun args w => by go_simp) _ _ e1 #[.agg #[.bool p.cmd, .int .i64 p.ap, .int .i64 p.fl, .int .i64 p.ct, .string p.da]] (by simp only [List.map_toArray, List.map_cons, List.map_nil, S.t9 D9]) ((pvalid_any p hml w').mono ?_)
      rintro e w2 ⟨rfl, BB⟩
      refine ⟨_, rfl, hK _ _ ?_⟩
      rw [e2]
      exact ⟨S.off.put (by decide) _, bt BW BB, fun g => by rw [eval_put_ne _ _ _ _ (by decide)]; exact S.t0 (by simpa using g), fun g => by rw [eval_put_ne _ _ _ _ (by decide)]; exact S.t1 (by simpa using g), fun g => by rw [eval_put_ne _ _ _ _ (by decide)]; exact S.t2 (by simpa using g), fun g => by rw [eval_put_ne _ _ _ _ (by decide)]; exact S.t3 (by simpa using g), fun g => by rw [eval_put_ne _ _ _ _ (by decide)]; exact S.t4 (by simpa using g), fun g => by rw [eval_put_ne _ _ _ _ (by decide)]; exact S.t5 (by simpa using g), fun g => by rw [eval_put_ne _ _ _ _ (by decide)]; exact S.t6 (by simpa using g), fun g => by rw [eval_put_ne _ _ _ _ (by decide)]; exact S.t7 (by simpa using g), fun g => by rw [eval_put_ne _ _ _ _ (by decide)]; exact S.t8 (by simpa using g), fun g => by rw [eval_put_ne _ _ _ _ (by decide)]; exact S.t9 (by simpa using g), fun _ => (eval_put _ _ _ (by omega)).trans rfl, fun g => by rw [eval_put_ne _ _ _ _ (by decide)]; exact S.t11 (by simpa using g), fun g => by rw [eval_put_ne _ _ _ _ (by decide)]; exact S.t12 (by simpa using g), fun g => by rw [eval_put_ne _ _ _ _ (by decide)]; exact S.t13 (by simpa using g), fun g => by rw [eval_put_ne _ _ _ _ (by decide)]; exact S.t14 (by simpa using g)⟩
    | 11, _, ho, hsi, hT =>
      obtain ⟨e1, e2⟩ := pick_of h11 ho
      have D8 : s 8 = true := list_pos hT (d := 8) (by decide)
      refine ⟨wanted_yes gd11 ho h8 (S.t8 D8), fun K hK => ?_⟩
      have BW := S.before
      have cl0 := (BW.cell (p := ⟨X, 0, none⟩) lX).trans c0
      have cl1 := (BW.cell (p := ⟨X, 1, none⟩) lX).trans c1
      have cl2 := (BW.cell (p := ⟨X, 2, none⟩) lX).trans c2
      have cl3 := (BW.cell (p := ⟨X, 3, none⟩) lX).trans c3
      have cl4 := (BW.cell (p := ⟨X, 4, none⟩) lX).trans c4
      refine step_val (v := .agg #[.bool p.cmd, .int .i64 p.ap, .int .i64 p.fl, .int .i64 p.ct, .string p.da]) (by simp only [execOp, e1, y1]; go_simp) (hK _ _ ?_)
      rw [e2]
      exact ⟨S.off.put (by decide) _, S.before, fun g => by rw [eval_put_ne _ _ _ _ (by decide)]; exact S.t0 (by simpa using g), fun g => by rw [eval_put_ne _ _ _ _ (by decide)]; exact S.t1 (by simpa using g), fun g => by rw [eval_put_ne _ _ _ _ (by decide)]; exact S.t2 (by simpa using g), fun g => by rw [eval_put_ne _ _ _ _ (by decide)]; exact S.t3 (by simpa using g), fun g => by rw [eval_put_ne _ _ _ _ (by decide)]; exact S.t4 (by simpa using g), fun g => by rw [eval_put_ne _ _ _ _ (by decide)]; exact S.t5 (by simpa using g), fun g => by rw [eval_put_ne _ _ _ _ (by decide)]; exact S.t6 (by simpa using g), fun g => by rw [eval_put_ne _ _ _ _ (by decide)]; exact S.t7 (by simpa using g), fun g => by rw [eval_put_ne _ _ _ _ (by decide)]; exact S.t8 (by simpa using g), fun g => by rw [eval_put_ne _ _ _ _ (by decide)]; exact S.t9 (by simpa using g), fun g => by rw [eval_put_ne _ _ _ _ (by decide)]; exact S.t10 (by simpa using g), fun _ => (eval_put _ _ _ (by omega)).trans rfl, fun g => by rw [eval_put_ne _ _ _ _ (by decide)]; exact S.t12 (by simpa using g), fun g => by rw [eval_put_ne _ _ _ _ (by decide)]; exact S.t13 (by simpa using g), fun g => by rw [eval_put_ne _ _ _ _ (by decide)]; exact S.t14 (by simpa using g)⟩
    | 12, _, ho, hsi, hT =>
      obtain ⟨e1, e2⟩ := pick_of h12 ho
      have D8 : s 8 = true := list_pos hT (d := 8) (by decide)
      have D11 : s 11 = true := list_pos hT (d := 11) (by decide)
      refine ⟨wanted_yes gd12 ho h8 (S.t8 D8), fun K hK => ?_⟩
      have BW := S.before
      refine step_call 14 (fun args w => by go_simp) _ _ e1 #[.agg #[.bool p.cmd, .int .i64 p.ap, .int .i64 p.fl, .int .i64 p.ct, .string p.da]] (by simp only [List.map_toArray, List.map_cons, List.map_nil, S.t11 D11]) ((rvalid_any p hrl w').mono ?_)
      rintro e w2 ⟨rfl, BB⟩
      refine ⟨_, rfl, hK _ _ ?_⟩
      rw [e2]
      exact ⟨S.off.put (by decide) _, bt BW BB, fun g => by rw [eval_put_ne _ _ _ _ (by decide)]; exact S.t0 (by simpa using g), fun g => by rw [eval_put_ne _ _ _ _ (by decide)]; exact S.t1 (by simpa using g), fun g => by rw [eval_put_ne _ _ _ _ (by decide)]; exact S.t2 (by simpa using g), fun g => by rw [eval_put_ne _ _ _ _ (by decide)]; exact S.t3 (by simpa using g), fun g => by rw [eval_put_ne _ _ _ _ (by decide)]; exact S.t4 (by simpa using g), fun g => by rw [eval_put_ne _ _ _ _ (by decide)]; exact S.t5 (by simpa using g), fun g => by rw [eval_put_ne _ _ _ _ (by decide)]; exact S.t6 (by simpa using g), fun g => by rw [eval_put_ne _ _ _ _ (by decide)]; exact S.t7 (by simpa using g), fun g => by rw [eval_put_ne _ _ _ _ (by decide)]; exact S.t8 (by simpa using g), fun g => by rw [eval_put_ne _ _ _ _ (by decide)]; exact S.t9 (by simpa using g), fun g => by rw [eval_put_ne _ _ _ _ (by decide)]; exact S.t10 (by simpa using g), fun g => by rw [eval_put_ne _ _ _ _ (by decide)]; exact S.t11 (by simpa using g), fun _ => (eval_put _ _ _ (by omega)).trans rfl, fun g => by rw [eval_put_ne _ _ _ _ (by decide)]; exact S.t13 (by simpa using g), fun g => by rw [eval_put_ne _ _ _ _ (by decide)]; exact S.t14 (by simpa using g)⟩
    | 13, _, ho, hsi, hT =>
      obtain ⟨e1, e2⟩ := pick_of h13 ho
      have D8 : s 8 = true := list_pos hT (d := 8) (by decide)
      have D10 : s 10 = true := list_pos hT (d := 10) (by decide)
      have D12 : s 12 = true := list_pos hT (d := 12) (by decide)
      refine ⟨wanted_yes gd13 ho h8 (S.t8 D8), fun K hK => ?_⟩
      have BW := S.before
      refine step_val (v := .bool true) (by simp only [execOp, e1, S.t10 D10, S.t12 D12]; go_simp) (hK _ _ ?_)
      rw [e2]
      exact ⟨S.off.put (by decide) _, S.before, fun g => by rw [eval_put_ne _ _ _ _ (by decide)]; exact S.t0 (by simpa using g), fun g => by rw [eval_put_ne _ _ _ _ (by decide)]; exact S.t1 (by simpa using g), fun g => by rw [eval_put_ne _ _ _ _ (by decide)]; exact S.t2 (by simpa using g), fun g => by rw [eval_put_ne _ _ _ _ (by decide)]; exact S.t3 (by simpa using g), fun g => by rw [eval_put_ne _ _ _ _ (by decide)]; exact S.t4 (by simpa using g), fun g => by rw [eval_put_ne _ _ _ _ (by decide)]; exact S.t5 (by simpa using g), fun g => by rw [eval_put_ne _ _ _ _ (by decide)]; exact S.t6 (by simpa using g), fun g => by rw [eval_put_ne _ _ _ _ (by decide)]; exact S.t7 (by simpa using g), fun g => by rw [eval_put_ne _ _ _ _ (by decide)]; exact S.t8 (by simpa using g), fun g => by rw [eval_put_ne _ _ _ _ (by decide)]; exact S.t9 (by simpa using g), fun g => by rw [eval_put_ne _ _ _ _ (by decide)]; exact S.t10 (by simpa using g), fun g => by rw [eval_put_ne _ _ _ _ (by decide)]; exact S.t11 (by simpa using g), fun g => by rw [eval_put_ne _ _ _ _ (by decide)]; exact S.t12 (by simpa using g), fun _ => (eval_put _ _ _ (by omega)).trans rfl, fun g => by rw [eval_put_ne _ _ _ _ (by decide)]; exact S.t14 (by simpa using g)⟩
    | 14, _, ho, hsi, hT =>
      obtain ⟨e1, e2⟩ := pick_of h14 ho
      have D8 : s 8 = true := list_pos hT (d := 8) (by decide)
      have D13 : s 13 = true := list_pos hT (d := 13) (by decide)
      refine ⟨wanted_open gd14 ho a, fun K hK => ?_⟩
      have BW := S.before
      refine step_val (v := .bool true) (by simp only [execOp, e1, S.t8 D8, S.t13 D13]; go_simp) (hK _ _ ?_)
      rw [e2]
      exact ⟨S.off.put (by decide) _, S.before, fun g => by rw [eval_put_ne _ _ _ _ (by decide)]; exact S.t0 (by simpa using g), fun g => by rw [eval_put_ne _ _ _ _ (by decide)]; exact S.t1 (by simpa using g), fun g => by rw [eval_put_ne _ _ _ _ (by decide)]; exact S.t2 (by simpa using g), fun g => by rw [eval_put_ne _ _ _ _ (by decide)]; exact S.t3 (by simpa using g), fun g => by rw [eval_put_ne _ _ _ _ (by decide)]; exact S.t4 (by simpa using g), fun g => by rw [eval_put_ne _ _ _ _ (by decide)]; exact S.t5 (by simpa using g), fun g => by rw [eval_put_ne _ _ _ _ (by decide)]; exact S.t6 (by simpa using g), fun g => by rw [eval_put_ne _ _ _ _ (by decide)]; exact S.t7 (by simpa using g), fun g => by rw [eval_put_ne _ _ _ _ (by decide)]; exact S.t8 (by simpa using g), fun g => by rw [eval_put_ne _ _ _ _ (by decide)]; exact S.t9 (by simpa using g), fun g => by rw [eval_put_ne _ _ _ _ (by decide)]; exact S.t10 (by simpa using g), fun g => by rw [eval_put_ne _ _ _ _ (by decide)]; exact S.t11 (by simpa using g), fun g => by rw [eval_put_ne _ _ _ _ (by decide)]; exact S.t12 (by simpa using g), fun g => by rw [eval_put_ne _ _ _ _ (by decide)]; exact S.t13 (by simpa using g), fun _ => (eval_put _ _ _ (by omega)).trans rfl⟩
    | _ + 15, il, _, _, _ => exact absurd il (by omega)
  · intro s a w' S hall
    have a0 := hall 0 (by omega)
    have a1 := hall 1 (by omega)
    have a2 := hall 2 (by omega)
    have a3 := hall 3 (by omega)
    have a4 := hall 4 (by omega)
    have a5 := hall 5 (by omega)
    have a6 := hall 6 (by omega)
    have a7 := hall 7 (by omega)
    have a8 := hall 8 (by omega)
    have a9 := hall 9 (by omega)
    have a10 := hall 10 (by omega)
    have a11 := hall 11 (by omega)
    have a12 := hall 12 (by omega)
    have a13 := hall 13 (by omega)
    have a14 := hall 14 (by omega)
    have e := off_norm _ (by intro d hd; simp at hd; omega) S.off
    simp only [List.foldl, S.t0 a0, S.t1 a1, S.t2 a2, S.t3 a3, S.t4 a4, S.t5 a5, S.t6 a6, S.t7 a7, S.t8 a8, S.t9 a9, S.t10 a10, S.t11 a11, S.t12 a12, S.t13 a13, S.t14 a14] at e
    rw [e]
    exact h _ S.before
set_option maxRecDepth 100000 in
set_option maxHeartbeats 4000000 in
theorem walk (p : Pkt) (hp : PkWf p) (w : World) : Calls Try.prog 3 #[pkVal p] w fun e w' => e = .returned (.bool true) ∧ Below w.heap.size w w' := by
  have hml := hp.2.2.2
  have SH := Lib.hid (fun w => shown_any w)
  obtain ⟨n, hn⟩ : ∃ n, p.da.size = n := ⟨_, rfl⟩
  have hs : n ≤ 9223372036854775807 := by rw [← hn]; unfold maxLen at hml; omega
  clear hp
  by_cases hl : 20000 < n
  · have t1 : decide (20000 < (n : Int)) = true := decide_eq_true (by omega)
    have t1n : decide (20000 < n) = true := decide_eq_true hl
    clear hl
    go_enter Try.func3, Try.ntmps3
    go_wp2_with (refine wpList_new rfl (.box 23 (.tmp 0)) rfl (some 1) rfl #[.bool p.cmd, .int .i64 p.ap, .int .i64 p.fl, .int .i64 p.ct, .string p.da] 23 (fun X => .pointer (some ⟨X, 0, none⟩)) 5 (pkCel p) (pk_cells p) (box_pk rfl rfl) ?_; intro X w0 HX Sw0 CX Bw0)
    (with_reducible refine (SH.out _).mono ?_)
    rintro e w1 ⟨rfl, h1⟩
    have cX : w1.cell? ⟨X, 4, none⟩ = some (.string p.da) := (CX.out.below h1).cell (j := 4) (by omega)
    have B1 := Lib.hid (bt Bw0.out h1)
    clear h1
    go_wp2_with fail
    go_ret
    exact ⟨rfl, B1.out⟩
  · have t1 : decide (20000 < (n : Int)) = false := decide_eq_false (by omega)
    have t1n : decide (20000 < n) = false := decide_eq_false hl
    have hrl : p.da.size ≤ 1000000000 := by omega
    have U1 := Lib.hid (fun w => pput_any p hml w)
    have U2 := Lib.hid (fun w => rput_any p hrl w)
    obtain ⟨sv, cd, hv⟩ : ∃ (sv : ByteArray) (cd : Int), (if Pk.Ok p then Value.tuple #[.string (bs (Pk.enc p)), .int .i64 0] else .tuple #[.string ⟨#[]⟩, .int .i64 2]) = .tuple #[.string sv, .int .i64 cd] := by
      by_cases g : Pk.Ok p
      · rw [if_pos g]; exact ⟨_, _, rfl⟩
      · rw [if_neg g]; exact ⟨_, _, rfl⟩
    rw [hv] at U1 U2
    have HML := Lib.hid hml
    have HRL := Lib.hid hrl
    clear hl hv hml hrl
    go_enter Try.func3, Try.ntmps3
    go_wp2_with (refine wpList_new rfl (.box 23 (.tmp 0)) rfl (some 1) rfl #[.bool p.cmd, .int .i64 p.ap, .int .i64 p.fl, .int .i64 p.ct, .string p.da] 23 (fun X => .pointer (some ⟨X, 0, none⟩)) 5 (pkCel p) (pk_cells p) (box_pk rfl rfl) ?_; intro X w0 HX Sw0 CX Bw0)
    (with_reducible refine (SH.out _).mono ?_)
    rintro e w1 ⟨rfl, h1⟩
    have CX1 := Lib.hid (CX.out.below h1)
    have cX : w1.cell? ⟨X, 4, none⟩ = some (.string p.da) := CX1.out.cell (j := 4) (by omega)
    have B1 := Lib.hid (bt Bw0.out h1)
    clear h1
    go_wp2_with (refine wpList_getAll rfl 23 (.tmp 1) rfl X 5 [.bool p.cmd, .int .i64 p.ap, .int .i64 p.fl, .int .i64 p.ct, .string p.da] _ _ CX1.out rfl (pk_list p) rfl Try.underlying23 rfl pk_info ?_)
    (refine (U1.out _).mono ?_)
    rintro e w2 ⟨rfl, h2⟩
    have B2 := Lib.hid (bt B1.out h2)
    have CX2 := Lib.hid (CX1.out.below h2)
    clear h2 cX
    go_wp2_with (refine wpList_getAll rfl 23 (.tmp 1) rfl X 5 [.bool p.cmd, .int .i64 p.ap, .int .i64 p.fl, .int .i64 p.ct, .string p.da] _ _ CX2.out rfl (pk_list p) rfl Try.underlying23 rfl pk_info ?_)
    (refine (U2.out _).mono ?_)
    rintro e w3 ⟨rfl, h3⟩
    have B3 := Lib.hid (bt B2.out h3)
    have CX3 := Lib.hid (CX2.out.below h3)
    clear h3
    go_upto_region 7 with fail
    refine puRegion X p sv cd CX3.out.1 HML.out HRL.out (CX3.out.cell (j := 0) (by omega)) (CX3.out.cell (j := 1) (by omega)) (CX3.out.cell (j := 2) (by omega)) (CX3.out.cell (j := 3) (by omega)) (CX3.out.cell (j := 4) (by omega)) (by kernel_rfl) rfl rfl rfl rfl rfl rfl rfl rfl rfl rfl rfl rfl rfl rfl rfl rfl rfl rfl rfl rfl rfl rfl rfl rfl rfl rfl rfl rfl rfl rfl rfl rfl rfl rfl rfl rfl ?_
    intro w4 h4
    simp only [Act.put, List.setIfInBounds_toArray, List.set_cons_succ, List.set_cons_zero, List.drop_succ_cons, List.drop_zero]
    have B4 := Lib.hid (bt B3.out h4)
    clear h4
    go_wp2_with fail
    go_ret
    exact ⟨rfl, B4.out⟩

set_option maxRecDepth 100000 in
theorem lifted (os : Os) (started : os.Started) (H : Type) (enc : TypeId × Value → H) :
    ReturnsInHanded {} Try.checked os 3 .any (Rows.packetPutsSpec.pre6 enc Try.prog Try.f3 Rows.packetPutsRow.domain false) (Rows.packetPutsSpec.post enc Try.prog Try.f3 false true false false) := by
  refine returnsInHanded_of_change (C := Try.checked) own started (by kernel_rfl) Try.func3
    (ChangeSpec.witness6 (enc := enc) (C := Try.checked) false ⟨#[], #[.agg #[.bool false, .int .i64 0, .int .i64 0, .int .i64 0, .string { data := #[] }]], []⟩ 8 (by kernel_rfl) (by kernel_rfl) (by kernel_rfl) (by kernel_rfl)) ?_
  intro W base args ds gs before hval0 hW _ _
  have hval : ∀ (j : Nat) t v, Try.f3.params[j]? = some t → args[j]? = some v → Value.okWide Try.prog W .any base t v := hval0
  have hW' := hW
  obtain ⟨p, q, hA0, hV, rfl, hfz, hnd⟩ := hW
  have hA : DataW.TrodAll enc Try.prog W 0 (fun _ => true) true Try.f3.params.toList args.toList ds p := hA0
  rw [Try.params3] at hA hval
  obtain ⟨v0, vs0, d0, ds0, p0, q0, hargs, rfl, rfl, h0, r0⟩ := trodAll_cons hA
  obtain ⟨rfl, rfl, rfl⟩ := trodAll_nil r0
  obtain rfl : args = #[v0] := by cases args; simp_all
  obtain ⟨rfl, rfl⟩ := trodVars_none hV
  obtain ⟨a0, rfl, w0, shut0⟩ := packet_arg (hval 0 23 v0 rfl rfl) h0
  clear hA0 hval0
  simp only [List.append_nil] at hW'
  refine (walk a0 w0 W).mono fun e W' ⟨he, hg⟩ => ?_
  subst he
  exact ⟨_, rfl, post_of_below (pa := (p0 ++ [])) (pv := []) hW' (fun _ _ _ => trodAll_cons_mk (shut_bool Try.underlying4 _) trodAll_mk0) (fun sp hsp => (trodAll_cons_mk (shut0 W' hg sp (fun q hq => hsp q (by simp [hq]))) trodAll_mk0)) (fun _ _ => rfl) (by simp)
    hg (ok_one (by kernel_rfl) rfl (okWide_bool_mk Try.underlying4 _))⟩

theorem proved : Rows.PacketPutsSaid :=
  OpenClaim.holds_of_wide 3 Try.f3 rfl rfl rfl rfl rfl rfl rfl ⟨rfl, rfl, rfl, rfl, rfl⟩ rfl rfl rfl rfl rfl (by kernel_rfl) Try.func3 (by kernel_rfl)
    (of_decide_eq_true (by kernel_rfl)) (by unfold Func.isWrapper; first | (rw [if_pos (by decide +kernel)]; kernel_rfl) | (rw [if_neg (by decide +kernel)]; exact ⟨rfl, rfl⟩))
    (fun os started H enc _ => lifted os started H enc)
#print axioms proved
end packetPuts
end Go.Proofs.Ytphkaambodecdaa
