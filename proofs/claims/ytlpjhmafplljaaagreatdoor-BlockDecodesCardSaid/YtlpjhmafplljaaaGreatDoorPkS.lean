/- BlkSolveR, BlkSolve, BlkRows as one text. -/
import Derived.Test.YtlpjhmafplljaaaGreatDoorBlkRefB
import Derived.Test.YtlpjhmafplljaaaGreatDoorPkM
/- The regions of perigeeref05's solve that draw their order. -/
namespace Go.Proofs.YtlpjhmafplljaaaGreatDoor
open Go.RowKit
set_option linter.unusedVariables false

structure ScaleRegion (R n C N i c bi ci : Nat) (f x : BitVec 8) (m : Nat → Nat) (A : Act) (w0 : World) (s : Nat → Bool) (a : Act) (w : World) : Prop where
  off : Off [71, 72, 73, 74, 75, 76, 77, 78, 79, 80, 81, 82, 83, 84, 85] a A
  before : s 15 = false → Below w0.heap.size w0 w
  behind : s 15 = true → ∃ w1, Below w0.heap.size w0 w1 ∧ w = w1.setCell ⟨bi, c, none⟩ (.int .u8 ((Gal.mul x f).toNat : Nat))
  t0 : s 0 = true → a.eval (.tmp 71) = .slice (some ⟨R, 0, none⟩) n C
  t1 : s 1 = true → a.eval (.tmp 72) = .int .i64 (i : Nat)
  t2 : s 2 = true → a.eval (.tmp 73) = .pointer (some ⟨R, i, none⟩)
  t3 : s 3 = true → a.eval (.tmp 74) = .slice (some ⟨bi, 0, none⟩) N ci
  t4 : s 4 = true → a.eval (.tmp 75) = .int .i64 (c : Nat)
  t5 : s 5 = true → a.eval (.tmp 76) = .slice (some ⟨R, 0, none⟩) n C
  t6 : s 6 = true → a.eval (.tmp 77) = .int .i64 (i : Nat)
  t7 : s 7 = true → a.eval (.tmp 78) = .pointer (some ⟨R, i, none⟩)
  t8 : s 8 = true → a.eval (.tmp 79) = .slice (some ⟨bi, 0, none⟩) N ci
  t9 : s 9 = true → a.eval (.tmp 80) = .int .i64 (c : Nat)
  t10 : s 10 = true → a.eval (.tmp 81) = .pointer (some ⟨bi, c, none⟩)
  t11 : s 11 = true → a.eval (.tmp 82) = .int .u8 (x.toNat : Nat)
  t12 : s 12 = true → a.eval (.tmp 83) = .int .u8 (f.toNat : Nat)
  t13 : s 13 = true → a.eval (.tmp 84) = .int .u8 ((Gal.mul x f).toNat : Nat)
  t14 : s 14 = true → a.eval (.tmp 85) = .pointer (some ⟨bi, c, none⟩)
set_option maxHeartbeats 2000000 in
set_option maxRecDepth 100000 in
theorem scaleRegion {id : Nat} {d : Bool} {l : List Oper} {A : Act} {w : World} {Q : Exit → Act → World → Prop} (R n C N i c bi ci : Nat) (f x : BitVec 8) (m : Nat → Nat)
    (hi : i < n) (hn : n ≤ 1000) (hN : N ≤ 1000) (hc : c < N) (hR : R < w.heap.size) (hir : w.cell? ⟨R, i, none⟩ = some (.slice (some ⟨bi, 0, none⟩) N ci)) (hF : NumsK .u8 w bi N m) (hx : m c = x.toNat)
    (hB : tableL d l.toArray (fun i => match i with | 0 => [] | 1 => [] | 2 => [0, 1] | 3 => [2] | 4 => [] | 5 => [] | 6 => [] | 7 => [5, 6] | 8 => [7] | 9 => [] | 10 => [8, 9] | 11 => [10] | 12 => [] | 13 => [11, 12] | 14 => [3, 4] | 15 => [0, 1, 2, 3, 4, 5, 6, 7, 8, 9, 10, 11, 12, 13, 14] | _ => []) (fun i => match i with | 0 => [15] | 1 => [15] | 2 => [15] | 3 => [15] | 4 => [15] | 5 => [15] | 6 => [15] | 7 => [15] | 8 => [15] | 9 => [15] | 10 => [15] | 11 => [15] | 12 => [15] | 13 => [15] | 14 => [15] | 15 => [] | _ => []) = true) (hl : l.length = 16)
    (h0 : pick l 0 = some (.move (.tmp 0), some 71))
    (h1 : pick l 1 = some (.move (.tmp 5), some 72))
    (h2 : pick l 2 = some (.indexAddr 76 (.tmp 71) (.tmp 72), some 73))
    (h3 : pick l 3 = some (.load 41 (.tmp 73), some 74))
    (h4 : pick l 4 = some (.move (.tmp 9), some 75))
    (h5 : pick l 5 = some (.move (.tmp 0), some 76))
    (h6 : pick l 6 = some (.move (.tmp 5), some 77))
    (h7 : pick l 7 = some (.indexAddr 76 (.tmp 76) (.tmp 77), some 78))
    (h8 : pick l 8 = some (.load 41 (.tmp 78), some 79))
    (h9 : pick l 9 = some (.move (.tmp 9), some 80))
    (h10 : pick l 10 = some (.indexAddr 41 (.tmp 79) (.tmp 80), some 81))
    (h11 : pick l 11 = some (.load 5 (.tmp 81), some 82))
    (h12 : pick l 12 = some (.move (.tmp 7), some 83))
    (h13 : pick l 13 = some (.call { callee := .value (.func 45), args := #[.tmp 82, .tmp 83], argTypes := #[5, 5] }, some 84))
    (h14 : pick l 14 = some (.indexAddr 41 (.tmp 74) (.tmp 75), some 85))
    (h15 : pick l 15 = some (.store 5 (.tmp 85) (.tmp 84), none))
    (hs : A.tmps.size = 147)
    (x0 : A.eval (.tmp 0) = .slice (some ⟨R, 0, none⟩) n C)
    (x5 : A.eval (.tmp 5) = .int .i64 (i : Nat))
    (x7 : A.eval (.tmp 7) = .int .u8 (f.toNat : Nat))
    (x9 : A.eval (.tmp 9) = .int .i64 (c : Nat))
    (h : ∀ w1, Below w.heap.size w w1 → Q .normal (((((((((((((((A.put (some 71) (.slice (some ⟨R, 0, none⟩) n C)).put (some 72) (.int .i64 (i : Nat))).put (some 73) (.pointer (some ⟨R, i, none⟩))).put (some 74) (.slice (some ⟨bi, 0, none⟩) N ci)).put (some 75) (.int .i64 (c : Nat))).put (some 76) (.slice (some ⟨R, 0, none⟩) n C)).put (some 77) (.int .i64 (i : Nat))).put (some 78) (.pointer (some ⟨R, i, none⟩))).put (some 79) (.slice (some ⟨bi, 0, none⟩) N ci)).put (some 80) (.int .i64 (c : Nat))).put (some 81) (.pointer (some ⟨bi, c, none⟩))).put (some 82) (.int .u8 (x.toNat : Nat))).put (some 83) (.int .u8 (f.toNat : Nat))).put (some 84) (.int .u8 ((Gal.mul x f).toNat : Nat))).put (some 85) (.pointer (some ⟨bi, c, none⟩))) (w1.setCell ⟨bi, c, none⟩ (.int .u8 ((Gal.mul x f).toNat : Nat)))) :
    (Code.region id l.toArray d).wp Tryz.prog Q A w := by
  refine wp_region_invL (by kernel_rfl) _ _ hB (ScaleRegion R n C N i c bi ci f x m A w) ⟨Off.refl _ _, fun _ => Below.refl _ _, by simp, by simp, by simp, by simp, by simp, by simp, by simp, by simp, by simp, by simp, by simp, by simp, by simp, by simp, by simp, by simp⟩ ⟨Off.refl _ _, fun _ => (Below.refl _ _).drew, by simp, by simp, by simp, by simp, by simp, by simp, by simp, by simp, by simp, by simp, by simp, by simp, by simp, by simp, by simp, by simp⟩ ?_ ?_
  · intro s a w' S i' o ho hsi hT K hK
    have sz : a.tmps.size = 147 := by rw [S.off.2.1]; exact hs
    have il : i' < 16 := by have := (List.getElem?_eq_some_iff.1 ho).1; omega
    have y0 : a.eval (.tmp 0) = .slice (some ⟨R, 0, none⟩) n C := by rw [S.off.eval (by decide)]; exact x0
    have y5 : a.eval (.tmp 5) = .int .i64 (i : Nat) := by rw [S.off.eval (by decide)]; exact x5
    have y7 : a.eval (.tmp 7) = .int .u8 (f.toNat : Nat) := by rw [S.off.eval (by decide)]; exact x7
    have y9 : a.eval (.tmp 9) = .int .i64 (c : Nat) := by rw [S.off.eval (by decide)]; exact x9
    match i', il, ho, hsi, hT with
    | 0, _, ho, hsi, hT =>
      obtain ⟨e1, e2⟩ := pick_of h0 ho
      have NL : s 15 = false := list_neg hT (k := 15) (by decide)
      have BW := S.before NL
      refine step_val (v := .slice (some ⟨R, 0, none⟩) n C) (by simp only [execOp, e1, y0]; go_simp) (hK _ _ ?_)
      rw [e2]
      exact ⟨S.off.put (by decide) _, fun _ => S.before NL, fun g => absurd g (by simp [NL]), fun _ => (eval_put _ _ _ (by omega)).trans rfl, kp S.t1, kp S.t2, kp S.t3, kp S.t4, kp S.t5, kp S.t6, kp S.t7, kp S.t8, kp S.t9, kp S.t10, kp S.t11, kp S.t12, kp S.t13, kp S.t14⟩
    | 1, _, ho, hsi, hT =>
      obtain ⟨e1, e2⟩ := pick_of h1 ho
      have NL : s 15 = false := list_neg hT (k := 15) (by decide)
      have BW := S.before NL
      refine step_val (v := .int .i64 (i : Nat)) (by simp only [execOp, e1, y5]; go_simp) (hK _ _ ?_)
      rw [e2]
      exact ⟨S.off.put (by decide) _, fun _ => S.before NL, fun g => absurd g (by simp [NL]), kp S.t0, fun _ => (eval_put _ _ _ (by omega)).trans rfl, kp S.t2, kp S.t3, kp S.t4, kp S.t5, kp S.t6, kp S.t7, kp S.t8, kp S.t9, kp S.t10, kp S.t11, kp S.t12, kp S.t13, kp S.t14⟩
    | 2, _, ho, hsi, hT =>
      obtain ⟨e1, e2⟩ := pick_of h2 ho
      have D0 : s 0 = true := list_pos hT (d := 0) (by decide)
      have D1 : s 1 = true := list_pos hT (d := 1) (by decide)
      have NL : s 15 = false := list_neg hT (k := 15) (by decide)
      have BW := S.before NL
      refine step_val (v := .pointer (some ⟨R, i, none⟩)) (by simp only [execOp, e1, S.t0 D0, S.t1 D1]; go_simp) (hK _ _ ?_)
      rw [e2]
      exact ⟨S.off.put (by decide) _, fun _ => S.before NL, fun g => absurd g (by simp [NL]), kp S.t0, kp S.t1, fun _ => (eval_put _ _ _ (by omega)).trans rfl, kp S.t3, kp S.t4, kp S.t5, kp S.t6, kp S.t7, kp S.t8, kp S.t9, kp S.t10, kp S.t11, kp S.t12, kp S.t13, kp S.t14⟩
    | 3, _, ho, hsi, hT =>
      obtain ⟨e1, e2⟩ := pick_of h3 ho
      have D2 : s 2 = true := list_pos hT (d := 2) (by decide)
      have NL : s 15 = false := list_neg hT (k := 15) (by decide)
      have BW := S.before NL
      have cl := (BW.cell (p := ⟨R, i, none⟩) hR).trans hir
      refine step_val (v := .slice (some ⟨bi, 0, none⟩) N ci) (by simp only [execOp, e1, S.t2 D2]; go_simp) (hK _ _ ?_)
      rw [e2]
      exact ⟨S.off.put (by decide) _, fun _ => S.before NL, fun g => absurd g (by simp [NL]), kp S.t0, kp S.t1, kp S.t2, fun _ => (eval_put _ _ _ (by omega)).trans rfl, kp S.t4, kp S.t5, kp S.t6, kp S.t7, kp S.t8, kp S.t9, kp S.t10, kp S.t11, kp S.t12, kp S.t13, kp S.t14⟩
    | 4, _, ho, hsi, hT =>
      obtain ⟨e1, e2⟩ := pick_of h4 ho
      have NL : s 15 = false := list_neg hT (k := 15) (by decide)
      have BW := S.before NL
      refine step_val (v := .int .i64 (c : Nat)) (by simp only [execOp, e1, y9]; go_simp) (hK _ _ ?_)
      rw [e2]
      exact ⟨S.off.put (by decide) _, fun _ => S.before NL, fun g => absurd g (by simp [NL]), kp S.t0, kp S.t1, kp S.t2, kp S.t3, fun _ => (eval_put _ _ _ (by omega)).trans rfl, kp S.t5, kp S.t6, kp S.t7, kp S.t8, kp S.t9, kp S.t10, kp S.t11, kp S.t12, kp S.t13, kp S.t14⟩
    | 5, _, ho, hsi, hT =>
      obtain ⟨e1, e2⟩ := pick_of h5 ho
      have NL : s 15 = false := list_neg hT (k := 15) (by decide)
      have BW := S.before NL
      refine step_val (v := .slice (some ⟨R, 0, none⟩) n C) (by simp only [execOp, e1, y0]; go_simp) (hK _ _ ?_)
      rw [e2]
      exact ⟨S.off.put (by decide) _, fun _ => S.before NL, fun g => absurd g (by simp [NL]), kp S.t0, kp S.t1, kp S.t2, kp S.t3, kp S.t4, fun _ => (eval_put _ _ _ (by omega)).trans rfl, kp S.t6, kp S.t7, kp S.t8, kp S.t9, kp S.t10, kp S.t11, kp S.t12, kp S.t13, kp S.t14⟩
    | 6, _, ho, hsi, hT =>
      obtain ⟨e1, e2⟩ := pick_of h6 ho
      have NL : s 15 = false := list_neg hT (k := 15) (by decide)
      have BW := S.before NL
      refine step_val (v := .int .i64 (i : Nat)) (by simp only [execOp, e1, y5]; go_simp) (hK _ _ ?_)
      rw [e2]
      exact ⟨S.off.put (by decide) _, fun _ => S.before NL, fun g => absurd g (by simp [NL]), kp S.t0, kp S.t1, kp S.t2, kp S.t3, kp S.t4, kp S.t5, fun _ => (eval_put _ _ _ (by omega)).trans rfl, kp S.t7, kp S.t8, kp S.t9, kp S.t10, kp S.t11, kp S.t12, kp S.t13, kp S.t14⟩
    | 7, _, ho, hsi, hT =>
      obtain ⟨e1, e2⟩ := pick_of h7 ho
      have D5 : s 5 = true := list_pos hT (d := 5) (by decide)
      have D6 : s 6 = true := list_pos hT (d := 6) (by decide)
      have NL : s 15 = false := list_neg hT (k := 15) (by decide)
      have BW := S.before NL
      refine step_val (v := .pointer (some ⟨R, i, none⟩)) (by simp only [execOp, e1, S.t5 D5, S.t6 D6]; go_simp) (hK _ _ ?_)
      rw [e2]
      exact ⟨S.off.put (by decide) _, fun _ => S.before NL, fun g => absurd g (by simp [NL]), kp S.t0, kp S.t1, kp S.t2, kp S.t3, kp S.t4, kp S.t5, kp S.t6, fun _ => (eval_put _ _ _ (by omega)).trans rfl, kp S.t8, kp S.t9, kp S.t10, kp S.t11, kp S.t12, kp S.t13, kp S.t14⟩
    | 8, _, ho, hsi, hT =>
      obtain ⟨e1, e2⟩ := pick_of h8 ho
      have D7 : s 7 = true := list_pos hT (d := 7) (by decide)
      have NL : s 15 = false := list_neg hT (k := 15) (by decide)
      have BW := S.before NL
      have cl := (BW.cell (p := ⟨R, i, none⟩) hR).trans hir
      refine step_val (v := .slice (some ⟨bi, 0, none⟩) N ci) (by simp only [execOp, e1, S.t7 D7]; go_simp) (hK _ _ ?_)
      rw [e2]
      exact ⟨S.off.put (by decide) _, fun _ => S.before NL, fun g => absurd g (by simp [NL]), kp S.t0, kp S.t1, kp S.t2, kp S.t3, kp S.t4, kp S.t5, kp S.t6, kp S.t7, fun _ => (eval_put _ _ _ (by omega)).trans rfl, kp S.t9, kp S.t10, kp S.t11, kp S.t12, kp S.t13, kp S.t14⟩
    | 9, _, ho, hsi, hT =>
      obtain ⟨e1, e2⟩ := pick_of h9 ho
      have NL : s 15 = false := list_neg hT (k := 15) (by decide)
      have BW := S.before NL
      refine step_val (v := .int .i64 (c : Nat)) (by simp only [execOp, e1, y9]; go_simp) (hK _ _ ?_)
      rw [e2]
      exact ⟨S.off.put (by decide) _, fun _ => S.before NL, fun g => absurd g (by simp [NL]), kp S.t0, kp S.t1, kp S.t2, kp S.t3, kp S.t4, kp S.t5, kp S.t6, kp S.t7, kp S.t8, fun _ => (eval_put _ _ _ (by omega)).trans rfl, kp S.t10, kp S.t11, kp S.t12, kp S.t13, kp S.t14⟩
    | 10, _, ho, hsi, hT =>
      obtain ⟨e1, e2⟩ := pick_of h10 ho
      have D8 : s 8 = true := list_pos hT (d := 8) (by decide)
      have D9 : s 9 = true := list_pos hT (d := 9) (by decide)
      have NL : s 15 = false := list_neg hT (k := 15) (by decide)
      have BW := S.before NL
      refine step_val (v := .pointer (some ⟨bi, c, none⟩)) (by simp only [execOp, e1, S.t8 D8, S.t9 D9]; go_simp) (hK _ _ ?_)
      rw [e2]
      exact ⟨S.off.put (by decide) _, fun _ => S.before NL, fun g => absurd g (by simp [NL]), kp S.t0, kp S.t1, kp S.t2, kp S.t3, kp S.t4, kp S.t5, kp S.t6, kp S.t7, kp S.t8, kp S.t9, fun _ => (eval_put _ _ _ (by omega)).trans rfl, kp S.t11, kp S.t12, kp S.t13, kp S.t14⟩
    | 11, _, ho, hsi, hT =>
      obtain ⟨e1, e2⟩ := pick_of h11 ho
      have D10 : s 10 = true := list_pos hT (d := 10) (by decide)
      have NL : s 15 = false := list_neg hT (k := 15) (by decide)
      have BW := S.before NL
      have cl := (hF.below BW).cell hc
      rw [hx] at cl
      refine step_val (v := .int .u8 (x.toNat : Nat)) (by simp only [execOp, e1, S.t10 D10]; go_simp) (hK _ _ ?_)
      rw [e2]
      exact ⟨S.off.put (by decide) _, fun _ => S.before NL, fun g => absurd g (by simp [NL]), kp S.t0, kp S.t1, kp S.t2, kp S.t3, kp S.t4, kp S.t5, kp S.t6, kp S.t7, kp S.t8, kp S.t9, kp S.t10, fun _ => (eval_put _ _ _ (by omega)).trans rfl, kp S.t12, kp S.t13, kp S.t14⟩
    | 12, _, ho, hsi, hT =>
      obtain ⟨e1, e2⟩ := pick_of h12 ho
      have NL : s 15 = false := list_neg hT (k := 15) (by decide)
      have BW := S.before NL
      refine step_val (v := .int .u8 (f.toNat : Nat)) (by simp only [execOp, e1, y7]; go_simp) (hK _ _ ?_)
      rw [e2]
      exact ⟨S.off.put (by decide) _, fun _ => S.before NL, fun g => absurd g (by simp [NL]), kp S.t0, kp S.t1, kp S.t2, kp S.t3, kp S.t4, kp S.t5, kp S.t6, kp S.t7, kp S.t8, kp S.t9, kp S.t10, kp S.t11, fun _ => (eval_put _ _ _ (by omega)).trans rfl, kp S.t13, kp S.t14⟩
    | 13, _, ho, hsi, hT =>
      obtain ⟨e1, e2⟩ := pick_of h13 ho
      have D11 : s 11 = true := list_pos hT (d := 11) (by decide)
      have D12 : s 12 = true := list_pos hT (d := 12) (by decide)
      have NL : s 15 = false := list_neg hT (k := 15) (by decide)
      have BW := S.before NL
      refine step_call 45 (fun args w => by go_simp) _ _ e1 #[.int .u8 (x.toNat : Nat), .int .u8 (f.toNat : Nat)] (by simp only [List.map_toArray, List.map_cons, List.map_nil, S.t11 D11, S.t12 D12]) ((rmulB x f _).mono ?_)
      rintro e w2 ⟨rfl, BB⟩
      refine ⟨_, rfl, hK _ _ ?_⟩
      rw [e2]
      exact ⟨S.off.put (by decide) _, fun _ => bt BW BB, fun g => absurd g (by simp [NL]), kp S.t0, kp S.t1, kp S.t2, kp S.t3, kp S.t4, kp S.t5, kp S.t6, kp S.t7, kp S.t8, kp S.t9, kp S.t10, kp S.t11, kp S.t12, fun _ => (eval_put _ _ _ (by omega)).trans rfl, kp S.t14⟩
    | 14, _, ho, hsi, hT =>
      obtain ⟨e1, e2⟩ := pick_of h14 ho
      have D3 : s 3 = true := list_pos hT (d := 3) (by decide)
      have D4 : s 4 = true := list_pos hT (d := 4) (by decide)
      have NL : s 15 = false := list_neg hT (k := 15) (by decide)
      have BW := S.before NL
      refine step_val (v := .pointer (some ⟨bi, c, none⟩)) (by simp only [execOp, e1, S.t3 D3, S.t4 D4]; go_simp) (hK _ _ ?_)
      rw [e2]
      exact ⟨S.off.put (by decide) _, fun _ => S.before NL, fun g => absurd g (by simp [NL]), kp S.t0, kp S.t1, kp S.t2, kp S.t3, kp S.t4, kp S.t5, kp S.t6, kp S.t7, kp S.t8, kp S.t9, kp S.t10, kp S.t11, kp S.t12, kp S.t13, fun _ => (eval_put _ _ _ (by omega)).trans rfl⟩
    | 15, _, ho, hsi, hT =>
      obtain ⟨e1, e2⟩ := pick_of h15 ho
      have D0 : s 0 = true := list_pos hT (d := 0) (by decide)
      have D1 : s 1 = true := list_pos hT (d := 1) (by decide)
      have D2 : s 2 = true := list_pos hT (d := 2) (by decide)
      have D3 : s 3 = true := list_pos hT (d := 3) (by decide)
      have D4 : s 4 = true := list_pos hT (d := 4) (by decide)
      have D5 : s 5 = true := list_pos hT (d := 5) (by decide)
      have D6 : s 6 = true := list_pos hT (d := 6) (by decide)
      have D7 : s 7 = true := list_pos hT (d := 7) (by decide)
      have D8 : s 8 = true := list_pos hT (d := 8) (by decide)
      have D9 : s 9 = true := list_pos hT (d := 9) (by decide)
      have D10 : s 10 = true := list_pos hT (d := 10) (by decide)
      have D11 : s 11 = true := list_pos hT (d := 11) (by decide)
      have D12 : s 12 = true := list_pos hT (d := 12) (by decide)
      have D13 : s 13 = true := list_pos hT (d := 13) (by decide)
      have D14 : s 14 = true := list_pos hT (d := 14) (by decide)
      have BW := S.before hsi
      have cl := (hF.below BW).cell hc
      have fz := (hF.below BW).frozen hc
      refine step_to (w2 := w'.setCell ⟨bi, c, none⟩ (.int .u8 ((Gal.mul x f).toNat : Nat))) (by simp only [execOp, e1, S.t14 D14, S.t13 D13]; go_simp) (hK _ _ ?_)
      rw [e2]
      exact ⟨S.off.put_none _, fun g => absurd g (by simp), fun _ => ⟨w', BW, rfl⟩, fun g => S.t0 (by simpa using g), fun g => S.t1 (by simpa using g), fun g => S.t2 (by simpa using g), fun g => S.t3 (by simpa using g), fun g => S.t4 (by simpa using g), fun g => S.t5 (by simpa using g), fun g => S.t6 (by simpa using g), fun g => S.t7 (by simpa using g), fun g => S.t8 (by simpa using g), fun g => S.t9 (by simpa using g), fun g => S.t10 (by simpa using g), fun g => S.t11 (by simpa using g), fun g => S.t12 (by simpa using g), fun g => S.t13 (by simpa using g), fun g => S.t14 (by simpa using g)⟩
    | _ + 16, il, _, _, _ => exact absurd il (by omega)
  · intro s a w' S hall
    have a0 := hall 0 (by omega)
    have a1 := hall 1 (by omega)
    have a2 := hall 2 (by omega)
    have a3 := hall 3 (by omega)
    have a4 := hall 4 (by omega)
    have a5 := hall 5 (by omega)
    have a6 := hall 6 (by omega)
    have a7 := hall 7 (by omega)
    have a8 := hall 8 (by omega)
    have a9 := hall 9 (by omega)
    have a10 := hall 10 (by omega)
    have a11 := hall 11 (by omega)
    have a12 := hall 12 (by omega)
    have a13 := hall 13 (by omega)
    have a14 := hall 14 (by omega)
    have a15 := hall 15 (by omega)
    have e := off_norm _ (by intro d hd; simp at hd; omega) S.off
    simp only [List.foldl, S.t0 a0, S.t1 a1, S.t2 a2, S.t3 a3, S.t4 a4, S.t5 a5, S.t6 a6, S.t7 a7, S.t8 a8, S.t9 a9, S.t10 a10, S.t11 a11, S.t12 a12, S.t13 a13, S.t14 a14] at e
    obtain ⟨w1, BW, rfl⟩ := S.behind a15
    rw [e]
    exact h _ BW
structure LessRegion (R n C N i r c bi ci br cr : Nat) (f y z : BitVec 8) (m mr : Nat → Nat) (A : Act) (w0 : World) (s : Nat → Bool) (a : Act) (w : World) : Prop where
  off : Off [108, 109, 110, 111, 112, 113, 114, 115, 116, 117, 118, 119, 120, 121, 122, 123, 124, 125, 126, 127, 128, 129, 130] a A
  before : s 23 = false → Below w0.heap.size w0 w
  behind : s 23 = true → ∃ w1, Below w0.heap.size w0 w1 ∧ w = w1.setCell ⟨br, c, none⟩ (.int .u8 ((y ^^^ Gal.mul f z).toNat : Nat))
  t0 : s 0 = true → a.eval (.tmp 108) = .slice (some ⟨R, 0, none⟩) n C
  t1 : s 1 = true → a.eval (.tmp 109) = .int .i64 (r : Nat)
  t2 : s 2 = true → a.eval (.tmp 110) = .pointer (some ⟨R, r, none⟩)
  t3 : s 3 = true → a.eval (.tmp 111) = .slice (some ⟨br, 0, none⟩) N cr
  t4 : s 4 = true → a.eval (.tmp 112) = .int .i64 (c : Nat)
  t5 : s 5 = true → a.eval (.tmp 113) = .slice (some ⟨R, 0, none⟩) n C
  t6 : s 6 = true → a.eval (.tmp 114) = .int .i64 (r : Nat)
  t7 : s 7 = true → a.eval (.tmp 115) = .pointer (some ⟨R, r, none⟩)
  t8 : s 8 = true → a.eval (.tmp 116) = .slice (some ⟨br, 0, none⟩) N cr
  t9 : s 9 = true → a.eval (.tmp 117) = .int .i64 (c : Nat)
  t10 : s 10 = true → a.eval (.tmp 118) = .pointer (some ⟨br, c, none⟩)
  t11 : s 11 = true → a.eval (.tmp 119) = .int .u8 (y.toNat : Nat)
  t12 : s 12 = true → a.eval (.tmp 120) = .int .u8 (f.toNat : Nat)
  t13 : s 13 = true → a.eval (.tmp 121) = .slice (some ⟨R, 0, none⟩) n C
  t14 : s 14 = true → a.eval (.tmp 122) = .int .i64 (i : Nat)
  t15 : s 15 = true → a.eval (.tmp 123) = .pointer (some ⟨R, i, none⟩)
  t16 : s 16 = true → a.eval (.tmp 124) = .slice (some ⟨bi, 0, none⟩) N ci
  t17 : s 17 = true → a.eval (.tmp 125) = .int .i64 (c : Nat)
  t18 : s 18 = true → a.eval (.tmp 126) = .pointer (some ⟨bi, c, none⟩)
  t19 : s 19 = true → a.eval (.tmp 127) = .int .u8 (z.toNat : Nat)
  t20 : s 20 = true → a.eval (.tmp 128) = .int .u8 ((Gal.mul f z).toNat : Nat)
  t21 : s 21 = true → a.eval (.tmp 129) = .int .u8 ((y ^^^ Gal.mul f z).toNat : Nat)
  t22 : s 22 = true → a.eval (.tmp 130) = .pointer (some ⟨br, c, none⟩)
set_option maxHeartbeats 2000000 in
set_option maxRecDepth 100000 in
theorem lessRegion {id : Nat} {d : Bool} {l : List Oper} {A : Act} {w : World} {Q : Exit → Act → World → Prop} (R n C N i r c bi ci br cr : Nat) (f y z : BitVec 8) (m mr : Nat → Nat)
    (hi : i < n) (hr : r < n) (hn : n ≤ 1000) (hN : N ≤ 1000) (hc : c < N) (hR : R < w.heap.size) (hir : w.cell? ⟨R, i, none⟩ = some (.slice (some ⟨bi, 0, none⟩) N ci)) (hrr : w.cell? ⟨R, r, none⟩ = some (.slice (some ⟨br, 0, none⟩) N cr)) (hF : NumsK .u8 w bi N m) (hFr : NumsK .u8 w br N mr) (hy : mr c = y.toNat) (hz : m c = z.toNat)
    (hB : tableL d l.toArray (fun i => match i with | 0 => [] | 1 => [] | 2 => [0, 1] | 3 => [2] | 4 => [] | 5 => [] | 6 => [] | 7 => [5, 6] | 8 => [7] | 9 => [] | 10 => [8, 9] | 11 => [10] | 12 => [] | 13 => [] | 14 => [] | 15 => [13, 14] | 16 => [15] | 17 => [] | 18 => [16, 17] | 19 => [18] | 20 => [12, 19] | 21 => [11, 20] | 22 => [3, 4] | 23 => [0, 1, 2, 3, 4, 5, 6, 7, 8, 9, 10, 11, 12, 13, 14, 15, 16, 17, 18, 19, 20, 21, 22] | _ => []) (fun i => match i with | 0 => [23] | 1 => [23] | 2 => [23] | 3 => [23] | 4 => [23] | 5 => [23] | 6 => [23] | 7 => [23] | 8 => [23] | 9 => [23] | 10 => [23] | 11 => [23] | 12 => [23] | 13 => [23] | 14 => [23] | 15 => [23] | 16 => [23] | 17 => [23] | 18 => [23] | 19 => [23] | 20 => [23] | 21 => [23] | 22 => [23] | 23 => [] | _ => []) = true) (hl : l.length = 24)
    (h0 : pick l 0 = some (.move (.tmp 0), some 108))
    (h1 : pick l 1 = some (.move (.tmp 10), some 109))
    (h2 : pick l 2 = some (.indexAddr 76 (.tmp 108) (.tmp 109), some 110))
    (h3 : pick l 3 = some (.load 41 (.tmp 110), some 111))
    (h4 : pick l 4 = some (.move (.tmp 12), some 112))
    (h5 : pick l 5 = some (.move (.tmp 0), some 113))
    (h6 : pick l 6 = some (.move (.tmp 10), some 114))
    (h7 : pick l 7 = some (.indexAddr 76 (.tmp 113) (.tmp 114), some 115))
    (h8 : pick l 8 = some (.load 41 (.tmp 115), some 116))
    (h9 : pick l 9 = some (.move (.tmp 12), some 117))
    (h10 : pick l 10 = some (.indexAddr 41 (.tmp 116) (.tmp 117), some 118))
    (h11 : pick l 11 = some (.load 5 (.tmp 118), some 119))
    (h12 : pick l 12 = some (.move (.tmp 11), some 120))
    (h13 : pick l 13 = some (.move (.tmp 0), some 121))
    (h14 : pick l 14 = some (.move (.tmp 5), some 122))
    (h15 : pick l 15 = some (.indexAddr 76 (.tmp 121) (.tmp 122), some 123))
    (h16 : pick l 16 = some (.load 41 (.tmp 123), some 124))
    (h17 : pick l 17 = some (.move (.tmp 12), some 125))
    (h18 : pick l 18 = some (.indexAddr 41 (.tmp 124) (.tmp 125), some 126))
    (h19 : pick l 19 = some (.load 5 (.tmp 126), some 127))
    (h20 : pick l 20 = some (.call { callee := .value (.func 45), args := #[.tmp 120, .tmp 127], argTypes := #[5, 5] }, some 128))
    (h21 : pick l 21 = some (.binOp .xor 5 (.tmp 119) (.tmp 128) 5, some 129))
    (h22 : pick l 22 = some (.indexAddr 41 (.tmp 111) (.tmp 112), some 130))
    (h23 : pick l 23 = some (.store 5 (.tmp 130) (.tmp 129), none))
    (hs : A.tmps.size = 147)
    (x0 : A.eval (.tmp 0) = .slice (some ⟨R, 0, none⟩) n C)
    (x5 : A.eval (.tmp 5) = .int .i64 (i : Nat))
    (x10 : A.eval (.tmp 10) = .int .i64 (r : Nat))
    (x11 : A.eval (.tmp 11) = .int .u8 (f.toNat : Nat))
    (x12 : A.eval (.tmp 12) = .int .i64 (c : Nat))
    (h : ∀ w1, Below w.heap.size w w1 → Q .normal (((((((((((((((((((((((A.put (some 108) (.slice (some ⟨R, 0, none⟩) n C)).put (some 109) (.int .i64 (r : Nat))).put (some 110) (.pointer (some ⟨R, r, none⟩))).put (some 111) (.slice (some ⟨br, 0, none⟩) N cr)).put (some 112) (.int .i64 (c : Nat))).put (some 113) (.slice (some ⟨R, 0, none⟩) n C)).put (some 114) (.int .i64 (r : Nat))).put (some 115) (.pointer (some ⟨R, r, none⟩))).put (some 116) (.slice (some ⟨br, 0, none⟩) N cr)).put (some 117) (.int .i64 (c : Nat))).put (some 118) (.pointer (some ⟨br, c, none⟩))).put (some 119) (.int .u8 (y.toNat : Nat))).put (some 120) (.int .u8 (f.toNat : Nat))).put (some 121) (.slice (some ⟨R, 0, none⟩) n C)).put (some 122) (.int .i64 (i : Nat))).put (some 123) (.pointer (some ⟨R, i, none⟩))).put (some 124) (.slice (some ⟨bi, 0, none⟩) N ci)).put (some 125) (.int .i64 (c : Nat))).put (some 126) (.pointer (some ⟨bi, c, none⟩))).put (some 127) (.int .u8 (z.toNat : Nat))).put (some 128) (.int .u8 ((Gal.mul f z).toNat : Nat))).put (some 129) (.int .u8 ((y ^^^ Gal.mul f z).toNat : Nat))).put (some 130) (.pointer (some ⟨br, c, none⟩))) (w1.setCell ⟨br, c, none⟩ (.int .u8 ((y ^^^ Gal.mul f z).toNat : Nat)))) :
    (Code.region id l.toArray d).wp Tryz.prog Q A w := by
  refine wp_region_invL (by kernel_rfl) _ _ hB (LessRegion R n C N i r c bi ci br cr f y z m mr A w) ⟨Off.refl _ _, fun _ => Below.refl _ _, by simp, by simp, by simp, by simp, by simp, by simp, by simp, by simp, by simp, by simp, by simp, by simp, by simp, by simp, by simp, by simp, by simp, by simp, by simp, by simp, by simp, by simp, by simp, by simp⟩ ⟨Off.refl _ _, fun _ => (Below.refl _ _).drew, by simp, by simp, by simp, by simp, by simp, by simp, by simp, by simp, by simp, by simp, by simp, by simp, by simp, by simp, by simp, by simp, by simp, by simp, by simp, by simp, by simp, by simp, by simp, by simp⟩ ?_ ?_
  · intro s a w' S i' o ho hsi hT K hK
    have sz : a.tmps.size = 147 := by rw [S.off.2.1]; exact hs
    have il : i' < 24 := by have := (List.getElem?_eq_some_iff.1 ho).1; omega
    have y0 : a.eval (.tmp 0) = .slice (some ⟨R, 0, none⟩) n C := by rw [S.off.eval (by decide)]; exact x0
    have y5 : a.eval (.tmp 5) = .int .i64 (i : Nat) := by rw [S.off.eval (by decide)]; exact x5
    have y10 : a.eval (.tmp 10) = .int .i64 (r : Nat) := by rw [S.off.eval (by decide)]; exact x10
    have y11 : a.eval (.tmp 11) = .int .u8 (f.toNat : Nat) := by rw [S.off.eval (by decide)]; exact x11
    have y12 : a.eval (.tmp 12) = .int .i64 (c : Nat) := by rw [S.off.eval (by decide)]; exact x12
    match i', il, ho, hsi, hT with
    | 0, _, ho, hsi, hT =>
      obtain ⟨e1, e2⟩ := pick_of h0 ho
      have NL : s 23 = false := list_neg hT (k := 23) (by decide)
      have BW := S.before NL
      refine step_val (v := .slice (some ⟨R, 0, none⟩) n C) (by simp only [execOp, e1, y0]; go_simp) (hK _ _ ?_)
      rw [e2]
      exact ⟨S.off.put (by decide) _, fun _ => S.before NL, fun g => absurd g (by simp [NL]), fun _ => (eval_put _ _ _ (by omega)).trans rfl, kp S.t1, kp S.t2, kp S.t3, kp S.t4, kp S.t5, kp S.t6, kp S.t7, kp S.t8, kp S.t9, kp S.t10, kp S.t11, kp S.t12, kp S.t13, kp S.t14, kp S.t15, kp S.t16, kp S.t17, kp S.t18, kp S.t19, kp S.t20, kp S.t21, kp S.t22⟩
    | 1, _, ho, hsi, hT =>
      obtain ⟨e1, e2⟩ := pick_of h1 ho
      have NL : s 23 = false := list_neg hT (k := 23) (by decide)
      have BW := S.before NL
      refine step_val (v := .int .i64 (r : Nat)) (by simp only [execOp, e1, y10]; go_simp) (hK _ _ ?_)
      rw [e2]
      exact ⟨S.off.put (by decide) _, fun _ => S.before NL, fun g => absurd g (by simp [NL]), kp S.t0, fun _ => (eval_put _ _ _ (by omega)).trans rfl, kp S.t2, kp S.t3, kp S.t4, kp S.t5, kp S.t6, kp S.t7, kp S.t8, kp S.t9, kp S.t10, kp S.t11, kp S.t12, kp S.t13, kp S.t14, kp S.t15, kp S.t16, kp S.t17, kp S.t18, kp S.t19, kp S.t20, kp S.t21, kp S.t22⟩
    | 2, _, ho, hsi, hT =>
      obtain ⟨e1, e2⟩ := pick_of h2 ho
      have D0 : s 0 = true := list_pos hT (d := 0) (by decide)
      have D1 : s 1 = true := list_pos hT (d := 1) (by decide)
      have NL : s 23 = false := list_neg hT (k := 23) (by decide)
      have BW := S.before NL
      refine step_val (v := .pointer (some ⟨R, r, none⟩)) (by simp only [execOp, e1, S.t0 D0, S.t1 D1]; go_simp) (hK _ _ ?_)
      rw [e2]
      exact ⟨S.off.put (by decide) _, fun _ => S.before NL, fun g => absurd g (by simp [NL]), kp S.t0, kp S.t1, fun _ => (eval_put _ _ _ (by omega)).trans rfl, kp S.t3, kp S.t4, kp S.t5, kp S.t6, kp S.t7, kp S.t8, kp S.t9, kp S.t10, kp S.t11, kp S.t12, kp S.t13, kp S.t14, kp S.t15, kp S.t16, kp S.t17, kp S.t18, kp S.t19, kp S.t20, kp S.t21, kp S.t22⟩
    | 3, _, ho, hsi, hT =>
      obtain ⟨e1, e2⟩ := pick_of h3 ho
      have D2 : s 2 = true := list_pos hT (d := 2) (by decide)
      have NL : s 23 = false := list_neg hT (k := 23) (by decide)
      have BW := S.before NL
      have cl := (BW.cell (p := ⟨R, r, none⟩) hR).trans hrr
      refine step_val (v := .slice (some ⟨br, 0, none⟩) N cr) (by simp only [execOp, e1, S.t2 D2]; go_simp) (hK _ _ ?_)
      rw [e2]
      exact ⟨S.off.put (by decide) _, fun _ => S.before NL, fun g => absurd g (by simp [NL]), kp S.t0, kp S.t1, kp S.t2, fun _ => (eval_put _ _ _ (by omega)).trans rfl, kp S.t4, kp S.t5, kp S.t6, kp S.t7, kp S.t8, kp S.t9, kp S.t10, kp S.t11, kp S.t12, kp S.t13, kp S.t14, kp S.t15, kp S.t16, kp S.t17, kp S.t18, kp S.t19, kp S.t20, kp S.t21, kp S.t22⟩
    | 4, _, ho, hsi, hT =>
      obtain ⟨e1, e2⟩ := pick_of h4 ho
      have NL : s 23 = false := list_neg hT (k := 23) (by decide)
      have BW := S.before NL
      refine step_val (v := .int .i64 (c : Nat)) (by simp only [execOp, e1, y12]; go_simp) (hK _ _ ?_)
      rw [e2]
      exact ⟨S.off.put (by decide) _, fun _ => S.before NL, fun g => absurd g (by simp [NL]), kp S.t0, kp S.t1, kp S.t2, kp S.t3, fun _ => (eval_put _ _ _ (by omega)).trans rfl, kp S.t5, kp S.t6, kp S.t7, kp S.t8, kp S.t9, kp S.t10, kp S.t11, kp S.t12, kp S.t13, kp S.t14, kp S.t15, kp S.t16, kp S.t17, kp S.t18, kp S.t19, kp S.t20, kp S.t21, kp S.t22⟩
    | 5, _, ho, hsi, hT =>
      obtain ⟨e1, e2⟩ := pick_of h5 ho
      have NL : s 23 = false := list_neg hT (k := 23) (by decide)
      have BW := S.before NL
      refine step_val (v := .slice (some ⟨R, 0, none⟩) n C) (by simp only [execOp, e1, y0]; go_simp) (hK _ _ ?_)
      rw [e2]
      exact ⟨S.off.put (by decide) _, fun _ => S.before NL, fun g => absurd g (by simp [NL]), kp S.t0, kp S.t1, kp S.t2, kp S.t3, kp S.t4, fun _ => (eval_put _ _ _ (by omega)).trans rfl, kp S.t6, kp S.t7, kp S.t8, kp S.t9, kp S.t10, kp S.t11, kp S.t12, kp S.t13, kp S.t14, kp S.t15, kp S.t16, kp S.t17, kp S.t18, kp S.t19, kp S.t20, kp S.t21, kp S.t22⟩
    | 6, _, ho, hsi, hT =>
      obtain ⟨e1, e2⟩ := pick_of h6 ho
      have NL : s 23 = false := list_neg hT (k := 23) (by decide)
      have BW := S.before NL
      refine step_val (v := .int .i64 (r : Nat)) (by simp only [execOp, e1, y10]; go_simp) (hK _ _ ?_)
      rw [e2]
      exact ⟨S.off.put (by decide) _, fun _ => S.before NL, fun g => absurd g (by simp [NL]), kp S.t0, kp S.t1, kp S.t2, kp S.t3, kp S.t4, kp S.t5, fun _ => (eval_put _ _ _ (by omega)).trans rfl, kp S.t7, kp S.t8, kp S.t9, kp S.t10, kp S.t11, kp S.t12, kp S.t13, kp S.t14, kp S.t15, kp S.t16, kp S.t17, kp S.t18, kp S.t19, kp S.t20, kp S.t21, kp S.t22⟩
    | 7, _, ho, hsi, hT =>
      obtain ⟨e1, e2⟩ := pick_of h7 ho
      have D5 : s 5 = true := list_pos hT (d := 5) (by decide)
      have D6 : s 6 = true := list_pos hT (d := 6) (by decide)
      have NL : s 23 = false := list_neg hT (k := 23) (by decide)
      have BW := S.before NL
      refine step_val (v := .pointer (some ⟨R, r, none⟩)) (by simp only [execOp, e1, S.t5 D5, S.t6 D6]; go_simp) (hK _ _ ?_)
      rw [e2]
      exact ⟨S.off.put (by decide) _, fun _ => S.before NL, fun g => absurd g (by simp [NL]), kp S.t0, kp S.t1, kp S.t2, kp S.t3, kp S.t4, kp S.t5, kp S.t6, fun _ => (eval_put _ _ _ (by omega)).trans rfl, kp S.t8, kp S.t9, kp S.t10, kp S.t11, kp S.t12, kp S.t13, kp S.t14, kp S.t15, kp S.t16, kp S.t17, kp S.t18, kp S.t19, kp S.t20, kp S.t21, kp S.t22⟩
    | 8, _, ho, hsi, hT =>
      obtain ⟨e1, e2⟩ := pick_of h8 ho
      have D7 : s 7 = true := list_pos hT (d := 7) (by decide)
      have NL : s 23 = false := list_neg hT (k := 23) (by decide)
      have BW := S.before NL
      have cl := (BW.cell (p := ⟨R, r, none⟩) hR).trans hrr
      refine step_val (v := .slice (some ⟨br, 0, none⟩) N cr) (by simp only [execOp, e1, S.t7 D7]; go_simp) (hK _ _ ?_)
      rw [e2]
      exact ⟨S.off.put (by decide) _, fun _ => S.before NL, fun g => absurd g (by simp [NL]), kp S.t0, kp S.t1, kp S.t2, kp S.t3, kp S.t4, kp S.t5, kp S.t6, kp S.t7, fun _ => (eval_put _ _ _ (by omega)).trans rfl, kp S.t9, kp S.t10, kp S.t11, kp S.t12, kp S.t13, kp S.t14, kp S.t15, kp S.t16, kp S.t17, kp S.t18, kp S.t19, kp S.t20, kp S.t21, kp S.t22⟩
    | 9, _, ho, hsi, hT =>
      obtain ⟨e1, e2⟩ := pick_of h9 ho
      have NL : s 23 = false := list_neg hT (k := 23) (by decide)
      have BW := S.before NL
      refine step_val (v := .int .i64 (c : Nat)) (by simp only [execOp, e1, y12]; go_simp) (hK _ _ ?_)
      rw [e2]
      exact ⟨S.off.put (by decide) _, fun _ => S.before NL, fun g => absurd g (by simp [NL]), kp S.t0, kp S.t1, kp S.t2, kp S.t3, kp S.t4, kp S.t5, kp S.t6, kp S.t7, kp S.t8, fun _ => (eval_put _ _ _ (by omega)).trans rfl, kp S.t10, kp S.t11, kp S.t12, kp S.t13, kp S.t14, kp S.t15, kp S.t16, kp S.t17, kp S.t18, kp S.t19, kp S.t20, kp S.t21, kp S.t22⟩
    | 10, _, ho, hsi, hT =>
      obtain ⟨e1, e2⟩ := pick_of h10 ho
      have D8 : s 8 = true := list_pos hT (d := 8) (by decide)
      have D9 : s 9 = true := list_pos hT (d := 9) (by decide)
      have NL : s 23 = false := list_neg hT (k := 23) (by decide)
      have BW := S.before NL
      refine step_val (v := .pointer (some ⟨br, c, none⟩)) (by simp only [execOp, e1, S.t8 D8, S.t9 D9]; go_simp) (hK _ _ ?_)
      rw [e2]
      exact ⟨S.off.put (by decide) _, fun _ => S.before NL, fun g => absurd g (by simp [NL]), kp S.t0, kp S.t1, kp S.t2, kp S.t3, kp S.t4, kp S.t5, kp S.t6, kp S.t7, kp S.t8, kp S.t9, fun _ => (eval_put _ _ _ (by omega)).trans rfl, kp S.t11, kp S.t12, kp S.t13, kp S.t14, kp S.t15, kp S.t16, kp S.t17, kp S.t18, kp S.t19, kp S.t20, kp S.t21, kp S.t22⟩
    | 11, _, ho, hsi, hT =>
      obtain ⟨e1, e2⟩ := pick_of h11 ho
      have D10 : s 10 = true := list_pos hT (d := 10) (by decide)
      have NL : s 23 = false := list_neg hT (k := 23) (by decide)
      have BW := S.before NL
      have cl := (hFr.below BW).cell hc
      rw [hy] at cl
      refine step_val (v := .int .u8 (y.toNat : Nat)) (by simp only [execOp, e1, S.t10 D10]; go_simp) (hK _ _ ?_)
      rw [e2]
      exact ⟨S.off.put (by decide) _, fun _ => S.before NL, fun g => absurd g (by simp [NL]), kp S.t0, kp S.t1, kp S.t2, kp S.t3, kp S.t4, kp S.t5, kp S.t6, kp S.t7, kp S.t8, kp S.t9, kp S.t10, fun _ => (eval_put _ _ _ (by omega)).trans rfl, kp S.t12, kp S.t13, kp S.t14, kp S.t15, kp S.t16, kp S.t17, kp S.t18, kp S.t19, kp S.t20, kp S.t21, kp S.t22⟩
    | 12, _, ho, hsi, hT =>
      obtain ⟨e1, e2⟩ := pick_of h12 ho
      have NL : s 23 = false := list_neg hT (k := 23) (by decide)
      have BW := S.before NL
      refine step_val (v := .int .u8 (f.toNat : Nat)) (by simp only [execOp, e1, y11]; go_simp) (hK _ _ ?_)
      rw [e2]
      exact ⟨S.off.put (by decide) _, fun _ => S.before NL, fun g => absurd g (by simp [NL]), kp S.t0, kp S.t1, kp S.t2, kp S.t3, kp S.t4, kp S.t5, kp S.t6, kp S.t7, kp S.t8, kp S.t9, kp S.t10, kp S.t11, fun _ => (eval_put _ _ _ (by omega)).trans rfl, kp S.t13, kp S.t14, kp S.t15, kp S.t16, kp S.t17, kp S.t18, kp S.t19, kp S.t20, kp S.t21, kp S.t22⟩
    | 13, _, ho, hsi, hT =>
      obtain ⟨e1, e2⟩ := pick_of h13 ho
      have NL : s 23 = false := list_neg hT (k := 23) (by decide)
      have BW := S.before NL
      refine step_val (v := .slice (some ⟨R, 0, none⟩) n C) (by simp only [execOp, e1, y0]; go_simp) (hK _ _ ?_)
      rw [e2]
      exact ⟨S.off.put (by decide) _, fun _ => S.before NL, fun g => absurd g (by simp [NL]), kp S.t0, kp S.t1, kp S.t2, kp S.t3, kp S.t4, kp S.t5, kp S.t6, kp S.t7, kp S.t8, kp S.t9, kp S.t10, kp S.t11, kp S.t12, fun _ => (eval_put _ _ _ (by omega)).trans rfl, kp S.t14, kp S.t15, kp S.t16, kp S.t17, kp S.t18, kp S.t19, kp S.t20, kp S.t21, kp S.t22⟩
    | 14, _, ho, hsi, hT =>
      obtain ⟨e1, e2⟩ := pick_of h14 ho
      have NL : s 23 = false := list_neg hT (k := 23) (by decide)
      have BW := S.before NL
      refine step_val (v := .int .i64 (i : Nat)) (by simp only [execOp, e1, y5]; go_simp) (hK _ _ ?_)
      rw [e2]
      exact ⟨S.off.put (by decide) _, fun _ => S.before NL, fun g => absurd g (by simp [NL]), kp S.t0, kp S.t1, kp S.t2, kp S.t3, kp S.t4, kp S.t5, kp S.t6, kp S.t7, kp S.t8, kp S.t9, kp S.t10, kp S.t11, kp S.t12, kp S.t13, fun _ => (eval_put _ _ _ (by omega)).trans rfl, kp S.t15, kp S.t16, kp S.t17, kp S.t18, kp S.t19, kp S.t20, kp S.t21, kp S.t22⟩
    | 15, _, ho, hsi, hT =>
      obtain ⟨e1, e2⟩ := pick_of h15 ho
      have D13 : s 13 = true := list_pos hT (d := 13) (by decide)
      have D14 : s 14 = true := list_pos hT (d := 14) (by decide)
      have NL : s 23 = false := list_neg hT (k := 23) (by decide)
      have BW := S.before NL
      refine step_val (v := .pointer (some ⟨R, i, none⟩)) (by simp only [execOp, e1, S.t13 D13, S.t14 D14]; go_simp) (hK _ _ ?_)
      rw [e2]
      exact ⟨S.off.put (by decide) _, fun _ => S.before NL, fun g => absurd g (by simp [NL]), kp S.t0, kp S.t1, kp S.t2, kp S.t3, kp S.t4, kp S.t5, kp S.t6, kp S.t7, kp S.t8, kp S.t9, kp S.t10, kp S.t11, kp S.t12, kp S.t13, kp S.t14, fun _ => (eval_put _ _ _ (by omega)).trans rfl, kp S.t16, kp S.t17, kp S.t18, kp S.t19, kp S.t20, kp S.t21, kp S.t22⟩
    | 16, _, ho, hsi, hT =>
      obtain ⟨e1, e2⟩ := pick_of h16 ho
      have D15 : s 15 = true := list_pos hT (d := 15) (by decide)
      have NL : s 23 = false := list_neg hT (k := 23) (by decide)
      have BW := S.before NL
      have cl := (BW.cell (p := ⟨R, i, none⟩) hR).trans hir
      refine step_val (v := .slice (some ⟨bi, 0, none⟩) N ci) (by simp only [execOp, e1, S.t15 D15]; go_simp) (hK _ _ ?_)
      rw [e2]
      exact ⟨S.off.put (by decide) _, fun _ => S.before NL, fun g => absurd g (by simp [NL]), kp S.t0, kp S.t1, kp S.t2, kp S.t3, kp S.t4, kp S.t5, kp S.t6, kp S.t7, kp S.t8, kp S.t9, kp S.t10, kp S.t11, kp S.t12, kp S.t13, kp S.t14, kp S.t15, fun _ => (eval_put _ _ _ (by omega)).trans rfl, kp S.t17, kp S.t18, kp S.t19, kp S.t20, kp S.t21, kp S.t22⟩
    | 17, _, ho, hsi, hT =>
      obtain ⟨e1, e2⟩ := pick_of h17 ho
      have NL : s 23 = false := list_neg hT (k := 23) (by decide)
      have BW := S.before NL
      refine step_val (v := .int .i64 (c : Nat)) (by simp only [execOp, e1, y12]; go_simp) (hK _ _ ?_)
      rw [e2]
      exact ⟨S.off.put (by decide) _, fun _ => S.before NL, fun g => absurd g (by simp [NL]), kp S.t0, kp S.t1, kp S.t2, kp S.t3, kp S.t4, kp S.t5, kp S.t6, kp S.t7, kp S.t8, kp S.t9, kp S.t10, kp S.t11, kp S.t12, kp S.t13, kp S.t14, kp S.t15, kp S.t16, fun _ => (eval_put _ _ _ (by omega)).trans rfl, kp S.t18, kp S.t19, kp S.t20, kp S.t21, kp S.t22⟩
    | 18, _, ho, hsi, hT =>
      obtain ⟨e1, e2⟩ := pick_of h18 ho
      have D16 : s 16 = true := list_pos hT (d := 16) (by decide)
      have D17 : s 17 = true := list_pos hT (d := 17) (by decide)
      have NL : s 23 = false := list_neg hT (k := 23) (by decide)
      have BW := S.before NL
      refine step_val (v := .pointer (some ⟨bi, c, none⟩)) (by simp only [execOp, e1, S.t16 D16, S.t17 D17]; go_simp) (hK _ _ ?_)
      rw [e2]
      exact ⟨S.off.put (by decide) _, fun _ => S.before NL, fun g => absurd g (by simp [NL]), kp S.t0, kp S.t1, kp S.t2, kp S.t3, kp S.t4, kp S.t5, kp S.t6, kp S.t7, kp S.t8, kp S.t9, kp S.t10, kp S.t11, kp S.t12, kp S.t13, kp S.t14, kp S.t15, kp S.t16, kp S.t17, fun _ => (eval_put _ _ _ (by omega)).trans rfl, kp S.t19, kp S.t20, kp S.t21, kp S.t22⟩
    | 19, _, ho, hsi, hT =>
      obtain ⟨e1, e2⟩ := pick_of h19 ho
      have D18 : s 18 = true := list_pos hT (d := 18) (by decide)
      have NL : s 23 = false := list_neg hT (k := 23) (by decide)
      have BW := S.before NL
      have cl := (hF.below BW).cell hc
      rw [hz] at cl
      refine step_val (v := .int .u8 (z.toNat : Nat)) (by simp only [execOp, e1, S.t18 D18]; go_simp) (hK _ _ ?_)
      rw [e2]
      exact ⟨S.off.put (by decide) _, fun _ => S.before NL, fun g => absurd g (by simp [NL]), kp S.t0, kp S.t1, kp S.t2, kp S.t3, kp S.t4, kp S.t5, kp S.t6, kp S.t7, kp S.t8, kp S.t9, kp S.t10, kp S.t11, kp S.t12, kp S.t13, kp S.t14, kp S.t15, kp S.t16, kp S.t17, kp S.t18, fun _ => (eval_put _ _ _ (by omega)).trans rfl, kp S.t20, kp S.t21, kp S.t22⟩
    | 20, _, ho, hsi, hT =>
      obtain ⟨e1, e2⟩ := pick_of h20 ho
      have D12 : s 12 = true := list_pos hT (d := 12) (by decide)
      have D19 : s 19 = true := list_pos hT (d := 19) (by decide)
      have NL : s 23 = false := list_neg hT (k := 23) (by decide)
      have BW := S.before NL
      refine step_call 45 (fun args w => by go_simp) _ _ e1 #[.int .u8 (f.toNat : Nat), .int .u8 (z.toNat : Nat)] (by simp only [List.map_toArray, List.map_cons, List.map_nil, S.t12 D12, S.t19 D19]) ((rmulB f z _).mono ?_)
      rintro e w2 ⟨rfl, BB⟩
      refine ⟨_, rfl, hK _ _ ?_⟩
      rw [e2]
      exact ⟨S.off.put (by decide) _, fun _ => bt BW BB, fun g => absurd g (by simp [NL]), kp S.t0, kp S.t1, kp S.t2, kp S.t3, kp S.t4, kp S.t5, kp S.t6, kp S.t7, kp S.t8, kp S.t9, kp S.t10, kp S.t11, kp S.t12, kp S.t13, kp S.t14, kp S.t15, kp S.t16, kp S.t17, kp S.t18, kp S.t19, fun _ => (eval_put _ _ _ (by omega)).trans rfl, kp S.t21, kp S.t22⟩
    | 21, _, ho, hsi, hT =>
      obtain ⟨e1, e2⟩ := pick_of h21 ho
      have D11 : s 11 = true := list_pos hT (d := 11) (by decide)
      have D20 : s 20 = true := list_pos hT (d := 20) (by decide)
      have NL : s 23 = false := list_neg hT (k := 23) (by decide)
      have BW := S.before NL
      have xr := xor8 y (Gal.mul f z)
      refine step_val (v := .int .u8 ((y ^^^ Gal.mul f z).toNat : Nat)) (by simp only [execOp, e1, S.t11 D11, S.t20 D20]; go_simp) (hK _ _ ?_)
      rw [e2]
      exact ⟨S.off.put (by decide) _, fun _ => S.before NL, fun g => absurd g (by simp [NL]), kp S.t0, kp S.t1, kp S.t2, kp S.t3, kp S.t4, kp S.t5, kp S.t6, kp S.t7, kp S.t8, kp S.t9, kp S.t10, kp S.t11, kp S.t12, kp S.t13, kp S.t14, kp S.t15, kp S.t16, kp S.t17, kp S.t18, kp S.t19, kp S.t20, fun _ => (eval_put _ _ _ (by omega)).trans rfl, kp S.t22⟩
    | 22, _, ho, hsi, hT =>
      obtain ⟨e1, e2⟩ := pick_of h22 ho
      have D3 : s 3 = true := list_pos hT (d := 3) (by decide)
      have D4 : s 4 = true := list_pos hT (d := 4) (by decide)
      have NL : s 23 = false := list_neg hT (k := 23) (by decide)
      have BW := S.before NL
      refine step_val (v := .pointer (some ⟨br, c, none⟩)) (by simp only [execOp, e1, S.t3 D3, S.t4 D4]; go_simp) (hK _ _ ?_)
      rw [e2]
      exact ⟨S.off.put (by decide) _, fun _ => S.before NL, fun g => absurd g (by simp [NL]), kp S.t0, kp S.t1, kp S.t2, kp S.t3, kp S.t4, kp S.t5, kp S.t6, kp S.t7, kp S.t8, kp S.t9, kp S.t10, kp S.t11, kp S.t12, kp S.t13, kp S.t14, kp S.t15, kp S.t16, kp S.t17, kp S.t18, kp S.t19, kp S.t20, kp S.t21, fun _ => (eval_put _ _ _ (by omega)).trans rfl⟩
    | 23, _, ho, hsi, hT =>
      obtain ⟨e1, e2⟩ := pick_of h23 ho
      have D0 : s 0 = true := list_pos hT (d := 0) (by decide)
      have D1 : s 1 = true := list_pos hT (d := 1) (by decide)
      have D2 : s 2 = true := list_pos hT (d := 2) (by decide)
      have D3 : s 3 = true := list_pos hT (d := 3) (by decide)
      have D4 : s 4 = true := list_pos hT (d := 4) (by decide)
      have D5 : s 5 = true := list_pos hT (d := 5) (by decide)
      have D6 : s 6 = true := list_pos hT (d := 6) (by decide)
      have D7 : s 7 = true := list_pos hT (d := 7) (by decide)
      have D8 : s 8 = true := list_pos hT (d := 8) (by decide)
      have D9 : s 9 = true := list_pos hT (d := 9) (by decide)
      have D10 : s 10 = true := list_pos hT (d := 10) (by decide)
      have D11 : s 11 = true := list_pos hT (d := 11) (by decide)
      have D12 : s 12 = true := list_pos hT (d := 12) (by decide)
      have D13 : s 13 = true := list_pos hT (d := 13) (by decide)
      have D14 : s 14 = true := list_pos hT (d := 14) (by decide)
      have D15 : s 15 = true := list_pos hT (d := 15) (by decide)
      have D16 : s 16 = true := list_pos hT (d := 16) (by decide)
      have D17 : s 17 = true := list_pos hT (d := 17) (by decide)
      have D18 : s 18 = true := list_pos hT (d := 18) (by decide)
      have D19 : s 19 = true := list_pos hT (d := 19) (by decide)
      have D20 : s 20 = true := list_pos hT (d := 20) (by decide)
      have D21 : s 21 = true := list_pos hT (d := 21) (by decide)
      have D22 : s 22 = true := list_pos hT (d := 22) (by decide)
      have BW := S.before hsi
      have cl := (hFr.below BW).cell hc
      have fz := (hFr.below BW).frozen hc
      refine step_to (w2 := w'.setCell ⟨br, c, none⟩ (.int .u8 ((y ^^^ Gal.mul f z).toNat : Nat))) (by simp only [execOp, e1, S.t22 D22, S.t21 D21]; go_simp) (hK _ _ ?_)
      rw [e2]
      exact ⟨S.off.put_none _, fun g => absurd g (by simp), fun _ => ⟨w', BW, rfl⟩, fun g => S.t0 (by simpa using g), fun g => S.t1 (by simpa using g), fun g => S.t2 (by simpa using g), fun g => S.t3 (by simpa using g), fun g => S.t4 (by simpa using g), fun g => S.t5 (by simpa using g), fun g => S.t6 (by simpa using g), fun g => S.t7 (by simpa using g), fun g => S.t8 (by simpa using g), fun g => S.t9 (by simpa using g), fun g => S.t10 (by simpa using g), fun g => S.t11 (by simpa using g), fun g => S.t12 (by simpa using g), fun g => S.t13 (by simpa using g), fun g => S.t14 (by simpa using g), fun g => S.t15 (by simpa using g), fun g => S.t16 (by simpa using g), fun g => S.t17 (by simpa using g), fun g => S.t18 (by simpa using g), fun g => S.t19 (by simpa using g), fun g => S.t20 (by simpa using g), fun g => S.t21 (by simpa using g), fun g => S.t22 (by simpa using g)⟩
    | _ + 24, il, _, _, _ => exact absurd il (by omega)
  · intro s a w' S hall
    have a0 := hall 0 (by omega)
    have a1 := hall 1 (by omega)
    have a2 := hall 2 (by omega)
    have a3 := hall 3 (by omega)
    have a4 := hall 4 (by omega)
    have a5 := hall 5 (by omega)
    have a6 := hall 6 (by omega)
    have a7 := hall 7 (by omega)
    have a8 := hall 8 (by omega)
    have a9 := hall 9 (by omega)
    have a10 := hall 10 (by omega)
    have a11 := hall 11 (by omega)
    have a12 := hall 12 (by omega)
    have a13 := hall 13 (by omega)
    have a14 := hall 14 (by omega)
    have a15 := hall 15 (by omega)
    have a16 := hall 16 (by omega)
    have a17 := hall 17 (by omega)
    have a18 := hall 18 (by omega)
    have a19 := hall 19 (by omega)
    have a20 := hall 20 (by omega)
    have a21 := hall 21 (by omega)
    have a22 := hall 22 (by omega)
    have a23 := hall 23 (by omega)
    have e := off_norm _ (by intro d hd; simp at hd; omega) S.off
    simp only [List.foldl, S.t0 a0, S.t1 a1, S.t2 a2, S.t3 a3, S.t4 a4, S.t5 a5, S.t6 a6, S.t7 a7, S.t8 a8, S.t9 a9, S.t10 a10, S.t11 a11, S.t12 a12, S.t13 a13, S.t14 a14, S.t15 a15, S.t16 a16, S.t17 a17, S.t18 a18, S.t19 a19, S.t20 a20, S.t21 a21, S.t22 a22] at e
    obtain ⟨w1, BW, rfl⟩ := S.behind a23
    rw [e]
    exact h _ BW
theorem swap_cell {w : World} {R k : Nat} {u v : Value} (i : Nat) (h : w.cell? ⟨R, k, none⟩ = some u) : ∃ u', (w.setCell ⟨R, i, none⟩ v).cell? ⟨R, k, none⟩ = some u' := by
  by_cases e : k = i
  · subst e
    exact ⟨v, World.cell?_setCell_same' _ _ _ (by rw [h]; rfl)⟩
  · exact ⟨u, by rw [World.cell?_setCell_other (h := addr_off (fun x => e x.symm))]; exact h⟩
structure SwapRegion (R n C N i k bi ci bk ck : Nat) (A : Act) (w0 : World) (s : Nat → Bool) (a : Act) (w : World) : Prop where
  off : Off [41, 42, 43, 44, 45, 46, 47, 48, 49, 50, 51, 52, 53, 54] a A
  before : s 13 = false → Below w0.heap.size w0 w
  mid : s 13 = true → s 15 = false → ∃ w1, Below w0.heap.size w0 w1 ∧ w = w1.setCell ⟨R, i, none⟩ (.slice (some ⟨bk, 0, none⟩) N ck)
  behind : s 15 = true → ∃ w1, Below w0.heap.size w0 w1 ∧ w = (w1.setCell ⟨R, i, none⟩ (.slice (some ⟨bk, 0, none⟩) N ck)).setCell ⟨R, k, none⟩ (.slice (some ⟨bi, 0, none⟩) N ci)
  t0 : s 0 = true → a.eval (.tmp 41) = .slice (some ⟨R, 0, none⟩) n C
  t1 : s 1 = true → a.eval (.tmp 42) = .int .i64 (i : Nat)
  t2 : s 2 = true → a.eval (.tmp 43) = .slice (some ⟨R, 0, none⟩) n C
  t3 : s 3 = true → a.eval (.tmp 44) = .int .i64 (k : Nat)
  t4 : s 4 = true → a.eval (.tmp 45) = .slice (some ⟨R, 0, none⟩) n C
  t5 : s 5 = true → a.eval (.tmp 46) = .int .i64 (k : Nat)
  t6 : s 6 = true → a.eval (.tmp 47) = .pointer (some ⟨R, k, none⟩)
  t7 : s 7 = true → a.eval (.tmp 48) = .slice (some ⟨bk, 0, none⟩) N ck
  t8 : s 8 = true → a.eval (.tmp 49) = .slice (some ⟨R, 0, none⟩) n C
  t9 : s 9 = true → a.eval (.tmp 50) = .int .i64 (i : Nat)
  t10 : s 10 = true → a.eval (.tmp 51) = .pointer (some ⟨R, i, none⟩)
  t11 : s 11 = true → a.eval (.tmp 52) = .slice (some ⟨bi, 0, none⟩) N ci
  t12 : s 12 = true → a.eval (.tmp 53) = .pointer (some ⟨R, i, none⟩)
  t14 : s 14 = true → a.eval (.tmp 54) = .pointer (some ⟨R, k, none⟩)
set_option maxHeartbeats 2000000 in
set_option maxRecDepth 100000 in
theorem swapRegion {id : Nat} {d : Bool} {l : List Oper} {A : Act} {w : World} {Q : Exit → Act → World → Prop} (R n C N i k bi ci bk ck : Nat)
    (hi : i < n) (hk : k < n) (hn : n ≤ 1000) (hR : R < w.heap.size) (hir : w.cell? ⟨R, i, none⟩ = some (.slice (some ⟨bi, 0, none⟩) N ci)) (hkr : w.cell? ⟨R, k, none⟩ = some (.slice (some ⟨bk, 0, none⟩) N ck)) (hif : w.frozen? ⟨R, i, none⟩ = false) (hkf : w.frozen? ⟨R, k, none⟩ = false)
    (hB : tableL d l.toArray (fun i => match i with | 0 => [] | 1 => [] | 2 => [] | 3 => [] | 4 => [] | 5 => [] | 6 => [4, 5] | 7 => [6] | 8 => [] | 9 => [] | 10 => [8, 9] | 11 => [10] | 12 => [0, 1] | 13 => [0, 1, 4, 5, 6, 7, 8, 9, 10, 11, 12] | 14 => [2, 3] | 15 => [0, 1, 2, 3, 4, 5, 6, 7, 8, 9, 10, 11, 12, 13, 14] | _ => []) (fun i => match i with | 0 => [] | 1 => [] | 2 => [] | 3 => [] | 4 => [] | 5 => [] | 6 => [] | 7 => [13] | 8 => [] | 9 => [] | 10 => [] | 11 => [13] | 12 => [] | 13 => [15] | 14 => [] | 15 => [] | _ => []) = true) (hl : l.length = 16)
    (h0 : pick l 0 = some (.move (.tmp 0), some 41))
    (h1 : pick l 1 = some (.move (.tmp 5), some 42))
    (h2 : pick l 2 = some (.move (.tmp 0), some 43))
    (h3 : pick l 3 = some (.move (.tmp 6), some 44))
    (h4 : pick l 4 = some (.move (.tmp 0), some 45))
    (h5 : pick l 5 = some (.move (.tmp 6), some 46))
    (h6 : pick l 6 = some (.indexAddr 76 (.tmp 45) (.tmp 46), some 47))
    (h7 : pick l 7 = some (.load 41 (.tmp 47), some 48))
    (h8 : pick l 8 = some (.move (.tmp 0), some 49))
    (h9 : pick l 9 = some (.move (.tmp 5), some 50))
    (h10 : pick l 10 = some (.indexAddr 76 (.tmp 49) (.tmp 50), some 51))
    (h11 : pick l 11 = some (.load 41 (.tmp 51), some 52))
    (h12 : pick l 12 = some (.indexAddr 76 (.tmp 41) (.tmp 42), some 53))
    (h13 : pick l 13 = some (.store 41 (.tmp 53) (.tmp 48), none))
    (h14 : pick l 14 = some (.indexAddr 76 (.tmp 43) (.tmp 44), some 54))
    (h15 : pick l 15 = some (.store 41 (.tmp 54) (.tmp 52), none))
    (hs : A.tmps.size = 147)
    (x0 : A.eval (.tmp 0) = .slice (some ⟨R, 0, none⟩) n C)
    (x5 : A.eval (.tmp 5) = .int .i64 (i : Nat))
    (x6 : A.eval (.tmp 6) = .int .i64 (k : Nat))
    (h : ∀ w1, Below w.heap.size w w1 → Q .normal ((((((((((((((A.put (some 41) (.slice (some ⟨R, 0, none⟩) n C)).put (some 42) (.int .i64 (i : Nat))).put (some 43) (.slice (some ⟨R, 0, none⟩) n C)).put (some 44) (.int .i64 (k : Nat))).put (some 45) (.slice (some ⟨R, 0, none⟩) n C)).put (some 46) (.int .i64 (k : Nat))).put (some 47) (.pointer (some ⟨R, k, none⟩))).put (some 48) (.slice (some ⟨bk, 0, none⟩) N ck)).put (some 49) (.slice (some ⟨R, 0, none⟩) n C)).put (some 50) (.int .i64 (i : Nat))).put (some 51) (.pointer (some ⟨R, i, none⟩))).put (some 52) (.slice (some ⟨bi, 0, none⟩) N ci)).put (some 53) (.pointer (some ⟨R, i, none⟩))).put (some 54) (.pointer (some ⟨R, k, none⟩))) ((w1.setCell ⟨R, i, none⟩ (.slice (some ⟨bk, 0, none⟩) N ck)).setCell ⟨R, k, none⟩ (.slice (some ⟨bi, 0, none⟩) N ci))) :
    (Code.region id l.toArray d).wp Tryz.prog Q A w := by
  refine wp_region_invL (by kernel_rfl) _ _ hB (SwapRegion R n C N i k bi ci bk ck A w) ⟨Off.refl _ _, fun _ => Below.refl _ _, by simp, by simp, by simp, by simp, by simp, by simp, by simp, by simp, by simp, by simp, by simp, by simp, by simp, by simp, by simp, by simp⟩ ⟨Off.refl _ _, fun _ => (Below.refl _ _).drew, by simp, by simp, by simp, by simp, by simp, by simp, by simp, by simp, by simp, by simp, by simp, by simp, by simp, by simp, by simp, by simp⟩ ?_ ?_
  · intro s a w' S i' o ho hsi hT K hK
    have sz : a.tmps.size = 147 := by rw [S.off.2.1]; exact hs
    have il : i' < 16 := by have := (List.getElem?_eq_some_iff.1 ho).1; omega
    have y0 : a.eval (.tmp 0) = .slice (some ⟨R, 0, none⟩) n C := by rw [S.off.eval (by decide)]; exact x0
    have y5 : a.eval (.tmp 5) = .int .i64 (i : Nat) := by rw [S.off.eval (by decide)]; exact x5
    have y6 : a.eval (.tmp 6) = .int .i64 (k : Nat) := by rw [S.off.eval (by decide)]; exact x6
    match i', il, ho, hsi, hT with
    | 0, _, ho, hsi, hT =>
      obtain ⟨e1, e2⟩ := pick_of h0 ho
      refine step_val (v := .slice (some ⟨R, 0, none⟩) n C) (by simp only [execOp, e1, y0]; go_simp) (hK _ _ ?_)
      rw [e2]
      exact ⟨S.off.put (by decide) _, fun g => S.before (by simpa using g), fun g h => S.mid (by simpa using g) (by simpa using h), fun g => S.behind (by simpa using g), fun _ => (eval_put _ _ _ (by omega)).trans rfl, kp S.t1, kp S.t2, kp S.t3, kp S.t4, kp S.t5, kp S.t6, kp S.t7, kp S.t8, kp S.t9, kp S.t10, kp S.t11, kp S.t12, kp S.t14⟩
    | 1, _, ho, hsi, hT =>
      obtain ⟨e1, e2⟩ := pick_of h1 ho
      refine step_val (v := .int .i64 (i : Nat)) (by simp only [execOp, e1, y5]; go_simp) (hK _ _ ?_)
      rw [e2]
      exact ⟨S.off.put (by decide) _, fun g => S.before (by simpa using g), fun g h => S.mid (by simpa using g) (by simpa using h), fun g => S.behind (by simpa using g), kp S.t0, fun _ => (eval_put _ _ _ (by omega)).trans rfl, kp S.t2, kp S.t3, kp S.t4, kp S.t5, kp S.t6, kp S.t7, kp S.t8, kp S.t9, kp S.t10, kp S.t11, kp S.t12, kp S.t14⟩
    | 2, _, ho, hsi, hT =>
      obtain ⟨e1, e2⟩ := pick_of h2 ho
      refine step_val (v := .slice (some ⟨R, 0, none⟩) n C) (by simp only [execOp, e1, y0]; go_simp) (hK _ _ ?_)
      rw [e2]
      exact ⟨S.off.put (by decide) _, fun g => S.before (by simpa using g), fun g h => S.mid (by simpa using g) (by simpa using h), fun g => S.behind (by simpa using g), kp S.t0, kp S.t1, fun _ => (eval_put _ _ _ (by omega)).trans rfl, kp S.t3, kp S.t4, kp S.t5, kp S.t6, kp S.t7, kp S.t8, kp S.t9, kp S.t10, kp S.t11, kp S.t12, kp S.t14⟩
    | 3, _, ho, hsi, hT =>
      obtain ⟨e1, e2⟩ := pick_of h3 ho
      refine step_val (v := .int .i64 (k : Nat)) (by simp only [execOp, e1, y6]; go_simp) (hK _ _ ?_)
      rw [e2]
      exact ⟨S.off.put (by decide) _, fun g => S.before (by simpa using g), fun g h => S.mid (by simpa using g) (by simpa using h), fun g => S.behind (by simpa using g), kp S.t0, kp S.t1, kp S.t2, fun _ => (eval_put _ _ _ (by omega)).trans rfl, kp S.t4, kp S.t5, kp S.t6, kp S.t7, kp S.t8, kp S.t9, kp S.t10, kp S.t11, kp S.t12, kp S.t14⟩
    | 4, _, ho, hsi, hT =>
      obtain ⟨e1, e2⟩ := pick_of h4 ho
      refine step_val (v := .slice (some ⟨R, 0, none⟩) n C) (by simp only [execOp, e1, y0]; go_simp) (hK _ _ ?_)
      rw [e2]
      exact ⟨S.off.put (by decide) _, fun g => S.before (by simpa using g), fun g h => S.mid (by simpa using g) (by simpa using h), fun g => S.behind (by simpa using g), kp S.t0, kp S.t1, kp S.t2, kp S.t3, fun _ => (eval_put _ _ _ (by omega)).trans rfl, kp S.t5, kp S.t6, kp S.t7, kp S.t8, kp S.t9, kp S.t10, kp S.t11, kp S.t12, kp S.t14⟩
    | 5, _, ho, hsi, hT =>
      obtain ⟨e1, e2⟩ := pick_of h5 ho
      refine step_val (v := .int .i64 (k : Nat)) (by simp only [execOp, e1, y6]; go_simp) (hK _ _ ?_)
      rw [e2]
      exact ⟨S.off.put (by decide) _, fun g => S.before (by simpa using g), fun g h => S.mid (by simpa using g) (by simpa using h), fun g => S.behind (by simpa using g), kp S.t0, kp S.t1, kp S.t2, kp S.t3, kp S.t4, fun _ => (eval_put _ _ _ (by omega)).trans rfl, kp S.t6, kp S.t7, kp S.t8, kp S.t9, kp S.t10, kp S.t11, kp S.t12, kp S.t14⟩
    | 6, _, ho, hsi, hT =>
      obtain ⟨e1, e2⟩ := pick_of h6 ho
      have D4 : s 4 = true := list_pos hT (d := 4) (by decide)
      have D5 : s 5 = true := list_pos hT (d := 5) (by decide)
      refine step_val (v := .pointer (some ⟨R, k, none⟩)) (by simp only [execOp, e1, S.t4 D4, S.t5 D5]; go_simp) (hK _ _ ?_)
      rw [e2]
      exact ⟨S.off.put (by decide) _, fun g => S.before (by simpa using g), fun g h => S.mid (by simpa using g) (by simpa using h), fun g => S.behind (by simpa using g), kp S.t0, kp S.t1, kp S.t2, kp S.t3, kp S.t4, kp S.t5, fun _ => (eval_put _ _ _ (by omega)).trans rfl, kp S.t7, kp S.t8, kp S.t9, kp S.t10, kp S.t11, kp S.t12, kp S.t14⟩
    | 7, _, ho, hsi, hT =>
      obtain ⟨e1, e2⟩ := pick_of h7 ho
      have D6 : s 6 = true := list_pos hT (d := 6) (by decide)
      have N13 : s 13 = false := list_neg hT (k := 13) (by decide)
      have BW := S.before N13
      have cl := (BW.cell (p := ⟨R, k, none⟩) hR).trans hkr
      refine step_val (v := .slice (some ⟨bk, 0, none⟩) N ck) (by simp only [execOp, e1, S.t6 D6]; go_simp) (hK _ _ ?_)
      rw [e2]
      exact ⟨S.off.put (by decide) _, fun g => S.before (by simpa using g), fun g h => S.mid (by simpa using g) (by simpa using h), fun g => S.behind (by simpa using g), kp S.t0, kp S.t1, kp S.t2, kp S.t3, kp S.t4, kp S.t5, kp S.t6, fun _ => (eval_put _ _ _ (by omega)).trans rfl, kp S.t8, kp S.t9, kp S.t10, kp S.t11, kp S.t12, kp S.t14⟩
    | 8, _, ho, hsi, hT =>
      obtain ⟨e1, e2⟩ := pick_of h8 ho
      refine step_val (v := .slice (some ⟨R, 0, none⟩) n C) (by simp only [execOp, e1, y0]; go_simp) (hK _ _ ?_)
      rw [e2]
      exact ⟨S.off.put (by decide) _, fun g => S.before (by simpa using g), fun g h => S.mid (by simpa using g) (by simpa using h), fun g => S.behind (by simpa using g), kp S.t0, kp S.t1, kp S.t2, kp S.t3, kp S.t4, kp S.t5, kp S.t6, kp S.t7, fun _ => (eval_put _ _ _ (by omega)).trans rfl, kp S.t9, kp S.t10, kp S.t11, kp S.t12, kp S.t14⟩
    | 9, _, ho, hsi, hT =>
      obtain ⟨e1, e2⟩ := pick_of h9 ho
      refine step_val (v := .int .i64 (i : Nat)) (by simp only [execOp, e1, y5]; go_simp) (hK _ _ ?_)
      rw [e2]
      exact ⟨S.off.put (by decide) _, fun g => S.before (by simpa using g), fun g h => S.mid (by simpa using g) (by simpa using h), fun g => S.behind (by simpa using g), kp S.t0, kp S.t1, kp S.t2, kp S.t3, kp S.t4, kp S.t5, kp S.t6, kp S.t7, kp S.t8, fun _ => (eval_put _ _ _ (by omega)).trans rfl, kp S.t10, kp S.t11, kp S.t12, kp S.t14⟩
    | 10, _, ho, hsi, hT =>
      obtain ⟨e1, e2⟩ := pick_of h10 ho
      have D8 : s 8 = true := list_pos hT (d := 8) (by decide)
      have D9 : s 9 = true := list_pos hT (d := 9) (by decide)
      refine step_val (v := .pointer (some ⟨R, i, none⟩)) (by simp only [execOp, e1, S.t8 D8, S.t9 D9]; go_simp) (hK _ _ ?_)
      rw [e2]
      exact ⟨S.off.put (by decide) _, fun g => S.before (by simpa using g), fun g h => S.mid (by simpa using g) (by simpa using h), fun g => S.behind (by simpa using g), kp S.t0, kp S.t1, kp S.t2, kp S.t3, kp S.t4, kp S.t5, kp S.t6, kp S.t7, kp S.t8, kp S.t9, fun _ => (eval_put _ _ _ (by omega)).trans rfl, kp S.t11, kp S.t12, kp S.t14⟩
    | 11, _, ho, hsi, hT =>
      obtain ⟨e1, e2⟩ := pick_of h11 ho
      have D10 : s 10 = true := list_pos hT (d := 10) (by decide)
      have N13 : s 13 = false := list_neg hT (k := 13) (by decide)
      have BW := S.before N13
      have cl := (BW.cell (p := ⟨R, i, none⟩) hR).trans hir
      refine step_val (v := .slice (some ⟨bi, 0, none⟩) N ci) (by simp only [execOp, e1, S.t10 D10]; go_simp) (hK _ _ ?_)
      rw [e2]
      exact ⟨S.off.put (by decide) _, fun g => S.before (by simpa using g), fun g h => S.mid (by simpa using g) (by simpa using h), fun g => S.behind (by simpa using g), kp S.t0, kp S.t1, kp S.t2, kp S.t3, kp S.t4, kp S.t5, kp S.t6, kp S.t7, kp S.t8, kp S.t9, kp S.t10, fun _ => (eval_put _ _ _ (by omega)).trans rfl, kp S.t12, kp S.t14⟩
    | 12, _, ho, hsi, hT =>
      obtain ⟨e1, e2⟩ := pick_of h12 ho
      have D0 : s 0 = true := list_pos hT (d := 0) (by decide)
      have D1 : s 1 = true := list_pos hT (d := 1) (by decide)
      refine step_val (v := .pointer (some ⟨R, i, none⟩)) (by simp only [execOp, e1, S.t0 D0, S.t1 D1]; go_simp) (hK _ _ ?_)
      rw [e2]
      exact ⟨S.off.put (by decide) _, fun g => S.before (by simpa using g), fun g h => S.mid (by simpa using g) (by simpa using h), fun g => S.behind (by simpa using g), kp S.t0, kp S.t1, kp S.t2, kp S.t3, kp S.t4, kp S.t5, kp S.t6, kp S.t7, kp S.t8, kp S.t9, kp S.t10, kp S.t11, fun _ => (eval_put _ _ _ (by omega)).trans rfl, kp S.t14⟩
    | 13, _, ho, hsi, hT =>
      obtain ⟨e1, e2⟩ := pick_of h13 ho
      have D0 : s 0 = true := list_pos hT (d := 0) (by decide)
      have D1 : s 1 = true := list_pos hT (d := 1) (by decide)
      have D4 : s 4 = true := list_pos hT (d := 4) (by decide)
      have D5 : s 5 = true := list_pos hT (d := 5) (by decide)
      have D6 : s 6 = true := list_pos hT (d := 6) (by decide)
      have D7 : s 7 = true := list_pos hT (d := 7) (by decide)
      have D8 : s 8 = true := list_pos hT (d := 8) (by decide)
      have D9 : s 9 = true := list_pos hT (d := 9) (by decide)
      have D10 : s 10 = true := list_pos hT (d := 10) (by decide)
      have D11 : s 11 = true := list_pos hT (d := 11) (by decide)
      have D12 : s 12 = true := list_pos hT (d := 12) (by decide)
      have N15 : s 15 = false := list_neg hT (k := 15) (by decide)
      have BW := S.before hsi
      have cl := (BW.cell (p := ⟨R, i, none⟩) hR).trans hir
      have fz := (BW.frozen (p := ⟨R, i, none⟩) hR).trans hif
      refine step_to (w2 := w'.setCell ⟨R, i, none⟩ (.slice (some ⟨bk, 0, none⟩) N ck)) (by simp only [execOp, e1, S.t12 D12, S.t7 D7]; go_simp) (hK _ _ ?_)
      rw [e2]
      exact ⟨S.off.put_none _, fun g => absurd g (by simp), fun _ _ => ⟨w', BW, rfl⟩, fun g => absurd g (by simp [N15]), fun g => S.t0 (by simpa using g), fun g => S.t1 (by simpa using g), fun g => S.t2 (by simpa using g), fun g => S.t3 (by simpa using g), fun g => S.t4 (by simpa using g), fun g => S.t5 (by simpa using g), fun g => S.t6 (by simpa using g), fun g => S.t7 (by simpa using g), fun g => S.t8 (by simpa using g), fun g => S.t9 (by simpa using g), fun g => S.t10 (by simpa using g), fun g => S.t11 (by simpa using g), fun g => S.t12 (by simpa using g), fun g => S.t14 (by simpa using g)⟩
    | 14, _, ho, hsi, hT =>
      obtain ⟨e1, e2⟩ := pick_of h14 ho
      have D2 : s 2 = true := list_pos hT (d := 2) (by decide)
      have D3 : s 3 = true := list_pos hT (d := 3) (by decide)
      refine step_val (v := .pointer (some ⟨R, k, none⟩)) (by simp only [execOp, e1, S.t2 D2, S.t3 D3]; go_simp) (hK _ _ ?_)
      rw [e2]
      exact ⟨S.off.put (by decide) _, fun g => S.before (by simpa using g), fun g h => S.mid (by simpa using g) (by simpa using h), fun g => S.behind (by simpa using g), kp S.t0, kp S.t1, kp S.t2, kp S.t3, kp S.t4, kp S.t5, kp S.t6, kp S.t7, kp S.t8, kp S.t9, kp S.t10, kp S.t11, kp S.t12, fun _ => (eval_put _ _ _ (by omega)).trans rfl⟩
    | 15, _, ho, hsi, hT =>
      obtain ⟨e1, e2⟩ := pick_of h15 ho
      have D0 : s 0 = true := list_pos hT (d := 0) (by decide)
      have D1 : s 1 = true := list_pos hT (d := 1) (by decide)
      have D2 : s 2 = true := list_pos hT (d := 2) (by decide)
      have D3 : s 3 = true := list_pos hT (d := 3) (by decide)
      have D4 : s 4 = true := list_pos hT (d := 4) (by decide)
      have D5 : s 5 = true := list_pos hT (d := 5) (by decide)
      have D6 : s 6 = true := list_pos hT (d := 6) (by decide)
      have D7 : s 7 = true := list_pos hT (d := 7) (by decide)
      have D8 : s 8 = true := list_pos hT (d := 8) (by decide)
      have D9 : s 9 = true := list_pos hT (d := 9) (by decide)
      have D10 : s 10 = true := list_pos hT (d := 10) (by decide)
      have D11 : s 11 = true := list_pos hT (d := 11) (by decide)
      have D12 : s 12 = true := list_pos hT (d := 12) (by decide)
      have D13 : s 13 = true := list_pos hT (d := 13) (by decide)
      have D14 : s 14 = true := list_pos hT (d := 14) (by decide)
      obtain ⟨w1, BW, rfl⟩ := S.mid D13 hsi
      have cl := swap_cell (v := .slice (some ⟨bk, 0, none⟩) N ck) i ((BW.cell (p := ⟨R, k, none⟩) hR).trans hkr)
      have fz : (w1.setCell ⟨R, i, none⟩ (.slice (some ⟨bk, 0, none⟩) N ck)).frozen? ⟨R, k, none⟩ = false := by rw [World.frozen?_setCell]; exact (BW.frozen (p := ⟨R, k, none⟩) hR).trans hkf
      obtain ⟨u, hu⟩ := cl
      refine step_to (w2 := (w1.setCell ⟨R, i, none⟩ (.slice (some ⟨bk, 0, none⟩) N ck)).setCell ⟨R, k, none⟩ (.slice (some ⟨bi, 0, none⟩) N ci)) (by simp only [execOp, e1, S.t14 D14, S.t11 D11]; go_simp) (hK _ _ ?_)
      rw [e2]
      exact ⟨S.off.put_none _, fun g => absurd g (by simp [D13]), fun _ g => absurd g (by simp), fun _ => ⟨w1, BW, rfl⟩, fun g => S.t0 (by simpa using g), fun g => S.t1 (by simpa using g), fun g => S.t2 (by simpa using g), fun g => S.t3 (by simpa using g), fun g => S.t4 (by simpa using g), fun g => S.t5 (by simpa using g), fun g => S.t6 (by simpa using g), fun g => S.t7 (by simpa using g), fun g => S.t8 (by simpa using g), fun g => S.t9 (by simpa using g), fun g => S.t10 (by simpa using g), fun g => S.t11 (by simpa using g), fun g => S.t12 (by simpa using g), fun g => S.t14 (by simpa using g)⟩
    | _ + 16, il, _, _, _ => exact absurd il (by omega)
  · intro s a w' S hall
    have a0 := hall 0 (by omega)
    have a1 := hall 1 (by omega)
    have a2 := hall 2 (by omega)
    have a3 := hall 3 (by omega)
    have a4 := hall 4 (by omega)
    have a5 := hall 5 (by omega)
    have a6 := hall 6 (by omega)
    have a7 := hall 7 (by omega)
    have a8 := hall 8 (by omega)
    have a9 := hall 9 (by omega)
    have a10 := hall 10 (by omega)
    have a11 := hall 11 (by omega)
    have a12 := hall 12 (by omega)
    have a13 := hall 13 (by omega)
    have a14 := hall 14 (by omega)
    have a15 := hall 15 (by omega)
    have e := off_norm _ (by intro d hd; simp at hd; omega) S.off
    simp only [List.foldl, S.t0 a0, S.t1 a1, S.t2 a2, S.t3 a3, S.t4 a4, S.t5 a5, S.t6 a6, S.t7 a7, S.t8 a8, S.t9 a9, S.t10 a10, S.t11 a11, S.t12 a12, S.t14 a14] at e
    obtain ⟨w1, BW, rfl⟩ := S.behind a15
    rw [e]
    exact h _ BW
end Go.Proofs.YtlpjhmafplljaaaGreatDoor
/- The contract of perigeeref05's solve over this program. -/
namespace Go.Proofs.YtlpjhmafplljaaaGreatDoor
open Go.RowKit
set_option linter.unusedVariables false

/-- A [][]byte of n rows of N bytes: the cells of the block R are slices of the blocks β, which may be written. -/
structure Mat (w : World) (base R n N : Nat) (β γ : Nat → Nat) (m : Nat → Nat → BitVec 8) : Prop where
  top : base ≤ R
  tl : R < w.heap.size
  row : ∀ i, i < n → w.cell? ⟨R, i, none⟩ = some (.slice (some ⟨β i, 0, none⟩) N (γ i))
  free : ∀ i, i < n → w.frozen? ⟨R, i, none⟩ = false
  blk : ∀ i, i < n → base ≤ β i ∧ β i ≠ R
  inj : ∀ i j, i < n → j < n → β i = β j → i = j
  num : ∀ i, i < n → NumsK .u8 w (β i) N (fun c => (m i c).toNat)
namespace Mat
variable {w w' : World} {base R n N : Nat} {β γ : Nat → Nat} {m m' : Nat → Nat → BitVec 8}
theorem below (h : Mat w base R n N β γ m) (hb : Below w.heap.size w w') : Mat w' base R n N β γ m :=
  ⟨h.top, Nat.lt_of_lt_of_le h.tl hb.size, fun i hi => (hb.cell (p := ⟨R, i, none⟩) h.tl).trans (h.row i hi), fun i hi => (hb.frozen (p := ⟨R, i, none⟩) h.tl).trans (h.free i hi), h.blk, h.inj, fun i hi => (h.num i hi).below hb⟩
theorem congr (h : Mat w base R n N β γ m) (e : ∀ r c, r < n → c < N → m r c = m' r c) : Mat w base R n N β γ m' :=
  ⟨h.top, h.tl, h.row, h.free, h.blk, h.inj, fun i hi => (h.num i hi).congr (fun j hj => by rw [e i j hi hj])⟩
theorem put (h : Mat w base R n N β γ m) (r c x : Nat) (hr : r < n) (hc : c < N) (h1 : (m' r c).toNat = x) (h2 : ∀ r' c', r' < n → c' < N → ¬ (r' = r ∧ c' = c) → m' r' c' = m r' c') : Mat (w.setCell ⟨β r, c, none⟩ (.int .u8 (x : Nat))) base R n N β γ m' := by
  have ne := (h.blk r hr).2
  refine ⟨h.top, by rw [World.size_setCell]; exact h.tl, fun i hi => ?_, fun i hi => by rw [World.frozen?_setCell]; exact h.free i hi, h.blk, h.inj, fun i hi => ?_⟩
  · rw [World.cell?_setCell_other (h := fun e => ne (congrArg Addr.block e))]
    exact h.row i hi
  · by_cases e : i = r
    · subst e
      exact (h.num i hi).set c x hc h1 (fun j hj hjc => by rw [h2 i j hi hj (fun q => hjc q.2)])
    · refine NumsK.congr ((h.num i hi).setOther (c := β r) (i := c) (fun q => e (h.inj i r hi hr q.symm)) _) (fun j hj => ?_)
      rw [h2 i j hi hj (fun q => e q.1)]
/-- Two places of a function change. -/
def sw {α : Type} (f : Nat → α) (i k : Nat) : Nat → α := fun r => if r = i then f k else if r = k then f i else f r
theorem sw_lt {i k r : Nat} (hi : i < n) (hk : k < n) (hr : r < n) : sw id i k r < n := by
  unfold sw
  split
  · exact hk
  · split
    · exact hi
    · exact hr
theorem sw_id {α : Type} (f : Nat → α) (i k r : Nat) : sw f i k r = f (sw id i k r) := by
  unfold sw
  split
  · rfl
  · split <;> rfl
theorem sw_inj {i k r r' : Nat} (h : sw id i k r = sw id i k r') : r = r' := by
  simp only [sw, id] at h
  by_cases a1 : r = i <;> by_cases a2 : r = k <;> by_cases b1 : r' = i <;> by_cases b2 : r' = k <;> simp only [a1, a2, b1, b2, if_true, if_false] at h <;> (try split at h) <;> omega
theorem swap (h : Mat w base R n N β γ m) {i k : Nat} (hi : i < n) (hk : k < n) :
    Mat ((w.setCell ⟨R, i, none⟩ (.slice (some ⟨β k, 0, none⟩) N (γ k))).setCell ⟨R, k, none⟩ (.slice (some ⟨β i, 0, none⟩) N (γ i))) base R n N (sw β i k) (sw γ i k) (Blk.gswap m i k) := by
  have hg : ∀ r c, Blk.gswap m i k r c = m (sw id i k r) c := fun r c => by
    unfold Blk.gswap sw
    split
    · rfl
    · split <;> rfl
  refine ⟨h.top, by rw [World.size_setCell, World.size_setCell]; exact h.tl, fun r hr => ?_, fun r hr => by rw [World.frozen?_setCell, World.frozen?_setCell]; exact h.free r hr, fun r hr => ?_, fun r r' hr hr' e => ?_, fun r hr => ?_⟩
  · by_cases e : r = k
    · subst e
      obtain ⟨u, hu⟩ := swap_cell (v := .slice (some ⟨β r, 0, none⟩) N (γ r)) i (h.row r hr)
      rw [World.cell?_setCell_same' _ _ _ (by rw [hu]; rfl)]
      unfold sw
      by_cases q : r = i
      · rw [if_pos q, if_pos q, q]
      · rw [if_neg q, if_neg q, if_pos rfl, if_pos rfl]
    · rw [World.cell?_setCell_other (h := addr_off (fun x => e x.symm))]
      by_cases q : r = i
      · subst q
        rw [World.cell?_setCell_same' _ _ _ (by rw [h.row r hr]; rfl)]
        unfold sw
        rw [if_pos rfl, if_pos rfl]
      · rw [World.cell?_setCell_other (h := addr_off (fun x => q x.symm)), h.row r hr]
        unfold sw
        rw [if_neg q, if_neg q, if_neg e, if_neg e]
  · rw [sw_id β]
    exact h.blk _ (sw_lt hi hk hr)
  · rw [sw_id β, sw_id β i k r'] at e
    exact sw_inj (h.inj _ _ (sw_lt hi hk hr) (sw_lt hi hk hr') e)
  · rw [sw_id β]
    have ne := fun r hr => (h.blk r hr).2
    exact NumsK.congr (((h.num _ (sw_lt hi hk hr)).setOther (c := R) (i := i) (fun q => ne _ (sw_lt hi hk hr) q.symm) _).setOther (c := R) (i := k) (fun q => ne _ (sw_lt hi hk hr) q.symm) _) (fun j hj => by rw [hg])
end Mat
namespace Blk
/-- The row i times f, up to the column c. -/
def scl (m : Nat → Nat → BitVec 8) (i c : Nat) (f : BitVec 8) : Nat → Nat → BitVec 8 := fun r c' => if r = i ∧ c' < c then Gal.mul (m r c') f else m r c'
theorem scl_zero (m : Nat → Nat → BitVec 8) (i : Nat) (f : BitVec 8) : scl m i 0 f = m := by
  funext r c
  unfold scl
  rw [if_neg (by omega)]
theorem scl_at (m : Nat → Nat → BitVec 8) (i c : Nat) (f : BitVec 8) : scl m i c f i c = m i c := if_neg (by omega)
theorem scl_new (m : Nat → Nat → BitVec 8) (i c : Nat) (f : BitVec 8) : scl m i (c + 1) f i c = Gal.mul (m i c) f := if_pos (by omega)
theorem scl_other (m : Nat → Nat → BitVec 8) (i c : Nat) (f : BitVec 8) {r c' : Nat} (h : ¬ (r = i ∧ c' = c)) : scl m i (c + 1) f r c' = scl m i c f r c' := by
  unfold scl
  by_cases e : r = i ∧ c' < c
  · rw [if_pos e, if_pos (by omega)]
  · rw [if_neg e, if_neg (by omega)]
theorem scl_all (m : Nat → Nat → BitVec 8) (i : Nat) (f : BitVec 8) {N r c : Nat} (h : c < N) : scl m i N f r c = gscale m i f r c := by
  unfold scl gscale
  by_cases e : r = i
  · rw [if_pos ⟨e, h⟩, if_pos e]
  · rw [if_neg (fun q => e q.1), if_neg e]
/-- f times the row i into the row r0, up to the column c. -/
def les (m : Nat → Nat → BitVec 8) (i r0 c : Nat) (f : BitVec 8) : Nat → Nat → BitVec 8 := fun r c' => if r = r0 ∧ c' < c then m r c' ^^^ Gal.mul f (m i c') else m r c'
theorem les_zero (m : Nat → Nat → BitVec 8) (i r0 : Nat) (f : BitVec 8) : les m i r0 0 f = m := by
  funext r c
  unfold les
  rw [if_neg (by omega)]
theorem les_at (m : Nat → Nat → BitVec 8) (i r0 c : Nat) (f : BitVec 8) : les m i r0 c f r0 c = m r0 c := if_neg (by omega)
theorem les_i (m : Nat → Nat → BitVec 8) {i r0 : Nat} (c : Nat) (f : BitVec 8) (h : r0 ≠ i) (c' : Nat) : les m i r0 c f i c' = m i c' := if_neg (by omega)
theorem les_new (m : Nat → Nat → BitVec 8) (i r0 c : Nat) (f : BitVec 8) : les m i r0 (c + 1) f r0 c = m r0 c ^^^ Gal.mul f (m i c) := if_pos (by omega)
theorem les_other (m : Nat → Nat → BitVec 8) (i r0 c : Nat) (f : BitVec 8) {r c' : Nat} (h : ¬ (r = r0 ∧ c' = c)) : les m i r0 (c + 1) f r c' = les m i r0 c f r c' := by
  unfold les
  by_cases e : r = r0 ∧ c' < c
  · rw [if_pos e, if_pos (by omega)]
  · rw [if_neg e, if_neg (by omega)]
theorem les_all (m : Nat → Nat → BitVec 8) (i r0 : Nat) (f : BitVec 8) {N r c : Nat} (h : c < N) : les m i r0 N f r c = gadd m i r0 f r c := by
  unfold les gadd
  by_cases e : r = r0
  · rw [if_pos ⟨e, h⟩, if_pos e]
  · rw [if_neg (fun q => e q.1), if_neg e]
theorem gsome_at (m : Nat → Nat → BitVec 8) (i r c : Nat) : gsome m i r r c = m r c := if_neg (by omega)
theorem gsome_all (m : Nat → Nat → BitVec 8) (i : Nat) {n r : Nat} (h : r < n) (c : Nat) : gsome m i n r c = gelim m i r c := by
  unfold gsome gelim
  by_cases e : r = i
  · rw [if_neg (fun q => q.1 e), if_pos e]
  · rw [if_pos ⟨e, h⟩, if_neg e]
end Blk
/-- What solve does. -/
def Solved (base w0 n : Nat) (M : Nat → Nat → BitVec 8) (w : World) (e : Ending) (w' : World) : Prop :=
  Below base w w' ∧ ((∃ v M' b0, w0 ≤ b0 ∧ e = .returned (.tuple #[v, .bool true]) ∧ Blk.UnitTo M' n n ∧ Blk.Equiv n M M' ∧ w'.ownsRow b0 5 1 v n (vals (fun r => M' r n) n)) ∨
    (∃ M' i, i < n ∧ e = .returned (.tuple #[.slice none 0 0, .bool false]) ∧ Blk.Equiv n M M' ∧ Blk.UnitTo M' n i ∧ ∀ r, i ≤ r → r < n → M' r i = 0#8))
theorem u8_one : ((1#8 : BitVec 8).toNat : Int) = 1 := rfl
set_option maxRecDepth 100000 in
set_option maxHeartbeats 1000000 in
theorem rsolve_any (base R n C N : Nat) (β γ : Nat → Nat) (M : Nat → Nat → BitVec 8) (hn : n ≤ 8) (h0 : 0 < n) (hN : N = n + 1) (w : World) (hM : Mat w base R n N β γ M) :
    Calls Tryz.prog 52 #[.slice (some ⟨R, 0, none⟩) n C] w (Solved base w.heap.size n M w) := by
  have HM := Lib.hid hM
  have HBW := Lib.hid (show base ≤ w.heap.size from Nat.le_trans hM.top (Nat.le_of_lt hM.tl))
  have HNN := Lib.hid hN
  have nN : n < N := by omega
  have N9 : N ≤ 9 := by omega
  have DV := Lib.hid (fun a w => rdiv_any 1#8 a w)
  rw [u8_one] at DV
  clear hM hN
  go_enter Tryz.func52, Tryz.ntmps52
  go_wp2_with fail
  go_loopw [5] (fun u wr => ∃ (i : Nat) (β γ : Nat → Nat) (m : Nat → Nat → BitVec 8), i ≤ n ∧ u = .int .i64 i ∧ Blk.UnitTo m n i ∧ Blk.Equiv n M m ∧ Mat wr base R n N β γ m ∧ Below base w wr) (fun u _ => n - (intOf u).toNat)
  case atStart => exact ⟨0, β, γ, M, Nat.zero_le _, rfl, Blk.unit_zero M n, Blk.Equiv.refl n M, HM.out, Below.refl _ _⟩
  case round =>
    obtain ⟨i, β, γ, m, hi, rfl, hU, hE, hM, hB⟩ := hrel
    have hR := hM.tl
    by_cases hlt : i < n
    · have HU := Lib.hid hU
      have HE := Lib.hid hE
      have HM := Lib.hid hM
      have HB := Lib.hid hB
      have iN : i < N := by omega
      clear hU hE hM hB
      go_wp2_with fail
      go_loop [6] (fun u => ∃ k : Nat, i ≤ k ∧ k ≤ n ∧ u = .int .i64 k ∧ ∀ r, i ≤ r → r < k → m r i = 0#8) (fun u => n - (intOf u).toNat)
      case atStart => exact ⟨i, Nat.le_refl _, hi, rfl, fun r h1 h2 => absurd h1 (Nat.not_le_of_lt h2)⟩
      case round =>
        obtain ⟨k, hik, hk, rfl, hz⟩ := hrel
        have HZ := Lib.hid hz
        clear hz
        by_cases hkn : k < n
        · have c1 := HM.out.row k hkn
          have c2 := (HM.out.num k hkn).cell iN
          obtain ⟨x, hx⟩ : ∃ x, (m k i).toNat = x := ⟨_, rfl⟩
          rw [hx] at c2
          have HX := Lib.hid hx
          obtain ⟨bk, hbk⟩ : ∃ b, β k = b := ⟨_, rfl⟩
          obtain ⟨gk, hgk⟩ : ∃ b, γ k = b := ⟨_, rfl⟩
          rw [hbk, hgk] at c1
          rw [hbk] at c2
          clear hbk hgk hx
          by_cases g : x = 0
          · subst g
            go_wp2_with fail
            go_round
            case rel => exact ⟨k + 1, by omega, by omega, by go_num, fun r h1 h2 => by
              by_cases e : r = k
              · subst e; exact BitVec.eq_of_toNat_eq HX.out
              · exact HZ.out r h1 (by omega)⟩
            case measure => simp [intOf]; omega
          · have x1 : ((x : Int) == (0 : Int)) = false := by simp; omega
            have pv := Lib.hid (show m k i ≠ 0#8 from fun q => g (by rw [← HX.out, q]; rfl))
            have r1 := HM.out.row i hlt
            have r2 := HM.out.row k hkn
            have f1 := HM.out.free i hlt
            have f2 := HM.out.free k hkn
            have S2 := Lib.hid (fun w2 (b : Below wr.heap.size wr w2) => (HM.out.below b).swap hlt hkn)
            have HR2 := Lib.hid (Blk.round_unit HU.out hlt hkn hik pv.out)
            have HE2 := Lib.hid (HE.out.trans (Blk.round_equiv m hlt hkn (Gal.inv (m k i)) (Gal.inv_ne _)))
            have HP2 := Lib.hid (show Blk.gswap m i k i i = m k i by unfold Blk.gswap; rw [if_pos rfl])
            have ki : ¬ (k : Int) = (n : Int) := by omega
            go_upto_region 10 with fail
            refine swapRegion R n C N i k (β i) (γ i) (β k) (γ k) hlt hkn (by omega) hR r1 r2 f1 f2 (by kernel_rfl) rfl rfl rfl rfl rfl rfl rfl rfl rfl rfl rfl rfl rfl rfl rfl rfl rfl rfl rfl rfl rfl ?_
            intro w1 B1
            simp only [Act.put, List.setIfInBounds_toArray, List.set_cons_succ, List.set_cons_zero]
            have M2 := S2.out w1 B1
            have ob := HM.out.top
            have HB2 := ((HB.out.trans (B1.mono (Nat.le_trans HBW.out HB.out.size))).setCell (p := ⟨R, i, none⟩) ob (.slice (some ⟨β k, 0, none⟩) N (γ k))).setCell (p := ⟨R, k, none⟩) ob (.slice (some ⟨β i, 0, none⟩) N (γ i))
            obtain ⟨w2, hw2⟩ : ∃ w2, (w1.setCell ⟨R, i, none⟩ (.slice (some ⟨β k, 0, none⟩) N (γ k))).setCell ⟨R, k, none⟩ (.slice (some ⟨β i, 0, none⟩) N (γ i)) = w2 := ⟨_, rfl⟩
            rw [hw2] at M2 HB2 ⊢
            obtain ⟨β2, hβ2⟩ : ∃ b, Mat.sw β i k = b := ⟨_, rfl⟩
            obtain ⟨γ2, hγ2⟩ : ∃ b, Mat.sw γ i k = b := ⟨_, rfl⟩
            obtain ⟨m2, hm2⟩ : ∃ b, Blk.gswap m i k = b := ⟨_, rfl⟩
            obtain ⟨p, hp⟩ : ∃ p, m k i = p := ⟨_, rfl⟩
            obtain ⟨f, hf⟩ : ∃ f, Gal.inv p = f := ⟨_, rfl⟩
            rw [hm2] at HR2 HE2 HP2
            rw [hβ2, hγ2, hm2] at M2
            rw [hp] at HP2 HX pv
            rw [hp, hf] at HR2 HE2
            have dv := DV.out p w2
            rw [show Gal.divV 1#8 p = f from (if_neg pv.out).trans ((Gal.one_mul _).trans hf), HX.out] at dv
            have DP := Lib.hid dv
            have MM2 := Lib.hid M2
            have BB2 := Lib.hid HB2
            have c3 := M2.row i hlt
            have c4 := (M2.num i hlt).cell iN
            rw [HP2.out, HX.out] at c4
            have hR2 := M2.tl
            obtain ⟨bi, hbi⟩ : ∃ b, β2 i = b := ⟨_, rfl⟩
            obtain ⟨gi, hgi⟩ : ∃ b, γ2 i = b := ⟨_, rfl⟩
            rw [hbi, hgi] at c3
            rw [hbi] at c4
            have HBI := Lib.hid hbi
            have HGI := Lib.hid hgi
            clear r1 r2 f1 f2 S2 B1 M2 HB2 hw2 hβ2 hγ2 hm2 hp hf dv hbi hgi HX pv HP2 HZ HM HB HU HE c1 c2 x1 ob hik hR
            go_wp2_with fail
            (with_reducible refine DP.out.mono ?_)
            rintro e w' ⟨rfl, rfl⟩
            clear DP c3 c4
            go_wp2_with fail
            go_loopw [9] (fun u wr => ∃ c : Nat, c ≤ N ∧ u = .int .i64 c ∧ Mat wr base R n N β2 γ2 (Blk.scl m2 i c f) ∧ Below base w wr) (fun u _ => N - (intOf u).toNat)
            case atStart => exact ⟨0, Nat.zero_le _, rfl, by rw [Blk.scl_zero]; exact MM2.out, BB2.out⟩
            case round =>
              obtain ⟨c, hc, rfl, hM, hB⟩ := hrel
              by_cases hcN : c < N
              · have HM := Lib.hid hM
                have HB := Lib.hid hB
                have cn : (c : Int) ≤ (n : Int) := by have := HNN.out; omega
                clear hM hB MM2 BB2
                go_upto_region 15 with fail
                refine scaleRegion R n C N i c (β2 i) (γ2 i) f (Blk.scl m2 i c f i c) (fun c' => (Blk.scl m2 i c f i c').toNat) hlt (by omega) (by omega) hcN HM.out.tl (HM.out.row i hlt) (HM.out.num i hlt) rfl (by kernel_rfl) rfl rfl rfl rfl rfl rfl rfl rfl rfl rfl rfl rfl rfl rfl rfl rfl rfl rfl rfl rfl rfl rfl ?_
                intro w5 B5
                simp only [Act.put, List.setIfInBounds_toArray, List.set_cons_succ, List.set_cons_zero]
                have M5 := Lib.hid ((HM.out.below B5).put (m' := Blk.scl m2 i (c + 1) f) i c (Gal.mul (Blk.scl m2 i c f i c) f).toNat hlt hcN (by rw [Blk.scl_new, Blk.scl_at]) (fun r' c' _ _ h => Blk.scl_other m2 i c f h))
                have B6 := Lib.hid ((HB.out.trans (B5.mono (Nat.le_trans HBW.out HB.out.size))).setCell (p := ⟨β2 i, c, none⟩) (HM.out.blk i hlt).1 (.int .u8 ((Gal.mul (Blk.scl m2 i c f i c) f).toNat : Nat)))
                obtain ⟨w6, hw6⟩ : ∃ w6, w5.setCell ⟨β2 i, c, none⟩ (.int .u8 ((Gal.mul (Blk.scl m2 i c f i c) f).toNat : Nat)) = w6 := ⟨_, rfl⟩
                rw [hw6] at M5 B6 ⊢
                clear hw6 B5 HM HB
                go_wp2_with fail
                go_roundw
                case rel => exact ⟨c + 1, by omega, by go_num, M5.out, B6.out⟩
                case measure => simp [intOf]; omega
              · obtain rfl : c = N := by omega
                obtain ⟨m3, hm3⟩ : ∃ m3, Blk.gscale m2 i f = m3 := ⟨_, rfl⟩
                have MM3 := Lib.hid (show Mat _ base R n c β2 γ2 m3 from hM.congr (fun r c' _ h => by rw [Blk.scl_all m2 i f h, hm3]))
                have BB3 := Lib.hid hB
                rw [hm3] at HR2 HE2
                have cn : ¬ (c : Int) ≤ (n : Int) := by have := HNN.out; omega
                clear hM hB MM2 BB2 hm3
                go_wp2_with fail
                go_loopw [10] (fun u wr => ∃ r : Nat, r ≤ n ∧ u = .int .i64 r ∧ Mat wr base R n c β2 γ2 (Blk.gsome m3 i r) ∧ Below base w wr) (fun u _ => n - (intOf u).toNat)
                case atStart => exact ⟨0, Nat.zero_le _, rfl, by rw [Blk.gsome_zero]; exact MM3.out, BB3.out⟩
                case round =>
                  obtain ⟨r, hr, rfl, hM, hB⟩ := hrel
                  by_cases hrn : r < n
                  · have hR3 := hM.tl
                    have c1 := hM.row r hrn
                    have c2 := (hM.num r hrn).cell iN
                    have GA := Lib.hid (Blk.gsome_self m3 i r)
                    rw [show Blk.gsome m3 i r r i = m3 r i from Blk.gsome_at m3 i r i] at c2
                    obtain ⟨f2, hf2⟩ : ∃ f2, m3 r i = f2 := ⟨_, rfl⟩
                    rw [hf2] at c2 GA
                    obtain ⟨mA, hmA⟩ : ∃ mA, Blk.gsome m3 i r = mA := ⟨_, rfl⟩
                    rw [hmA] at hM GA
                    have HM := Lib.hid hM
                    have HB := Lib.hid hB
                    obtain ⟨br, hbr⟩ : ∃ b, β2 r = b := ⟨_, rfl⟩
                    obtain ⟨gr, hgr⟩ : ∃ b, γ2 r = b := ⟨_, rfl⟩
                    rw [hbr, hgr] at c1
                    rw [hbr] at c2
                    clear hM hB MM3 BB3 hf2 hmA hbr hgr
                    go_wp2_with fail
                    clear c1 c2
                    go_loopw [12] (fun u wr => ∃ d : Nat, d ≤ c ∧ (r = i → d = 0) ∧ u = .int .i64 d ∧ Mat wr base R n c β2 γ2 (Blk.les mA i r d f2) ∧ Below base w wr) (fun u _ => c - (intOf u).toNat)
                    case atStart => exact ⟨0, Nat.zero_le _, fun _ => rfl, rfl, by rw [Blk.les_zero]; exact HM.out, HB.out⟩
                    case round =>
                      obtain ⟨d, hd, hd0, rfl, hM, hB⟩ := hrel
                      by_cases e : r = i
                      · have MM4 := Lib.hid (show Mat _ base R n c β2 γ2 (Blk.gsome m3 i (r + 1)) by rw [GA.out, if_pos e]; have := hM; rw [hd0 e, Blk.les_zero] at this; exact this)
                        have BB4 := Lib.hid hB
                        have ri : ((r : Int) != (i : Int)) = false := by simp; omega
                        clear hM hB HM HB GA
                        go_wp2_with fail
                        go_roundw
                        case rel => exact ⟨r + 1, by omega, by go_num, MM4.out, BB4.out⟩
                        case measure => simp [intOf]; omega
                      · have ri : ((r : Int) != (i : Int)) = true := by simp; omega
                        by_cases hdc : d < c
                        · have HM2 := Lib.hid hM
                          have HB3 := Lib.hid hB
                          have cn2 : (d : Int) ≤ (n : Int) := by have := HNN.out; omega
                          clear hM hB HM HB GA
                          go_upto_region 23 with fail
                          refine lessRegion R n C c i r d (β2 i) (γ2 i) (β2 r) (γ2 r) f2 (Blk.les mA i r d f2 r d) (Blk.les mA i r d f2 i d) (fun c' => (Blk.les mA i r d f2 i c').toNat) (fun c' => (Blk.les mA i r d f2 r c').toNat) hlt hrn (by omega) (by omega) hdc HM2.out.tl (HM2.out.row i hlt) (HM2.out.row r hrn) (HM2.out.num i hlt) (HM2.out.num r hrn) rfl rfl (by kernel_rfl) rfl rfl rfl rfl rfl rfl rfl rfl rfl rfl rfl rfl rfl rfl rfl rfl rfl rfl rfl rfl rfl rfl rfl rfl rfl rfl rfl rfl rfl rfl rfl ?_
                          intro w5 B5
                          simp only [Act.put, List.setIfInBounds_toArray, List.set_cons_succ, List.set_cons_zero]
                          have M5 := Lib.hid ((HM2.out.below B5).put (m' := Blk.les mA i r (d + 1) f2) r d (Blk.les mA i r d f2 r d ^^^ Gal.mul f2 (Blk.les mA i r d f2 i d)).toNat hrn hdc (by rw [Blk.les_new, Blk.les_at, Blk.les_i mA d f2 e]) (fun r' c' _ _ h => Blk.les_other mA i r d f2 h))
                          have B6 := Lib.hid ((HB3.out.trans (B5.mono (Nat.le_trans HBW.out HB3.out.size))).setCell (p := ⟨β2 r, d, none⟩) (HM2.out.blk r hrn).1 (.int .u8 ((Blk.les mA i r d f2 r d ^^^ Gal.mul f2 (Blk.les mA i r d f2 i d)).toNat : Nat)))
                          obtain ⟨w6, hw6⟩ : ∃ w6, w5.setCell ⟨β2 r, d, none⟩ (.int .u8 ((Blk.les mA i r d f2 r d ^^^ Gal.mul f2 (Blk.les mA i r d f2 i d)).toNat : Nat)) = w6 := ⟨_, rfl⟩
                          rw [hw6] at M5 B6 ⊢
                          clear hw6 B5 HM2 HB3
                          go_wp2_with fail
                          go_roundw
                          case rel => exact ⟨d + 1, by omega, fun q => absurd q e, by go_num, M5.out, B6.out⟩
                          case measure => simp [intOf]; omega
                        · obtain rfl : d = c := by omega
                          have MM4 := Lib.hid (show Mat _ base R n d β2 γ2 (Blk.gsome m3 i (r + 1)) by rw [GA.out, if_neg e]; exact hM.congr (fun r' c' _ h => Blk.les_all mA i r f2 h))
                          have BB4 := Lib.hid hB
                          have cn2 : ¬ (d : Int) ≤ (n : Int) := by have := HNN.out; omega
                          clear hM hB HM HB GA
                          go_wp2_with fail
                          go_roundw
                          case rel => exact ⟨r + 1, by omega, by go_num, MM4.out, BB4.out⟩
                          case measure => simp [intOf]; omega
                  · obtain rfl : r = n := by omega
                    have MM4 := Lib.hid (show Mat _ base R r c β2 γ2 (Blk.gelim m3 i) from hM.congr (fun r' c' h _ => Blk.gsome_all m3 i h c'))
                    have BB4 := Lib.hid hB
                    clear hM hB MM3 BB3
                    go_wp2_with fail
                    go_roundw
                    case rel => exact ⟨i + 1, β2, γ2, Blk.gelim m3 i, by omega, by go_num, HR2.out, HE2.out, MM4.out, BB4.out⟩
                    case measure => simp [intOf]; omega
        · obtain rfl : k = n := by omega
          have FIN := Lib.hid (show Solved base w.heap.size k M w (.returned (.tuple #[.slice none 0 0, .bool false])) wr from ⟨HB.out, .inr ⟨m, i, hlt, rfl, HE.out, HU.out, HZ.out⟩⟩)
          clear HM HBW HNN HB HU HE HZ DV
          go_wp2_with fail
          go_ret2
          exact FIN.out
    · obtain rfl : i = n := by omega
      rename World => w1
      have HU := Lib.hid hU
      have HE := Lib.hid hE
      have HM2 := Lib.hid hM
      have HB := Lib.hid hB
      clear hU hE hM hB HM DV
      go_wp2_with fail
      go_loopw [13, 14] (fun o u wr => ∃ k : Nat, k ≤ i ∧ u = .int .i64 k ∧ wr.ownsRow w1.heap.size 5 1 o k (vals (fun r => m r i) k) ∧ Below w1.heap.size w1 wr) (fun _ u _ => i - (intOf u).toNat)
      case atStart => exact ⟨0, Nat.zero_le _, rfl, World.ownsRow_nil _ _ _ _, Below.refl _ _⟩
      case round =>
        obtain ⟨k, hk, rfl, hown, hBq⟩ := hrel
        by_cases hlt2 : k < i
        · have MQ := HM2.out.below hBq
          have hRq := MQ.tl
          have c1 := MQ.row k hlt2
          have c2 := (MQ.num k hlt2).cell (j := i) nN
          have ns := vals_succ (fun r => m r i) k
          obtain ⟨v, hv⟩ : ∃ v, (m k i).toNat = v := ⟨_, rfl⟩
          rw [hv] at ns c2
          obtain ⟨bk, hbk⟩ : ∃ b, β k = b := ⟨_, rfl⟩
          obtain ⟨gk, hgk⟩ : ∃ b, γ k = b := ⟨_, rfl⟩
          rw [hbk, hgk] at c1
          rw [hbk] at c2
          have NS := Lib.hid ns
          have HO := Lib.hid hown
          have k9 : k ≤ 9 := by omega
          obtain ⟨i0, hi0, hz0, hz1, hz2⟩ := info_parts info_u8
          have B1 := Lib.hid (hBq.alloc hBq.size (.cells #[.int .u8 (v : Int)] 5))
          clear hv hbk hgk ns hown hBq MQ
          go_wp2_with (at_builtin; refine wpList_append_own _ rfl _ _ 41 rfl w1.heap.size 5 i0 (.int .u8 0) 1 1 Tryz.underlying41 hi0 hz0 hz1 hz2 rfl (by decide) _ _ _ rfl (HO.out.alloc _) ⟨wr.heap.size, 0, none⟩ 1 1 [.int .u8 (v : Int)] rfl rfl cell_one (by simp [Value.oneCell']) (by unfold maxLen; omega) (by omega) (by have := B1.out.size; simp at this ⊢; omega) ?_; intro v' w2 hown2 hgrow _; obtain ⟨g', cap', rfl⟩ := ownsRow_succ hown2; have HO2 := Lib.hid hown2; have BW2 := Lib.hid (B1.out.grown hgrow B1.out.size (fun k e => own_block_ge HO.out e)); clear hown2 hgrow)
          go_roundw
          case rel => exact ⟨k + 1, by omega, by go_num, by rw [NS.out]; exact HO2.out, BW2.out⟩
          case measure => simp [intOf]; omega
        · obtain rfl : k = i := by omega
          have HO := Lib.hid hown
          have HBQ := Lib.hid hBq
          clear hown hBq
          go_wp2_with fail
          go_ret2
          exact ⟨HB.out.trans (HBQ.out.mono (Nat.le_trans HBW.out HB.out.size)), .inl ⟨_, m, w1.heap.size, HB.out.size, rfl, HU.out, HE.out, HO.out⟩⟩
end Go.Proofs.YtlpjhmafplljaaaGreatDoor
/- Rows of bytes that are appended to a slice of rows. -/
namespace Go.Proofs.YtlpjhmafplljaaaGreatDoor
open Go.RowKit
set_option linter.unusedVariables false

theorem own_at {w : World} {base e b n cap : Nat} {xs : List Value} (h : w.ownsRow base e 1 (.slice (some ⟨b, 0, none⟩) n cap) n xs) :
    base ≤ b ∧ b < w.heap.size ∧ (∃ cur, w.heap[b]? = some (.cells cur e (0, 0))) ∧ ∀ j v, xs[j]? = some v → w.cell? ⟨b, j, none⟩ = some v ∧ w.frozen? ⟨b, j, none⟩ = false := by
  obtain ⟨hl, h⟩ := h
  rcases h with ⟨hv, _⟩ | ⟨g, c, cur, hv, hb, hg, hnc, hm, hsz, ht⟩
  · simp at hv
  · simp only [Value.slice.injEq, Option.some.injEq, Addr.mk.injEq] at hv
    obtain ⟨⟨rfl, _, _⟩, _, rfl⟩ := hv
    refine ⟨hb, (Array.getElem?_eq_some_iff.1 hg).1, ⟨cur, hg⟩, fun j v hj => ⟨?_, ?_⟩⟩
    · have e1 : w.cell? ⟨b, j, none⟩ = cur[j]? := by
        unfold World.cell?
        rw [hg]
        simp
      have jn : j < n * 1 := by
        have := (List.getElem?_eq_some_iff.1 hj).1
        omega
      have e2 : (cur.toList.take (n * 1))[j]? = cur[j]? := by
        rw [List.getElem?_take_of_lt jn]
        simp
      rw [e1, ← e2, ht, hj]
    · unfold World.frozen?
      rw [hg]
      simp
theorem own_keep {w w' : World} {base e size n : Nat} {v : Value} {xs : List Value} (h : w.ownsRow base e size v n xs) (hb : ∀ g, v.ownBlock = some g → g < w.heap.size → w'.heap[g]? = w.heap[g]?) : w'.ownsRow base e size v n xs := by
  obtain ⟨hl, h⟩ := h
  refine ⟨hl, ?_⟩
  rcases h with h | ⟨g, c, cur, rfl, h1, hg, h2⟩
  · exact .inl h
  · exact .inr ⟨g, c, cur, rfl, h1, (hb g rfl (Array.getElem?_eq_some_iff.1 hg).1).trans hg, h2⟩
theorem own_below {w w' : World} {base e size n : Nat} {v : Value} {xs : List Value} (h : w.ownsRow base e size v n xs) (hb : Below w.heap.size w w') : w'.ownsRow base e size v n xs :=
  own_keep h (fun g _ hg => hb.block g hg)
theorem own_mono {w : World} {base base' e size n : Nat} {v : Value} {xs : List Value} (h : w.ownsRow base e size v n xs) (hb : base' ≤ base) : w.ownsRow base' e size v n xs := by
  obtain ⟨hl, h⟩ := h
  refine ⟨hl, ?_⟩
  rcases h with h | ⟨g, c, cur, rfl, h1, h2⟩
  · exact .inl h
  · exact .inr ⟨g, c, cur, rfl, Nat.le_trans hb h1, h2⟩
theorem vals_at (f : Nat → BitVec 8) {n j : Nat} (h : j < n) : (vals f n)[j]? = some (.int .u8 ((f j).toNat : Nat)) := by simp [vals, h]
theorem own_nums {w : World} {base b n cap : Nat} {f : Nat → BitVec 8} (h : w.ownsRow base 5 1 (.slice (some ⟨b, 0, none⟩) n cap) n (vals f n)) : NumsK .u8 w b n (fun j => (f j).toNat) :=
  ⟨(own_at h).2.1, fun j hj => (own_at h).2.2.2 j _ (vals_at f hj)⟩
/-- The rows as values. -/
def rowsV (β γ : Nat → Nat) (N j : Nat) : List Value := (List.range j).map (fun i => .slice (some ⟨β i, 0, none⟩) N (γ i))
theorem rowsV_succ (β γ : Nat → Nat) (N j : Nat) : rowsV β γ N (j + 1) = rowsV β γ N j ++ [.slice (some ⟨β j, 0, none⟩) N (γ j)] := by simp [rowsV, List.range_succ]
theorem rowsV_at (β γ : Nat → Nat) (N : Nat) {j i : Nat} (h : i < j) : (rowsV β γ N j)[i]? = some (.slice (some ⟨β i, 0, none⟩) N (γ i)) := by simp [rowsV, h]
theorem rowsV_congr {β γ β' γ' : Nat → Nat} (N j : Nat) (h : ∀ i, i < j → β i = β' i ∧ γ i = γ' i) : rowsV β γ N j = rowsV β' γ' N j := by
  unfold rowsV
  refine List.map_congr_left (fun i hi => ?_)
  obtain ⟨h1, h2⟩ := h i (List.mem_range.1 hi)
  rw [h1, h2]
/-- j rows have been appended. -/
structure Rows (w : World) (base : Nat) (o : Value) (j N : Nat) (β γ : Nat → Nat) (m : Nat → Nat → BitVec 8) : Prop where
  own : w.ownsRow base 41 1 o j (rowsV β γ N j)
  row : ∀ i, i < j → w.ownsRow base 5 1 (.slice (some ⟨β i, 0, none⟩) N (γ i)) N (vals (m i) N)
  inj : ∀ i i', i < j → i' < j → β i = β i' → i = i'
namespace Rows
variable {w w' : World} {base j N : Nat} {o : Value} {β γ : Nat → Nat} {m : Nat → Nat → BitVec 8}
theorem nil (w : World) (base N : Nat) (β γ : Nat → Nat) (m : Nat → Nat → BitVec 8) : Rows w base (.slice none 0 0) 0 N β γ m :=
  ⟨World.ownsRow_nil _ _ _ _, fun i hi => absurd hi (Nat.not_lt_zero _), fun i i' hi => absurd hi (Nat.not_lt_zero _)⟩
theorem below (h : Rows w base o j N β γ m) (hb : Below w.heap.size w w') : Rows w' base o j N β γ m :=
  ⟨own_below h.own hb, fun i hi => own_below (h.row i hi) hb, h.inj⟩
/-- The block of the rows is none of the rows' blocks. -/
theorem apart (h : Rows w base o j N β γ m) {i g : Nat} (hi : i < j) (hg : o.ownBlock = some g) : β i ≠ g := by
  intro e
  obtain ⟨_, _, ⟨cur, hc⟩, _⟩ := own_at (h.row i hi)
  rcases h.own.2 with ⟨rfl, _⟩ | ⟨g', c, cur', rfl, _, hg', _⟩
  · cases hg
  · obtain rfl : g' = g := by simpa [Value.ownBlock] using hg
    rw [e, hg'] at hc
    simp only [Option.some.injEq, Obj.cells.injEq] at hc
    exact absurd hc.2.1 (by decide)
/-- One row more: v in its own block above b1, and o has grown by it. -/
theorem push (h : Rows w base o j N β γ m) {b1 g c : Nat} (hb : ∀ i, i < j → β i < b1) (hbb : base ≤ b1) {f : Nat → BitVec 8} (hv : w.ownsRow b1 5 1 (.slice (some ⟨g, 0, none⟩) N c) N (vals f N)) (hf : ∀ k, k < N → m j k = f k)
    {v' : Value} (hown : w'.ownsRow base 41 1 v' (j + 1) (rowsV β γ N j ++ [.slice (some ⟨g, 0, none⟩) N c])) (hg : w.grownBy w' o.ownBlock) :
    Rows w' base v' (j + 1) N (fun i => if i = j then g else β i) (fun i => if i = j then c else γ i) m := by
  have gb := (own_at hv).1
  have ne : o.ownBlock ≠ some g := by
    intro e
    obtain ⟨_, _, ⟨cur, hc⟩, _⟩ := own_at hv
    rcases h.own.2 with ⟨rfl, _⟩ | ⟨g', c', cur', rfl, _, hg', _⟩
    · cases e
    · obtain rfl : g' = g := by simpa [Value.ownBlock] using e
      rw [hg'] at hc
      simp only [Option.some.injEq, Obj.cells.injEq] at hc
      exact absurd hc.2.1 (by decide)
  refine ⟨?_, fun i hi => ?_, fun i i' hi hi' e => ?_⟩
  · rw [rowsV_succ, rowsV_congr (β' := β) (γ' := γ) N j (fun i hi => ⟨if_neg (by omega), if_neg (by omega)⟩), if_pos rfl, if_pos rfl]
    exact hown
  · by_cases q : i = j
    · subst q
      rw [if_pos rfl, if_pos rfl]
      rw [show vals (m i) N = vals f N from List.map_congr_left (fun k hk => by rw [hf k (List.mem_range.1 hk)])]
      refine own_mono (own_keep hv (fun g' e hl => ?_)) hbb
      obtain rfl : g = g' := by simpa [Value.ownBlock] using e
      exact hg.block g hl (fun x => ne x.symm)
    · rw [if_neg q, if_neg q]
      have ij : i < j := by omega
      refine own_keep (h.row i ij) (fun g' e hl => ?_)
      obtain rfl : β i = g' := by simpa [Value.ownBlock] using e
      exact hg.block _ hl (fun x => h.apart ij x.symm rfl)
  · by_cases q : i = j
    · by_cases q' : i' = j
      · omega
      · rw [if_pos q, if_neg q'] at e
        have := hb i' (by omega)
        omega
    · by_cases q' : i' = j
      · rw [if_neg q, if_pos q'] at e
        have := hb i (by omega)
        omega
      · rw [if_neg q, if_neg q'] at e
        exact h.inj i i' (by omega) (by omega) e
theorem mat (h : Rows w base o j N β γ m) (h0 : 0 < j) : ∃ R C, o = .slice (some ⟨R, 0, none⟩) j C ∧ Mat w base R j N β γ m := by
  rcases h.own.2 with ⟨rfl, h1⟩ | ⟨R, C, cur, rfl, _⟩
  · omega
  · refine ⟨R, C, rfl, ?_⟩
    obtain ⟨h1, h2, _, h3⟩ := own_at h.own
    exact ⟨h1, h2, fun i hi => (h3 i _ (rowsV_at β γ N hi)).1, fun i hi => (h3 i _ (rowsV_at β γ N hi)).2, fun i hi => ⟨(own_at (h.row i hi)).1, h.apart hi rfl⟩, h.inj, fun i hi => own_nums (h.row i hi)⟩
end Rows
end Go.Proofs.YtlpjhmafplljaaaGreatDoor
