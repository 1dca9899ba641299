/- Dot's regions. -/
import Derived.Test.YtlniojmjakmcjaaDoorNear
import Derived.Test.YtlniojmjakmcjaaDoorRegL
import Derived.IntWalk
namespace Go.Proofs.YtlniojmjakmcjaaDoor
open Go.RowKit
set_option linter.unusedVariables false

structure dot_prodAt (sb so c1 tb tq c2 n k : Nat) (z1 z2 : Int) ( B : Nat) (A : Act) (w0 : World) (s : Nat → Bool) (a : Act) (w : World) : Prop where
  off : Off [9, 26, 27, 28, 29, 30, 31, 32, 33, 34, 35, 36] a A
  below : Below B w0 w
  t0 : s 0 = true → a.eval (.tmp 26) = .slice (some ⟨sb, so, none⟩) n c1
  t1 : s 1 = true → a.eval (.tmp 27) = .int .i64 k
  t2 : s 2 = true → a.eval (.tmp 28) = .pointer (some ⟨sb, so + k, none⟩)
  t3 : s 3 = true → a.eval (.tmp 29) = .int .i64 z1
  t4 : s 4 = true → a.eval (.tmp 30) = Big z1.natAbs
  t5 : s 5 = true → a.eval (.tmp 31) = .slice (some ⟨tb, tq, none⟩) n c2
  t6 : s 6 = true → a.eval (.tmp 32) = .int .i64 k
  t7 : s 7 = true → a.eval (.tmp 33) = .pointer (some ⟨tb, tq + k, none⟩)
  t8 : s 8 = true → a.eval (.tmp 34) = .int .i64 z2
  t9 : s 9 = true → a.eval (.tmp 35) = Big z2.natAbs
  t10 : s 10 = true → a.eval (.tmp 36) = Big (z1.natAbs * z2.natAbs)
  p_p : s 11 = true → s 12 = false → ∃ p, a.eval (.tmp 9) = ptr p ∧ w0.heap.size ≤ p ∧ Row w p (fun _ => 0)
  q_p : s 11 = true → s 12 = true → ∃ p, a.eval (.tmp 9) = ptr p ∧ w0.heap.size ≤ p ∧ Row w p (BigM.dg (z1.natAbs * z2.natAbs))

set_option maxHeartbeats 2000000 in
theorem dot_prod {id : Nat} {d : Bool} {l : List Oper} {A : Act} {w : World} {Q : Exit → Act → World → Prop} (sb so c1 tb tq c2 n k : Nat) (z1 z2 : Int) (hz1 : Fix.fits z1) (hz2 : Fix.fits z2) (hl1 : z1.natAbs < 65536 ^ 8) (hl2 : z2.natAbs < 65536 ^ 8) (x0 : A.eval (.tmp 0) = .slice (some ⟨sb, so, none⟩) n c1) (x1 : A.eval (.tmp 1) = .slice (some ⟨tb, tq, none⟩) n c2) (x8 : A.eval (.tmp 8) = .int .i64 k) (hk : (k : Int) < n) (hk0 : (0 : Int) ≤ k) {B : Nat} (hsb : sb < B) (hscell : w.cell? ⟨sb, so + k, none⟩ = some (.int .i64 z1)) (htb : tb < B) (htcell : w.cell? ⟨tb, tq + k, none⟩ = some (.int .i64 z2)) 
    (hB : tableL d l.toArray (fun i => match i with | 0 => [] | 1 => [] | 2 => [0, 1] | 3 => [2] | 4 => [3] | 5 => [] | 6 => [] | 7 => [5, 6] | 8 => [7] | 9 => [8] | 10 => [4, 9] | 11 => [] | 12 => [0, 1, 2, 3, 4, 5, 6, 7, 8, 9, 10, 11] | _ => []) (fun i => match i with | 0 => [12] | 1 => [12] | 2 => [12] | 3 => [12] | 4 => [12] | 5 => [12] | 6 => [12] | 7 => [12] | 8 => [12] | 9 => [12] | 10 => [12] | 11 => [12] | 12 => [] | _ => []) = true) (hl : l.length = 13)
    (h0 : pick l 0 = some (.move (.tmp 0), some 26))
    (h1 : pick l 1 = some (.move (.tmp 8), some 27))
    (h2 : pick l 2 = some (.indexAddr 29 (.tmp 26) (.tmp 27), some 28))
    (h3 : pick l 3 = some (.load 2 (.tmp 28), some 29))
    (h4 : pick l 4 = some (.call { callee := .value (.func 32), args := #[.tmp 29], argTypes := #[2] }, some 30))
    (h5 : pick l 5 = some (.move (.tmp 1), some 31))
    (h6 : pick l 6 = some (.move (.tmp 8), some 32))
    (h7 : pick l 7 = some (.indexAddr 29 (.tmp 31) (.tmp 32), some 33))
    (h8 : pick l 8 = some (.load 2 (.tmp 33), some 34))
    (h9 : pick l 9 = some (.call { callee := .value (.func 32), args := #[.tmp 34], argTypes := #[2] }, some 35))
    (h10 : pick l 10 = some (.call { callee := .value (.func 31), args := #[.tmp 30, .tmp 35], argTypes := #[47, 47] }, some 36))
    (h11 : pick l 11 = some (.alloc 47, some 9))
    (h12 : pick l 12 = some (.store 47 (.tmp 9) (.tmp 36), none))
    (hs : A.tmps.size = 71) (hB0 : B ≤ w.heap.size)
    (h : ∀ p_p w', Below B w w' → w.heap.size ≤ p_p → Row w' p_p (BigM.dg (z1.natAbs * z2.natAbs)) → Q .normal ((((((((((((A.put (some 9) (ptr p_p)).put (some 26) (.slice (some ⟨sb, so, none⟩) n c1)).put (some 27) (.int .i64 k)).put (some 28) (.pointer (some ⟨sb, so + k, none⟩))).put (some 29) (.int .i64 z1)).put (some 30) (Big z1.natAbs)).put (some 31) (.slice (some ⟨tb, tq, none⟩) n c2)).put (some 32) (.int .i64 k)).put (some 33) (.pointer (some ⟨tb, tq + k, none⟩))).put (some 34) (.int .i64 z2)).put (some 35) (Big z2.natAbs)).put (some 36) (Big (z1.natAbs * z2.natAbs))) w') :
    (Code.region id l.toArray d).wp Tryd.prog Q A w := by
  refine wp_region_invL (by kernel_rfl) _ _ hB (dot_prodAt sb so c1 tb tq c2 n k z1 z2  B A w) ⟨Off.refl _ _, Below.refl _ _, by simp, by simp, by simp, by simp, by simp, by simp, by simp, by simp, by simp, by simp, by simp, by simp, by simp⟩ ⟨Off.refl _ _, (Below.refl _ _).drew, by simp, by simp, by simp, by simp, by simp, by simp, by simp, by simp, by simp, by simp, by simp, by simp, by simp⟩ ?_ ?_
  · intro s a w' S i o ho hsi hT K hK
    have sz : a.tmps.size = 71 := by rw [S.off.2.1]; exact hs
    have il : i < 13 := by have := (List.getElem?_eq_some_iff.1 ho).1; omega
    match i, il, ho, hsi, hT with
    | 0, _, ho, hsi, hT =>
      obtain ⟨e1, e2⟩ := pick_of h0 ho
      have N12 : s 12 = false := list_neg hT (k := 12) (by decide)
      refine step_val (v := .slice (some ⟨sb, so, none⟩) n c1) (by simp only [execOp, e1, S.off.eval (show 0 ∉ [9, 26, 27, 28, 29, 30, 31, 32, 33, 34, 35, 36] by decide), x0]; go_simp) (hK _ _ ?_)
      rw [e2]
      exact ⟨S.off.put (by decide) _, S.below, fun _ => (eval_put _ _ _ (by omega)).trans rfl, fun g => by rw [eval_put_ne _ _ _ _ (by decide)]; exact S.t1 (by simpa using g), fun g => by rw [eval_put_ne _ _ _ _ (by decide)]; exact S.t2 (by simpa using g), fun g => by rw [eval_put_ne _ _ _ _ (by decide)]; exact S.t3 (by simpa using g), fun g => by rw [eval_put_ne _ _ _ _ (by decide)]; exact S.t4 (by simpa using g), fun g => by rw [eval_put_ne _ _ _ _ (by decide)]; exact S.t5 (by simpa using g), fun g => by rw [eval_put_ne _ _ _ _ (by decide)]; exact S.t6 (by simpa using g), fun g => by rw [eval_put_ne _ _ _ _ (by decide)]; exact S.t7 (by simpa using g), fun g => by rw [eval_put_ne _ _ _ _ (by decide)]; exact S.t8 (by simpa using g), fun g => by rw [eval_put_ne _ _ _ _ (by decide)]; exact S.t9 (by simpa using g), fun g => by rw [eval_put_ne _ _ _ _ (by decide)]; exact S.t10 (by simpa using g), fun g g2 => by rw [eval_put_ne _ _ _ _ (by decide)]; obtain ⟨p, k1, k2, k3⟩ := S.p_p (by simpa using g) (by simpa using g2); exact ⟨p, k1, k2, k3⟩, fun g g2 => by rw [eval_put_ne _ _ _ _ (by decide)]; obtain ⟨p, k1, k2, k3⟩ := S.q_p (by simpa using g) (by simpa using g2); exact ⟨p, k1, k2, k3⟩⟩
    | 1, _, ho, hsi, hT =>
      obtain ⟨e1, e2⟩ := pick_of h1 ho
      have N12 : s 12 = false := list_neg hT (k := 12) (by decide)
      refine step_val (v := .int .i64 k) (by simp only [execOp, e1, S.off.eval (show 8 ∉ [9, 26, 27, 28, 29, 30, 31, 32, 33, 34, 35, 36] by decide), x8]; go_simp) (hK _ _ ?_)
      rw [e2]
      exact ⟨S.off.put (by decide) _, S.below, fun g => by rw [eval_put_ne _ _ _ _ (by decide)]; exact S.t0 (by simpa using g), fun _ => (eval_put _ _ _ (by omega)).trans rfl, fun g => by rw [eval_put_ne _ _ _ _ (by decide)]; exact S.t2 (by simpa using g), fun g => by rw [eval_put_ne _ _ _ _ (by decide)]; exact S.t3 (by simpa using g), fun g => by rw [eval_put_ne _ _ _ _ (by decide)]; exact S.t4 (by simpa using g), fun g => by rw [eval_put_ne _ _ _ _ (by decide)]; exact S.t5 (by simpa using g), fun g => by rw [eval_put_ne _ _ _ _ (by decide)]; exact S.t6 (by simpa using g), fun g => by rw [eval_put_ne _ _ _ _ (by decide)]; exact S.t7 (by simpa using g), fun g => by rw [eval_put_ne _ _ _ _ (by decide)]; exact S.t8 (by simpa using g), fun g => by rw [eval_put_ne _ _ _ _ (by decide)]; exact S.t9 (by simpa using g), fun g => by rw [eval_put_ne _ _ _ _ (by decide)]; exact S.t10 (by simpa using g), fun g g2 => by rw [eval_put_ne _ _ _ _ (by decide)]; obtain ⟨p, k1, k2, k3⟩ := S.p_p (by simpa using g) (by simpa using g2); exact ⟨p, k1, k2, k3⟩, fun g g2 => by rw [eval_put_ne _ _ _ _ (by decide)]; obtain ⟨p, k1, k2, k3⟩ := S.q_p (by simpa using g) (by simpa using g2); exact ⟨p, k1, k2, k3⟩⟩
    | 2, _, ho, hsi, hT =>
      obtain ⟨e1, e2⟩ := pick_of h2 ho
      have D0 : s 0 = true := list_pos hT (d := 0) (by decide)
      have D1 : s 1 = true := list_pos hT (d := 1) (by decide)
      have N12 : s 12 = false := list_neg hT (k := 12) (by decide)
      refine step_val (v := .pointer (some ⟨sb, so + k, none⟩)) (by simp only [execOp, e1, S.t0 D0, S.t1 D1]; go_simp) (hK _ _ ?_)
      rw [e2]
      exact ⟨S.off.put (by decide) _, S.below, fun g => by rw [eval_put_ne _ _ _ _ (by decide)]; exact S.t0 (by simpa using g), fun g => by rw [eval_put_ne _ _ _ _ (by decide)]; exact S.t1 (by simpa using g), fun _ => (eval_put _ _ _ (by omega)).trans rfl, fun g => by rw [eval_put_ne _ _ _ _ (by decide)]; exact S.t3 (by simpa using g), fun g => by rw [eval_put_ne _ _ _ _ (by decide)]; exact S.t4 (by simpa using g), fun g => by rw [eval_put_ne _ _ _ _ (by decide)]; exact S.t5 (by simpa using g), fun g => by rw [eval_put_ne _ _ _ _ (by decide)]; exact S.t6 (by simpa using g), fun g => by rw [eval_put_ne _ _ _ _ (by decide)]; exact S.t7 (by simpa using g), fun g => by rw [eval_put_ne _ _ _ _ (by decide)]; exact S.t8 (by simpa using g), fun g => by rw [eval_put_ne _ _ _ _ (by decide)]; exact S.t9 (by simpa using g), fun g => by rw [eval_put_ne _ _ _ _ (by decide)]; exact S.t10 (by simpa using g), fun g g2 => by rw [eval_put_ne _ _ _ _ (by decide)]; obtain ⟨p, k1, k2, k3⟩ := S.p_p (by simpa using g) (by simpa using g2); exact ⟨p, k1, k2, k3⟩, fun g g2 => by rw [eval_put_ne _ _ _ _ (by decide)]; obtain ⟨p, k1, k2, k3⟩ := S.q_p (by simpa using g) (by simpa using g2); exact ⟨p, k1, k2, k3⟩⟩
    | 3, _, ho, hsi, hT =>
      obtain ⟨e1, e2⟩ := pick_of h3 ho
      have D2 : s 2 = true := list_pos hT (d := 2) (by decide)
      have N12 : s 12 = false := list_neg hT (k := 12) (by decide)
      refine step_val (v := .int .i64 z1) (by have cl := (show w'.cell? ⟨sb, so + k, none⟩ = some (.int .i64 z1) from (S.below.cell (p := ⟨sb, so + k, none⟩) hsb).trans hscell); simp only [execOp, e1, S.t2 D2]; go_simp) (hK _ _ ?_)
      rw [e2]
      exact ⟨S.off.put (by decide) _, S.below, fun g => by rw [eval_put_ne _ _ _ _ (by decide)]; exact S.t0 (by simpa using g), fun g => by rw [eval_put_ne _ _ _ _ (by decide)]; exact S.t1 (by simpa using g), fun g => by rw [eval_put_ne _ _ _ _ (by decide)]; exact S.t2 (by simpa using g), fun _ => (eval_put _ _ _ (by omega)).trans rfl, fun g => by rw [eval_put_ne _ _ _ _ (by decide)]; exact S.t4 (by simpa using g), fun g => by rw [eval_put_ne _ _ _ _ (by decide)]; exact S.t5 (by simpa using g), fun g => by rw [eval_put_ne _ _ _ _ (by decide)]; exact S.t6 (by simpa using g), fun g => by rw [eval_put_ne _ _ _ _ (by decide)]; exact S.t7 (by simpa using g), fun g => by rw [eval_put_ne _ _ _ _ (by decide)]; exact S.t8 (by simpa using g), fun g => by rw [eval_put_ne _ _ _ _ (by decide)]; exact S.t9 (by simpa using g), fun g => by rw [eval_put_ne _ _ _ _ (by decide)]; exact S.t10 (by simpa using g), fun g g2 => by rw [eval_put_ne _ _ _ _ (by decide)]; obtain ⟨p, k1, k2, k3⟩ := S.p_p (by simpa using g) (by simpa using g2); exact ⟨p, k1, k2, k3⟩, fun g g2 => by rw [eval_put_ne _ _ _ _ (by decide)]; obtain ⟨p, k1, k2, k3⟩ := S.q_p (by simpa using g) (by simpa using g2); exact ⟨p, k1, k2, k3⟩⟩
    | 4, _, ho, hsi, hT =>
      obtain ⟨e1, e2⟩ := pick_of h4 ho
      have D3 : s 3 = true := list_pos hT (d := 3) (by decide)
      have N12 : s 12 = false := list_neg hT (k := 12) (by decide)
      refine step_call 32 (fun args w => by go_simp) _ _ e1 #[.int .i64 z1] (by simp only [List.map_toArray, List.map_cons, List.map_nil, S.t3 D3]) ((bigAbs_any z1 hz1 w').mono ?_)
      rintro e w2 ⟨rfl, BB⟩
      refine ⟨_, rfl, hK _ _ ?_⟩
      rw [e2]
      have hBs : B ≤ w'.heap.size := Nat.le_trans hB0 S.below.size
      exact ⟨S.off.put (by decide) _, S.below.trans (BB.mono hBs), fun g => by rw [eval_put_ne _ _ _ _ (by decide)]; exact S.t0 (by simpa using g), fun g => by rw [eval_put_ne _ _ _ _ (by decide)]; exact S.t1 (by simpa using g), fun g => by rw [eval_put_ne _ _ _ _ (by decide)]; exact S.t2 (by simpa using g), fun g => by rw [eval_put_ne _ _ _ _ (by decide)]; exact S.t3 (by simpa using g), fun _ => (eval_put _ _ _ (by omega)).trans rfl, fun g => by rw [eval_put_ne _ _ _ _ (by decide)]; exact S.t5 (by simpa using g), fun g => by rw [eval_put_ne _ _ _ _ (by decide)]; exact S.t6 (by simpa using g), fun g => by rw [eval_put_ne _ _ _ _ (by decide)]; exact S.t7 (by simpa using g), fun g => by rw [eval_put_ne _ _ _ _ (by decide)]; exact S.t8 (by simpa using g), fun g => by rw [eval_put_ne _ _ _ _ (by decide)]; exact S.t9 (by simpa using g), fun g => by rw [eval_put_ne _ _ _ _ (by decide)]; exact S.t10 (by simpa using g), fun g g2 => by rw [eval_put_ne _ _ _ _ (by decide)]; obtain ⟨p, k1, k2, k3⟩ := S.p_p (by simpa using g) (by simpa using g2); exact ⟨p, k1, k2, (k3).below BB⟩, fun g g2 => by rw [eval_put_ne _ _ _ _ (by decide)]; obtain ⟨p, k1, k2, k3⟩ := S.q_p (by simpa using g) (by simpa using g2); exact ⟨p, k1, k2, (k3).below BB⟩⟩
    | 5, _, ho, hsi, hT =>
      obtain ⟨e1, e2⟩ := pick_of h5 ho
      have N12 : s 12 = false := list_neg hT (k := 12) (by decide)
      refine step_val (v := .slice (some ⟨tb, tq, none⟩) n c2) (by simp only [execOp, e1, S.off.eval (show 1 ∉ [9, 26, 27, 28, 29, 30, 31, 32, 33, 34, 35, 36] by decide), x1]; go_simp) (hK _ _ ?_)
      rw [e2]
      exact ⟨S.off.put (by decide) _, S.below, fun g => by rw [eval_put_ne _ _ _ _ (by decide)]; exact S.t0 (by simpa using g), fun g => by rw [eval_put_ne _ _ _ _ (by decide)]; exact S.t1 (by simpa using g), fun g => by rw [eval_put_ne _ _ _ _ (by decide)]; exact S.t2 (by simpa using g), fun g => by rw [eval_put_ne _ _ _ _ (by decide)]; exact S.t3 (by simpa using g), fun g => by rw [eval_put_ne _ _ _ _ (by decide)]; exact S.t4 (by simpa using g), fun _ => (eval_put _ _ _ (by omega)).trans rfl, fun g => by rw [eval_put_ne _ _ _ _ (by decide)]; exact S.t6 (by simpa using g), fun g => by rw [eval_put_ne _ _ _ _ (by decide)]; exact S.t7 (by simpa using g), fun g => by rw [eval_put_ne _ _ _ _ (by decide)]; exact S.t8 (by simpa using g), fun g => by rw [eval_put_ne _ _ _ _ (by decide)]; exact S.t9 (by simpa using g), fun g => by rw [eval_put_ne _ _ _ _ (by decide)]; exact S.t10 (by simpa using g), fun g g2 => by rw [eval_put_ne _ _ _ _ (by decide)]; obtain ⟨p, k1, k2, k3⟩ := S.p_p (by simpa using g) (by simpa using g2); exact ⟨p, k1, k2, k3⟩, fun g g2 => by rw [eval_put_ne _ _ _ _ (by decide)]; obtain ⟨p, k1, k2, k3⟩ := S.q_p (by simpa using g) (by simpa using g2); exact ⟨p, k1, k2, k3⟩⟩
    | 6, _, ho, hsi, hT =>
      obtain ⟨e1, e2⟩ := pick_of h6 ho
      have N12 : s 12 = false := list_neg hT (k := 12) (by decide)
      refine step_val (v := .int .i64 k) (by simp only [execOp, e1, S.off.eval (show 8 ∉ [9, 26, 27, 28, 29, 30, 31, 32, 33, 34, 35, 36] by decide), x8]; go_simp) (hK _ _ ?_)
      rw [e2]
      exact ⟨S.off.put (by decide) _, S.below, fun g => by rw [eval_put_ne _ _ _ _ (by decide)]; exact S.t0 (by simpa using g), fun g => by rw [eval_put_ne _ _ _ _ (by decide)]; exact S.t1 (by simpa using g), fun g => by rw [eval_put_ne _ _ _ _ (by decide)]; exact S.t2 (by simpa using g), fun g => by rw [eval_put_ne _ _ _ _ (by decide)]; exact S.t3 (by simpa using g), fun g => by rw [eval_put_ne _ _ _ _ (by decide)]; exact S.t4 (by simpa using g), fun g => by rw [eval_put_ne _ _ _ _ (by decide)]; exact S.t5 (by simpa using g), fun _ => (eval_put _ _ _ (by omega)).trans rfl, fun g => by rw [eval_put_ne _ _ _ _ (by decide)]; exact S.t7 (by simpa using g), fun g => by rw [eval_put_ne _ _ _ _ (by decide)]; exact S.t8 (by simpa using g), fun g => by rw [eval_put_ne _ _ _ _ (by decide)]; exact S.t9 (by simpa using g), fun g => by rw [eval_put_ne _ _ _ _ (by decide)]; exact S.t10 (by simpa using g), fun g g2 => by rw [eval_put_ne _ _ _ _ (by decide)]; obtain ⟨p, k1, k2, k3⟩ := S.p_p (by simpa using g) (by simpa using g2); exact ⟨p, k1, k2, k3⟩, fun g g2 => by rw [eval_put_ne _ _ _ _ (by decide)]; obtain ⟨p, k1, k2, k3⟩ := S.q_p (by simpa using g) (by simpa using g2); exact ⟨p, k1, k2, k3⟩⟩
    | 7, _, ho, hsi, hT =>
      obtain ⟨e1, e2⟩ := pick_of h7 ho
      have D5 : s 5 = true := list_pos hT (d := 5) (by decide)
      have D6 : s 6 = true := list_pos hT (d := 6) (by decide)
      have N12 : s 12 = false := list_neg hT (k := 12) (by decide)
      refine step_val (v := .pointer (some ⟨tb, tq + k, none⟩)) (by simp only [execOp, e1, S.t5 D5, S.t6 D6]; go_simp) (hK _ _ ?_)
      rw [e2]
      exact ⟨S.off.put (by decide) _, S.below, fun g => by rw [eval_put_ne _ _ _ _ (by decide)]; exact S.t0 (by simpa using g), fun g => by rw [eval_put_ne _ _ _ _ (by decide)]; exact S.t1 (by simpa using g), fun g => by rw [eval_put_ne _ _ _ _ (by decide)]; exact S.t2 (by simpa using g), fun g => by rw [eval_put_ne _ _ _ _ (by decide)]; exact S.t3 (by simpa using g), fun g => by rw [eval_put_ne _ _ _ _ (by decide)]; exact S.t4 (by simpa using g), fun g => by rw [eval_put_ne _ _ _ _ (by decide)]; exact S.t5 (by simpa using g), fun g => by rw [eval_put_ne _ _ _ _ (by decide)]; exact S.t6 (by simpa using g), fun _ => (eval_put _ _ _ (by omega)).trans rfl, fun g => by rw [eval_put_ne _ _ _ _ (by decide)]; exact S.t8 (by simpa using g), fun g => by rw [eval_put_ne _ _ _ _ (by decide)]; exact S.t9 (by simpa using g), fun g => by rw [eval_put_ne _ _ _ _ (by decide)]; exact S.t10 (by simpa using g), fun g g2 => by rw [eval_put_ne _ _ _ _ (by decide)]; obtain ⟨p, k1, k2, k3⟩ := S.p_p (by simpa using g) (by simpa using g2); exact ⟨p, k1, k2, k3⟩, fun g g2 => by rw [eval_put_ne _ _ _ _ (by decide)]; obtain ⟨p, k1, k2, k3⟩ := S.q_p (by simpa using g) (by simpa using g2); exact ⟨p, k1, k2, k3⟩⟩
    | 8, _, ho, hsi, hT =>
      obtain ⟨e1, e2⟩ := pick_of h8 ho
      have D7 : s 7 = true := list_pos hT (d := 7) (by decide)
      have N12 : s 12 = false := list_neg hT (k := 12) (by decide)
      refine step_val (v := .int .i64 z2) (by have cl := (show w'.cell? ⟨tb, tq + k, none⟩ = some (.int .i64 z2) from (S.below.cell (p := ⟨tb, tq + k, none⟩) htb).trans htcell); simp only [execOp, e1, S.t7 D7]; go_simp) (hK _ _ ?_)
      rw [e2]
      exact ⟨S.off.put (by decide) _, S.below, fun g => by rw [eval_put_ne _ _ _ _ (by decide)]; exact S.t0 (by simpa using g), fun g => by rw [eval_put_ne _ _ _ _ (by decide)]; exact S.t1 (by simpa using g), fun g => by rw [eval_put_ne _ _ _ _ (by decide)]; exact S.t2 (by simpa using g), fun g => by rw [eval_put_ne _ _ _ _ (by decide)]; exact S.t3 (by simpa using g), fun g => by rw [eval_put_ne _ _ _ _ (by decide)]; exact S.t4 (by simpa using g), fun g => by rw [eval_put_ne _ _ _ _ (by decide)]; exact S.t5 (by simpa using g), fun g => by rw [eval_put_ne _ _ _ _ (by decide)]; exact S.t6 (by simpa using g), fun g => by rw [eval_put_ne _ _ _ _ (by decide)]; exact S.t7 (by simpa using g), fun _ => (eval_put _ _ _ (by omega)).trans rfl, fun g => by rw [eval_put_ne _ _ _ _ (by decide)]; exact S.t9 (by simpa using g), fun g => by rw [eval_put_ne _ _ _ _ (by decide)]; exact S.t10 (by simpa using g), fun g g2 => by rw [eval_put_ne _ _ _ _ (by decide)]; obtain ⟨p, k1, k2, k3⟩ := S.p_p (by simpa using g) (by simpa using g2); exact ⟨p, k1, k2, k3⟩, fun g g2 => by rw [eval_put_ne _ _ _ _ (by decide)]; obtain ⟨p, k1, k2, k3⟩ := S.q_p (by simpa using g) (by simpa using g2); exact ⟨p, k1, k2, k3⟩⟩
    | 9, _, ho, hsi, hT =>
      obtain ⟨e1, e2⟩ := pick_of h9 ho
      have D8 : s 8 = true := list_pos hT (d := 8) (by decide)
      have N12 : s 12 = false := list_neg hT (k := 12) (by decide)
      refine step_call 32 (fun args w => by go_simp) _ _ e1 #[.int .i64 z2] (by simp only [List.map_toArray, List.map_cons, List.map_nil, S.t8 D8]) ((bigAbs_any z2 hz2 w').mono ?_)
      rintro e w2 ⟨rfl, BB⟩
      refine ⟨_, rfl, hK _ _ ?_⟩
      rw [e2]
      have hBs : B ≤ w'.heap.size := Nat.le_trans hB0 S.below.size
      exact ⟨S.off.put (by decide) _, S.below.trans (BB.mono hBs), fun g => by rw [eval_put_ne _ _ _ _ (by decide)]; exact S.t0 (by simpa using g), fun g => by rw [eval_put_ne _ _ _ _ (by decide)]; exact S.t1 (by simpa using g), fun g => by rw [eval_put_ne _ _ _ _ (by decide)]; exact S.t2 (by simpa using g), fun g => by rw [eval_put_ne _ _ _ _ (by decide)]; exact S.t3 (by simpa using g), fun g => by rw [eval_put_ne _ _ _ _ (by decide)]; exact S.t4 (by simpa using g), fun g => by rw [eval_put_ne _ _ _ _ (by decide)]; exact S.t5 (by simpa using g), fun g => by rw [eval_put_ne _ _ _ _ (by decide)]; exact S.t6 (by simpa using g), fun g => by rw [eval_put_ne _ _ _ _ (by decide)]; exact S.t7 (by simpa using g), fun g => by rw [eval_put_ne _ _ _ _ (by decide)]; exact S.t8 (by simpa using g), fun _ => (eval_put _ _ _ (by omega)).trans rfl, fun g => by rw [eval_put_ne _ _ _ _ (by decide)]; exact S.t10 (by simpa using g), fun g g2 => by rw [eval_put_ne _ _ _ _ (by decide)]; obtain ⟨p, k1, k2, k3⟩ := S.p_p (by simpa using g) (by simpa using g2); exact ⟨p, k1, k2, (k3).below BB⟩, fun g g2 => by rw [eval_put_ne _ _ _ _ (by decide)]; obtain ⟨p, k1, k2, k3⟩ := S.q_p (by simpa using g) (by simpa using g2); exact ⟨p, k1, k2, (k3).below BB⟩⟩
    | 10, _, ho, hsi, hT =>
      obtain ⟨e1, e2⟩ := pick_of h10 ho
      have D4 : s 4 = true := list_pos hT (d := 4) (by decide)
      have D9 : s 9 = true := list_pos hT (d := 9) (by decide)
      have N12 : s 12 = false := list_neg hT (k := 12) (by decide)
      refine step_call 31 (fun args w => by go_simp) _ _ e1 #[Big z1.natAbs, Big z2.natAbs] (by simp only [List.map_toArray, List.map_cons, List.map_nil, S.t4 D4, S.t9 D9]) ((bigTimes_any z1.natAbs z2.natAbs hl1 hl2 w').mono ?_)
      rintro e w2 ⟨rfl, BB⟩
      refine ⟨_, rfl, hK _ _ ?_⟩
      rw [e2]
      have hBs : B ≤ w'.heap.size := Nat.le_trans hB0 S.below.size
      exact ⟨S.off.put (by decide) _, S.below.trans (BB.mono hBs), fun g => by rw [eval_put_ne _ _ _ _ (by decide)]; exact S.t0 (by simpa using g), fun g => by rw [eval_put_ne _ _ _ _ (by decide)]; exact S.t1 (by simpa using g), fun g => by rw [eval_put_ne _ _ _ _ (by decide)]; exact S.t2 (by simpa using g), fun g => by rw [eval_put_ne _ _ _ _ (by decide)]; exact S.t3 (by simpa using g), fun g => by rw [eval_put_ne _ _ _ _ (by decide)]; exact S.t4 (by simpa using g), fun g => by rw [eval_put_ne _ _ _ _ (by decide)]; exact S.t5 (by simpa using g), fun g => by rw [eval_put_ne _ _ _ _ (by decide)]; exact S.t6 (by simpa using g), fun g => by rw [eval_put_ne _ _ _ _ (by decide)]; exact S.t7 (by simpa using g), fun g => by rw [eval_put_ne _ _ _ _ (by decide)]; exact S.t8 (by simpa using g), fun g => by rw [eval_put_ne _ _ _ _ (by decide)]; exact S.t9 (by simpa using g), fun _ => (eval_put _ _ _ (by omega)).trans rfl, fun g g2 => by rw [eval_put_ne _ _ _ _ (by decide)]; obtain ⟨p, k1, k2, k3⟩ := S.p_p (by simpa using g) (by simpa using g2); exact ⟨p, k1, k2, (k3).below BB⟩, fun g g2 => by rw [eval_put_ne _ _ _ _ (by decide)]; obtain ⟨p, k1, k2, k3⟩ := S.q_p (by simpa using g) (by simpa using g2); exact ⟨p, k1, k2, (k3).below BB⟩⟩
    | 11, _, ho, hsi, hT =>
      obtain ⟨e1, e2⟩ := pick_of h11 ho
      have N12 : s 12 = false := list_neg hT (k := 12) (by decide)
      refine step_alloc e1 (hK _ _ ?_)
      rw [e2]
      have hBs : B ≤ w'.heap.size := Nat.le_trans hB0 S.below.size
      exact ⟨S.off.put (by decide) _, S.below.alloc hBs _, fun g => by rw [eval_put_ne _ _ _ _ (by decide)]; exact S.t0 (by simpa using g), fun g => by rw [eval_put_ne _ _ _ _ (by decide)]; exact S.t1 (by simpa using g), fun g => by rw [eval_put_ne _ _ _ _ (by decide)]; exact S.t2 (by simpa using g), fun g => by rw [eval_put_ne _ _ _ _ (by decide)]; exact S.t3 (by simpa using g), fun g => by rw [eval_put_ne _ _ _ _ (by decide)]; exact S.t4 (by simpa using g), fun g => by rw [eval_put_ne _ _ _ _ (by decide)]; exact S.t5 (by simpa using g), fun g => by rw [eval_put_ne _ _ _ _ (by decide)]; exact S.t6 (by simpa using g), fun g => by rw [eval_put_ne _ _ _ _ (by decide)]; exact S.t7 (by simpa using g), fun g => by rw [eval_put_ne _ _ _ _ (by decide)]; exact S.t8 (by simpa using g), fun g => by rw [eval_put_ne _ _ _ _ (by decide)]; exact S.t9 (by simpa using g), fun g => by rw [eval_put_ne _ _ _ _ (by decide)]; exact S.t10 (by simpa using g), fun _ _ => by rw [eval_put _ _ _ (by omega)]; exact ⟨_, rfl, S.below.size, row_new _ _⟩, fun _ g => absurd g (by simp [N12])⟩
    | 12, _, ho, hsi, hT =>
      obtain ⟨e1, e2⟩ := pick_of h12 ho
      have D0 : s 0 = true := list_pos hT (d := 0) (by decide)
      have D1 : s 1 = true := list_pos hT (d := 1) (by decide)
      have D2 : s 2 = true := list_pos hT (d := 2) (by decide)
      have D3 : s 3 = true := list_pos hT (d := 3) (by decide)
      have D4 : s 4 = true := list_pos hT (d := 4) (by decide)
      have D5 : s 5 = true := list_pos hT (d := 5) (by decide)
      have D6 : s 6 = true := list_pos hT (d := 6) (by decide)
      have D7 : s 7 = true := list_pos hT (d := 7) (by decide)
      have D8 : s 8 = true := list_pos hT (d := 8) (by decide)
      have D9 : s 9 = true := list_pos hT (d := 9) (by decide)
      have D10 : s 10 = true := list_pos hT (d := 10) (by decide)
      have D11 : s 11 = true := list_pos hT (d := 11) (by decide)
      obtain ⟨p, k1, k2, k3⟩ := S.p_p D11 hsi
      refine step_store (.tmp 9) (.tmp 36) e1 (b := p) (f := BigM.dg (z1.natAbs * z2.natAbs)) k1 (S.t10 D10) k3 (hK _ _ ?_)
      rw [e2]
      exact ⟨S.off, below_setRow S.below (by omega) _, fun g => S.t0 (by simpa using g), fun g => S.t1 (by simpa using g), fun g => S.t2 (by simpa using g), fun g => S.t3 (by simpa using g), fun g => S.t4 (by simpa using g), fun g => S.t5 (by simpa using g), fun g => S.t6 (by simpa using g), fun g => S.t7 (by simpa using g), fun g => S.t8 (by simpa using g), fun g => S.t9 (by simpa using g), fun g => S.t10 (by simpa using g), fun _ g => absurd g (by simp), fun _ _ => ⟨p, k1, k2, k3.setRow⟩⟩
  · intro s a w' S hall
    have a0 := hall 0 (by omega)
    have a1 := hall 1 (by omega)
    have a2 := hall 2 (by omega)
    have a3 := hall 3 (by omega)
    have a4 := hall 4 (by omega)
    have a5 := hall 5 (by omega)
    have a6 := hall 6 (by omega)
    have a7 := hall 7 (by omega)
    have a8 := hall 8 (by omega)
    have a9 := hall 9 (by omega)
    have a10 := hall 10 (by omega)
    have a11 := hall 11 (by omega)
    have a12 := hall 12 (by omega)
    obtain ⟨p, k1, k2, k3⟩ := S.q_p a11 a12
    have e := off_norm _ (by intro d hd; simp at hd; omega) S.off
    simp only [List.foldl, k1, S.t0 a0, S.t1 a1, S.t2 a2, S.t3 a3, S.t4 a4, S.t5 a5, S.t6 a6, S.t7 a7, S.t8 a8, S.t9 a9, S.t10 a10] at e
    rw [e]
    exact h p _ S.below k2 k3
structure dot_signsAt (sb so c1 tb tq c2 n k : Nat) (z1 z2 : Int) ( B : Nat) (A : Act) (w0 : World) (s : Nat → Bool) (a : Act) (w : World) : Prop where
  off : Off [37, 38, 39, 40, 41, 42, 43, 44, 45, 46, 47] a A
  below : Below B w0 w
  t0 : s 0 = true → a.eval (.tmp 37) = .slice (some ⟨sb, so, none⟩) n c1
  t1 : s 1 = true → a.eval (.tmp 38) = .int .i64 k
  t2 : s 2 = true → a.eval (.tmp 39) = .pointer (some ⟨sb, so + k, none⟩)
  t3 : s 3 = true → a.eval (.tmp 40) = .int .i64 z1
  t4 : s 4 = true → a.eval (.tmp 41) = .bool (decide (z1 < 0))
  t5 : s 5 = true → a.eval (.tmp 42) = .slice (some ⟨tb, tq, none⟩) n c2
  t6 : s 6 = true → a.eval (.tmp 43) = .int .i64 k
  t7 : s 7 = true → a.eval (.tmp 44) = .pointer (some ⟨tb, tq + k, none⟩)
  t8 : s 8 = true → a.eval (.tmp 45) = .int .i64 z2
  t9 : s 9 = true → a.eval (.tmp 46) = .bool (decide (z2 < 0))
  t10 : s 10 = true → a.eval (.tmp 47) = .bool (decide (z1 < 0) == decide (z2 < 0))

set_option maxHeartbeats 2000000 in
theorem dot_signs {id : Nat} {d : Bool} {l : List Oper} {A : Act} {w : World} {Q : Exit → Act → World → Prop} (sb so c1 tb tq c2 n k : Nat) (z1 z2 : Int) (x0 : A.eval (.tmp 0) = .slice (some ⟨sb, so, none⟩) n c1) (x1 : A.eval (.tmp 1) = .slice (some ⟨tb, tq, none⟩) n c2) (x8 : A.eval (.tmp 8) = .int .i64 k) (hk : (k : Int) < n) (hk0 : (0 : Int) ≤ k) {B : Nat} (hsb : sb < B) (hscell : w.cell? ⟨sb, so + k, none⟩ = some (.int .i64 z1)) (htb : tb < B) (htcell : w.cell? ⟨tb, tq + k, none⟩ = some (.int .i64 z2)) 
    (hB : tableL d l.toArray (fun i => match i with | 0 => [] | 1 => [] | 2 => [0, 1] | 3 => [2] | 4 => [3] | 5 => [] | 6 => [] | 7 => [5, 6] | 8 => [7] | 9 => [8] | 10 => [4, 9] | _ => []) (fun i => match i with | 0 => [] | 1 => [] | 2 => [] | 3 => [] | 4 => [] | 5 => [] | 6 => [] | 7 => [] | 8 => [] | 9 => [] | 10 => [] | _ => []) = true) (hl : l.length = 11)
    (h0 : pick l 0 = some (.move (.tmp 0), some 37))
    (h1 : pick l 1 = some (.move (.tmp 8), some 38))
    (h2 : pick l 2 = some (.indexAddr 29 (.tmp 37) (.tmp 38), some 39))
    (h3 : pick l 3 = some (.load 2 (.tmp 39), some 40))
    (h4 : pick l 4 = some (.binOp .lss 2 (.tmp 40) (.const (.int .i64 0)) 2, some 41))
    (h5 : pick l 5 = some (.move (.tmp 1), some 42))
    (h6 : pick l 6 = some (.move (.tmp 8), some 43))
    (h7 : pick l 7 = some (.indexAddr 29 (.tmp 42) (.tmp 43), some 44))
    (h8 : pick l 8 = some (.load 2 (.tmp 44), some 45))
    (h9 : pick l 9 = some (.binOp .lss 2 (.tmp 45) (.const (.int .i64 0)) 2, some 46))
    (h10 : pick l 10 = some (.binOp .eql 4 (.tmp 41) (.tmp 46) 4, some 47))
    (hs : A.tmps.size = 71) (hB0 : B ≤ w.heap.size)
    (h : ∀ w', Below B w w' → Q .normal (((((((((((A.put (some 37) (.slice (some ⟨sb, so, none⟩) n c1)).put (some 38) (.int .i64 k)).put (some 39) (.pointer (some ⟨sb, so + k, none⟩))).put (some 40) (.int .i64 z1)).put (some 41) (.bool (decide (z1 < 0)))).put (some 42) (.slice (some ⟨tb, tq, none⟩) n c2)).put (some 43) (.int .i64 k)).put (some 44) (.pointer (some ⟨tb, tq + k, none⟩))).put (some 45) (.int .i64 z2)).put (some 46) (.bool (decide (z2 < 0)))).put (some 47) (.bool (decide (z1 < 0) == decide (z2 < 0)))) w') :
    (Code.region id l.toArray d).wp Tryd.prog Q A w := by
  refine wp_region_invL (by kernel_rfl) _ _ hB (dot_signsAt sb so c1 tb tq c2 n k z1 z2  B A w) ⟨Off.refl _ _, Below.refl _ _, by simp, by simp, by simp, by simp, by simp, by simp, by simp, by simp, by simp, by simp, by simp⟩ ⟨Off.refl _ _, (Below.refl _ _).drew, by simp, by simp, by simp, by simp, by simp, by simp, by simp, by simp, by simp, by simp, by simp⟩ ?_ ?_
  · intro s a w' S i o ho hsi hT K hK
    have sz : a.tmps.size = 71 := by rw [S.off.2.1]; exact hs
    have il : i < 11 := by have := (List.getElem?_eq_some_iff.1 ho).1; omega
    match i, il, ho, hsi, hT with
    | 0, _, ho, hsi, hT =>
      obtain ⟨e1, e2⟩ := pick_of h0 ho
      refine step_val (v := .slice (some ⟨sb, so, none⟩) n c1) (by simp only [execOp, e1, S.off.eval (show 0 ∉ [37, 38, 39, 40, 41, 42, 43, 44, 45, 46, 47] by decide), x0]; go_simp) (hK _ _ ?_)
      rw [e2]
      exact ⟨S.off.put (by decide) _, S.below, fun _ => (eval_put _ _ _ (by omega)).trans rfl, fun g => by rw [eval_put_ne _ _ _ _ (by decide)]; exact S.t1 (by simpa using g), fun g => by rw [eval_put_ne _ _ _ _ (by decide)]; exact S.t2 (by simpa using g), fun g => by rw [eval_put_ne _ _ _ _ (by decide)]; exact S.t3 (by simpa using g), fun g => by rw [eval_put_ne _ _ _ _ (by decide)]; exact S.t4 (by simpa using g), fun g => by rw [eval_put_ne _ _ _ _ (by decide)]; exact S.t5 (by simpa using g), fun g => by rw [eval_put_ne _ _ _ _ (by decide)]; exact S.t6 (by simpa using g), fun g => by rw [eval_put_ne _ _ _ _ (by decide)]; exact S.t7 (by simpa using g), fun g => by rw [eval_put_ne _ _ _ _ (by decide)]; exact S.t8 (by simpa using g), fun g => by rw [eval_put_ne _ _ _ _ (by decide)]; exact S.t9 (by simpa using g), fun g => by rw [eval_put_ne _ _ _ _ (by decide)]; exact S.t10 (by simpa using g)⟩
    | 1, _, ho, hsi, hT =>
      obtain ⟨e1, e2⟩ := pick_of h1 ho
      refine step_val (v := .int .i64 k) (by simp only [execOp, e1, S.off.eval (show 8 ∉ [37, 38, 39, 40, 41, 42, 43, 44, 45, 46, 47] by decide), x8]; go_simp) (hK _ _ ?_)
      rw [e2]
      exact ⟨S.off.put (by decide) _, S.below, fun g => by rw [eval_put_ne _ _ _ _ (by decide)]; exact S.t0 (by simpa using g), fun _ => (eval_put _ _ _ (by omega)).trans rfl, fun g => by rw [eval_put_ne _ _ _ _ (by decide)]; exact S.t2 (by simpa using g), fun g => by rw [eval_put_ne _ _ _ _ (by decide)]; exact S.t3 (by simpa using g), fun g => by rw [eval_put_ne _ _ _ _ (by decide)]; exact S.t4 (by simpa using g), fun g => by rw [eval_put_ne _ _ _ _ (by decide)]; exact S.t5 (by simpa using g), fun g => by rw [eval_put_ne _ _ _ _ (by decide)]; exact S.t6 (by simpa using g), fun g => by rw [eval_put_ne _ _ _ _ (by decide)]; exact S.t7 (by simpa using g), fun g => by rw [eval_put_ne _ _ _ _ (by decide)]; exact S.t8 (by simpa using g), fun g => by rw [eval_put_ne _ _ _ _ (by decide)]; exact S.t9 (by simpa using g), fun g => by rw [eval_put_ne _ _ _ _ (by decide)]; exact S.t10 (by simpa using g)⟩
    | 2, _, ho, hsi, hT =>
      obtain ⟨e1, e2⟩ := pick_of h2 ho
      have D0 : s 0 = true := list_pos hT (d := 0) (by decide)
      have D1 : s 1 = true := list_pos hT (d := 1) (by decide)
      refine step_val (v := .pointer (some ⟨sb, so + k, none⟩)) (by simp only [execOp, e1, S.t0 D0, S.t1 D1]; go_simp) (hK _ _ ?_)
      rw [e2]
      exact ⟨S.off.put (by decide) _, S.below, fun g => by rw [eval_put_ne _ _ _ _ (by decide)]; exact S.t0 (by simpa using g), fun g => by rw [eval_put_ne _ _ _ _ (by decide)]; exact S.t1 (by simpa using g), fun _ => (eval_put _ _ _ (by omega)).trans rfl, fun g => by rw [eval_put_ne _ _ _ _ (by decide)]; exact S.t3 (by simpa using g), fun g => by rw [eval_put_ne _ _ _ _ (by decide)]; exact S.t4 (by simpa using g), fun g => by rw [eval_put_ne _ _ _ _ (by decide)]; exact S.t5 (by simpa using g), fun g => by rw [eval_put_ne _ _ _ _ (by decide)]; exact S.t6 (by simpa using g), fun g => by rw [eval_put_ne _ _ _ _ (by decide)]; exact S.t7 (by simpa using g), fun g => by rw [eval_put_ne _ _ _ _ (by decide)]; exact S.t8 (by simpa using g), fun g => by rw [eval_put_ne _ _ _ _ (by decide)]; exact S.t9 (by simpa using g), fun g => by rw [eval_put_ne _ _ _ _ (by decide)]; exact S.t10 (by simpa using g)⟩
    | 3, _, ho, hsi, hT =>
      obtain ⟨e1, e2⟩ := pick_of h3 ho
      have D2 : s 2 = true := list_pos hT (d := 2) (by decide)
      refine step_val (v := .int .i64 z1) (by have cl := (show w'.cell? ⟨sb, so + k, none⟩ = some (.int .i64 z1) from (S.below.cell (p := ⟨sb, so + k, none⟩) hsb).trans hscell); simp only [execOp, e1, S.t2 D2]; go_simp) (hK _ _ ?_)
      rw [e2]
      exact ⟨S.off.put (by decide) _, S.below, fun g => by rw [eval_put_ne _ _ _ _ (by decide)]; exact S.t0 (by simpa using g), fun g => by rw [eval_put_ne _ _ _ _ (by decide)]; exact S.t1 (by simpa using g), fun g => by rw [eval_put_ne _ _ _ _ (by decide)]; exact S.t2 (by simpa using g), fun _ => (eval_put _ _ _ (by omega)).trans rfl, fun g => by rw [eval_put_ne _ _ _ _ (by decide)]; exact S.t4 (by simpa using g), fun g => by rw [eval_put_ne _ _ _ _ (by decide)]; exact S.t5 (by simpa using g), fun g => by rw [eval_put_ne _ _ _ _ (by decide)]; exact S.t6 (by simpa using g), fun g => by rw [eval_put_ne _ _ _ _ (by decide)]; exact S.t7 (by simpa using g), fun g => by rw [eval_put_ne _ _ _ _ (by decide)]; exact S.t8 (by simpa using g), fun g => by rw [eval_put_ne _ _ _ _ (by decide)]; exact S.t9 (by simpa using g), fun g => by rw [eval_put_ne _ _ _ _ (by decide)]; exact S.t10 (by simpa using g)⟩
    | 4, _, ho, hsi, hT =>
      obtain ⟨e1, e2⟩ := pick_of h4 ho
      have D3 : s 3 = true := list_pos hT (d := 3) (by decide)
      refine step_val (v := .bool (decide (z1 < 0))) (by simp only [execOp, e1, S.t3 D3, show ∀ v, a.eval (.const v) = v from fun _ => rfl]; go_simp) (hK _ _ ?_)
      rw [e2]
      exact ⟨S.off.put (by decide) _, S.below, fun g => by rw [eval_put_ne _ _ _ _ (by decide)]; exact S.t0 (by simpa using g), fun g => by rw [eval_put_ne _ _ _ _ (by decide)]; exact S.t1 (by simpa using g), fun g => by rw [eval_put_ne _ _ _ _ (by decide)]; exact S.t2 (by simpa using g), fun g => by rw [eval_put_ne _ _ _ _ (by decide)]; exact S.t3 (by simpa using g), fun _ => (eval_put _ _ _ (by omega)).trans rfl, fun g => by rw [eval_put_ne _ _ _ _ (by decide)]; exact S.t5 (by simpa using g), fun g => by rw [eval_put_ne _ _ _ _ (by decide)]; exact S.t6 (by simpa using g), fun g => by rw [eval_put_ne _ _ _ _ (by decide)]; exact S.t7 (by simpa using g), fun g => by rw [eval_put_ne _ _ _ _ (by decide)]; exact S.t8 (by simpa using g), fun g => by rw [eval_put_ne _ _ _ _ (by decide)]; exact S.t9 (by simpa using g), fun g => by rw [eval_put_ne _ _ _ _ (by decide)]; exact S.t10 (by simpa using g)⟩
    | 5, _, ho, hsi, hT =>
      obtain ⟨e1, e2⟩ := pick_of h5 ho
      refine step_val (v := .slice (some ⟨tb, tq, none⟩) n c2) (by simp only [execOp, e1, S.off.eval (show 1 ∉ [37, 38, 39, 40, 41, 42, 43, 44, 45, 46, 47] by decide), x1]; go_simp) (hK _ _ ?_)
      rw [e2]
      exact ⟨S.off.put (by decide) _, S.below, fun g => by rw [eval_put_ne _ _ _ _ (by decide)]; exact S.t0 (by simpa using g), fun g => by rw [eval_put_ne _ _ _ _ (by decide)]; exact S.t1 (by simpa using g), fun g => by rw [eval_put_ne _ _ _ _ (by decide)]; exact S.t2 (by simpa using g), fun g => by rw [eval_put_ne _ _ _ _ (by decide)]; exact S.t3 (by simpa using g), fun g => by rw [eval_put_ne _ _ _ _ (by decide)]; exact S.t4 (by simpa using g), fun _ => (eval_put _ _ _ (by omega)).trans rfl, fun g => by rw [eval_put_ne _ _ _ _ (by decide)]; exact S.t6 (by simpa using g), fun g => by rw [eval_put_ne _ _ _ _ (by decide)]; exact S.t7 (by simpa using g), fun g => by rw [eval_put_ne _ _ _ _ (by decide)]; exact S.t8 (by simpa using g), fun g => by rw [eval_put_ne _ _ _ _ (by decide)]; exact S.t9 (by simpa using g), fun g => by rw [eval_put_ne _ _ _ _ (by decide)]; exact S.t10 (by simpa using g)⟩
    | 6, _, ho, hsi, hT =>
      obtain ⟨e1, e2⟩ := pick_of h6 ho
      refine step_val (v := .int .i64 k) (by simp only [execOp, e1, S.off.eval (show 8 ∉ [37, 38, 39, 40, 41, 42, 43, 44, 45, 46, 47] by decide), x8]; go_simp) (hK _ _ ?_)
      rw [e2]
      exact ⟨S.off.put (by decide) _, S.below, fun g => by rw [eval_put_ne _ _ _ _ (by decide)]; exact S.t0 (by simpa using g), fun g => by rw [eval_put_ne _ _ _ _ (by decide)]; exact S.t1 (by simpa using g), fun g => by rw [eval_put_ne _ _ _ _ (by decide)]; exact S.t2 (by simpa using g), fun g => by rw [eval_put_ne _ _ _ _ (by decide)]; exact S.t3 (by simpa using g), fun g => by rw [eval_put_ne _ _ _ _ (by decide)]; exact S.t4 (by simpa using g), fun g => by rw [eval_put_ne _ _ _ _ (by decide)]; exact S.t5 (by simpa using g), fun _ => (eval_put _ _ _ (by omega)).trans rfl, fun g => by rw [eval_put_ne _ _ _ _ (by decide)]; exact S.t7 (by simpa using g), fun g => by rw [eval_put_ne _ _ _ _ (by decide)]; exact S.t8 (by simpa using g), fun g => by rw [eval_put_ne _ _ _ _ (by decide)]; exact S.t9 (by simpa using g), fun g => by rw [eval_put_ne _ _ _ _ (by decide)]; exact S.t10 (by simpa using g)⟩
    | 7, _, ho, hsi, hT =>
      obtain ⟨e1, e2⟩ := pick_of h7 ho
      have D5 : s 5 = true := list_pos hT (d := 5) (by decide)
      have D6 : s 6 = true := list_pos hT (d := 6) (by decide)
      refine step_val (v := .pointer (some ⟨tb, tq + k, none⟩)) (by simp only [execOp, e1, S.t5 D5, S.t6 D6]; go_simp) (hK _ _ ?_)
      rw [e2]
      exact ⟨S.off.put (by decide) _, S.below, fun g => by rw [eval_put_ne _ _ _ _ (by decide)]; exact S.t0 (by simpa using g), fun g => by rw [eval_put_ne _ _ _ _ (by decide)]; exact S.t1 (by simpa using g), fun g => by rw [eval_put_ne _ _ _ _ (by decide)]; exact S.t2 (by simpa using g), fun g => by rw [eval_put_ne _ _ _ _ (by decide)]; exact S.t3 (by simpa using g), fun g => by rw [eval_put_ne _ _ _ _ (by decide)]; exact S.t4 (by simpa using g), fun g => by rw [eval_put_ne _ _ _ _ (by decide)]; exact S.t5 (by simpa using g), fun g => by rw [eval_put_ne _ _ _ _ (by decide)]; exact S.t6 (by simpa using g), fun _ => (eval_put _ _ _ (by omega)).trans rfl, fun g => by rw [eval_put_ne _ _ _ _ (by decide)]; exact S.t8 (by simpa using g), fun g => by rw [eval_put_ne _ _ _ _ (by decide)]; exact S.t9 (by simpa using g), fun g => by rw [eval_put_ne _ _ _ _ (by decide)]; exact S.t10 (by simpa using g)⟩
    | 8, _, ho, hsi, hT =>
      obtain ⟨e1, e2⟩ := pick_of h8 ho
      have D7 : s 7 = true := list_pos hT (d := 7) (by decide)
      refine step_val (v := .int .i64 z2) (by have cl := (show w'.cell? ⟨tb, tq + k, none⟩ = some (.int .i64 z2) from (S.below.cell (p := ⟨tb, tq + k, none⟩) htb).trans htcell); simp only [execOp, e1, S.t7 D7]; go_simp) (hK _ _ ?_)
      rw [e2]
      exact ⟨S.off.put (by decide) _, S.below, fun g => by rw [eval_put_ne _ _ _ _ (by decide)]; exact S.t0 (by simpa using g), fun g => by rw [eval_put_ne _ _ _ _ (by decide)]; exact S.t1 (by simpa using g), fun g => by rw [eval_put_ne _ _ _ _ (by decide)]; exact S.t2 (by simpa using g), fun g => by rw [eval_put_ne _ _ _ _ (by decide)]; exact S.t3 (by simpa using g), fun g => by rw [eval_put_ne _ _ _ _ (by decide)]; exact S.t4 (by simpa using g), fun g => by rw [eval_put_ne _ _ _ _ (by decide)]; exact S.t5 (by simpa using g), fun g => by rw [eval_put_ne _ _ _ _ (by decide)]; exact S.t6 (by simpa using g), fun g => by rw [eval_put_ne _ _ _ _ (by decide)]; exact S.t7 (by simpa using g), fun _ => (eval_put _ _ _ (by omega)).trans rfl, fun g => by rw [eval_put_ne _ _ _ _ (by decide)]; exact S.t9 (by simpa using g), fun g => by rw [eval_put_ne _ _ _ _ (by decide)]; exact S.t10 (by simpa using g)⟩
    | 9, _, ho, hsi, hT =>
      obtain ⟨e1, e2⟩ := pick_of h9 ho
      have D8 : s 8 = true := list_pos hT (d := 8) (by decide)
      refine step_val (v := .bool (decide (z2 < 0))) (by simp only [execOp, e1, S.t8 D8, show ∀ v, a.eval (.const v) = v from fun _ => rfl]; go_simp) (hK _ _ ?_)
      rw [e2]
      exact ⟨S.off.put (by decide) _, S.below, fun g => by rw [eval_put_ne _ _ _ _ (by decide)]; exact S.t0 (by simpa using g), fun g => by rw [eval_put_ne _ _ _ _ (by decide)]; exact S.t1 (by simpa using g), fun g => by rw [eval_put_ne _ _ _ _ (by decide)]; exact S.t2 (by simpa using g), fun g => by rw [eval_put_ne _ _ _ _ (by decide)]; exact S.t3 (by simpa using g), fun g => by rw [eval_put_ne _ _ _ _ (by decide)]; exact S.t4 (by simpa using g), fun g => by rw [eval_put_ne _ _ _ _ (by decide)]; exact S.t5 (by simpa using g), fun g => by rw [eval_put_ne _ _ _ _ (by decide)]; exact S.t6 (by simpa using g), fun g => by rw [eval_put_ne _ _ _ _ (by decide)]; exact S.t7 (by simpa using g), fun g => by rw [eval_put_ne _ _ _ _ (by decide)]; exact S.t8 (by simpa using g), fun _ => (eval_put _ _ _ (by omega)).trans rfl, fun g => by rw [eval_put_ne _ _ _ _ (by decide)]; exact S.t10 (by simpa using g)⟩
    | 10, _, ho, hsi, hT =>
      obtain ⟨e1, e2⟩ := pick_of h10 ho
      have D4 : s 4 = true := list_pos hT (d := 4) (by decide)
      have D9 : s 9 = true := list_pos hT (d := 9) (by decide)
      refine step_val (v := .bool (decide (z1 < 0) == decide (z2 < 0))) (by simp only [execOp, e1, S.t4 D4, S.t9 D9]; go_simp) (hK _ _ ?_)
      rw [e2]
      exact ⟨S.off.put (by decide) _, S.below, fun g => by rw [eval_put_ne _ _ _ _ (by decide)]; exact S.t0 (by simpa using g), fun g => by rw [eval_put_ne _ _ _ _ (by decide)]; exact S.t1 (by simpa using g), fun g => by rw [eval_put_ne _ _ _ _ (by decide)]; exact S.t2 (by simpa using g), fun g => by rw [eval_put_ne _ _ _ _ (by decide)]; exact S.t3 (by simpa using g), fun g => by rw [eval_put_ne _ _ _ _ (by decide)]; exact S.t4 (by simpa using g), fun g => by rw [eval_put_ne _ _ _ _ (by decide)]; exact S.t5 (by simpa using g), fun g => by rw [eval_put_ne _ _ _ _ (by decide)]; exact S.t6 (by simpa using g), fun g => by rw [eval_put_ne _ _ _ _ (by decide)]; exact S.t7 (by simpa using g), fun g => by rw [eval_put_ne _ _ _ _ (by decide)]; exact S.t8 (by simpa using g), fun g => by rw [eval_put_ne _ _ _ _ (by decide)]; exact S.t9 (by simpa using g), fun _ => (eval_put _ _ _ (by omega)).trans rfl⟩
  · intro s a w' S hall
    have a0 := hall 0 (by omega)
    have a1 := hall 1 (by omega)
    have a2 := hall 2 (by omega)
    have a3 := hall 3 (by omega)
    have a4 := hall 4 (by omega)
    have a5 := hall 5 (by omega)
    have a6 := hall 6 (by omega)
    have a7 := hall 7 (by omega)
    have a8 := hall 8 (by omega)
    have a9 := hall 9 (by omega)
    have a10 := hall 10 (by omega)
    have e := off_norm _ (by intro d hd; simp at hd; omega) S.off
    simp only [List.foldl, S.t0 a0, S.t1 a1, S.t2 a2, S.t3 a3, S.t4 a4, S.t5 a5, S.t6 a6, S.t7 a7, S.t8 a8, S.t9 a9, S.t10 a10] at e
    rw [e]
    exact h _ S.below
structure dot_upAt (up dn pr : Nat) (b_u b_d b_p B : Nat) (A : Act) (w0 : World) (s : Nat → Bool) (a : Act) (w : World) : Prop where
  off : Off [48, 49, 50] a A
  below : Below B w0 w
  t0 : s 0 = true → a.eval (.tmp 48) = Big (up)
  t1 : s 1 = true → a.eval (.tmp 49) = Big (pr)
  t2 : s 2 = true → a.eval (.tmp 50) = Big (up + pr)
  o_u : s 3 = false → Row w b_u (BigM.dg (up))
  n_u : s 3 = true → Row w b_u (BigM.dg (up + pr))
  o_d : Row w b_d (BigM.dg (dn))
  o_p : Row w b_p (BigM.dg (pr))

set_option maxHeartbeats 2000000 in
theorem dot_up {id : Nat} {d : Bool} {l : List Oper} {A : Act} {w : World} {Q : Exit → Act → World → Prop} (up dn pr : Nat)  {b_u b_d b_p B : Nat}
    (hB : tableL d l.toArray (fun i => match i with | 0 => [] | 1 => [] | 2 => [0, 1] | 3 => [0, 1, 2] | _ => []) (fun i => match i with | 0 => [3] | 1 => [3] | 2 => [3] | 3 => [] | _ => []) = true) (hl : l.length = 4)
    (h0 : pick l 0 = some (.load 47 (.tmp 6), some 48))
    (h1 : pick l 1 = some (.load 47 (.tmp 9), some 49))
    (h2 : pick l 2 = some (.call { callee := .value (.func 37), args := #[.tmp 48, .tmp 49], argTypes := #[47, 47] }, some 50))
    (h3 : pick l 3 = some (.store 47 (.tmp 6) (.tmp 50), none))
    (hs : A.tmps.size = 71) (hB0 : B ≤ w.heap.size)
    (x_u : A.eval (.tmp 6) = ptr b_u) (R_u : Row w b_u (BigM.dg (up))) (B_u : B ≤ b_u)
    (x_d : A.eval (.tmp 7) = ptr b_d) (R_d : Row w b_d (BigM.dg (dn)))
    (x_p : A.eval (.tmp 9) = ptr b_p) (R_p : Row w b_p (BigM.dg (pr)))
    (ne_u_d : b_u ≠ b_d)
    (ne_u_p : b_u ≠ b_p)
    (h : ∀ w', Below B w w' → Row w' b_u (BigM.dg (up + pr)) → Row w' b_d (BigM.dg (dn)) → Row w' b_p (BigM.dg (pr)) → Q .normal (((A.put (some 48) (Big (up))).put (some 49) (Big (pr))).put (some 50) (Big (up + pr))) w') :
    (Code.region id l.toArray d).wp Tryd.prog Q A w := by
  refine wp_region_invL (by kernel_rfl) _ _ hB (dot_upAt up dn pr b_u b_d b_p B A w) ⟨Off.refl _ _, Below.refl _ _, by simp, by simp, by simp, fun _ => R_u, by simp, R_d, R_p⟩ ⟨Off.refl _ _, (Below.refl _ _).drew, by simp, by simp, by simp, fun _ => R_u, by simp, R_d, R_p⟩ ?_ ?_
  · intro s a w' S i o ho hsi hT K hK
    have sz : a.tmps.size = 71 := by rw [S.off.2.1]; exact hs
    have il : i < 4 := by have := (List.getElem?_eq_some_iff.1 ho).1; omega
    match i, il, ho, hsi, hT with
    | 0, _, ho, hsi, hT =>
      obtain ⟨e1, e2⟩ := pick_of h0 ho
      have N3 : s 3 = false := list_neg hT (k := 3) (by decide)
      refine step_load (.tmp 6) e1 (b := b_u) (f := BigM.dg (up)) (by rw [S.off.eval (by decide)]; exact x_u) (S.o_u N3) (hK _ _ ?_)
      rw [e2]
      exact ⟨S.off.put (by decide) _, S.below, fun _ => (eval_put _ _ _ (by omega)).trans rfl, fun g => by rw [eval_put_ne _ _ _ _ (by decide)]; exact S.t1 (by simpa using g), fun g => by rw [eval_put_ne _ _ _ _ (by decide)]; exact S.t2 (by simpa using g), fun g => S.o_u (by simpa using g), fun g => S.n_u (by simpa using g), S.o_d, S.o_p⟩
    | 1, _, ho, hsi, hT =>
      obtain ⟨e1, e2⟩ := pick_of h1 ho
      have N3 : s 3 = false := list_neg hT (k := 3) (by decide)
      refine step_load (.tmp 9) e1 (b := b_p) (f := BigM.dg (pr)) (by rw [S.off.eval (by decide)]; exact x_p) S.o_p (hK _ _ ?_)
      rw [e2]
      exact ⟨S.off.put (by decide) _, S.below, fun g => by rw [eval_put_ne _ _ _ _ (by decide)]; exact S.t0 (by simpa using g), fun _ => (eval_put _ _ _ (by omega)).trans rfl, fun g => by rw [eval_put_ne _ _ _ _ (by decide)]; exact S.t2 (by simpa using g), fun g => S.o_u (by simpa using g), fun g => S.n_u (by simpa using g), S.o_d, S.o_p⟩
    | 2, _, ho, hsi, hT =>
      obtain ⟨e1, e2⟩ := pick_of h2 ho
      have D0 : s 0 = true := list_pos hT (d := 0) (by decide)
      have D1 : s 1 = true := list_pos hT (d := 1) (by decide)
      have N3 : s 3 = false := list_neg hT (k := 3) (by decide)
      refine step_call 37 (fun args w => by go_simp) _ _ e1 #[Big (up), Big (pr)] (by simp only [List.map_toArray, List.map_cons, List.map_nil, S.t0 D0, S.t1 D1]) ((bigAdd_any up pr w').mono ?_)
      rintro e w2 ⟨rfl, BB⟩
      refine ⟨_, rfl, hK _ _ ?_⟩
      rw [e2]
      have hBs : B ≤ w'.heap.size := Nat.le_trans hB0 S.below.size
      exact ⟨S.off.put (by decide) _, S.below.trans (BB.mono hBs), fun g => by rw [eval_put_ne _ _ _ _ (by decide)]; exact S.t0 (by simpa using g), fun g => by rw [eval_put_ne _ _ _ _ (by decide)]; exact S.t1 (by simpa using g), fun _ => (eval_put _ _ _ (by omega)).trans rfl, fun g => (S.o_u (by simpa using g)).below BB, fun g => (S.n_u (by simpa using g)).below BB, (S.o_d).below BB, (S.o_p).below BB⟩
    | 3, _, ho, hsi, hT =>
      obtain ⟨e1, e2⟩ := pick_of h3 ho
      have D0 : s 0 = true := list_pos hT (d := 0) (by decide)
      have D1 : s 1 = true := list_pos hT (d := 1) (by decide)
      have D2 : s 2 = true := list_pos hT (d := 2) (by decide)
      refine step_store (.tmp 6) (.tmp 50) e1 (b := b_u) (f := BigM.dg (up + pr)) (by rw [S.off.eval (by decide)]; exact x_u) (S.t2 D2) (S.o_u hsi) (hK _ _ ?_)
      rw [e2]
      exact ⟨S.off, below_setRow S.below B_u _, fun g => S.t0 (by simpa using g), fun g => S.t1 (by simpa using g), fun g => S.t2 (by simpa using g), fun g => absurd g (by simp), fun _ => (S.o_u hsi).setRow, (S.o_d).setRowOther (ne_u_d.symm), (S.o_p).setRowOther (ne_u_p.symm)⟩
  · intro s a w' S hall
    have a0 := hall 0 (by omega)
    have a1 := hall 1 (by omega)
    have a2 := hall 2 (by omega)
    have a3 := hall 3 (by omega)
    have e := off_norm _ (by intro d hd; simp at hd; omega) S.off
    simp only [List.foldl, S.t0 a0, S.t1 a1, S.t2 a2] at e
    rw [e]
    exact h _ S.below (S.n_u a3) S.o_d S.o_p
structure dot_dnAt (up dn pr : Nat) (b_u b_d b_p B : Nat) (A : Act) (w0 : World) (s : Nat → Bool) (a : Act) (w : World) : Prop where
  off : Off [51, 52, 53] a A
  below : Below B w0 w
  t0 : s 0 = true → a.eval (.tmp 51) = Big (dn)
  t1 : s 1 = true → a.eval (.tmp 52) = Big (pr)
  t2 : s 2 = true → a.eval (.tmp 53) = Big (dn + pr)
  o_u : Row w b_u (BigM.dg (up))
  o_d : s 3 = false → Row w b_d (BigM.dg (dn))
  n_d : s 3 = true → Row w b_d (BigM.dg (dn + pr))
  o_p : Row w b_p (BigM.dg (pr))

set_option maxHeartbeats 2000000 in
theorem dot_dn {id : Nat} {d : Bool} {l : List Oper} {A : Act} {w : World} {Q : Exit → Act → World → Prop} (up dn pr : Nat)  {b_u b_d b_p B : Nat}
    (hB : tableL d l.toArray (fun i => match i with | 0 => [] | 1 => [] | 2 => [0, 1] | 3 => [0, 1, 2] | _ => []) (fun i => match i with | 0 => [3] | 1 => [3] | 2 => [3] | 3 => [] | _ => []) = true) (hl : l.length = 4)
    (h0 : pick l 0 = some (.load 47 (.tmp 7), some 51))
    (h1 : pick l 1 = some (.load 47 (.tmp 9), some 52))
    (h2 : pick l 2 = some (.call { callee := .value (.func 37), args := #[.tmp 51, .tmp 52], argTypes := #[47, 47] }, some 53))
    (h3 : pick l 3 = some (.store 47 (.tmp 7) (.tmp 53), none))
    (hs : A.tmps.size = 71) (hB0 : B ≤ w.heap.size)
    (x_u : A.eval (.tmp 6) = ptr b_u) (R_u : Row w b_u (BigM.dg (up)))
    (x_d : A.eval (.tmp 7) = ptr b_d) (R_d : Row w b_d (BigM.dg (dn))) (B_d : B ≤ b_d)
    (x_p : A.eval (.tmp 9) = ptr b_p) (R_p : Row w b_p (BigM.dg (pr)))
    (ne_u_d : b_u ≠ b_d)
    (ne_d_p : b_d ≠ b_p)
    (h : ∀ w', Below B w w' → Row w' b_u (BigM.dg (up)) → Row w' b_d (BigM.dg (dn + pr)) → Row w' b_p (BigM.dg (pr)) → Q .normal (((A.put (some 51) (Big (dn))).put (some 52) (Big (pr))).put (some 53) (Big (dn + pr))) w') :
    (Code.region id l.toArray d).wp Tryd.prog Q A w := by
  refine wp_region_invL (by kernel_rfl) _ _ hB (dot_dnAt up dn pr b_u b_d b_p B A w) ⟨Off.refl _ _, Below.refl _ _, by simp, by simp, by simp, R_u, fun _ => R_d, by simp, R_p⟩ ⟨Off.refl _ _, (Below.refl _ _).drew, by simp, by simp, by simp, R_u, fun _ => R_d, by simp, R_p⟩ ?_ ?_
  · intro s a w' S i o ho hsi hT K hK
    have sz : a.tmps.size = 71 := by rw [S.off.2.1]; exact hs
    have il : i < 4 := by have := (List.getElem?_eq_some_iff.1 ho).1; omega
    match i, il, ho, hsi, hT with
    | 0, _, ho, hsi, hT =>
      obtain ⟨e1, e2⟩ := pick_of h0 ho
      have N3 : s 3 = false := list_neg hT (k := 3) (by decide)
      refine step_load (.tmp 7) e1 (b := b_d) (f := BigM.dg (dn)) (by rw [S.off.eval (by decide)]; exact x_d) (S.o_d N3) (hK _ _ ?_)
      rw [e2]
      exact ⟨S.off.put (by decide) _, S.below, fun _ => (eval_put _ _ _ (by omega)).trans rfl, fun g => by rw [eval_put_ne _ _ _ _ (by decide)]; exact S.t1 (by simpa using g), fun g => by rw [eval_put_ne _ _ _ _ (by decide)]; exact S.t2 (by simpa using g), S.o_u, fun g => S.o_d (by simpa using g), fun g => S.n_d (by simpa using g), S.o_p⟩
    | 1, _, ho, hsi, hT =>
      obtain ⟨e1, e2⟩ := pick_of h1 ho
      have N3 : s 3 = false := list_neg hT (k := 3) (by decide)
      refine step_load (.tmp 9) e1 (b := b_p) (f := BigM.dg (pr)) (by rw [S.off.eval (by decide)]; exact x_p) S.o_p (hK _ _ ?_)
      rw [e2]
      exact ⟨S.off.put (by decide) _, S.below, fun g => by rw [eval_put_ne _ _ _ _ (by decide)]; exact S.t0 (by simpa using g), fun _ => (eval_put _ _ _ (by omega)).trans rfl, fun g => by rw [eval_put_ne _ _ _ _ (by decide)]; exact S.t2 (by simpa using g), S.o_u, fun g => S.o_d (by simpa using g), fun g => S.n_d (by simpa using g), S.o_p⟩
    | 2, _, ho, hsi, hT =>
      obtain ⟨e1, e2⟩ := pick_of h2 ho
      have D0 : s 0 = true := list_pos hT (d := 0) (by decide)
      have D1 : s 1 = true := list_pos hT (d := 1) (by decide)
      have N3 : s 3 = false := list_neg hT (k := 3) (by decide)
      refine step_call 37 (fun args w => by go_simp) _ _ e1 #[Big (dn), Big (pr)] (by simp only [List.map_toArray, List.map_cons, List.map_nil, S.t0 D0, S.t1 D1]) ((bigAdd_any dn pr w').mono ?_)
      rintro e w2 ⟨rfl, BB⟩
      refine ⟨_, rfl, hK _ _ ?_⟩
      rw [e2]
      have hBs : B ≤ w'.heap.size := Nat.le_trans hB0 S.below.size
      exact ⟨S.off.put (by decide) _, S.below.trans (BB.mono hBs), fun g => by rw [eval_put_ne _ _ _ _ (by decide)]; exact S.t0 (by simpa using g), fun g => by rw [eval_put_ne _ _ _ _ (by decide)]; exact S.t1 (by simpa using g), fun _ => (eval_put _ _ _ (by omega)).trans rfl, (S.o_u).below BB, fun g => (S.o_d (by simpa using g)).below BB, fun g => (S.n_d (by simpa using g)).below BB, (S.o_p).below BB⟩
    | 3, _, ho, hsi, hT =>
      obtain ⟨e1, e2⟩ := pick_of h3 ho
      have D0 : s 0 = true := list_pos hT (d := 0) (by decide)
      have D1 : s 1 = true := list_pos hT (d := 1) (by decide)
      have D2 : s 2 = true := list_pos hT (d := 2) (by decide)
      refine step_store (.tmp 7) (.tmp 53) e1 (b := b_d) (f := BigM.dg (dn + pr)) (by rw [S.off.eval (by decide)]; exact x_d) (S.t2 D2) (S.o_d hsi) (hK _ _ ?_)
      rw [e2]
      exact ⟨S.off, below_setRow S.below B_d _, fun g => S.t0 (by simpa using g), fun g => S.t1 (by simpa using g), fun g => S.t2 (by simpa using g), (S.o_u).setRowOther (ne_u_d), fun g => absurd g (by simp), fun _ => (S.o_d hsi).setRow, (S.o_p).setRowOther (ne_d_p.symm)⟩
  · intro s a w' S hall
    have a0 := hall 0 (by omega)
    have a1 := hall 1 (by omega)
    have a2 := hall 2 (by omega)
    have a3 := hall 3 (by omega)
    have e := off_norm _ (by intro d hd; simp at hd; omega) S.off
    simp only [List.foldl, S.t0 a0, S.t1 a1, S.t2 a2] at e
    rw [e]
    exact h _ S.below S.o_u (S.n_d a3) S.o_p
structure dot_lessAt (up dn : Nat) (b_u b_d B : Nat) (A : Act) (w0 : World) (s : Nat → Bool) (a : Act) (w : World) : Prop where
  off : Off [54, 55, 56] a A
  below : Below B w0 w
  t0 : s 0 = true → a.eval (.tmp 54) = Big (up)
  t1 : s 1 = true → a.eval (.tmp 55) = Big (dn)
  t2 : s 2 = true → a.eval (.tmp 56) = .bool (decide (up < dn))
  o_u : Row w b_u (BigM.dg (up))
  o_d : Row w b_d (BigM.dg (dn))

set_option maxHeartbeats 2000000 in
theorem dot_less {id : Nat} {d : Bool} {l : List Oper} {A : Act} {w : World} {Q : Exit → Act → World → Prop} (up dn : Nat) (hu : up < 65536 ^ 17) (hd : dn < 65536 ^ 17)  {b_u b_d B : Nat}
    (hB : tableL d l.toArray (fun i => match i with | 0 => [] | 1 => [] | 2 => [0, 1] | _ => []) (fun i => match i with | 0 => [] | 1 => [] | 2 => [] | _ => []) = true) (hl : l.length = 3)
    (h0 : pick l 0 = some (.load 47 (.tmp 6), some 54))
    (h1 : pick l 1 = some (.load 47 (.tmp 7), some 55))
    (h2 : pick l 2 = some (.call { callee := .value (.func 41), args := #[.tmp 54, .tmp 55], argTypes := #[47, 47] }, some 56))
    (hs : A.tmps.size = 71) (hB0 : B ≤ w.heap.size)
    (x_u : A.eval (.tmp 6) = ptr b_u) (R_u : Row w b_u (BigM.dg (up)))
    (x_d : A.eval (.tmp 7) = ptr b_d) (R_d : Row w b_d (BigM.dg (dn)))
    (h : ∀ w', Below B w w' → Row w' b_u (BigM.dg (up)) → Row w' b_d (BigM.dg (dn)) → Q .normal (((A.put (some 54) (Big (up))).put (some 55) (Big (dn))).put (some 56) (.bool (decide (up < dn)))) w') :
    (Code.region id l.toArray d).wp Tryd.prog Q A w := by
  refine wp_region_invL (by kernel_rfl) _ _ hB (dot_lessAt up dn b_u b_d B A w) ⟨Off.refl _ _, Below.refl _ _, by simp, by simp, by simp, R_u, R_d⟩ ⟨Off.refl _ _, (Below.refl _ _).drew, by simp, by simp, by simp, R_u, R_d⟩ ?_ ?_
  · intro s a w' S i o ho hsi hT K hK
    have sz : a.tmps.size = 71 := by rw [S.off.2.1]; exact hs
    have il : i < 3 := by have := (List.getElem?_eq_some_iff.1 ho).1; omega
    match i, il, ho, hsi, hT with
    | 0, _, ho, hsi, hT =>
      obtain ⟨e1, e2⟩ := pick_of h0 ho
      refine step_load (.tmp 6) e1 (b := b_u) (f := BigM.dg (up)) (by rw [S.off.eval (by decide)]; exact x_u) S.o_u (hK _ _ ?_)
      rw [e2]
      exact ⟨S.off.put (by decide) _, S.below, fun _ => (eval_put _ _ _ (by omega)).trans rfl, fun g => by rw [eval_put_ne _ _ _ _ (by decide)]; exact S.t1 (by simpa using g), fun g => by rw [eval_put_ne _ _ _ _ (by decide)]; exact S.t2 (by simpa using g), S.o_u, S.o_d⟩
    | 1, _, ho, hsi, hT =>
      obtain ⟨e1, e2⟩ := pick_of h1 ho
      refine step_load (.tmp 7) e1 (b := b_d) (f := BigM.dg (dn)) (by rw [S.off.eval (by decide)]; exact x_d) S.o_d (hK _ _ ?_)
      rw [e2]
      exact ⟨S.off.put (by decide) _, S.below, fun g => by rw [eval_put_ne _ _ _ _ (by decide)]; exact S.t0 (by simpa using g), fun _ => (eval_put _ _ _ (by omega)).trans rfl, fun g => by rw [eval_put_ne _ _ _ _ (by decide)]; exact S.t2 (by simpa using g), S.o_u, S.o_d⟩
    | 2, _, ho, hsi, hT =>
      obtain ⟨e1, e2⟩ := pick_of h2 ho
      have D0 : s 0 = true := list_pos hT (d := 0) (by decide)
      have D1 : s 1 = true := list_pos hT (d := 1) (by decide)
      refine step_call 41 (fun args w => by go_simp) _ _ e1 #[Big (up), Big (dn)] (by simp only [List.map_toArray, List.map_cons, List.map_nil, S.t0 D0, S.t1 D1]) ((bigLess_any up dn hu hd w').mono ?_)
      rintro e w2 ⟨rfl, BB⟩
      refine ⟨_, rfl, hK _ _ ?_⟩
      rw [e2]
      have hBs : B ≤ w'.heap.size := Nat.le_trans hB0 S.below.size
      exact ⟨S.off.put (by decide) _, S.below.trans (BB.mono hBs), fun g => by rw [eval_put_ne _ _ _ _ (by decide)]; exact S.t0 (by simpa using g), fun g => by rw [eval_put_ne _ _ _ _ (by decide)]; exact S.t1 (by simpa using g), fun _ => (eval_put _ _ _ (by omega)).trans rfl, (S.o_u).below BB, (S.o_d).below BB⟩
  · intro s a w' S hall
    have a0 := hall 0 (by omega)
    have a1 := hall 1 (by omega)
    have a2 := hall 2 (by omega)
    have e := off_norm _ (by intro d hd; simp at hd; omega) S.off
    simp only [List.foldl, S.t0 a0, S.t1 a1, S.t2 a2] at e
    rw [e]
    exact h _ S.below S.o_u S.o_d
theorem fits_unit : Fix.fits 1073741824 := by constructor <;> decide
structure dot_negAt (up dn : Nat) (b_u b_d B : Nat) (A : Act) (w0 : World) (s : Nat → Bool) (a : Act) (w : World) : Prop where
  off : Off [4, 5, 57, 58, 59, 60, 61, 62, 63] a A
  below : Below B w0 w
  t0 : s 0 = true → a.eval (.tmp 57) = Big (dn)
  t1 : s 1 = true → a.eval (.tmp 58) = Big (up)
  t2 : s 2 = true → a.eval (.tmp 59) = Big (dn - up)
  t3 : s 3 = true → a.eval (.tmp 60) = Big 1073741824
  t4 : s 4 = true → a.eval (.tmp 61) = .tuple #[.int .i64 (Fix.sgnV (Fix.up ((dn - up) / 1073741824) ((dn - up) % 1073741824) 1073741824 true) true), .int .i64 (Fix.sgnE (Fix.up ((dn - up) / 1073741824) ((dn - up) % 1073741824) 1073741824 true) true)]
  t5 : s 5 = true → a.eval (.tmp 62) = .int .i64 (Fix.sgnV (Fix.up ((dn - up) / 1073741824) ((dn - up) % 1073741824) 1073741824 true) true)
  t6 : s 6 = true → a.eval (.tmp 63) = .int .i64 (Fix.sgnE (Fix.up ((dn - up) / 1073741824) ((dn - up) % 1073741824) 1073741824 true) true)
  t7 : s 7 = true → a.eval (.tmp 4) = .int .i64 (Fix.sgnV (Fix.up ((dn - up) / 1073741824) ((dn - up) % 1073741824) 1073741824 true) true)
  t8 : s 8 = true → a.eval (.tmp 5) = .int .i64 (Fix.sgnE (Fix.up ((dn - up) / 1073741824) ((dn - up) % 1073741824) 1073741824 true) true)
  o_u : Row w b_u (BigM.dg (up))
  o_d : Row w b_d (BigM.dg (dn))

set_option maxHeartbeats 2000000 in
theorem dot_neg {id : Nat} {d : Bool} {l : List Oper} {A : Act} {w : World} {Q : Exit → Act → World → Prop} (up dn : Nat) (hu : up < 65536 ^ 17) (hd : dn < 65536 ^ 17) (hle : up ≤ dn) (hx : dn - up < 2 ^ 130) (hq : (dn - up) / 1073741824 < 2 ^ 127) {b_u b_d B : Nat}
    (hB : tableL d l.toArray (fun i => match i with | 0 => [] | 1 => [] | 2 => [0, 1] | 3 => [] | 4 => [2, 3] | 5 => [4] | 6 => [4] | 7 => [5] | 8 => [6] | _ => []) (fun i => match i with | 0 => [] | 1 => [] | 2 => [] | 3 => [] | 4 => [] | 5 => [] | 6 => [] | 7 => [] | 8 => [] | _ => []) = true) (hl : l.length = 9)
    (h0 : pick l 0 = some (.load 47 (.tmp 7), some 57))
    (h1 : pick l 1 = some (.load 47 (.tmp 6), some 58))
    (h2 : pick l 2 = some (.call { callee := .value (.func 42), args := #[.tmp 57, .tmp 58], argTypes := #[47, 47] }, some 59))
    (h3 : pick l 3 = some (.call { callee := .value (.func 32), args := #[.const (.int .i64 1073741824)], argTypes := #[2] }, some 60))
    (h4 : pick l 4 = some (.call { callee := .value (.func 30), args := #[.const (.bool true), .tmp 59, .tmp 60], argTypes := #[4, 47, 47] }, some 61))
    (h5 : pick l 5 = some (.extract (.tmp 61) 0, some 62))
    (h6 : pick l 6 = some (.extract (.tmp 61) 1, some 63))
    (h7 : pick l 7 = some (.assign (.tmp 62), some 4))
    (h8 : pick l 8 = some (.assign (.tmp 63), some 5))
    (hs : A.tmps.size = 71) (hB0 : B ≤ w.heap.size)
    (x_u : A.eval (.tmp 6) = ptr b_u) (R_u : Row w b_u (BigM.dg (up)))
    (x_d : A.eval (.tmp 7) = ptr b_d) (R_d : Row w b_d (BigM.dg (dn)))
    (h : ∀ w', Below B w w' → Row w' b_u (BigM.dg (up)) → Row w' b_d (BigM.dg (dn)) → Q .normal (((((((((A.put (some 4) (.int .i64 (Fix.sgnV (Fix.up ((dn - up) / 1073741824) ((dn - up) % 1073741824) 1073741824 true) true))).put (some 5) (.int .i64 (Fix.sgnE (Fix.up ((dn - up) / 1073741824) ((dn - up) % 1073741824) 1073741824 true) true))).put (some 57) (Big (dn))).put (some 58) (Big (up))).put (some 59) (Big (dn - up))).put (some 60) (Big 1073741824)).put (some 61) (.tuple #[.int .i64 (Fix.sgnV (Fix.up ((dn - up) / 1073741824) ((dn - up) % 1073741824) 1073741824 true) true), .int .i64 (Fix.sgnE (Fix.up ((dn - up) / 1073741824) ((dn - up) % 1073741824) 1073741824 true) true)])).put (some 62) (.int .i64 (Fix.sgnV (Fix.up ((dn - up) / 1073741824) ((dn - up) % 1073741824) 1073741824 true) true))).put (some 63) (.int .i64 (Fix.sgnE (Fix.up ((dn - up) / 1073741824) ((dn - up) % 1073741824) 1073741824 true) true))) w') :
    (Code.region id l.toArray d).wp Tryd.prog Q A w := by
  refine wp_region_invL (by kernel_rfl) _ _ hB (dot_negAt up dn b_u b_d B A w) ⟨Off.refl _ _, Below.refl _ _, by simp, by simp, by simp, by simp, by simp, by simp, by simp, by simp, by simp, R_u, R_d⟩ ⟨Off.refl _ _, (Below.refl _ _).drew, by simp, by simp, by simp, by simp, by simp, by simp, by simp, by simp, by simp, R_u, R_d⟩ ?_ ?_
  · intro s a w' S i o ho hsi hT K hK
    have sz : a.tmps.size = 71 := by rw [S.off.2.1]; exact hs
    have il : i < 9 := by have := (List.getElem?_eq_some_iff.1 ho).1; omega
    match i, il, ho, hsi, hT with
    | 0, _, ho, hsi, hT =>
      obtain ⟨e1, e2⟩ := pick_of h0 ho
      refine step_load (.tmp 7) e1 (b := b_d) (f := BigM.dg (dn)) (by rw [S.off.eval (by decide)]; exact x_d) S.o_d (hK _ _ ?_)
      rw [e2]
      exact ⟨S.off.put (by decide) _, S.below, fun _ => (eval_put _ _ _ (by omega)).trans rfl, fun g => by rw [eval_put_ne _ _ _ _ (by decide)]; exact S.t1 (by simpa using g), fun g => by rw [eval_put_ne _ _ _ _ (by decide)]; exact S.t2 (by simpa using g), fun g => by rw [eval_put_ne _ _ _ _ (by decide)]; exact S.t3 (by simpa using g), fun g => by rw [eval_put_ne _ _ _ _ (by decide)]; exact S.t4 (by simpa using g), fun g => by rw [eval_put_ne _ _ _ _ (by decide)]; exact S.t5 (by simpa using g), fun g => by rw [eval_put_ne _ _ _ _ (by decide)]; exact S.t6 (by simpa using g), fun g => by rw [eval_put_ne _ _ _ _ (by decide)]; exact S.t7 (by simpa using g), fun g => by rw [eval_put_ne _ _ _ _ (by decide)]; exact S.t8 (by simpa using g), S.o_u, S.o_d⟩
    | 1, _, ho, hsi, hT =>
      obtain ⟨e1, e2⟩ := pick_of h1 ho
      refine step_load (.tmp 6) e1 (b := b_u) (f := BigM.dg (up)) (by rw [S.off.eval (by decide)]; exact x_u) S.o_u (hK _ _ ?_)
      rw [e2]
      exact ⟨S.off.put (by decide) _, S.below, fun g => by rw [eval_put_ne _ _ _ _ (by decide)]; exact S.t0 (by simpa using g), fun _ => (eval_put _ _ _ (by omega)).trans rfl, fun g => by rw [eval_put_ne _ _ _ _ (by decide)]; exact S.t2 (by simpa using g), fun g => by rw [eval_put_ne _ _ _ _ (by decide)]; exact S.t3 (by simpa using g), fun g => by rw [eval_put_ne _ _ _ _ (by decide)]; exact S.t4 (by simpa using g), fun g => by rw [eval_put_ne _ _ _ _ (by decide)]; exact S.t5 (by simpa using g), fun g => by rw [eval_put_ne _ _ _ _ (by decide)]; exact S.t6 (by simpa using g), fun g => by rw [eval_put_ne _ _ _ _ (by decide)]; exact S.t7 (by simpa using g), fun g => by rw [eval_put_ne _ _ _ _ (by decide)]; exact S.t8 (by simpa using g), S.o_u, S.o_d⟩
    | 2, _, ho, hsi, hT =>
      obtain ⟨e1, e2⟩ := pick_of h2 ho
      have D0 : s 0 = true := list_pos hT (d := 0) (by decide)
      have D1 : s 1 = true := list_pos hT (d := 1) (by decide)
      refine step_call 42 (fun args w => by go_simp) _ _ e1 #[Big (dn), Big (up)] (by simp only [List.map_toArray, List.map_cons, List.map_nil, S.t0 D0, S.t1 D1]) ((bigSub_any dn up hd hu hle w').mono ?_)
      rintro e w2 ⟨rfl, BB⟩
      refine ⟨_, rfl, hK _ _ ?_⟩
      rw [e2]
      have hBs : B ≤ w'.heap.size := Nat.le_trans hB0 S.below.size
      exact ⟨S.off.put (by decide) _, S.below.trans (BB.mono hBs), fun g => by rw [eval_put_ne _ _ _ _ (by decide)]; exact S.t0 (by simpa using g), fun g => by rw [eval_put_ne _ _ _ _ (by decide)]; exact S.t1 (by simpa using g), fun _ => (eval_put _ _ _ (by omega)).trans rfl, fun g => by rw [eval_put_ne _ _ _ _ (by decide)]; exact S.t3 (by simpa using g), fun g => by rw [eval_put_ne _ _ _ _ (by decide)]; exact S.t4 (by simpa using g), fun g => by rw [eval_put_ne _ _ _ _ (by decide)]; exact S.t5 (by simpa using g), fun g => by rw [eval_put_ne _ _ _ _ (by decide)]; exact S.t6 (by simpa using g), fun g => by rw [eval_put_ne _ _ _ _ (by decide)]; exact S.t7 (by simpa using g), fun g => by rw [eval_put_ne _ _ _ _ (by decide)]; exact S.t8 (by simpa using g), (S.o_u).below BB, (S.o_d).below BB⟩
    | 3, _, ho, hsi, hT =>
      obtain ⟨e1, e2⟩ := pick_of h3 ho
      refine step_call 32 (fun args w => by go_simp) _ _ e1 #[.int .i64 1073741824] (by simp only [List.map_toArray, List.map_cons, List.map_nil]; rfl) ((bigAbs_any 1073741824 fits_unit w').mono ?_)
      rintro e w2 ⟨rfl, BB⟩
      refine ⟨_, rfl, hK _ _ ?_⟩
      rw [e2]
      have hBs : B ≤ w'.heap.size := Nat.le_trans hB0 S.below.size
      exact ⟨S.off.put (by decide) _, S.below.trans (BB.mono hBs), fun g => by rw [eval_put_ne _ _ _ _ (by decide)]; exact S.t0 (by simpa using g), fun g => by rw [eval_put_ne _ _ _ _ (by decide)]; exact S.t1 (by simpa using g), fun g => by rw [eval_put_ne _ _ _ _ (by decide)]; exact S.t2 (by simpa using g), fun _ => (eval_put _ _ _ (by omega)).trans rfl, fun g => by rw [eval_put_ne _ _ _ _ (by decide)]; exact S.t4 (by simpa using g), fun g => by rw [eval_put_ne _ _ _ _ (by decide)]; exact S.t5 (by simpa using g), fun g => by rw [eval_put_ne _ _ _ _ (by decide)]; exact S.t6 (by simpa using g), fun g => by rw [eval_put_ne _ _ _ _ (by decide)]; exact S.t7 (by simpa using g), fun g => by rw [eval_put_ne _ _ _ _ (by decide)]; exact S.t8 (by simpa using g), (S.o_u).below BB, (S.o_d).below BB⟩
    | 4, _, ho, hsi, hT =>
      obtain ⟨e1, e2⟩ := pick_of h4 ho
      have D2 : s 2 = true := list_pos hT (d := 2) (by decide)
      have D3 : s 3 = true := list_pos hT (d := 3) (by decide)
      refine step_call 30 (fun args w => by go_simp) _ _ e1 #[.bool true, Big (dn - up), Big 1073741824] (by simp only [List.map_toArray, List.map_cons, List.map_nil, S.t2 D2, S.t3 D3, show ∀ v, a.eval (.const v) = v from fun _ => rfl]) ((bigNearest_any true (dn - up) 1073741824 hx (by decide) (by decide) hq w').mono ?_)
      rintro e w2 ⟨rfl, BB⟩
      refine ⟨_, rfl, hK _ _ ?_⟩
      rw [e2]
      have hBs : B ≤ w'.heap.size := Nat.le_trans hB0 S.below.size
      exact ⟨S.off.put (by decide) _, S.below.trans (BB.mono hBs), fun g => by rw [eval_put_ne _ _ _ _ (by decide)]; exact S.t0 (by simpa using g), fun g => by rw [eval_put_ne _ _ _ _ (by decide)]; exact S.t1 (by simpa using g), fun g => by rw [eval_put_ne _ _ _ _ (by decide)]; exact S.t2 (by simpa using g), fun g => by rw [eval_put_ne _ _ _ _ (by decide)]; exact S.t3 (by simpa using g), fun _ => (eval_put _ _ _ (by omega)).trans rfl, fun g => by rw [eval_put_ne _ _ _ _ (by decide)]; exact S.t5 (by simpa using g), fun g => by rw [eval_put_ne _ _ _ _ (by decide)]; exact S.t6 (by simpa using g), fun g => by rw [eval_put_ne _ _ _ _ (by decide)]; exact S.t7 (by simpa using g), fun g => by rw [eval_put_ne _ _ _ _ (by decide)]; exact S.t8 (by simpa using g), (S.o_u).below BB, (S.o_d).below BB⟩
    | 5, _, ho, hsi, hT =>
      obtain ⟨e1, e2⟩ := pick_of h5 ho
      have D4 : s 4 = true := list_pos hT (d := 4) (by decide)
      refine step_val (v := .int .i64 (Fix.sgnV (Fix.up ((dn - up) / 1073741824) ((dn - up) % 1073741824) 1073741824 true) true)) (by simp only [execOp, e1, S.t4 D4]; go_simp) (hK _ _ ?_)
      rw [e2]
      exact ⟨S.off.put (by decide) _, S.below, fun g => by rw [eval_put_ne _ _ _ _ (by decide)]; exact S.t0 (by simpa using g), fun g => by rw [eval_put_ne _ _ _ _ (by decide)]; exact S.t1 (by simpa using g), fun g => by rw [eval_put_ne _ _ _ _ (by decide)]; exact S.t2 (by simpa using g), fun g => by rw [eval_put_ne _ _ _ _ (by decide)]; exact S.t3 (by simpa using g), fun g => by rw [eval_put_ne _ _ _ _ (by decide)]; exact S.t4 (by simpa using g), fun _ => (eval_put _ _ _ (by omega)).trans rfl, fun g => by rw [eval_put_ne _ _ _ _ (by decide)]; exact S.t6 (by simpa using g), fun g => by rw [eval_put_ne _ _ _ _ (by decide)]; exact S.t7 (by simpa using g), fun g => by rw [eval_put_ne _ _ _ _ (by decide)]; exact S.t8 (by simpa using g), S.o_u, S.o_d⟩
    | 6, _, ho, hsi, hT =>
      obtain ⟨e1, e2⟩ := pick_of h6 ho
      have D4 : s 4 = true := list_pos hT (d := 4) (by decide)
      refine step_val (v := .int .i64 (Fix.sgnE (Fix.up ((dn - up) / 1073741824) ((dn - up) % 1073741824) 1073741824 true) true)) (by simp only [execOp, e1, S.t4 D4]; go_simp) (hK _ _ ?_)
      rw [e2]
      exact ⟨S.off.put (by decide) _, S.below, fun g => by rw [eval_put_ne _ _ _ _ (by decide)]; exact S.t0 (by simpa using g), fun g => by rw [eval_put_ne _ _ _ _ (by decide)]; exact S.t1 (by simpa using g), fun g => by rw [eval_put_ne _ _ _ _ (by decide)]; exact S.t2 (by simpa using g), fun g => by rw [eval_put_ne _ _ _ _ (by decide)]; exact S.t3 (by simpa using g), fun g => by rw [eval_put_ne _ _ _ _ (by decide)]; exact S.t4 (by simpa using g), fun g => by rw [eval_put_ne _ _ _ _ (by decide)]; exact S.t5 (by simpa using g), fun _ => (eval_put _ _ _ (by omega)).trans rfl, fun g => by rw [eval_put_ne _ _ _ _ (by decide)]; exact S.t7 (by simpa using g), fun g => by rw [eval_put_ne _ _ _ _ (by decide)]; exact S.t8 (by simpa using g), S.o_u, S.o_d⟩
    | 7, _, ho, hsi, hT =>
      obtain ⟨e1, e2⟩ := pick_of h7 ho
      have D5 : s 5 = true := list_pos hT (d := 5) (by decide)
      refine step_val (v := .int .i64 (Fix.sgnV (Fix.up ((dn - up) / 1073741824) ((dn - up) % 1073741824) 1073741824 true) true)) (by simp only [execOp, e1, S.t5 D5]; go_simp) (hK _ _ ?_)
      rw [e2]
      exact ⟨S.off.put (by decide) _, S.below, fun g => by rw [eval_put_ne _ _ _ _ (by decide)]; exact S.t0 (by simpa using g), fun g => by rw [eval_put_ne _ _ _ _ (by decide)]; exact S.t1 (by simpa using g), fun g => by rw [eval_put_ne _ _ _ _ (by decide)]; exact S.t2 (by simpa using g), fun g => by rw [eval_put_ne _ _ _ _ (by decide)]; exact S.t3 (by simpa using g), fun g => by rw [eval_put_ne _ _ _ _ (by decide)]; exact S.t4 (by simpa using g), fun g => by rw [eval_put_ne _ _ _ _ (by decide)]; exact S.t5 (by simpa using g), fun g => by rw [eval_put_ne _ _ _ _ (by decide)]; exact S.t6 (by simpa using g), fun _ => (eval_put _ _ _ (by omega)).trans rfl, fun g => by rw [eval_put_ne _ _ _ _ (by decide)]; exact S.t8 (by simpa using g), S.o_u, S.o_d⟩
    | 8, _, ho, hsi, hT =>
      obtain ⟨e1, e2⟩ := pick_of h8 ho
      have D6 : s 6 = true := list_pos hT (d := 6) (by decide)
      refine step_val (v := .int .i64 (Fix.sgnE (Fix.up ((dn - up) / 1073741824) ((dn - up) % 1073741824) 1073741824 true) true)) (by simp only [execOp, e1, S.t6 D6]; go_simp) (hK _ _ ?_)
      rw [e2]
      exact ⟨S.off.put (by decide) _, S.below, fun g => by rw [eval_put_ne _ _ _ _ (by decide)]; exact S.t0 (by simpa using g), fun g => by rw [eval_put_ne _ _ _ _ (by decide)]; exact S.t1 (by simpa using g), fun g => by rw [eval_put_ne _ _ _ _ (by decide)]; exact S.t2 (by simpa using g), fun g => by rw [eval_put_ne _ _ _ _ (by decide)]; exact S.t3 (by simpa using g), fun g => by rw [eval_put_ne _ _ _ _ (by decide)]; exact S.t4 (by simpa using g), fun g => by rw [eval_put_ne _ _ _ _ (by decide)]; exact S.t5 (by simpa using g), fun g => by rw [eval_put_ne _ _ _ _ (by decide)]; exact S.t6 (by simpa using g), fun g => by rw [eval_put_ne _ _ _ _ (by decide)]; exact S.t7 (by simpa using g), fun _ => (eval_put _ _ _ (by omega)).trans rfl, S.o_u, S.o_d⟩
  · intro s a w' S hall
    have a0 := hall 0 (by omega)
    have a1 := hall 1 (by omega)
    have a2 := hall 2 (by omega)
    have a3 := hall 3 (by omega)
    have a4 := hall 4 (by omega)
    have a5 := hall 5 (by omega)
    have a6 := hall 6 (by omega)
    have a7 := hall 7 (by omega)
    have a8 := hall 8 (by omega)
    have e := off_norm _ (by intro d hd; simp at hd; omega) S.off
    simp only [List.foldl, S.t0 a0, S.t1 a1, S.t2 a2, S.t3 a3, S.t4 a4, S.t5 a5, S.t6 a6, S.t7 a7, S.t8 a8] at e
    rw [e]
    exact h _ S.below S.o_u S.o_d
structure dot_posAt (up dn : Nat) (b_u b_d B : Nat) (A : Act) (w0 : World) (s : Nat → Bool) (a : Act) (w : World) : Prop where
  off : Off [4, 5, 64, 65, 66, 67, 68, 69, 70] a A
  below : Below B w0 w
  t0 : s 0 = true → a.eval (.tmp 64) = Big (up)
  t1 : s 1 = true → a.eval (.tmp 65) = Big (dn)
  t2 : s 2 = true → a.eval (.tmp 66) = Big (up - dn)
  t3 : s 3 = true → a.eval (.tmp 67) = Big 1073741824
  t4 : s 4 = true → a.eval (.tmp 68) = .tuple #[.int .i64 (Fix.sgnV (Fix.up ((up - dn) / 1073741824) ((up - dn) % 1073741824) 1073741824 false) false), .int .i64 (Fix.sgnE (Fix.up ((up - dn) / 1073741824) ((up - dn) % 1073741824) 1073741824 false) false)]
  t5 : s 5 = true → a.eval (.tmp 69) = .int .i64 (Fix.sgnV (Fix.up ((up - dn) / 1073741824) ((up - dn) % 1073741824) 1073741824 false) false)
  t6 : s 6 = true → a.eval (.tmp 70) = .int .i64 (Fix.sgnE (Fix.up ((up - dn) / 1073741824) ((up - dn) % 1073741824) 1073741824 false) false)
  t7 : s 7 = true → a.eval (.tmp 4) = .int .i64 (Fix.sgnV (Fix.up ((up - dn) / 1073741824) ((up - dn) % 1073741824) 1073741824 false) false)
  t8 : s 8 = true → a.eval (.tmp 5) = .int .i64 (Fix.sgnE (Fix.up ((up - dn) / 1073741824) ((up - dn) % 1073741824) 1073741824 false) false)
  o_u : Row w b_u (BigM.dg (up))
  o_d : Row w b_d (BigM.dg (dn))

set_option maxHeartbeats 2000000 in
theorem dot_pos {id : Nat} {d : Bool} {l : List Oper} {A : Act} {w : World} {Q : Exit → Act → World → Prop} (up dn : Nat) (hu : up < 65536 ^ 17) (hd : dn < 65536 ^ 17) (hle : dn ≤ up) (hx : up - dn < 2 ^ 130) (hq : (up - dn) / 1073741824 < 2 ^ 127) {b_u b_d B : Nat}
    (hB : tableL d l.toArray (fun i => match i with | 0 => [] | 1 => [] | 2 => [0, 1] | 3 => [] | 4 => [2, 3] | 5 => [4] | 6 => [4] | 7 => [5] | 8 => [6] | _ => []) (fun i => match i with | 0 => [] | 1 => [] | 2 => [] | 3 => [] | 4 => [] | 5 => [] | 6 => [] | 7 => [] | 8 => [] | _ => []) = true) (hl : l.length = 9)
    (h0 : pick l 0 = some (.load 47 (.tmp 6), some 64))
    (h1 : pick l 1 = some (.load 47 (.tmp 7), some 65))
    (h2 : pick l 2 = some (.call { callee := .value (.func 42), args := #[.tmp 64, .tmp 65], argTypes := #[47, 47] }, some 66))
    (h3 : pick l 3 = some (.call { callee := .value (.func 32), args := #[.const (.int .i64 1073741824)], argTypes := #[2] }, some 67))
    (h4 : pick l 4 = some (.call { callee := .value (.func 30), args := #[.const (.bool false), .tmp 66, .tmp 67], argTypes := #[4, 47, 47] }, some 68))
    (h5 : pick l 5 = some (.extract (.tmp 68) 0, some 69))
    (h6 : pick l 6 = some (.extract (.tmp 68) 1, some 70))
    (h7 : pick l 7 = some (.assign (.tmp 69), some 4))
    (h8 : pick l 8 = some (.assign (.tmp 70), some 5))
    (hs : A.tmps.size = 71) (hB0 : B ≤ w.heap.size)
    (x_u : A.eval (.tmp 6) = ptr b_u) (R_u : Row w b_u (BigM.dg (up)))
    (x_d : A.eval (.tmp 7) = ptr b_d) (R_d : Row w b_d (BigM.dg (dn)))
    (h : ∀ w', Below B w w' → Row w' b_u (BigM.dg (up)) → Row w' b_d (BigM.dg (dn)) → Q .normal (((((((((A.put (some 4) (.int .i64 (Fix.sgnV (Fix.up ((up - dn) / 1073741824) ((up - dn) % 1073741824) 1073741824 false) false))).put (some 5) (.int .i64 (Fix.sgnE (Fix.up ((up - dn) / 1073741824) ((up - dn) % 1073741824) 1073741824 false) false))).put (some 64) (Big (up))).put (some 65) (Big (dn))).put (some 66) (Big (up - dn))).put (some 67) (Big 1073741824)).put (some 68) (.tuple #[.int .i64 (Fix.sgnV (Fix.up ((up - dn) / 1073741824) ((up - dn) % 1073741824) 1073741824 false) false), .int .i64 (Fix.sgnE (Fix.up ((up - dn) / 1073741824) ((up - dn) % 1073741824) 1073741824 false) false)])).put (some 69) (.int .i64 (Fix.sgnV (Fix.up ((up - dn) / 1073741824) ((up - dn) % 1073741824) 1073741824 false) false))).put (some 70) (.int .i64 (Fix.sgnE (Fix.up ((up - dn) / 1073741824) ((up - dn) % 1073741824) 1073741824 false) false))) w') :
    (Code.region id l.toArray d).wp Tryd.prog Q A w := by
  refine wp_region_invL (by kernel_rfl) _ _ hB (dot_posAt up dn b_u b_d B A w) ⟨Off.refl _ _, Below.refl _ _, by simp, by simp, by simp, by simp, by simp, by simp, by simp, by simp, by simp, R_u, R_d⟩ ⟨Off.refl _ _, (Below.refl _ _).drew, by simp, by simp, by simp, by simp, by simp, by simp, by simp, by simp, by simp, R_u, R_d⟩ ?_ ?_
  · intro s a w' S i o ho hsi hT K hK
    have sz : a.tmps.size = 71 := by rw [S.off.2.1]; exact hs
    have il : i < 9 := by have := (List.getElem?_eq_some_iff.1 ho).1; omega
    match i, il, ho, hsi, hT with
    | 0, _, ho, hsi, hT =>
      obtain ⟨e1, e2⟩ := pick_of h0 ho
      refine step_load (.tmp 6) e1 (b := b_u) (f := BigM.dg (up)) (by rw [S.off.eval (by decide)]; exact x_u) S.o_u (hK _ _ ?_)
      rw [e2]
      exact ⟨S.off.put (by decide) _, S.below, fun _ => (eval_put _ _ _ (by omega)).trans rfl, fun g => by rw [eval_put_ne _ _ _ _ (by decide)]; exact S.t1 (by simpa using g), fun g => by rw [eval_put_ne _ _ _ _ (by decide)]; exact S.t2 (by simpa using g), fun g => by rw [eval_put_ne _ _ _ _ (by decide)]; exact S.t3 (by simpa using g), fun g => by rw [eval_put_ne _ _ _ _ (by decide)]; exact S.t4 (by simpa using g), fun g => by rw [eval_put_ne _ _ _ _ (by decide)]; exact S.t5 (by simpa using g), fun g => by rw [eval_put_ne _ _ _ _ (by decide)]; exact S.t6 (by simpa using g), fun g => by rw [eval_put_ne _ _ _ _ (by decide)]; exact S.t7 (by simpa using g), fun g => by rw [eval_put_ne _ _ _ _ (by decide)]; exact S.t8 (by simpa using g), S.o_u, S.o_d⟩
    | 1, _, ho, hsi, hT =>
      obtain ⟨e1, e2⟩ := pick_of h1 ho
      refine step_load (.tmp 7) e1 (b := b_d) (f := BigM.dg (dn)) (by rw [S.off.eval (by decide)]; exact x_d) S.o_d (hK _ _ ?_)
      rw [e2]
      exact ⟨S.off.put (by decide) _, S.below, fun g => by rw [eval_put_ne _ _ _ _ (by decide)]; exact S.t0 (by simpa using g), fun _ => (eval_put _ _ _ (by omega)).trans rfl, fun g => by rw [eval_put_ne _ _ _ _ (by decide)]; exact S.t2 (by simpa using g), fun g => by rw [eval_put_ne _ _ _ _ (by decide)]; exact S.t3 (by simpa using g), fun g => by rw [eval_put_ne _ _ _ _ (by decide)]; exact S.t4 (by simpa using g), fun g => by rw [eval_put_ne _ _ _ _ (by decide)]; exact S.t5 (by simpa using g), fun g => by rw [eval_put_ne _ _ _ _ (by decide)]; exact S.t6 (by simpa using g), fun g => by rw [eval_put_ne _ _ _ _ (by decide)]; exact S.t7 (by simpa using g), fun g => by rw [eval_put_ne _ _ _ _ (by decide)]; exact S.t8 (by simpa using g), S.o_u, S.o_d⟩
    | 2, _, ho, hsi, hT =>
      obtain ⟨e1, e2⟩ := pick_of h2 ho
      have D0 : s 0 = true := list_pos hT (d := 0) (by decide)
      have D1 : s 1 = true := list_pos hT (d := 1) (by decide)
      refine step_call 42 (fun args w => by go_simp) _ _ e1 #[Big (up), Big (dn)] (by simp only [List.map_toArray, List.map_cons, List.map_nil, S.t0 D0, S.t1 D1]) ((bigSub_any up dn hu hd hle w').mono ?_)
      rintro e w2 ⟨rfl, BB⟩
      refine ⟨_, rfl, hK _ _ ?_⟩
      rw [e2]
      have hBs : B ≤ w'.heap.size := Nat.le_trans hB0 S.below.size
      exact ⟨S.off.put (by decide) _, S.below.trans (BB.mono hBs), fun g => by rw [eval_put_ne _ _ _ _ (by decide)]; exact S.t0 (by simpa using g), fun g => by rw [eval_put_ne _ _ _ _ (by decide)]; exact S.t1 (by simpa using g), fun _ => (eval_put _ _ _ (by omega)).trans rfl, fun g => by rw [eval_put_ne _ _ _ _ (by decide)]; exact S.t3 (by simpa using g), fun g => by rw [eval_put_ne _ _ _ _ (by decide)]; exact S.t4 (by simpa using g), fun g => by rw [eval_put_ne _ _ _ _ (by decide)]; exact S.t5 (by simpa using g), fun g => by rw [eval_put_ne _ _ _ _ (by decide)]; exact S.t6 (by simpa using g), fun g => by rw [eval_put_ne _ _ _ _ (by decide)]; exact S.t7 (by simpa using g), fun g => by rw [eval_put_ne _ _ _ _ (by decide)]; exact S.t8 (by simpa using g), (S.o_u).below BB, (S.o_d).below BB⟩
    | 3, _, ho, hsi, hT =>
      obtain ⟨e1, e2⟩ := pick_of h3 ho
      refine step_call 32 (fun args w => by go_simp) _ _ e1 #[.int .i64 1073741824] (by simp only [List.map_toArray, List.map_cons, List.map_nil]; rfl) ((bigAbs_any 1073741824 fits_unit w').mono ?_)
      rintro e w2 ⟨rfl, BB⟩
      refine ⟨_, rfl, hK _ _ ?_⟩
      rw [e2]
      have hBs : B ≤ w'.heap.size := Nat.le_trans hB0 S.below.size
      exact ⟨S.off.put (by decide) _, S.below.trans (BB.mono hBs), fun g => by rw [eval_put_ne _ _ _ _ (by decide)]; exact S.t0 (by simpa using g), fun g => by rw [eval_put_ne _ _ _ _ (by decide)]; exact S.t1 (by simpa using g), fun g => by rw [eval_put_ne _ _ _ _ (by decide)]; exact S.t2 (by simpa using g), fun _ => (eval_put _ _ _ (by omega)).trans rfl, fun g => by rw [eval_put_ne _ _ _ _ (by decide)]; exact S.t4 (by simpa using g), fun g => by rw [eval_put_ne _ _ _ _ (by decide)]; exact S.t5 (by simpa using g), fun g => by rw [eval_put_ne _ _ _ _ (by decide)]; exact S.t6 (by simpa using g), fun g => by rw [eval_put_ne _ _ _ _ (by decide)]; exact S.t7 (by simpa using g), fun g => by rw [eval_put_ne _ _ _ _ (by decide)]; exact S.t8 (by simpa using g), (S.o_u).below BB, (S.o_d).below BB⟩
    | 4, _, ho, hsi, hT =>
      obtain ⟨e1, e2⟩ := pick_of h4 ho
      have D2 : s 2 = true := list_pos hT (d := 2) (by decide)
      have D3 : s 3 = true := list_pos hT (d := 3) (by decide)
      refine step_call 30 (fun args w => by go_simp) _ _ e1 #[.bool false, Big (up - dn), Big 1073741824] (by simp only [List.map_toArray, List.map_cons, List.map_nil, S.t2 D2, S.t3 D3, show ∀ v, a.eval (.const v) = v from fun _ => rfl]) ((bigNearest_any false (up - dn) 1073741824 hx (by decide) (by decide) hq w').mono ?_)
      rintro e w2 ⟨rfl, BB⟩
      refine ⟨_, rfl, hK _ _ ?_⟩
      rw [e2]
      have hBs : B ≤ w'.heap.size := Nat.le_trans hB0 S.below.size
      exact ⟨S.off.put (by decide) _, S.below.trans (BB.mono hBs), fun g => by rw [eval_put_ne _ _ _ _ (by decide)]; exact S.t0 (by simpa using g), fun g => by rw [eval_put_ne _ _ _ _ (by decide)]; exact S.t1 (by simpa using g), fun g => by rw [eval_put_ne _ _ _ _ (by decide)]; exact S.t2 (by simpa using g), fun g => by rw [eval_put_ne _ _ _ _ (by decide)]; exact S.t3 (by simpa using g), fun _ => (eval_put _ _ _ (by omega)).trans rfl, fun g => by rw [eval_put_ne _ _ _ _ (by decide)]; exact S.t5 (by simpa using g), fun g => by rw [eval_put_ne _ _ _ _ (by decide)]; exact S.t6 (by simpa using g), fun g => by rw [eval_put_ne _ _ _ _ (by decide)]; exact S.t7 (by simpa using g), fun g => by rw [eval_put_ne _ _ _ _ (by decide)]; exact S.t8 (by simpa using g), (S.o_u).below BB, (S.o_d).below BB⟩
    | 5, _, ho, hsi, hT =>
      obtain ⟨e1, e2⟩ := pick_of h5 ho
      have D4 : s 4 = true := list_pos hT (d := 4) (by decide)
      refine step_val (v := .int .i64 (Fix.sgnV (Fix.up ((up - dn) / 1073741824) ((up - dn) % 1073741824) 1073741824 false) false)) (by simp only [execOp, e1, S.t4 D4]; go_simp) (hK _ _ ?_)
      rw [e2]
      exact ⟨S.off.put (by decide) _, S.below, fun g => by rw [eval_put_ne _ _ _ _ (by decide)]; exact S.t0 (by simpa using g), fun g => by rw [eval_put_ne _ _ _ _ (by decide)]; exact S.t1 (by simpa using g), fun g => by rw [eval_put_ne _ _ _ _ (by decide)]; exact S.t2 (by simpa using g), fun g => by rw [eval_put_ne _ _ _ _ (by decide)]; exact S.t3 (by simpa using g), fun g => by rw [eval_put_ne _ _ _ _ (by decide)]; exact S.t4 (by simpa using g), fun _ => (eval_put _ _ _ (by omega)).trans rfl, fun g => by rw [eval_put_ne _ _ _ _ (by decide)]; exact S.t6 (by simpa using g), fun g => by rw [eval_put_ne _ _ _ _ (by decide)]; exact S.t7 (by simpa using g), fun g => by rw [eval_put_ne _ _ _ _ (by decide)]; exact S.t8 (by simpa using g), S.o_u, S.o_d⟩
    | 6, _, ho, hsi, hT =>
      obtain ⟨e1, e2⟩ := pick_of h6 ho
      have D4 : s 4 = true := list_pos hT (d := 4) (by decide)
      refine step_val (v := .int .i64 (Fix.sgnE (Fix.up ((up - dn) / 1073741824) ((up - dn) % 1073741824) 1073741824 false) false)) (by simp only [execOp, e1, S.t4 D4]; go_simp) (hK _ _ ?_)
      rw [e2]
      exact ⟨S.off.put (by decide) _, S.below, fun g => by rw [eval_put_ne _ _ _ _ (by decide)]; exact S.t0 (by simpa using g), fun g => by rw [eval_put_ne _ _ _ _ (by decide)]; exact S.t1 (by simpa using g), fun g => by rw [eval_put_ne _ _ _ _ (by decide)]; exact S.t2 (by simpa using g), fun g => by rw [eval_put_ne _ _ _ _ (by decide)]; exact S.t3 (by simpa using g), fun g => by rw [eval_put_ne _ _ _ _ (by decide)]; exact S.t4 (by simpa using g), fun g => by rw [eval_put_ne _ _ _ _ (by decide)]; exact S.t5 (by simpa using g), fun _ => (eval_put _ _ _ (by omega)).trans rfl, fun g => by rw [eval_put_ne _ _ _ _ (by decide)]; exact S.t7 (by simpa using g), fun g => by rw [eval_put_ne _ _ _ _ (by decide)]; exact S.t8 (by simpa using g), S.o_u, S.o_d⟩
    | 7, _, ho, hsi, hT =>
      obtain ⟨e1, e2⟩ := pick_of h7 ho
      have D5 : s 5 = true := list_pos hT (d := 5) (by decide)
      refine step_val (v := .int .i64 (Fix.sgnV (Fix.up ((up - dn) / 1073741824) ((up - dn) % 1073741824) 1073741824 false) false)) (by simp only [execOp, e1, S.t5 D5]; go_simp) (hK _ _ ?_)
      rw [e2]
      exact ⟨S.off.put (by decide) _, S.below, fun g => by rw [eval_put_ne _ _ _ _ (by decide)]; exact S.t0 (by simpa using g), fun g => by rw [eval_put_ne _ _ _ _ (by decide)]; exact S.t1 (by simpa using g), fun g => by rw [eval_put_ne _ _ _ _ (by decide)]; exact S.t2 (by simpa using g), fun g => by rw [eval_put_ne _ _ _ _ (by decide)]; exact S.t3 (by simpa using g), fun g => by rw [eval_put_ne _ _ _ _ (by decide)]; exact S.t4 (by simpa using g), fun g => by rw [eval_put_ne _ _ _ _ (by decide)]; exact S.t5 (by simpa using g), fun g => by rw [eval_put_ne _ _ _ _ (by decide)]; exact S.t6 (by simpa using g), fun _ => (eval_put _ _ _ (by omega)).trans rfl, fun g => by rw [eval_put_ne _ _ _ _ (by decide)]; exact S.t8 (by simpa using g), S.o_u, S.o_d⟩
    | 8, _, ho, hsi, hT =>
      obtain ⟨e1, e2⟩ := pick_of h8 ho
      have D6 : s 6 = true := list_pos hT (d := 6) (by decide)
      refine step_val (v := .int .i64 (Fix.sgnE (Fix.up ((up - dn) / 1073741824) ((up - dn) % 1073741824) 1073741824 false) false)) (by simp only [execOp, e1, S.t6 D6]; go_simp) (hK _ _ ?_)
      rw [e2]
      exact ⟨S.off.put (by decide) _, S.below, fun g => by rw [eval_put_ne _ _ _ _ (by decide)]; exact S.t0 (by simpa using g), fun g => by rw [eval_put_ne _ _ _ _ (by decide)]; exact S.t1 (by simpa using g), fun g => by rw [eval_put_ne _ _ _ _ (by decide)]; exact S.t2 (by simpa using g), fun g => by rw [eval_put_ne _ _ _ _ (by decide)]; exact S.t3 (by simpa using g), fun g => by rw [eval_put_ne _ _ _ _ (by decide)]; exact S.t4 (by simpa using g), fun g => by rw [eval_put_ne _ _ _ _ (by decide)]; exact S.t5 (by simpa using g), fun g => by rw [eval_put_ne _ _ _ _ (by decide)]; exact S.t6 (by simpa using g), fun g => by rw [eval_put_ne _ _ _ _ (by decide)]; exact S.t7 (by simpa using g), fun _ => (eval_put _ _ _ (by omega)).trans rfl, S.o_u, S.o_d⟩
  · intro s a w' S hall
    have a0 := hall 0 (by omega)
    have a1 := hall 1 (by omega)
    have a2 := hall 2 (by omega)
    have a3 := hall 3 (by omega)
    have a4 := hall 4 (by omega)
    have a5 := hall 5 (by omega)
    have a6 := hall 6 (by omega)
    have a7 := hall 7 (by omega)
    have a8 := hall 8 (by omega)
    have e := off_norm _ (by intro d hd; simp at hd; omega) S.off
    simp only [List.foldl, S.t0 a0, S.t1 a1, S.t2 a2, S.t3 a3, S.t4 a4, S.t5 a5, S.t6 a6, S.t7 a7, S.t8 a8] at e
    rw [e]
    exact h _ S.below S.o_u S.o_d
end Go.Proofs.YtlniojmjakmcjaaDoor
