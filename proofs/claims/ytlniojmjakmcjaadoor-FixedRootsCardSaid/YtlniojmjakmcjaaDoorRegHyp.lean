/- Hypot's regions. -/
import Derived.Test.YtlniojmjakmcjaaDoorBRoot
import Derived.Test.YtlniojmjakmcjaaDoorRegL
import Derived.IntWalk
namespace Go.Proofs.YtlniojmjakmcjaaDoor
open Go.RowKit
set_option linter.unusedVariables false

structure hyp_roundAt (sum sb so n cap k : Nat) (z : Int) (b_s B : Nat) (A : Act) (w0 : World) (s : Nat → Bool) (a : Act) (w : World) : Prop where
  off : Off [15, 16, 17, 18, 19, 20, 21, 22, 23, 24, 25, 26, 27] a A
  below : Below B w0 w
  t0 : s 0 = true → a.eval (.tmp 15) = Big (sum)
  t1 : s 1 = true → a.eval (.tmp 16) = .slice (some ⟨sb, so, none⟩) n cap
  t2 : s 2 = true → a.eval (.tmp 17) = .int .i64 k
  t3 : s 3 = true → a.eval (.tmp 18) = .pointer (some ⟨sb, so + k, none⟩)
  t4 : s 4 = true → a.eval (.tmp 19) = .int .i64 z
  t5 : s 5 = true → a.eval (.tmp 20) = Big z.natAbs
  t6 : s 6 = true → a.eval (.tmp 21) = .slice (some ⟨sb, so, none⟩) n cap
  t7 : s 7 = true → a.eval (.tmp 22) = .int .i64 k
  t8 : s 8 = true → a.eval (.tmp 23) = .pointer (some ⟨sb, so + k, none⟩)
  t9 : s 9 = true → a.eval (.tmp 24) = .int .i64 z
  t10 : s 10 = true → a.eval (.tmp 25) = Big z.natAbs
  t11 : s 11 = true → a.eval (.tmp 26) = Big (z.natAbs * z.natAbs)
  t12 : s 12 = true → a.eval (.tmp 27) = Big (sum + z.natAbs * z.natAbs)
  o_s : s 13 = false → Row w b_s (BigM.dg (sum))
  n_s : s 13 = true → Row w b_s (BigM.dg (sum + z.natAbs * z.natAbs))

set_option maxHeartbeats 2000000 in
theorem hyp_round {id : Nat} {d : Bool} {l : List Oper} {A : Act} {w : World} {Q : Exit → Act → World → Prop} (sum sb so n cap k : Nat) (z : Int) (x0 : A.eval (.tmp 0) = .slice (some ⟨sb, so, none⟩) n cap) (x5 : A.eval (.tmp 5) = .int .i64 k) (hk : (k : Int) < n) (hk0 : (0 : Int) ≤ k) (hz : Fix.fits z) (hzz : z.natAbs < 65536 ^ 8) {B : Nat} (hsb : sb < B) (hcell : w.cell? ⟨sb, so + k, none⟩ = some (.int .i64 z)) {b_s : Nat}
    (hB : tableL d l.toArray (fun i => match i with | 0 => [] | 1 => [] | 2 => [] | 3 => [1, 2] | 4 => [3] | 5 => [4] | 6 => [] | 7 => [] | 8 => [6, 7] | 9 => [8] | 10 => [9] | 11 => [5, 10] | 12 => [0, 11] | 13 => [0, 1, 2, 3, 4, 5, 6, 7, 8, 9, 10, 11, 12] | _ => []) (fun i => match i with | 0 => [13] | 1 => [13] | 2 => [13] | 3 => [13] | 4 => [13] | 5 => [13] | 6 => [13] | 7 => [13] | 8 => [13] | 9 => [13] | 10 => [13] | 11 => [13] | 12 => [13] | 13 => [] | _ => []) = true) (hl : l.length = 14)
    (h0 : pick l 0 = some (.load 47 (.tmp 4), some 15))
    (h1 : pick l 1 = some (.move (.tmp 0), some 16))
    (h2 : pick l 2 = some (.move (.tmp 5), some 17))
    (h3 : pick l 3 = some (.indexAddr 29 (.tmp 16) (.tmp 17), some 18))
    (h4 : pick l 4 = some (.load 2 (.tmp 18), some 19))
    (h5 : pick l 5 = some (.call { callee := .value (.func 32), args := #[.tmp 19], argTypes := #[2] }, some 20))
    (h6 : pick l 6 = some (.move (.tmp 0), some 21))
    (h7 : pick l 7 = some (.move (.tmp 5), some 22))
    (h8 : pick l 8 = some (.indexAddr 29 (.tmp 21) (.tmp 22), some 23))
    (h9 : pick l 9 = some (.load 2 (.tmp 23), some 24))
    (h10 : pick l 10 = some (.call { callee := .value (.func 32), args := #[.tmp 24], argTypes := #[2] }, some 25))
    (h11 : pick l 11 = some (.call { callee := .value (.func 31), args := #[.tmp 20, .tmp 25], argTypes := #[47, 47] }, some 26))
    (h12 : pick l 12 = some (.call { callee := .value (.func 37), args := #[.tmp 15, .tmp 26], argTypes := #[47, 47] }, some 27))
    (h13 : pick l 13 = some (.store 47 (.tmp 4) (.tmp 27), none))
    (hs : A.tmps.size = 33) (hB0 : B ≤ w.heap.size)
    (x_s : A.eval (.tmp 4) = ptr b_s) (R_s : Row w b_s (BigM.dg (sum))) (B_s : B ≤ b_s)
    (h : ∀ w', Below B w w' → Row w' b_s (BigM.dg (sum + z.natAbs * z.natAbs)) → Q .normal (((((((((((((A.put (some 15) (Big (sum))).put (some 16) (.slice (some ⟨sb, so, none⟩) n cap)).put (some 17) (.int .i64 k)).put (some 18) (.pointer (some ⟨sb, so + k, none⟩))).put (some 19) (.int .i64 z)).put (some 20) (Big z.natAbs)).put (some 21) (.slice (some ⟨sb, so, none⟩) n cap)).put (some 22) (.int .i64 k)).put (some 23) (.pointer (some ⟨sb, so + k, none⟩))).put (some 24) (.int .i64 z)).put (some 25) (Big z.natAbs)).put (some 26) (Big (z.natAbs * z.natAbs))).put (some 27) (Big (sum + z.natAbs * z.natAbs))) w') :
    (Code.region id l.toArray d).wp Tryd.prog Q A w := by
  refine wp_region_invL (by kernel_rfl) _ _ hB (hyp_roundAt sum sb so n cap k z b_s B A w) ⟨Off.refl _ _, Below.refl _ _, by simp, by simp, by simp, by simp, by simp, by simp, by simp, by simp, by simp, by simp, by simp, by simp, by simp, fun _ => R_s, by simp⟩ ⟨Off.refl _ _, (Below.refl _ _).drew, by simp, by simp, by simp, by simp, by simp, by simp, by simp, by simp, by simp, by simp, by simp, by simp, by simp, fun _ => R_s, by simp⟩ ?_ ?_
  · intro s a w' S i o ho hsi hT K hK
    have sz : a.tmps.size = 33 := by rw [S.off.2.1]; exact hs
    have il : i < 14 := by have := (List.getElem?_eq_some_iff.1 ho).1; omega
    match i, il, ho, hsi, hT with
    | 0, _, ho, hsi, hT =>
      obtain ⟨e1, e2⟩ := pick_of h0 ho
      have N13 : s 13 = false := list_neg hT (k := 13) (by decide)
      refine step_load (.tmp 4) e1 (b := b_s) (f := BigM.dg (sum)) (by rw [S.off.eval (by decide)]; exact x_s) (S.o_s N13) (hK _ _ ?_)
      rw [e2]
      exact ⟨S.off.put (by decide) _, S.below, fun _ => (eval_put _ _ _ (by omega)).trans rfl, fun g => by rw [eval_put_ne _ _ _ _ (by decide)]; exact S.t1 (by simpa using g), fun g => by rw [eval_put_ne _ _ _ _ (by decide)]; exact S.t2 (by simpa using g), fun g => by rw [eval_put_ne _ _ _ _ (by decide)]; exact S.t3 (by simpa using g), fun g => by rw [eval_put_ne _ _ _ _ (by decide)]; exact S.t4 (by simpa using g), fun g => by rw [eval_put_ne _ _ _ _ (by decide)]; exact S.t5 (by simpa using g), fun g => by rw [eval_put_ne _ _ _ _ (by decide)]; exact S.t6 (by simpa using g), fun g => by rw [eval_put_ne _ _ _ _ (by decide)]; exact S.t7 (by simpa using g), fun g => by rw [eval_put_ne _ _ _ _ (by decide)]; exact S.t8 (by simpa using g), fun g => by rw [eval_put_ne _ _ _ _ (by decide)]; exact S.t9 (by simpa using g), fun g => by rw [eval_put_ne _ _ _ _ (by decide)]; exact S.t10 (by simpa using g), fun g => by rw [eval_put_ne _ _ _ _ (by decide)]; exact S.t11 (by simpa using g), fun g => by rw [eval_put_ne _ _ _ _ (by decide)]; exact S.t12 (by simpa using g), fun g => S.o_s (by simpa using g), fun g => S.n_s (by simpa using g)⟩
    | 1, _, ho, hsi, hT =>
      obtain ⟨e1, e2⟩ := pick_of h1 ho
      have N13 : s 13 = false := list_neg hT (k := 13) (by decide)
      refine step_val (v := .slice (some ⟨sb, so, none⟩) n cap) (by simp only [execOp, e1, S.off.eval (show 0 ∉ [15, 16, 17, 18, 19, 20, 21, 22, 23, 24, 25, 26, 27] by decide), x0]; go_simp) (hK _ _ ?_)
      rw [e2]
      exact ⟨S.off.put (by decide) _, S.below, fun g => by rw [eval_put_ne _ _ _ _ (by decide)]; exact S.t0 (by simpa using g), fun _ => (eval_put _ _ _ (by omega)).trans rfl, fun g => by rw [eval_put_ne _ _ _ _ (by decide)]; exact S.t2 (by simpa using g), fun g => by rw [eval_put_ne _ _ _ _ (by decide)]; exact S.t3 (by simpa using g), fun g => by rw [eval_put_ne _ _ _ _ (by decide)]; exact S.t4 (by simpa using g), fun g => by rw [eval_put_ne _ _ _ _ (by decide)]; exact S.t5 (by simpa using g), fun g => by rw [eval_put_ne _ _ _ _ (by decide)]; exact S.t6 (by simpa using g), fun g => by rw [eval_put_ne _ _ _ _ (by decide)]; exact S.t7 (by simpa using g), fun g => by rw [eval_put_ne _ _ _ _ (by decide)]; exact S.t8 (by simpa using g), fun g => by rw [eval_put_ne _ _ _ _ (by decide)]; exact S.t9 (by simpa using g), fun g => by rw [eval_put_ne _ _ _ _ (by decide)]; exact S.t10 (by simpa using g), fun g => by rw [eval_put_ne _ _ _ _ (by decide)]; exact S.t11 (by simpa using g), fun g => by rw [eval_put_ne _ _ _ _ (by decide)]; exact S.t12 (by simpa using g), fun g => S.o_s (by simpa using g), fun g => S.n_s (by simpa using g)⟩
    | 2, _, ho, hsi, hT =>
      obtain ⟨e1, e2⟩ := pick_of h2 ho
      have N13 : s 13 = false := list_neg hT (k := 13) (by decide)
      refine step_val (v := .int .i64 k) (by simp only [execOp, e1, S.off.eval (show 5 ∉ [15, 16, 17, 18, 19, 20, 21, 22, 23, 24, 25, 26, 27] by decide), x5]; go_simp) (hK _ _ ?_)
      rw [e2]
      exact ⟨S.off.put (by decide) _, S.below, fun g => by rw [eval_put_ne _ _ _ _ (by decide)]; exact S.t0 (by simpa using g), fun g => by rw [eval_put_ne _ _ _ _ (by decide)]; exact S.t1 (by simpa using g), fun _ => (eval_put _ _ _ (by omega)).trans rfl, fun g => by rw [eval_put_ne _ _ _ _ (by decide)]; exact S.t3 (by simpa using g), fun g => by rw [eval_put_ne _ _ _ _ (by decide)]; exact S.t4 (by simpa using g), fun g => by rw [eval_put_ne _ _ _ _ (by decide)]; exact S.t5 (by simpa using g), fun g => by rw [eval_put_ne _ _ _ _ (by decide)]; exact S.t6 (by simpa using g), fun g => by rw [eval_put_ne _ _ _ _ (by decide)]; exact S.t7 (by simpa using g), fun g => by rw [eval_put_ne _ _ _ _ (by decide)]; exact S.t8 (by simpa using g), fun g => by rw [eval_put_ne _ _ _ _ (by decide)]; exact S.t9 (by simpa using g), fun g => by rw [eval_put_ne _ _ _ _ (by decide)]; exact S.t10 (by simpa using g), fun g => by rw [eval_put_ne _ _ _ _ (by decide)]; exact S.t11 (by simpa using g), fun g => by rw [eval_put_ne _ _ _ _ (by decide)]; exact S.t12 (by simpa using g), fun g => S.o_s (by simpa using g), fun g => S.n_s (by simpa using g)⟩
    | 3, _, ho, hsi, hT =>
      obtain ⟨e1, e2⟩ := pick_of h3 ho
      have D1 : s 1 = true := list_pos hT (d := 1) (by decide)
      have D2 : s 2 = true := list_pos hT (d := 2) (by decide)
      have N13 : s 13 = false := list_neg hT (k := 13) (by decide)
      refine step_val (v := .pointer (some ⟨sb, so + k, none⟩)) (by simp only [execOp, e1, S.t1 D1, S.t2 D2]; go_simp) (hK _ _ ?_)
      rw [e2]
      exact ⟨S.off.put (by decide) _, S.below, fun g => by rw [eval_put_ne _ _ _ _ (by decide)]; exact S.t0 (by simpa using g), fun g => by rw [eval_put_ne _ _ _ _ (by decide)]; exact S.t1 (by simpa using g), fun g => by rw [eval_put_ne _ _ _ _ (by decide)]; exact S.t2 (by simpa using g), fun _ => (eval_put _ _ _ (by omega)).trans rfl, fun g => by rw [eval_put_ne _ _ _ _ (by decide)]; exact S.t4 (by simpa using g), fun g => by rw [eval_put_ne _ _ _ _ (by decide)]; exact S.t5 (by simpa using g), fun g => by rw [eval_put_ne _ _ _ _ (by decide)]; exact S.t6 (by simpa using g), fun g => by rw [eval_put_ne _ _ _ _ (by decide)]; exact S.t7 (by simpa using g), fun g => by rw [eval_put_ne _ _ _ _ (by decide)]; exact S.t8 (by simpa using g), fun g => by rw [eval_put_ne _ _ _ _ (by decide)]; exact S.t9 (by simpa using g), fun g => by rw [eval_put_ne _ _ _ _ (by decide)]; exact S.t10 (by simpa using g), fun g => by rw [eval_put_ne _ _ _ _ (by decide)]; exact S.t11 (by simpa using g), fun g => by rw [eval_put_ne _ _ _ _ (by decide)]; exact S.t12 (by simpa using g), fun g => S.o_s (by simpa using g), fun g => S.n_s (by simpa using g)⟩
    | 4, _, ho, hsi, hT =>
      obtain ⟨e1, e2⟩ := pick_of h4 ho
      have D3 : s 3 = true := list_pos hT (d := 3) (by decide)
      have N13 : s 13 = false := list_neg hT (k := 13) (by decide)
      refine step_val (v := .int .i64 z) (by have cl := (show w'.cell? ⟨sb, so + k, none⟩ = some (.int .i64 z) from (S.below.cell (p := ⟨sb, so + k, none⟩) hsb).trans hcell); simp only [execOp, e1, S.t3 D3]; go_simp) (hK _ _ ?_)
      rw [e2]
      exact ⟨S.off.put (by decide) _, S.below, fun g => by rw [eval_put_ne _ _ _ _ (by decide)]; exact S.t0 (by simpa using g), fun g => by rw [eval_put_ne _ _ _ _ (by decide)]; exact S.t1 (by simpa using g), fun g => by rw [eval_put_ne _ _ _ _ (by decide)]; exact S.t2 (by simpa using g), fun g => by rw [eval_put_ne _ _ _ _ (by decide)]; exact S.t3 (by simpa using g), fun _ => (eval_put _ _ _ (by omega)).trans rfl, fun g => by rw [eval_put_ne _ _ _ _ (by decide)]; exact S.t5 (by simpa using g), fun g => by rw [eval_put_ne _ _ _ _ (by decide)]; exact S.t6 (by simpa using g), fun g => by rw [eval_put_ne _ _ _ _ (by decide)]; exact S.t7 (by simpa using g), fun g => by rw [eval_put_ne _ _ _ _ (by decide)]; exact S.t8 (by simpa using g), fun g => by rw [eval_put_ne _ _ _ _ (by decide)]; exact S.t9 (by simpa using g), fun g => by rw [eval_put_ne _ _ _ _ (by decide)]; exact S.t10 (by simpa using g), fun g => by rw [eval_put_ne _ _ _ _ (by decide)]; exact S.t11 (by simpa using g), fun g => by rw [eval_put_ne _ _ _ _ (by decide)]; exact S.t12 (by simpa using g), fun g => S.o_s (by simpa using g), fun g => S.n_s (by simpa using g)⟩
    | 5, _, ho, hsi, hT =>
      obtain ⟨e1, e2⟩ := pick_of h5 ho
      have D4 : s 4 = true := list_pos hT (d := 4) (by decide)
      have N13 : s 13 = false := list_neg hT (k := 13) (by decide)
      refine step_call 32 (fun args w => by go_simp) _ _ e1 #[.int .i64 z] (by simp only [List.map_toArray, List.map_cons, List.map_nil, S.t4 D4]) ((bigAbs_any z hz w').mono ?_)
      rintro e w2 ⟨rfl, BB⟩
      refine ⟨_, rfl, hK _ _ ?_⟩
      rw [e2]
      have hBs : B ≤ w'.heap.size := Nat.le_trans hB0 S.below.size
      exact ⟨S.off.put (by decide) _, S.below.trans (BB.mono hBs), fun g => by rw [eval_put_ne _ _ _ _ (by decide)]; exact S.t0 (by simpa using g), fun g => by rw [eval_put_ne _ _ _ _ (by decide)]; exact S.t1 (by simpa using g), fun g => by rw [eval_put_ne _ _ _ _ (by decide)]; exact S.t2 (by simpa using g), fun g => by rw [eval_put_ne _ _ _ _ (by decide)]; exact S.t3 (by simpa using g), fun g => by rw [eval_put_ne _ _ _ _ (by decide)]; exact S.t4 (by simpa using g), fun _ => (eval_put _ _ _ (by omega)).trans rfl, fun g => by rw [eval_put_ne _ _ _ _ (by decide)]; exact S.t6 (by simpa using g), fun g => by rw [eval_put_ne _ _ _ _ (by decide)]; exact S.t7 (by simpa using g), fun g => by rw [eval_put_ne _ _ _ _ (by decide)]; exact S.t8 (by simpa using g), fun g => by rw [eval_put_ne _ _ _ _ (by decide)]; exact S.t9 (by simpa using g), fun g => by rw [eval_put_ne _ _ _ _ (by decide)]; exact S.t10 (by simpa using g), fun g => by rw [eval_put_ne _ _ _ _ (by decide)]; exact S.t11 (by simpa using g), fun g => by rw [eval_put_ne _ _ _ _ (by decide)]; exact S.t12 (by simpa using g), fun g => (S.o_s (by simpa using g)).below BB, fun g => (S.n_s (by simpa using g)).below BB⟩
    | 6, _, ho, hsi, hT =>
      obtain ⟨e1, e2⟩ := pick_of h6 ho
      have N13 : s 13 = false := list_neg hT (k := 13) (by decide)
      refine step_val (v := .slice (some ⟨sb, so, none⟩) n cap) (by simp only [execOp, e1, S.off.eval (show 0 ∉ [15, 16, 17, 18, 19, 20, 21, 22, 23, 24, 25, 26, 27] by decide), x0]; go_simp) (hK _ _ ?_)
      rw [e2]
      exact ⟨S.off.put (by decide) _, S.below, fun g => by rw [eval_put_ne _ _ _ _ (by decide)]; exact S.t0 (by simpa using g), fun g => by rw [eval_put_ne _ _ _ _ (by decide)]; exact S.t1 (by simpa using g), fun g => by rw [eval_put_ne _ _ _ _ (by decide)]; exact S.t2 (by simpa using g), fun g => by rw [eval_put_ne _ _ _ _ (by decide)]; exact S.t3 (by simpa using g), fun g => by rw [eval_put_ne _ _ _ _ (by decide)]; exact S.t4 (by simpa using g), fun g => by rw [eval_put_ne _ _ _ _ (by decide)]; exact S.t5 (by simpa using g), fun _ => (eval_put _ _ _ (by omega)).trans rfl, fun g => by rw [eval_put_ne _ _ _ _ (by decide)]; exact S.t7 (by simpa using g), fun g => by rw [eval_put_ne _ _ _ _ (by decide)]; exact S.t8 (by simpa using g), fun g => by rw [eval_put_ne _ _ _ _ (by decide)]; exact S.t9 (by simpa using g), fun g => by rw [eval_put_ne _ _ _ _ (by decide)]; exact S.t10 (by simpa using g), fun g => by rw [eval_put_ne _ _ _ _ (by decide)]; exact S.t11 (by simpa using g), fun g => by rw [eval_put_ne _ _ _ _ (by decide)]; exact S.t12 (by simpa using g), fun g => S.o_s (by simpa using g), fun g => S.n_s (by simpa using g)⟩
    | 7, _, ho, hsi, hT =>
      obtain ⟨e1, e2⟩ := pick_of h7 ho
      have N13 : s 13 = false := list_neg hT (k := 13) (by decide)
      refine step_val (v := .int .i64 k) (by simp only [execOp, e1, S.off.eval (show 5 ∉ [15, 16, 17, 18, 19, 20, 21, 22, 23, 24, 25, 26, 27] by decide), x5]; go_simp) (hK _ _ ?_)
      rw [e2]
      exact ⟨S.off.put (by decide) _, S.below, fun g => by rw [eval_put_ne _ _ _ _ (by decide)]; exact S.t0 (by simpa using g), fun g => by rw [eval_put_ne _ _ _ _ (by decide)]; exact S.t1 (by simpa using g), fun g => by rw [eval_put_ne _ _ _ _ (by decide)]; exact S.t2 (by simpa using g), fun g => by rw [eval_put_ne _ _ _ _ (by decide)]; exact S.t3 (by simpa using g), fun g => by rw [eval_put_ne _ _ _ _ (by decide)]; exact S.t4 (by simpa using g), fun g => by rw [eval_put_ne _ _ _ _ (by decide)]; exact S.t5 (by simpa using g), fun g => by rw [eval_put_ne _ _ _ _ (by decide)]; exact S.t6 (by simpa using g), fun _ => (eval_put _ _ _ (by omega)).trans rfl, fun g => by rw [eval_put_ne _ _ _ _ (by decide)]; exact S.t8 (by simpa using g), fun g => by rw [eval_put_ne _ _ _ _ (by decide)]; exact S.t9 (by simpa using g), fun g => by rw [eval_put_ne _ _ _ _ (by decide)]; exact S.t10 (by simpa using g), fun g => by rw [eval_put_ne _ _ _ _ (by decide)]; exact S.t11 (by simpa using g), fun g => by rw [eval_put_ne _ _ _ _ (by decide)]; exact S.t12 (by simpa using g), fun g => S.o_s (by simpa using g), fun g => S.n_s (by simpa using g)⟩
    | 8, _, ho, hsi, hT =>
      obtain ⟨e1, e2⟩ := pick_of h8 ho
      have D6 : s 6 = true := list_pos hT (d := 6) (by decide)
      have D7 : s 7 = true := list_pos hT (d := 7) (by decide)
      have N13 : s 13 = false := list_neg hT (k := 13) (by decide)
      refine step_val (v := .pointer (some ⟨sb, so + k, none⟩)) (by simp only [execOp, e1, S.t6 D6, S.t7 D7]; go_simp) (hK _ _ ?_)
      rw [e2]
      exact ⟨S.off.put (by decide) _, S.below, fun g => by rw [eval_put_ne _ _ _ _ (by decide)]; exact S.t0 (by simpa using g), fun g => by rw [eval_put_ne _ _ _ _ (by decide)]; exact S.t1 (by simpa using g), fun g => by rw [eval_put_ne _ _ _ _ (by decide)]; exact S.t2 (by simpa using g), fun g => by rw [eval_put_ne _ _ _ _ (by decide)]; exact S.t3 (by simpa using g), fun g => by rw [eval_put_ne _ _ _ _ (by decide)]; exact S.t4 (by simpa using g), fun g => by rw [eval_put_ne _ _ _ _ (by decide)]; exact S.t5 (by simpa using g), fun g => by rw [eval_put_ne _ _ _ _ (by decide)]; exact S.t6 (by simpa using g), fun g => by rw [eval_put_ne _ _ _ _ (by decide)]; exact S.t7 (by simpa using g), fun _ => (eval_put _ _ _ (by omega)).trans rfl, fun g => by rw [eval_put_ne _ _ _ _ (by decide)]; exact S.t9 (by simpa using g), fun g => by rw [eval_put_ne _ _ _ _ (by decide)]; exact S.t10 (by simpa using g), fun g => by rw [eval_put_ne _ _ _ _ (by decide)]; exact S.t11 (by simpa using g), fun g => by rw [eval_put_ne _ _ _ _ (by decide)]; exact S.t12 (by simpa using g), fun g => S.o_s (by simpa using g), fun g => S.n_s (by simpa using g)⟩
    | 9, _, ho, hsi, hT =>
      obtain ⟨e1, e2⟩ := pick_of h9 ho
      have D8 : s 8 = true := list_pos hT (d := 8) (by decide)
      have N13 : s 13 = false := list_neg hT (k := 13) (by decide)
      refine step_val (v := .int .i64 z) (by have cl := (show w'.cell? ⟨sb, so + k, none⟩ = some (.int .i64 z) from (S.below.cell (p := ⟨sb, so + k, none⟩) hsb).trans hcell); simp only [execOp, e1, S.t8 D8]; go_simp) (hK _ _ ?_)
      rw [e2]
      exact ⟨S.off.put (by decide) _, S.below, fun g => by rw [eval_put_ne _ _ _ _ (by decide)]; exact S.t0 (by simpa using g), fun g => by rw [eval_put_ne _ _ _ _ (by decide)]; exact S.t1 (by simpa using g), fun g => by rw [eval_put_ne _ _ _ _ (by decide)]; exact S.t2 (by simpa using g), fun g => by rw [eval_put_ne _ _ _ _ (by decide)]; exact S.t3 (by simpa using g), fun g => by rw [eval_put_ne _ _ _ _ (by decide)]; exact S.t4 (by simpa using g), fun g => by rw [eval_put_ne _ _ _ _ (by decide)]; exact S.t5 (by simpa using g), fun g => by rw [eval_put_ne _ _ _ _ (by decide)]; exact S.t6 (by simpa using g), fun g => by rw [eval_put_ne _ _ _ _ (by decide)]; exact S.t7 (by simpa using g), fun g => by rw [eval_put_ne _ _ _ _ (by decide)]; exact S.t8 (by simpa using g), fun _ => (eval_put _ _ _ (by omega)).trans rfl, fun g => by rw [eval_put_ne _ _ _ _ (by decide)]; exact S.t10 (by simpa using g), fun g => by rw [eval_put_ne _ _ _ _ (by decide)]; exact S.t11 (by simpa using g), fun g => by rw [eval_put_ne _ _ _ _ (by decide)]; exact S.t12 (by simpa using g), fun g => S.o_s (by simpa using g), fun g => S.n_s (by simpa using g)⟩
    | 10, _, ho, hsi, hT =>
      obtain ⟨e1, e2⟩ := pick_of h10 ho
      have D9 : s 9 = true := list_pos hT (d := 9) (by decide)
      have N13 : s 13 = false := list_neg hT (k := 13) (by decide)
      refine step_call 32 (fun args w => by go_simp) _ _ e1 #[.int .i64 z] (by simp only [List.map_toArray, List.map_cons, List.map_nil, S.t9 D9]) ((bigAbs_any z hz w').mono ?_)
      rintro e w2 ⟨rfl, BB⟩
      refine ⟨_, rfl, hK _ _ ?_⟩
      rw [e2]
      have hBs : B ≤ w'.heap.size := Nat.le_trans hB0 S.below.size
      exact ⟨S.off.put (by decide) _, S.below.trans (BB.mono hBs), fun g => by rw [eval_put_ne _ _ _ _ (by decide)]; exact S.t0 (by simpa using g), fun g => by rw [eval_put_ne _ _ _ _ (by decide)]; exact S.t1 (by simpa using g), fun g => by rw [eval_put_ne _ _ _ _ (by decide)]; exact S.t2 (by simpa using g), fun g => by rw [eval_put_ne _ _ _ _ (by decide)]; exact S.t3 (by simpa using g), fun g => by rw [eval_put_ne _ _ _ _ (by decide)]; exact S.t4 (by simpa using g), fun g => by rw [eval_put_ne _ _ _ _ (by decide)]; exact S.t5 (by simpa using g), fun g => by rw [eval_put_ne _ _ _ _ (by decide)]; exact S.t6 (by simpa using g), fun g => by rw [eval_put_ne _ _ _ _ (by decide)]; exact S.t7 (by simpa using g), fun g => by rw [eval_put_ne _ _ _ _ (by decide)]; exact S.t8 (by simpa using g), fun g => by rw [eval_put_ne _ _ _ _ (by decide)]; exact S.t9 (by simpa using g), fun _ => (eval_put _ _ _ (by omega)).trans rfl, fun g => by rw [eval_put_ne _ _ _ _ (by decide)]; exact S.t11 (by simpa using g), fun g => by rw [eval_put_ne _ _ _ _ (by decide)]; exact S.t12 (by simpa using g), fun g => (S.o_s (by simpa using g)).below BB, fun g => (S.n_s (by simpa using g)).below BB⟩
    | 11, _, ho, hsi, hT =>
      obtain ⟨e1, e2⟩ := pick_of h11 ho
      have D5 : s 5 = true := list_pos hT (d := 5) (by decide)
      have D10 : s 10 = true := list_pos hT (d := 10) (by decide)
      have N13 : s 13 = false := list_neg hT (k := 13) (by decide)
      refine step_call 31 (fun args w => by go_simp) _ _ e1 #[Big z.natAbs, Big z.natAbs] (by simp only [List.map_toArray, List.map_cons, List.map_nil, S.t5 D5, S.t10 D10]) ((bigTimes_any z.natAbs z.natAbs hzz hzz w').mono ?_)
      rintro e w2 ⟨rfl, BB⟩
      refine ⟨_, rfl, hK _ _ ?_⟩
      rw [e2]
      have hBs : B ≤ w'.heap.size := Nat.le_trans hB0 S.below.size
      exact ⟨S.off.put (by decide) _, S.below.trans (BB.mono hBs), fun g => by rw [eval_put_ne _ _ _ _ (by decide)]; exact S.t0 (by simpa using g), fun g => by rw [eval_put_ne _ _ _ _ (by decide)]; exact S.t1 (by simpa using g), fun g => by rw [eval_put_ne _ _ _ _ (by decide)]; exact S.t2 (by simpa using g), fun g => by rw [eval_put_ne _ _ _ _ (by decide)]; exact S.t3 (by simpa using g), fun g => by rw [eval_put_ne _ _ _ _ (by decide)]; exact S.t4 (by simpa using g), fun g => by rw [eval_put_ne _ _ _ _ (by decide)]; exact S.t5 (by simpa using g), fun g => by rw [eval_put_ne _ _ _ _ (by decide)]; exact S.t6 (by simpa using g), fun g => by rw [eval_put_ne _ _ _ _ (by decide)]; exact S.t7 (by simpa using g), fun g => by rw [eval_put_ne _ _ _ _ (by decide)]; exact S.t8 (by simpa using g), fun g => by rw [eval_put_ne _ _ _ _ (by decide)]; exact S.t9 (by simpa using g), fun g => by rw [eval_put_ne _ _ _ _ (by decide)]; exact S.t10 (by simpa using g), fun _ => (eval_put _ _ _ (by omega)).trans rfl, fun g => by rw [eval_put_ne _ _ _ _ (by decide)]; exact S.t12 (by simpa using g), fun g => (S.o_s (by simpa using g)).below BB, fun g => (S.n_s (by simpa using g)).below BB⟩
    | 12, _, ho, hsi, hT =>
      obtain ⟨e1, e2⟩ := pick_of h12 ho
      have D0 : s 0 = true := list_pos hT (d := 0) (by decide)
      have D11 : s 11 = true := list_pos hT (d := 11) (by decide)
      have N13 : s 13 = false := list_neg hT (k := 13) (by decide)
      refine step_call 37 (fun args w => by go_simp) _ _ e1 #[Big (sum), Big (z.natAbs * z.natAbs)] (by simp only [List.map_toArray, List.map_cons, List.map_nil, S.t0 D0, S.t11 D11]) ((bigAdd_any sum (z.natAbs * z.natAbs) w').mono ?_)
      rintro e w2 ⟨rfl, BB⟩
      refine ⟨_, rfl, hK _ _ ?_⟩
      rw [e2]
      have hBs : B ≤ w'.heap.size := Nat.le_trans hB0 S.below.size
      exact ⟨S.off.put (by decide) _, S.below.trans (BB.mono hBs), fun g => by rw [eval_put_ne _ _ _ _ (by decide)]; exact S.t0 (by simpa using g), fun g => by rw [eval_put_ne _ _ _ _ (by decide)]; exact S.t1 (by simpa using g), fun g => by rw [eval_put_ne _ _ _ _ (by decide)]; exact S.t2 (by simpa using g), fun g => by rw [eval_put_ne _ _ _ _ (by decide)]; exact S.t3 (by simpa using g), fun g => by rw [eval_put_ne _ _ _ _ (by decide)]; exact S.t4 (by simpa using g), fun g => by rw [eval_put_ne _ _ _ _ (by decide)]; exact S.t5 (by simpa using g), fun g => by rw [eval_put_ne _ _ _ _ (by decide)]; exact S.t6 (by simpa using g), fun g => by rw [eval_put_ne _ _ _ _ (by decide)]; exact S.t7 (by simpa using g), fun g => by rw [eval_put_ne _ _ _ _ (by decide)]; exact S.t8 (by simpa using g), fun g => by rw [eval_put_ne _ _ _ _ (by decide)]; exact S.t9 (by simpa using g), fun g => by rw [eval_put_ne _ _ _ _ (by decide)]; exact S.t10 (by simpa using g), fun g => by rw [eval_put_ne _ _ _ _ (by decide)]; exact S.t11 (by simpa using g), fun _ => (eval_put _ _ _ (by omega)).trans rfl, fun g => (S.o_s (by simpa using g)).below BB, fun g => (S.n_s (by simpa using g)).below BB⟩
    | 13, _, ho, hsi, hT =>
      obtain ⟨e1, e2⟩ := pick_of h13 ho
      have D0 : s 0 = true := list_pos hT (d := 0) (by decide)
      have D1 : s 1 = true := list_pos hT (d := 1) (by decide)
      have D2 : s 2 = true := list_pos hT (d := 2) (by decide)
      have D3 : s 3 = true := list_pos hT (d := 3) (by decide)
      have D4 : s 4 = true := list_pos hT (d := 4) (by decide)
      have D5 : s 5 = true := list_pos hT (d := 5) (by decide)
      have D6 : s 6 = true := list_pos hT (d := 6) (by decide)
      have D7 : s 7 = true := list_pos hT (d := 7) (by decide)
      have D8 : s 8 = true := list_pos hT (d := 8) (by decide)
      have D9 : s 9 = true := list_pos hT (d := 9) (by decide)
      have D10 : s 10 = true := list_pos hT (d := 10) (by decide)
      have D11 : s 11 = true := list_pos hT (d := 11) (by decide)
      have D12 : s 12 = true := list_pos hT (d := 12) (by decide)
      refine step_store (.tmp 4) (.tmp 27) e1 (b := b_s) (f := BigM.dg (sum + z.natAbs * z.natAbs)) (by rw [S.off.eval (by decide)]; exact x_s) (S.t12 D12) (S.o_s hsi) (hK _ _ ?_)
      rw [e2]
      exact ⟨S.off, below_setRow S.below B_s _, fun g => S.t0 (by simpa using g), fun g => S.t1 (by simpa using g), fun g => S.t2 (by simpa using g), fun g => S.t3 (by simpa using g), fun g => S.t4 (by simpa using g), fun g => S.t5 (by simpa using g), fun g => S.t6 (by simpa using g), fun g => S.t7 (by simpa using g), fun g => S.t8 (by simpa using g), fun g => S.t9 (by simpa using g), fun g => S.t10 (by simpa using g), fun g => S.t11 (by simpa using g), fun g => S.t12 (by simpa using g), fun g => absurd g (by simp), fun _ => (S.o_s hsi).setRow⟩
  · intro s a w' S hall
    have a0 := hall 0 (by omega)
    have a1 := hall 1 (by omega)
    have a2 := hall 2 (by omega)
    have a3 := hall 3 (by omega)
    have a4 := hall 4 (by omega)
    have a5 := hall 5 (by omega)
    have a6 := hall 6 (by omega)
    have a7 := hall 7 (by omega)
    have a8 := hall 8 (by omega)
    have a9 := hall 9 (by omega)
    have a10 := hall 10 (by omega)
    have a11 := hall 11 (by omega)
    have a12 := hall 12 (by omega)
    have a13 := hall 13 (by omega)
    have e := off_norm _ (by intro d hd; simp at hd; omega) S.off
    simp only [List.foldl, S.t0 a0, S.t1 a1, S.t2 a2, S.t3 a3, S.t4 a4, S.t5 a5, S.t6 a6, S.t7 a7, S.t8 a8, S.t9 a9, S.t10 a10, S.t11 a11, S.t12 a12] at e
    rw [e]
    exact h _ S.below (S.n_s a13)
structure hyp_finAt (sum : Nat) (b_s B : Nat) (A : Act) (w0 : World) (s : Nat → Bool) (a : Act) (w : World) : Prop where
  off : Off [2, 3, 28, 29, 30, 31, 32] a A
  below : Below B w0 w
  t0 : s 0 = true → a.eval (.tmp 28) = Big (sum)
  t1 : s 1 = true → a.eval (.tmp 29) = Big (Fix.sq sum)
  t2 : s 2 = true → a.eval (.tmp 30) = .tuple #[.int .i64 (Fix.sgnV (Fix.sq sum) false), .int .i64 (Fix.sgnE (Fix.sq sum) false)]
  t3 : s 3 = true → a.eval (.tmp 31) = .int .i64 (Fix.sgnV (Fix.sq sum) false)
  t4 : s 4 = true → a.eval (.tmp 32) = .int .i64 (Fix.sgnE (Fix.sq sum) false)
  t5 : s 5 = true → a.eval (.tmp 2) = .int .i64 (Fix.sgnV (Fix.sq sum) false)
  t6 : s 6 = true → a.eval (.tmp 3) = .int .i64 (Fix.sgnE (Fix.sq sum) false)
  o_s : Row w b_s (BigM.dg (sum))

set_option maxHeartbeats 2000000 in
theorem hyp_fin {id : Nat} {d : Bool} {l : List Oper} {A : Act} {w : World} {Q : Exit → Act → World → Prop} (sum : Nat) (hsum : sum < 2 ^ 130) (hsfalse : Fix.sq sum < 65536 ^ 17) {b_s B : Nat}
    (hB : tableD d l.toArray (fun s i => match i with | 0 => true | 1 => s 0 | 2 => s 1 | 3 => s 2 | 4 => s 2 | 5 => s 3 | 6 => s 4 | _ => true) = true) (hl : l.length = 7)
    (h0 : pick l 0 = some (.load 47 (.tmp 4), some 28))
    (h1 : pick l 1 = some (.call { callee := .value (.func 35), args := #[.tmp 28], argTypes := #[47] }, some 29))
    (h2 : pick l 2 = some (.call { callee := .value (.func 34), args := #[.const (.bool false), .tmp 29], argTypes := #[4, 47] }, some 30))
    (h3 : pick l 3 = some (.extract (.tmp 30) 0, some 31))
    (h4 : pick l 4 = some (.extract (.tmp 30) 1, some 32))
    (h5 : pick l 5 = some (.assign (.tmp 31), some 2))
    (h6 : pick l 6 = some (.assign (.tmp 32), some 3))
    (hs : A.tmps.size = 33) (hB0 : B ≤ w.heap.size)
    (x_s : A.eval (.tmp 4) = ptr b_s) (R_s : Row w b_s (BigM.dg (sum)))
    (h : ∀ w', Below B w w' → Row w' b_s (BigM.dg (sum)) → Q .normal (((((((A.put (some 2) (.int .i64 (Fix.sgnV (Fix.sq sum) false))).put (some 3) (.int .i64 (Fix.sgnE (Fix.sq sum) false))).put (some 28) (Big (sum))).put (some 29) (Big (Fix.sq sum))).put (some 30) (.tuple #[.int .i64 (Fix.sgnV (Fix.sq sum) false), .int .i64 (Fix.sgnE (Fix.sq sum) false)])).put (some 31) (.int .i64 (Fix.sgnV (Fix.sq sum) false))).put (some 32) (.int .i64 (Fix.sgnE (Fix.sq sum) false))) w') :
    (Code.region id l.toArray d).wp Tryd.prog Q A w := by
  refine wp_region_invD (by kernel_rfl) _ hB (hyp_finAt sum b_s B A w) ⟨Off.refl _ _, Below.refl _ _, by simp, by simp, by simp, by simp, by simp, by simp, by simp, R_s⟩ ⟨Off.refl _ _, (Below.refl _ _).drew, by simp, by simp, by simp, by simp, by simp, by simp, by simp, R_s⟩ ?_ ?_
  · intro s a w' S i o ho hsi hT K hK
    have sz : a.tmps.size = 33 := by rw [S.off.2.1]; exact hs
    have il : i < 7 := by have := (List.getElem?_eq_some_iff.1 ho).1; omega
    match i, il, ho, hsi, hT with
    | 0, _, ho, hsi, hT =>
      obtain ⟨e1, e2⟩ := pick_of h0 ho
      refine step_load (.tmp 4) e1 (b := b_s) (f := BigM.dg (sum)) (by rw [S.off.eval (by decide)]; exact x_s) S.o_s (hK _ _ ?_)
      rw [e2]
      exact ⟨S.off.put (by decide) _, S.below, fun _ => (eval_put _ _ _ (by omega)).trans rfl, fun g => by rw [eval_put_ne _ _ _ _ (by decide)]; exact S.t1 (by simpa using g), fun g => by rw [eval_put_ne _ _ _ _ (by decide)]; exact S.t2 (by simpa using g), fun g => by rw [eval_put_ne _ _ _ _ (by decide)]; exact S.t3 (by simpa using g), fun g => by rw [eval_put_ne _ _ _ _ (by decide)]; exact S.t4 (by simpa using g), fun g => by rw [eval_put_ne _ _ _ _ (by decide)]; exact S.t5 (by simpa using g), fun g => by rw [eval_put_ne _ _ _ _ (by decide)]; exact S.t6 (by simpa using g), S.o_s⟩
    | 1, _, ho, hsi, hT =>
      obtain ⟨e1, e2⟩ := pick_of h1 ho
      have D0 := hT
      refine step_call 35 (fun args w => by go_simp) _ _ e1 #[Big (sum)] (by simp only [List.map_toArray, List.map_cons, List.map_nil, S.t0 D0]) ((bigRoot_any sum hsum w').mono ?_)
      rintro e w2 ⟨rfl, BB⟩
      refine ⟨_, rfl, hK _ _ ?_⟩
      rw [e2]
      have hBs : B ≤ w'.heap.size := Nat.le_trans hB0 S.below.size
      exact ⟨S.off.put (by decide) _, S.below.trans (BB.mono hBs), fun g => by rw [eval_put_ne _ _ _ _ (by decide)]; exact S.t0 (by simpa using g), fun _ => (eval_put _ _ _ (by omega)).trans rfl, fun g => by rw [eval_put_ne _ _ _ _ (by decide)]; exact S.t2 (by simpa using g), fun g => by rw [eval_put_ne _ _ _ _ (by decide)]; exact S.t3 (by simpa using g), fun g => by rw [eval_put_ne _ _ _ _ (by decide)]; exact S.t4 (by simpa using g), fun g => by rw [eval_put_ne _ _ _ _ (by decide)]; exact S.t5 (by simpa using g), fun g => by rw [eval_put_ne _ _ _ _ (by decide)]; exact S.t6 (by simpa using g), (S.o_s).below BB⟩
    | 2, _, ho, hsi, hT =>
      obtain ⟨e1, e2⟩ := pick_of h2 ho
      have D1 := hT
      refine step_call 34 (fun args w => by go_simp) _ _ e1 #[.bool false, Big (Fix.sq sum)] (by simp only [List.map_toArray, List.map_cons, List.map_nil, S.t1 D1, show ∀ v, a.eval (.const v) = v from fun _ => rfl]) ((bigSigned_any false (Fix.sq sum) hsfalse w').mono ?_)
      rintro e w2 ⟨rfl, BB⟩
      refine ⟨_, rfl, hK _ _ ?_⟩
      rw [e2]
      have hBs : B ≤ w'.heap.size := Nat.le_trans hB0 S.below.size
      exact ⟨S.off.put (by decide) _, S.below.trans (BB.mono hBs), fun g => by rw [eval_put_ne _ _ _ _ (by decide)]; exact S.t0 (by simpa using g), fun g => by rw [eval_put_ne _ _ _ _ (by decide)]; exact S.t1 (by simpa using g), fun _ => (eval_put _ _ _ (by omega)).trans rfl, fun g => by rw [eval_put_ne _ _ _ _ (by decide)]; exact S.t3 (by simpa using g), fun g => by rw [eval_put_ne _ _ _ _ (by decide)]; exact S.t4 (by simpa using g), fun g => by rw [eval_put_ne _ _ _ _ (by decide)]; exact S.t5 (by simpa using g), fun g => by rw [eval_put_ne _ _ _ _ (by decide)]; exact S.t6 (by simpa using g), (S.o_s).below BB⟩
    | 3, _, ho, hsi, hT =>
      obtain ⟨e1, e2⟩ := pick_of h3 ho
      have D2 := hT
      refine step_val (v := .int .i64 (Fix.sgnV (Fix.sq sum) false)) (by simp only [execOp, e1, S.t2 D2]; go_simp) (hK _ _ ?_)
      rw [e2]
      exact ⟨S.off.put (by decide) _, S.below, fun g => by rw [eval_put_ne _ _ _ _ (by decide)]; exact S.t0 (by simpa using g), fun g => by rw [eval_put_ne _ _ _ _ (by decide)]; exact S.t1 (by simpa using g), fun g => by rw [eval_put_ne _ _ _ _ (by decide)]; exact S.t2 (by simpa using g), fun _ => (eval_put _ _ _ (by omega)).trans rfl, fun g => by rw [eval_put_ne _ _ _ _ (by decide)]; exact S.t4 (by simpa using g), fun g => by rw [eval_put_ne _ _ _ _ (by decide)]; exact S.t5 (by simpa using g), fun g => by rw [eval_put_ne _ _ _ _ (by decide)]; exact S.t6 (by simpa using g), S.o_s⟩
    | 4, _, ho, hsi, hT =>
      obtain ⟨e1, e2⟩ := pick_of h4 ho
      have D2 := hT
      refine step_val (v := .int .i64 (Fix.sgnE (Fix.sq sum) false)) (by simp only [execOp, e1, S.t2 D2]; go_simp) (hK _ _ ?_)
      rw [e2]
      exact ⟨S.off.put (by decide) _, S.below, fun g => by rw [eval_put_ne _ _ _ _ (by decide)]; exact S.t0 (by simpa using g), fun g => by rw [eval_put_ne _ _ _ _ (by decide)]; exact S.t1 (by simpa using g), fun g => by rw [eval_put_ne _ _ _ _ (by decide)]; exact S.t2 (by simpa using g), fun g => by rw [eval_put_ne _ _ _ _ (by decide)]; exact S.t3 (by simpa using g), fun _ => (eval_put _ _ _ (by omega)).trans rfl, fun g => by rw [eval_put_ne _ _ _ _ (by decide)]; exact S.t5 (by simpa using g), fun g => by rw [eval_put_ne _ _ _ _ (by decide)]; exact S.t6 (by simpa using g), S.o_s⟩
    | 5, _, ho, hsi, hT =>
      obtain ⟨e1, e2⟩ := pick_of h5 ho
      have D3 := hT
      refine step_val (v := .int .i64 (Fix.sgnV (Fix.sq sum) false)) (by simp only [execOp, e1, S.t3 D3]; go_simp) (hK _ _ ?_)
      rw [e2]
      exact ⟨S.off.put (by decide) _, S.below, fun g => by rw [eval_put_ne _ _ _ _ (by decide)]; exact S.t0 (by simpa using g), fun g => by rw [eval_put_ne _ _ _ _ (by decide)]; exact S.t1 (by simpa using g), fun g => by rw [eval_put_ne _ _ _ _ (by decide)]; exact S.t2 (by simpa using g), fun g => by rw [eval_put_ne _ _ _ _ (by decide)]; exact S.t3 (by simpa using g), fun g => by rw [eval_put_ne _ _ _ _ (by decide)]; exact S.t4 (by simpa using g), fun _ => (eval_put _ _ _ (by omega)).trans rfl, fun g => by rw [eval_put_ne _ _ _ _ (by decide)]; exact S.t6 (by simpa using g), S.o_s⟩
    | 6, _, ho, hsi, hT =>
      obtain ⟨e1, e2⟩ := pick_of h6 ho
      have D4 := hT
      refine step_val (v := .int .i64 (Fix.sgnE (Fix.sq sum) false)) (by simp only [execOp, e1, S.t4 D4]; go_simp) (hK _ _ ?_)
      rw [e2]
      exact ⟨S.off.put (by decide) _, S.below, fun g => by rw [eval_put_ne _ _ _ _ (by decide)]; exact S.t0 (by simpa using g), fun g => by rw [eval_put_ne _ _ _ _ (by decide)]; exact S.t1 (by simpa using g), fun g => by rw [eval_put_ne _ _ _ _ (by decide)]; exact S.t2 (by simpa using g), fun g => by rw [eval_put_ne _ _ _ _ (by decide)]; exact S.t3 (by simpa using g), fun g => by rw [eval_put_ne _ _ _ _ (by decide)]; exact S.t4 (by simpa using g), fun g => by rw [eval_put_ne _ _ _ _ (by decide)]; exact S.t5 (by simpa using g), fun _ => (eval_put _ _ _ (by omega)).trans rfl, S.o_s⟩
  · intro s a w' S hall
    have a0 := hall 0 (by omega)
    have a1 := hall 1 (by omega)
    have a2 := hall 2 (by omega)
    have a3 := hall 3 (by omega)
    have a4 := hall 4 (by omega)
    have a5 := hall 5 (by omega)
    have a6 := hall 6 (by omega)
    have e := off_norm _ (by intro d hd; simp at hd; omega) S.off
    simp only [List.foldl, S.t0 a0, S.t1 a1, S.t2 a2, S.t3 a3, S.t4 a4, S.t5 a5, S.t6 a6] at e
    rw [e]
    exact h _ S.below S.o_s
end Go.Proofs.YtlniojmjakmcjaaDoor
