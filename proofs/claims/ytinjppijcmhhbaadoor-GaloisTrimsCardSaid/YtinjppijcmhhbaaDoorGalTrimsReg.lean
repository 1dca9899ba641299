/- The region of GaloisTrims that draws its order. -/
import Derived.Test.YtinjppijcmhhbaaDoorGalLaw
namespace Go.Proofs.YtinjppijcmhhbaaDoor
open Go.RowKit
set_option linter.unusedVariables false

theorem step_make {o : Oper} {a : Act} {w : World} {K : Act → World → Prop} {Q : Exit → Act → World → Prop} {x : Operand} (hop : o.op = .makeSlice 43 x x) (n : Nat) (hn : n ≤ 1000000) {k : IntKind} (hx : a.eval x = .int k (n : Nat))
    (h : ∀ w', NumsK .u8 w' w.heap.size n (fun _ => 0) → Below w.heap.size w w' → K (a.put o.dst (.slice (some ⟨w.heap.size, 0, none⟩) n n)) w') : o.wp Tryd.prog a w K Q := by
  obtain ⟨i0, hi, hz0, hz1, hz2⟩ := info_parts info_u8
  obtain ⟨w', hrun, r1, r2⟩ := run_make_full (P := Tryd.prog) w w.heap.size 43 5 i0 (.int .u8 0) 1 Tryd.underlying43 hi hz0 hz1 k k n (by rw [hz2]; omega) (by unfold maxLen; omega) (Nat.le_refl _)
  unfold Oper.wp
  simp [execOp, hop, hx, hrun, Result.andThen]
  exact h w' (madeNums r1) ((Below.refl _ _).grown r2 (Nat.le_refl _) (fun k e => by cases e))
structure TrimsRegion (N m1 m2 k : Nat) (p q : ByteArray) (A : Act) (w0 : World) (s : Nat → Bool) (a : Act) (w : World) : Prop where
  off : Off [28, 29, 30, 31, 32, 33, 34, 35, 36, 37, 38, 39, 40, 7, 8] a A
  before : Below w0.heap.size w0 w
  t0 : s 0 = true → a.eval (.tmp 28) = .string p
  t1 : s 1 = true → a.eval (.tmp 29) = .int .u16 (N : Nat)
  t2 : s 2 = true → a.eval (.tmp 30) = .int .u16 (m1 : Nat)
  t3 : s 3 = true → ∃ B3, a.eval (.tmp 31) = .slice (some ⟨B3, 0, none⟩) m1 m1 ∧ NumsK .u8 w B3 m1 (fun _ => 0)
  t4 : s 4 = true → a.eval (.tmp 32) = .string ⟨(Gal.coefs (fun _ => 0#8) m1).toArray⟩
  t5 : s 5 = true → a.eval (.tmp 33) = .string (p ++ ⟨(Gal.coefs (fun _ => 0#8) m1).toArray⟩)
  t6 : s 6 = true → a.eval (.tmp 34) = .string q
  t7 : s 7 = true → a.eval (.tmp 35) = .int .u16 (N : Nat)
  t8 : s 8 = true → a.eval (.tmp 36) = .int .u16 (k : Nat)
  t9 : s 9 = true → a.eval (.tmp 37) = .int .u16 (m2 : Nat)
  t10 : s 10 = true → ∃ B10, a.eval (.tmp 38) = .slice (some ⟨B10, 0, none⟩) m2 m2 ∧ NumsK .u8 w B10 m2 (fun _ => 0)
  t11 : s 11 = true → a.eval (.tmp 39) = .string ⟨(Gal.coefs (fun _ => 0#8) m2).toArray⟩
  t12 : s 12 = true → a.eval (.tmp 40) = .string (q ++ ⟨(Gal.coefs (fun _ => 0#8) m2).toArray⟩)
  t13 : s 13 = true → a.eval (.tmp 7) = .string (p ++ ⟨(Gal.coefs (fun _ => 0#8) m1).toArray⟩)
  t14 : s 14 = true → a.eval (.tmp 8) = .string (q ++ ⟨(Gal.coefs (fun _ => 0#8) m2).toArray⟩)
set_option maxHeartbeats 2000000 in
set_option maxRecDepth 100000 in
theorem trimsRegion {id : Nat} {d : Bool} {l : List Oper} {A : Act} {w : World} {Q : Exit → Act → World → Prop} (N m1 m2 k : Nat) (p q : ByteArray)
    (hp0 : p.size ≤ 1000000) (hq0 : q.size ≤ 1000000) (hN : N < 65536) (hk1 : N / 100 ≤ k) (hk2 : k ≤ N / 100) (h1 : m1 ≤ 1000000) (h2 : m2 ≤ 1000000) (r1 : (N : Int) % 100 = (m1 : Int)) (r2 : (N : Int).tmod 100 = (m1 : Int)) (r3 : (N : Int) / 100 = (k : Int)) (r4 : (N : Int).tdiv 100 = (k : Int)) (r5 : (k : Int) % 100 = (m2 : Int)) (r6 : (k : Int).tmod 100 = (m2 : Int))
    (hB : tableL d l.toArray (fun i => match i with | 0 => [] | 1 => [] | 2 => [1] | 3 => [2] | 4 => [3] | 5 => [0, 4] | 6 => [] | 7 => [] | 8 => [7] | 9 => [8] | 10 => [9] | 11 => [10] | 12 => [6, 11] | 13 => [5] | 14 => [12] | _ => []) (fun i => match i with | 0 => [] | 1 => [] | 2 => [] | 3 => [] | 4 => [] | 5 => [] | 6 => [] | 7 => [] | 8 => [] | 9 => [] | 10 => [] | 11 => [] | 12 => [] | 13 => [] | 14 => [] | _ => []) = true) (hl : l.length = 15)
    (h0 : pick l 0 = some (.move (.tmp 0), some 28))
    (h1 : pick l 1 = some (.move (.tmp 2), some 29))
    (h2 : pick l 2 = some (.binOp .rem 42 (.tmp 29) (.const (.int .u16 100)) 42, some 30))
    (h3 : pick l 3 = some (.makeSlice 43 (.tmp 30) (.tmp 30), some 31))
    (h4 : pick l 4 = some (.convert 43 9 (.tmp 31), some 32))
    (h5 : pick l 5 = some (.binOp .add 9 (.tmp 28) (.tmp 32) 9, some 33))
    (h6 : pick l 6 = some (.move (.tmp 1), some 34))
    (h7 : pick l 7 = some (.move (.tmp 2), some 35))
    (h8 : pick l 8 = some (.binOp .quo 42 (.tmp 35) (.const (.int .u16 100)) 42, some 36))
    (h9 : pick l 9 = some (.binOp .rem 42 (.tmp 36) (.const (.int .u16 100)) 42, some 37))
    (h10 : pick l 10 = some (.makeSlice 43 (.tmp 37) (.tmp 37), some 38))
    (h11 : pick l 11 = some (.convert 43 9 (.tmp 38), some 39))
    (h12 : pick l 12 = some (.binOp .add 9 (.tmp 34) (.tmp 39) 9, some 40))
    (h13 : pick l 13 = some (.assign (.tmp 33), some 7))
    (h14 : pick l 14 = some (.assign (.tmp 40), some 8))
    (hs : A.tmps.size = 116)
    (x0 : A.eval (.tmp 0) = .string p)
    (x1 : A.eval (.tmp 1) = .string q)
    (x2 : A.eval (.tmp 2) = .int .u16 (N : Nat))
    (h : ∀ B3 B10 w1, Below w.heap.size w w1 → Q .normal (((((((((((((((A.put (some 28) (.string p)).put (some 29) (.int .u16 (N : Nat))).put (some 30) (.int .u16 (m1 : Nat))).put (some 31) (.slice (some ⟨B3, 0, none⟩) m1 m1)).put (some 32) (.string ⟨(Gal.coefs (fun _ => 0#8) m1).toArray⟩)).put (some 33) (.string (p ++ ⟨(Gal.coefs (fun _ => 0#8) m1).toArray⟩))).put (some 34) (.string q)).put (some 35) (.int .u16 (N : Nat))).put (some 36) (.int .u16 (k : Nat))).put (some 37) (.int .u16 (m2 : Nat))).put (some 38) (.slice (some ⟨B10, 0, none⟩) m2 m2)).put (some 39) (.string ⟨(Gal.coefs (fun _ => 0#8) m2).toArray⟩)).put (some 40) (.string (q ++ ⟨(Gal.coefs (fun _ => 0#8) m2).toArray⟩))).put (some 7) (.string (p ++ ⟨(Gal.coefs (fun _ => 0#8) m1).toArray⟩))).put (some 8) (.string (q ++ ⟨(Gal.coefs (fun _ => 0#8) m2).toArray⟩))) w1) :
    (Code.region id l.toArray d).wp Tryd.prog Q A w := by
  refine wp_region_invL (by kernel_rfl) _ _ hB (TrimsRegion N m1 m2 k p q A w) ⟨Off.refl _ _, Below.refl _ _, by simp, by simp, by simp, by simp, by simp, by simp, by simp, by simp, by simp, by simp, by simp, by simp, by simp, by simp, by simp⟩ ⟨Off.refl _ _, (Below.refl _ _).drew, by simp, by simp, by simp, by simp, by simp, by simp, by simp, by simp, by simp, by simp, by simp, by simp, by simp, by simp, by simp⟩ ?_ ?_
  · intro s a w' S i' o ho hsi hT K hK
    have sz : a.tmps.size = 116 := by rw [S.off.2.1]; exact hs
    have il : i' < 15 := by have := (List.getElem?_eq_some_iff.1 ho).1; omega
    have y0 : a.eval (.tmp 0) = .string p := by rw [S.off.eval (by decide)]; exact x0
    have y1 : a.eval (.tmp 1) = .string q := by rw [S.off.eval (by decide)]; exact x1
    have y2 : a.eval (.tmp 2) = .int .u16 (N : Nat) := by rw [S.off.eval (by decide)]; exact x2
    match i', il, ho, hsi, hT with
    | 0, _, ho, hsi, hT =>
      obtain ⟨e1, e2⟩ := pick_of h0 ho
      have BW := S.before
      refine step_val (v := .string p) (by simp only [execOp, e1, y0]; go_simp) (hK _ _ ?_)
      rw [e2]
      exact ⟨S.off.put (by decide) _, S.before, fun _ => (eval_put _ _ _ (by omega)).trans rfl, fun g => by rw [eval_put_ne _ _ _ _ (by decide)]; exact S.t1 (by simpa using g), fun g => by rw [eval_put_ne _ _ _ _ (by decide)]; exact S.t2 (by simpa using g), fun g => (S.t3 (by simpa using g)).imp fun b hb => ⟨by rw [eval_put_ne _ _ _ _ (by decide)]; exact hb.1, hb.2⟩, fun g => by rw [eval_put_ne _ _ _ _ (by decide)]; exact S.t4 (by simpa using g), fun g => by rw [eval_put_ne _ _ _ _ (by decide)]; exact S.t5 (by simpa using g), fun g => by rw [eval_put_ne _ _ _ _ (by decide)]; exact S.t6 (by simpa using g), fun g => by rw [eval_put_ne _ _ _ _ (by decide)]; exact S.t7 (by simpa using g), fun g => by rw [eval_put_ne _ _ _ _ (by decide)]; exact S.t8 (by simpa using g), fun g => by rw [eval_put_ne _ _ _ _ (by decide)]; exact S.t9 (by simpa using g), fun g => (S.t10 (by simpa using g)).imp fun b hb => ⟨by rw [eval_put_ne _ _ _ _ (by decide)]; exact hb.1, hb.2⟩, fun g => by rw [eval_put_ne _ _ _ _ (by decide)]; exact S.t11 (by simpa using g), fun g => by rw [eval_put_ne _ _ _ _ (by decide)]; exact S.t12 (by simpa using g), fun g => by rw [eval_put_ne _ _ _ _ (by decide)]; exact S.t13 (by simpa using g), fun g => by rw [eval_put_ne _ _ _ _ (by decide)]; exact S.t14 (by simpa using g)⟩
    | 1, _, ho, hsi, hT =>
      obtain ⟨e1, e2⟩ := pick_of h1 ho
      have BW := S.before
      refine step_val (v := .int .u16 (N : Nat)) (by simp only [execOp, e1, y2]; go_simp) (hK _ _ ?_)
      rw [e2]
      exact ⟨S.off.put (by decide) _, S.before, fun g => by rw [eval_put_ne _ _ _ _ (by decide)]; exact S.t0 (by simpa using g), fun _ => (eval_put _ _ _ (by omega)).trans rfl, fun g => by rw [eval_put_ne _ _ _ _ (by decide)]; exact S.t2 (by simpa using g), fun g => (S.t3 (by simpa using g)).imp fun b hb => ⟨by rw [eval_put_ne _ _ _ _ (by decide)]; exact hb.1, hb.2⟩, fun g => by rw [eval_put_ne _ _ _ _ (by decide)]; exact S.t4 (by simpa using g), fun g => by rw [eval_put_ne _ _ _ _ (by decide)]; exact S.t5 (by simpa using g), fun g => by rw [eval_put_ne _ _ _ _ (by decide)]; exact S.t6 (by simpa using g), fun g => by rw [eval_put_ne _ _ _ _ (by decide)]; exact S.t7 (by simpa using g), fun g => by rw [eval_put_ne _ _ _ _ (by decide)]; exact S.t8 (by simpa using g), fun g => by rw [eval_put_ne _ _ _ _ (by decide)]; exact S.t9 (by simpa using g), fun g => (S.t10 (by simpa using g)).imp fun b hb => ⟨by rw [eval_put_ne _ _ _ _ (by decide)]; exact hb.1, hb.2⟩, fun g => by rw [eval_put_ne _ _ _ _ (by decide)]; exact S.t11 (by simpa using g), fun g => by rw [eval_put_ne _ _ _ _ (by decide)]; exact S.t12 (by simpa using g), fun g => by rw [eval_put_ne _ _ _ _ (by decide)]; exact S.t13 (by simpa using g), fun g => by rw [eval_put_ne _ _ _ _ (by decide)]; exact S.t14 (by simpa using g)⟩
    | 2, _, ho, hsi, hT =>
      obtain ⟨e1, e2⟩ := pick_of h2 ho
      have D1 : s 1 = true := list_pos hT (d := 1) (by decide)
      have BW := S.before
      refine step_val (v := .int .u16 (m1 : Nat)) (by simp only [execOp, e1, S.t1 D1]; go_simp) (hK _ _ ?_)
      rw [e2]
      exact ⟨S.off.put (by decide) _, S.before, fun g => by rw [eval_put_ne _ _ _ _ (by decide)]; exact S.t0 (by simpa using g), fun g => by rw [eval_put_ne _ _ _ _ (by decide)]; exact S.t1 (by simpa using g), fun _ => (eval_put _ _ _ (by omega)).trans rfl, fun g => (S.t3 (by simpa using g)).imp fun b hb => ⟨by rw [eval_put_ne _ _ _ _ (by decide)]; exact hb.1, hb.2⟩, fun g => by rw [eval_put_ne _ _ _ _ (by decide)]; exact S.t4 (by simpa using g), fun g => by rw [eval_put_ne _ _ _ _ (by decide)]; exact S.t5 (by simpa using g), fun g => by rw [eval_put_ne _ _ _ _ (by decide)]; exact S.t6 (by simpa using g), fun g => by rw [eval_put_ne _ _ _ _ (by decide)]; exact S.t7 (by simpa using g), fun g => by rw [eval_put_ne _ _ _ _ (by decide)]; exact S.t8 (by simpa using g), fun g => by rw [eval_put_ne _ _ _ _ (by decide)]; exact S.t9 (by simpa using g), fun g => (S.t10 (by simpa using g)).imp fun b hb => ⟨by rw [eval_put_ne _ _ _ _ (by decide)]; exact hb.1, hb.2⟩, fun g => by rw [eval_put_ne _ _ _ _ (by decide)]; exact S.t11 (by simpa using g), fun g => by rw [eval_put_ne _ _ _ _ (by decide)]; exact S.t12 (by simpa using g), fun g => by rw [eval_put_ne _ _ _ _ (by decide)]; exact S.t13 (by simpa using g), fun g => by rw [eval_put_ne _ _ _ _ (by decide)]; exact S.t14 (by simpa using g)⟩
    | 3, _, ho, hsi, hT =>
      obtain ⟨e1, e2⟩ := pick_of h3 ho
      have D2 : s 2 = true := list_pos hT (d := 2) (by decide)
      have BW := S.before
      refine step_make e1 m1 (by omega) (k := .u16) (by simp only [S.t2 D2]) ?_
      intro w2 NN BB
      refine hK _ _ ?_
      rw [e2]
      exact ⟨S.off.put (by decide) _, bt BW BB, fun g => by rw [eval_put_ne _ _ _ _ (by decide)]; exact S.t0 (by simpa using g), fun g => by rw [eval_put_ne _ _ _ _ (by decide)]; exact S.t1 (by simpa using g), fun g => by rw [eval_put_ne _ _ _ _ (by decide)]; exact S.t2 (by simpa using g), fun _ => ⟨w'.heap.size, (eval_put _ _ _ (by omega)).trans rfl, NN⟩, fun g => by rw [eval_put_ne _ _ _ _ (by decide)]; exact S.t4 (by simpa using g), fun g => by rw [eval_put_ne _ _ _ _ (by decide)]; exact S.t5 (by simpa using g), fun g => by rw [eval_put_ne _ _ _ _ (by decide)]; exact S.t6 (by simpa using g), fun g => by rw [eval_put_ne _ _ _ _ (by decide)]; exact S.t7 (by simpa using g), fun g => by rw [eval_put_ne _ _ _ _ (by decide)]; exact S.t8 (by simpa using g), fun g => by rw [eval_put_ne _ _ _ _ (by decide)]; exact S.t9 (by simpa using g), fun g => (S.t10 (by simpa using g)).imp fun b hb => ⟨by rw [eval_put_ne _ _ _ _ (by decide)]; exact hb.1, hb.2.below BB⟩, fun g => by rw [eval_put_ne _ _ _ _ (by decide)]; exact S.t11 (by simpa using g), fun g => by rw [eval_put_ne _ _ _ _ (by decide)]; exact S.t12 (by simpa using g), fun g => by rw [eval_put_ne _ _ _ _ (by decide)]; exact S.t13 (by simpa using g), fun g => by rw [eval_put_ne _ _ _ _ (by decide)]; exact S.t14 (by simpa using g)⟩
    | 4, _, ho, hsi, hT =>
      obtain ⟨e1, e2⟩ := pick_of h4 ho
      have D3 : s 3 = true := list_pos hT (d := 3) (by decide)
      have BW := S.before
      obtain ⟨B3, M3, NU3⟩ := S.t3 D3
      have cv := nums_back (f := fun _ => 0#8) m1 NU3
      refine step_val (v := .string ⟨(Gal.coefs (fun _ => 0#8) m1).toArray⟩) (by simp only [execOp, e1, M3]; go_simp) (hK _ _ ?_)
      rw [e2]
      exact ⟨S.off.put (by decide) _, S.before, fun g => by rw [eval_put_ne _ _ _ _ (by decide)]; exact S.t0 (by simpa using g), fun g => by rw [eval_put_ne _ _ _ _ (by decide)]; exact S.t1 (by simpa using g), fun g => by rw [eval_put_ne _ _ _ _ (by decide)]; exact S.t2 (by simpa using g), fun g => (S.t3 (by simpa using g)).imp fun b hb => ⟨by rw [eval_put_ne _ _ _ _ (by decide)]; exact hb.1, hb.2⟩, fun _ => (eval_put _ _ _ (by omega)).trans rfl, fun g => by rw [eval_put_ne _ _ _ _ (by decide)]; exact S.t5 (by simpa using g), fun g => by rw [eval_put_ne _ _ _ _ (by decide)]; exact S.t6 (by simpa using g), fun g => by rw [eval_put_ne _ _ _ _ (by decide)]; exact S.t7 (by simpa using g), fun g => by rw [eval_put_ne _ _ _ _ (by decide)]; exact S.t8 (by simpa using g), fun g => by rw [eval_put_ne _ _ _ _ (by decide)]; exact S.t9 (by simpa using g), fun g => (S.t10 (by simpa using g)).imp fun b hb => ⟨by rw [eval_put_ne _ _ _ _ (by decide)]; exact hb.1, hb.2⟩, fun g => by rw [eval_put_ne _ _ _ _ (by decide)]; exact S.t11 (by simpa using g), fun g => by rw [eval_put_ne _ _ _ _ (by decide)]; exact S.t12 (by simpa using g), fun g => by rw [eval_put_ne _ _ _ _ (by decide)]; exact S.t13 (by simpa using g), fun g => by rw [eval_put_ne _ _ _ _ (by decide)]; exact S.t14 (by simpa using g)⟩
    | 5, _, ho, hsi, hT =>
      obtain ⟨e1, e2⟩ := pick_of h5 ho
      have D0 : s 0 = true := list_pos hT (d := 0) (by decide)
      have D4 : s 4 = true := list_pos hT (d := 4) (by decide)
      have BW := S.before
      refine step_val (v := .string (p ++ ⟨(Gal.coefs (fun _ => 0#8) m1).toArray⟩)) (by simp only [execOp, e1, S.t0 D0, S.t4 D4]; go_simp; rw [Gal.coefs_length]; omega) (hK _ _ ?_)
      rw [e2]
      exact ⟨S.off.put (by decide) _, S.before, fun g => by rw [eval_put_ne _ _ _ _ (by decide)]; exact S.t0 (by simpa using g), fun g => by rw [eval_put_ne _ _ _ _ (by decide)]; exact S.t1 (by simpa using g), fun g => by rw [eval_put_ne _ _ _ _ (by decide)]; exact S.t2 (by simpa using g), fun g => (S.t3 (by simpa using g)).imp fun b hb => ⟨by rw [eval_put_ne _ _ _ _ (by decide)]; exact hb.1, hb.2⟩, fun g => by rw [eval_put_ne _ _ _ _ (by decide)]; exact S.t4 (by simpa using g), fun _ => (eval_put _ _ _ (by omega)).trans rfl, fun g => by rw [eval_put_ne _ _ _ _ (by decide)]; exact S.t6 (by simpa using g), fun g => by rw [eval_put_ne _ _ _ _ (by decide)]; exact S.t7 (by simpa using g), fun g => by rw [eval_put_ne _ _ _ _ (by decide)]; exact S.t8 (by simpa using g), fun g => by rw [eval_put_ne _ _ _ _ (by decide)]; exact S.t9 (by simpa using g), fun g => (S.t10 (by simpa using g)).imp fun b hb => ⟨by rw [eval_put_ne _ _ _ _ (by decide)]; exact hb.1, hb.2⟩, fun g => by rw [eval_put_ne _ _ _ _ (by decide)]; exact S.t11 (by simpa using g), fun g => by rw [eval_put_ne _ _ _ _ (by decide)]; exact S.t12 (by simpa using g), fun g => by rw [eval_put_ne _ _ _ _ (by decide)]; exact S.t13 (by simpa using g), fun g => by rw [eval_put_ne _ _ _ _ (by decide)]; exact S.t14 (by simpa using g)⟩
    | 6, _, ho, hsi, hT =>
      obtain ⟨e1, e2⟩ := pick_of h6 ho
      have BW := S.before
      refine step_val (v := .string q) (by simp only [execOp, e1, y1]; go_simp) (hK _ _ ?_)
      rw [e2]
      exact ⟨S.off.put (by decide) _, S.before, fun g => by rw [eval_put_ne _ _ _ _ (by decide)]; exact S.t0 (by simpa using g), fun g => by rw [eval_put_ne _ _ _ _ (by decide)]; exact S.t1 (by simpa using g), fun g => by rw [eval_put_ne _ _ _ _ (by decide)]; exact S.t2 (by simpa using g), fun g => (S.t3 (by simpa using g)).imp fun b hb => ⟨by rw [eval_put_ne _ _ _ _ (by decide)]; exact hb.1, hb.2⟩, fun g => by rw [eval_put_ne _ _ _ _ (by decide)]; exact S.t4 (by simpa using g), fun g => by rw [eval_put_ne _ _ _ _ (by decide)]; exact S.t5 (by simpa using g), fun _ => (eval_put _ _ _ (by omega)).trans rfl, fun g => by rw [eval_put_ne _ _ _ _ (by decide)]; exact S.t7 (by simpa using g), fun g => by rw [eval_put_ne _ _ _ _ (by decide)]; exact S.t8 (by simpa using g), fun g => by rw [eval_put_ne _ _ _ _ (by decide)]; exact S.t9 (by simpa using g), fun g => (S.t10 (by simpa using g)).imp fun b hb => ⟨by rw [eval_put_ne _ _ _ _ (by decide)]; exact hb.1, hb.2⟩, fun g => by rw [eval_put_ne _ _ _ _ (by decide)]; exact S.t11 (by simpa using g), fun g => by rw [eval_put_ne _ _ _ _ (by decide)]; exact S.t12 (by simpa using g), fun g => by rw [eval_put_ne _ _ _ _ (by decide)]; exact S.t13 (by simpa using g), fun g => by rw [eval_put_ne _ _ _ _ (by decide)]; exact S.t14 (by simpa using g)⟩
    | 7, _, ho, hsi, hT =>
      obtain ⟨e1, e2⟩ := pick_of h7 ho
      have BW := S.before
      refine step_val (v := .int .u16 (N : Nat)) (by simp only [execOp, e1, y2]; go_simp) (hK _ _ ?_)
      rw [e2]
      exact ⟨S.off.put (by decide) _, S.before, fun g => by rw [eval_put_ne _ _ _ _ (by decide)]; exact S.t0 (by simpa using g), fun g => by rw [eval_put_ne _ _ _ _ (by decide)]; exact S.t1 (by simpa using g), fun g => by rw [eval_put_ne _ _ _ _ (by decide)]; exact S.t2 (by simpa using g), fun g => (S.t3 (by simpa using g)).imp fun b hb => ⟨by rw [eval_put_ne _ _ _ _ (by decide)]; exact hb.1, hb.2⟩, fun g => by rw [eval_put_ne _ _ _ _ (by decide)]; exact S.t4 (by simpa using g), fun g => by rw [eval_put_ne _ _ _ _ (by decide)]; exact S.t5 (by simpa using g), fun g => by rw [eval_put_ne _ _ _ _ (by decide)]; exact S.t6 (by simpa using g), fun _ => (eval_put _ _ _ (by omega)).trans rfl, fun g => by rw [eval_put_ne _ _ _ _ (by decide)]; exact S.t8 (by simpa using g), fun g => by rw [eval_put_ne _ _ _ _ (by decide)]; exact S.t9 (by simpa using g), fun g => (S.t10 (by simpa using g)).imp fun b hb => ⟨by rw [eval_put_ne _ _ _ _ (by decide)]; exact hb.1, hb.2⟩, fun g => by rw [eval_put_ne _ _ _ _ (by decide)]; exact S.t11 (by simpa using g), fun g => by rw [eval_put_ne _ _ _ _ (by decide)]; exact S.t12 (by simpa using g), fun g => by rw [eval_put_ne _ _ _ _ (by decide)]; exact S.t13 (by simpa using g), fun g => by rw [eval_put_ne _ _ _ _ (by decide)]; exact S.t14 (by simpa using g)⟩
    | 8, _, ho, hsi, hT =>
      obtain ⟨e1, e2⟩ := pick_of h8 ho
      have D7 : s 7 = true := list_pos hT (d := 7) (by decide)
      have BW := S.before
      refine step_val (v := .int .u16 (k : Nat)) (by simp only [execOp, e1, S.t7 D7]; go_simp; rw [IntKind.wrap_u16]; omega) (hK _ _ ?_)
      rw [e2]
      exact ⟨S.off.put (by decide) _, S.before, fun g => by rw [eval_put_ne _ _ _ _ (by decide)]; exact S.t0 (by simpa using g), fun g => by rw [eval_put_ne _ _ _ _ (by decide)]; exact S.t1 (by simpa using g), fun g => by rw [eval_put_ne _ _ _ _ (by decide)]; exact S.t2 (by simpa using g), fun g => (S.t3 (by simpa using g)).imp fun b hb => ⟨by rw [eval_put_ne _ _ _ _ (by decide)]; exact hb.1, hb.2⟩, fun g => by rw [eval_put_ne _ _ _ _ (by decide)]; exact S.t4 (by simpa using g), fun g => by rw [eval_put_ne _ _ _ _ (by decide)]; exact S.t5 (by simpa using g), fun g => by rw [eval_put_ne _ _ _ _ (by decide)]; exact S.t6 (by simpa using g), fun g => by rw [eval_put_ne _ _ _ _ (by decide)]; exact S.t7 (by simpa using g), fun _ => (eval_put _ _ _ (by omega)).trans rfl, fun g => by rw [eval_put_ne _ _ _ _ (by decide)]; exact S.t9 (by simpa using g), fun g => (S.t10 (by simpa using g)).imp fun b hb => ⟨by rw [eval_put_ne _ _ _ _ (by decide)]; exact hb.1, hb.2⟩, fun g => by rw [eval_put_ne _ _ _ _ (by decide)]; exact S.t11 (by simpa using g), fun g => by rw [eval_put_ne _ _ _ _ (by decide)]; exact S.t12 (by simpa using g), fun g => by rw [eval_put_ne _ _ _ _ (by decide)]; exact S.t13 (by simpa using g), fun g => by rw [eval_put_ne _ _ _ _ (by decide)]; exact S.t14 (by simpa using g)⟩
    | 9, _, ho, hsi, hT =>
      obtain ⟨e1, e2⟩ := pick_of h9 ho
      have D8 : s 8 = true := list_pos hT (d := 8) (by decide)
      have BW := S.before
      refine step_val (v := .int .u16 (m2 : Nat)) (by simp only [execOp, e1, S.t8 D8]; go_simp) (hK _ _ ?_)
      rw [e2]
      exact ⟨S.off.put (by decide) _, S.before, fun g => by rw [eval_put_ne _ _ _ _ (by decide)]; exact S.t0 (by simpa using g), fun g => by rw [eval_put_ne _ _ _ _ (by decide)]; exact S.t1 (by simpa using g), fun g => by rw [eval_put_ne _ _ _ _ (by decide)]; exact S.t2 (by simpa using g), fun g => (S.t3 (by simpa using g)).imp fun b hb => ⟨by rw [eval_put_ne _ _ _ _ (by decide)]; exact hb.1, hb.2⟩, fun g => by rw [eval_put_ne _ _ _ _ (by decide)]; exact S.t4 (by simpa using g), fun g => by rw [eval_put_ne _ _ _ _ (by decide)]; exact S.t5 (by simpa using g), fun g => by rw [eval_put_ne _ _ _ _ (by decide)]; exact S.t6 (by simpa using g), fun g => by rw [eval_put_ne _ _ _ _ (by decide)]; exact S.t7 (by simpa using g), fun g => by rw [eval_put_ne _ _ _ _ (by decide)]; exact S.t8 (by simpa using g), fun _ => (eval_put _ _ _ (by omega)).trans rfl, fun g => (S.t10 (by simpa using g)).imp fun b hb => ⟨by rw [eval_put_ne _ _ _ _ (by decide)]; exact hb.1, hb.2⟩, fun g => by rw [eval_put_ne _ _ _ _ (by decide)]; exact S.t11 (by simpa using g), fun g => by rw [eval_put_ne _ _ _ _ (by decide)]; exact S.t12 (by simpa using g), fun g => by rw [eval_put_ne _ _ _ _ (by decide)]; exact S.t13 (by simpa using g), fun g => by rw [eval_put_ne _ _ _ _ (by decide)]; exact S.t14 (by simpa using g)⟩
    | 10, _, ho, hsi, hT =>
      obtain ⟨e1, e2⟩ := pick_of h10 ho
      have D9 : s 9 = true := list_pos hT (d := 9) (by decide)
      have BW := S.before
      refine step_make e1 m2 (by omega) (k := .u16) (by simp only [S.t9 D9]) ?_
      intro w2 NN BB
      refine hK _ _ ?_
      rw [e2]
      exact ⟨S.off.put (by decide) _, bt BW BB, fun g => by rw [eval_put_ne _ _ _ _ (by decide)]; exact S.t0 (by simpa using g), fun g => by rw [eval_put_ne _ _ _ _ (by decide)]; exact S.t1 (by simpa using g), fun g => by rw [eval_put_ne _ _ _ _ (by decide)]; exact S.t2 (by simpa using g), fun g => (S.t3 (by simpa using g)).imp fun b hb => ⟨by rw [eval_put_ne _ _ _ _ (by decide)]; exact hb.1, hb.2.below BB⟩, fun g => by rw [eval_put_ne _ _ _ _ (by decide)]; exact S.t4 (by simpa using g), fun g => by rw [eval_put_ne _ _ _ _ (by decide)]; exact S.t5 (by simpa using g), fun g => by rw [eval_put_ne _ _ _ _ (by decide)]; exact S.t6 (by simpa using g), fun g => by rw [eval_put_ne _ _ _ _ (by decide)]; exact S.t7 (by simpa using g), fun g => by rw [eval_put_ne _ _ _ _ (by decide)]; exact S.t8 (by simpa using g), fun g => by rw [eval_put_ne _ _ _ _ (by decide)]; exact S.t9 (by simpa using g), fun _ => ⟨w'.heap.size, (eval_put _ _ _ (by omega)).trans rfl, NN⟩, fun g => by rw [eval_put_ne _ _ _ _ (by decide)]; exact S.t11 (by simpa using g), fun g => by rw [eval_put_ne _ _ _ _ (by decide)]; exact S.t12 (by simpa using g), fun g => by rw [eval_put_ne _ _ _ _ (by decide)]; exact S.t13 (by simpa using g), fun g => by rw [eval_put_ne _ _ _ _ (by decide)]; exact S.t14 (by simpa using g)⟩
    | 11, _, ho, hsi, hT =>
      obtain ⟨e1, e2⟩ := pick_of h11 ho
      have D10 : s 10 = true := list_pos hT (d := 10) (by decide)
      have BW := S.before
      obtain ⟨B10, M10, NU10⟩ := S.t10 D10
      have cv := nums_back (f := fun _ => 0#8) m2 NU10
      refine step_val (v := .string ⟨(Gal.coefs (fun _ => 0#8) m2).toArray⟩) (by simp only [execOp, e1, M10]; go_simp) (hK _ _ ?_)
      rw [e2]
      exact ⟨S.off.put (by decide) _, S.before, fun g => by rw [eval_put_ne _ _ _ _ (by decide)]; exact S.t0 (by simpa using g), fun g => by rw [eval_put_ne _ _ _ _ (by decide)]; exact S.t1 (by simpa using g), fun g => by rw [eval_put_ne _ _ _ _ (by decide)]; exact S.t2 (by simpa using g), fun g => (S.t3 (by simpa using g)).imp fun b hb => ⟨by rw [eval_put_ne _ _ _ _ (by decide)]; exact hb.1, hb.2⟩, fun g => by rw [eval_put_ne _ _ _ _ (by decide)]; exact S.t4 (by simpa using g), fun g => by rw [eval_put_ne _ _ _ _ (by decide)]; exact S.t5 (by simpa using g), fun g => by rw [eval_put_ne _ _ _ _ (by decide)]; exact S.t6 (by simpa using g), fun g => by rw [eval_put_ne _ _ _ _ (by decide)]; exact S.t7 (by simpa using g), fun g => by rw [eval_put_ne _ _ _ _ (by decide)]; exact S.t8 (by simpa using g), fun g => by rw [eval_put_ne _ _ _ _ (by decide)]; exact S.t9 (by simpa using g), fun g => (S.t10 (by simpa using g)).imp fun b hb => ⟨by rw [eval_put_ne _ _ _ _ (by decide)]; exact hb.1, hb.2⟩, fun _ => (eval_put _ _ _ (by omega)).trans rfl, fun g => by rw [eval_put_ne _ _ _ _ (by decide)]; exact S.t12 (by simpa using g), fun g => by rw [eval_put_ne _ _ _ _ (by decide)]; exact S.t13 (by simpa using g), fun g => by rw [eval_put_ne _ _ _ _ (by decide)]; exact S.t14 (by simpa using g)⟩
    | 12, _, ho, hsi, hT =>
      obtain ⟨e1, e2⟩ := pick_of h12 ho
      have D6 : s 6 = true := list_pos hT (d := 6) (by decide)
      have D11 : s 11 = true := list_pos hT (d := 11) (by decide)
      have BW := S.before
      refine step_val (v := .string (q ++ ⟨(Gal.coefs (fun _ => 0#8) m2).toArray⟩)) (by simp only [execOp, e1, S.t6 D6, S.t11 D11]; go_simp; rw [Gal.coefs_length]; omega) (hK _ _ ?_)
      rw [e2]
      exact ⟨S.off.put (by decide) _, S.before, fun g => by rw [eval_put_ne _ _ _ _ (by decide)]; exact S.t0 (by simpa using g), fun g => by rw [eval_put_ne _ _ _ _ (by decide)]; exact S.t1 (by simpa using g), fun g => by rw [eval_put_ne _ _ _ _ (by decide)]; exact S.t2 (by simpa using g), fun g => (S.t3 (by simpa using g)).imp fun b hb => ⟨by rw [eval_put_ne _ _ _ _ (by decide)]; exact hb.1, hb.2⟩, fun g => by rw [eval_put_ne _ _ _ _ (by decide)]; exact S.t4 (by simpa using g), fun g => by rw [eval_put_ne _ _ _ _ (by decide)]; exact S.t5 (by simpa using g), fun g => by rw [eval_put_ne _ _ _ _ (by decide)]; exact S.t6 (by simpa using g), fun g => by rw [eval_put_ne _ _ _ _ (by decide)]; exact S.t7 (by simpa using g), fun g => by rw [eval_put_ne _ _ _ _ (by decide)]; exact S.t8 (by simpa using g), fun g => by rw [eval_put_ne _ _ _ _ (by decide)]; exact S.t9 (by simpa using g), fun g => (S.t10 (by simpa using g)).imp fun b hb => ⟨by rw [eval_put_ne _ _ _ _ (by decide)]; exact hb.1, hb.2⟩, fun g => by rw [eval_put_ne _ _ _ _ (by decide)]; exact S.t11 (by simpa using g), fun _ => (eval_put _ _ _ (by omega)).trans rfl, fun g => by rw [eval_put_ne _ _ _ _ (by decide)]; exact S.t13 (by simpa using g), fun g => by rw [eval_put_ne _ _ _ _ (by decide)]; exact S.t14 (by simpa using g)⟩
    | 13, _, ho, hsi, hT =>
      obtain ⟨e1, e2⟩ := pick_of h13 ho
      have D5 : s 5 = true := list_pos hT (d := 5) (by decide)
      have BW := S.before
      refine step_val (v := .string (p ++ ⟨(Gal.coefs (fun _ => 0#8) m1).toArray⟩)) (by simp only [execOp, e1, S.t5 D5]; go_simp) (hK _ _ ?_)
      rw [e2]
      exact ⟨S.off.put (by decide) _, S.before, fun g => by rw [eval_put_ne _ _ _ _ (by decide)]; exact S.t0 (by simpa using g), fun g => by rw [eval_put_ne _ _ _ _ (by decide)]; exact S.t1 (by simpa using g), fun g => by rw [eval_put_ne _ _ _ _ (by decide)]; exact S.t2 (by simpa using g), fun g => (S.t3 (by simpa using g)).imp fun b hb => ⟨by rw [eval_put_ne _ _ _ _ (by decide)]; exact hb.1, hb.2⟩, fun g => by rw [eval_put_ne _ _ _ _ (by decide)]; exact S.t4 (by simpa using g), fun g => by rw [eval_put_ne _ _ _ _ (by decide)]; exact S.t5 (by simpa using g), fun g => by rw [eval_put_ne _ _ _ _ (by decide)]; exact S.t6 (by simpa using g), fun g => by rw [eval_put_ne _ _ _ _ (by decide)]; exact S.t7 (by simpa using g), fun g => by rw [eval_put_ne _ _ _ _ (by decide)]; exact S.t8 (by simpa using g), fun g => by rw [eval_put_ne _ _ _ _ (by decide)]; exact S.t9 (by simpa using g), fun g => (S.t10 (by simpa using g)).imp fun b hb => ⟨by rw [eval_put_ne _ _ _ _ (by decide)]; exact hb.1, hb.2⟩, fun g => by rw [eval_put_ne _ _ _ _ (by decide)]; exact S.t11 (by simpa using g), fun g => by rw [eval_put_ne _ _ _ _ (by decide)]; exact S.t12 (by simpa using g), fun _ => (eval_put _ _ _ (by omega)).trans rfl, fun g => by rw [eval_put_ne _ _ _ _ (by decide)]; exact S.t14 (by simpa using g)⟩
    | 14, _, ho, hsi, hT =>
      obtain ⟨e1, e2⟩ := pick_of h14 ho
      have D12 : s 12 = true := list_pos hT (d := 12) (by decide)
      have BW := S.before
      refine step_val (v := .string (q ++ ⟨(Gal.coefs (fun _ => 0#8) m2).toArray⟩)) (by simp only [execOp, e1, S.t12 D12]; go_simp) (hK _ _ ?_)
      rw [e2]
      exact ⟨S.off.put (by decide) _, S.before, fun g => by rw [eval_put_ne _ _ _ _ (by decide)]; exact S.t0 (by simpa using g), fun g => by rw [eval_put_ne _ _ _ _ (by decide)]; exact S.t1 (by simpa using g), fun g => by rw [eval_put_ne _ _ _ _ (by decide)]; exact S.t2 (by simpa using g), fun g => (S.t3 (by simpa using g)).imp fun b hb => ⟨by rw [eval_put_ne _ _ _ _ (by decide)]; exact hb.1, hb.2⟩, fun g => by rw [eval_put_ne _ _ _ _ (by decide)]; exact S.t4 (by simpa using g), fun g => by rw [eval_put_ne _ _ _ _ (by decide)]; exact S.t5 (by simpa using g), fun g => by rw [eval_put_ne _ _ _ _ (by decide)]; exact S.t6 (by simpa using g), fun g => by rw [eval_put_ne _ _ _ _ (by decide)]; exact S.t7 (by simpa using g), fun g => by rw [eval_put_ne _ _ _ _ (by decide)]; exact S.t8 (by simpa using g), fun g => by rw [eval_put_ne _ _ _ _ (by decide)]; exact S.t9 (by simpa using g), fun g => (S.t10 (by simpa using g)).imp fun b hb => ⟨by rw [eval_put_ne _ _ _ _ (by decide)]; exact hb.1, hb.2⟩, fun g => by rw [eval_put_ne _ _ _ _ (by decide)]; exact S.t11 (by simpa using g), fun g => by rw [eval_put_ne _ _ _ _ (by decide)]; exact S.t12 (by simpa using g), fun g => by rw [eval_put_ne _ _ _ _ (by decide)]; exact S.t13 (by simpa using g), fun _ => (eval_put _ _ _ (by omega)).trans rfl⟩
  · intro s a w' S hall
    have a0 := hall 0 (by omega)
    have a1 := hall 1 (by omega)
    have a2 := hall 2 (by omega)
    have a3 := hall 3 (by omega)
    have a4 := hall 4 (by omega)
    have a5 := hall 5 (by omega)
    have a6 := hall 6 (by omega)
    have a7 := hall 7 (by omega)
    have a8 := hall 8 (by omega)
    have a9 := hall 9 (by omega)
    have a10 := hall 10 (by omega)
    have a11 := hall 11 (by omega)
    have a12 := hall 12 (by omega)
    have a13 := hall 13 (by omega)
    have a14 := hall 14 (by omega)
    have e := off_norm _ (by intro d hd; simp at hd; omega) S.off
    obtain ⟨B3, M3, _⟩ := S.t3 a3
    obtain ⟨B10, M10, _⟩ := S.t10 a10
    simp only [List.foldl, S.t0 a0, S.t1 a1, S.t2 a2, M3, S.t4 a4, S.t5 a5, S.t6 a6, S.t7 a7, S.t8 a8, S.t9 a9, M10, S.t11 a11, S.t12 a12, S.t13 a13, S.t14 a14] at e
    rw [e]
    exact h _ _ _ S.before
end Go.Proofs.YtinjppijcmhhbaaDoor
