/- The drawn regions of viterbi's search over this program. -/
import Derived.Test.YtgfihljledmaaaaVpKit
namespace Go.Proofs.Ytgfihljledmaaaa
open Go.RowKit
set_option linter.unusedVariables false

theorem run_sliceA2 (w : World) (D o q : Nat) (hq : q ≤ 2) : (Instr.sliceAt 63 (.pointer (some ⟨D, o, none⟩)) none (some (.int .i64 (q : Nat))) none).run Try.prog w = .ok (.slice (some ⟨D, o, none⟩) q 2) w := by
  have h0 : (0 : Int) ≤ (q : Int) ∧ (q : Int) ≤ 2 := by omega
  unfold Instr.sliceAt
  simp only [Sem.run_bind, run_underlying Try.underlying63, Result.andThen_ok, Instr.sureAddr, Sem.run_pure, Instr.sliceBounds, Instr.sliceBound]
  have hz : (sizeOf 62).run Try.prog w = .ok 3 w := by kernel_rfl
  have ha : (asIntOf (Value.int .i64 (q : Int))).run Try.prog w = .ok (.i64, (q : Int)) w := rfl
  have h1 : (0 : Int) ≤ (q : Int) ∧ (q : Int) ≤ ((2 : Nat) : Int) := by omega
  have h2 : (⟨D, o, none⟩ : Addr).add 0 = ⟨D, o, none⟩ := by unfold Addr.add; split <;> simp_all
  simp only [ha, Result.andThen_ok, if_pos h1, Sem.run_pure, hz, Int.toNat_natCast, Nat.zero_mul, h2, Nat.sub_zero]
  rfl
structure SeRegion (j q i jj D H G sb so n cap : Nat) (rv : Array Value) (A : Act) (w0 : World) (s : Nat → Bool) (a : Act) (w : World) : Prop where
  off : Off [32, 33, 34, 35, 36, 37, 38, 39, 40, 41, 42] a A
  before : Below w0.heap.size w0 w
  t0 : s 0 = true → a.eval (.tmp 32) = .int .i64 (j : Nat)
  t1 : s 1 = true → a.eval (.tmp 33) = .int .i64 (j : Nat)
  t2 : s 2 = true → a.eval (.tmp 34) = .pointer (some ⟨D, j * 6, none⟩)
  t3 : s 3 = true → a.eval (.tmp 35) = .int .i64 (q : Nat)
  t4 : s 4 = true → a.eval (.tmp 36) = .slice (some ⟨D, j * 6, none⟩) q 2
  t5 : s 5 = true → a.eval (.tmp 37) = .slice (some ⟨sb, so, none⟩) n cap
  t6 : s 6 = true → a.eval (.tmp 38) = .int .i64 (i : Nat)
  t7 : s 7 = true → a.eval (.tmp 39) = .int .i64 (jj : Nat)
  t8 : s 8 = true → a.eval (.tmp 40) = .slice (some ⟨sb, so + jj, none⟩) (n - jj) (cap - jj)
  t9 : s 9 = true → a.eval (.tmp 41) = .agg rv
  t10 : s 10 = true → a.eval (.tmp 42) = .pointer (some ⟨G, j * 2, none⟩)
set_option maxHeartbeats 2000000 in
set_option maxRecDepth 100000 in
theorem seRegion {id : Nat} {l : List Oper} {A : Act} {w : World} {Q : Exit → Act → World → Prop} (j q i jj D H G sb so n cap : Nat) (rv : Array Value)
    (hj : j < 64) (hq : q ≤ 2) (hi : i ≤ 100000) (hjj : jj = 2 * i) (hn : jj + 2 ≤ n) (hcap : n ≤ cap)
    (hcon : ∀ w', Below w.heap.size w w' → Calls Try.prog 35 #[.slice (some ⟨D, j * 6, none⟩) q 2, .slice (some ⟨sb, so + jj, none⟩) (n - jj) (cap - jj), .pointer (some ⟨H, 0, none⟩)] w' fun e w'' => e = .returned (.agg rv) ∧ Below w'.heap.size w' w'')
    (hB : tableH l.toArray 11 (fun i => match i with | 0 => [] | 1 => [] | 2 => [1] | 3 => [] | 4 => [2, 3] | 5 => [] | 6 => [] | 7 => [6] | 8 => [5, 7] | 9 => [4, 8] | 10 => [0] | _ => []) (fun _ => []) = true)
    (h0 : pick l 0 = some (.move (.tmp 10), some 32))
    (h1 : pick l 1 = some (.move (.tmp 10), some 33))
    (h2 : pick l 2 = some (.indexAddr 65 (.tmp 4) (.tmp 33), some 34))
    (h3 : pick l 3 = some (.move (.tmp 9), some 35))
    (h4 : pick l 4 = some (.slice 63 (.tmp 34) none (some (.tmp 35)) none, some 36))
    (h5 : pick l 5 = some (.move (.tmp 0), some 37))
    (h6 : pick l 6 = some (.move (.tmp 8), some 38))
    (h7 : pick l 7 = some (.binOp .mul 3 (.const (.int .i64 2)) (.tmp 38) 3, some 39))
    (h8 : pick l 8 = some (.slice 22 (.tmp 37) (some (.tmp 39)) none none, some 40))
    (h9 : pick l 9 = some (.call { callee := .value (.func 35), args := #[.tmp 36, .tmp 40, .tmp 5], argTypes := #[71, 22, 72] }, some 41))
    (h10 : pick l 10 = some (.indexAddr 69 (.tmp 6) (.tmp 32), some 42))
    (hs : A.tmps.size = 59)
    (x0 : A.eval (.tmp 0) = .slice (some ⟨sb, so, none⟩) n cap)
    (x4 : A.eval (.tmp 4) = .pointer (some ⟨D, 0, none⟩))
    (x5 : A.eval (.tmp 5) = .pointer (some ⟨H, 0, none⟩))
    (x6 : A.eval (.tmp 6) = .pointer (some ⟨G, 0, none⟩))
    (x8 : A.eval (.tmp 8) = .int .i64 (i : Nat))
    (x9 : A.eval (.tmp 9) = .int .i64 (q : Nat))
    (x10 : A.eval (.tmp 10) = .int .i64 (j : Nat))
    (h : ∀ w1, Below w.heap.size w w1 → wpList Try.prog l.toArray Q (l.drop 11) (((((((((((A.put (some 32) (.int .i64 (j : Nat))).put (some 33) (.int .i64 (j : Nat))).put (some 34) (.pointer (some ⟨D, j * 6, none⟩))).put (some 35) (.int .i64 (q : Nat))).put (some 36) (.slice (some ⟨D, j * 6, none⟩) q 2)).put (some 37) (.slice (some ⟨sb, so, none⟩) n cap)).put (some 38) (.int .i64 (i : Nat))).put (some 39) (.int .i64 (jj : Nat))).put (some 40) (.slice (some ⟨sb, so + jj, none⟩) (n - jj) (cap - jj))).put (some 41) (.agg rv)).put (some 42) (.pointer (some ⟨G, j * 2, none⟩))) w1) :
    (Code.region id l.toArray true).wp Try.prog Q A w := by
  refine wp_region_head (by kernel_rfl) _ _ _ hB (SeRegion j q i jj D H G sb so n cap rv A w) ⟨Off.refl _ _, (Below.refl _ _).drew, by simp, by simp, by simp, by simp, by simp, by simp, by simp, by simp, by simp, by simp, by simp⟩ ?_ ?_
  · intro s a w' S i' o il ho hsi hT K hK
    have sz : a.tmps.size = 59 := by rw [S.off.2.1]; exact hs
    have y0 : a.eval (.tmp 0) = .slice (some ⟨sb, so, none⟩) n cap := by rw [S.off.eval (by decide)]; exact x0
    have y4 : a.eval (.tmp 4) = .pointer (some ⟨D, 0, none⟩) := by rw [S.off.eval (by decide)]; exact x4
    have y5 : a.eval (.tmp 5) = .pointer (some ⟨H, 0, none⟩) := by rw [S.off.eval (by decide)]; exact x5
    have y6 : a.eval (.tmp 6) = .pointer (some ⟨G, 0, none⟩) := by rw [S.off.eval (by decide)]; exact x6
    have y8 : a.eval (.tmp 8) = .int .i64 (i : Nat) := by rw [S.off.eval (by decide)]; exact x8
    have y9 : a.eval (.tmp 9) = .int .i64 (q : Nat) := by rw [S.off.eval (by decide)]; exact x9
    have y10 : a.eval (.tmp 10) = .int .i64 (j : Nat) := by rw [S.off.eval (by decide)]; exact x10
    match i', il, ho, hsi, hT with
    | 0, _, ho, hsi, hT =>
      obtain ⟨e1, e2⟩ := pick_of h0 ho
      have BW := S.before
      refine step_val (v := .int .i64 (j : Nat)) (by simp only [execOp, e1, y10]; go_simp) (hK _ _ ?_)
      rw [e2]
      exact ⟨S.off.put (by decide) _, S.before, fun _ => (eval_put _ _ _ (by omega)).trans rfl, fun g => by rw [eval_put_ne _ _ _ _ (by decide)]; exact S.t1 (by simpa using g), fun g => by rw [eval_put_ne _ _ _ _ (by decide)]; exact S.t2 (by simpa using g), fun g => by rw [eval_put_ne _ _ _ _ (by decide)]; exact S.t3 (by simpa using g), fun g => by rw [eval_put_ne _ _ _ _ (by decide)]; exact S.t4 (by simpa using g), fun g => by rw [eval_put_ne _ _ _ _ (by decide)]; exact S.t5 (by simpa using g), fun g => by rw [eval_put_ne _ _ _ _ (by decide)]; exact S.t6 (by simpa using g), fun g => by rw [eval_put_ne _ _ _ _ (by decide)]; exact S.t7 (by simpa using g), fun g => by rw [eval_put_ne _ _ _ _ (by decide)]; exact S.t8 (by simpa using g), fun g => by rw [eval_put_ne _ _ _ _ (by decide)]; exact S.t9 (by simpa using g), fun g => by rw [eval_put_ne _ _ _ _ (by decide)]; exact S.t10 (by simpa using g)⟩
    | 1, _, ho, hsi, hT =>
      obtain ⟨e1, e2⟩ := pick_of h1 ho
      have BW := S.before
      refine step_val (v := .int .i64 (j : Nat)) (by simp only [execOp, e1, y10]; go_simp) (hK _ _ ?_)
      rw [e2]
      exact ⟨S.off.put (by decide) _, S.before, fun g => by rw [eval_put_ne _ _ _ _ (by decide)]; exact S.t0 (by simpa using g), fun _ => (eval_put _ _ _ (by omega)).trans rfl, fun g => by rw [eval_put_ne _ _ _ _ (by decide)]; exact S.t2 (by simpa using g), fun g => by rw [eval_put_ne _ _ _ _ (by decide)]; exact S.t3 (by simpa using g), fun g => by rw [eval_put_ne _ _ _ _ (by decide)]; exact S.t4 (by simpa using g), fun g => by rw [eval_put_ne _ _ _ _ (by decide)]; exact S.t5 (by simpa using g), fun g => by rw [eval_put_ne _ _ _ _ (by decide)]; exact S.t6 (by simpa using g), fun g => by rw [eval_put_ne _ _ _ _ (by decide)]; exact S.t7 (by simpa using g), fun g => by rw [eval_put_ne _ _ _ _ (by decide)]; exact S.t8 (by simpa using g), fun g => by rw [eval_put_ne _ _ _ _ (by decide)]; exact S.t9 (by simpa using g), fun g => by rw [eval_put_ne _ _ _ _ (by decide)]; exact S.t10 (by simpa using g)⟩
    | 2, _, ho, hsi, hT =>
      obtain ⟨e1, e2⟩ := pick_of h2 ho
      have D1 : s 1 = true := list_pos hT (d := 1) (by decide)
      have BW := S.before
      refine step_val (v := .pointer (some ⟨D, j * 6, none⟩)) (by simp only [execOp, e1, y4, S.t1 D1]; go_simp; intro h; omega) (hK _ _ ?_)
      rw [e2]
      exact ⟨S.off.put (by decide) _, S.before, fun g => by rw [eval_put_ne _ _ _ _ (by decide)]; exact S.t0 (by simpa using g), fun g => by rw [eval_put_ne _ _ _ _ (by decide)]; exact S.t1 (by simpa using g), fun _ => (eval_put _ _ _ (by omega)).trans rfl, fun g => by rw [eval_put_ne _ _ _ _ (by decide)]; exact S.t3 (by simpa using g), fun g => by rw [eval_put_ne _ _ _ _ (by decide)]; exact S.t4 (by simpa using g), fun g => by rw [eval_put_ne _ _ _ _ (by decide)]; exact S.t5 (by simpa using g), fun g => by rw [eval_put_ne _ _ _ _ (by decide)]; exact S.t6 (by simpa using g), fun g => by rw [eval_put_ne _ _ _ _ (by decide)]; exact S.t7 (by simpa using g), fun g => by rw [eval_put_ne _ _ _ _ (by decide)]; exact S.t8 (by simpa using g), fun g => by rw [eval_put_ne _ _ _ _ (by decide)]; exact S.t9 (by simpa using g), fun g => by rw [eval_put_ne _ _ _ _ (by decide)]; exact S.t10 (by simpa using g)⟩
    | 3, _, ho, hsi, hT =>
      obtain ⟨e1, e2⟩ := pick_of h3 ho
      have BW := S.before
      refine step_val (v := .int .i64 (q : Nat)) (by simp only [execOp, e1, y9]; go_simp) (hK _ _ ?_)
      rw [e2]
      exact ⟨S.off.put (by decide) _, S.before, fun g => by rw [eval_put_ne _ _ _ _ (by decide)]; exact S.t0 (by simpa using g), fun g => by rw [eval_put_ne _ _ _ _ (by decide)]; exact S.t1 (by simpa using g), fun g => by rw [eval_put_ne _ _ _ _ (by decide)]; exact S.t2 (by simpa using g), fun _ => (eval_put _ _ _ (by omega)).trans rfl, fun g => by rw [eval_put_ne _ _ _ _ (by decide)]; exact S.t4 (by simpa using g), fun g => by rw [eval_put_ne _ _ _ _ (by decide)]; exact S.t5 (by simpa using g), fun g => by rw [eval_put_ne _ _ _ _ (by decide)]; exact S.t6 (by simpa using g), fun g => by rw [eval_put_ne _ _ _ _ (by decide)]; exact S.t7 (by simpa using g), fun g => by rw [eval_put_ne _ _ _ _ (by decide)]; exact S.t8 (by simpa using g), fun g => by rw [eval_put_ne _ _ _ _ (by decide)]; exact S.t9 (by simpa using g), fun g => by rw [eval_put_ne _ _ _ _ (by decide)]; exact S.t10 (by simpa using g)⟩
    | 4, _, ho, hsi, hT =>
      obtain ⟨e1, e2⟩ := pick_of h4 ho
      have D2 : s 2 = true := list_pos hT (d := 2) (by decide)
      have D3 : s 3 = true := list_pos hT (d := 3) (by decide)
      have BW := S.before
      have q35 : a.tmps[35]'(by omega) = .int .i64 (q : Nat) := by have := S.t3 D3; simpa [Act.eval, sz] using this
      refine step_val (v := .slice (some ⟨D, j * 6, none⟩) q 2) (by simp only [execOp, e1, S.t2 D2]; go_simp; simp [run_sliceA2 _ D (j * 6) q hq, Result.andThen]) (hK _ _ ?_)
      rw [e2]
      exact ⟨S.off.put (by decide) _, S.before, fun g => by rw [eval_put_ne _ _ _ _ (by decide)]; exact S.t0 (by simpa using g), fun g => by rw [eval_put_ne _ _ _ _ (by decide)]; exact S.t1 (by simpa using g), fun g => by rw [eval_put_ne _ _ _ _ (by decide)]; exact S.t2 (by simpa using g), fun g => by rw [eval_put_ne _ _ _ _ (by decide)]; exact S.t3 (by simpa using g), fun _ => (eval_put _ _ _ (by omega)).trans rfl, fun g => by rw [eval_put_ne _ _ _ _ (by decide)]; exact S.t5 (by simpa using g), fun g => by rw [eval_put_ne _ _ _ _ (by decide)]; exact S.t6 (by simpa using g), fun g => by rw [eval_put_ne _ _ _ _ (by decide)]; exact S.t7 (by simpa using g), fun g => by rw [eval_put_ne _ _ _ _ (by decide)]; exact S.t8 (by simpa using g), fun g => by rw [eval_put_ne _ _ _ _ (by decide)]; exact S.t9 (by simpa using g), fun g => by rw [eval_put_ne _ _ _ _ (by decide)]; exact S.t10 (by simpa using g)⟩
    | 5, _, ho, hsi, hT =>
      obtain ⟨e1, e2⟩ := pick_of h5 ho
      have BW := S.before
      refine step_val (v := .slice (some ⟨sb, so, none⟩) n cap) (by simp only [execOp, e1, y0]; go_simp) (hK _ _ ?_)
      rw [e2]
      exact ⟨S.off.put (by decide) _, S.before, fun g => by rw [eval_put_ne _ _ _ _ (by decide)]; exact S.t0 (by simpa using g), fun g => by rw [eval_put_ne _ _ _ _ (by decide)]; exact S.t1 (by simpa using g), fun g => by rw [eval_put_ne _ _ _ _ (by decide)]; exact S.t2 (by simpa using g), fun g => by rw [eval_put_ne _ _ _ _ (by decide)]; exact S.t3 (by simpa using g), fun g => by rw [eval_put_ne _ _ _ _ (by decide)]; exact S.t4 (by simpa using g), fun _ => (eval_put _ _ _ (by omega)).trans rfl, fun g => by rw [eval_put_ne _ _ _ _ (by decide)]; exact S.t6 (by simpa using g), fun g => by rw [eval_put_ne _ _ _ _ (by decide)]; exact S.t7 (by simpa using g), fun g => by rw [eval_put_ne _ _ _ _ (by decide)]; exact S.t8 (by simpa using g), fun g => by rw [eval_put_ne _ _ _ _ (by decide)]; exact S.t9 (by simpa using g), fun g => by rw [eval_put_ne _ _ _ _ (by decide)]; exact S.t10 (by simpa using g)⟩
    | 6, _, ho, hsi, hT =>
      obtain ⟨e1, e2⟩ := pick_of h6 ho
      have BW := S.before
      refine step_val (v := .int .i64 (i : Nat)) (by simp only [execOp, e1, y8]; go_simp) (hK _ _ ?_)
      rw [e2]
      exact ⟨S.off.put (by decide) _, S.before, fun g => by rw [eval_put_ne _ _ _ _ (by decide)]; exact S.t0 (by simpa using g), fun g => by rw [eval_put_ne _ _ _ _ (by decide)]; exact S.t1 (by simpa using g), fun g => by rw [eval_put_ne _ _ _ _ (by decide)]; exact S.t2 (by simpa using g), fun g => by rw [eval_put_ne _ _ _ _ (by decide)]; exact S.t3 (by simpa using g), fun g => by rw [eval_put_ne _ _ _ _ (by decide)]; exact S.t4 (by simpa using g), fun g => by rw [eval_put_ne _ _ _ _ (by decide)]; exact S.t5 (by simpa using g), fun _ => (eval_put _ _ _ (by omega)).trans rfl, fun g => by rw [eval_put_ne _ _ _ _ (by decide)]; exact S.t7 (by simpa using g), fun g => by rw [eval_put_ne _ _ _ _ (by decide)]; exact S.t8 (by simpa using g), fun g => by rw [eval_put_ne _ _ _ _ (by decide)]; exact S.t9 (by simpa using g), fun g => by rw [eval_put_ne _ _ _ _ (by decide)]; exact S.t10 (by simpa using g)⟩
    | 7, _, ho, hsi, hT =>
      obtain ⟨e1, e2⟩ := pick_of h7 ho
      have D6 : s 6 = true := list_pos hT (d := 6) (by decide)
      have BW := S.before
      refine step_val (v := .int .i64 (jj : Nat)) (by simp only [execOp, e1, S.t6 D6]; go_simp; rw [IntKind.wrap_i64]; omega) (hK _ _ ?_)
      rw [e2]
      exact ⟨S.off.put (by decide) _, S.before, fun g => by rw [eval_put_ne _ _ _ _ (by decide)]; exact S.t0 (by simpa using g), fun g => by rw [eval_put_ne _ _ _ _ (by decide)]; exact S.t1 (by simpa using g), fun g => by rw [eval_put_ne _ _ _ _ (by decide)]; exact S.t2 (by simpa using g), fun g => by rw [eval_put_ne _ _ _ _ (by decide)]; exact S.t3 (by simpa using g), fun g => by rw [eval_put_ne _ _ _ _ (by decide)]; exact S.t4 (by simpa using g), fun g => by rw [eval_put_ne _ _ _ _ (by decide)]; exact S.t5 (by simpa using g), fun g => by rw [eval_put_ne _ _ _ _ (by decide)]; exact S.t6 (by simpa using g), fun _ => (eval_put _ _ _ (by omega)).trans rfl, fun g => by rw [eval_put_ne _ _ _ _ (by decide)]; exact S.t8 (by simpa using g), fun g => by rw [eval_put_ne _ _ _ _ (by decide)]; exact S.t9 (by simpa using g), fun g => by rw [eval_put_ne _ _ _ _ (by decide)]; exact S.t10 (by simpa using g)⟩
    | 8, _, ho, hsi, hT =>
      obtain ⟨e1, e2⟩ := pick_of h8 ho
      have D5 : s 5 = true := list_pos hT (d := 5) (by decide)
      have D7 : s 7 = true := list_pos hT (d := 7) (by decide)
      have BW := S.before
      have q39 : a.tmps[39]'(by omega) = .int .i64 (jj : Nat) := by have := S.t7 D7; simpa [Act.eval, sz] using this
      refine step_val (v := .slice (some ⟨sb, so + jj, none⟩) (n - jj) (cap - jj)) (by simp only [execOp, e1, S.t5 D5]; go_simp; rw [if_pos (by omega), if_neg (by omega), show (2 * (i : Int)).toNat = 2 * i by omega]) (hK _ _ ?_)
      rw [e2]
      exact ⟨S.off.put (by decide) _, S.before, fun g => by rw [eval_put_ne _ _ _ _ (by decide)]; exact S.t0 (by simpa using g), fun g => by rw [eval_put_ne _ _ _ _ (by decide)]; exact S.t1 (by simpa using g), fun g => by rw [eval_put_ne _ _ _ _ (by decide)]; exact S.t2 (by simpa using g), fun g => by rw [eval_put_ne _ _ _ _ (by decide)]; exact S.t3 (by simpa using g), fun g => by rw [eval_put_ne _ _ _ _ (by decide)]; exact S.t4 (by simpa using g), fun g => by rw [eval_put_ne _ _ _ _ (by decide)]; exact S.t5 (by simpa using g), fun g => by rw [eval_put_ne _ _ _ _ (by decide)]; exact S.t6 (by simpa using g), fun g => by rw [eval_put_ne _ _ _ _ (by decide)]; exact S.t7 (by simpa using g), fun _ => (eval_put _ _ _ (by omega)).trans rfl, fun g => by rw [eval_put_ne _ _ _ _ (by decide)]; exact S.t9 (by simpa using g), fun g => by rw [eval_put_ne _ _ _ _ (by decide)]; exact S.t10 (by simpa using g)⟩
    | 9, _, ho, hsi, hT =>
      obtain ⟨e1, e2⟩ := pick_of h9 ho
      have D4 : s 4 = true := list_pos hT (d := 4) (by decide)
      have D8 : s 8 = true := list_pos hT (d := 8) (by decide)
      have BW := S.before
      refine step_call 35 (fun args w => by go_simp) _ _ e1 #[.slice (some ⟨D, j * 6, none⟩) q 2, .slice (some ⟨sb, so + jj, none⟩) (n - jj) (cap - jj), .pointer (some ⟨H, 0, none⟩)] (by simp only [List.map_toArray, List.map_cons, List.map_nil, y5, S.t4 D4, S.t8 D8]) ((hcon _ BW).mono ?_)
      rintro e w2 ⟨rfl, BB⟩
      refine ⟨_, rfl, hK _ _ ?_⟩
      rw [e2]
      exact ⟨S.off.put (by decide) _, bt BW BB, fun g => by rw [eval_put_ne _ _ _ _ (by decide)]; exact S.t0 (by simpa using g), fun g => by rw [eval_put_ne _ _ _ _ (by decide)]; exact S.t1 (by simpa using g), fun g => by rw [eval_put_ne _ _ _ _ (by decide)]; exact S.t2 (by simpa using g), fun g => by rw [eval_put_ne _ _ _ _ (by decide)]; exact S.t3 (by simpa using g), fun g => by rw [eval_put_ne _ _ _ _ (by decide)]; exact S.t4 (by simpa using g), fun g => by rw [eval_put_ne _ _ _ _ (by decide)]; exact S.t5 (by simpa using g), fun g => by rw [eval_put_ne _ _ _ _ (by decide)]; exact S.t6 (by simpa using g), fun g => by rw [eval_put_ne _ _ _ _ (by decide)]; exact S.t7 (by simpa using g), fun g => by rw [eval_put_ne _ _ _ _ (by decide)]; exact S.t8 (by simpa using g), fun _ => (eval_put _ _ _ (by omega)).trans rfl, fun g => by rw [eval_put_ne _ _ _ _ (by decide)]; exact S.t10 (by simpa using g)⟩
    | 10, _, ho, hsi, hT =>
      obtain ⟨e1, e2⟩ := pick_of h10 ho
      have D0 : s 0 = true := list_pos hT (d := 0) (by decide)
      have BW := S.before
      refine step_val (v := .pointer (some ⟨G, j * 2, none⟩)) (by simp only [execOp, e1, y6, S.t0 D0]; go_simp; intro h; omega) (hK _ _ ?_)
      rw [e2]
      exact ⟨S.off.put (by decide) _, S.before, fun g => by rw [eval_put_ne _ _ _ _ (by decide)]; exact S.t0 (by simpa using g), fun g => by rw [eval_put_ne _ _ _ _ (by decide)]; exact S.t1 (by simpa using g), fun g => by rw [eval_put_ne _ _ _ _ (by decide)]; exact S.t2 (by simpa using g), fun g => by rw [eval_put_ne _ _ _ _ (by decide)]; exact S.t3 (by simpa using g), fun g => by rw [eval_put_ne _ _ _ _ (by decide)]; exact S.t4 (by simpa using g), fun g => by rw [eval_put_ne _ _ _ _ (by decide)]; exact S.t5 (by simpa using g), fun g => by rw [eval_put_ne _ _ _ _ (by decide)]; exact S.t6 (by simpa using g), fun g => by rw [eval_put_ne _ _ _ _ (by decide)]; exact S.t7 (by simpa using g), fun g => by rw [eval_put_ne _ _ _ _ (by decide)]; exact S.t8 (by simpa using g), fun g => by rw [eval_put_ne _ _ _ _ (by decide)]; exact S.t9 (by simpa using g), fun _ => (eval_put _ _ _ (by omega)).trans rfl⟩
    | _ + 11, il, _, _, _ => exact absurd il (by omega)
  · intro s a w' S hall
    have a0 := hall 0 (by omega)
    have a1 := hall 1 (by omega)
    have a2 := hall 2 (by omega)
    have a3 := hall 3 (by omega)
    have a4 := hall 4 (by omega)
    have a5 := hall 5 (by omega)
    have a6 := hall 6 (by omega)
    have a7 := hall 7 (by omega)
    have a8 := hall 8 (by omega)
    have a9 := hall 9 (by omega)
    have a10 := hall 10 (by omega)
    have e := off_norm _ (by intro d hd; simp at hd; omega) S.off
    simp only [List.foldl, S.t0 a0, S.t1 a1, S.t2 a2, S.t3 a3, S.t4 a4, S.t5 a5, S.t6 a6, S.t7 a7, S.t8 a8, S.t9 a9, S.t10 a10] at e
    rw [e]
    exact h _ S.before
structure CyRegion (H G : Nat) (A : Act) (w0 : World) (s : Nat → Bool) (a : Act) (w : World) : Prop where
  off : Off [44, 45] a A
  before : Below w0.heap.size w0 w
  t0 : s 0 = true → a.eval (.tmp 44) = .slice (some ⟨H, 0, none⟩) 64 64
  t1 : s 1 = true → a.eval (.tmp 45) = .slice (some ⟨G, 0, none⟩) 64 64
set_option maxHeartbeats 2000000 in
set_option maxRecDepth 100000 in
theorem cyRegion {id : Nat} {l : List Oper} {A : Act} {w : World} {Q : Exit → Act → World → Prop} (H G : Nat)
    (hB : tableH l.toArray 2 (fun i => match i with | 0 => [] | 1 => [] | _ => []) (fun _ => []) = true)
    (h0 : pick l 0 = some (.slice 69 (.tmp 5) none none none, some 44))
    (h1 : pick l 1 = some (.slice 69 (.tmp 6) none none none, some 45))
    (hs : A.tmps.size = 59)
    (x5 : A.eval (.tmp 5) = .pointer (some ⟨H, 0, none⟩))
    (x6 : A.eval (.tmp 6) = .pointer (some ⟨G, 0, none⟩))
    (h : ∀ w1, Below w.heap.size w w1 → wpList Try.prog l.toArray Q (l.drop 2) ((A.put (some 44) (.slice (some ⟨H, 0, none⟩) 64 64)).put (some 45) (.slice (some ⟨G, 0, none⟩) 64 64)) w1) :
    (Code.region id l.toArray true).wp Try.prog Q A w := by
  refine wp_region_head (by kernel_rfl) _ _ _ hB (CyRegion H G A w) ⟨Off.refl _ _, (Below.refl _ _).drew, by simp, by simp⟩ ?_ ?_
  · intro s a w' S i' o il ho hsi hT K hK
    have sz : a.tmps.size = 59 := by rw [S.off.2.1]; exact hs
    have y5 : a.eval (.tmp 5) = .pointer (some ⟨H, 0, none⟩) := by rw [S.off.eval (by decide)]; exact x5
    have y6 : a.eval (.tmp 6) = .pointer (some ⟨G, 0, none⟩) := by rw [S.off.eval (by decide)]; exact x6
    match i', il, ho, hsi, hT with
    | 0, _, ho, hsi, hT =>
      obtain ⟨e1, e2⟩ := pick_of h0 ho
      have BW := S.before
      refine step_val (v := .slice (some ⟨H, 0, none⟩) 64 64) (by simp only [execOp, e1, y5]; go_simp) (hK _ _ ?_)
      rw [e2]
      exact ⟨S.off.put (by decide) _, S.before, fun _ => (eval_put _ _ _ (by omega)).trans rfl, fun g => by rw [eval_put_ne _ _ _ _ (by decide)]; exact S.t1 (by simpa using g)⟩
    | 1, _, ho, hsi, hT =>
      obtain ⟨e1, e2⟩ := pick_of h1 ho
      have BW := S.before
      refine step_val (v := .slice (some ⟨G, 0, none⟩) 64 64) (by simp only [execOp, e1, y6]; go_simp) (hK _ _ ?_)
      rw [e2]
      exact ⟨S.off.put (by decide) _, S.before, fun g => by rw [eval_put_ne _ _ _ _ (by decide)]; exact S.t0 (by simpa using g), fun _ => (eval_put _ _ _ (by omega)).trans rfl⟩
    | _ + 2, il, _, _, _ => exact absurd il (by omega)
  · intro s a w' S hall
    have a0 := hall 0 (by omega)
    have a1 := hall 1 (by omega)
    have e := off_norm _ (by intro d hd; simp at hd; omega) S.off
    simp only [List.foldl, S.t0 a0, S.t1 a1] at e
    rw [e]
    exact h _ S.before
end Go.Proofs.Ytgfihljledmaaaa
