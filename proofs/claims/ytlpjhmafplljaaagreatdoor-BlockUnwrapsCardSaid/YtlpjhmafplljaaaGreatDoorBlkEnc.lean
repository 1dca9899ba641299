/- The contracts of block's zeros, reversed, power, generator, parity, Encode over this program. -/
import Derived.Test.YtlpjhmafplljaaaGreatDoorBlkRepeat
import Derived.Test.YtlpjhmafplljaaaGreatDoorPkA
import Derived.Test.YtlpjhmafplljaaaGreatDoorBlkRef
import Derived.Test.YtlpjhmafplljaaaGreatDoorRegH
namespace Go.Proofs.YtlpjhmafplljaaaGreatDoor
open Go.RowKit
set_option linter.unusedVariables false

theorem rep_zero : ∀ c, Lib.repeatL [0] c = List.replicate c (0 : UInt8)
  | 0 => rfl
  | c + 1 => by
    show [0] ++ Lib.repeatL [0] c = _
    rw [rep_zero c]
    rfl
set_option maxRecDepth 100000 in
theorem zeros_any (n : Nat) (hn : n ≤ 8) (w : World) :
    Calls Tryz.prog 39 #[.int .i64 (n : Nat)] w fun e w' => e = .returned (.string ⟨(List.replicate n 0).toArray⟩) ∧ Below w.heap.size w w' := by
  have R := Lib.hid (Tryz.strings_Repeat ⟨#[0]⟩ n w (by omega) (by show 1 * n ≤ _; omega))
  rw [show (⟨#[0]⟩ : ByteArray).data.toList = [0] from rfl, rep_zero] at R
  go_enter Tryz.func39, Tryz.ntmps39
  go_wp2_with fail
  (with_reducible refine R.out.mono ?_)
  rintro e w' ⟨rfl, hB⟩
  have HB := Lib.hid hB
  clear hB R
  go_wp2_with fail
  go_ret
  exact ⟨rfl, HB.out⟩
/-- A list that is turned from both ends, k steps. -/
def rvk (f : Nat → BitVec 8) (n k p : Nat) : BitVec 8 := if p < k ∨ n - 1 - p < k then f (n - 1 - p) else f p
theorem rvk_zero (f : Nat → BitVec 8) (n p : Nat) : rvk f n 0 p = f p := if_neg (by omega)
theorem rvk_all (f : Nat → BitVec 8) {n k p : Nat} (hp : p < n) (hk : n ≤ 2 * k + 1) : rvk f n k p = f (n - 1 - p) := by
  unfold rvk
  by_cases h : p < k ∨ n - 1 - p < k
  · rw [if_pos h]
  · rw [if_neg h, show n - 1 - p = p by omega]
theorem rvk_i (f : Nat → BitVec 8) {n k : Nat} (h : 2 * k + 1 < n) : rvk f n (k + 1) k = rvk f n k (n - 1 - k) ∧ rvk f n (k + 1) (n - 1 - k) = rvk f n k k := by
  unfold rvk
  rw [if_pos (by omega), if_neg (by omega), if_pos (by omega), if_neg (by omega), show n - 1 - (n - 1 - k) = k by omega]
  exact ⟨rfl, rfl⟩
theorem rvk_other (f : Nat → BitVec 8) {n k p : Nat} (hp : p < n) (h1 : p ≠ k) (h2 : p ≠ n - 1 - k) : rvk f n (k + 1) p = rvk f n k p := by
  unfold rvk
  by_cases h : p < k ∨ n - 1 - p < k
  · rw [if_pos (by omega), if_pos h]
  · rw [if_neg (by omega), if_neg h]
structure RevRegion (b n cap i j x y : Nat) (A : Act) (w0 : World) (s : Nat → Bool) (a : Act) (w : World) : Prop where
  off : Off [14, 15, 16, 17, 18, 19, 20, 21, 22, 23, 24, 25, 26, 27] a A
  before : s 13 = false → Below w0.heap.size w0 w
  mid : s 13 = true → s 15 = false → ∃ w1, Below w0.heap.size w0 w1 ∧ w = w1.setCell ⟨b, i, none⟩ (.int .u8 (y : Nat))
  behind : s 15 = true → ∃ w1, Below w0.heap.size w0 w1 ∧ w = (w1.setCell ⟨b, i, none⟩ (.int .u8 (y : Nat))).setCell ⟨b, j, none⟩ (.int .u8 (x : Nat))
  t0 : s 0 = true → a.eval (.tmp 14) = .slice (some ⟨b, 0, none⟩) n cap
  t1 : s 1 = true → a.eval (.tmp 15) = .int .i64 (i : Nat)
  t2 : s 2 = true → a.eval (.tmp 16) = .slice (some ⟨b, 0, none⟩) n cap
  t3 : s 3 = true → a.eval (.tmp 17) = .int .i64 (j : Nat)
  t4 : s 4 = true → a.eval (.tmp 18) = .slice (some ⟨b, 0, none⟩) n cap
  t5 : s 5 = true → a.eval (.tmp 19) = .int .i64 (j : Nat)
  t6 : s 6 = true → a.eval (.tmp 20) = .pointer (some ⟨b, j, none⟩)
  t7 : s 7 = true → a.eval (.tmp 21) = .int .u8 (y : Nat)
  t8 : s 8 = true → a.eval (.tmp 22) = .slice (some ⟨b, 0, none⟩) n cap
  t9 : s 9 = true → a.eval (.tmp 23) = .int .i64 (i : Nat)
  t10 : s 10 = true → a.eval (.tmp 24) = .pointer (some ⟨b, i, none⟩)
  t11 : s 11 = true → a.eval (.tmp 25) = .int .u8 (x : Nat)
  t12 : s 12 = true → a.eval (.tmp 26) = .pointer (some ⟨b, i, none⟩)
  t14 : s 14 = true → a.eval (.tmp 27) = .pointer (some ⟨b, j, none⟩)
set_option maxHeartbeats 2000000 in
set_option maxRecDepth 100000 in
theorem revRegion {id : Nat} {d : Bool} {l : List Oper} {A : Act} {w : World} {Q : Exit → Act → World → Prop} (b n cap i j x y : Nat)
    (hi : i < n) (hj : j < n) (hij : i ≠ j) (hn : n ≤ 400000) (hb : b < w.heap.size) (hx : w.cell? ⟨b, i, none⟩ = some (.int .u8 (x : Nat))) (hy : w.cell? ⟨b, j, none⟩ = some (.int .u8 (y : Nat))) (hfx : w.frozen? ⟨b, i, none⟩ = false) (hfy : w.frozen? ⟨b, j, none⟩ = false)
    (hB : tableL d l.toArray (fun i => match i with | 0 => [] | 1 => [] | 2 => [] | 3 => [] | 4 => [] | 5 => [] | 6 => [4, 5] | 7 => [6] | 8 => [] | 9 => [] | 10 => [8, 9] | 11 => [10] | 12 => [0, 1] | 13 => [0, 1, 4, 5, 6, 7, 8, 9, 10, 11, 12] | 14 => [2, 3] | 15 => [0, 1, 2, 3, 4, 5, 6, 7, 8, 9, 10, 11, 12, 13, 14] | _ => []) (fun i => match i with | 0 => [] | 1 => [] | 2 => [] | 3 => [] | 4 => [] | 5 => [] | 6 => [] | 7 => [13] | 8 => [] | 9 => [] | 10 => [] | 11 => [13] | 12 => [] | 13 => [15] | 14 => [] | 15 => [] | _ => []) = true) (hl : l.length = 16)
    (h0 : pick l 0 = some (.move (.tmp 0), some 14))
    (h1 : pick l 1 = some (.move (.tmp 2), some 15))
    (h2 : pick l 2 = some (.move (.tmp 0), some 16))
    (h3 : pick l 3 = some (.move (.tmp 3), some 17))
    (h4 : pick l 4 = some (.move (.tmp 0), some 18))
    (h5 : pick l 5 = some (.move (.tmp 3), some 19))
    (h6 : pick l 6 = some (.indexAddr 41 (.tmp 18) (.tmp 19), some 20))
    (h7 : pick l 7 = some (.load 5 (.tmp 20), some 21))
    (h8 : pick l 8 = some (.move (.tmp 0), some 22))
    (h9 : pick l 9 = some (.move (.tmp 2), some 23))
    (h10 : pick l 10 = some (.indexAddr 41 (.tmp 22) (.tmp 23), some 24))
    (h11 : pick l 11 = some (.load 5 (.tmp 24), some 25))
    (h12 : pick l 12 = some (.indexAddr 41 (.tmp 14) (.tmp 15), some 26))
    (h13 : pick l 13 = some (.store 5 (.tmp 26) (.tmp 21), none))
    (h14 : pick l 14 = some (.indexAddr 41 (.tmp 16) (.tmp 17), some 27))
    (h15 : pick l 15 = some (.store 5 (.tmp 27) (.tmp 25), none))
    (hs : A.tmps.size = 28)
    (x0 : A.eval (.tmp 0) = .slice (some ⟨b, 0, none⟩) n cap)
    (x2 : A.eval (.tmp 2) = .int .i64 (i : Nat))
    (x3 : A.eval (.tmp 3) = .int .i64 (j : Nat))
    (h : ∀ w1, Below w.heap.size w w1 → Q .normal ((((((((((((((A.put (some 14) (.slice (some ⟨b, 0, none⟩) n cap)).put (some 15) (.int .i64 (i : Nat))).put (some 16) (.slice (some ⟨b, 0, none⟩) n cap)).put (some 17) (.int .i64 (j : Nat))).put (some 18) (.slice (some ⟨b, 0, none⟩) n cap)).put (some 19) (.int .i64 (j : Nat))).put (some 20) (.pointer (some ⟨b, j, none⟩))).put (some 21) (.int .u8 (y : Nat))).put (some 22) (.slice (some ⟨b, 0, none⟩) n cap)).put (some 23) (.int .i64 (i : Nat))).put (some 24) (.pointer (some ⟨b, i, none⟩))).put (some 25) (.int .u8 (x : Nat))).put (some 26) (.pointer (some ⟨b, i, none⟩))).put (some 27) (.pointer (some ⟨b, j, none⟩))) ((w1.setCell ⟨b, i, none⟩ (.int .u8 (y : Nat))).setCell ⟨b, j, none⟩ (.int .u8 (x : Nat)))) :
    (Code.region id l.toArray d).wp Tryz.prog Q A w := by
  refine wp_region_invL (by kernel_rfl) _ _ hB (RevRegion b n cap i j x y A w) ⟨Off.refl _ _, fun _ => Below.refl _ _, by simp, by simp, by simp, by simp, by simp, by simp, by simp, by simp, by simp, by simp, by simp, by simp, by simp, by simp, by simp, by simp⟩ ⟨Off.refl _ _, fun _ => (Below.refl _ _).drew, by simp, by simp, by simp, by simp, by simp, by simp, by simp, by simp, by simp, by simp, by simp, by simp, by simp, by simp, by simp, by simp⟩ ?_ ?_
  · intro s a w' S i' o ho hsi hT K hK
    have sz : a.tmps.size = 28 := by rw [S.off.2.1]; exact hs
    have il : i' < 16 := by have := (List.getElem?_eq_some_iff.1 ho).1; omega
    have y0 : a.eval (.tmp 0) = .slice (some ⟨b, 0, none⟩) n cap := by rw [S.off.eval (by decide)]; exact x0
    have y2 : a.eval (.tmp 2) = .int .i64 (i : Nat) := by rw [S.off.eval (by decide)]; exact x2
    have y3 : a.eval (.tmp 3) = .int .i64 (j : Nat) := by rw [S.off.eval (by decide)]; exact x3
    match i', il, ho, hsi, hT with
    | 0, _, ho, hsi, hT =>
      obtain ⟨e1, e2⟩ := pick_of h0 ho
      refine step_val (v := .slice (some ⟨b, 0, none⟩) n cap) (by simp only [execOp, e1, y0]; go_simp) (hK _ _ ?_)
      rw [e2]
      exact ⟨S.off.put (by decide) _, fun g => S.before (by simpa using g), fun g h => S.mid (by simpa using g) (by simpa using h), fun g => S.behind (by simpa using g), fun _ => (eval_put _ _ _ (by omega)).trans rfl, kp S.t1, kp S.t2, kp S.t3, kp S.t4, kp S.t5, kp S.t6, kp S.t7, kp S.t8, kp S.t9, kp S.t10, kp S.t11, kp S.t12, kp S.t14⟩
    | 1, _, ho, hsi, hT =>
      obtain ⟨e1, e2⟩ := pick_of h1 ho
      refine step_val (v := .int .i64 (i : Nat)) (by simp only [execOp, e1, y2]; go_simp) (hK _ _ ?_)
      rw [e2]
      exact ⟨S.off.put (by decide) _, fun g => S.before (by simpa using g), fun g h => S.mid (by simpa using g) (by simpa using h), fun g => S.behind (by simpa using g), kp S.t0, fun _ => (eval_put _ _ _ (by omega)).trans rfl, kp S.t2, kp S.t3, kp S.t4, kp S.t5, kp S.t6, kp S.t7, kp S.t8, kp S.t9, kp S.t10, kp S.t11, kp S.t12, kp S.t14⟩
    | 2, _, ho, hsi, hT =>
      obtain ⟨e1, e2⟩ := pick_of h2 ho
      refine step_val (v := .slice (some ⟨b, 0, none⟩) n cap) (by simp only [execOp, e1, y0]; go_simp) (hK _ _ ?_)
      rw [e2]
      exact ⟨S.off.put (by decide) _, fun g => S.before (by simpa using g), fun g h => S.mid (by simpa using g) (by simpa using h), fun g => S.behind (by simpa using g), kp S.t0, kp S.t1, fun _ => (eval_put _ _ _ (by omega)).trans rfl, kp S.t3, kp S.t4, kp S.t5, kp S.t6, kp S.t7, kp S.t8, kp S.t9, kp S.t10, kp S.t11, kp S.t12, kp S.t14⟩
    | 3, _, ho, hsi, hT =>
      obtain ⟨e1, e2⟩ := pick_of h3 ho
      refine step_val (v := .int .i64 (j : Nat)) (by simp only [execOp, e1, y3]; go_simp) (hK _ _ ?_)
      rw [e2]
      exact ⟨S.off.put (by decide) _, fun g => S.before (by simpa using g), fun g h => S.mid (by simpa using g) (by simpa using h), fun g => S.behind (by simpa using g), kp S.t0, kp S.t1, kp S.t2, fun _ => (eval_put _ _ _ (by omega)).trans rfl, kp S.t4, kp S.t5, kp S.t6, kp S.t7, kp S.t8, kp S.t9, kp S.t10, kp S.t11, kp S.t12, kp S.t14⟩
    | 4, _, ho, hsi, hT =>
      obtain ⟨e1, e2⟩ := pick_of h4 ho
      refine step_val (v := .slice (some ⟨b, 0, none⟩) n cap) (by simp only [execOp, e1, y0]; go_simp) (hK _ _ ?_)
      rw [e2]
      exact ⟨S.off.put (by decide) _, fun g => S.before (by simpa using g), fun g h => S.mid (by simpa using g) (by simpa using h), fun g => S.behind (by simpa using g), kp S.t0, kp S.t1, kp S.t2, kp S.t3, fun _ => (eval_put _ _ _ (by omega)).trans rfl, kp S.t5, kp S.t6, kp S.t7, kp S.t8, kp S.t9, kp S.t10, kp S.t11, kp S.t12, kp S.t14⟩
    | 5, _, ho, hsi, hT =>
      obtain ⟨e1, e2⟩ := pick_of h5 ho
      refine step_val (v := .int .i64 (j : Nat)) (by simp only [execOp, e1, y3]; go_simp) (hK _ _ ?_)
      rw [e2]
      exact ⟨S.off.put (by decide) _, fun g => S.before (by simpa using g), fun g h => S.mid (by simpa using g) (by simpa using h), fun g => S.behind (by simpa using g), kp S.t0, kp S.t1, kp S.t2, kp S.t3, kp S.t4, fun _ => (eval_put _ _ _ (by omega)).trans rfl, kp S.t6, kp S.t7, kp S.t8, kp S.t9, kp S.t10, kp S.t11, kp S.t12, kp S.t14⟩
    | 6, _, ho, hsi, hT =>
      obtain ⟨e1, e2⟩ := pick_of h6 ho
      have D4 : s 4 = true := list_pos hT (d := 4) (by decide)
      have D5 : s 5 = true := list_pos hT (d := 5) (by decide)
      refine step_val (v := .pointer (some ⟨b, j, none⟩)) (by simp only [execOp, e1, S.t4 D4, S.t5 D5]; go_simp) (hK _ _ ?_)
      rw [e2]
      exact ⟨S.off.put (by decide) _, fun g => S.before (by simpa using g), fun g h => S.mid (by simpa using g) (by simpa using h), fun g => S.behind (by simpa using g), kp S.t0, kp S.t1, kp S.t2, kp S.t3, kp S.t4, kp S.t5, fun _ => (eval_put _ _ _ (by omega)).trans rfl, kp S.t7, kp S.t8, kp S.t9, kp S.t10, kp S.t11, kp S.t12, kp S.t14⟩
    | 7, _, ho, hsi, hT =>
      obtain ⟨e1, e2⟩ := pick_of h7 ho
      have D6 : s 6 = true := list_pos hT (d := 6) (by decide)
      have N13 : s 13 = false := list_neg hT (k := 13) (by decide)
      have BW := S.before N13
      have cl := (BW.cell (p := ⟨b, j, none⟩) hb).trans hy
      refine step_val (v := .int .u8 (y : Nat)) (by simp only [execOp, e1, S.t6 D6]; go_simp) (hK _ _ ?_)
      rw [e2]
      exact ⟨S.off.put (by decide) _, fun g => S.before (by simpa using g), fun g h => S.mid (by simpa using g) (by simpa using h), fun g => S.behind (by simpa using g), kp S.t0, kp S.t1, kp S.t2, kp S.t3, kp S.t4, kp S.t5, kp S.t6, fun _ => (eval_put _ _ _ (by omega)).trans rfl, kp S.t8, kp S.t9, kp S.t10, kp S.t11, kp S.t12, kp S.t14⟩
    | 8, _, ho, hsi, hT =>
      obtain ⟨e1, e2⟩ := pick_of h8 ho
      refine step_val (v := .slice (some ⟨b, 0, none⟩) n cap) (by simp only [execOp, e1, y0]; go_simp) (hK _ _ ?_)
      rw [e2]
      exact ⟨S.off.put (by decide) _, fun g => S.before (by simpa using g), fun g h => S.mid (by simpa using g) (by simpa using h), fun g => S.behind (by simpa using g), kp S.t0, kp S.t1, kp S.t2, kp S.t3, kp S.t4, kp S.t5, kp S.t6, kp S.t7, fun _ => (eval_put _ _ _ (by omega)).trans rfl, kp S.t9, kp S.t10, kp S.t11, kp S.t12, kp S.t14⟩
    | 9, _, ho, hsi, hT =>
      obtain ⟨e1, e2⟩ := pick_of h9 ho
      refine step_val (v := .int .i64 (i : Nat)) (by simp only [execOp, e1, y2]; go_simp) (hK _ _ ?_)
      rw [e2]
      exact ⟨S.off.put (by decide) _, fun g => S.before (by simpa using g), fun g h => S.mid (by simpa using g) (by simpa using h), fun g => S.behind (by simpa using g), kp S.t0, kp S.t1, kp S.t2, kp S.t3, kp S.t4, kp S.t5, kp S.t6, kp S.t7, kp S.t8, fun _ => (eval_put _ _ _ (by omega)).trans rfl, kp S.t10, kp S.t11, kp S.t12, kp S.t14⟩
    | 10, _, ho, hsi, hT =>
      obtain ⟨e1, e2⟩ := pick_of h10 ho
      have D8 : s 8 = true := list_pos hT (d := 8) (by decide)
      have D9 : s 9 = true := list_pos hT (d := 9) (by decide)
      refine step_val (v := .pointer (some ⟨b, i, none⟩)) (by simp only [execOp, e1, S.t8 D8, S.t9 D9]; go_simp) (hK _ _ ?_)
      rw [e2]
      exact ⟨S.off.put (by decide) _, fun g => S.before (by simpa using g), fun g h => S.mid (by simpa using g) (by simpa using h), fun g => S.behind (by simpa using g), kp S.t0, kp S.t1, kp S.t2, kp S.t3, kp S.t4, kp S.t5, kp S.t6, kp S.t7, kp S.t8, kp S.t9, fun _ => (eval_put _ _ _ (by omega)).trans rfl, kp S.t11, kp S.t12, kp S.t14⟩
    | 11, _, ho, hsi, hT =>
      obtain ⟨e1, e2⟩ := pick_of h11 ho
      have D10 : s 10 = true := list_pos hT (d := 10) (by decide)
      have N13 : s 13 = false := list_neg hT (k := 13) (by decide)
      have BW := S.before N13
      have cl := (BW.cell (p := ⟨b, i, none⟩) hb).trans hx
      refine step_val (v := .int .u8 (x : Nat)) (by simp only [execOp, e1, S.t10 D10]; go_simp) (hK _ _ ?_)
      rw [e2]
      exact ⟨S.off.put (by decide) _, fun g => S.before (by simpa using g), fun g h => S.mid (by simpa using g) (by simpa using h), fun g => S.behind (by simpa using g), kp S.t0, kp S.t1, kp S.t2, kp S.t3, kp S.t4, kp S.t5, kp S.t6, kp S.t7, kp S.t8, kp S.t9, kp S.t10, fun _ => (eval_put _ _ _ (by omega)).trans rfl, kp S.t12, kp S.t14⟩
    | 12, _, ho, hsi, hT =>
      obtain ⟨e1, e2⟩ := pick_of h12 ho
      have D0 : s 0 = true := list_pos hT (d := 0) (by decide)
      have D1 : s 1 = true := list_pos hT (d := 1) (by decide)
      refine step_val (v := .pointer (some ⟨b, i, none⟩)) (by simp only [execOp, e1, S.t0 D0, S.t1 D1]; go_simp) (hK _ _ ?_)
      rw [e2]
      exact ⟨S.off.put (by decide) _, fun g => S.before (by simpa using g), fun g h => S.mid (by simpa using g) (by simpa using h), fun g => S.behind (by simpa using g), kp S.t0, kp S.t1, kp S.t2, kp S.t3, kp S.t4, kp S.t5, kp S.t6, kp S.t7, kp S.t8, kp S.t9, kp S.t10, kp S.t11, fun _ => (eval_put _ _ _ (by omega)).trans rfl, kp S.t14⟩
    | 13, _, ho, hsi, hT =>
      obtain ⟨e1, e2⟩ := pick_of h13 ho
      have D0 : s 0 = true := list_pos hT (d := 0) (by decide)
      have D1 : s 1 = true := list_pos hT (d := 1) (by decide)
      have D4 : s 4 = true := list_pos hT (d := 4) (by decide)
      have D5 : s 5 = true := list_pos hT (d := 5) (by decide)
      have D6 : s 6 = true := list_pos hT (d := 6) (by decide)
      have D7 : s 7 = true := list_pos hT (d := 7) (by decide)
      have D8 : s 8 = true := list_pos hT (d := 8) (by decide)
      have D9 : s 9 = true := list_pos hT (d := 9) (by decide)
      have D10 : s 10 = true := list_pos hT (d := 10) (by decide)
      have D11 : s 11 = true := list_pos hT (d := 11) (by decide)
      have D12 : s 12 = true := list_pos hT (d := 12) (by decide)
      have N15 : s 15 = false := list_neg hT (k := 15) (by decide)
      have BW := S.before hsi
      have cl := (BW.cell (p := ⟨b, i, none⟩) hb).trans hx
      have fz := (BW.frozen (p := ⟨b, i, none⟩) hb).trans hfx
      refine step_to (w2 := w'.setCell ⟨b, i, none⟩ (.int .u8 (y : Nat))) (by simp only [execOp, e1, S.t12 D12, S.t7 D7]; go_simp) (hK _ _ ?_)
      rw [e2]
      exact ⟨S.off.put_none _, fun g => absurd g (by simp), fun _ _ => ⟨w', BW, rfl⟩, fun g => absurd g (by simp [N15]), fun g => S.t0 (by simpa using g), fun g => S.t1 (by simpa using g), fun g => S.t2 (by simpa using g), fun g => S.t3 (by simpa using g), fun g => S.t4 (by simpa using g), fun g => S.t5 (by simpa using g), fun g => S.t6 (by simpa using g), fun g => S.t7 (by simpa using g), fun g => S.t8 (by simpa using g), fun g => S.t9 (by simpa using g), fun g => S.t10 (by simpa using g), fun g => S.t11 (by simpa using g), fun g => S.t12 (by simpa using g), fun g => S.t14 (by simpa using g)⟩
    | 14, _, ho, hsi, hT =>
      obtain ⟨e1, e2⟩ := pick_of h14 ho
      have D2 : s 2 = true := list_pos hT (d := 2) (by decide)
      have D3 : s 3 = true := list_pos hT (d := 3) (by decide)
      refine step_val (v := .pointer (some ⟨b, j, none⟩)) (by simp only [execOp, e1, S.t2 D2, S.t3 D3]; go_simp) (hK _ _ ?_)
      rw [e2]
      exact ⟨S.off.put (by decide) _, fun g => S.before (by simpa using g), fun g h => S.mid (by simpa using g) (by simpa using h), fun g => S.behind (by simpa using g), kp S.t0, kp S.t1, kp S.t2, kp S.t3, kp S.t4, kp S.t5, kp S.t6, kp S.t7, kp S.t8, kp S.t9, kp S.t10, kp S.t11, kp S.t12, fun _ => (eval_put _ _ _ (by omega)).trans rfl⟩
    | 15, _, ho, hsi, hT =>
      obtain ⟨e1, e2⟩ := pick_of h15 ho
      have D0 : s 0 = true := list_pos hT (d := 0) (by decide)
      have D1 : s 1 = true := list_pos hT (d := 1) (by decide)
      have D2 : s 2 = true := list_pos hT (d := 2) (by decide)
      have D3 : s 3 = true := list_pos hT (d := 3) (by decide)
      have D4 : s 4 = true := list_pos hT (d := 4) (by decide)
      have D5 : s 5 = true := list_pos hT (d := 5) (by decide)
      have D6 : s 6 = true := list_pos hT (d := 6) (by decide)
      have D7 : s 7 = true := list_pos hT (d := 7) (by decide)
      have D8 : s 8 = true := list_pos hT (d := 8) (by decide)
      have D9 : s 9 = true := list_pos hT (d := 9) (by decide)
      have D10 : s 10 = true := list_pos hT (d := 10) (by decide)
      have D11 : s 11 = true := list_pos hT (d := 11) (by decide)
      have D12 : s 12 = true := list_pos hT (d := 12) (by decide)
      have D13 : s 13 = true := list_pos hT (d := 13) (by decide)
      have D14 : s 14 = true := list_pos hT (d := 14) (by decide)
      obtain ⟨w1, BW, rfl⟩ := S.mid D13 hsi
      have cl : (w1.setCell ⟨b, i, none⟩ (.int .u8 (y : Nat))).cell? ⟨b, j, none⟩ = some (.int .u8 (y : Nat)) := by rw [World.cell?_setCell_other (h := addr_off hij)]; exact (BW.cell (p := ⟨b, j, none⟩) hb).trans hy
      have fz : (w1.setCell ⟨b, i, none⟩ (.int .u8 (y : Nat))).frozen? ⟨b, j, none⟩ = false := by rw [World.frozen?_setCell]; exact (BW.frozen (p := ⟨b, j, none⟩) hb).trans hfy
      refine step_to (w2 := (w1.setCell ⟨b, i, none⟩ (.int .u8 (y : Nat))).setCell ⟨b, j, none⟩ (.int .u8 (x : Nat))) (by simp only [execOp, e1, S.t14 D14, S.t11 D11]; go_simp) (hK _ _ ?_)
      rw [e2]
      exact ⟨S.off.put_none _, fun g => absurd g (by simp [D13]), fun _ g => absurd g (by simp), fun _ => ⟨w1, BW, rfl⟩, fun g => S.t0 (by simpa using g), fun g => S.t1 (by simpa using g), fun g => S.t2 (by simpa using g), fun g => S.t3 (by simpa using g), fun g => S.t4 (by simpa using g), fun g => S.t5 (by simpa using g), fun g => S.t6 (by simpa using g), fun g => S.t7 (by simpa using g), fun g => S.t8 (by simpa using g), fun g => S.t9 (by simpa using g), fun g => S.t10 (by simpa using g), fun g => S.t11 (by simpa using g), fun g => S.t12 (by simpa using g), fun g => S.t14 (by simpa using g)⟩
    | _ + 16, il, _, _, _ => exact absurd il (by omega)
  · intro s a w' S hall
    have a0 := hall 0 (by omega)
    have a1 := hall 1 (by omega)
    have a2 := hall 2 (by omega)
    have a3 := hall 3 (by omega)
    have a4 := hall 4 (by omega)
    have a5 := hall 5 (by omega)
    have a6 := hall 6 (by omega)
    have a7 := hall 7 (by omega)
    have a8 := hall 8 (by omega)
    have a9 := hall 9 (by omega)
    have a10 := hall 10 (by omega)
    have a11 := hall 11 (by omega)
    have a12 := hall 12 (by omega)
    have a13 := hall 13 (by omega)
    have a14 := hall 14 (by omega)
    have a15 := hall 15 (by omega)
    have e := off_norm _ (by intro d hd; simp at hd; omega) S.off
    simp only [List.foldl, S.t0 a0, S.t1 a1, S.t2 a2, S.t3 a3, S.t4 a4, S.t5 a5, S.t6 a6, S.t7 a7, S.t8 a8, S.t9 a9, S.t10 a10, S.t11 a11, S.t12 a12, S.t14 a14] at e
    obtain ⟨w1, BW, rfl⟩ := S.behind a15
    rw [e]
    exact h _ BW
set_option maxRecDepth 100000 in
theorem reverse_any (b n cap : Nat) (f : Nat → BitVec 8) (w : World) (hn : n ≤ 400000) (F : NumsK .u8 w b n (fun p => (f p).toNat)) :
    Calls Tryz.prog 64 #[.slice (some ⟨b, 0, none⟩) n cap] w fun e w' => e = .returned (.tuple #[]) ∧ NumsK .u8 w' b n (fun p => (f (n - 1 - p)).toNat) ∧ But b w w' := by
  have HF := Lib.hid F
  clear F
  go_enter Tryz.func64, Tryz.ntmps64
  go_wp2_with fail
  go_loopw [2, 3] (fun u v wr => ∃ k : Nat, 2 * k ≤ n + 1 ∧ u = .int .i64 (k : Nat) ∧ v = .int .i64 ((n : Int) - 1 - (k : Int)) ∧ NumsK .u8 wr b n (fun p => (rvk f n k p).toNat) ∧ But b w wr) (fun u _ _ => n + 1 - (intOf u).toNat)
  case atStart => exact ⟨0, by omega, rfl, by rw [show (n : Int) - 1 - ((0 : Nat) : Int) = (n : Int) - 1 by omega], HF.out.congr (fun p _ => by rw [rvk_zero]), But.refl _ _⟩
  case round =>
    obtain ⟨k, hk, rfl, rfl, hF, hB⟩ := hrel
    have HFF := Lib.hid hF
    have HBB := Lib.hid hB
    clear hF hB
    by_cases hlt : 2 * k + 1 < n
    · obtain ⟨j, hj⟩ : ∃ j, n - 1 - k = j := ⟨_, rfl⟩
      have kn : k < n := by omega
      have jn : j < n := by omega
      have kj : k ≠ j := by omega
      have klj : k < j := by omega
      have k2 : 2 * (k + 1) ≤ n + 1 := by omega
      have hx := HFF.out.cell kn
      have hy := HFF.out.cell jn
      have fx := HFF.out.frozen kn
      have fy := HFF.out.frozen jn
      have hb := HFF.out.1
      have H2 := Lib.hid (fun w1 (B1 : Below wr.heap.size wr w1) => (((HFF.out.below B1).set (g := fun p => if p = k then (rvk f n k j).toNat else (rvk f n k p).toNat) k (rvk f n k j).toNat kn (if_pos rfl) (fun p _ hp => if_neg hp)).set (g := fun p => (rvk f n (k + 1) p).toNat) j (rvk f n k k).toNat jn (by show (rvk f n (k + 1) j).toNat = _; rw [← hj, (rvk_i f hlt).2]) (fun p hp hpj => by
        show (rvk f n (k + 1) p).toNat = _
        by_cases e : p = k
        · subst e
          rw [if_pos rfl, (rvk_i f hlt).1, hj]
        · rw [if_neg e, rvk_other f hp e (by omega)])))
      rw [show (n : Int) - 1 - (k : Int) = (j : Int) by omega]
      have HJ := Lib.hid (show (j : Int) - 1 = (n : Int) - 1 - ((k + 1 : Nat) : Int) by omega)
      have i3 : IntKind.i64.wrap ((j : Int) - 1) = (j : Int) - 1 := by rw [IntKind.wrap_i64]; omega
      obtain ⟨x, hx'⟩ : ∃ x, (rvk f n k k).toNat = x := ⟨_, rfl⟩
      obtain ⟨y, hy'⟩ : ∃ x, (rvk f n k j).toNat = x := ⟨_, rfl⟩
      rw [hx'] at hx H2
      rw [hy'] at hy H2
      clear hx' hy' hj HF hlt
      go_upto_region 3 with fail
      refine revRegion b n cap k j x y kn jn kj hn hb hx hy fx fy (by kernel_rfl) rfl rfl rfl rfl rfl rfl rfl rfl rfl rfl rfl rfl rfl rfl rfl rfl rfl rfl rfl rfl rfl ?_
      intro w1 B1
      simp only [Act.put, List.setIfInBounds_toArray, List.set_cons_succ, List.set_cons_zero]
      have N2 := Lib.hid (H2.out w1 B1)
      have BB := Lib.hid (((HBB.out.trans (But.of_below B1 (Nat.le_of_lt hb))).setCell k (.int .u8 (y : Nat))).setCell j (.int .u8 (x : Nat)))
      obtain ⟨w2, hw2⟩ : ∃ w2, (w1.setCell ⟨b, k, none⟩ (.int .u8 (y : Nat))).setCell ⟨b, j, none⟩ (.int .u8 (x : Nat)) = w2 := ⟨_, rfl⟩
      rw [hw2] at N2 BB ⊢
      clear hw2 B1 hx hy fx fy H2 HBB HFF
      go_wp2_with fail
      go_roundw
      case rel => exact ⟨k + 1, k2, by go_num, by rw [HJ.out], N2.out, BB.out⟩
      case measure => simp [intOf]; omega
    · have N2 := Lib.hid (HFF.out.congr (g := fun p => (f (n - 1 - p)).toNat) (fun p hp => by rw [rvk_all f hp (by omega)]))
      have i4 : ¬ (k : Int) < (n : Int) - 1 - (k : Int) := by omega
      clear HFF HF
      go_wp2_with fail
      go_end0
      exact ⟨rfl, N2.out, HBB.out⟩
theorem but_new {w w1 w2 : World} {b : Nat} (h : Below b w w1) (k : But b w1 w2) : Below b w w2 := h.trans k.below
set_option maxRecDepth 100000 in
theorem reversed_any (s : ByteArray) (hs : s.size ≤ 400000) (w : World) :
    Calls Tryz.prog 40 #[.string s] w fun e w' => e = .returned (.string ⟨s.data.toList.reverse.toArray⟩) ∧ Below w.heap.size w w' := by
  have EV := Lib.hid (coefs_rev s.data.toList)
  rw [ls] at EV
  obtain ⟨n, hn⟩ : ∃ n, s.size = n := ⟨_, rfl⟩
  have c1 := run_bytes_of_string (P := Tryz.prog) w 9 41 5 s Tryz.underlying9 Tryz.underlying41 Tryz.underlying5
  obtain ⟨D, hcap⟩ : ∃ D, grownCap w s.size 0 5 = D := ⟨_, rfl⟩
  rw [hcap, hn] at c1
  have n1 := nums_new s D 5 w.drew
  rw [hn, show w.drew.heap.size = w.heap.size from rfl] at n1
  have b4 := ba (Below.refl w.heap.size w).drew (.cells (bytesRow s D) 5 ((bytesRow s D).size, (bytesRow s D).size + 1))
  obtain ⟨w4, hw4⟩ : ∃ w4, w.drew.alloc (.cells (bytesRow s D) 5 ((bytesRow s D).size, (bytesRow s D).size + 1)) = w4 := ⟨_, rfl⟩
  rw [hw4] at c1 n1 b4
  rw [hn] at hs EV
  have C1 := Lib.hid c1
  have B4 := Lib.hid b4
  have RV := Lib.hid (reverse_any w.heap.size n D (fun j => Gal.co s.data.toList j) w4 hs n1)
  clear c1 n1 b4 hw4 hcap hn
  go_enter Tryz.func40, Tryz.ntmps40
  go_wp2_with (simp only [C1.out])
  (with_reducible refine RV.out.mono ?_)
  rintro e w5 ⟨rfl, hN, hB⟩
  have CV := Lib.hid (nums_back D hN)
  rw [EV.out] at CV
  have HB := Lib.hid (but_new B4.out hB)
  clear hN hB RV C1
  go_wp2_with (simp only [CV.out])
  go_ret
  exact ⟨rfl, HB.out⟩
theorem bpower_any (n : Int) (w : World) :
    Calls Tryz.prog 66 #[.int .i64 n] w fun e w' => e = .returned (.int .u8 ((Gal.pwi n).toNat : Nat)) ∧ Below w.heap.size w w' := by
  have P := Lib.hid (pow_any 2#8 n w)
  rw [show Gal.powV 2#8 n = Gal.pwi n by
    unfold Gal.powV
    rw [if_neg (by decide), lg2, show (((1 : Nat) : Int)) * n = n by omega], show Gal.powE 2#8 n = 0 from if_neg (fun q => absurd q.1 (by decide)), show ((2#8 : BitVec 8).toNat : Int) = 2 from rfl] at P
  obtain ⟨v, hv⟩ : ∃ v, (Gal.pwi n).toNat = v := ⟨_, rfl⟩
  rw [hv] at P ⊢
  clear hv
  go_enter Tryz.func66, Tryz.ntmps66
  go_wp2_with fail
  (with_reducible refine P.out.mono ?_)
  rintro e w' ⟨rfl, hB⟩
  have HB := Lib.hid hB
  clear hB
  go_wp2_with fail
  go_ret
  exact ⟨rfl, HB.out⟩
set_option maxRecDepth 100000 in
theorem gener_any (w : World) :
    Calls Tryz.prog 41 #[] w fun e w' => e = .returned (.string ⟨Blk.gen.toArray⟩) ∧ Below w.heap.size w w' := by
  have PR := Lib.hid (fun k hk w => prod_any (⟨(gens k).toArray⟩ : ByteArray) ⟨#[UInt8.ofBitVec (Gal.pw k), 1]⟩ (by rw [sz]; have := gens_len k hk; omega) (show 2 ≤ 400000 by omega) w)
  have PW := Lib.hid (fun n w => bpower_any n w)
  have OK := Lib.hid gens_ok
  have EA := Lib.hid gens_all
  go_enter Tryz.func41, Tryz.ntmps41
  go_wp2_with fail
  go_loopw [1, 3] (fun o i wr => ∃ k : Nat, k ≤ 8 ∧ i = .int .i64 k ∧ o = .string ⟨(gens k).toArray⟩ ∧ Below w.heap.size w wr) (fun _ i _ => 8 - (intOf i).toNat)
  case atStart => exact ⟨0, Nat.zero_le _, rfl, rfl, Below.refl _ _⟩
  case round =>
    obtain ⟨k, hk, rfl, rfl, hB⟩ := hrel
    by_cases hlt : k < 8
    · have C1 := Lib.hid (PW.out (k : Int))
      rw [Gal.pwi_nat] at C1
      have C2 := Lib.hid (PR.out k hk)
      rw [OK.out k hlt, show Gal.prodV (gens k) [UInt8.ofBitVec (Gal.pw k), 1] = gens (k + 1) from rfl] at C2
      have CVV := Lib.hid (fun w => pair_str w (Gal.pw k) 1#8)
      rw [show (UInt8.ofBitVec 1#8 : UInt8) = 1 from rfl, show ((1#8 : BitVec 8).toNat : Int) = 1 from rfl] at CVV
      obtain ⟨y, hy⟩ : ∃ y : ByteArray, (⟨#[UInt8.ofBitVec (Gal.pw k), 1]⟩ : ByteArray) = y := ⟨_, rfl⟩
      rw [hy] at CVV C2
      obtain ⟨v, hv⟩ : ∃ v, (Gal.pw k).toNat = v := ⟨_, rfl⟩
      rw [hv] at CVV C1
      obtain ⟨g, hg⟩ : ∃ g : ByteArray, (⟨(gens k).toArray⟩ : ByteArray) = g := ⟨_, rfl⟩
      obtain ⟨g', hg'⟩ : ∃ g : ByteArray, (⟨(gens (k + 1)).toArray⟩ : ByteArray) = g := ⟨_, rfl⟩
      rw [hg, hg'] at C2
      rw [hg]
      have HG := Lib.hid hg'
      have HB := Lib.hid hB
      clear hy hv hg hg' hB PR PW OK EA
      go_wp2_with fail
      (with_reducible refine (C1.out _).mono ?_)
      rintro e w1 ⟨rfl, h1⟩
      have HB1 := Lib.hid (bt HB.out h1)
      have B1 := Lib.hid (ba HB1.out (.cells #[.int .u8 (v : Nat), .int .u8 1] 5))
      have CV := Lib.hid (CVV.out w1)
      clear h1 CVV
      go_wp2_with (simp only [CV.out])
      (with_reducible refine (C2.out _).mono ?_)
      rintro e w2 ⟨rfl, h2⟩
      have B2 := Lib.hid (bt B1.out h2)
      clear h2
      go_wp2_with fail
      go_roundw
      case rel => exact ⟨k + 1, by omega, by go_num, by rw [HG.out], B2.out⟩
      case measure => simp [intOf]; omega
    · obtain rfl : k = 8 := by omega
      have HB := Lib.hid hB
      rw [EA.out]
      clear hB PR PW OK
      go_wp2_with fail
      go_ret
      exact ⟨rfl, HB.out⟩
theorem rep_coefs : (⟨(List.replicate 8 0).toArray⟩ : ByteArray) = ⟨(Gal.coefs (fun _ => 0#8) 8).toArray⟩ := by decide +kernel
theorem app_list (a b : List UInt8) : (⟨a.toArray⟩ : ByteArray) ++ (⟨b.toArray⟩ : ByteArray) = ⟨(a ++ b).toArray⟩ := by
  apply ByteArray.ext
  rw [ByteArray.data_append]
  simp
/-- The rest, made eight bytes long. -/
theorem rest_pad (d : List UInt8) : Gal.restV (Blk.high d) Blk.gen ++ List.replicate (8 - (Gal.restV (Blk.high d) Blk.gen).length) 0 = Gal.coefs (Blk.rem d) 8 := by
  have hl := restV_len d
  refine Gal.ext (by rw [List.length_append, List.length_replicate, Gal.coefs_length]; omega) (fun i hi => ?_)
  rw [List.length_append, List.length_replicate] at hi
  rw [Gal.co_coefs, if_pos (by omega), Gal.co_zeros]
  exact Gal.co_restV (by rw [Blk.gen_nn]; omega) i
set_option maxRecDepth 100000 in
theorem parity_any (d : ByteArray) (h2 : d.size ≤ 1000) (w : World) :
    Calls Tryz.prog 19 #[.string d] w fun e w' => e = .returned (.string ⟨(Gal.coefs (Blk.rem d.data.toList) 8).reverse.toArray⟩) ∧ Below w.heap.size w w' := by
  have ZE := Lib.hid (zeros_any 8 (by omega) w)
  rw [rep_coefs, show (((8 : Nat) : Int)) = 8 from rfl] at ZE
  have RV := Lib.hid (fun w => reversed_any d (by omega) w)
  have G := Lib.hid (fun w => gener_any w)
  have hh : (⟨(Blk.high d.data.toList).toArray⟩ : ByteArray).size = d.size + 8 := by rw [sz, Blk.high_length, ls]
  have QT := Lib.hid (fun w => quot_any (⟨(Blk.high d.data.toList).toArray⟩ : ByteArray) (⟨Blk.gen.toArray⟩ : ByteArray) (by omega) (by decide) w)
  rw [show (⟨(Blk.high d.data.toList).toArray⟩ : ByteArray).data.toList = Blk.high d.data.toList from rfl, show (⟨Blk.gen.toArray⟩ : ByteArray).data.toList = Blk.gen from rfl, show Gal.quotE Blk.gen = 0 from if_neg (by rw [Blk.gen_nn]; omega)] at QT
  have rl := restV_len d.data.toList
  have TU := Lib.hid (fun w => reversed_any (⟨(Gal.coefs (Blk.rem d.data.toList) 8).toArray⟩ : ByteArray) (by rw [coefs_size]; omega) w)
  rw [show (⟨(Gal.coefs (Blk.rem d.data.toList) 8).toArray⟩ : ByteArray).data.toList = Gal.coefs (Blk.rem d.data.toList) 8 from rfl] at TU
  have HS := Lib.hid (high_str d)
  have RC := rest_pad d.data.toList
  have rz := sz (Gal.restV (Blk.high d.data.toList) Blk.gen)
  obtain ⟨r, hr⟩ : ∃ r, Gal.restV (Blk.high d.data.toList) Blk.gen = r := ⟨_, rfl⟩
  rw [hr] at QT rl RC rz
  obtain ⟨m, hm⟩ : ∃ m, r.length = m := ⟨_, rfl⟩
  rw [hm] at rl RC rz
  obtain ⟨k, hk⟩ : ∃ k, 8 - m = k := ⟨_, rfl⟩
  rw [hk] at RC
  have ZK := Lib.hid (fun w => zeros_any k (by omega) w)
  have HA := Lib.hid (app_list r (List.replicate k 0))
  rw [RC] at HA
  have i8 : IntKind.i64.wrap (8 - (m : Int)) = (k : Int) := by rw [IntKind.wrap_i64]; omega
  have i9 : 8 - (m : Int) = (k : Int) := by omega
  obtain ⟨z, hz⟩ : ∃ q : ByteArray, (⟨(List.replicate k 0).toArray⟩ : ByteArray) = q := ⟨_, rfl⟩
  have kz : z.size = k := by rw [← hz, sz, List.length_replicate]
  rw [hz] at ZK HA
  obtain ⟨rs, hrs⟩ : ∃ q : ByteArray, (⟨r.toArray⟩ : ByteArray) = q := ⟨_, rfl⟩
  rw [hrs] at QT HA rz
  obtain ⟨qv, hqv⟩ : ∃ q : ByteArray, (⟨(Gal.quotV (Blk.high d.data.toList) Blk.gen).toArray⟩ : ByteArray) = q := ⟨_, rfl⟩
  rw [hqv] at QT
  obtain ⟨hs, hhs⟩ : ∃ q : ByteArray, (⟨(Blk.high d.data.toList).toArray⟩ : ByteArray) = q := ⟨_, rfl⟩
  rw [hhs] at QT HS
  obtain ⟨gs, hgs⟩ : ∃ g : ByteArray, (⟨Blk.gen.toArray⟩ : ByteArray) = g := ⟨_, rfl⟩
  rw [hgs] at G QT
  obtain ⟨z1, hz1⟩ : ∃ z : ByteArray, (⟨(Gal.coefs (fun _ => 0#8) 8).toArray⟩ : ByteArray) = z := ⟨_, rfl⟩
  have z1z : z1.size = 8 := by rw [← hz1, sz, Gal.coefs_length]
  obtain ⟨z2, hz2⟩ : ∃ z : ByteArray, (⟨d.data.toList.reverse.toArray⟩ : ByteArray) = z := ⟨_, rfl⟩
  have z2z : z2.size = d.size := by rw [← hz2, sz, List.length_reverse, ls]
  rw [hz1] at ZE HS
  rw [hz2] at RV HS
  obtain ⟨cs, hcs⟩ : ∃ g : ByteArray, (⟨(Gal.coefs (Blk.rem d.data.toList) 8).toArray⟩ : ByteArray) = g := ⟨_, rfl⟩
  rw [hcs] at TU HA
  clear hh RC hr hm hk hz hrs hqv hhs hgs hz1 hz2 hcs
  go_enter Tryz.func19, Tryz.ntmps19
  go_wp2_with fail
  (with_reducible refine ZE.out.mono ?_)
  rintro e w1 ⟨rfl, h1⟩
  have B1 := Lib.hid h1
  clear h1
  go_wp2_with fail
  (with_reducible refine (RV.out _).mono ?_)
  rintro e w2 ⟨rfl, h1⟩
  have B2 := Lib.hid (bt B1.out h1)
  clear h1
  go_wp2_with fail
  (with_reducible refine (G.out _).mono ?_)
  rintro e w3 ⟨rfl, h1⟩
  have B3 := Lib.hid (bt B2.out h1)
  clear h1
  rw [HS.out]
  go_wp2_with fail
  (with_reducible refine (QT.out _).mono ?_)
  rintro e w4 ⟨rfl, h1⟩
  have B4 := Lib.hid (bt B3.out h1)
  clear h1
  go_wp2_with fail
  (with_reducible refine (ZK.out _).mono ?_)
  rintro e w5 ⟨rfl, h1⟩
  have B5 := Lib.hid (bt B4.out h1)
  clear h1
  go_wp2_with fail
  rw [HA.out]
  (with_reducible refine (TU.out _).mono ?_)
  rintro e w6 ⟨rfl, h1⟩
  have B6 := Lib.hid (bt B5.out h1)
  clear h1
  go_wp2_with fail
  go_ret
  exact ⟨rfl, B6.out⟩
theorem enc_str (d : ByteArray) : d ++ (⟨(Gal.coefs (Blk.rem d.data.toList) 8).reverse.toArray⟩ : ByteArray) = ⟨(Blk.enc d.data.toList).toArray⟩ := by
  apply ByteArray.ext
  rw [ByteArray.data_append]
  unfold Blk.enc
  simp
theorem encode_any (d : ByteArray) (h1 : 1 ≤ d.size) (h2 : d.size ≤ 223) (w : World) :
    Calls Tryz.prog 7 #[.string d] w fun e w' => e = .returned (.tuple #[.string ⟨(Blk.enc d.data.toList).toArray⟩, .int .i64 0]) ∧ Below w.heap.size w w' := by
  have PA := Lib.hid (parity_any d (by omega) w)
  have ES := Lib.hid (enc_str d)
  have pz : (⟨(Gal.coefs (Blk.rem d.data.toList) 8).reverse.toArray⟩ : ByteArray).size = 8 := by rw [sz, List.length_reverse, Gal.coefs_length]
  obtain ⟨p, hp⟩ : ∃ p : ByteArray, (⟨(Gal.coefs (Blk.rem d.data.toList) 8).reverse.toArray⟩ : ByteArray) = p := ⟨_, rfl⟩
  rw [hp] at PA ES pz
  clear hp
  go_enter Tryz.func7, Tryz.ntmps7
  go_wp2_with fail
  (with_reducible refine PA.out.mono ?_)
  rintro e w1 ⟨rfl, h1⟩
  have B1 := Lib.hid h1
  clear h1 PA
  go_wp2_with fail
  go_ret2
  exact ⟨by rw [← ES.out]; rfl, B1.out⟩
theorem encode_bad (d : ByteArray) (h : ¬ (1 ≤ d.size ∧ d.size ≤ 223)) (hs : d.size ≤ maxLen) (w : World) :
    Calls Tryz.prog 7 #[.string d] w fun e w' => e = .returned (.tuple #[.string ⟨#[]⟩, .int .i64 2]) ∧ w = w' := by
  unfold maxLen at hs
  by_cases g : d.size < 1
  · clear h
    go_enter Tryz.func7, Tryz.ntmps7
    go_wp2_with fail
    go_ret2
    exact ⟨rfl, rfl⟩
  · have g2 : 223 < d.size := by omega
    clear h
    go_enter Tryz.func7, Tryz.ntmps7
    go_wp2_with fail
    go_ret2
    exact ⟨rfl, rfl⟩
end Go.Proofs.YtlpjhmafplljaaaGreatDoor
