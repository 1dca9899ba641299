/- The region of perigeeref03's zeros16, zeros32 that draws its order. -/
import Derived.Test.YtkgnhdggfeiheaaCrcTimes
namespace Go.Proofs.Ytkgnhdggfeiheaa
open Go.RowKit
set_option linter.unusedVariables false

structure Twice16 (B5 B7 i : Nat) (c : Nat → BitVec 16) (v : BitVec 16) (A : Act) (w0 : World) (s : Nat → Bool) (a : Act) (w : World) : Prop where
  off : Off [31, 32, 33, 34, 35, 36, 37] a A
  before : s 7 = false → Below w0.heap.size w0 w
  behind : s 7 = true → ∃ w1, Below w0.heap.size w0 w1 ∧ w = w1.setCell ⟨B7, i, none⟩ (.int .u16 (v.toNat : Nat))
  t0 : s 0 = true → a.eval (.tmp 31) = .int .i64 (i : Nat)
  t1 : s 1 = true → a.eval (.tmp 32) = .agg (arrK .u16 16 (fun j => (c j).toNat))
  t2 : s 2 = true → a.eval (.tmp 33) = .int .i64 (i : Nat)
  t3 : s 3 = true → a.eval (.tmp 34) = .pointer (some ⟨B5, i, none⟩)
  t4 : s 4 = true → a.eval (.tmp 35) = .int .u16 ((c i).toNat : Nat)
  t5 : s 5 = true → a.eval (.tmp 36) = .int .u16 (v.toNat : Nat)
  t6 : s 6 = true → a.eval (.tmp 37) = .pointer (some ⟨B7, i, none⟩)
set_option maxHeartbeats 2000000 in
theorem twice16 {id : Nat} {d : Bool} {l : List Oper} {A : Act} {w : World} {Q : Exit → Act → World → Prop} (B5 B7 i : Nat) (c : Nat → BitVec 16) (v : BitVec 16) (f7 : Nat → Nat)
    (hc : ∀ w, Calls Try.prog 44 #[.agg (arrK .u16 16 (fun j => (c j).toNat)), .int .u16 ((c i).toNat : Nat)] w fun e w' => e = .returned (.int .u16 (v.toNat : Nat)) ∧ Below w.heap.size w w')
    (hB : tableL d l.toArray (fun i => match i with | 0 => [] | 1 => [] | 2 => [] | 3 => [2] | 4 => [3] | 5 => [1, 4] | 6 => [0] | 7 => [0, 1, 2, 3, 4, 5, 6] | _ => []) (fun i => match i with | 0 => [7] | 1 => [7] | 2 => [7] | 3 => [7] | 4 => [7] | 5 => [7] | 6 => [7] | 7 => [] | _ => []) = true) (hl : l.length = 8)
    (h0 : pick l 0 = some (.move (.tmp 8), some 31))
    (h1 : pick l 1 = some (.load 67 (.tmp 5), some 32))
    (h2 : pick l 2 = some (.move (.tmp 8), some 33))
    (h3 : pick l 3 = some (.indexAddr 67 (.tmp 5) (.tmp 33), some 34))
    (h4 : pick l 4 = some (.load 22 (.tmp 34), some 35))
    (h5 : pick l 5 = some (.call { callee := .value (.func 44), args := #[.tmp 32, .tmp 35], argTypes := #[67, 22] }, some 36))
    (h6 : pick l 6 = some (.indexAddr 67 (.tmp 7) (.tmp 31), some 37))
    (h7 : pick l 7 = some (.store 22 (.tmp 37) (.tmp 36), none))
    (hs : A.tmps.size = 42) (x5 : A.eval (.tmp 5) = .pointer (some ⟨B5, 0, none⟩)) (x7 : A.eval (.tmp 7) = .pointer (some ⟨B7, 0, none⟩)) (x8 : A.eval (.tmp 8) = .int .i64 (i : Nat)) (hi : i < 16)
    (R5 : Cols16 w B5 (fun j => (c j).toNat)) (R7 : Cols16 w B7 f7)
    (h : ∀ w1, Below w.heap.size w w1 → Q .normal (((((((A.put (some 31) (.int .i64 (i : Nat))).put (some 32) (.agg (arrK .u16 16 (fun j => (c j).toNat)))).put (some 33) (.int .i64 (i : Nat))).put (some 34) (.pointer (some ⟨B5, i, none⟩))).put (some 35) (.int .u16 ((c i).toNat : Nat))).put (some 36) (.int .u16 (v.toNat : Nat))).put (some 37) (.pointer (some ⟨B7, i, none⟩))) (w1.setCell ⟨B7, i, none⟩ (.int .u16 (v.toNat : Nat)))) :
    (Code.region id l.toArray d).wp Try.prog Q A w := by
  refine wp_region_invL (by kernel_rfl) _ _ hB (Twice16 B5 B7 i c v A w) ⟨Off.refl _ _, fun _ => Below.refl _ _, by simp, by simp, by simp, by simp, by simp, by simp, by simp, by simp⟩ ⟨Off.refl _ _, fun _ => (Below.refl _ _).drew, by simp, by simp, by simp, by simp, by simp, by simp, by simp, by simp⟩ ?_ ?_
  · intro s a w' S i' o ho hsi hT K hK
    have sz : a.tmps.size = 42 := by rw [S.off.2.1]; exact hs
    have il : i' < 8 := by have := (List.getElem?_eq_some_iff.1 ho).1; omega
    have y5 : a.eval (.tmp 5) = .pointer (some ⟨B5, 0, none⟩) := by rw [S.off.eval (by decide)]; exact x5
    have y7 : a.eval (.tmp 7) = .pointer (some ⟨B7, 0, none⟩) := by rw [S.off.eval (by decide)]; exact x7
    have y8 : a.eval (.tmp 8) = .int .i64 (i : Nat) := by rw [S.off.eval (by decide)]; exact x8
    match i', il, ho, hsi, hT with
    | 0, _, ho, hsi, hT =>
      obtain ⟨e1, e2⟩ := pick_of h0 ho
      have N7 : s 7 = false := list_neg hT (k := 7) (by decide)
      have BW := S.before N7
      refine step_val (v := .int .i64 (i : Nat)) (by simp only [execOp, e1, y8]; go_simp) (hK _ _ ?_)
      rw [e2]
      exact ⟨S.off.put (by decide) _, fun _ => S.before N7, fun g => absurd g (by simp [N7]), fun _ => (eval_put _ _ _ (by omega)).trans rfl, fun g => by rw [eval_put_ne _ _ _ _ (by decide)]; exact S.t1 (by simpa using g), fun g => by rw [eval_put_ne _ _ _ _ (by decide)]; exact S.t2 (by simpa using g), fun g => by rw [eval_put_ne _ _ _ _ (by decide)]; exact S.t3 (by simpa using g), fun g => by rw [eval_put_ne _ _ _ _ (by decide)]; exact S.t4 (by simpa using g), fun g => by rw [eval_put_ne _ _ _ _ (by decide)]; exact S.t5 (by simpa using g), fun g => by rw [eval_put_ne _ _ _ _ (by decide)]; exact S.t6 (by simpa using g)⟩
    | 1, _, ho, hsi, hT =>
      obtain ⟨e1, e2⟩ := pick_of h1 ho
      have N7 : s 7 = false := list_neg hT (k := 7) (by decide)
      have BW := S.before N7
      refine wp_load_row 67 (.tmp 5) e1 B5 y5 _ _ _ _ (R5.below BW) u16xW rfl (i16xW _) (hK _ _ ?_)
      rw [e2]
      exact ⟨S.off.put (by decide) _, fun _ => S.before N7, fun g => absurd g (by simp [N7]), fun g => by rw [eval_put_ne _ _ _ _ (by decide)]; exact S.t0 (by simpa using g), fun _ => (eval_put _ _ _ (by omega)).trans rfl, fun g => by rw [eval_put_ne _ _ _ _ (by decide)]; exact S.t2 (by simpa using g), fun g => by rw [eval_put_ne _ _ _ _ (by decide)]; exact S.t3 (by simpa using g), fun g => by rw [eval_put_ne _ _ _ _ (by decide)]; exact S.t4 (by simpa using g), fun g => by rw [eval_put_ne _ _ _ _ (by decide)]; exact S.t5 (by simpa using g), fun g => by rw [eval_put_ne _ _ _ _ (by decide)]; exact S.t6 (by simpa using g)⟩
    | 2, _, ho, hsi, hT =>
      obtain ⟨e1, e2⟩ := pick_of h2 ho
      have N7 : s 7 = false := list_neg hT (k := 7) (by decide)
      have BW := S.before N7
      refine step_val (v := .int .i64 (i : Nat)) (by simp only [execOp, e1, y8]; go_simp) (hK _ _ ?_)
      rw [e2]
      exact ⟨S.off.put (by decide) _, fun _ => S.before N7, fun g => absurd g (by simp [N7]), fun g => by rw [eval_put_ne _ _ _ _ (by decide)]; exact S.t0 (by simpa using g), fun g => by rw [eval_put_ne _ _ _ _ (by decide)]; exact S.t1 (by simpa using g), fun _ => (eval_put _ _ _ (by omega)).trans rfl, fun g => by rw [eval_put_ne _ _ _ _ (by decide)]; exact S.t3 (by simpa using g), fun g => by rw [eval_put_ne _ _ _ _ (by decide)]; exact S.t4 (by simpa using g), fun g => by rw [eval_put_ne _ _ _ _ (by decide)]; exact S.t5 (by simpa using g), fun g => by rw [eval_put_ne _ _ _ _ (by decide)]; exact S.t6 (by simpa using g)⟩
    | 3, _, ho, hsi, hT =>
      obtain ⟨e1, e2⟩ := pick_of h3 ho
      have D2 : s 2 = true := list_pos hT (d := 2) (by decide)
      have N7 : s 7 = false := list_neg hT (k := 7) (by decide)
      have BW := S.before N7
      refine step_val (v := .pointer (some ⟨B5, i, none⟩)) (by simp only [execOp, e1, y5, S.t2 D2]; go_simp; intro hh; omega) (hK _ _ ?_)
      rw [e2]
      exact ⟨S.off.put (by decide) _, fun _ => S.before N7, fun g => absurd g (by simp [N7]), fun g => by rw [eval_put_ne _ _ _ _ (by decide)]; exact S.t0 (by simpa using g), fun g => by rw [eval_put_ne _ _ _ _ (by decide)]; exact S.t1 (by simpa using g), fun g => by rw [eval_put_ne _ _ _ _ (by decide)]; exact S.t2 (by simpa using g), fun _ => (eval_put _ _ _ (by omega)).trans rfl, fun g => by rw [eval_put_ne _ _ _ _ (by decide)]; exact S.t4 (by simpa using g), fun g => by rw [eval_put_ne _ _ _ _ (by decide)]; exact S.t5 (by simpa using g), fun g => by rw [eval_put_ne _ _ _ _ (by decide)]; exact S.t6 (by simpa using g)⟩
    | 4, _, ho, hsi, hT =>
      obtain ⟨e1, e2⟩ := pick_of h4 ho
      have D3 : s 3 = true := list_pos hT (d := 3) (by decide)
      have N7 : s 7 = false := list_neg hT (k := 7) (by decide)
      have BW := S.before N7
      refine step_val (v := .int .u16 ((c i).toNat : Nat)) (by have cl := (R5.below BW).cell hi; simp only [execOp, e1, S.t3 D3]; go_simp) (hK _ _ ?_)
      rw [e2]
      exact ⟨S.off.put (by decide) _, fun _ => S.before N7, fun g => absurd g (by simp [N7]), fun g => by rw [eval_put_ne _ _ _ _ (by decide)]; exact S.t0 (by simpa using g), fun g => by rw [eval_put_ne _ _ _ _ (by decide)]; exact S.t1 (by simpa using g), fun g => by rw [eval_put_ne _ _ _ _ (by decide)]; exact S.t2 (by simpa using g), fun g => by rw [eval_put_ne _ _ _ _ (by decide)]; exact S.t3 (by simpa using g), fun _ => (eval_put _ _ _ (by omega)).trans rfl, fun g => by rw [eval_put_ne _ _ _ _ (by decide)]; exact S.t5 (by simpa using g), fun g => by rw [eval_put_ne _ _ _ _ (by decide)]; exact S.t6 (by simpa using g)⟩
    | 5, _, ho, hsi, hT =>
      obtain ⟨e1, e2⟩ := pick_of h5 ho
      have D1 : s 1 = true := list_pos hT (d := 1) (by decide)
      have D4 : s 4 = true := list_pos hT (d := 4) (by decide)
      have N7 : s 7 = false := list_neg hT (k := 7) (by decide)
      have BW := S.before N7
      refine step_call 44 (fun args w => by go_simp) _ _ e1 #[.agg (arrK .u16 16 (fun j => (c j).toNat)), .int .u16 ((c i).toNat : Nat)] (by simp only [List.map_toArray, List.map_cons, List.map_nil, S.t1 D1, S.t4 D4]) ((hc w').mono ?_)
      rintro e w2 ⟨rfl, BB⟩
      refine ⟨_, rfl, hK _ _ ?_⟩
      rw [e2]
      exact ⟨S.off.put (by decide) _, fun _ => bt BW BB, fun g => absurd g (by simp [N7]), fun g => by rw [eval_put_ne _ _ _ _ (by decide)]; exact S.t0 (by simpa using g), fun g => by rw [eval_put_ne _ _ _ _ (by decide)]; exact S.t1 (by simpa using g), fun g => by rw [eval_put_ne _ _ _ _ (by decide)]; exact S.t2 (by simpa using g), fun g => by rw [eval_put_ne _ _ _ _ (by decide)]; exact S.t3 (by simpa using g), fun g => by rw [eval_put_ne _ _ _ _ (by decide)]; exact S.t4 (by simpa using g), fun _ => (eval_put _ _ _ (by omega)).trans rfl, fun g => by rw [eval_put_ne _ _ _ _ (by decide)]; exact S.t6 (by simpa using g)⟩
    | 6, _, ho, hsi, hT =>
      obtain ⟨e1, e2⟩ := pick_of h6 ho
      have D0 : s 0 = true := list_pos hT (d := 0) (by decide)
      have N7 : s 7 = false := list_neg hT (k := 7) (by decide)
      have BW := S.before N7
      refine step_val (v := .pointer (some ⟨B7, i, none⟩)) (by simp only [execOp, e1, y7, S.t0 D0]; go_simp; intro hh; omega) (hK _ _ ?_)
      rw [e2]
      exact ⟨S.off.put (by decide) _, fun _ => S.before N7, fun g => absurd g (by simp [N7]), fun g => by rw [eval_put_ne _ _ _ _ (by decide)]; exact S.t0 (by simpa using g), fun g => by rw [eval_put_ne _ _ _ _ (by decide)]; exact S.t1 (by simpa using g), fun g => by rw [eval_put_ne _ _ _ _ (by decide)]; exact S.t2 (by simpa using g), fun g => by rw [eval_put_ne _ _ _ _ (by decide)]; exact S.t3 (by simpa using g), fun g => by rw [eval_put_ne _ _ _ _ (by decide)]; exact S.t4 (by simpa using g), fun g => by rw [eval_put_ne _ _ _ _ (by decide)]; exact S.t5 (by simpa using g), fun _ => (eval_put _ _ _ (by omega)).trans rfl⟩
    | 7, _, ho, hsi, hT =>
      obtain ⟨e1, e2⟩ := pick_of h7 ho
      have D0 : s 0 = true := list_pos hT (d := 0) (by decide)
      have D1 : s 1 = true := list_pos hT (d := 1) (by decide)
      have D2 : s 2 = true := list_pos hT (d := 2) (by decide)
      have D3 : s 3 = true := list_pos hT (d := 3) (by decide)
      have D4 : s 4 = true := list_pos hT (d := 4) (by decide)
      have D5 : s 5 = true := list_pos hT (d := 5) (by decide)
      have D6 : s 6 = true := list_pos hT (d := 6) (by decide)
      have BW := S.before hsi
      have cl := (R7.below BW).cell hi
      have fz := (R7.below BW).frozen i
      refine step_to (w2 := w'.setCell ⟨B7, i, none⟩ (.int .u16 (v.toNat : Nat))) (by simp only [execOp, e1, S.t6 D6, S.t5 D5]; go_simp) (hK _ _ ?_)
      rw [e2]
      exact ⟨S.off, fun g => absurd g (by simp), fun _ => ⟨w', BW, rfl⟩, fun g => S.t0 (by simpa using g), fun g => S.t1 (by simpa using g), fun g => S.t2 (by simpa using g), fun g => S.t3 (by simpa using g), fun g => S.t4 (by simpa using g), fun g => S.t5 (by simpa using g), fun g => S.t6 (by simpa using g)⟩
  · intro s a w' S hall
    have a0 := hall 0 (by omega)
    have a1 := hall 1 (by omega)
    have a2 := hall 2 (by omega)
    have a3 := hall 3 (by omega)
    have a4 := hall 4 (by omega)
    have a5 := hall 5 (by omega)
    have a6 := hall 6 (by omega)
    have a7 := hall 7 (by omega)
    obtain ⟨w1, BW, rfl⟩ := S.behind a7
    have e := off_norm _ (by intro d hd; simp at hd; omega) S.off
    simp only [List.foldl, S.t0 a0, S.t1 a1, S.t2 a2, S.t3 a3, S.t4 a4, S.t5 a5, S.t6 a6] at e
    rw [e]
    exact h _ BW
structure Twice32 (B5 B7 i : Nat) (c : Nat → BitVec 32) (v : BitVec 32) (A : Act) (w0 : World) (s : Nat → Bool) (a : Act) (w : World) : Prop where
  off : Off [39, 40, 41, 42, 43, 44, 45] a A
  before : s 7 = false → Below w0.heap.size w0 w
  behind : s 7 = true → ∃ w1, Below w0.heap.size w0 w1 ∧ w = w1.setCell ⟨B7, i, none⟩ (.int .u32 (v.toNat : Nat))
  t0 : s 0 = true → a.eval (.tmp 39) = .int .i64 (i : Nat)
  t1 : s 1 = true → a.eval (.tmp 40) = .agg (arrK .u32 32 (fun j => (c j).toNat))
  t2 : s 2 = true → a.eval (.tmp 41) = .int .i64 (i : Nat)
  t3 : s 3 = true → a.eval (.tmp 42) = .pointer (some ⟨B5, i, none⟩)
  t4 : s 4 = true → a.eval (.tmp 43) = .int .u32 ((c i).toNat : Nat)
  t5 : s 5 = true → a.eval (.tmp 44) = .int .u32 (v.toNat : Nat)
  t6 : s 6 = true → a.eval (.tmp 45) = .pointer (some ⟨B7, i, none⟩)
set_option maxHeartbeats 2000000 in
theorem twice32 {id : Nat} {d : Bool} {l : List Oper} {A : Act} {w : World} {Q : Exit → Act → World → Prop} (B5 B7 i : Nat) (c : Nat → BitVec 32) (v : BitVec 32) (f7 : Nat → Nat)
    (hc : ∀ w, Calls Try.prog 48 #[.agg (arrK .u32 32 (fun j => (c j).toNat)), .int .u32 ((c i).toNat : Nat)] w fun e w' => e = .returned (.int .u32 (v.toNat : Nat)) ∧ Below w.heap.size w w')
    (hB : tableL d l.toArray (fun i => match i with | 0 => [] | 1 => [] | 2 => [] | 3 => [2] | 4 => [3] | 5 => [1, 4] | 6 => [0] | 7 => [0, 1, 2, 3, 4, 5, 6] | _ => []) (fun i => match i with | 0 => [7] | 1 => [7] | 2 => [7] | 3 => [7] | 4 => [7] | 5 => [7] | 6 => [7] | 7 => [] | _ => []) = true) (hl : l.length = 8)
    (h0 : pick l 0 = some (.move (.tmp 10), some 39))
    (h1 : pick l 1 = some (.load 74 (.tmp 5), some 40))
    (h2 : pick l 2 = some (.move (.tmp 10), some 41))
    (h3 : pick l 3 = some (.indexAddr 74 (.tmp 5) (.tmp 41), some 42))
    (h4 : pick l 4 = some (.load 23 (.tmp 42), some 43))
    (h5 : pick l 5 = some (.call { callee := .value (.func 48), args := #[.tmp 40, .tmp 43], argTypes := #[74, 23] }, some 44))
    (h6 : pick l 6 = some (.indexAddr 74 (.tmp 9) (.tmp 39), some 45))
    (h7 : pick l 7 = some (.store 23 (.tmp 45) (.tmp 44), none))
    (hs : A.tmps.size = 50) (x5 : A.eval (.tmp 5) = .pointer (some ⟨B5, 0, none⟩)) (x7 : A.eval (.tmp 9) = .pointer (some ⟨B7, 0, none⟩)) (x8 : A.eval (.tmp 10) = .int .i64 (i : Nat)) (hi : i < 32)
    (R5 : Cols32 w B5 (fun j => (c j).toNat)) (R7 : Cols32 w B7 f7)
    (h : ∀ w1, Below w.heap.size w w1 → Q .normal (((((((A.put (some 39) (.int .i64 (i : Nat))).put (some 40) (.agg (arrK .u32 32 (fun j => (c j).toNat)))).put (some 41) (.int .i64 (i : Nat))).put (some 42) (.pointer (some ⟨B5, i, none⟩))).put (some 43) (.int .u32 ((c i).toNat : Nat))).put (some 44) (.int .u32 (v.toNat : Nat))).put (some 45) (.pointer (some ⟨B7, i, none⟩))) (w1.setCell ⟨B7, i, none⟩ (.int .u32 (v.toNat : Nat)))) :
    (Code.region id l.toArray d).wp Try.prog Q A w := by
  refine wp_region_invL (by kernel_rfl) _ _ hB (Twice32 B5 B7 i c v A w) ⟨Off.refl _ _, fun _ => Below.refl _ _, by simp, by simp, by simp, by simp, by simp, by simp, by simp, by simp⟩ ⟨Off.refl _ _, fun _ => (Below.refl _ _).drew, by simp, by simp, by simp, by simp, by simp, by simp, by simp, by simp⟩ ?_ ?_
  · intro s a w' S i' o ho hsi hT K hK
    have sz : a.tmps.size = 50 := by rw [S.off.2.1]; exact hs
    have il : i' < 8 := by have := (List.getElem?_eq_some_iff.1 ho).1; omega
    have y5 : a.eval (.tmp 5) = .pointer (some ⟨B5, 0, none⟩) := by rw [S.off.eval (by decide)]; exact x5
    have y7 : a.eval (.tmp 9) = .pointer (some ⟨B7, 0, none⟩) := by rw [S.off.eval (by decide)]; exact x7
    have y8 : a.eval (.tmp 10) = .int .i64 (i : Nat) := by rw [S.off.eval (by decide)]; exact x8
    match i', il, ho, hsi, hT with
    | 0, _, ho, hsi, hT =>
      obtain ⟨e1, e2⟩ := pick_of h0 ho
      have N7 : s 7 = false := list_neg hT (k := 7) (by decide)
      have BW := S.before N7
      refine step_val (v := .int .i64 (i : Nat)) (by simp only [execOp, e1, y8]; go_simp) (hK _ _ ?_)
      rw [e2]
      exact ⟨S.off.put (by decide) _, fun _ => S.before N7, fun g => absurd g (by simp [N7]), fun _ => (eval_put _ _ _ (by omega)).trans rfl, fun g => by rw [eval_put_ne _ _ _ _ (by decide)]; exact S.t1 (by simpa using g), fun g => by rw [eval_put_ne _ _ _ _ (by decide)]; exact S.t2 (by simpa using g), fun g => by rw [eval_put_ne _ _ _ _ (by decide)]; exact S.t3 (by simpa using g), fun g => by rw [eval_put_ne _ _ _ _ (by decide)]; exact S.t4 (by simpa using g), fun g => by rw [eval_put_ne _ _ _ _ (by decide)]; exact S.t5 (by simpa using g), fun g => by rw [eval_put_ne _ _ _ _ (by decide)]; exact S.t6 (by simpa using g)⟩
    | 1, _, ho, hsi, hT =>
      obtain ⟨e1, e2⟩ := pick_of h1 ho
      have N7 : s 7 = false := list_neg hT (k := 7) (by decide)
      have BW := S.before N7
      refine wp_load_row 74 (.tmp 5) e1 B5 y5 _ _ _ _ (R5.below BW) u32xW rfl (i32xW _) (hK _ _ ?_)
      rw [e2]
      exact ⟨S.off.put (by decide) _, fun _ => S.before N7, fun g => absurd g (by simp [N7]), fun g => by rw [eval_put_ne _ _ _ _ (by decide)]; exact S.t0 (by simpa using g), fun _ => (eval_put _ _ _ (by omega)).trans rfl, fun g => by rw [eval_put_ne _ _ _ _ (by decide)]; exact S.t2 (by simpa using g), fun g => by rw [eval_put_ne _ _ _ _ (by decide)]; exact S.t3 (by simpa using g), fun g => by rw [eval_put_ne _ _ _ _ (by decide)]; exact S.t4 (by simpa using g), fun g => by rw [eval_put_ne _ _ _ _ (by decide)]; exact S.t5 (by simpa using g), fun g => by rw [eval_put_ne _ _ _ _ (by decide)]; exact S.t6 (by simpa using g)⟩
    | 2, _, ho, hsi, hT =>
      obtain ⟨e1, e2⟩ := pick_of h2 ho
      have N7 : s 7 = false := list_neg hT (k := 7) (by decide)
      have BW := S.before N7
      refine step_val (v := .int .i64 (i : Nat)) (by simp only [execOp, e1, y8]; go_simp) (hK _ _ ?_)
      rw [e2]
      exact ⟨S.off.put (by decide) _, fun _ => S.before N7, fun g => absurd g (by simp [N7]), fun g => by rw [eval_put_ne _ _ _ _ (by decide)]; exact S.t0 (by simpa using g), fun g => by rw [eval_put_ne _ _ _ _ (by decide)]; exact S.t1 (by simpa using g), fun _ => (eval_put _ _ _ (by omega)).trans rfl, fun g => by rw [eval_put_ne _ _ _ _ (by decide)]; exact S.t3 (by simpa using g), fun g => by rw [eval_put_ne _ _ _ _ (by decide)]; exact S.t4 (by simpa using g), fun g => by rw [eval_put_ne _ _ _ _ (by decide)]; exact S.t5 (by simpa using g), fun g => by rw [eval_put_ne _ _ _ _ (by decide)]; exact S.t6 (by simpa using g)⟩
    | 3, _, ho, hsi, hT =>
      obtain ⟨e1, e2⟩ := pick_of h3 ho
      have D2 : s 2 = true := list_pos hT (d := 2) (by decide)
      have N7 : s 7 = false := list_neg hT (k := 7) (by decide)
      have BW := S.before N7
      refine step_val (v := .pointer (some ⟨B5, i, none⟩)) (by simp only [execOp, e1, y5, S.t2 D2]; go_simp; intro hh; omega) (hK _ _ ?_)
      rw [e2]
      exact ⟨S.off.put (by decide) _, fun _ => S.before N7, fun g => absurd g (by simp [N7]), fun g => by rw [eval_put_ne _ _ _ _ (by decide)]; exact S.t0 (by simpa using g), fun g => by rw [eval_put_ne _ _ _ _ (by decide)]; exact S.t1 (by simpa using g), fun g => by rw [eval_put_ne _ _ _ _ (by decide)]; exact S.t2 (by simpa using g), fun _ => (eval_put _ _ _ (by omega)).trans rfl, fun g => by rw [eval_put_ne _ _ _ _ (by decide)]; exact S.t4 (by simpa using g), fun g => by rw [eval_put_ne _ _ _ _ (by decide)]; exact S.t5 (by simpa using g), fun g => by rw [eval_put_ne _ _ _ _ (by decide)]; exact S.t6 (by simpa using g)⟩
    | 4, _, ho, hsi, hT =>
      obtain ⟨e1, e2⟩ := pick_of h4 ho
      have D3 : s 3 = true := list_pos hT (d := 3) (by decide)
      have N7 : s 7 = false := list_neg hT (k := 7) (by decide)
      have BW := S.before N7
      refine step_val (v := .int .u32 ((c i).toNat : Nat)) (by have cl := (R5.below BW).cell hi; simp only [execOp, e1, S.t3 D3]; go_simp) (hK _ _ ?_)
      rw [e2]
      exact ⟨S.off.put (by decide) _, fun _ => S.before N7, fun g => absurd g (by simp [N7]), fun g => by rw [eval_put_ne _ _ _ _ (by decide)]; exact S.t0 (by simpa using g), fun g => by rw [eval_put_ne _ _ _ _ (by decide)]; exact S.t1 (by simpa using g), fun g => by rw [eval_put_ne _ _ _ _ (by decide)]; exact S.t2 (by simpa using g), fun g => by rw [eval_put_ne _ _ _ _ (by decide)]; exact S.t3 (by simpa using g), fun _ => (eval_put _ _ _ (by omega)).trans rfl, fun g => by rw [eval_put_ne _ _ _ _ (by decide)]; exact S.t5 (by simpa using g), fun g => by rw [eval_put_ne _ _ _ _ (by decide)]; exact S.t6 (by simpa using g)⟩
    | 5, _, ho, hsi, hT =>
      obtain ⟨e1, e2⟩ := pick_of h5 ho
      have D1 : s 1 = true := list_pos hT (d := 1) (by decide)
      have D4 : s 4 = true := list_pos hT (d := 4) (by decide)
      have N7 : s 7 = false := list_neg hT (k := 7) (by decide)
      have BW := S.before N7
      refine step_call 48 (fun args w => by go_simp) _ _ e1 #[.agg (arrK .u32 32 (fun j => (c j).toNat)), .int .u32 ((c i).toNat : Nat)] (by simp only [List.map_toArray, List.map_cons, List.map_nil, S.t1 D1, S.t4 D4]) ((hc w').mono ?_)
      rintro e w2 ⟨rfl, BB⟩
      refine ⟨_, rfl, hK _ _ ?_⟩
      rw [e2]
      exact ⟨S.off.put (by decide) _, fun _ => bt BW BB, fun g => absurd g (by simp [N7]), fun g => by rw [eval_put_ne _ _ _ _ (by decide)]; exact S.t0 (by simpa using g), fun g => by rw [eval_put_ne _ _ _ _ (by decide)]; exact S.t1 (by simpa using g), fun g => by rw [eval_put_ne _ _ _ _ (by decide)]; exact S.t2 (by simpa using g), fun g => by rw [eval_put_ne _ _ _ _ (by decide)]; exact S.t3 (by simpa using g), fun g => by rw [eval_put_ne _ _ _ _ (by decide)]; exact S.t4 (by simpa using g), fun _ => (eval_put _ _ _ (by omega)).trans rfl, fun g => by rw [eval_put_ne _ _ _ _ (by decide)]; exact S.t6 (by simpa using g)⟩
    | 6, _, ho, hsi, hT =>
      obtain ⟨e1, e2⟩ := pick_of h6 ho
      have D0 : s 0 = true := list_pos hT (d := 0) (by decide)
      have N7 : s 7 = false := list_neg hT (k := 7) (by decide)
      have BW := S.before N7
      refine step_val (v := .pointer (some ⟨B7, i, none⟩)) (by simp only [execOp, e1, y7, S.t0 D0]; go_simp; intro hh; omega) (hK _ _ ?_)
      rw [e2]
      exact ⟨S.off.put (by decide) _, fun _ => S.before N7, fun g => absurd g (by simp [N7]), fun g => by rw [eval_put_ne _ _ _ _ (by decide)]; exact S.t0 (by simpa using g), fun g => by rw [eval_put_ne _ _ _ _ (by decide)]; exact S.t1 (by simpa using g), fun g => by rw [eval_put_ne _ _ _ _ (by decide)]; exact S.t2 (by simpa using g), fun g => by rw [eval_put_ne _ _ _ _ (by decide)]; exact S.t3 (by simpa using g), fun g => by rw [eval_put_ne _ _ _ _ (by decide)]; exact S.t4 (by simpa using g), fun g => by rw [eval_put_ne _ _ _ _ (by decide)]; exact S.t5 (by simpa using g), fun _ => (eval_put _ _ _ (by omega)).trans rfl⟩
    | 7, _, ho, hsi, hT =>
      obtain ⟨e1, e2⟩ := pick_of h7 ho
      have D0 : s 0 = true := list_pos hT (d := 0) (by decide)
      have D1 : s 1 = true := list_pos hT (d := 1) (by decide)
      have D2 : s 2 = true := list_pos hT (d := 2) (by decide)
      have D3 : s 3 = true := list_pos hT (d := 3) (by decide)
      have D4 : s 4 = true := list_pos hT (d := 4) (by decide)
      have D5 : s 5 = true := list_pos hT (d := 5) (by decide)
      have D6 : s 6 = true := list_pos hT (d := 6) (by decide)
      have BW := S.before hsi
      have cl := (R7.below BW).cell hi
      have fz := (R7.below BW).frozen i
      refine step_to (w2 := w'.setCell ⟨B7, i, none⟩ (.int .u32 (v.toNat : Nat))) (by simp only [execOp, e1, S.t6 D6, S.t5 D5]; go_simp) (hK _ _ ?_)
      rw [e2]
      exact ⟨S.off, fun g => absurd g (by simp), fun _ => ⟨w', BW, rfl⟩, fun g => S.t0 (by simpa using g), fun g => S.t1 (by simpa using g), fun g => S.t2 (by simpa using g), fun g => S.t3 (by simpa using g), fun g => S.t4 (by simpa using g), fun g => S.t5 (by simpa using g), fun g => S.t6 (by simpa using g)⟩
  · intro s a w' S hall
    have a0 := hall 0 (by omega)
    have a1 := hall 1 (by omega)
    have a2 := hall 2 (by omega)
    have a3 := hall 3 (by omega)
    have a4 := hall 4 (by omega)
    have a5 := hall 5 (by omega)
    have a6 := hall 6 (by omega)
    have a7 := hall 7 (by omega)
    obtain ⟨w1, BW, rfl⟩ := S.behind a7
    have e := off_norm _ (by intro d hd; simp at hd; omega) S.off
    simp only [List.foldl, S.t0 a0, S.t1 a1, S.t2 a2, S.t3 a3, S.t4 a4, S.t5 a5, S.t6 a6] at e
    rw [e]
    exact h _ BW
end Go.Proofs.Ytkgnhdggfeiheaa
