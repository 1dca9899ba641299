/- The regions of perigeeref04's times and Quotient that draw their order. -/
import Derived.Test.YtlpjhmafplljaaaGreatDoorGalTrim
import Derived.Test.YtlpjhmafplljaaaGreatDoorGalReg
namespace Go.Proofs.YtlpjhmafplljaaaGreatDoor
open Go.RowKit
set_option linter.unusedVariables false

theorem rmulB (a b : BitVec 8) (w : World) :
    Calls Tryz.prog 45 #[.int .u8 (a.toNat : Nat), .int .u8 (b.toNat : Nat)] w fun e w' => e = .returned (.int .u8 ((Gal.mul a b).toNat : Nat)) ∧ Below w.heap.size w w' :=
  (rmul_any a b w).mono fun e w' ⟨h1, h2⟩ => ⟨h1, h2 ▸ Below.refl _ _⟩
theorem rdivB (a b : BitVec 8) (w : World) :
    Calls Tryz.prog 44 #[.int .u8 (a.toNat : Nat), .int .u8 (b.toNat : Nat)] w fun e w' => e = .returned (.tuple #[.int .u8 ((Gal.divV a b).toNat : Nat), .int .i64 (Gal.divE b)]) ∧ Below w.heap.size w w' :=
  (rdiv_any a b w).mono fun e w' ⟨h1, h2⟩ => ⟨h1, h2 ▸ Below.refl _ _⟩
structure TimesRegion (sb i j n N : Nat) (p q : ByteArray) (f : Nat → BitVec 8) (A : Act) (w0 : World) (s : Nat → Bool) (a : Act) (w : World) : Prop where
  off : Off [26, 27, 28, 29, 30, 31, 32, 33, 34, 35, 36, 37, 38, 39, 40, 41, 42, 43, 44] a A
  before : s 19 = false → Below w0.heap.size w0 w
  behind : s 19 = true → ∃ w1, Below w0.heap.size w0 w1 ∧ w = w1.setCell ⟨sb, n, none⟩ (.int .u8 ((f n ^^^ Gal.mul (Gal.co p.data.toList i) (Gal.co q.data.toList j)).toNat : Nat))
  t0 : s 0 = true → a.eval (.tmp 26) = .slice (some ⟨sb, 0, none⟩) N N
  t1 : s 1 = true → a.eval (.tmp 27) = .int .i64 (i : Nat)
  t2 : s 2 = true → a.eval (.tmp 28) = .int .i64 (j : Nat)
  t3 : s 3 = true → a.eval (.tmp 29) = .int .i64 (n : Nat)
  t4 : s 4 = true → a.eval (.tmp 30) = .slice (some ⟨sb, 0, none⟩) N N
  t5 : s 5 = true → a.eval (.tmp 31) = .int .i64 (i : Nat)
  t6 : s 6 = true → a.eval (.tmp 32) = .int .i64 (j : Nat)
  t7 : s 7 = true → a.eval (.tmp 33) = .int .i64 (n : Nat)
  t8 : s 8 = true → a.eval (.tmp 34) = .pointer (some ⟨sb, n, none⟩)
  t9 : s 9 = true → a.eval (.tmp 35) = .int .u8 ((f n).toNat : Nat)
  t10 : s 10 = true → a.eval (.tmp 36) = .string p
  t11 : s 11 = true → a.eval (.tmp 37) = .int .i64 (i : Nat)
  t12 : s 12 = true → a.eval (.tmp 38) = .int .u8 ((Gal.co p.data.toList i).toNat : Nat)
  t13 : s 13 = true → a.eval (.tmp 39) = .string q
  t14 : s 14 = true → a.eval (.tmp 40) = .int .i64 (j : Nat)
  t15 : s 15 = true → a.eval (.tmp 41) = .int .u8 ((Gal.co q.data.toList j).toNat : Nat)
  t16 : s 16 = true → a.eval (.tmp 42) = .int .u8 ((Gal.mul (Gal.co p.data.toList i) (Gal.co q.data.toList j)).toNat : Nat)
  t17 : s 17 = true → a.eval (.tmp 43) = .int .u8 ((f n ^^^ Gal.mul (Gal.co p.data.toList i) (Gal.co q.data.toList j)).toNat : Nat)
  t18 : s 18 = true → a.eval (.tmp 44) = .pointer (some ⟨sb, n, none⟩)
set_option maxHeartbeats 2000000 in
set_option maxRecDepth 100000 in
theorem timesRegion {id : Nat} {d : Bool} {l : List Oper} {A : Act} {w : World} {Q : Exit → Act → World → Prop} (sb i j n N : Nat) (p q : ByteArray) (f : Nat → BitVec 8)
    (hi : i < p.size) (hj : j < q.size) (hn : (i : Int) + (j : Int) = (n : Int)) (hN : n < N) (hN2 : N ≤ 4000000) (hF : NumsK .u8 w sb N (fun j => (f j).toNat))
    (hB : tableL d l.toArray (fun i => match i with | 0 => [] | 1 => [] | 2 => [] | 3 => [1, 2] | 4 => [] | 5 => [] | 6 => [] | 7 => [5, 6] | 8 => [4, 7] | 9 => [8] | 10 => [] | 11 => [] | 12 => [10, 11] | 13 => [] | 14 => [] | 15 => [13, 14] | 16 => [12, 15] | 17 => [9, 16] | 18 => [0, 3] | 19 => [0, 1, 2, 3, 4, 5, 6, 7, 8, 9, 10, 11, 12, 13, 14, 15, 16, 17, 18] | _ => []) (fun i => match i with | 0 => [19] | 1 => [19] | 2 => [19] | 3 => [19] | 4 => [19] | 5 => [19] | 6 => [19] | 7 => [19] | 8 => [19] | 9 => [19] | 10 => [19] | 11 => [19] | 12 => [19] | 13 => [19] | 14 => [19] | 15 => [19] | 16 => [19] | 17 => [19] | 18 => [19] | 19 => [] | _ => []) = true) (hl : l.length = 20)
    (h0 : pick l 0 = some (.move (.tmp 5), some 26))
    (h1 : pick l 1 = some (.move (.tmp 6), some 27))
    (h2 : pick l 2 = some (.move (.tmp 7), some 28))
    (h3 : pick l 3 = some (.binOp .add 3 (.tmp 27) (.tmp 28) 3, some 29))
    (h4 : pick l 4 = some (.move (.tmp 5), some 30))
    (h5 : pick l 5 = some (.move (.tmp 6), some 31))
    (h6 : pick l 6 = some (.move (.tmp 7), some 32))
    (h7 : pick l 7 = some (.binOp .add 3 (.tmp 31) (.tmp 32) 3, some 33))
    (h8 : pick l 8 = some (.indexAddr 41 (.tmp 30) (.tmp 33), some 34))
    (h9 : pick l 9 = some (.load 5 (.tmp 34), some 35))
    (h10 : pick l 10 = some (.move (.tmp 0), some 36))
    (h11 : pick l 11 = some (.move (.tmp 6), some 37))
    (h12 : pick l 12 = some (.index 9 (.tmp 36) (.tmp 37), some 38))
    (h13 : pick l 13 = some (.move (.tmp 1), some 39))
    (h14 : pick l 14 = some (.move (.tmp 7), some 40))
    (h15 : pick l 15 = some (.index 9 (.tmp 39) (.tmp 40), some 41))
    (h16 : pick l 16 = some (.call { callee := .value (.func 45), args := #[.tmp 38, .tmp 41], argTypes := #[5, 5] }, some 42))
    (h17 : pick l 17 = some (.binOp .xor 5 (.tmp 35) (.tmp 42) 5, some 43))
    (h18 : pick l 18 = some (.indexAddr 41 (.tmp 26) (.tmp 29), some 44))
    (h19 : pick l 19 = some (.store 5 (.tmp 44) (.tmp 43), none))
    (hs : A.tmps.size = 48)
    (x0 : A.eval (.tmp 0) = .string p)
    (x1 : A.eval (.tmp 1) = .string q)
    (x5 : A.eval (.tmp 5) = .slice (some ⟨sb, 0, none⟩) N N)
    (x6 : A.eval (.tmp 6) = .int .i64 (i : Nat))
    (x7 : A.eval (.tmp 7) = .int .i64 (j : Nat))
    (h : ∀ w1, Below w.heap.size w w1 → Q .normal (((((((((((((((((((A.put (some 26) (.slice (some ⟨sb, 0, none⟩) N N)).put (some 27) (.int .i64 (i : Nat))).put (some 28) (.int .i64 (j : Nat))).put (some 29) (.int .i64 (n : Nat))).put (some 30) (.slice (some ⟨sb, 0, none⟩) N N)).put (some 31) (.int .i64 (i : Nat))).put (some 32) (.int .i64 (j : Nat))).put (some 33) (.int .i64 (n : Nat))).put (some 34) (.pointer (some ⟨sb, n, none⟩))).put (some 35) (.int .u8 ((f n).toNat : Nat))).put (some 36) (.string p)).put (some 37) (.int .i64 (i : Nat))).put (some 38) (.int .u8 ((Gal.co p.data.toList i).toNat : Nat))).put (some 39) (.string q)).put (some 40) (.int .i64 (j : Nat))).put (some 41) (.int .u8 ((Gal.co q.data.toList j).toNat : Nat))).put (some 42) (.int .u8 ((Gal.mul (Gal.co p.data.toList i) (Gal.co q.data.toList j)).toNat : Nat))).put (some 43) (.int .u8 ((f n ^^^ Gal.mul (Gal.co p.data.toList i) (Gal.co q.data.toList j)).toNat : Nat))).put (some 44) (.pointer (some ⟨sb, n, none⟩))) (w1.setCell ⟨sb, n, none⟩ (.int .u8 ((f n ^^^ Gal.mul (Gal.co p.data.toList i) (Gal.co q.data.toList j)).toNat : Nat)))) :
    (Code.region id l.toArray d).wp Tryz.prog Q A w := by
  refine wp_region_invL (by kernel_rfl) _ _ hB (TimesRegion sb i j n N p q f A w) ⟨Off.refl _ _, fun _ => Below.refl _ _, by simp, by simp, by simp, by simp, by simp, by simp, by simp, by simp, by simp, by simp, by simp, by simp, by simp, by simp, by simp, by simp, by simp, by simp, by simp, by simp⟩ ⟨Off.refl _ _, fun _ => (Below.refl _ _).drew, by simp, by simp, by simp, by simp, by simp, by simp, by simp, by simp, by simp, by simp, by simp, by simp, by simp, by simp, by simp, by simp, by simp, by simp, by simp, by simp⟩ ?_ ?_
  · intro s a w' S i' o ho hsi hT K hK
    have sz : a.tmps.size = 48 := by rw [S.off.2.1]; exact hs
    have il : i' < 20 := by have := (List.getElem?_eq_some_iff.1 ho).1; omega
    have y0 : a.eval (.tmp 0) = .string p := by rw [S.off.eval (by decide)]; exact x0
    have y1 : a.eval (.tmp 1) = .string q := by rw [S.off.eval (by decide)]; exact x1
    have y5 : a.eval (.tmp 5) = .slice (some ⟨sb, 0, none⟩) N N := by rw [S.off.eval (by decide)]; exact x5
    have y6 : a.eval (.tmp 6) = .int .i64 (i : Nat) := by rw [S.off.eval (by decide)]; exact x6
    have y7 : a.eval (.tmp 7) = .int .i64 (j : Nat) := by rw [S.off.eval (by decide)]; exact x7
    match i', il, ho, hsi, hT with
    | 0, _, ho, hsi, hT =>
      obtain ⟨e1, e2⟩ := pick_of h0 ho
      have NL : s 19 = false := list_neg hT (k := 19) (by decide)
      have BW := S.before NL
      refine step_val (v := .slice (some ⟨sb, 0, none⟩) N N) (by simp only [execOp, e1, y5]; go_simp) (hK _ _ ?_)
      rw [e2]
      exact ⟨S.off.put (by decide) _, fun _ => S.before NL, fun g => absurd g (by simp [NL]), fun _ => (eval_put _ _ _ (by omega)).trans rfl, kp S.t1, kp S.t2, kp S.t3, kp S.t4, kp S.t5, kp S.t6, kp S.t7, kp S.t8, kp S.t9, kp S.t10, kp S.t11, kp S.t12, kp S.t13, kp S.t14, kp S.t15, kp S.t16, kp S.t17, kp S.t18⟩
    | 1, _, ho, hsi, hT =>
      obtain ⟨e1, e2⟩ := pick_of h1 ho
      have NL : s 19 = false := list_neg hT (k := 19) (by decide)
      have BW := S.before NL
      refine step_val (v := .int .i64 (i : Nat)) (by simp only [execOp, e1, y6]; go_simp) (hK _ _ ?_)
      rw [e2]
      exact ⟨S.off.put (by decide) _, fun _ => S.before NL, fun g => absurd g (by simp [NL]), kp S.t0, fun _ => (eval_put _ _ _ (by omega)).trans rfl, kp S.t2, kp S.t3, kp S.t4, kp S.t5, kp S.t6, kp S.t7, kp S.t8, kp S.t9, kp S.t10, kp S.t11, kp S.t12, kp S.t13, kp S.t14, kp S.t15, kp S.t16, kp S.t17, kp S.t18⟩
    | 2, _, ho, hsi, hT =>
      obtain ⟨e1, e2⟩ := pick_of h2 ho
      have NL : s 19 = false := list_neg hT (k := 19) (by decide)
      have BW := S.before NL
      refine step_val (v := .int .i64 (j : Nat)) (by simp only [execOp, e1, y7]; go_simp) (hK _ _ ?_)
      rw [e2]
      exact ⟨S.off.put (by decide) _, fun _ => S.before NL, fun g => absurd g (by simp [NL]), kp S.t0, kp S.t1, fun _ => (eval_put _ _ _ (by omega)).trans rfl, kp S.t3, kp S.t4, kp S.t5, kp S.t6, kp S.t7, kp S.t8, kp S.t9, kp S.t10, kp S.t11, kp S.t12, kp S.t13, kp S.t14, kp S.t15, kp S.t16, kp S.t17, kp S.t18⟩
    | 3, _, ho, hsi, hT =>
      obtain ⟨e1, e2⟩ := pick_of h3 ho
      have D1 : s 1 = true := list_pos hT (d := 1) (by decide)
      have D2 : s 2 = true := list_pos hT (d := 2) (by decide)
      have NL : s 19 = false := list_neg hT (k := 19) (by decide)
      have BW := S.before NL
      refine step_val (v := .int .i64 (n : Nat)) (by simp only [execOp, e1, S.t1 D1, S.t2 D2]; go_simp; rw [IntKind.wrap_i64]; omega) (hK _ _ ?_)
      rw [e2]
      exact ⟨S.off.put (by decide) _, fun _ => S.before NL, fun g => absurd g (by simp [NL]), kp S.t0, kp S.t1, kp S.t2, fun _ => (eval_put _ _ _ (by omega)).trans rfl, kp S.t4, kp S.t5, kp S.t6, kp S.t7, kp S.t8, kp S.t9, kp S.t10, kp S.t11, kp S.t12, kp S.t13, kp S.t14, kp S.t15, kp S.t16, kp S.t17, kp S.t18⟩
    | 4, _, ho, hsi, hT =>
      obtain ⟨e1, e2⟩ := pick_of h4 ho
      have NL : s 19 = false := list_neg hT (k := 19) (by decide)
      have BW := S.before NL
      refine step_val (v := .slice (some ⟨sb, 0, none⟩) N N) (by simp only [execOp, e1, y5]; go_simp) (hK _ _ ?_)
      rw [e2]
      exact ⟨S.off.put (by decide) _, fun _ => S.before NL, fun g => absurd g (by simp [NL]), kp S.t0, kp S.t1, kp S.t2, kp S.t3, fun _ => (eval_put _ _ _ (by omega)).trans rfl, kp S.t5, kp S.t6, kp S.t7, kp S.t8, kp S.t9, kp S.t10, kp S.t11, kp S.t12, kp S.t13, kp S.t14, kp S.t15, kp S.t16, kp S.t17, kp S.t18⟩
    | 5, _, ho, hsi, hT =>
      obtain ⟨e1, e2⟩ := pick_of h5 ho
      have NL : s 19 = false := list_neg hT (k := 19) (by decide)
      have BW := S.before NL
      refine step_val (v := .int .i64 (i : Nat)) (by simp only [execOp, e1, y6]; go_simp) (hK _ _ ?_)
      rw [e2]
      exact ⟨S.off.put (by decide) _, fun _ => S.before NL, fun g => absurd g (by simp [NL]), kp S.t0, kp S.t1, kp S.t2, kp S.t3, kp S.t4, fun _ => (eval_put _ _ _ (by omega)).trans rfl, kp S.t6, kp S.t7, kp S.t8, kp S.t9, kp S.t10, kp S.t11, kp S.t12, kp S.t13, kp S.t14, kp S.t15, kp S.t16, kp S.t17, kp S.t18⟩
    | 6, _, ho, hsi, hT =>
      obtain ⟨e1, e2⟩ := pick_of h6 ho
      have NL : s 19 = false := list_neg hT (k := 19) (by decide)
      have BW := S.before NL
      refine step_val (v := .int .i64 (j : Nat)) (by simp only [execOp, e1, y7]; go_simp) (hK _ _ ?_)
      rw [e2]
      exact ⟨S.off.put (by decide) _, fun _ => S.before NL, fun g => absurd g (by simp [NL]), kp S.t0, kp S.t1, kp S.t2, kp S.t3, kp S.t4, kp S.t5, fun _ => (eval_put _ _ _ (by omega)).trans rfl, kp S.t7, kp S.t8, kp S.t9, kp S.t10, kp S.t11, kp S.t12, kp S.t13, kp S.t14, kp S.t15, kp S.t16, kp S.t17, kp S.t18⟩
    | 7, _, ho, hsi, hT =>
      obtain ⟨e1, e2⟩ := pick_of h7 ho
      have D5 : s 5 = true := list_pos hT (d := 5) (by decide)
      have D6 : s 6 = true := list_pos hT (d := 6) (by decide)
      have NL : s 19 = false := list_neg hT (k := 19) (by decide)
      have BW := S.before NL
      refine step_val (v := .int .i64 (n : Nat)) (by simp only [execOp, e1, S.t5 D5, S.t6 D6]; go_simp; rw [IntKind.wrap_i64]; omega) (hK _ _ ?_)
      rw [e2]
      exact ⟨S.off.put (by decide) _, fun _ => S.before NL, fun g => absurd g (by simp [NL]), kp S.t0, kp S.t1, kp S.t2, kp S.t3, kp S.t4, kp S.t5, kp S.t6, fun _ => (eval_put _ _ _ (by omega)).trans rfl, kp S.t8, kp S.t9, kp S.t10, kp S.t11, kp S.t12, kp S.t13, kp S.t14, kp S.t15, kp S.t16, kp S.t17, kp S.t18⟩
    | 8, _, ho, hsi, hT =>
      obtain ⟨e1, e2⟩ := pick_of h8 ho
      have D4 : s 4 = true := list_pos hT (d := 4) (by decide)
      have D7 : s 7 = true := list_pos hT (d := 7) (by decide)
      have NL : s 19 = false := list_neg hT (k := 19) (by decide)
      have BW := S.before NL
      refine step_val (v := .pointer (some ⟨sb, n, none⟩)) (by simp only [execOp, e1, S.t4 D4, S.t7 D7]; go_simp) (hK _ _ ?_)
      rw [e2]
      exact ⟨S.off.put (by decide) _, fun _ => S.before NL, fun g => absurd g (by simp [NL]), kp S.t0, kp S.t1, kp S.t2, kp S.t3, kp S.t4, kp S.t5, kp S.t6, kp S.t7, fun _ => (eval_put _ _ _ (by omega)).trans rfl, kp S.t9, kp S.t10, kp S.t11, kp S.t12, kp S.t13, kp S.t14, kp S.t15, kp S.t16, kp S.t17, kp S.t18⟩
    | 9, _, ho, hsi, hT =>
      obtain ⟨e1, e2⟩ := pick_of h9 ho
      have D8 : s 8 = true := list_pos hT (d := 8) (by decide)
      have NL : s 19 = false := list_neg hT (k := 19) (by decide)
      have BW := S.before NL
      have cl := (hF.below BW).cell hN
      refine step_val (v := .int .u8 ((f n).toNat : Nat)) (by simp only [execOp, e1, S.t8 D8]; go_simp) (hK _ _ ?_)
      rw [e2]
      exact ⟨S.off.put (by decide) _, fun _ => S.before NL, fun g => absurd g (by simp [NL]), kp S.t0, kp S.t1, kp S.t2, kp S.t3, kp S.t4, kp S.t5, kp S.t6, kp S.t7, kp S.t8, fun _ => (eval_put _ _ _ (by omega)).trans rfl, kp S.t10, kp S.t11, kp S.t12, kp S.t13, kp S.t14, kp S.t15, kp S.t16, kp S.t17, kp S.t18⟩
    | 10, _, ho, hsi, hT =>
      obtain ⟨e1, e2⟩ := pick_of h10 ho
      have NL : s 19 = false := list_neg hT (k := 19) (by decide)
      have BW := S.before NL
      refine step_val (v := .string p) (by simp only [execOp, e1, y0]; go_simp) (hK _ _ ?_)
      rw [e2]
      exact ⟨S.off.put (by decide) _, fun _ => S.before NL, fun g => absurd g (by simp [NL]), kp S.t0, kp S.t1, kp S.t2, kp S.t3, kp S.t4, kp S.t5, kp S.t6, kp S.t7, kp S.t8, kp S.t9, fun _ => (eval_put _ _ _ (by omega)).trans rfl, kp S.t11, kp S.t12, kp S.t13, kp S.t14, kp S.t15, kp S.t16, kp S.t17, kp S.t18⟩
    | 11, _, ho, hsi, hT =>
      obtain ⟨e1, e2⟩ := pick_of h11 ho
      have NL : s 19 = false := list_neg hT (k := 19) (by decide)
      have BW := S.before NL
      refine step_val (v := .int .i64 (i : Nat)) (by simp only [execOp, e1, y6]; go_simp) (hK _ _ ?_)
      rw [e2]
      exact ⟨S.off.put (by decide) _, fun _ => S.before NL, fun g => absurd g (by simp [NL]), kp S.t0, kp S.t1, kp S.t2, kp S.t3, kp S.t4, kp S.t5, kp S.t6, kp S.t7, kp S.t8, kp S.t9, kp S.t10, fun _ => (eval_put _ _ _ (by omega)).trans rfl, kp S.t12, kp S.t13, kp S.t14, kp S.t15, kp S.t16, kp S.t17, kp S.t18⟩
    | 12, _, ho, hsi, hT =>
      obtain ⟨e1, e2⟩ := pick_of h12 ho
      have D10 : s 10 = true := list_pos hT (d := 10) (by decide)
      have D11 : s 11 = true := list_pos hT (d := 11) (by decide)
      have NL : s 19 = false := list_neg hT (k := 19) (by decide)
      have BW := S.before NL
      have bc := byte_co p i hi
      refine step_val (v := .int .u8 ((Gal.co p.data.toList i).toNat : Nat)) (by simp only [execOp, e1, S.t10 D10, S.t11 D11]; go_simp) (hK _ _ ?_)
      rw [e2]
      exact ⟨S.off.put (by decide) _, fun _ => S.before NL, fun g => absurd g (by simp [NL]), kp S.t0, kp S.t1, kp S.t2, kp S.t3, kp S.t4, kp S.t5, kp S.t6, kp S.t7, kp S.t8, kp S.t9, kp S.t10, kp S.t11, fun _ => (eval_put _ _ _ (by omega)).trans rfl, kp S.t13, kp S.t14, kp S.t15, kp S.t16, kp S.t17, kp S.t18⟩
    | 13, _, ho, hsi, hT =>
      obtain ⟨e1, e2⟩ := pick_of h13 ho
      have NL : s 19 = false := list_neg hT (k := 19) (by decide)
      have BW := S.before NL
      refine step_val (v := .string q) (by simp only [execOp, e1, y1]; go_simp) (hK _ _ ?_)
      rw [e2]
      exact ⟨S.off.put (by decide) _, fun _ => S.before NL, fun g => absurd g (by simp [NL]), kp S.t0, kp S.t1, kp S.t2, kp S.t3, kp S.t4, kp S.t5, kp S.t6, kp S.t7, kp S.t8, kp S.t9, kp S.t10, kp S.t11, kp S.t12, fun _ => (eval_put _ _ _ (by omega)).trans rfl, kp S.t14, kp S.t15, kp S.t16, kp S.t17, kp S.t18⟩
    | 14, _, ho, hsi, hT =>
      obtain ⟨e1, e2⟩ := pick_of h14 ho
      have NL : s 19 = false := list_neg hT (k := 19) (by decide)
      have BW := S.before NL
      refine step_val (v := .int .i64 (j : Nat)) (by simp only [execOp, e1, y7]; go_simp) (hK _ _ ?_)
      rw [e2]
      exact ⟨S.off.put (by decide) _, fun _ => S.before NL, fun g => absurd g (by simp [NL]), kp S.t0, kp S.t1, kp S.t2, kp S.t3, kp S.t4, kp S.t5, kp S.t6, kp S.t7, kp S.t8, kp S.t9, kp S.t10, kp S.t11, kp S.t12, kp S.t13, fun _ => (eval_put _ _ _ (by omega)).trans rfl, kp S.t15, kp S.t16, kp S.t17, kp S.t18⟩
    | 15, _, ho, hsi, hT =>
      obtain ⟨e1, e2⟩ := pick_of h15 ho
      have D13 : s 13 = true := list_pos hT (d := 13) (by decide)
      have D14 : s 14 = true := list_pos hT (d := 14) (by decide)
      have NL : s 19 = false := list_neg hT (k := 19) (by decide)
      have BW := S.before NL
      have bc := byte_co q j hj
      refine step_val (v := .int .u8 ((Gal.co q.data.toList j).toNat : Nat)) (by simp only [execOp, e1, S.t13 D13, S.t14 D14]; go_simp) (hK _ _ ?_)
      rw [e2]
      exact ⟨S.off.put (by decide) _, fun _ => S.before NL, fun g => absurd g (by simp [NL]), kp S.t0, kp S.t1, kp S.t2, kp S.t3, kp S.t4, kp S.t5, kp S.t6, kp S.t7, kp S.t8, kp S.t9, kp S.t10, kp S.t11, kp S.t12, kp S.t13, kp S.t14, fun _ => (eval_put _ _ _ (by omega)).trans rfl, kp S.t16, kp S.t17, kp S.t18⟩
    | 16, _, ho, hsi, hT =>
      obtain ⟨e1, e2⟩ := pick_of h16 ho
      have D12 : s 12 = true := list_pos hT (d := 12) (by decide)
      have D15 : s 15 = true := list_pos hT (d := 15) (by decide)
      have NL : s 19 = false := list_neg hT (k := 19) (by decide)
      have BW := S.before NL
      refine step_call 45 (fun args w => by go_simp) _ _ e1 #[.int .u8 ((Gal.co p.data.toList i).toNat : Nat), .int .u8 ((Gal.co q.data.toList j).toNat : Nat)] (by simp only [List.map_toArray, List.map_cons, List.map_nil, S.t12 D12, S.t15 D15]) ((rmulB (Gal.co p.data.toList i) (Gal.co q.data.toList j) _).mono ?_)
      rintro e w2 ⟨rfl, BB⟩
      refine ⟨_, rfl, hK _ _ ?_⟩
      rw [e2]
      exact ⟨S.off.put (by decide) _, fun _ => bt BW BB, fun g => absurd g (by simp [NL]), kp S.t0, kp S.t1, kp S.t2, kp S.t3, kp S.t4, kp S.t5, kp S.t6, kp S.t7, kp S.t8, kp S.t9, kp S.t10, kp S.t11, kp S.t12, kp S.t13, kp S.t14, kp S.t15, fun _ => (eval_put _ _ _ (by omega)).trans rfl, kp S.t17, kp S.t18⟩
    | 17, _, ho, hsi, hT =>
      obtain ⟨e1, e2⟩ := pick_of h17 ho
      have D9 : s 9 = true := list_pos hT (d := 9) (by decide)
      have D16 : s 16 = true := list_pos hT (d := 16) (by decide)
      have NL : s 19 = false := list_neg hT (k := 19) (by decide)
      have BW := S.before NL
      have xr := xor8 (f n) (Gal.mul (Gal.co p.data.toList i) (Gal.co q.data.toList j))
      refine step_val (v := .int .u8 ((f n ^^^ Gal.mul (Gal.co p.data.toList i) (Gal.co q.data.toList j)).toNat : Nat)) (by simp only [execOp, e1, S.t9 D9, S.t16 D16]; go_simp) (hK _ _ ?_)
      rw [e2]
      exact ⟨S.off.put (by decide) _, fun _ => S.before NL, fun g => absurd g (by simp [NL]), kp S.t0, kp S.t1, kp S.t2, kp S.t3, kp S.t4, kp S.t5, kp S.t6, kp S.t7, kp S.t8, kp S.t9, kp S.t10, kp S.t11, kp S.t12, kp S.t13, kp S.t14, kp S.t15, kp S.t16, fun _ => (eval_put _ _ _ (by omega)).trans rfl, kp S.t18⟩
    | 18, _, ho, hsi, hT =>
      obtain ⟨e1, e2⟩ := pick_of h18 ho
      have D0 : s 0 = true := list_pos hT (d := 0) (by decide)
      have D3 : s 3 = true := list_pos hT (d := 3) (by decide)
      have NL : s 19 = false := list_neg hT (k := 19) (by decide)
      have BW := S.before NL
      refine step_val (v := .pointer (some ⟨sb, n, none⟩)) (by simp only [execOp, e1, S.t0 D0, S.t3 D3]; go_simp) (hK _ _ ?_)
      rw [e2]
      exact ⟨S.off.put (by decide) _, fun _ => S.before NL, fun g => absurd g (by simp [NL]), kp S.t0, kp S.t1, kp S.t2, kp S.t3, kp S.t4, kp S.t5, kp S.t6, kp S.t7, kp S.t8, kp S.t9, kp S.t10, kp S.t11, kp S.t12, kp S.t13, kp S.t14, kp S.t15, kp S.t16, kp S.t17, fun _ => (eval_put _ _ _ (by omega)).trans rfl⟩
    | 19, _, ho, hsi, hT =>
      obtain ⟨e1, e2⟩ := pick_of h19 ho
      have D0 : s 0 = true := list_pos hT (d := 0) (by decide)
      have D1 : s 1 = true := list_pos hT (d := 1) (by decide)
      have D2 : s 2 = true := list_pos hT (d := 2) (by decide)
      have D3 : s 3 = true := list_pos hT (d := 3) (by decide)
      have D4 : s 4 = true := list_pos hT (d := 4) (by decide)
      have D5 : s 5 = true := list_pos hT (d := 5) (by decide)
      have D6 : s 6 = true := list_pos hT (d := 6) (by decide)
      have D7 : s 7 = true := list_pos hT (d := 7) (by decide)
      have D8 : s 8 = true := list_pos hT (d := 8) (by decide)
      have D9 : s 9 = true := list_pos hT (d := 9) (by decide)
      have D10 : s 10 = true := list_pos hT (d := 10) (by decide)
      have D11 : s 11 = true := list_pos hT (d := 11) (by decide)
      have D12 : s 12 = true := list_pos hT (d := 12) (by decide)
      have D13 : s 13 = true := list_pos hT (d := 13) (by decide)
      have D14 : s 14 = true := list_pos hT (d := 14) (by decide)
      have D15 : s 15 = true := list_pos hT (d := 15) (by decide)
      have D16 : s 16 = true := list_pos hT (d := 16) (by decide)
      have D17 : s 17 = true := list_pos hT (d := 17) (by decide)
      have D18 : s 18 = true := list_pos hT (d := 18) (by decide)
      have BW := S.before hsi
      have cl := (hF.below BW).cell hN
      have fz := (hF.below BW).frozen hN
      refine step_to (w2 := w'.setCell ⟨sb, n, none⟩ (.int .u8 ((f n ^^^ Gal.mul (Gal.co p.data.toList i) (Gal.co q.data.toList j)).toNat : Nat))) (by simp only [execOp, e1, S.t18 D18, S.t17 D17]; go_simp) (hK _ _ ?_)
      rw [e2]
      exact ⟨S.off.put_none _, fun g => absurd g (by simp), fun _ => ⟨w', BW, rfl⟩, fun g => S.t0 (by simpa using g), fun g => S.t1 (by simpa using g), fun g => S.t2 (by simpa using g), fun g => S.t3 (by simpa using g), fun g => S.t4 (by simpa using g), fun g => S.t5 (by simpa using g), fun g => S.t6 (by simpa using g), fun g => S.t7 (by simpa using g), fun g => S.t8 (by simpa using g), fun g => S.t9 (by simpa using g), fun g => S.t10 (by simpa using g), fun g => S.t11 (by simpa using g), fun g => S.t12 (by simpa using g), fun g => S.t13 (by simpa using g), fun g => S.t14 (by simpa using g), fun g => S.t15 (by simpa using g), fun g => S.t16 (by simpa using g), fun g => S.t17 (by simpa using g), fun g => S.t18 (by simpa using g)⟩
    | _ + 20, il, _, _, _ => exact absurd il (by omega)
  · intro s a w' S hall
    have a0 := hall 0 (by omega)
    have a1 := hall 1 (by omega)
    have a2 := hall 2 (by omega)
    have a3 := hall 3 (by omega)
    have a4 := hall 4 (by omega)
    have a5 := hall 5 (by omega)
    have a6 := hall 6 (by omega)
    have a7 := hall 7 (by omega)
    have a8 := hall 8 (by omega)
    have a9 := hall 9 (by omega)
    have a10 := hall 10 (by omega)
    have a11 := hall 11 (by omega)
    have a12 := hall 12 (by omega)
    have a13 := hall 13 (by omega)
    have a14 := hall 14 (by omega)
    have a15 := hall 15 (by omega)
    have a16 := hall 16 (by omega)
    have a17 := hall 17 (by omega)
    have a18 := hall 18 (by omega)
    have a19 := hall 19 (by omega)
    have e := off_norm _ (by intro d hd; simp at hd; omega) S.off
    simp only [List.foldl, S.t0 a0, S.t1 a1, S.t2 a2, S.t3 a3, S.t4 a4, S.t5 a5, S.t6 a6, S.t7 a7, S.t8 a8, S.t9 a9, S.t10 a10, S.t11 a11, S.t12 a12, S.t13 a13, S.t14 a14, S.t15 a15, S.t16 a16, S.t17 a17, S.t18 a18] at e
    obtain ⟨w1, BW, rfl⟩ := S.behind a19
    rw [e]
    exact h _ BW
structure CoefRegion (sb i t N C : Nat) (x y : BitVec 8) (q : ByteArray) (f : Nat → BitVec 8) (A : Act) (w0 : World) (s : Nat → Bool) (a : Act) (w : World) : Prop where
  off : Off [33, 34, 35, 36, 37, 38, 39, 40, 32, 41, 42, 11, 12] a A
  before : Below w0.heap.size w0 w
  t0 : s 0 = true → a.eval (.tmp 33) = .slice (some ⟨sb, 0, none⟩) N C
  t1 : s 1 = true → a.eval (.tmp 34) = .int .i64 (i : Nat)
  t2 : s 2 = true → a.eval (.tmp 35) = .pointer (some ⟨sb, i, none⟩)
  t3 : s 3 = true → a.eval (.tmp 36) = .int .u8 (x.toNat : Nat)
  t4 : s 4 = true → a.eval (.tmp 37) = .string q
  t5 : s 5 = true → a.eval (.tmp 38) = .int .i64 (t : Nat)
  t6 : s 6 = true → a.eval (.tmp 39) = .int .u8 (y.toNat : Nat)
  t7 : s 7 = true → a.eval (.tmp 40) = .tuple #[.int .u8 ((Gal.divV x y).toNat : Nat), .int .i64 (Gal.divE y)]
  t8 : s 8 = true → a.eval (.tmp 32) = .tuple #[.int .u8 ((Gal.divV x y).toNat : Nat), .int .i64 (Gal.divE y)]
  t9 : s 9 = true → a.eval (.tmp 41) = .int .u8 ((Gal.divV x y).toNat : Nat)
  t10 : s 10 = true → a.eval (.tmp 42) = .int .i64 (Gal.divE y)
  t11 : s 11 = true → a.eval (.tmp 11) = .int .u8 ((Gal.divV x y).toNat : Nat)
  t12 : s 12 = true → a.eval (.tmp 12) = .int .i64 (Gal.divE y)
set_option maxHeartbeats 2000000 in
set_option maxRecDepth 100000 in
theorem coefRegion {id : Nat} {d : Bool} {l : List Oper} {A : Act} {w : World} {Q : Exit → Act → World → Prop} (sb i t N C : Nat) (x y : BitVec 8) (q : ByteArray) (f : Nat → BitVec 8)
    (hN : i < N) (hN2 : N ≤ 4000000) (hF : NumsK .u8 w sb N (fun j => (f j).toNat)) (hx : f i = x) (ht : t < q.size) (hy : Gal.co q.data.toList t = y)
    (hB : tableL d l.toArray (fun i => match i with | 0 => [] | 1 => [] | 2 => [0, 1] | 3 => [2] | 4 => [] | 5 => [] | 6 => [4, 5] | 7 => [3, 6] | 8 => [7] | 9 => [8] | 10 => [8] | 11 => [9] | 12 => [10] | _ => []) (fun i => match i with | 0 => [] | 1 => [] | 2 => [] | 3 => [] | 4 => [] | 5 => [] | 6 => [] | 7 => [] | 8 => [] | 9 => [] | 10 => [] | 11 => [] | 12 => [] | _ => []) = true) (hl : l.length = 13)
    (h0 : pick l 0 = some (.move (.tmp 8), some 33))
    (h1 : pick l 1 = some (.move (.tmp 10), some 34))
    (h2 : pick l 2 = some (.indexAddr 41 (.tmp 33) (.tmp 34), some 35))
    (h3 : pick l 3 = some (.load 5 (.tmp 35), some 36))
    (h4 : pick l 4 = some (.move (.tmp 1), some 37))
    (h5 : pick l 5 = some (.move (.tmp 7), some 38))
    (h6 : pick l 6 = some (.index 9 (.tmp 37) (.tmp 38), some 39))
    (h7 : pick l 7 = some (.call { callee := .value (.func 44), args := #[.tmp 36, .tmp 39], argTypes := #[5, 5] }, some 40))
    (h8 : pick l 8 = some (.move (.tmp 40), some 32))
    (h9 : pick l 9 = some (.extract (.tmp 32) 0, some 41))
    (h10 : pick l 10 = some (.extract (.tmp 32) 1, some 42))
    (h11 : pick l 11 = some (.assign (.tmp 41), some 11))
    (h12 : pick l 12 = some (.assign (.tmp 42), some 12))
    (hs : A.tmps.size = 81)
    (x1 : A.eval (.tmp 1) = .string q)
    (x7 : A.eval (.tmp 7) = .int .i64 (t : Nat))
    (x8 : A.eval (.tmp 8) = .slice (some ⟨sb, 0, none⟩) N C)
    (x10 : A.eval (.tmp 10) = .int .i64 (i : Nat))
    (h : ∀ w1, Below w.heap.size w w1 → Q .normal (((((((((((((A.put (some 33) (.slice (some ⟨sb, 0, none⟩) N C)).put (some 34) (.int .i64 (i : Nat))).put (some 35) (.pointer (some ⟨sb, i, none⟩))).put (some 36) (.int .u8 (x.toNat : Nat))).put (some 37) (.string q)).put (some 38) (.int .i64 (t : Nat))).put (some 39) (.int .u8 (y.toNat : Nat))).put (some 40) (.tuple #[.int .u8 ((Gal.divV x y).toNat : Nat), .int .i64 (Gal.divE y)])).put (some 32) (.tuple #[.int .u8 ((Gal.divV x y).toNat : Nat), .int .i64 (Gal.divE y)])).put (some 41) (.int .u8 ((Gal.divV x y).toNat : Nat))).put (some 42) (.int .i64 (Gal.divE y))).put (some 11) (.int .u8 ((Gal.divV x y).toNat : Nat))).put (some 12) (.int .i64 (Gal.divE y))) w1) :
    (Code.region id l.toArray d).wp Tryz.prog Q A w := by
  refine wp_region_invL (by kernel_rfl) _ _ hB (CoefRegion sb i t N C x y q f A w) ⟨Off.refl _ _, Below.refl _ _, by simp, by simp, by simp, by simp, by simp, by simp, by simp, by simp, by simp, by simp, by simp, by simp, by simp⟩ ⟨Off.refl _ _, (Below.refl _ _).drew, by simp, by simp, by simp, by simp, by simp, by simp, by simp, by simp, by simp, by simp, by simp, by simp, by simp⟩ ?_ ?_
  · intro s a w' S i' o ho hsi hT K hK
    have sz : a.tmps.size = 81 := by rw [S.off.2.1]; exact hs
    have il : i' < 13 := by have := (List.getElem?_eq_some_iff.1 ho).1; omega
    have y1 : a.eval (.tmp 1) = .string q := by rw [S.off.eval (by decide)]; exact x1
    have y7 : a.eval (.tmp 7) = .int .i64 (t : Nat) := by rw [S.off.eval (by decide)]; exact x7
    have y8 : a.eval (.tmp 8) = .slice (some ⟨sb, 0, none⟩) N C := by rw [S.off.eval (by decide)]; exact x8
    have y10 : a.eval (.tmp 10) = .int .i64 (i : Nat) := by rw [S.off.eval (by decide)]; exact x10
    match i', il, ho, hsi, hT with
    | 0, _, ho, hsi, hT =>
      obtain ⟨e1, e2⟩ := pick_of h0 ho
      have BW := S.before
      refine step_val (v := .slice (some ⟨sb, 0, none⟩) N C) (by simp only [execOp, e1, y8]; go_simp) (hK _ _ ?_)
      rw [e2]
      exact ⟨S.off.put (by decide) _, S.before, fun _ => (eval_put _ _ _ (by omega)).trans rfl, kp S.t1, kp S.t2, kp S.t3, kp S.t4, kp S.t5, kp S.t6, kp S.t7, kp S.t8, kp S.t9, kp S.t10, kp S.t11, kp S.t12⟩
    | 1, _, ho, hsi, hT =>
      obtain ⟨e1, e2⟩ := pick_of h1 ho
      have BW := S.before
      refine step_val (v := .int .i64 (i : Nat)) (by simp only [execOp, e1, y10]; go_simp) (hK _ _ ?_)
      rw [e2]
      exact ⟨S.off.put (by decide) _, S.before, kp S.t0, fun _ => (eval_put _ _ _ (by omega)).trans rfl, kp S.t2, kp S.t3, kp S.t4, kp S.t5, kp S.t6, kp S.t7, kp S.t8, kp S.t9, kp S.t10, kp S.t11, kp S.t12⟩
    | 2, _, ho, hsi, hT =>
      obtain ⟨e1, e2⟩ := pick_of h2 ho
      have D0 : s 0 = true := list_pos hT (d := 0) (by decide)
      have D1 : s 1 = true := list_pos hT (d := 1) (by decide)
      have BW := S.before
      refine step_val (v := .pointer (some ⟨sb, i, none⟩)) (by simp only [execOp, e1, S.t0 D0, S.t1 D1]; go_simp) (hK _ _ ?_)
      rw [e2]
      exact ⟨S.off.put (by decide) _, S.before, kp S.t0, kp S.t1, fun _ => (eval_put _ _ _ (by omega)).trans rfl, kp S.t3, kp S.t4, kp S.t5, kp S.t6, kp S.t7, kp S.t8, kp S.t9, kp S.t10, kp S.t11, kp S.t12⟩
    | 3, _, ho, hsi, hT =>
      obtain ⟨e1, e2⟩ := pick_of h3 ho
      have D2 : s 2 = true := list_pos hT (d := 2) (by decide)
      have BW := S.before
      have cl := (hF.below BW).cell hN
      rw [hx] at cl
      refine step_val (v := .int .u8 (x.toNat : Nat)) (by simp only [execOp, e1, S.t2 D2]; go_simp) (hK _ _ ?_)
      rw [e2]
      exact ⟨S.off.put (by decide) _, S.before, kp S.t0, kp S.t1, kp S.t2, fun _ => (eval_put _ _ _ (by omega)).trans rfl, kp S.t4, kp S.t5, kp S.t6, kp S.t7, kp S.t8, kp S.t9, kp S.t10, kp S.t11, kp S.t12⟩
    | 4, _, ho, hsi, hT =>
      obtain ⟨e1, e2⟩ := pick_of h4 ho
      have BW := S.before
      refine step_val (v := .string q) (by simp only [execOp, e1, y1]; go_simp) (hK _ _ ?_)
      rw [e2]
      exact ⟨S.off.put (by decide) _, S.before, kp S.t0, kp S.t1, kp S.t2, kp S.t3, fun _ => (eval_put _ _ _ (by omega)).trans rfl, kp S.t5, kp S.t6, kp S.t7, kp S.t8, kp S.t9, kp S.t10, kp S.t11, kp S.t12⟩
    | 5, _, ho, hsi, hT =>
      obtain ⟨e1, e2⟩ := pick_of h5 ho
      have BW := S.before
      refine step_val (v := .int .i64 (t : Nat)) (by simp only [execOp, e1, y7]; go_simp) (hK _ _ ?_)
      rw [e2]
      exact ⟨S.off.put (by decide) _, S.before, kp S.t0, kp S.t1, kp S.t2, kp S.t3, kp S.t4, fun _ => (eval_put _ _ _ (by omega)).trans rfl, kp S.t6, kp S.t7, kp S.t8, kp S.t9, kp S.t10, kp S.t11, kp S.t12⟩
    | 6, _, ho, hsi, hT =>
      obtain ⟨e1, e2⟩ := pick_of h6 ho
      have D4 : s 4 = true := list_pos hT (d := 4) (by decide)
      have D5 : s 5 = true := list_pos hT (d := 5) (by decide)
      have BW := S.before
      have bc := byte_co q t ht
      rw [hy] at bc
      refine step_val (v := .int .u8 (y.toNat : Nat)) (by simp only [execOp, e1, S.t4 D4, S.t5 D5]; go_simp) (hK _ _ ?_)
      rw [e2]
      exact ⟨S.off.put (by decide) _, S.before, kp S.t0, kp S.t1, kp S.t2, kp S.t3, kp S.t4, kp S.t5, fun _ => (eval_put _ _ _ (by omega)).trans rfl, kp S.t7, kp S.t8, kp S.t9, kp S.t10, kp S.t11, kp S.t12⟩
    | 7, _, ho, hsi, hT =>
      obtain ⟨e1, e2⟩ := pick_of h7 ho
      have D3 : s 3 = true := list_pos hT (d := 3) (by decide)
      have D6 : s 6 = true := list_pos hT (d := 6) (by decide)
      have BW := S.before
      refine step_call 44 (fun args w => by go_simp) _ _ e1 #[.int .u8 (x.toNat : Nat), .int .u8 (y.toNat : Nat)] (by simp only [List.map_toArray, List.map_cons, List.map_nil, S.t3 D3, S.t6 D6]) ((rdivB x y _).mono ?_)
      rintro e w2 ⟨rfl, BB⟩
      refine ⟨_, rfl, hK _ _ ?_⟩
      rw [e2]
      exact ⟨S.off.put (by decide) _, bt BW BB, kp S.t0, kp S.t1, kp S.t2, kp S.t3, kp S.t4, kp S.t5, kp S.t6, fun _ => (eval_put _ _ _ (by omega)).trans rfl, kp S.t8, kp S.t9, kp S.t10, kp S.t11, kp S.t12⟩
    | 8, _, ho, hsi, hT =>
      obtain ⟨e1, e2⟩ := pick_of h8 ho
      have D7 : s 7 = true := list_pos hT (d := 7) (by decide)
      have BW := S.before
      refine step_val (v := .tuple #[.int .u8 ((Gal.divV x y).toNat : Nat), .int .i64 (Gal.divE y)]) (by simp only [execOp, e1, S.t7 D7]; go_simp) (hK _ _ ?_)
      rw [e2]
      exact ⟨S.off.put (by decide) _, S.before, kp S.t0, kp S.t1, kp S.t2, kp S.t3, kp S.t4, kp S.t5, kp S.t6, kp S.t7, fun _ => (eval_put _ _ _ (by omega)).trans rfl, kp S.t9, kp S.t10, kp S.t11, kp S.t12⟩
    | 9, _, ho, hsi, hT =>
      obtain ⟨e1, e2⟩ := pick_of h9 ho
      have D8 : s 8 = true := list_pos hT (d := 8) (by decide)
      have BW := S.before
      refine step_val (v := .int .u8 ((Gal.divV x y).toNat : Nat)) (by simp only [execOp, e1, S.t8 D8]; go_simp) (hK _ _ ?_)
      rw [e2]
      exact ⟨S.off.put (by decide) _, S.before, kp S.t0, kp S.t1, kp S.t2, kp S.t3, kp S.t4, kp S.t5, kp S.t6, kp S.t7, kp S.t8, fun _ => (eval_put _ _ _ (by omega)).trans rfl, kp S.t10, kp S.t11, kp S.t12⟩
    | 10, _, ho, hsi, hT =>
      obtain ⟨e1, e2⟩ := pick_of h10 ho
      have D8 : s 8 = true := list_pos hT (d := 8) (by decide)
      have BW := S.before
      refine step_val (v := .int .i64 (Gal.divE y)) (by simp only [execOp, e1, S.t8 D8]; go_simp) (hK _ _ ?_)
      rw [e2]
      exact ⟨S.off.put (by decide) _, S.before, kp S.t0, kp S.t1, kp S.t2, kp S.t3, kp S.t4, kp S.t5, kp S.t6, kp S.t7, kp S.t8, kp S.t9, fun _ => (eval_put _ _ _ (by omega)).trans rfl, kp S.t11, kp S.t12⟩
    | 11, _, ho, hsi, hT =>
      obtain ⟨e1, e2⟩ := pick_of h11 ho
      have D9 : s 9 = true := list_pos hT (d := 9) (by decide)
      have BW := S.before
      refine step_val (v := .int .u8 ((Gal.divV x y).toNat : Nat)) (by simp only [execOp, e1, S.t9 D9]; go_simp) (hK _ _ ?_)
      rw [e2]
      exact ⟨S.off.put (by decide) _, S.before, kp S.t0, kp S.t1, kp S.t2, kp S.t3, kp S.t4, kp S.t5, kp S.t6, kp S.t7, kp S.t8, kp S.t9, kp S.t10, fun _ => (eval_put _ _ _ (by omega)).trans rfl, kp S.t12⟩
    | 12, _, ho, hsi, hT =>
      obtain ⟨e1, e2⟩ := pick_of h12 ho
      have D10 : s 10 = true := list_pos hT (d := 10) (by decide)
      have BW := S.before
      refine step_val (v := .int .i64 (Gal.divE y)) (by simp only [execOp, e1, S.t10 D10]; go_simp) (hK _ _ ?_)
      rw [e2]
      exact ⟨S.off.put (by decide) _, S.before, kp S.t0, kp S.t1, kp S.t2, kp S.t3, kp S.t4, kp S.t5, kp S.t6, kp S.t7, kp S.t8, kp S.t9, kp S.t10, kp S.t11, fun _ => (eval_put _ _ _ (by omega)).trans rfl⟩
  · intro s a w' S hall
    have a0 := hall 0 (by omega)
    have a1 := hall 1 (by omega)
    have a2 := hall 2 (by omega)
    have a3 := hall 3 (by omega)
    have a4 := hall 4 (by omega)
    have a5 := hall 5 (by omega)
    have a6 := hall 6 (by omega)
    have a7 := hall 7 (by omega)
    have a8 := hall 8 (by omega)
    have a9 := hall 9 (by omega)
    have a10 := hall 10 (by omega)
    have a11 := hall 11 (by omega)
    have a12 := hall 12 (by omega)
    have e := off_norm _ (by intro d hd; simp at hd; omega) S.off
    simp only [List.foldl, S.t0 a0, S.t1 a1, S.t2 a2, S.t3 a3, S.t4 a4, S.t5 a5, S.t6 a6, S.t7 a7, S.t8 a8, S.t9 a9, S.t10 a10, S.t11 a11, S.t12 a12] at e
    rw [e]
    exact h _ S.before
structure SubRegion (sb i t dd k n N C : Nat) (c : BitVec 8) (q : ByteArray) (f : Nat → BitVec 8) (A : Act) (w0 : World) (s : Nat → Bool) (a : Act) (w : World) : Prop where
  off : Off [54, 55, 56, 57, 58, 59, 60, 61, 62, 63, 64, 65, 66, 67, 68, 69, 70, 71, 72, 73, 74] a A
  before : s 21 = false → Below w0.heap.size w0 w
  behind : s 21 = true → ∃ w1, Below w0.heap.size w0 w1 ∧ w = w1.setCell ⟨sb, n, none⟩ (.int .u8 ((f n ^^^ Gal.mul c (Gal.co q.data.toList k)).toNat : Nat))
  t0 : s 0 = true → a.eval (.tmp 54) = .slice (some ⟨sb, 0, none⟩) N C
  t1 : s 1 = true → a.eval (.tmp 55) = .int .i64 (i : Nat)
  t2 : s 2 = true → a.eval (.tmp 56) = .int .i64 (t : Nat)
  t3 : s 3 = true → a.eval (.tmp 57) = .int .i64 (dd : Nat)
  t4 : s 4 = true → a.eval (.tmp 58) = .int .i64 (k : Nat)
  t5 : s 5 = true → a.eval (.tmp 59) = .int .i64 (n : Nat)
  t6 : s 6 = true → a.eval (.tmp 60) = .slice (some ⟨sb, 0, none⟩) N C
  t7 : s 7 = true → a.eval (.tmp 61) = .int .i64 (i : Nat)
  t8 : s 8 = true → a.eval (.tmp 62) = .int .i64 (t : Nat)
  t9 : s 9 = true → a.eval (.tmp 63) = .int .i64 (dd : Nat)
  t10 : s 10 = true → a.eval (.tmp 64) = .int .i64 (k : Nat)
  t11 : s 11 = true → a.eval (.tmp 65) = .int .i64 (n : Nat)
  t12 : s 12 = true → a.eval (.tmp 66) = .pointer (some ⟨sb, n, none⟩)
  t13 : s 13 = true → a.eval (.tmp 67) = .int .u8 ((f n).toNat : Nat)
  t14 : s 14 = true → a.eval (.tmp 68) = .int .u8 (c.toNat : Nat)
  t15 : s 15 = true → a.eval (.tmp 69) = .string q
  t16 : s 16 = true → a.eval (.tmp 70) = .int .i64 (k : Nat)
  t17 : s 17 = true → a.eval (.tmp 71) = .int .u8 ((Gal.co q.data.toList k).toNat : Nat)
  t18 : s 18 = true → a.eval (.tmp 72) = .int .u8 ((Gal.mul c (Gal.co q.data.toList k)).toNat : Nat)
  t19 : s 19 = true → a.eval (.tmp 73) = .int .u8 ((f n ^^^ Gal.mul c (Gal.co q.data.toList k)).toNat : Nat)
  t20 : s 20 = true → a.eval (.tmp 74) = .pointer (some ⟨sb, n, none⟩)
set_option maxHeartbeats 2000000 in
set_option maxRecDepth 100000 in
theorem subRegion {id : Nat} {d : Bool} {l : List Oper} {A : Act} {w : World} {Q : Exit → Act → World → Prop} (sb i t dd k n N C : Nat) (c : BitVec 8) (q : ByteArray) (f : Nat → BitVec 8)
    (hd : (i : Int) - (t : Int) = (dd : Int)) (hn : (dd : Int) + (k : Int) = (n : Int)) (hi : i ≤ 4000000) (hk : k < q.size) (hN : n < N) (hN2 : N ≤ 4000000) (hF : NumsK .u8 w sb N (fun j => (f j).toNat))
    (hB : tableL d l.toArray (fun i => match i with | 0 => [] | 1 => [] | 2 => [] | 3 => [1, 2] | 4 => [] | 5 => [3, 4] | 6 => [] | 7 => [] | 8 => [] | 9 => [7, 8] | 10 => [] | 11 => [9, 10] | 12 => [6, 11] | 13 => [12] | 14 => [] | 15 => [] | 16 => [] | 17 => [15, 16] | 18 => [14, 17] | 19 => [13, 18] | 20 => [0, 5] | 21 => [0, 1, 2, 3, 4, 5, 6, 7, 8, 9, 10, 11, 12, 13, 14, 15, 16, 17, 18, 19, 20] | _ => []) (fun i => match i with | 0 => [21] | 1 => [21] | 2 => [21] | 3 => [21] | 4 => [21] | 5 => [21] | 6 => [21] | 7 => [21] | 8 => [21] | 9 => [21] | 10 => [21] | 11 => [21] | 12 => [21] | 13 => [21] | 14 => [21] | 15 => [21] | 16 => [21] | 17 => [21] | 18 => [21] | 19 => [21] | 20 => [21] | 21 => [] | _ => []) = true) (hl : l.length = 22)
    (h0 : pick l 0 = some (.move (.tmp 8), some 54))
    (h1 : pick l 1 = some (.move (.tmp 10), some 55))
    (h2 : pick l 2 = some (.move (.tmp 7), some 56))
    (h3 : pick l 3 = some (.binOp .sub 3 (.tmp 55) (.tmp 56) 3, some 57))
    (h4 : pick l 4 = some (.move (.tmp 13), some 58))
    (h5 : pick l 5 = some (.binOp .add 3 (.tmp 57) (.tmp 58) 3, some 59))
    (h6 : pick l 6 = some (.move (.tmp 8), some 60))
    (h7 : pick l 7 = some (.move (.tmp 10), some 61))
    (h8 : pick l 8 = some (.move (.tmp 7), some 62))
    (h9 : pick l 9 = some (.binOp .sub 3 (.tmp 61) (.tmp 62) 3, some 63))
    (h10 : pick l 10 = some (.move (.tmp 13), some 64))
    (h11 : pick l 11 = some (.binOp .add 3 (.tmp 63) (.tmp 64) 3, some 65))
    (h12 : pick l 12 = some (.indexAddr 41 (.tmp 60) (.tmp 65), some 66))
    (h13 : pick l 13 = some (.load 5 (.tmp 66), some 67))
    (h14 : pick l 14 = some (.move (.tmp 11), some 68))
    (h15 : pick l 15 = some (.move (.tmp 1), some 69))
    (h16 : pick l 16 = some (.move (.tmp 13), some 70))
    (h17 : pick l 17 = some (.index 9 (.tmp 69) (.tmp 70), some 71))
    (h18 : pick l 18 = some (.call { callee := .value (.func 45), args := #[.tmp 68, .tmp 71], argTypes := #[5, 5] }, some 72))
    (h19 : pick l 19 = some (.binOp .xor 5 (.tmp 67) (.tmp 72) 5, some 73))
    (h20 : pick l 20 = some (.indexAddr 41 (.tmp 54) (.tmp 59), some 74))
    (h21 : pick l 21 = some (.store 5 (.tmp 74) (.tmp 73), none))
    (hs : A.tmps.size = 81)
    (x1 : A.eval (.tmp 1) = .string q)
    (x7 : A.eval (.tmp 7) = .int .i64 (t : Nat))
    (x8 : A.eval (.tmp 8) = .slice (some ⟨sb, 0, none⟩) N C)
    (x10 : A.eval (.tmp 10) = .int .i64 (i : Nat))
    (x11 : A.eval (.tmp 11) = .int .u8 (c.toNat : Nat))
    (x13 : A.eval (.tmp 13) = .int .i64 (k : Nat))
    (h : ∀ w1, Below w.heap.size w w1 → Q .normal (((((((((((((((((((((A.put (some 54) (.slice (some ⟨sb, 0, none⟩) N C)).put (some 55) (.int .i64 (i : Nat))).put (some 56) (.int .i64 (t : Nat))).put (some 57) (.int .i64 (dd : Nat))).put (some 58) (.int .i64 (k : Nat))).put (some 59) (.int .i64 (n : Nat))).put (some 60) (.slice (some ⟨sb, 0, none⟩) N C)).put (some 61) (.int .i64 (i : Nat))).put (some 62) (.int .i64 (t : Nat))).put (some 63) (.int .i64 (dd : Nat))).put (some 64) (.int .i64 (k : Nat))).put (some 65) (.int .i64 (n : Nat))).put (some 66) (.pointer (some ⟨sb, n, none⟩))).put (some 67) (.int .u8 ((f n).toNat : Nat))).put (some 68) (.int .u8 (c.toNat : Nat))).put (some 69) (.string q)).put (some 70) (.int .i64 (k : Nat))).put (some 71) (.int .u8 ((Gal.co q.data.toList k).toNat : Nat))).put (some 72) (.int .u8 ((Gal.mul c (Gal.co q.data.toList k)).toNat : Nat))).put (some 73) (.int .u8 ((f n ^^^ Gal.mul c (Gal.co q.data.toList k)).toNat : Nat))).put (some 74) (.pointer (some ⟨sb, n, none⟩))) (w1.setCell ⟨sb, n, none⟩ (.int .u8 ((f n ^^^ Gal.mul c (Gal.co q.data.toList k)).toNat : Nat)))) :
    (Code.region id l.toArray d).wp Tryz.prog Q A w := by
  refine wp_region_invL (by kernel_rfl) _ _ hB (SubRegion sb i t dd k n N C c q f A w) ⟨Off.refl _ _, fun _ => Below.refl _ _, by simp, by simp, by simp, by simp, by simp, by simp, by simp, by simp, by simp, by simp, by simp, by simp, by simp, by simp, by simp, by simp, by simp, by simp, by simp, by simp, by simp, by simp⟩ ⟨Off.refl _ _, fun _ => (Below.refl _ _).drew, by simp, by simp, by simp, by simp, by simp, by simp, by simp, by simp, by simp, by simp, by simp, by simp, by simp, by simp, by simp, by simp, by simp, by simp, by simp, by simp, by simp, by simp⟩ ?_ ?_
  · intro s a w' S i' o ho hsi hT K hK
    have sz : a.tmps.size = 81 := by rw [S.off.2.1]; exact hs
    have il : i' < 22 := by have := (List.getElem?_eq_some_iff.1 ho).1; omega
    have y1 : a.eval (.tmp 1) = .string q := by rw [S.off.eval (by decide)]; exact x1
    have y7 : a.eval (.tmp 7) = .int .i64 (t : Nat) := by rw [S.off.eval (by decide)]; exact x7
    have y8 : a.eval (.tmp 8) = .slice (some ⟨sb, 0, none⟩) N C := by rw [S.off.eval (by decide)]; exact x8
    have y10 : a.eval (.tmp 10) = .int .i64 (i : Nat) := by rw [S.off.eval (by decide)]; exact x10
    have y11 : a.eval (.tmp 11) = .int .u8 (c.toNat : Nat) := by rw [S.off.eval (by decide)]; exact x11
    have y13 : a.eval (.tmp 13) = .int .i64 (k : Nat) := by rw [S.off.eval (by decide)]; exact x13
    match i', il, ho, hsi, hT with
    | 0, _, ho, hsi, hT =>
      obtain ⟨e1, e2⟩ := pick_of h0 ho
      have NL : s 21 = false := list_neg hT (k := 21) (by decide)
      have BW := S.before NL
      refine step_val (v := .slice (some ⟨sb, 0, none⟩) N C) (by simp only [execOp, e1, y8]; go_simp) (hK _ _ ?_)
      rw [e2]
      exact ⟨S.off.put (by decide) _, fun _ => S.before NL, fun g => absurd g (by simp [NL]), fun _ => (eval_put _ _ _ (by omega)).trans rfl, kp S.t1, kp S.t2, kp S.t3, kp S.t4, kp S.t5, kp S.t6, kp S.t7, kp S.t8, kp S.t9, kp S.t10, kp S.t11, kp S.t12, kp S.t13, kp S.t14, kp S.t15, kp S.t16, kp S.t17, kp S.t18, kp S.t19, kp S.t20⟩
    | 1, _, ho, hsi, hT =>
      obtain ⟨e1, e2⟩ := pick_of h1 ho
      have NL : s 21 = false := list_neg hT (k := 21) (by decide)
      have BW := S.before NL
      refine step_val (v := .int .i64 (i : Nat)) (by simp only [execOp, e1, y10]; go_simp) (hK _ _ ?_)
      rw [e2]
      exact ⟨S.off.put (by decide) _, fun _ => S.before NL, fun g => absurd g (by simp [NL]), kp S.t0, fun _ => (eval_put _ _ _ (by omega)).trans rfl, kp S.t2, kp S.t3, kp S.t4, kp S.t5, kp S.t6, kp S.t7, kp S.t8, kp S.t9, kp S.t10, kp S.t11, kp S.t12, kp S.t13, kp S.t14, kp S.t15, kp S.t16, kp S.t17, kp S.t18, kp S.t19, kp S.t20⟩
    | 2, _, ho, hsi, hT =>
      obtain ⟨e1, e2⟩ := pick_of h2 ho
      have NL : s 21 = false := list_neg hT (k := 21) (by decide)
      have BW := S.before NL
      refine step_val (v := .int .i64 (t : Nat)) (by simp only [execOp, e1, y7]; go_simp) (hK _ _ ?_)
      rw [e2]
      exact ⟨S.off.put (by decide) _, fun _ => S.before NL, fun g => absurd g (by simp [NL]), kp S.t0, kp S.t1, fun _ => (eval_put _ _ _ (by omega)).trans rfl, kp S.t3, kp S.t4, kp S.t5, kp S.t6, kp S.t7, kp S.t8, kp S.t9, kp S.t10, kp S.t11, kp S.t12, kp S.t13, kp S.t14, kp S.t15, kp S.t16, kp S.t17, kp S.t18, kp S.t19, kp S.t20⟩
    | 3, _, ho, hsi, hT =>
      obtain ⟨e1, e2⟩ := pick_of h3 ho
      have D1 : s 1 = true := list_pos hT (d := 1) (by decide)
      have D2 : s 2 = true := list_pos hT (d := 2) (by decide)
      have NL : s 21 = false := list_neg hT (k := 21) (by decide)
      have BW := S.before NL
      refine step_val (v := .int .i64 (dd : Nat)) (by simp only [execOp, e1, S.t1 D1, S.t2 D2]; go_simp; rw [IntKind.wrap_i64]; omega) (hK _ _ ?_)
      rw [e2]
      exact ⟨S.off.put (by decide) _, fun _ => S.before NL, fun g => absurd g (by simp [NL]), kp S.t0, kp S.t1, kp S.t2, fun _ => (eval_put _ _ _ (by omega)).trans rfl, kp S.t4, kp S.t5, kp S.t6, kp S.t7, kp S.t8, kp S.t9, kp S.t10, kp S.t11, kp S.t12, kp S.t13, kp S.t14, kp S.t15, kp S.t16, kp S.t17, kp S.t18, kp S.t19, kp S.t20⟩
    | 4, _, ho, hsi, hT =>
      obtain ⟨e1, e2⟩ := pick_of h4 ho
      have NL : s 21 = false := list_neg hT (k := 21) (by decide)
      have BW := S.before NL
      refine step_val (v := .int .i64 (k : Nat)) (by simp only [execOp, e1, y13]; go_simp) (hK _ _ ?_)
      rw [e2]
      exact ⟨S.off.put (by decide) _, fun _ => S.before NL, fun g => absurd g (by simp [NL]), kp S.t0, kp S.t1, kp S.t2, kp S.t3, fun _ => (eval_put _ _ _ (by omega)).trans rfl, kp S.t5, kp S.t6, kp S.t7, kp S.t8, kp S.t9, kp S.t10, kp S.t11, kp S.t12, kp S.t13, kp S.t14, kp S.t15, kp S.t16, kp S.t17, kp S.t18, kp S.t19, kp S.t20⟩
    | 5, _, ho, hsi, hT =>
      obtain ⟨e1, e2⟩ := pick_of h5 ho
      have D3 : s 3 = true := list_pos hT (d := 3) (by decide)
      have D4 : s 4 = true := list_pos hT (d := 4) (by decide)
      have NL : s 21 = false := list_neg hT (k := 21) (by decide)
      have BW := S.before NL
      refine step_val (v := .int .i64 (n : Nat)) (by simp only [execOp, e1, S.t3 D3, S.t4 D4]; go_simp; rw [IntKind.wrap_i64]; omega) (hK _ _ ?_)
      rw [e2]
      exact ⟨S.off.put (by decide) _, fun _ => S.before NL, fun g => absurd g (by simp [NL]), kp S.t0, kp S.t1, kp S.t2, kp S.t3, kp S.t4, fun _ => (eval_put _ _ _ (by omega)).trans rfl, kp S.t6, kp S.t7, kp S.t8, kp S.t9, kp S.t10, kp S.t11, kp S.t12, kp S.t13, kp S.t14, kp S.t15, kp S.t16, kp S.t17, kp S.t18, kp S.t19, kp S.t20⟩
    | 6, _, ho, hsi, hT =>
      obtain ⟨e1, e2⟩ := pick_of h6 ho
      have NL : s 21 = false := list_neg hT (k := 21) (by decide)
      have BW := S.before NL
      refine step_val (v := .slice (some ⟨sb, 0, none⟩) N C) (by simp only [execOp, e1, y8]; go_simp) (hK _ _ ?_)
      rw [e2]
      exact ⟨S.off.put (by decide) _, fun _ => S.before NL, fun g => absurd g (by simp [NL]), kp S.t0, kp S.t1, kp S.t2, kp S.t3, kp S.t4, kp S.t5, fun _ => (eval_put _ _ _ (by omega)).trans rfl, kp S.t7, kp S.t8, kp S.t9, kp S.t10, kp S.t11, kp S.t12, kp S.t13, kp S.t14, kp S.t15, kp S.t16, kp S.t17, kp S.t18, kp S.t19, kp S.t20⟩
    | 7, _, ho, hsi, hT =>
      obtain ⟨e1, e2⟩ := pick_of h7 ho
      have NL : s 21 = false := list_neg hT (k := 21) (by decide)
      have BW := S.before NL
      refine step_val (v := .int .i64 (i : Nat)) (by simp only [execOp, e1, y10]; go_simp) (hK _ _ ?_)
      rw [e2]
      exact ⟨S.off.put (by decide) _, fun _ => S.before NL, fun g => absurd g (by simp [NL]), kp S.t0, kp S.t1, kp S.t2, kp S.t3, kp S.t4, kp S.t5, kp S.t6, fun _ => (eval_put _ _ _ (by omega)).trans rfl, kp S.t8, kp S.t9, kp S.t10, kp S.t11, kp S.t12, kp S.t13, kp S.t14, kp S.t15, kp S.t16, kp S.t17, kp S.t18, kp S.t19, kp S.t20⟩
    | 8, _, ho, hsi, hT =>
      obtain ⟨e1, e2⟩ := pick_of h8 ho
      have NL : s 21 = false := list_neg hT (k := 21) (by decide)
      have BW := S.before NL
      refine step_val (v := .int .i64 (t : Nat)) (by simp only [execOp, e1, y7]; go_simp) (hK _ _ ?_)
      rw [e2]
      exact ⟨S.off.put (by decide) _, fun _ => S.before NL, fun g => absurd g (by simp [NL]), kp S.t0, kp S.t1, kp S.t2, kp S.t3, kp S.t4, kp S.t5, kp S.t6, kp S.t7, fun _ => (eval_put _ _ _ (by omega)).trans rfl, kp S.t9, kp S.t10, kp S.t11, kp S.t12, kp S.t13, kp S.t14, kp S.t15, kp S.t16, kp S.t17, kp S.t18, kp S.t19, kp S.t20⟩
    | 9, _, ho, hsi, hT =>
      obtain ⟨e1, e2⟩ := pick_of h9 ho
      have D7 : s 7 = true := list_pos hT (d := 7) (by decide)
      have D8 : s 8 = true := list_pos hT (d := 8) (by decide)
      have NL : s 21 = false := list_neg hT (k := 21) (by decide)
      have BW := S.before NL
      refine step_val (v := .int .i64 (dd : Nat)) (by simp only [execOp, e1, S.t7 D7, S.t8 D8]; go_simp; rw [IntKind.wrap_i64]; omega) (hK _ _ ?_)
      rw [e2]
      exact ⟨S.off.put (by decide) _, fun _ => S.before NL, fun g => absurd g (by simp [NL]), kp S.t0, kp S.t1, kp S.t2, kp S.t3, kp S.t4, kp S.t5, kp S.t6, kp S.t7, kp S.t8, fun _ => (eval_put _ _ _ (by omega)).trans rfl, kp S.t10, kp S.t11, kp S.t12, kp S.t13, kp S.t14, kp S.t15, kp S.t16, kp S.t17, kp S.t18, kp S.t19, kp S.t20⟩
    | 10, _, ho, hsi, hT =>
      obtain ⟨e1, e2⟩ := pick_of h10 ho
      have NL : s 21 = false := list_neg hT (k := 21) (by decide)
      have BW := S.before NL
      refine step_val (v := .int .i64 (k : Nat)) (by simp only [execOp, e1, y13]; go_simp) (hK _ _ ?_)
      rw [e2]
      exact ⟨S.off.put (by decide) _, fun _ => S.before NL, fun g => absurd g (by simp [NL]), kp S.t0, kp S.t1, kp S.t2, kp S.t3, kp S.t4, kp S.t5, kp S.t6, kp S.t7, kp S.t8, kp S.t9, fun _ => (eval_put _ _ _ (by omega)).trans rfl, kp S.t11, kp S.t12, kp S.t13, kp S.t14, kp S.t15, kp S.t16, kp S.t17, kp S.t18, kp S.t19, kp S.t20⟩
    | 11, _, ho, hsi, hT =>
      obtain ⟨e1, e2⟩ := pick_of h11 ho
      have D9 : s 9 = true := list_pos hT (d := 9) (by decide)
      have D10 : s 10 = true := list_pos hT (d := 10) (by decide)
      have NL : s 21 = false := list_neg hT (k := 21) (by decide)
      have BW := S.before NL
      refine step_val (v := .int .i64 (n : Nat)) (by simp only [execOp, e1, S.t9 D9, S.t10 D10]; go_simp; rw [IntKind.wrap_i64]; omega) (hK _ _ ?_)
      rw [e2]
      exact ⟨S.off.put (by decide) _, fun _ => S.before NL, fun g => absurd g (by simp [NL]), kp S.t0, kp S.t1, kp S.t2, kp S.t3, kp S.t4, kp S.t5, kp S.t6, kp S.t7, kp S.t8, kp S.t9, kp S.t10, fun _ => (eval_put _ _ _ (by omega)).trans rfl, kp S.t12, kp S.t13, kp S.t14, kp S.t15, kp S.t16, kp S.t17, kp S.t18, kp S.t19, kp S.t20⟩
    | 12, _, ho, hsi, hT =>
      obtain ⟨e1, e2⟩ := pick_of h12 ho
      have D6 : s 6 = true := list_pos hT (d := 6) (by decide)
      have D11 : s 11 = true := list_pos hT (d := 11) (by decide)
      have NL : s 21 = false := list_neg hT (k := 21) (by decide)
      have BW := S.before NL
      refine step_val (v := .pointer (some ⟨sb, n, none⟩)) (by simp only [execOp, e1, S.t6 D6, S.t11 D11]; go_simp) (hK _ _ ?_)
      rw [e2]
      exact ⟨S.off.put (by decide) _, fun _ => S.before NL, fun g => absurd g (by simp [NL]), kp S.t0, kp S.t1, kp S.t2, kp S.t3, kp S.t4, kp S.t5, kp S.t6, kp S.t7, kp S.t8, kp S.t9, kp S.t10, kp S.t11, fun _ => (eval_put _ _ _ (by omega)).trans rfl, kp S.t13, kp S.t14, kp S.t15, kp S.t16, kp S.t17, kp S.t18, kp S.t19, kp S.t20⟩
    | 13, _, ho, hsi, hT =>
      obtain ⟨e1, e2⟩ := pick_of h13 ho
      have D12 : s 12 = true := list_pos hT (d := 12) (by decide)
      have NL : s 21 = false := list_neg hT (k := 21) (by decide)
      have BW := S.before NL
      have cl := (hF.below BW).cell hN
      refine step_val (v := .int .u8 ((f n).toNat : Nat)) (by simp only [execOp, e1, S.t12 D12]; go_simp) (hK _ _ ?_)
      rw [e2]
      exact ⟨S.off.put (by decide) _, fun _ => S.before NL, fun g => absurd g (by simp [NL]), kp S.t0, kp S.t1, kp S.t2, kp S.t3, kp S.t4, kp S.t5, kp S.t6, kp S.t7, kp S.t8, kp S.t9, kp S.t10, kp S.t11, kp S.t12, fun _ => (eval_put _ _ _ (by omega)).trans rfl, kp S.t14, kp S.t15, kp S.t16, kp S.t17, kp S.t18, kp S.t19, kp S.t20⟩
    | 14, _, ho, hsi, hT =>
      obtain ⟨e1, e2⟩ := pick_of h14 ho
      have NL : s 21 = false := list_neg hT (k := 21) (by decide)
      have BW := S.before NL
      refine step_val (v := .int .u8 (c.toNat : Nat)) (by simp only [execOp, e1, y11]; go_simp) (hK _ _ ?_)
      rw [e2]
      exact ⟨S.off.put (by decide) _, fun _ => S.before NL, fun g => absurd g (by simp [NL]), kp S.t0, kp S.t1, kp S.t2, kp S.t3, kp S.t4, kp S.t5, kp S.t6, kp S.t7, kp S.t8, kp S.t9, kp S.t10, kp S.t11, kp S.t12, kp S.t13, fun _ => (eval_put _ _ _ (by omega)).trans rfl, kp S.t15, kp S.t16, kp S.t17, kp S.t18, kp S.t19, kp S.t20⟩
    | 15, _, ho, hsi, hT =>
      obtain ⟨e1, e2⟩ := pick_of h15 ho
      have NL : s 21 = false := list_neg hT (k := 21) (by decide)
      have BW := S.before NL
      refine step_val (v := .string q) (by simp only [execOp, e1, y1]; go_simp) (hK _ _ ?_)
      rw [e2]
      exact ⟨S.off.put (by decide) _, fun _ => S.before NL, fun g => absurd g (by simp [NL]), kp S.t0, kp S.t1, kp S.t2, kp S.t3, kp S.t4, kp S.t5, kp S.t6, kp S.t7, kp S.t8, kp S.t9, kp S.t10, kp S.t11, kp S.t12, kp S.t13, kp S.t14, fun _ => (eval_put _ _ _ (by omega)).trans rfl, kp S.t16, kp S.t17, kp S.t18, kp S.t19, kp S.t20⟩
    | 16, _, ho, hsi, hT =>
      obtain ⟨e1, e2⟩ := pick_of h16 ho
      have NL : s 21 = false := list_neg hT (k := 21) (by decide)
      have BW := S.before NL
      refine step_val (v := .int .i64 (k : Nat)) (by simp only [execOp, e1, y13]; go_simp) (hK _ _ ?_)
      rw [e2]
      exact ⟨S.off.put (by decide) _, fun _ => S.before NL, fun g => absurd g (by simp [NL]), kp S.t0, kp S.t1, kp S.t2, kp S.t3, kp S.t4, kp S.t5, kp S.t6, kp S.t7, kp S.t8, kp S.t9, kp S.t10, kp S.t11, kp S.t12, kp S.t13, kp S.t14, kp S.t15, fun _ => (eval_put _ _ _ (by omega)).trans rfl, kp S.t17, kp S.t18, kp S.t19, kp S.t20⟩
    | 17, _, ho, hsi, hT =>
      obtain ⟨e1, e2⟩ := pick_of h17 ho
      have D15 : s 15 = true := list_pos hT (d := 15) (by decide)
      have D16 : s 16 = true := list_pos hT (d := 16) (by decide)
      have NL : s 21 = false := list_neg hT (k := 21) (by decide)
      have BW := S.before NL
      have bc := byte_co q k hk
      refine step_val (v := .int .u8 ((Gal.co q.data.toList k).toNat : Nat)) (by simp only [execOp, e1, S.t15 D15, S.t16 D16]; go_simp) (hK _ _ ?_)
      rw [e2]
      exact ⟨S.off.put (by decide) _, fun _ => S.before NL, fun g => absurd g (by simp [NL]), kp S.t0, kp S.t1, kp S.t2, kp S.t3, kp S.t4, kp S.t5, kp S.t6, kp S.t7, kp S.t8, kp S.t9, kp S.t10, kp S.t11, kp S.t12, kp S.t13, kp S.t14, kp S.t15, kp S.t16, fun _ => (eval_put _ _ _ (by omega)).trans rfl, kp S.t18, kp S.t19, kp S.t20⟩
    | 18, _, ho, hsi, hT =>
      obtain ⟨e1, e2⟩ := pick_of h18 ho
      have D14 : s 14 = true := list_pos hT (d := 14) (by decide)
      have D17 : s 17 = true := list_pos hT (d := 17) (by decide)
      have NL : s 21 = false := list_neg hT (k := 21) (by decide)
      have BW := S.before NL
      refine step_call 45 (fun args w => by go_simp) _ _ e1 #[.int .u8 (c.toNat : Nat), .int .u8 ((Gal.co q.data.toList k).toNat : Nat)] (by simp only [List.map_toArray, List.map_cons, List.map_nil, S.t14 D14, S.t17 D17]) ((rmulB c (Gal.co q.data.toList k) _).mono ?_)
      rintro e w2 ⟨rfl, BB⟩
      refine ⟨_, rfl, hK _ _ ?_⟩
      rw [e2]
      exact ⟨S.off.put (by decide) _, fun _ => bt BW BB, fun g => absurd g (by simp [NL]), kp S.t0, kp S.t1, kp S.t2, kp S.t3, kp S.t4, kp S.t5, kp S.t6, kp S.t7, kp S.t8, kp S.t9, kp S.t10, kp S.t11, kp S.t12, kp S.t13, kp S.t14, kp S.t15, kp S.t16, kp S.t17, fun _ => (eval_put _ _ _ (by omega)).trans rfl, kp S.t19, kp S.t20⟩
    | 19, _, ho, hsi, hT =>
      obtain ⟨e1, e2⟩ := pick_of h19 ho
      have D13 : s 13 = true := list_pos hT (d := 13) (by decide)
      have D18 : s 18 = true := list_pos hT (d := 18) (by decide)
      have NL : s 21 = false := list_neg hT (k := 21) (by decide)
      have BW := S.before NL
      have xr := xor8 (f n) (Gal.mul c (Gal.co q.data.toList k))
      refine step_val (v := .int .u8 ((f n ^^^ Gal.mul c (Gal.co q.data.toList k)).toNat : Nat)) (by simp only [execOp, e1, S.t13 D13, S.t18 D18]; go_simp) (hK _ _ ?_)
      rw [e2]
      exact ⟨S.off.put (by decide) _, fun _ => S.before NL, fun g => absurd g (by simp [NL]), kp S.t0, kp S.t1, kp S.t2, kp S.t3, kp S.t4, kp S.t5, kp S.t6, kp S.t7, kp S.t8, kp S.t9, kp S.t10, kp S.t11, kp S.t12, kp S.t13, kp S.t14, kp S.t15, kp S.t16, kp S.t17, kp S.t18, fun _ => (eval_put _ _ _ (by omega)).trans rfl, kp S.t20⟩
    | 20, _, ho, hsi, hT =>
      obtain ⟨e1, e2⟩ := pick_of h20 ho
      have D0 : s 0 = true := list_pos hT (d := 0) (by decide)
      have D5 : s 5 = true := list_pos hT (d := 5) (by decide)
      have NL : s 21 = false := list_neg hT (k := 21) (by decide)
      have BW := S.before NL
      refine step_val (v := .pointer (some ⟨sb, n, none⟩)) (by simp only [execOp, e1, S.t0 D0, S.t5 D5]; go_simp) (hK _ _ ?_)
      rw [e2]
      exact ⟨S.off.put (by decide) _, fun _ => S.before NL, fun g => absurd g (by simp [NL]), kp S.t0, kp S.t1, kp S.t2, kp S.t3, kp S.t4, kp S.t5, kp S.t6, kp S.t7, kp S.t8, kp S.t9, kp S.t10, kp S.t11, kp S.t12, kp S.t13, kp S.t14, kp S.t15, kp S.t16, kp S.t17, kp S.t18, kp S.t19, fun _ => (eval_put _ _ _ (by omega)).trans rfl⟩
    | 21, _, ho, hsi, hT =>
      obtain ⟨e1, e2⟩ := pick_of h21 ho
      have D0 : s 0 = true := list_pos hT (d := 0) (by decide)
      have D1 : s 1 = true := list_pos hT (d := 1) (by decide)
      have D2 : s 2 = true := list_pos hT (d := 2) (by decide)
      have D3 : s 3 = true := list_pos hT (d := 3) (by decide)
      have D4 : s 4 = true := list_pos hT (d := 4) (by decide)
      have D5 : s 5 = true := list_pos hT (d := 5) (by decide)
      have D6 : s 6 = true := list_pos hT (d := 6) (by decide)
      have D7 : s 7 = true := list_pos hT (d := 7) (by decide)
      have D8 : s 8 = true := list_pos hT (d := 8) (by decide)
      have D9 : s 9 = true := list_pos hT (d := 9) (by decide)
      have D10 : s 10 = true := list_pos hT (d := 10) (by decide)
      have D11 : s 11 = true := list_pos hT (d := 11) (by decide)
      have D12 : s 12 = true := list_pos hT (d := 12) (by decide)
      have D13 : s 13 = true := list_pos hT (d := 13) (by decide)
      have D14 : s 14 = true := list_pos hT (d := 14) (by decide)
      have D15 : s 15 = true := list_pos hT (d := 15) (by decide)
      have D16 : s 16 = true := list_pos hT (d := 16) (by decide)
      have D17 : s 17 = true := list_pos hT (d := 17) (by decide)
      have D18 : s 18 = true := list_pos hT (d := 18) (by decide)
      have D19 : s 19 = true := list_pos hT (d := 19) (by decide)
      have D20 : s 20 = true := list_pos hT (d := 20) (by decide)
      have BW := S.before hsi
      have cl := (hF.below BW).cell hN
      have fz := (hF.below BW).frozen hN
      refine step_to (w2 := w'.setCell ⟨sb, n, none⟩ (.int .u8 ((f n ^^^ Gal.mul c (Gal.co q.data.toList k)).toNat : Nat))) (by simp only [execOp, e1, S.t20 D20, S.t19 D19]; go_simp) (hK _ _ ?_)
      rw [e2]
      exact ⟨S.off.put_none _, fun g => absurd g (by simp), fun _ => ⟨w', BW, rfl⟩, fun g => S.t0 (by simpa using g), fun g => S.t1 (by simpa using g), fun g => S.t2 (by simpa using g), fun g => S.t3 (by simpa using g), fun g => S.t4 (by simpa using g), fun g => S.t5 (by simpa using g), fun g => S.t6 (by simpa using g), fun g => S.t7 (by simpa using g), fun g => S.t8 (by simpa using g), fun g => S.t9 (by simpa using g), fun g => S.t10 (by simpa using g), fun g => S.t11 (by simpa using g), fun g => S.t12 (by simpa using g), fun g => S.t13 (by simpa using g), fun g => S.t14 (by simpa using g), fun g => S.t15 (by simpa using g), fun g => S.t16 (by simpa using g), fun g => S.t17 (by simpa using g), fun g => S.t18 (by simpa using g), fun g => S.t19 (by simpa using g), fun g => S.t20 (by simpa using g)⟩
    | _ + 22, il, _, _, _ => exact absurd il (by omega)
  · intro s a w' S hall
    have a0 := hall 0 (by omega)
    have a1 := hall 1 (by omega)
    have a2 := hall 2 (by omega)
    have a3 := hall 3 (by omega)
    have a4 := hall 4 (by omega)
    have a5 := hall 5 (by omega)
    have a6 := hall 6 (by omega)
    have a7 := hall 7 (by omega)
    have a8 := hall 8 (by omega)
    have a9 := hall 9 (by omega)
    have a10 := hall 10 (by omega)
    have a11 := hall 11 (by omega)
    have a12 := hall 12 (by omega)
    have a13 := hall 13 (by omega)
    have a14 := hall 14 (by omega)
    have a15 := hall 15 (by omega)
    have a16 := hall 16 (by omega)
    have a17 := hall 17 (by omega)
    have a18 := hall 18 (by omega)
    have a19 := hall 19 (by omega)
    have a20 := hall 20 (by omega)
    have a21 := hall 21 (by omega)
    have e := off_norm _ (by intro d hd; simp at hd; omega) S.off
    simp only [List.foldl, S.t0 a0, S.t1 a1, S.t2 a2, S.t3 a3, S.t4 a4, S.t5 a5, S.t6 a6, S.t7 a7, S.t8 a8, S.t9 a9, S.t10 a10, S.t11 a11, S.t12 a12, S.t13 a13, S.t14 a14, S.t15 a15, S.t16 a16, S.t17 a17, S.t18 a18, S.t19 a19, S.t20 a20] at e
    obtain ⟨w1, BW, rfl⟩ := S.behind a21
    rw [e]
    exact h _ BW
structure RquotEnd (lb cb N C m M : Nat) (f g : Nat → BitVec 8) (A : Act) (w0 : World) (s : Nat → Bool) (a : Act) (w : World) : Prop where
  off : Off [75, 76, 77, 78, 79, 80, 4, 5, 6] a A
  before : Below w0.heap.size w0 w
  t0 : s 0 = true → a.eval (.tmp 75) = .slice (some ⟨cb, 0, none⟩) m M
  t1 : s 1 = true → a.eval (.tmp 76) = .string ⟨(Gal.coefs g m).toArray⟩
  t2 : s 2 = true → a.eval (.tmp 77) = .string ⟨(Gal.pol g m).toArray⟩
  t3 : s 3 = true → a.eval (.tmp 78) = .slice (some ⟨lb, 0, none⟩) N C
  t4 : s 4 = true → a.eval (.tmp 79) = .string ⟨(Gal.coefs f N).toArray⟩
  t5 : s 5 = true → a.eval (.tmp 80) = .string ⟨(Gal.pol f N).toArray⟩
  t6 : s 6 = true → a.eval (.tmp 4) = .string ⟨(Gal.pol g m).toArray⟩
  t7 : s 7 = true → a.eval (.tmp 5) = .string ⟨(Gal.pol f N).toArray⟩
  t8 : s 8 = true → a.eval (.tmp 6) = .int .i64 0
set_option maxHeartbeats 2000000 in
set_option maxRecDepth 100000 in
theorem rquotEnd {id : Nat} {d : Bool} {l : List Oper} {A : Act} {w : World} {Q : Exit → Act → World → Prop} (lb cb N C m M : Nat) (f g : Nat → BitVec 8)
    (hN2 : N ≤ 1000000) (hm2 : m ≤ 1000000) (hL : NumsK .u8 w lb N (fun j => (f j).toNat)) (hC : NumsK .u8 w cb m (fun j => (g j).toNat))
    (hB : tableL d l.toArray (fun i => match i with | 0 => [] | 1 => [0] | 2 => [1] | 3 => [] | 4 => [3] | 5 => [4] | 6 => [2] | 7 => [5] | 8 => [] | _ => []) (fun i => match i with | 0 => [] | 1 => [] | 2 => [] | 3 => [] | 4 => [] | 5 => [] | 6 => [] | 7 => [] | 8 => [] | _ => []) = true) (hl : l.length = 9)
    (h0 : pick l 0 = some (.move (.tmp 9), some 75))
    (h1 : pick l 1 = some (.convert 41 9 (.tmp 75), some 76))
    (h2 : pick l 2 = some (.call { callee := .value (.func 43), args := #[.tmp 76], argTypes := #[9] }, some 77))
    (h3 : pick l 3 = some (.move (.tmp 8), some 78))
    (h4 : pick l 4 = some (.convert 41 9 (.tmp 78), some 79))
    (h5 : pick l 5 = some (.call { callee := .value (.func 43), args := #[.tmp 79], argTypes := #[9] }, some 80))
    (h6 : pick l 6 = some (.assign (.tmp 77), some 4))
    (h7 : pick l 7 = some (.assign (.tmp 80), some 5))
    (h8 : pick l 8 = some (.assign (.const (.int .i64 0)), some 6))
    (hs : A.tmps.size = 81)
    (x8 : A.eval (.tmp 8) = .slice (some ⟨lb, 0, none⟩) N C)
    (x9 : A.eval (.tmp 9) = .slice (some ⟨cb, 0, none⟩) m M)
    (h : ∀ w1, Below w.heap.size w w1 → Q .normal (((((((((A.put (some 75) (.slice (some ⟨cb, 0, none⟩) m M)).put (some 76) (.string ⟨(Gal.coefs g m).toArray⟩)).put (some 77) (.string ⟨(Gal.pol g m).toArray⟩)).put (some 78) (.slice (some ⟨lb, 0, none⟩) N C)).put (some 79) (.string ⟨(Gal.coefs f N).toArray⟩)).put (some 80) (.string ⟨(Gal.pol f N).toArray⟩)).put (some 4) (.string ⟨(Gal.pol g m).toArray⟩)).put (some 5) (.string ⟨(Gal.pol f N).toArray⟩)).put (some 6) (.int .i64 0)) w1) :
    (Code.region id l.toArray d).wp Tryz.prog Q A w := by
  refine wp_region_invL (by kernel_rfl) _ _ hB (RquotEnd lb cb N C m M f g A w) ⟨Off.refl _ _, Below.refl _ _, by simp, by simp, by simp, by simp, by simp, by simp, by simp, by simp, by simp⟩ ⟨Off.refl _ _, (Below.refl _ _).drew, by simp, by simp, by simp, by simp, by simp, by simp, by simp, by simp, by simp⟩ ?_ ?_
  · intro s a w' S i' o ho hsi hT K hK
    have sz : a.tmps.size = 81 := by rw [S.off.2.1]; exact hs
    have il : i' < 9 := by have := (List.getElem?_eq_some_iff.1 ho).1; omega
    have y8 : a.eval (.tmp 8) = .slice (some ⟨lb, 0, none⟩) N C := by rw [S.off.eval (by decide)]; exact x8
    have y9 : a.eval (.tmp 9) = .slice (some ⟨cb, 0, none⟩) m M := by rw [S.off.eval (by decide)]; exact x9
    match i', il, ho, hsi, hT with
    | 0, _, ho, hsi, hT =>
      obtain ⟨e1, e2⟩ := pick_of h0 ho
      have BW := S.before
      refine step_val (v := .slice (some ⟨cb, 0, none⟩) m M) (by simp only [execOp, e1, y9]; go_simp) (hK _ _ ?_)
      rw [e2]
      exact ⟨S.off.put (by decide) _, S.before, fun _ => (eval_put _ _ _ (by omega)).trans rfl, kp S.t1, kp S.t2, kp S.t3, kp S.t4, kp S.t5, kp S.t6, kp S.t7, kp S.t8⟩
    | 1, _, ho, hsi, hT =>
      obtain ⟨e1, e2⟩ := pick_of h1 ho
      have D0 : s 0 = true := list_pos hT (d := 0) (by decide)
      have BW := S.before
      have cv := nums_back M (hC.below BW)
      refine step_val (v := .string ⟨(Gal.coefs g m).toArray⟩) (by simp only [execOp, e1, S.t0 D0]; go_simp) (hK _ _ ?_)
      rw [e2]
      exact ⟨S.off.put (by decide) _, S.before, kp S.t0, fun _ => (eval_put _ _ _ (by omega)).trans rfl, kp S.t2, kp S.t3, kp S.t4, kp S.t5, kp S.t6, kp S.t7, kp S.t8⟩
    | 2, _, ho, hsi, hT =>
      obtain ⟨e1, e2⟩ := pick_of h2 ho
      have D1 : s 1 = true := list_pos hT (d := 1) (by decide)
      have BW := S.before
      refine step_call 43 (fun args w => by go_simp) _ _ e1 #[.string ⟨(Gal.coefs g m).toArray⟩] (by simp only [List.map_toArray, List.map_cons, List.map_nil, S.t1 D1]) ((rtrimB g m hm2 _).mono ?_)
      rintro e w2 ⟨rfl, BB⟩
      refine ⟨_, rfl, hK _ _ ?_⟩
      rw [e2]
      exact ⟨S.off.put (by decide) _, bt BW BB, kp S.t0, kp S.t1, fun _ => (eval_put _ _ _ (by omega)).trans rfl, kp S.t3, kp S.t4, kp S.t5, kp S.t6, kp S.t7, kp S.t8⟩
    | 3, _, ho, hsi, hT =>
      obtain ⟨e1, e2⟩ := pick_of h3 ho
      have BW := S.before
      refine step_val (v := .slice (some ⟨lb, 0, none⟩) N C) (by simp only [execOp, e1, y8]; go_simp) (hK _ _ ?_)
      rw [e2]
      exact ⟨S.off.put (by decide) _, S.before, kp S.t0, kp S.t1, kp S.t2, fun _ => (eval_put _ _ _ (by omega)).trans rfl, kp S.t4, kp S.t5, kp S.t6, kp S.t7, kp S.t8⟩
    | 4, _, ho, hsi, hT =>
      obtain ⟨e1, e2⟩ := pick_of h4 ho
      have D3 : s 3 = true := list_pos hT (d := 3) (by decide)
      have BW := S.before
      have cv := nums_back C (hL.below BW)
      refine step_val (v := .string ⟨(Gal.coefs f N).toArray⟩) (by simp only [execOp, e1, S.t3 D3]; go_simp) (hK _ _ ?_)
      rw [e2]
      exact ⟨S.off.put (by decide) _, S.before, kp S.t0, kp S.t1, kp S.t2, kp S.t3, fun _ => (eval_put _ _ _ (by omega)).trans rfl, kp S.t5, kp S.t6, kp S.t7, kp S.t8⟩
    | 5, _, ho, hsi, hT =>
      obtain ⟨e1, e2⟩ := pick_of h5 ho
      have D4 : s 4 = true := list_pos hT (d := 4) (by decide)
      have BW := S.before
      refine step_call 43 (fun args w => by go_simp) _ _ e1 #[.string ⟨(Gal.coefs f N).toArray⟩] (by simp only [List.map_toArray, List.map_cons, List.map_nil, S.t4 D4]) ((rtrimB f N hN2 _).mono ?_)
      rintro e w2 ⟨rfl, BB⟩
      refine ⟨_, rfl, hK _ _ ?_⟩
      rw [e2]
      exact ⟨S.off.put (by decide) _, bt BW BB, kp S.t0, kp S.t1, kp S.t2, kp S.t3, kp S.t4, fun _ => (eval_put _ _ _ (by omega)).trans rfl, kp S.t6, kp S.t7, kp S.t8⟩
    | 6, _, ho, hsi, hT =>
      obtain ⟨e1, e2⟩ := pick_of h6 ho
      have D2 : s 2 = true := list_pos hT (d := 2) (by decide)
      have BW := S.before
      refine step_val (v := .string ⟨(Gal.pol g m).toArray⟩) (by simp only [execOp, e1, S.t2 D2]; go_simp) (hK _ _ ?_)
      rw [e2]
      exact ⟨S.off.put (by decide) _, S.before, kp S.t0, kp S.t1, kp S.t2, kp S.t3, kp S.t4, kp S.t5, fun _ => (eval_put _ _ _ (by omega)).trans rfl, kp S.t7, kp S.t8⟩
    | 7, _, ho, hsi, hT =>
      obtain ⟨e1, e2⟩ := pick_of h7 ho
      have D5 : s 5 = true := list_pos hT (d := 5) (by decide)
      have BW := S.before
      refine step_val (v := .string ⟨(Gal.pol f N).toArray⟩) (by simp only [execOp, e1, S.t5 D5]; go_simp) (hK _ _ ?_)
      rw [e2]
      exact ⟨S.off.put (by decide) _, S.before, kp S.t0, kp S.t1, kp S.t2, kp S.t3, kp S.t4, kp S.t5, kp S.t6, fun _ => (eval_put _ _ _ (by omega)).trans rfl, kp S.t8⟩
    | 8, _, ho, hsi, hT =>
      obtain ⟨e1, e2⟩ := pick_of h8 ho
      have BW := S.before
      refine step_val (v := .int .i64 0) (by simp only [execOp, e1]; go_simp) (hK _ _ ?_)
      rw [e2]
      exact ⟨S.off.put (by decide) _, S.before, kp S.t0, kp S.t1, kp S.t2, kp S.t3, kp S.t4, kp S.t5, kp S.t6, kp S.t7, fun _ => (eval_put _ _ _ (by omega)).trans rfl⟩
  · intro s a w' S hall
    have a0 := hall 0 (by omega)
    have a1 := hall 1 (by omega)
    have a2 := hall 2 (by omega)
    have a3 := hall 3 (by omega)
    have a4 := hall 4 (by omega)
    have a5 := hall 5 (by omega)
    have a6 := hall 6 (by omega)
    have a7 := hall 7 (by omega)
    have a8 := hall 8 (by omega)
    have e := off_norm _ (by intro d hd; simp at hd; omega) S.off
    simp only [List.foldl, S.t0 a0, S.t1 a1, S.t2 a2, S.t3 a3, S.t4 a4, S.t5 a5, S.t6 a6, S.t7 a7, S.t8 a8] at e
    rw [e]
    exact h _ S.before
end Go.Proofs.YtlpjhmafplljaaaGreatDoor
