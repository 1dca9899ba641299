/- Root's regions. -/
import Derived.Test.YtlniojmjakmcjaaDoorQuot
namespace Go.Proofs.YtlniojmjakmcjaaDoor
open Go.RowKit
set_option linter.unusedVariables false

structure root_oneAt  ( B : Nat) (A : Act) (w0 : World) (s : Nat → Bool) (a : Act) (w : World) : Prop where
  off : Off [4, 8] a A
  below : Below B w0 w
  t0 : s 0 = true → a.eval (.tmp 8) = Big 1
  p_o : s 1 = true → s 2 = false → ∃ p, a.eval (.tmp 4) = ptr p ∧ w0.heap.size ≤ p ∧ Row w p (fun _ => 0)
  q_o : s 1 = true → s 2 = true → ∃ p, a.eval (.tmp 4) = ptr p ∧ w0.heap.size ≤ p ∧ Row w p (BigM.dg (1))

set_option maxHeartbeats 2000000 in
theorem root_one {id : Nat} {d : Bool} {l : List Oper} {A : Act} {w : World} {Q : Exit → Act → World → Prop}   { B : Nat}
    (hB : tableD d l.toArray (fun s i => match i with | 0 => !s 2 | 1 => !s 2 | 2 => s 0 && s 1 | _ => true) = true) (hl : l.length = 3)
    (h0 : pick l 0 = some (.call { callee := .value (.func 32), args := #[.const (.int .i64 1)], argTypes := #[2] }, some 8))
    (h1 : pick l 1 = some (.alloc 47, some 4))
    (h2 : pick l 2 = some (.store 47 (.tmp 4) (.tmp 8), none))
    (hs : A.tmps.size = 34) (hB0 : B ≤ w.heap.size)
    (h : ∀ p_o w', Below B w w' → w.heap.size ≤ p_o → Row w' p_o (BigM.dg (1)) → Q .normal ((A.put (some 4) (ptr p_o)).put (some 8) (Big 1)) w') :
    (Code.region id l.toArray d).wp Tryd.prog Q A w := by
  refine wp_region_invD (by kernel_rfl) _ hB (root_oneAt   B A w) ⟨Off.refl _ _, Below.refl _ _, by simp, by simp, by simp⟩ ⟨Off.refl _ _, (Below.refl _ _).drew, by simp, by simp, by simp⟩ ?_ ?_
  · intro s a w' S i o ho hsi hT K hK
    have sz : a.tmps.size = 34 := by rw [S.off.2.1]; exact hs
    have il : i < 3 := by have := (List.getElem?_eq_some_iff.1 ho).1; omega
    match i, il, ho, hsi, hT with
    | 0, _, ho, hsi, hT =>
      obtain ⟨e1, e2⟩ := pick_of h0 ho
      have N2 : s 2 = false := by simpa using hT
      refine step_call 32 (fun args w => by go_simp) _ _ e1 #[.int .i64 1] (by simp only [List.map_toArray, List.map_cons, List.map_nil]; rfl) ((bigAbs_any 1 fits_one w').mono ?_)
      rintro e w2 ⟨rfl, BB⟩
      refine ⟨_, rfl, hK _ _ ?_⟩
      rw [e2]
      have hBs : B ≤ w'.heap.size := Nat.le_trans hB0 S.below.size
      exact ⟨S.off.put (by decide) _, S.below.trans (BB.mono hBs), fun _ => (eval_put _ _ _ (by omega)).trans rfl, fun g g2 => by rw [eval_put_ne _ _ _ _ (by decide)]; obtain ⟨p, k1, k2, k3⟩ := S.p_o (by simpa using g) (by simpa using g2); exact ⟨p, k1, k2, (k3).below BB⟩, fun g g2 => by rw [eval_put_ne _ _ _ _ (by decide)]; obtain ⟨p, k1, k2, k3⟩ := S.q_o (by simpa using g) (by simpa using g2); exact ⟨p, k1, k2, (k3).below BB⟩⟩
    | 1, _, ho, hsi, hT =>
      obtain ⟨e1, e2⟩ := pick_of h1 ho
      have N2 : s 2 = false := by simpa using hT
      refine step_alloc e1 (hK _ _ ?_)
      rw [e2]
      have hBs : B ≤ w'.heap.size := Nat.le_trans hB0 S.below.size
      exact ⟨S.off.put (by decide) _, S.below.alloc hBs _, fun g => by rw [eval_put_ne _ _ _ _ (by decide)]; exact S.t0 (by simpa using g), fun _ _ => by rw [eval_put _ _ _ (by omega)]; exact ⟨_, rfl, S.below.size, row_new _ _⟩, fun _ g => absurd g (by simp [N2])⟩
    | 2, _, ho, hsi, hT =>
      obtain ⟨e1, e2⟩ := pick_of h2 ho
      simp only [Bool.and_eq_true] at hT
      obtain ⟨D0, D1⟩ := hT
      obtain ⟨p, k1, k2, k3⟩ := S.p_o D1 hsi
      refine step_store (.tmp 4) (.tmp 8) e1 (b := p) (f := BigM.dg (1)) k1 (S.t0 D0) k3 (hK _ _ ?_)
      rw [e2]
      exact ⟨S.off, below_setRow S.below (by omega) _, fun g => S.t0 (by simpa using g), fun _ g => absurd g (by simp), fun _ _ => ⟨p, k1, k2, k3.setRow⟩⟩
  · intro s a w' S hall
    have a0 := hall 0 (by omega)
    have a1 := hall 1 (by omega)
    have a2 := hall 2 (by omega)
    obtain ⟨p, k1, k2, k3⟩ := S.q_o a1 a2
    have e := off_norm _ (by intro d hd; simp at hd; omega) S.off
    simp only [List.foldl, k1, S.t0 a0] at e
    rw [e]
    exact h p _ S.below k2 k3
structure root_highAt  (b_o B : Nat) (A : Act) (w0 : World) (s : Nat → Bool) (a : Act) (w : World) : Prop where
  off : Off [5, 9] a A
  below : Below B w0 w
  t0 : s 0 = true → a.eval (.tmp 9) = Big (1)
  o_o : Row w b_o (BigM.dg (1))
  p_h : s 1 = true → s 2 = false → ∃ p, a.eval (.tmp 5) = ptr p ∧ w0.heap.size ≤ p ∧ Row w p (fun _ => 0)
  q_h : s 1 = true → s 2 = true → ∃ p, a.eval (.tmp 5) = ptr p ∧ w0.heap.size ≤ p ∧ Row w p (BigM.dg (1))

set_option maxHeartbeats 2000000 in
theorem root_high {id : Nat} {d : Bool} {l : List Oper} {A : Act} {w : World} {Q : Exit → Act → World → Prop}   {b_o B : Nat}
    (hB : tableD d l.toArray (fun s i => match i with | 0 => !s 2 | 1 => !s 2 | 2 => s 0 && s 1 | _ => true) = true) (hl : l.length = 3)
    (h0 : pick l 0 = some (.load 47 (.tmp 4), some 9))
    (h1 : pick l 1 = some (.alloc 47, some 5))
    (h2 : pick l 2 = some (.store 47 (.tmp 5) (.tmp 9), none))
    (hs : A.tmps.size = 34) (hB0 : B ≤ w.heap.size)
    (x_o : A.eval (.tmp 4) = ptr b_o) (R_o : Row w b_o (BigM.dg (1)))
    (h : ∀ p_h w', Below B w w' → w.heap.size ≤ p_h → Row w' p_h (BigM.dg (1)) → Row w' b_o (BigM.dg (1)) → Q .normal ((A.put (some 5) (ptr p_h)).put (some 9) (Big (1))) w') :
    (Code.region id l.toArray d).wp Tryd.prog Q A w := by
  refine wp_region_invD (by kernel_rfl) _ hB (root_highAt  b_o B A w) ⟨Off.refl _ _, Below.refl _ _, by simp, R_o, by simp, by simp⟩ ⟨Off.refl _ _, (Below.refl _ _).drew, by simp, R_o, by simp, by simp⟩ ?_ ?_
  · intro s a w' S i o ho hsi hT K hK
    have sz : a.tmps.size = 34 := by rw [S.off.2.1]; exact hs
    have il : i < 3 := by have := (List.getElem?_eq_some_iff.1 ho).1; omega
    match i, il, ho, hsi, hT with
    | 0, _, ho, hsi, hT =>
      obtain ⟨e1, e2⟩ := pick_of h0 ho
      have N2 : s 2 = false := by simpa using hT
      refine step_load (.tmp 4) e1 (b := b_o) (f := BigM.dg (1)) (by rw [S.off.eval (by decide)]; exact x_o) S.o_o (hK _ _ ?_)
      rw [e2]
      exact ⟨S.off.put (by decide) _, S.below, fun _ => (eval_put _ _ _ (by omega)).trans rfl, S.o_o, fun g g2 => by rw [eval_put_ne _ _ _ _ (by decide)]; obtain ⟨p, k1, k2, k3⟩ := S.p_h (by simpa using g) (by simpa using g2); exact ⟨p, k1, k2, k3⟩, fun g g2 => by rw [eval_put_ne _ _ _ _ (by decide)]; obtain ⟨p, k1, k2, k3⟩ := S.q_h (by simpa using g) (by simpa using g2); exact ⟨p, k1, k2, k3⟩⟩
    | 1, _, ho, hsi, hT =>
      obtain ⟨e1, e2⟩ := pick_of h1 ho
      have N2 : s 2 = false := by simpa using hT
      refine step_alloc e1 (hK _ _ ?_)
      rw [e2]
      have hBs : B ≤ w'.heap.size := Nat.le_trans hB0 S.below.size
      exact ⟨S.off.put (by decide) _, S.below.alloc hBs _, fun g => by rw [eval_put_ne _ _ _ _ (by decide)]; exact S.t0 (by simpa using g), (S.o_o).alloc _, fun _ _ => by rw [eval_put _ _ _ (by omega)]; exact ⟨_, rfl, S.below.size, row_new _ _⟩, fun _ g => absurd g (by simp [N2])⟩
    | 2, _, ho, hsi, hT =>
      obtain ⟨e1, e2⟩ := pick_of h2 ho
      simp only [Bool.and_eq_true] at hT
      obtain ⟨D0, D1⟩ := hT
      obtain ⟨p, k1, k2, k3⟩ := S.p_h D1 hsi
      refine step_store (.tmp 5) (.tmp 9) e1 (b := p) (f := BigM.dg (1)) k1 (S.t0 D0) k3 (hK _ _ ?_)
      rw [e2]
      exact ⟨S.off, below_setRow S.below (by omega) _, fun g => S.t0 (by simpa using g), (S.o_o).setRowOther (by have := R_o.lt; omega), fun _ g => absurd g (by simp), fun _ _ => ⟨p, k1, k2, k3.setRow⟩⟩
  · intro s a w' S hall
    have a0 := hall 0 (by omega)
    have a1 := hall 1 (by omega)
    have a2 := hall 2 (by omega)
    obtain ⟨p, k1, k2, k3⟩ := S.q_h a1 a2
    have e := off_norm _ (by intro d hd; simp at hd; omega) S.off
    simp only [List.foldl, k1, S.t0 a0] at e
    rw [e]
    exact h p _ S.below k2 k3 S.o_o
structure root_dblAt (x lo hi : Nat) (b_a b_z b_l b_o b_h B : Nat) (A : Act) (w0 : World) (s : Nat → Bool) (a : Act) (w : World) : Prop where
  off : Off [14, 15, 16] a A
  below : Below B w0 w
  t0 : s 0 = true → a.eval (.tmp 14) = Big (hi)
  t1 : s 1 = true → a.eval (.tmp 15) = Big (hi)
  t2 : s 2 = true → a.eval (.tmp 16) = Big (hi + hi)
  o_a : Row w b_a (BigM.dg (x))
  o_z : Row w b_z (BigM.dg (0))
  o_l : Row w b_l (BigM.dg (lo))
  o_o : Row w b_o (BigM.dg (1))
  o_h : s 3 = false → Row w b_h (BigM.dg (hi))
  n_h : s 3 = true → Row w b_h (BigM.dg (hi + hi))

set_option maxHeartbeats 2000000 in
theorem root_dbl {id : Nat} {d : Bool} {l : List Oper} {A : Act} {w : World} {Q : Exit → Act → World → Prop} (x lo hi : Nat)  {b_a b_z b_l b_o b_h B : Nat}
    (hB : tableD d l.toArray (fun s i => match i with | 0 => !s 3 | 1 => !s 3 | 2 => s 0 && s 1 && !s 3 | 3 => s 0 && s 1 && s 2 | _ => true) = true) (hl : l.length = 4)
    (h0 : pick l 0 = some (.load 47 (.tmp 5), some 14))
    (h1 : pick l 1 = some (.load 47 (.tmp 5), some 15))
    (h2 : pick l 2 = some (.call { callee := .value (.func 37), args := #[.tmp 14, .tmp 15], argTypes := #[47, 47] }, some 16))
    (h3 : pick l 3 = some (.store 47 (.tmp 5) (.tmp 16), none))
    (hs : A.tmps.size = 34) (hB0 : B ≤ w.heap.size)
    (x_a : A.eval (.tmp 1) = ptr b_a) (R_a : Row w b_a (BigM.dg (x)))
    (x_z : A.eval (.tmp 2) = ptr b_z) (R_z : Row w b_z (BigM.dg (0)))
    (x_l : A.eval (.tmp 3) = ptr b_l) (R_l : Row w b_l (BigM.dg (lo)))
    (x_o : A.eval (.tmp 4) = ptr b_o) (R_o : Row w b_o (BigM.dg (1)))
    (x_h : A.eval (.tmp 5) = ptr b_h) (R_h : Row w b_h (BigM.dg (hi))) (B_h : B ≤ b_h)
    (ne_a_h : b_a ≠ b_h)
    (ne_z_h : b_z ≠ b_h)
    (ne_l_h : b_l ≠ b_h)
    (ne_o_h : b_o ≠ b_h)
    (h : ∀ w', Below B w w' → Row w' b_a (BigM.dg (x)) → Row w' b_z (BigM.dg (0)) → Row w' b_l (BigM.dg (lo)) → Row w' b_o (BigM.dg (1)) → Row w' b_h (BigM.dg (hi + hi)) → Q .normal (((A.put (some 14) (Big (hi))).put (some 15) (Big (hi))).put (some 16) (Big (hi + hi))) w') :
    (Code.region id l.toArray d).wp Tryd.prog Q A w := by
  refine wp_region_invD (by kernel_rfl) _ hB (root_dblAt x lo hi b_a b_z b_l b_o b_h B A w) ⟨Off.refl _ _, Below.refl _ _, by simp, by simp, by simp, R_a, R_z, R_l, R_o, fun _ => R_h, by simp⟩ ⟨Off.refl _ _, (Below.refl _ _).drew, by simp, by simp, by simp, R_a, R_z, R_l, R_o, fun _ => R_h, by simp⟩ ?_ ?_
  · intro s a w' S i o ho hsi hT K hK
    have sz : a.tmps.size = 34 := by rw [S.off.2.1]; exact hs
    have il : i < 4 := by have := (List.getElem?_eq_some_iff.1 ho).1; omega
    match i, il, ho, hsi, hT with
    | 0, _, ho, hsi, hT =>
      obtain ⟨e1, e2⟩ := pick_of h0 ho
      have N3 : s 3 = false := by simpa using hT
      refine step_load (.tmp 5) e1 (b := b_h) (f := BigM.dg (hi)) (by rw [S.off.eval (by decide)]; exact x_h) (S.o_h N3) (hK _ _ ?_)
      rw [e2]
      exact ⟨S.off.put (by decide) _, S.below, fun _ => (eval_put _ _ _ (by omega)).trans rfl, fun g => by rw [eval_put_ne _ _ _ _ (by decide)]; exact S.t1 (by simpa using g), fun g => by rw [eval_put_ne _ _ _ _ (by decide)]; exact S.t2 (by simpa using g), S.o_a, S.o_z, S.o_l, S.o_o, fun g => S.o_h (by simpa using g), fun g => S.n_h (by simpa using g)⟩
    | 1, _, ho, hsi, hT =>
      obtain ⟨e1, e2⟩ := pick_of h1 ho
      have N3 : s 3 = false := by simpa using hT
      refine step_load (.tmp 5) e1 (b := b_h) (f := BigM.dg (hi)) (by rw [S.off.eval (by decide)]; exact x_h) (S.o_h N3) (hK _ _ ?_)
      rw [e2]
      exact ⟨S.off.put (by decide) _, S.below, fun g => by rw [eval_put_ne _ _ _ _ (by decide)]; exact S.t0 (by simpa using g), fun _ => (eval_put _ _ _ (by omega)).trans rfl, fun g => by rw [eval_put_ne _ _ _ _ (by decide)]; exact S.t2 (by simpa using g), S.o_a, S.o_z, S.o_l, S.o_o, fun g => S.o_h (by simpa using g), fun g => S.n_h (by simpa using g)⟩
    | 2, _, ho, hsi, hT =>
      obtain ⟨e1, e2⟩ := pick_of h2 ho
      simp only [Bool.and_eq_true, Bool.not_eq_true'] at hT
      obtain ⟨⟨D0, D1⟩, N3⟩ := hT
      refine step_call 37 (fun args w => by go_simp) _ _ e1 #[Big (hi), Big (hi)] (by simp only [List.map_toArray, List.map_cons, List.map_nil, S.t0 D0, S.t1 D1]) ((bigAdd_any hi hi w').mono ?_)
      rintro e w2 ⟨rfl, BB⟩
      refine ⟨_, rfl, hK _ _ ?_⟩
      rw [e2]
      have hBs : B ≤ w'.heap.size := Nat.le_trans hB0 S.below.size
      exact ⟨S.off.put (by decide) _, S.below.trans (BB.mono hBs), fun g => by rw [eval_put_ne _ _ _ _ (by decide)]; exact S.t0 (by simpa using g), fun g => by rw [eval_put_ne _ _ _ _ (by decide)]; exact S.t1 (by simpa using g), fun _ => (eval_put _ _ _ (by omega)).trans rfl, (S.o_a).below BB, (S.o_z).below BB, (S.o_l).below BB, (S.o_o).below BB, fun g => (S.o_h (by simpa using g)).below BB, fun g => (S.n_h (by simpa using g)).below BB⟩
    | 3, _, ho, hsi, hT =>
      obtain ⟨e1, e2⟩ := pick_of h3 ho
      simp only [Bool.and_eq_true] at hT
      obtain ⟨⟨D0, D1⟩, D2⟩ := hT
      refine step_store (.tmp 5) (.tmp 16) e1 (b := b_h) (f := BigM.dg (hi + hi)) (by rw [S.off.eval (by decide)]; exact x_h) (S.t2 D2) (S.o_h hsi) (hK _ _ ?_)
      rw [e2]
      exact ⟨S.off, below_setRow S.below B_h _, fun g => S.t0 (by simpa using g), fun g => S.t1 (by simpa using g), fun g => S.t2 (by simpa using g), (S.o_a).setRowOther (ne_a_h), (S.o_z).setRowOther (ne_z_h), (S.o_l).setRowOther (ne_l_h), (S.o_o).setRowOther (ne_o_h), fun g => absurd g (by simp), fun _ => (S.o_h hsi).setRow⟩
  · intro s a w' S hall
    have a0 := hall 0 (by omega)
    have a1 := hall 1 (by omega)
    have a2 := hall 2 (by omega)
    have a3 := hall 3 (by omega)
    have e := off_norm _ (by intro d hd; simp at hd; omega) S.off
    simp only [List.foldl, S.t0 a0, S.t1 a1, S.t2 a2] at e
    rw [e]
    exact h _ S.below S.o_a S.o_z S.o_l S.o_o (S.n_h a3)
structure root_lessAt (lo hi : Nat) (b_l b_o b_h B : Nat) (A : Act) (w0 : World) (s : Nat → Bool) (a : Act) (w : World) : Prop where
  off : Off [17, 18, 19, 20, 21] a A
  below : Below B w0 w
  t0 : s 0 = true → a.eval (.tmp 17) = Big (lo)
  t1 : s 1 = true → a.eval (.tmp 18) = Big (1)
  t2 : s 2 = true → a.eval (.tmp 19) = Big (lo + 1)
  t3 : s 3 = true → a.eval (.tmp 20) = Big (hi)
  t4 : s 4 = true → a.eval (.tmp 21) = .bool (decide (lo + 1 < hi))
  o_l : Row w b_l (BigM.dg (lo))
  o_o : Row w b_o (BigM.dg (1))
  o_h : Row w b_h (BigM.dg (hi))

set_option maxHeartbeats 2000000 in
theorem root_less {id : Nat} {d : Bool} {l : List Oper} {A : Act} {w : World} {Q : Exit → Act → World → Prop} (lo hi : Nat) (hlo : lo + 1 < 65536 ^ 17) (hhi : hi < 65536 ^ 17) {b_l b_o b_h B : Nat}
    (hB : tableD d l.toArray (fun s i => match i with | 0 => true | 1 => true | 2 => s 0 && s 1 | 3 => true | 4 => s 2 && s 3 | _ => true) = true) (hl : l.length = 5)
    (h0 : pick l 0 = some (.load 47 (.tmp 3), some 17))
    (h1 : pick l 1 = some (.load 47 (.tmp 4), some 18))
    (h2 : pick l 2 = some (.call { callee := .value (.func 37), args := #[.tmp 17, .tmp 18], argTypes := #[47, 47] }, some 19))
    (h3 : pick l 3 = some (.load 47 (.tmp 5), some 20))
    (h4 : pick l 4 = some (.call { callee := .value (.func 41), args := #[.tmp 19, .tmp 20], argTypes := #[47, 47] }, some 21))
    (hs : A.tmps.size = 34) (hB0 : B ≤ w.heap.size)
    (x_l : A.eval (.tmp 3) = ptr b_l) (R_l : Row w b_l (BigM.dg (lo)))
    (x_o : A.eval (.tmp 4) = ptr b_o) (R_o : Row w b_o (BigM.dg (1)))
    (x_h : A.eval (.tmp 5) = ptr b_h) (R_h : Row w b_h (BigM.dg (hi)))
    (h : ∀ w', Below B w w' → Row w' b_l (BigM.dg (lo)) → Row w' b_o (BigM.dg (1)) → Row w' b_h (BigM.dg (hi)) → Q .normal (((((A.put (some 17) (Big (lo))).put (some 18) (Big (1))).put (some 19) (Big (lo + 1))).put (some 20) (Big (hi))).put (some 21) (.bool (decide (lo + 1 < hi)))) w') :
    (Code.region id l.toArray d).wp Tryd.prog Q A w := by
  refine wp_region_invD (by kernel_rfl) _ hB (root_lessAt lo hi b_l b_o b_h B A w) ⟨Off.refl _ _, Below.refl _ _, by simp, by simp, by simp, by simp, by simp, R_l, R_o, R_h⟩ ⟨Off.refl _ _, (Below.refl _ _).drew, by simp, by simp, by simp, by simp, by simp, R_l, R_o, R_h⟩ ?_ ?_
  · intro s a w' S i o ho hsi hT K hK
    have sz : a.tmps.size = 34 := by rw [S.off.2.1]; exact hs
    have il : i < 5 := by have := (List.getElem?_eq_some_iff.1 ho).1; omega
    match i, il, ho, hsi, hT with
    | 0, _, ho, hsi, hT =>
      obtain ⟨e1, e2⟩ := pick_of h0 ho
      refine step_load (.tmp 3) e1 (b := b_l) (f := BigM.dg (lo)) (by rw [S.off.eval (by decide)]; exact x_l) S.o_l (hK _ _ ?_)
      rw [e2]
      exact ⟨S.off.put (by decide) _, S.below, fun _ => (eval_put _ _ _ (by omega)).trans rfl, fun g => by rw [eval_put_ne _ _ _ _ (by decide)]; exact S.t1 (by simpa using g), fun g => by rw [eval_put_ne _ _ _ _ (by decide)]; exact S.t2 (by simpa using g), fun g => by rw [eval_put_ne _ _ _ _ (by decide)]; exact S.t3 (by simpa using g), fun g => by rw [eval_put_ne _ _ _ _ (by decide)]; exact S.t4 (by simpa using g), S.o_l, S.o_o, S.o_h⟩
    | 1, _, ho, hsi, hT =>
      obtain ⟨e1, e2⟩ := pick_of h1 ho
      refine step_load (.tmp 4) e1 (b := b_o) (f := BigM.dg (1)) (by rw [S.off.eval (by decide)]; exact x_o) S.o_o (hK _ _ ?_)
      rw [e2]
      exact ⟨S.off.put (by decide) _, S.below, fun g => by rw [eval_put_ne _ _ _ _ (by decide)]; exact S.t0 (by simpa using g), fun _ => (eval_put _ _ _ (by omega)).trans rfl, fun g => by rw [eval_put_ne _ _ _ _ (by decide)]; exact S.t2 (by simpa using g), fun g => by rw [eval_put_ne _ _ _ _ (by decide)]; exact S.t3 (by simpa using g), fun g => by rw [eval_put_ne _ _ _ _ (by decide)]; exact S.t4 (by simpa using g), S.o_l, S.o_o, S.o_h⟩
    | 2, _, ho, hsi, hT =>
      obtain ⟨e1, e2⟩ := pick_of h2 ho
      simp only [Bool.and_eq_true] at hT
      obtain ⟨D0, D1⟩ := hT
      refine step_call 37 (fun args w => by go_simp) _ _ e1 #[Big (lo), Big (1)] (by simp only [List.map_toArray, List.map_cons, List.map_nil, S.t0 D0, S.t1 D1]) ((bigAdd_any lo 1 w').mono ?_)
      rintro e w2 ⟨rfl, BB⟩
      refine ⟨_, rfl, hK _ _ ?_⟩
      rw [e2]
      have hBs : B ≤ w'.heap.size := Nat.le_trans hB0 S.below.size
      exact ⟨S.off.put (by decide) _, S.below.trans (BB.mono hBs), fun g => by rw [eval_put_ne _ _ _ _ (by decide)]; exact S.t0 (by simpa using g), fun g => by rw [eval_put_ne _ _ _ _ (by decide)]; exact S.t1 (by simpa using g), fun _ => (eval_put _ _ _ (by omega)).trans rfl, fun g => by rw [eval_put_ne _ _ _ _ (by decide)]; exact S.t3 (by simpa using g), fun g => by rw [eval_put_ne _ _ _ _ (by decide)]; exact S.t4 (by simpa using g), (S.o_l).below BB, (S.o_o).below BB, (S.o_h).below BB⟩
    | 3, _, ho, hsi, hT =>
      obtain ⟨e1, e2⟩ := pick_of h3 ho
      refine step_load (.tmp 5) e1 (b := b_h) (f := BigM.dg (hi)) (by rw [S.off.eval (by decide)]; exact x_h) S.o_h (hK _ _ ?_)
      rw [e2]
      exact ⟨S.off.put (by decide) _, S.below, fun g => by rw [eval_put_ne _ _ _ _ (by decide)]; exact S.t0 (by simpa using g), fun g => by rw [eval_put_ne _ _ _ _ (by decide)]; exact S.t1 (by simpa using g), fun g => by rw [eval_put_ne _ _ _ _ (by decide)]; exact S.t2 (by simpa using g), fun _ => (eval_put _ _ _ (by omega)).trans rfl, fun g => by rw [eval_put_ne _ _ _ _ (by decide)]; exact S.t4 (by simpa using g), S.o_l, S.o_o, S.o_h⟩
    | 4, _, ho, hsi, hT =>
      obtain ⟨e1, e2⟩ := pick_of h4 ho
      simp only [Bool.and_eq_true] at hT
      obtain ⟨D2, D3⟩ := hT
      refine step_call 41 (fun args w => by go_simp) _ _ e1 #[Big (lo + 1), Big (hi)] (by simp only [List.map_toArray, List.map_cons, List.map_nil, S.t2 D2, S.t3 D3]) ((bigLess_any (lo + 1) hi hlo hhi w').mono ?_)
      rintro e w2 ⟨rfl, BB⟩
      refine ⟨_, rfl, hK _ _ ?_⟩
      rw [e2]
      have hBs : B ≤ w'.heap.size := Nat.le_trans hB0 S.below.size
      exact ⟨S.off.put (by decide) _, S.below.trans (BB.mono hBs), fun g => by rw [eval_put_ne _ _ _ _ (by decide)]; exact S.t0 (by simpa using g), fun g => by rw [eval_put_ne _ _ _ _ (by decide)]; exact S.t1 (by simpa using g), fun g => by rw [eval_put_ne _ _ _ _ (by decide)]; exact S.t2 (by simpa using g), fun g => by rw [eval_put_ne _ _ _ _ (by decide)]; exact S.t3 (by simpa using g), fun _ => (eval_put _ _ _ (by omega)).trans rfl, (S.o_l).below BB, (S.o_o).below BB, (S.o_h).below BB⟩
  · intro s a w' S hall
    have a0 := hall 0 (by omega)
    have a1 := hall 1 (by omega)
    have a2 := hall 2 (by omega)
    have a3 := hall 3 (by omega)
    have a4 := hall 4 (by omega)
    have e := off_norm _ (by intro d hd; simp at hd; omega) S.off
    simp only [List.foldl, S.t0 a0, S.t1 a1, S.t2 a2, S.t3 a3, S.t4 a4] at e
    rw [e]
    exact h _ S.below S.o_l S.o_o S.o_h
structure root_midAt (lo hi : Nat) (b_l b_h B : Nat) (A : Act) (w0 : World) (s : Nat → Bool) (a : Act) (w : World) : Prop where
  off : Off [7, 22, 23, 24, 25] a A
  below : Below B w0 w
  t0 : s 0 = true → a.eval (.tmp 22) = Big (lo)
  t1 : s 1 = true → a.eval (.tmp 23) = Big (hi)
  t2 : s 2 = true → a.eval (.tmp 24) = Big (lo + hi)
  t3 : s 3 = true → a.eval (.tmp 25) = Big ((lo + hi) / 2)
  o_l : Row w b_l (BigM.dg (lo))
  o_h : Row w b_h (BigM.dg (hi))
  p_m : s 4 = true → s 5 = false → ∃ p, a.eval (.tmp 7) = ptr p ∧ w0.heap.size ≤ p ∧ Row w p (fun _ => 0)
  q_m : s 4 = true → s 5 = true → ∃ p, a.eval (.tmp 7) = ptr p ∧ w0.heap.size ≤ p ∧ Row w p (BigM.dg ((lo + hi) / 2))

set_option maxHeartbeats 2000000 in
theorem root_mid {id : Nat} {d : Bool} {l : List Oper} {A : Act} {w : World} {Q : Exit → Act → World → Prop} (lo hi : Nat) (hsum : lo + hi < 65536 ^ 17) {b_l b_h B : Nat}
    (hB : tableD d l.toArray (fun s i => match i with | 0 => !s 5 | 1 => !s 5 | 2 => s 0 && s 1 && !s 5 | 3 => s 2 && !s 5 | 4 => !s 5 | 5 => s 0 && s 1 && s 2 && s 3 && s 4 | _ => true) = true) (hl : l.length = 6)
    (h0 : pick l 0 = some (.load 47 (.tmp 3), some 22))
    (h1 : pick l 1 = some (.load 47 (.tmp 5), some 23))
    (h2 : pick l 2 = some (.call { callee := .value (.func 37), args := #[.tmp 22, .tmp 23], argTypes := #[47, 47] }, some 24))
    (h3 : pick l 3 = some (.call { callee := .value (.func 47), args := #[.tmp 24], argTypes := #[47] }, some 25))
    (h4 : pick l 4 = some (.alloc 47, some 7))
    (h5 : pick l 5 = some (.store 47 (.tmp 7) (.tmp 25), none))
    (hs : A.tmps.size = 34) (hB0 : B ≤ w.heap.size)
    (x_l : A.eval (.tmp 3) = ptr b_l) (R_l : Row w b_l (BigM.dg (lo)))
    (x_h : A.eval (.tmp 5) = ptr b_h) (R_h : Row w b_h (BigM.dg (hi)))
    (h : ∀ p_m w', Below B w w' → w.heap.size ≤ p_m → Row w' p_m (BigM.dg ((lo + hi) / 2)) → Row w' b_l (BigM.dg (lo)) → Row w' b_h (BigM.dg (hi)) → Q .normal (((((A.put (some 7) (ptr p_m)).put (some 22) (Big (lo))).put (some 23) (Big (hi))).put (some 24) (Big (lo + hi))).put (some 25) (Big ((lo + hi) / 2))) w') :
    (Code.region id l.toArray d).wp Tryd.prog Q A w := by
  refine wp_region_invD (by kernel_rfl) _ hB (root_midAt lo hi b_l b_h B A w) ⟨Off.refl _ _, Below.refl _ _, by simp, by simp, by simp, by simp, R_l, R_h, by simp, by simp⟩ ⟨Off.refl _ _, (Below.refl _ _).drew, by simp, by simp, by simp, by simp, R_l, R_h, by simp, by simp⟩ ?_ ?_
  · intro s a w' S i o ho hsi hT K hK
    have sz : a.tmps.size = 34 := by rw [S.off.2.1]; exact hs
    have il : i < 6 := by have := (List.getElem?_eq_some_iff.1 ho).1; omega
    match i, il, ho, hsi, hT with
    | 0, _, ho, hsi, hT =>
      obtain ⟨e1, e2⟩ := pick_of h0 ho
      have N5 : s 5 = false := by simpa using hT
      refine step_load (.tmp 3) e1 (b := b_l) (f := BigM.dg (lo)) (by rw [S.off.eval (by decide)]; exact x_l) S.o_l (hK _ _ ?_)
      rw [e2]
      exact ⟨S.off.put (by decide) _, S.below, fun _ => (eval_put _ _ _ (by omega)).trans rfl, fun g => by rw [eval_put_ne _ _ _ _ (by decide)]; exact S.t1 (by simpa using g), fun g => by rw [eval_put_ne _ _ _ _ (by decide)]; exact S.t2 (by simpa using g), fun g => by rw [eval_put_ne _ _ _ _ (by decide)]; exact S.t3 (by simpa using g), S.o_l, S.o_h, fun g g2 => by rw [eval_put_ne _ _ _ _ (by decide)]; obtain ⟨p, k1, k2, k3⟩ := S.p_m (by simpa using g) (by simpa using g2); exact ⟨p, k1, k2, k3⟩, fun g g2 => by rw [eval_put_ne _ _ _ _ (by decide)]; obtain ⟨p, k1, k2, k3⟩ := S.q_m (by simpa using g) (by simpa using g2); exact ⟨p, k1, k2, k3⟩⟩
    | 1, _, ho, hsi, hT =>
      obtain ⟨e1, e2⟩ := pick_of h1 ho
      have N5 : s 5 = false := by simpa using hT
      refine step_load (.tmp 5) e1 (b := b_h) (f := BigM.dg (hi)) (by rw [S.off.eval (by decide)]; exact x_h) S.o_h (hK _ _ ?_)
      rw [e2]
      exact ⟨S.off.put (by decide) _, S.below, fun g => by rw [eval_put_ne _ _ _ _ (by decide)]; exact S.t0 (by simpa using g), fun _ => (eval_put _ _ _ (by omega)).trans rfl, fun g => by rw [eval_put_ne _ _ _ _ (by decide)]; exact S.t2 (by simpa using g), fun g => by rw [eval_put_ne _ _ _ _ (by decide)]; exact S.t3 (by simpa using g), S.o_l, S.o_h, fun g g2 => by rw [eval_put_ne _ _ _ _ (by decide)]; obtain ⟨p, k1, k2, k3⟩ := S.p_m (by simpa using g) (by simpa using g2); exact ⟨p, k1, k2, k3⟩, fun g g2 => by rw [eval_put_ne _ _ _ _ (by decide)]; obtain ⟨p, k1, k2, k3⟩ := S.q_m (by simpa using g) (by simpa using g2); exact ⟨p, k1, k2, k3⟩⟩
    | 2, _, ho, hsi, hT =>
      obtain ⟨e1, e2⟩ := pick_of h2 ho
      simp only [Bool.and_eq_true, Bool.not_eq_true'] at hT
      obtain ⟨⟨D0, D1⟩, N5⟩ := hT
      refine step_call 37 (fun args w => by go_simp) _ _ e1 #[Big (lo), Big (hi)] (by simp only [List.map_toArray, List.map_cons, List.map_nil, S.t0 D0, S.t1 D1]) ((bigAdd_any lo hi w').mono ?_)
      rintro e w2 ⟨rfl, BB⟩
      refine ⟨_, rfl, hK _ _ ?_⟩
      rw [e2]
      have hBs : B ≤ w'.heap.size := Nat.le_trans hB0 S.below.size
      exact ⟨S.off.put (by decide) _, S.below.trans (BB.mono hBs), fun g => by rw [eval_put_ne _ _ _ _ (by decide)]; exact S.t0 (by simpa using g), fun g => by rw [eval_put_ne _ _ _ _ (by decide)]; exact S.t1 (by simpa using g), fun _ => (eval_put _ _ _ (by omega)).trans rfl, fun g => by rw [eval_put_ne _ _ _ _ (by decide)]; exact S.t3 (by simpa using g), (S.o_l).below BB, (S.o_h).below BB, fun g g2 => by rw [eval_put_ne _ _ _ _ (by decide)]; obtain ⟨p, k1, k2, k3⟩ := S.p_m (by simpa using g) (by simpa using g2); exact ⟨p, k1, k2, (k3).below BB⟩, fun g g2 => by rw [eval_put_ne _ _ _ _ (by decide)]; obtain ⟨p, k1, k2, k3⟩ := S.q_m (by simpa using g) (by simpa using g2); exact ⟨p, k1, k2, (k3).below BB⟩⟩
    | 3, _, ho, hsi, hT =>
      obtain ⟨e1, e2⟩ := pick_of h3 ho
      simp only [Bool.and_eq_true, Bool.not_eq_true'] at hT
      obtain ⟨D2, N5⟩ := hT
      refine step_call 47 (fun args w => by go_simp) _ _ e1 #[Big (lo + hi)] (by simp only [List.map_toArray, List.map_cons, List.map_nil, S.t2 D2]) ((bigHalf_any (lo + hi) hsum w').mono ?_)
      rintro e w2 ⟨rfl, BB⟩
      refine ⟨_, rfl, hK _ _ ?_⟩
      rw [e2]
      have hBs : B ≤ w'.heap.size := Nat.le_trans hB0 S.below.size
      exact ⟨S.off.put (by decide) _, S.below.trans (BB.mono hBs), fun g => by rw [eval_put_ne _ _ _ _ (by decide)]; exact S.t0 (by simpa using g), fun g => by rw [eval_put_ne _ _ _ _ (by decide)]; exact S.t1 (by simpa using g), fun g => by rw [eval_put_ne _ _ _ _ (by decide)]; exact S.t2 (by simpa using g), fun _ => (eval_put _ _ _ (by omega)).trans rfl, (S.o_l).below BB, (S.o_h).below BB, fun g g2 => by rw [eval_put_ne _ _ _ _ (by decide)]; obtain ⟨p, k1, k2, k3⟩ := S.p_m (by simpa using g) (by simpa using g2); exact ⟨p, k1, k2, (k3).below BB⟩, fun g g2 => by rw [eval_put_ne _ _ _ _ (by decide)]; obtain ⟨p, k1, k2, k3⟩ := S.q_m (by simpa using g) (by simpa using g2); exact ⟨p, k1, k2, (k3).below BB⟩⟩
    | 4, _, ho, hsi, hT =>
      obtain ⟨e1, e2⟩ := pick_of h4 ho
      have N5 : s 5 = false := by simpa using hT
      refine step_alloc e1 (hK _ _ ?_)
      rw [e2]
      have hBs : B ≤ w'.heap.size := Nat.le_trans hB0 S.below.size
      exact ⟨S.off.put (by decide) _, S.below.alloc hBs _, fun g => by rw [eval_put_ne _ _ _ _ (by decide)]; exact S.t0 (by simpa using g), fun g => by rw [eval_put_ne _ _ _ _ (by decide)]; exact S.t1 (by simpa using g), fun g => by rw [eval_put_ne _ _ _ _ (by decide)]; exact S.t2 (by simpa using g), fun g => by rw [eval_put_ne _ _ _ _ (by decide)]; exact S.t3 (by simpa using g), (S.o_l).alloc _, (S.o_h).alloc _, fun _ _ => by rw [eval_put _ _ _ (by omega)]; exact ⟨_, rfl, S.below.size, row_new _ _⟩, fun _ g => absurd g (by simp [N5])⟩
    | 5, _, ho, hsi, hT =>
      obtain ⟨e1, e2⟩ := pick_of h5 ho
      simp only [Bool.and_eq_true] at hT
      obtain ⟨⟨⟨⟨D0, D1⟩, D2⟩, D3⟩, D4⟩ := hT
      obtain ⟨p, k1, k2, k3⟩ := S.p_m D4 hsi
      refine step_store (.tmp 7) (.tmp 25) e1 (b := p) (f := BigM.dg ((lo + hi) / 2)) k1 (S.t3 D3) k3 (hK _ _ ?_)
      rw [e2]
      exact ⟨S.off, below_setRow S.below (by omega) _, fun g => S.t0 (by simpa using g), fun g => S.t1 (by simpa using g), fun g => S.t2 (by simpa using g), fun g => S.t3 (by simpa using g), (S.o_l).setRowOther (by have := R_l.lt; omega), (S.o_h).setRowOther (by have := R_h.lt; omega), fun _ g => absurd g (by simp), fun _ _ => ⟨p, k1, k2, k3.setRow⟩⟩
  · intro s a w' S hall
    have a0 := hall 0 (by omega)
    have a1 := hall 1 (by omega)
    have a2 := hall 2 (by omega)
    have a3 := hall 3 (by omega)
    have a4 := hall 4 (by omega)
    have a5 := hall 5 (by omega)
    obtain ⟨p, k1, k2, k3⟩ := S.q_m a4 a5
    have e := off_norm _ (by intro d hd; simp at hd; omega) S.off
    simp only [List.foldl, k1, S.t0 a0, S.t1 a1, S.t2 a2, S.t3 a3] at e
    rw [e]
    exact h p _ S.below k2 k3 S.o_l S.o_h
structure root_cmpAt (x mid : Nat) (b_a b_m B : Nat) (A : Act) (w0 : World) (s : Nat → Bool) (a : Act) (w : World) : Prop where
  off : Off [26, 27, 28, 29, 30] a A
  below : Below B w0 w
  t0 : s 0 = true → a.eval (.tmp 26) = Big (x)
  t1 : s 1 = true → a.eval (.tmp 27) = Big (mid)
  t2 : s 2 = true → a.eval (.tmp 28) = Big (mid)
  t3 : s 3 = true → a.eval (.tmp 29) = Big (mid * mid)
  t4 : s 4 = true → a.eval (.tmp 30) = .bool (decide (x < mid * mid))
  o_a : Row w b_a (BigM.dg (x))
  o_m : Row w b_m (BigM.dg (mid))

set_option maxHeartbeats 2000000 in
theorem root_cmp {id : Nat} {d : Bool} {l : List Oper} {A : Act} {w : World} {Q : Exit → Act → World → Prop} (x mid : Nat) (hm : mid < 65536 ^ 8) (hx : x < 65536 ^ 17) (hmm : mid * mid < 65536 ^ 17) {b_a b_m B : Nat}
    (hB : tableD d l.toArray (fun s i => match i with | 0 => true | 1 => true | 2 => true | 3 => s 1 && s 2 | 4 => s 0 && s 3 | _ => true) = true) (hl : l.length = 5)
    (h0 : pick l 0 = some (.load 47 (.tmp 1), some 26))
    (h1 : pick l 1 = some (.load 47 (.tmp 7), some 27))
    (h2 : pick l 2 = some (.load 47 (.tmp 7), some 28))
    (h3 : pick l 3 = some (.call { callee := .value (.func 31), args := #[.tmp 27, .tmp 28], argTypes := #[47, 47] }, some 29))
    (h4 : pick l 4 = some (.call { callee := .value (.func 41), args := #[.tmp 26, .tmp 29], argTypes := #[47, 47] }, some 30))
    (hs : A.tmps.size = 34) (hB0 : B ≤ w.heap.size)
    (x_a : A.eval (.tmp 1) = ptr b_a) (R_a : Row w b_a (BigM.dg (x)))
    (x_m : A.eval (.tmp 7) = ptr b_m) (R_m : Row w b_m (BigM.dg (mid)))
    (h : ∀ w', Below B w w' → Row w' b_a (BigM.dg (x)) → Row w' b_m (BigM.dg (mid)) → Q .normal (((((A.put (some 26) (Big (x))).put (some 27) (Big (mid))).put (some 28) (Big (mid))).put (some 29) (Big (mid * mid))).put (some 30) (.bool (decide (x < mid * mid)))) w') :
    (Code.region id l.toArray d).wp Tryd.prog Q A w := by
  refine wp_region_invD (by kernel_rfl) _ hB (root_cmpAt x mid b_a b_m B A w) ⟨Off.refl _ _, Below.refl _ _, by simp, by simp, by simp, by simp, by simp, R_a, R_m⟩ ⟨Off.refl _ _, (Below.refl _ _).drew, by simp, by simp, by simp, by simp, by simp, R_a, R_m⟩ ?_ ?_
  · intro s a w' S i o ho hsi hT K hK
    have sz : a.tmps.size = 34 := by rw [S.off.2.1]; exact hs
    have il : i < 5 := by have := (List.getElem?_eq_some_iff.1 ho).1; omega
    match i, il, ho, hsi, hT with
    | 0, _, ho, hsi, hT =>
      obtain ⟨e1, e2⟩ := pick_of h0 ho
      refine step_load (.tmp 1) e1 (b := b_a) (f := BigM.dg (x)) (by rw [S.off.eval (by decide)]; exact x_a) S.o_a (hK _ _ ?_)
      rw [e2]
      exact ⟨S.off.put (by decide) _, S.below, fun _ => (eval_put _ _ _ (by omega)).trans rfl, fun g => by rw [eval_put_ne _ _ _ _ (by decide)]; exact S.t1 (by simpa using g), fun g => by rw [eval_put_ne _ _ _ _ (by decide)]; exact S.t2 (by simpa using g), fun g => by rw [eval_put_ne _ _ _ _ (by decide)]; exact S.t3 (by simpa using g), fun g => by rw [eval_put_ne _ _ _ _ (by decide)]; exact S.t4 (by simpa using g), S.o_a, S.o_m⟩
    | 1, _, ho, hsi, hT =>
      obtain ⟨e1, e2⟩ := pick_of h1 ho
      refine step_load (.tmp 7) e1 (b := b_m) (f := BigM.dg (mid)) (by rw [S.off.eval (by decide)]; exact x_m) S.o_m (hK _ _ ?_)
      rw [e2]
      exact ⟨S.off.put (by decide) _, S.below, fun g => by rw [eval_put_ne _ _ _ _ (by decide)]; exact S.t0 (by simpa using g), fun _ => (eval_put _ _ _ (by omega)).trans rfl, fun g => by rw [eval_put_ne _ _ _ _ (by decide)]; exact S.t2 (by simpa using g), fun g => by rw [eval_put_ne _ _ _ _ (by decide)]; exact S.t3 (by simpa using g), fun g => by rw [eval_put_ne _ _ _ _ (by decide)]; exact S.t4 (by simpa using g), S.o_a, S.o_m⟩
    | 2, _, ho, hsi, hT =>
      obtain ⟨e1, e2⟩ := pick_of h2 ho
      refine step_load (.tmp 7) e1 (b := b_m) (f := BigM.dg (mid)) (by rw [S.off.eval (by decide)]; exact x_m) S.o_m (hK _ _ ?_)
      rw [e2]
      exact ⟨S.off.put (by decide) _, S.below, fun g => by rw [eval_put_ne _ _ _ _ (by decide)]; exact S.t0 (by simpa using g), fun g => by rw [eval_put_ne _ _ _ _ (by decide)]; exact S.t1 (by simpa using g), fun _ => (eval_put _ _ _ (by omega)).trans rfl, fun g => by rw [eval_put_ne _ _ _ _ (by decide)]; exact S.t3 (by simpa using g), fun g => by rw [eval_put_ne _ _ _ _ (by decide)]; exact S.t4 (by simpa using g), S.o_a, S.o_m⟩
    | 3, _, ho, hsi, hT =>
      obtain ⟨e1, e2⟩ := pick_of h3 ho
      simp only [Bool.and_eq_true] at hT
      obtain ⟨D1, D2⟩ := hT
      refine step_call 31 (fun args w => by go_simp) _ _ e1 #[Big (mid), Big (mid)] (by simp only [List.map_toArray, List.map_cons, List.map_nil, S.t1 D1, S.t2 D2]) ((bigTimes_any mid mid hm hm w').mono ?_)
      rintro e w2 ⟨rfl, BB⟩
      refine ⟨_, rfl, hK _ _ ?_⟩
      rw [e2]
      have hBs : B ≤ w'.heap.size := Nat.le_trans hB0 S.below.size
      exact ⟨S.off.put (by decide) _, S.below.trans (BB.mono hBs), fun g => by rw [eval_put_ne _ _ _ _ (by decide)]; exact S.t0 (by simpa using g), fun g => by rw [eval_put_ne _ _ _ _ (by decide)]; exact S.t1 (by simpa using g), fun g => by rw [eval_put_ne _ _ _ _ (by decide)]; exact S.t2 (by simpa using g), fun _ => (eval_put _ _ _ (by omega)).trans rfl, fun g => by rw [eval_put_ne _ _ _ _ (by decide)]; exact S.t4 (by simpa using g), (S.o_a).below BB, (S.o_m).below BB⟩
    | 4, _, ho, hsi, hT =>
      obtain ⟨e1, e2⟩ := pick_of h4 ho
      simp only [Bool.and_eq_true] at hT
      obtain ⟨D0, D3⟩ := hT
      refine step_call 41 (fun args w => by go_simp) _ _ e1 #[Big (x), Big (mid * mid)] (by simp only [List.map_toArray, List.map_cons, List.map_nil, S.t0 D0, S.t3 D3]) ((bigLess_any x (mid * mid) hx hmm w').mono ?_)
      rintro e w2 ⟨rfl, BB⟩
      refine ⟨_, rfl, hK _ _ ?_⟩
      rw [e2]
      have hBs : B ≤ w'.heap.size := Nat.le_trans hB0 S.below.size
      exact ⟨S.off.put (by decide) _, S.below.trans (BB.mono hBs), fun g => by rw [eval_put_ne _ _ _ _ (by decide)]; exact S.t0 (by simpa using g), fun g => by rw [eval_put_ne _ _ _ _ (by decide)]; exact S.t1 (by simpa using g), fun g => by rw [eval_put_ne _ _ _ _ (by decide)]; exact S.t2 (by simpa using g), fun g => by rw [eval_put_ne _ _ _ _ (by decide)]; exact S.t3 (by simpa using g), fun _ => (eval_put _ _ _ (by omega)).trans rfl, (S.o_a).below BB, (S.o_m).below BB⟩
  · intro s a w' S hall
    have a0 := hall 0 (by omega)
    have a1 := hall 1 (by omega)
    have a2 := hall 2 (by omega)
    have a3 := hall 3 (by omega)
    have a4 := hall 4 (by omega)
    have e := off_norm _ (by intro d hd; simp at hd; omega) S.off
    simp only [List.foldl, S.t0 a0, S.t1 a1, S.t2 a2, S.t3 a3, S.t4 a4] at e
    rw [e]
    exact h _ S.below S.o_a S.o_m
structure root_sethAt (x lo hi mid : Nat) (b_a b_z b_l b_o b_h b_m B : Nat) (A : Act) (w0 : World) (s : Nat → Bool) (a : Act) (w : World) : Prop where
  off : Off [31] a A
  below : Below B w0 w
  t0 : s 0 = true → a.eval (.tmp 31) = Big (mid)
  o_a : Row w b_a (BigM.dg (x))
  o_z : Row w b_z (BigM.dg (0))
  o_l : Row w b_l (BigM.dg (lo))
  o_o : Row w b_o (BigM.dg (1))
  o_h : s 1 = false → Row w b_h (BigM.dg (hi))
  n_h : s 1 = true → Row w b_h (BigM.dg (mid))
  o_m : Row w b_m (BigM.dg (mid))

set_option maxHeartbeats 2000000 in
theorem root_seth {id : Nat} {d : Bool} {l : List Oper} {A : Act} {w : World} {Q : Exit → Act → World → Prop} (x lo hi mid : Nat)  {b_a b_z b_l b_o b_h b_m B : Nat}
    (hB : tableD d l.toArray (fun s i => match i with | 0 => !s 1 | 1 => s 0 | _ => true) = true) (hl : l.length = 2)
    (h0 : pick l 0 = some (.load 47 (.tmp 7), some 31))
    (h1 : pick l 1 = some (.store 47 (.tmp 5) (.tmp 31), none))
    (hs : A.tmps.size = 34) (hB0 : B ≤ w.heap.size)
    (x_a : A.eval (.tmp 1) = ptr b_a) (R_a : Row w b_a (BigM.dg (x)))
    (x_z : A.eval (.tmp 2) = ptr b_z) (R_z : Row w b_z (BigM.dg (0)))
    (x_l : A.eval (.tmp 3) = ptr b_l) (R_l : Row w b_l (BigM.dg (lo)))
    (x_o : A.eval (.tmp 4) = ptr b_o) (R_o : Row w b_o (BigM.dg (1)))
    (x_h : A.eval (.tmp 5) = ptr b_h) (R_h : Row w b_h (BigM.dg (hi))) (B_h : B ≤ b_h)
    (x_m : A.eval (.tmp 7) = ptr b_m) (R_m : Row w b_m (BigM.dg (mid)))
    (ne_a_h : b_a ≠ b_h)
    (ne_z_h : b_z ≠ b_h)
    (ne_l_h : b_l ≠ b_h)
    (ne_o_h : b_o ≠ b_h)
    (ne_h_m : b_h ≠ b_m)
    (h : ∀ w', Below B w w' → Row w' b_a (BigM.dg (x)) → Row w' b_z (BigM.dg (0)) → Row w' b_l (BigM.dg (lo)) → Row w' b_o (BigM.dg (1)) → Row w' b_h (BigM.dg (mid)) → Row w' b_m (BigM.dg (mid)) → Q .normal (A.put (some 31) (Big (mid))) w') :
    (Code.region id l.toArray d).wp Tryd.prog Q A w := by
  refine wp_region_invD (by kernel_rfl) _ hB (root_sethAt x lo hi mid b_a b_z b_l b_o b_h b_m B A w) ⟨Off.refl _ _, Below.refl _ _, by simp, R_a, R_z, R_l, R_o, fun _ => R_h, by simp, R_m⟩ ⟨Off.refl _ _, (Below.refl _ _).drew, by simp, R_a, R_z, R_l, R_o, fun _ => R_h, by simp, R_m⟩ ?_ ?_
  · intro s a w' S i o ho hsi hT K hK
    have sz : a.tmps.size = 34 := by rw [S.off.2.1]; exact hs
    have il : i < 2 := by have := (List.getElem?_eq_some_iff.1 ho).1; omega
    match i, il, ho, hsi, hT with
    | 0, _, ho, hsi, hT =>
      obtain ⟨e1, e2⟩ := pick_of h0 ho
      have N1 : s 1 = false := by simpa using hT
      refine step_load (.tmp 7) e1 (b := b_m) (f := BigM.dg (mid)) (by rw [S.off.eval (by decide)]; exact x_m) S.o_m (hK _ _ ?_)
      rw [e2]
      exact ⟨S.off.put (by decide) _, S.below, fun _ => (eval_put _ _ _ (by omega)).trans rfl, S.o_a, S.o_z, S.o_l, S.o_o, fun g => S.o_h (by simpa using g), fun g => S.n_h (by simpa using g), S.o_m⟩
    | 1, _, ho, hsi, hT =>
      obtain ⟨e1, e2⟩ := pick_of h1 ho
      have D0 := hT
      refine step_store (.tmp 5) (.tmp 31) e1 (b := b_h) (f := BigM.dg (mid)) (by rw [S.off.eval (by decide)]; exact x_h) (S.t0 D0) (S.o_h hsi) (hK _ _ ?_)
      rw [e2]
      exact ⟨S.off, below_setRow S.below B_h _, fun g => S.t0 (by simpa using g), (S.o_a).setRowOther (ne_a_h), (S.o_z).setRowOther (ne_z_h), (S.o_l).setRowOther (ne_l_h), (S.o_o).setRowOther (ne_o_h), fun g => absurd g (by simp), fun _ => (S.o_h hsi).setRow, (S.o_m).setRowOther (ne_h_m.symm)⟩
  · intro s a w' S hall
    have a0 := hall 0 (by omega)
    have a1 := hall 1 (by omega)
    have e := off_norm _ (by intro d hd; simp at hd; omega) S.off
    simp only [List.foldl, S.t0 a0] at e
    rw [e]
    exact h _ S.below S.o_a S.o_z S.o_l S.o_o (S.n_h a1) S.o_m
structure root_setlAt (x lo hi mid : Nat) (b_a b_z b_l b_o b_h b_m B : Nat) (A : Act) (w0 : World) (s : Nat → Bool) (a : Act) (w : World) : Prop where
  off : Off [32] a A
  below : Below B w0 w
  t0 : s 0 = true → a.eval (.tmp 32) = Big (mid)
  o_a : Row w b_a (BigM.dg (x))
  o_z : Row w b_z (BigM.dg (0))
  o_l : s 1 = false → Row w b_l (BigM.dg (lo))
  n_l : s 1 = true → Row w b_l (BigM.dg (mid))
  o_o : Row w b_o (BigM.dg (1))
  o_h : Row w b_h (BigM.dg (hi))
  o_m : Row w b_m (BigM.dg (mid))

set_option maxHeartbeats 2000000 in
theorem root_setl {id : Nat} {d : Bool} {l : List Oper} {A : Act} {w : World} {Q : Exit → Act → World → Prop} (x lo hi mid : Nat)  {b_a b_z b_l b_o b_h b_m B : Nat}
    (hB : tableD d l.toArray (fun s i => match i with | 0 => !s 1 | 1 => s 0 | _ => true) = true) (hl : l.length = 2)
    (h0 : pick l 0 = some (.load 47 (.tmp 7), some 32))
    (h1 : pick l 1 = some (.store 47 (.tmp 3) (.tmp 32), none))
    (hs : A.tmps.size = 34) (hB0 : B ≤ w.heap.size)
    (x_a : A.eval (.tmp 1) = ptr b_a) (R_a : Row w b_a (BigM.dg (x)))
    (x_z : A.eval (.tmp 2) = ptr b_z) (R_z : Row w b_z (BigM.dg (0)))
    (x_l : A.eval (.tmp 3) = ptr b_l) (R_l : Row w b_l (BigM.dg (lo))) (B_l : B ≤ b_l)
    (x_o : A.eval (.tmp 4) = ptr b_o) (R_o : Row w b_o (BigM.dg (1)))
    (x_h : A.eval (.tmp 5) = ptr b_h) (R_h : Row w b_h (BigM.dg (hi)))
    (x_m : A.eval (.tmp 7) = ptr b_m) (R_m : Row w b_m (BigM.dg (mid)))
    (ne_a_l : b_a ≠ b_l)
    (ne_z_l : b_z ≠ b_l)
    (ne_l_o : b_l ≠ b_o)
    (ne_l_h : b_l ≠ b_h)
    (ne_l_m : b_l ≠ b_m)
    (h : ∀ w', Below B w w' → Row w' b_a (BigM.dg (x)) → Row w' b_z (BigM.dg (0)) → Row w' b_l (BigM.dg (mid)) → Row w' b_o (BigM.dg (1)) → Row w' b_h (BigM.dg (hi)) → Row w' b_m (BigM.dg (mid)) → Q .normal (A.put (some 32) (Big (mid))) w') :
    (Code.region id l.toArray d).wp Tryd.prog Q A w := by
  refine wp_region_invD (by kernel_rfl) _ hB (root_setlAt x lo hi mid b_a b_z b_l b_o b_h b_m B A w) ⟨Off.refl _ _, Below.refl _ _, by simp, R_a, R_z, fun _ => R_l, by simp, R_o, R_h, R_m⟩ ⟨Off.refl _ _, (Below.refl _ _).drew, by simp, R_a, R_z, fun _ => R_l, by simp, R_o, R_h, R_m⟩ ?_ ?_
  · intro s a w' S i o ho hsi hT K hK
    have sz : a.tmps.size = 34 := by rw [S.off.2.1]; exact hs
    have il : i < 2 := by have := (List.getElem?_eq_some_iff.1 ho).1; omega
    match i, il, ho, hsi, hT with
    | 0, _, ho, hsi, hT =>
      obtain ⟨e1, e2⟩ := pick_of h0 ho
      have N1 : s 1 = false := by simpa using hT
      refine step_load (.tmp 7) e1 (b := b_m) (f := BigM.dg (mid)) (by rw [S.off.eval (by decide)]; exact x_m) S.o_m (hK _ _ ?_)
      rw [e2]
      exact ⟨S.off.put (by decide) _, S.below, fun _ => (eval_put _ _ _ (by omega)).trans rfl, S.o_a, S.o_z, fun g => S.o_l (by simpa using g), fun g => S.n_l (by simpa using g), S.o_o, S.o_h, S.o_m⟩
    | 1, _, ho, hsi, hT =>
      obtain ⟨e1, e2⟩ := pick_of h1 ho
      have D0 := hT
      refine step_store (.tmp 3) (.tmp 32) e1 (b := b_l) (f := BigM.dg (mid)) (by rw [S.off.eval (by decide)]; exact x_l) (S.t0 D0) (S.o_l hsi) (hK _ _ ?_)
      rw [e2]
      exact ⟨S.off, below_setRow S.below B_l _, fun g => S.t0 (by simpa using g), (S.o_a).setRowOther (ne_a_l), (S.o_z).setRowOther (ne_z_l), fun g => absurd g (by simp), fun _ => (S.o_l hsi).setRow, (S.o_o).setRowOther (ne_l_o.symm), (S.o_h).setRowOther (ne_l_h.symm), (S.o_m).setRowOther (ne_l_m.symm)⟩
  · intro s a w' S hall
    have a0 := hall 0 (by omega)
    have a1 := hall 1 (by omega)
    have e := off_norm _ (by intro d hd; simp at hd; omega) S.off
    simp only [List.foldl, S.t0 a0] at e
    rw [e]
    exact h _ S.below S.o_a S.o_z (S.n_l a1) S.o_o S.o_h S.o_m
structure root_resAt (lo : Nat) (b_z b_l B : Nat) (A : Act) (w0 : World) (s : Nat → Bool) (a : Act) (w : World) : Prop where
  off : Off [33] a A
  below : Below B w0 w
  t0 : s 0 = true → a.eval (.tmp 33) = Big (lo)
  o_z : s 1 = false → Row w b_z (BigM.dg (0))
  n_z : s 1 = true → Row w b_z (BigM.dg (lo))
  o_l : Row w b_l (BigM.dg (lo))

set_option maxHeartbeats 2000000 in
theorem root_res {id : Nat} {d : Bool} {l : List Oper} {A : Act} {w : World} {Q : Exit → Act → World → Prop} (lo : Nat)  {b_z b_l B : Nat}
    (hB : tableD d l.toArray (fun s i => match i with | 0 => !s 1 | 1 => s 0 | _ => true) = true) (hl : l.length = 2)
    (h0 : pick l 0 = some (.load 47 (.tmp 3), some 33))
    (h1 : pick l 1 = some (.store 47 (.tmp 2) (.tmp 33), none))
    (hs : A.tmps.size = 34) (hB0 : B ≤ w.heap.size)
    (x_z : A.eval (.tmp 2) = ptr b_z) (R_z : Row w b_z (BigM.dg (0))) (B_z : B ≤ b_z)
    (x_l : A.eval (.tmp 3) = ptr b_l) (R_l : Row w b_l (BigM.dg (lo)))
    (ne_z_l : b_z ≠ b_l)
    (h : ∀ w', Below B w w' → Row w' b_z (BigM.dg (lo)) → Row w' b_l (BigM.dg (lo)) → Q .normal (A.put (some 33) (Big (lo))) w') :
    (Code.region id l.toArray d).wp Tryd.prog Q A w := by
  refine wp_region_invD (by kernel_rfl) _ hB (root_resAt lo b_z b_l B A w) ⟨Off.refl _ _, Below.refl _ _, by simp, fun _ => R_z, by simp, R_l⟩ ⟨Off.refl _ _, (Below.refl _ _).drew, by simp, fun _ => R_z, by simp, R_l⟩ ?_ ?_
  · intro s a w' S i o ho hsi hT K hK
    have sz : a.tmps.size = 34 := by rw [S.off.2.1]; exact hs
    have il : i < 2 := by have := (List.getElem?_eq_some_iff.1 ho).1; omega
    match i, il, ho, hsi, hT with
    | 0, _, ho, hsi, hT =>
      obtain ⟨e1, e2⟩ := pick_of h0 ho
      have N1 : s 1 = false := by simpa using hT
      refine step_load (.tmp 3) e1 (b := b_l) (f := BigM.dg (lo)) (by rw [S.off.eval (by decide)]; exact x_l) S.o_l (hK _ _ ?_)
      rw [e2]
      exact ⟨S.off.put (by decide) _, S.below, fun _ => (eval_put _ _ _ (by omega)).trans rfl, fun g => S.o_z (by simpa using g), fun g => S.n_z (by simpa using g), S.o_l⟩
    | 1, _, ho, hsi, hT =>
      obtain ⟨e1, e2⟩ := pick_of h1 ho
      have D0 := hT
      refine step_store (.tmp 2) (.tmp 33) e1 (b := b_z) (f := BigM.dg (lo)) (by rw [S.off.eval (by decide)]; exact x_z) (S.t0 D0) (S.o_z hsi) (hK _ _ ?_)
      rw [e2]
      exact ⟨S.off, below_setRow S.below B_z _, fun g => S.t0 (by simpa using g), fun g => absurd g (by simp), fun _ => (S.o_z hsi).setRow, (S.o_l).setRowOther (ne_z_l.symm)⟩
  · intro s a w' S hall
    have a0 := hall 0 (by omega)
    have a1 := hall 1 (by omega)
    have e := off_norm _ (by intro d hd; simp at hd; omega) S.off
    simp only [List.foldl, S.t0 a0] at e
    rw [e]
    exact h _ S.below (S.n_z a1) S.o_l
end Go.Proofs.YtlniojmjakmcjaaDoor
