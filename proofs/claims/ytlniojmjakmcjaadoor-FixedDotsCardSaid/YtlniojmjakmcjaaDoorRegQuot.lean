/- Quotient's regions that draw their order. -/
import Derived.Test.YtlniojmjakmcjaaDoorRegTwo
namespace Go.Proofs.YtlniojmjakmcjaaDoor
open Go.RowKit
set_option linter.unusedVariables false

section
variable {P : Program} {Q : Exit → Act → World → Prop}
theorem step_val {o : Oper} {a : Act} {w : World} {K : Act → World → Prop} {v : Value} (hv : (execOp a.eval o).run P w = .ok (.value v) w) (h : K (a.put o.dst v) w) : o.wp P a w K Q := by
  unfold Oper.wp
  rw [hv, Oper.upon_value]
  exact h
theorem step_neq {o : Oper} {a : Act} {w : World} {K : Act → World → Prop} {x y : Nat} {sx sy : Nat} (e1 : o.op = .binOp .neq 47 (.tmp sx) (.tmp sy) 47)
    (hx : a.eval (.tmp sx) = Big x) (hy : a.eval (.tmp sy) = Big y) (lx : x < 65536 ^ 17) (ly : y < 65536 ^ 17) (h : K (a.put o.dst (.bool (decide (x ≠ y)))) w) : o.wp Tryd.prog a w K Q := by
  refine step_val ?_ h
  simp only [execOp, e1, hx, hy, Sem.run_bind, eqGuard_big, Result.andThen_ok, run_neq_big lx ly, Sem.run_pure]
end

structure quot_halfAt (r qv part one : Nat) (b_a b_z b_q b_p b_o B : Nat) (A : Act) (w0 : World) (s : Nat → Bool) (a : Act) (w : World) : Prop where
  off : Off [23, 24, 25, 26] a A
  below : Below B w0 w
  t0 : s 0 = true → a.eval (.tmp 23) = Big (part)
  t1 : s 1 = true → a.eval (.tmp 24) = Big (part / 2)
  t2 : s 2 = true → a.eval (.tmp 25) = Big (one)
  t3 : s 3 = true → a.eval (.tmp 26) = Big (one / 2)
  o_a : Row w b_a (BigM.dg (r))
  o_z : Row w b_z (BigM.dg (0))
  o_q : Row w b_q (BigM.dg (qv))
  o_p : s 4 = false → Row w b_p (BigM.dg (part))
  n_p : s 4 = true → Row w b_p (BigM.dg (part / 2))
  o_o : s 5 = false → Row w b_o (BigM.dg (one))
  n_o : s 5 = true → Row w b_o (BigM.dg (one / 2))

set_option maxHeartbeats 2000000 in
theorem quot_half {id : Nat} {d : Bool} {l : List Oper} {A : Act} {w : World} {Q : Exit → Act → World → Prop} (r qv part one : Nat) (hpart : part < 65536 ^ 17) (hone : one < 65536 ^ 17) {b_a b_z b_q b_p b_o B : Nat}
    (hB : tableD d l.toArray (fun s i => match i with | 0 => !s 4 && !s 5 | 1 => s 0 && !s 4 && !s 5 | 2 => !s 4 && !s 5 | 3 => s 2 && !s 4 && !s 5 | 4 => s 0 && s 1 && s 2 && s 3 | 5 => s 0 && s 1 && s 2 && s 3 && s 4 | _ => true) = true) (hl : l.length = 6)
    (h0 : pick l 0 = some (.load 47 (.tmp 6), some 23))
    (h1 : pick l 1 = some (.call { callee := .value (.func 47), args := #[.tmp 23], argTypes := #[47] }, some 24))
    (h2 : pick l 2 = some (.load 47 (.tmp 7), some 25))
    (h3 : pick l 3 = some (.call { callee := .value (.func 47), args := #[.tmp 25], argTypes := #[47] }, some 26))
    (h4 : pick l 4 = some (.store 47 (.tmp 6) (.tmp 24), none))
    (h5 : pick l 5 = some (.store 47 (.tmp 7) (.tmp 26), none))
    (hs : A.tmps.size = 38) (hB0 : B ≤ w.heap.size)
    (x_a : A.eval (.tmp 2) = ptr b_a) (R_a : Row w b_a (BigM.dg (r)))
    (x_z : A.eval (.tmp 4) = ptr b_z) (R_z : Row w b_z (BigM.dg (0)))
    (x_q : A.eval (.tmp 5) = ptr b_q) (R_q : Row w b_q (BigM.dg (qv)))
    (x_p : A.eval (.tmp 6) = ptr b_p) (R_p : Row w b_p (BigM.dg (part))) (B_p : B ≤ b_p)
    (x_o : A.eval (.tmp 7) = ptr b_o) (R_o : Row w b_o (BigM.dg (one))) (B_o : B ≤ b_o)
    (ne_a_p : b_a ≠ b_p)
    (ne_a_o : b_a ≠ b_o)
    (ne_z_p : b_z ≠ b_p)
    (ne_z_o : b_z ≠ b_o)
    (ne_q_p : b_q ≠ b_p)
    (ne_q_o : b_q ≠ b_o)
    (ne_p_o : b_p ≠ b_o)
    (h : ∀ w', Below B w w' → Row w' b_a (BigM.dg (r)) → Row w' b_z (BigM.dg (0)) → Row w' b_q (BigM.dg (qv)) → Row w' b_p (BigM.dg (part / 2)) → Row w' b_o (BigM.dg (one / 2)) → Q .normal ((((A.put (some 23) (Big (part))).put (some 24) (Big (part / 2))).put (some 25) (Big (one))).put (some 26) (Big (one / 2))) w') :
    (Code.region id l.toArray d).wp Tryd.prog Q A w := by
  refine wp_region_invD (by kernel_rfl) _ hB (quot_halfAt r qv part one b_a b_z b_q b_p b_o B A w) ⟨Off.refl _ _, Below.refl _ _, by simp, by simp, by simp, by simp, R_a, R_z, R_q, fun _ => R_p, by simp, fun _ => R_o, by simp⟩ ⟨Off.refl _ _, (Below.refl _ _).drew, by simp, by simp, by simp, by simp, R_a, R_z, R_q, fun _ => R_p, by simp, fun _ => R_o, by simp⟩ ?_ ?_
  · intro s a w' S i o ho hsi hT K hK
    have sz : a.tmps.size = 38 := by rw [S.off.2.1]; exact hs
    have il : i < 6 := by have := (List.getElem?_eq_some_iff.1 ho).1; omega
    match i, il, ho, hsi, hT with
    | 0, _, ho, hsi, hT =>
      obtain ⟨e1, e2⟩ := pick_of h0 ho
      simp only [Bool.and_eq_true, Bool.not_eq_true'] at hT
      obtain ⟨N4, N5⟩ := hT
      refine step_load (.tmp 6) e1 (b := b_p) (f := BigM.dg (part)) (by rw [S.off.eval (by decide)]; exact x_p) (S.o_p N4) (hK _ _ ?_)
      rw [e2]
      exact ⟨S.off.put (by decide) _, S.below, fun _ => (eval_put _ _ _ (by omega)).trans rfl, fun g => by rw [eval_put_ne _ _ _ _ (by decide)]; exact S.t1 (by simpa using g), fun g => by rw [eval_put_ne _ _ _ _ (by decide)]; exact S.t2 (by simpa using g), fun g => by rw [eval_put_ne _ _ _ _ (by decide)]; exact S.t3 (by simpa using g), S.o_a, S.o_z, S.o_q, fun g => S.o_p (by simpa using g), fun g => S.n_p (by simpa using g), fun g => S.o_o (by simpa using g), fun g => S.n_o (by simpa using g)⟩
    | 1, _, ho, hsi, hT =>
      obtain ⟨e1, e2⟩ := pick_of h1 ho
      simp only [Bool.and_eq_true, Bool.not_eq_true'] at hT
      obtain ⟨⟨D0, N4⟩, N5⟩ := hT
      refine step_call 47 (fun args w => by go_simp) _ _ e1 #[Big (part)] (by simp only [List.map_toArray, List.map_cons, List.map_nil, S.t0 D0]) ((bigHalf_any part hpart w').mono ?_)
      rintro e w2 ⟨rfl, BB⟩
      refine ⟨_, rfl, hK _ _ ?_⟩
      rw [e2]
      have hBs : B ≤ w'.heap.size := Nat.le_trans hB0 S.below.size
      exact ⟨S.off.put (by decide) _, S.below.trans (BB.mono hBs), fun g => by rw [eval_put_ne _ _ _ _ (by decide)]; exact S.t0 (by simpa using g), fun _ => (eval_put _ _ _ (by omega)).trans rfl, fun g => by rw [eval_put_ne _ _ _ _ (by decide)]; exact S.t2 (by simpa using g), fun g => by rw [eval_put_ne _ _ _ _ (by decide)]; exact S.t3 (by simpa using g), (S.o_a).below BB, (S.o_z).below BB, (S.o_q).below BB, fun g => (S.o_p (by simpa using g)).below BB, fun g => (S.n_p (by simpa using g)).below BB, fun g => (S.o_o (by simpa using g)).below BB, fun g => (S.n_o (by simpa using g)).below BB⟩
    | 2, _, ho, hsi, hT =>
      obtain ⟨e1, e2⟩ := pick_of h2 ho
      simp only [Bool.and_eq_true, Bool.not_eq_true'] at hT
      obtain ⟨N4, N5⟩ := hT
      refine step_load (.tmp 7) e1 (b := b_o) (f := BigM.dg (one)) (by rw [S.off.eval (by decide)]; exact x_o) (S.o_o N5) (hK _ _ ?_)
      rw [e2]
      exact ⟨S.off.put (by decide) _, S.below, fun g => by rw [eval_put_ne _ _ _ _ (by decide)]; exact S.t0 (by simpa using g), fun g => by rw [eval_put_ne _ _ _ _ (by decide)]; exact S.t1 (by simpa using g), fun _ => (eval_put _ _ _ (by omega)).trans rfl, fun g => by rw [eval_put_ne _ _ _ _ (by decide)]; exact S.t3 (by simpa using g), S.o_a, S.o_z, S.o_q, fun g => S.o_p (by simpa using g), fun g => S.n_p (by simpa using g), fun g => S.o_o (by simpa using g), fun g => S.n_o (by simpa using g)⟩
    | 3, _, ho, hsi, hT =>
      obtain ⟨e1, e2⟩ := pick_of h3 ho
      simp only [Bool.and_eq_true, Bool.not_eq_true'] at hT
      obtain ⟨⟨D2, N4⟩, N5⟩ := hT
      refine step_call 47 (fun args w => by go_simp) _ _ e1 #[Big (one)] (by simp only [List.map_toArray, List.map_cons, List.map_nil, S.t2 D2]) ((bigHalf_any one hone w').mono ?_)
      rintro e w2 ⟨rfl, BB⟩
      refine ⟨_, rfl, hK _ _ ?_⟩
      rw [e2]
      have hBs : B ≤ w'.heap.size := Nat.le_trans hB0 S.below.size
      exact ⟨S.off.put (by decide) _, S.below.trans (BB.mono hBs), fun g => by rw [eval_put_ne _ _ _ _ (by decide)]; exact S.t0 (by simpa using g), fun g => by rw [eval_put_ne _ _ _ _ (by decide)]; exact S.t1 (by simpa using g), fun g => by rw [eval_put_ne _ _ _ _ (by decide)]; exact S.t2 (by simpa using g), fun _ => (eval_put _ _ _ (by omega)).trans rfl, (S.o_a).below BB, (S.o_z).below BB, (S.o_q).below BB, fun g => (S.o_p (by simpa using g)).below BB, fun g => (S.n_p (by simpa using g)).below BB, fun g => (S.o_o (by simpa using g)).below BB, fun g => (S.n_o (by simpa using g)).below BB⟩
    | 4, _, ho, hsi, hT =>
      obtain ⟨e1, e2⟩ := pick_of h4 ho
      simp only [Bool.and_eq_true] at hT
      obtain ⟨⟨⟨D0, D1⟩, D2⟩, D3⟩ := hT
      refine step_store (.tmp 6) (.tmp 24) e1 (b := b_p) (f := BigM.dg (part / 2)) (by rw [S.off.eval (by decide)]; exact x_p) (S.t1 D1) (S.o_p hsi) (hK _ _ ?_)
      rw [e2]
      exact ⟨S.off, below_setRow S.below B_p _, fun g => S.t0 (by simpa using g), fun g => S.t1 (by simpa using g), fun g => S.t2 (by simpa using g), fun g => S.t3 (by simpa using g), (S.o_a).setRowOther (ne_a_p), (S.o_z).setRowOther (ne_z_p), (S.o_q).setRowOther (ne_q_p), fun g => absurd g (by simp), fun _ => (S.o_p hsi).setRow, fun g => (S.o_o (by simpa using g)).setRowOther (ne_p_o.symm), fun g => (S.n_o (by simpa using g)).setRowOther (ne_p_o.symm)⟩
    | 5, _, ho, hsi, hT =>
      obtain ⟨e1, e2⟩ := pick_of h5 ho
      simp only [Bool.and_eq_true] at hT
      obtain ⟨⟨⟨⟨D0, D1⟩, D2⟩, D3⟩, D4⟩ := hT
      refine step_store (.tmp 7) (.tmp 26) e1 (b := b_o) (f := BigM.dg (one / 2)) (by rw [S.off.eval (by decide)]; exact x_o) (S.t3 D3) (S.o_o hsi) (hK _ _ ?_)
      rw [e2]
      exact ⟨S.off, below_setRow S.below B_o _, fun g => S.t0 (by simpa using g), fun g => S.t1 (by simpa using g), fun g => S.t2 (by simpa using g), fun g => S.t3 (by simpa using g), (S.o_a).setRowOther (ne_a_o), (S.o_z).setRowOther (ne_z_o), (S.o_q).setRowOther (ne_q_o), fun g => (S.o_p (by simpa using g)).setRowOther (ne_p_o), fun g => (S.n_p (by simpa using g)).setRowOther (ne_p_o), fun g => absurd g (by simp), fun _ => (S.o_o hsi).setRow⟩
  · intro s a w' S hall
    have a0 := hall 0 (by omega)
    have a1 := hall 1 (by omega)
    have a2 := hall 2 (by omega)
    have a3 := hall 3 (by omega)
    have a4 := hall 4 (by omega)
    have a5 := hall 5 (by omega)
    have e := off_norm _ (by intro d hd; simp at hd; omega) S.off
    simp only [List.foldl, S.t0 a0, S.t1 a1, S.t2 a2, S.t3 a3] at e
    rw [e]
    exact h _ S.below S.o_a S.o_z S.o_q (S.n_p a4) (S.n_o a5)
structure quot_neqAt (one : Nat) (b_o B : Nat) (A : Act) (w0 : World) (s : Nat → Bool) (a : Act) (w : World) : Prop where
  off : Off [20, 21, 22] a A
  below : Below B w0 w
  t0 : s 0 = true → a.eval (.tmp 20) = Big (one)
  t1 : s 1 = true → a.eval (.tmp 21) = Big 1
  t2 : s 2 = true → a.eval (.tmp 22) = .bool (decide (one ≠ 1))
  o_o : Row w b_o (BigM.dg (one))

set_option maxHeartbeats 2000000 in
theorem quot_neq {id : Nat} {d : Bool} {l : List Oper} {A : Act} {w : World} {Q : Exit → Act → World → Prop} (one : Nat) (hone : one < 65536 ^ 17) {b_o B : Nat}
    (hB : tableD d l.toArray (fun s i => match i with | 0 => true | 1 => true | 2 => s 0 && s 1 | _ => true) = true) (hl : l.length = 3)
    (h0 : pick l 0 = some (.load 47 (.tmp 7), some 20))
    (h1 : pick l 1 = some (.call { callee := .value (.func 32), args := #[.const (.int .i64 1)], argTypes := #[2] }, some 21))
    (h2 : pick l 2 = some (.binOp .neq 47 (.tmp 20) (.tmp 21) 47, some 22))
    (hs : A.tmps.size = 38) (hB0 : B ≤ w.heap.size)
    (x_o : A.eval (.tmp 7) = ptr b_o) (R_o : Row w b_o (BigM.dg (one)))
    (h : ∀ w', Below B w w' → Row w' b_o (BigM.dg (one)) → Q .normal (((A.put (some 20) (Big (one))).put (some 21) (Big 1)).put (some 22) (.bool (decide (one ≠ 1)))) w') :
    (Code.region id l.toArray d).wp Tryd.prog Q A w := by
  refine wp_region_invD (by kernel_rfl) _ hB (quot_neqAt one b_o B A w) ⟨Off.refl _ _, Below.refl _ _, by simp, by simp, by simp, R_o⟩ ⟨Off.refl _ _, (Below.refl _ _).drew, by simp, by simp, by simp, R_o⟩ ?_ ?_
  · intro s a w' S i o ho hsi hT K hK
    have sz : a.tmps.size = 38 := by rw [S.off.2.1]; exact hs
    have il : i < 3 := by have := (List.getElem?_eq_some_iff.1 ho).1; omega
    match i, il, ho, hsi, hT with
    | 0, _, ho, hsi, hT =>
      obtain ⟨e1, e2⟩ := pick_of h0 ho
      refine step_load (.tmp 7) e1 (b := b_o) (f := BigM.dg (one)) (by rw [S.off.eval (by decide)]; exact x_o) S.o_o (hK _ _ ?_)
      rw [e2]
      exact ⟨S.off.put (by decide) _, S.below, fun _ => (eval_put _ _ _ (by omega)).trans rfl, fun g => by rw [eval_put_ne _ _ _ _ (by decide)]; exact S.t1 (by simpa using g), fun g => by rw [eval_put_ne _ _ _ _ (by decide)]; exact S.t2 (by simpa using g), S.o_o⟩
    | 1, _, ho, hsi, hT =>
      obtain ⟨e1, e2⟩ := pick_of h1 ho
      refine step_call 32 (fun args w => by go_simp) _ _ e1 #[.int .i64 1] (by simp only [List.map_toArray, List.map_cons, List.map_nil]; rfl) ((bigAbs_any 1 fits_one w').mono ?_)
      rintro e w2 ⟨rfl, BB⟩
      refine ⟨_, rfl, hK _ _ ?_⟩
      rw [e2]
      have hBs : B ≤ w'.heap.size := Nat.le_trans hB0 S.below.size
      exact ⟨S.off.put (by decide) _, S.below.trans (BB.mono hBs), fun g => by rw [eval_put_ne _ _ _ _ (by decide)]; exact S.t0 (by simpa using g), fun _ => (eval_put _ _ _ (by omega)).trans rfl, fun g => by rw [eval_put_ne _ _ _ _ (by decide)]; exact S.t2 (by simpa using g), (S.o_o).below BB⟩
    | 2, _, ho, hsi, hT =>
      obtain ⟨e1, e2⟩ := pick_of h2 ho
      simp only [Bool.and_eq_true] at hT
      obtain ⟨D0, D1⟩ := hT
      refine step_neq e1 (S.t0 D0) (S.t1 D1) hone (by decide) (hK _ _ ?_)
      rw [e2]
      exact ⟨S.off.put (by decide) _, S.below, fun g => by rw [eval_put_ne _ _ _ _ (by decide)]; exact S.t0 (by simpa using g), fun g => by rw [eval_put_ne _ _ _ _ (by decide)]; exact S.t1 (by simpa using g), fun _ => (eval_put _ _ _ (by omega)).trans rfl, S.o_o⟩
  · intro s a w' S hall
    have a0 := hall 0 (by omega)
    have a1 := hall 1 (by omega)
    have a2 := hall 2 (by omega)
    have e := off_norm _ (by intro d hd; simp at hd; omega) S.off
    simp only [List.foldl, S.t0 a0, S.t1 a1, S.t2 a2] at e
    rw [e]
    exact h _ S.below S.o_o
structure quot_less1At (r part : Nat) (b_a b_p B : Nat) (A : Act) (w0 : World) (s : Nat → Bool) (a : Act) (w : World) : Prop where
  off : Off [10, 11, 12, 13] a A
  below : Below B w0 w
  t0 : s 0 = true → a.eval (.tmp 10) = Big (r)
  t1 : s 1 = true → a.eval (.tmp 11) = Big (part)
  t2 : s 2 = true → a.eval (.tmp 12) = .bool (decide (r < part))
  t3 : s 3 = true → a.eval (.tmp 13) = .bool (!(decide (r < part)))
  o_a : Row w b_a (BigM.dg (r))
  o_p : Row w b_p (BigM.dg (part))

set_option maxHeartbeats 2000000 in
theorem quot_less1 {id : Nat} {d : Bool} {l : List Oper} {A : Act} {w : World} {Q : Exit → Act → World → Prop} (r part : Nat) (hr : r < 65536 ^ 17) (hpart : part < 65536 ^ 17) {b_a b_p B : Nat}
    (hB : tableD d l.toArray (fun s i => match i with | 0 => true | 1 => true | 2 => s 0 && s 1 | 3 => s 2 | _ => true) = true) (hl : l.length = 4)
    (h0 : pick l 0 = some (.load 47 (.tmp 2), some 10))
    (h1 : pick l 1 = some (.load 47 (.tmp 6), some 11))
    (h2 : pick l 2 = some (.call { callee := .value (.func 41), args := #[.tmp 10, .tmp 11], argTypes := #[47, 47] }, some 12))
    (h3 : pick l 3 = some (.unOp .not 4 (.tmp 12), some 13))
    (hs : A.tmps.size = 38) (hB0 : B ≤ w.heap.size)
    (x_a : A.eval (.tmp 2) = ptr b_a) (R_a : Row w b_a (BigM.dg (r)))
    (x_p : A.eval (.tmp 6) = ptr b_p) (R_p : Row w b_p (BigM.dg (part)))
    (h : ∀ w', Below B w w' → Row w' b_a (BigM.dg (r)) → Row w' b_p (BigM.dg (part)) → Q .normal ((((A.put (some 10) (Big (r))).put (some 11) (Big (part))).put (some 12) (.bool (decide (r < part)))).put (some 13) (.bool (!(decide (r < part))))) w') :
    (Code.region id l.toArray d).wp Tryd.prog Q A w := by
  refine wp_region_invD (by kernel_rfl) _ hB (quot_less1At r part b_a b_p B A w) ⟨Off.refl _ _, Below.refl _ _, by simp, by simp, by simp, by simp, R_a, R_p⟩ ⟨Off.refl _ _, (Below.refl _ _).drew, by simp, by simp, by simp, by simp, R_a, R_p⟩ ?_ ?_
  · intro s a w' S i o ho hsi hT K hK
    have sz : a.tmps.size = 38 := by rw [S.off.2.1]; exact hs
    have il : i < 4 := by have := (List.getElem?_eq_some_iff.1 ho).1; omega
    match i, il, ho, hsi, hT with
    | 0, _, ho, hsi, hT =>
      obtain ⟨e1, e2⟩ := pick_of h0 ho
      refine step_load (.tmp 2) e1 (b := b_a) (f := BigM.dg (r)) (by rw [S.off.eval (by decide)]; exact x_a) S.o_a (hK _ _ ?_)
      rw [e2]
      exact ⟨S.off.put (by decide) _, S.below, fun _ => (eval_put _ _ _ (by omega)).trans rfl, fun g => by rw [eval_put_ne _ _ _ _ (by decide)]; exact S.t1 (by simpa using g), fun g => by rw [eval_put_ne _ _ _ _ (by decide)]; exact S.t2 (by simpa using g), fun g => by rw [eval_put_ne _ _ _ _ (by decide)]; exact S.t3 (by simpa using g), S.o_a, S.o_p⟩
    | 1, _, ho, hsi, hT =>
      obtain ⟨e1, e2⟩ := pick_of h1 ho
      refine step_load (.tmp 6) e1 (b := b_p) (f := BigM.dg (part)) (by rw [S.off.eval (by decide)]; exact x_p) S.o_p (hK _ _ ?_)
      rw [e2]
      exact ⟨S.off.put (by decide) _, S.below, fun g => by rw [eval_put_ne _ _ _ _ (by decide)]; exact S.t0 (by simpa using g), fun _ => (eval_put _ _ _ (by omega)).trans rfl, fun g => by rw [eval_put_ne _ _ _ _ (by decide)]; exact S.t2 (by simpa using g), fun g => by rw [eval_put_ne _ _ _ _ (by decide)]; exact S.t3 (by simpa using g), S.o_a, S.o_p⟩
    | 2, _, ho, hsi, hT =>
      obtain ⟨e1, e2⟩ := pick_of h2 ho
      simp only [Bool.and_eq_true] at hT
      obtain ⟨D0, D1⟩ := hT
      refine step_call 41 (fun args w => by go_simp) _ _ e1 #[Big (r), Big (part)] (by simp only [List.map_toArray, List.map_cons, List.map_nil, S.t0 D0, S.t1 D1]) ((bigLess_any r part hr hpart w').mono ?_)
      rintro e w2 ⟨rfl, BB⟩
      refine ⟨_, rfl, hK _ _ ?_⟩
      rw [e2]
      have hBs : B ≤ w'.heap.size := Nat.le_trans hB0 S.below.size
      exact ⟨S.off.put (by decide) _, S.below.trans (BB.mono hBs), fun g => by rw [eval_put_ne _ _ _ _ (by decide)]; exact S.t0 (by simpa using g), fun g => by rw [eval_put_ne _ _ _ _ (by decide)]; exact S.t1 (by simpa using g), fun _ => (eval_put _ _ _ (by omega)).trans rfl, fun g => by rw [eval_put_ne _ _ _ _ (by decide)]; exact S.t3 (by simpa using g), (S.o_a).below BB, (S.o_p).below BB⟩
    | 3, _, ho, hsi, hT =>
      obtain ⟨e1, e2⟩ := pick_of h3 ho
      have D2 := hT
      refine step_val (v := .bool (!(decide (r < part)))) (by simp only [execOp, e1, S.t2 D2]; go_simp) (hK _ _ ?_)
      rw [e2]
      exact ⟨S.off.put (by decide) _, S.below, fun g => by rw [eval_put_ne _ _ _ _ (by decide)]; exact S.t0 (by simpa using g), fun g => by rw [eval_put_ne _ _ _ _ (by decide)]; exact S.t1 (by simpa using g), fun g => by rw [eval_put_ne _ _ _ _ (by decide)]; exact S.t2 (by simpa using g), fun _ => (eval_put _ _ _ (by omega)).trans rfl, S.o_a, S.o_p⟩
  · intro s a w' S hall
    have a0 := hall 0 (by omega)
    have a1 := hall 1 (by omega)
    have a2 := hall 2 (by omega)
    have a3 := hall 3 (by omega)
    have e := off_norm _ (by intro d hd; simp at hd; omega) S.off
    simp only [List.foldl, S.t0 a0, S.t1 a1, S.t2 a2, S.t3 a3] at e
    rw [e]
    exact h _ S.below S.o_a S.o_p
structure quot_less2At (r part : Nat) (b_a b_p B : Nat) (A : Act) (w0 : World) (s : Nat → Bool) (a : Act) (w : World) : Prop where
  off : Off [27, 28, 29, 30] a A
  below : Below B w0 w
  t0 : s 0 = true → a.eval (.tmp 27) = Big (r)
  t1 : s 1 = true → a.eval (.tmp 28) = Big (part)
  t2 : s 2 = true → a.eval (.tmp 29) = .bool (decide (r < part))
  t3 : s 3 = true → a.eval (.tmp 30) = .bool (!(decide (r < part)))
  o_a : Row w b_a (BigM.dg (r))
  o_p : Row w b_p (BigM.dg (part))

set_option maxHeartbeats 2000000 in
theorem quot_less2 {id : Nat} {d : Bool} {l : List Oper} {A : Act} {w : World} {Q : Exit → Act → World → Prop} (r part : Nat) (hr : r < 65536 ^ 17) (hpart : part < 65536 ^ 17) {b_a b_p B : Nat}
    (hB : tableD d l.toArray (fun s i => match i with | 0 => true | 1 => true | 2 => s 0 && s 1 | 3 => s 2 | _ => true) = true) (hl : l.length = 4)
    (h0 : pick l 0 = some (.load 47 (.tmp 2), some 27))
    (h1 : pick l 1 = some (.load 47 (.tmp 6), some 28))
    (h2 : pick l 2 = some (.call { callee := .value (.func 41), args := #[.tmp 27, .tmp 28], argTypes := #[47, 47] }, some 29))
    (h3 : pick l 3 = some (.unOp .not 4 (.tmp 29), some 30))
    (hs : A.tmps.size = 38) (hB0 : B ≤ w.heap.size)
    (x_a : A.eval (.tmp 2) = ptr b_a) (R_a : Row w b_a (BigM.dg (r)))
    (x_p : A.eval (.tmp 6) = ptr b_p) (R_p : Row w b_p (BigM.dg (part)))
    (h : ∀ w', Below B w w' → Row w' b_a (BigM.dg (r)) → Row w' b_p (BigM.dg (part)) → Q .normal ((((A.put (some 27) (Big (r))).put (some 28) (Big (part))).put (some 29) (.bool (decide (r < part)))).put (some 30) (.bool (!(decide (r < part))))) w') :
    (Code.region id l.toArray d).wp Tryd.prog Q A w := by
  refine wp_region_invD (by kernel_rfl) _ hB (quot_less2At r part b_a b_p B A w) ⟨Off.refl _ _, Below.refl _ _, by simp, by simp, by simp, by simp, R_a, R_p⟩ ⟨Off.refl _ _, (Below.refl _ _).drew, by simp, by simp, by simp, by simp, R_a, R_p⟩ ?_ ?_
  · intro s a w' S i o ho hsi hT K hK
    have sz : a.tmps.size = 38 := by rw [S.off.2.1]; exact hs
    have il : i < 4 := by have := (List.getElem?_eq_some_iff.1 ho).1; omega
    match i, il, ho, hsi, hT with
    | 0, _, ho, hsi, hT =>
      obtain ⟨e1, e2⟩ := pick_of h0 ho
      refine step_load (.tmp 2) e1 (b := b_a) (f := BigM.dg (r)) (by rw [S.off.eval (by decide)]; exact x_a) S.o_a (hK _ _ ?_)
      rw [e2]
      exact ⟨S.off.put (by decide) _, S.below, fun _ => (eval_put _ _ _ (by omega)).trans rfl, fun g => by rw [eval_put_ne _ _ _ _ (by decide)]; exact S.t1 (by simpa using g), fun g => by rw [eval_put_ne _ _ _ _ (by decide)]; exact S.t2 (by simpa using g), fun g => by rw [eval_put_ne _ _ _ _ (by decide)]; exact S.t3 (by simpa using g), S.o_a, S.o_p⟩
    | 1, _, ho, hsi, hT =>
      obtain ⟨e1, e2⟩ := pick_of h1 ho
      refine step_load (.tmp 6) e1 (b := b_p) (f := BigM.dg (part)) (by rw [S.off.eval (by decide)]; exact x_p) S.o_p (hK _ _ ?_)
      rw [e2]
      exact ⟨S.off.put (by decide) _, S.below, fun g => by rw [eval_put_ne _ _ _ _ (by decide)]; exact S.t0 (by simpa using g), fun _ => (eval_put _ _ _ (by omega)).trans rfl, fun g => by rw [eval_put_ne _ _ _ _ (by decide)]; exact S.t2 (by simpa using g), fun g => by rw [eval_put_ne _ _ _ _ (by decide)]; exact S.t3 (by simpa using g), S.o_a, S.o_p⟩
    | 2, _, ho, hsi, hT =>
      obtain ⟨e1, e2⟩ := pick_of h2 ho
      simp only [Bool.and_eq_true] at hT
      obtain ⟨D0, D1⟩ := hT
      refine step_call 41 (fun args w => by go_simp) _ _ e1 #[Big (r), Big (part)] (by simp only [List.map_toArray, List.map_cons, List.map_nil, S.t0 D0, S.t1 D1]) ((bigLess_any r part hr hpart w').mono ?_)
      rintro e w2 ⟨rfl, BB⟩
      refine ⟨_, rfl, hK _ _ ?_⟩
      rw [e2]
      have hBs : B ≤ w'.heap.size := Nat.le_trans hB0 S.below.size
      exact ⟨S.off.put (by decide) _, S.below.trans (BB.mono hBs), fun g => by rw [eval_put_ne _ _ _ _ (by decide)]; exact S.t0 (by simpa using g), fun g => by rw [eval_put_ne _ _ _ _ (by decide)]; exact S.t1 (by simpa using g), fun _ => (eval_put _ _ _ (by omega)).trans rfl, fun g => by rw [eval_put_ne _ _ _ _ (by decide)]; exact S.t3 (by simpa using g), (S.o_a).below BB, (S.o_p).below BB⟩
    | 3, _, ho, hsi, hT =>
      obtain ⟨e1, e2⟩ := pick_of h3 ho
      have D2 := hT
      refine step_val (v := .bool (!(decide (r < part)))) (by simp only [execOp, e1, S.t2 D2]; go_simp) (hK _ _ ?_)
      rw [e2]
      exact ⟨S.off.put (by decide) _, S.below, fun g => by rw [eval_put_ne _ _ _ _ (by decide)]; exact S.t0 (by simpa using g), fun g => by rw [eval_put_ne _ _ _ _ (by decide)]; exact S.t1 (by simpa using g), fun g => by rw [eval_put_ne _ _ _ _ (by decide)]; exact S.t2 (by simpa using g), fun _ => (eval_put _ _ _ (by omega)).trans rfl, S.o_a, S.o_p⟩
  · intro s a w' S hall
    have a0 := hall 0 (by omega)
    have a1 := hall 1 (by omega)
    have a2 := hall 2 (by omega)
    have a3 := hall 3 (by omega)
    have e := off_norm _ (by intro d hd; simp at hd; omega) S.off
    simp only [List.foldl, S.t0 a0, S.t1 a1, S.t2 a2, S.t3 a3] at e
    rw [e]
    exact h _ S.below S.o_a S.o_p
structure quot_dbl_pAt (r qv part one : Nat) (b_a b_z b_q b_p b_o B : Nat) (A : Act) (w0 : World) (s : Nat → Bool) (a : Act) (w : World) : Prop where
  off : Off [14, 15, 16] a A
  below : Below B w0 w
  t0 : s 0 = true → a.eval (.tmp 14) = Big (part)
  t1 : s 1 = true → a.eval (.tmp 15) = Big (part)
  t2 : s 2 = true → a.eval (.tmp 16) = Big (part + part)
  o_a : Row w b_a (BigM.dg (r))
  o_z : Row w b_z (BigM.dg (0))
  o_q : Row w b_q (BigM.dg (qv))
  o_p : s 3 = false → Row w b_p (BigM.dg (part))
  n_p : s 3 = true → Row w b_p (BigM.dg (part + part))
  o_o : Row w b_o (BigM.dg (one))

set_option maxHeartbeats 2000000 in
theorem quot_dbl_p {id : Nat} {d : Bool} {l : List Oper} {A : Act} {w : World} {Q : Exit → Act → World → Prop} (r qv part one : Nat)  {b_a b_z b_q b_p b_o B : Nat}
    (hB : tableD d l.toArray (fun s i => match i with | 0 => !s 3 | 1 => !s 3 | 2 => s 0 && s 1 && !s 3 | 3 => s 0 && s 1 && s 2 | _ => true) = true) (hl : l.length = 4)
    (h0 : pick l 0 = some (.load 47 (.tmp 6), some 14))
    (h1 : pick l 1 = some (.load 47 (.tmp 6), some 15))
    (h2 : pick l 2 = some (.call { callee := .value (.func 37), args := #[.tmp 14, .tmp 15], argTypes := #[47, 47] }, some 16))
    (h3 : pick l 3 = some (.store 47 (.tmp 6) (.tmp 16), none))
    (hs : A.tmps.size = 38) (hB0 : B ≤ w.heap.size)
    (x_a : A.eval (.tmp 2) = ptr b_a) (R_a : Row w b_a (BigM.dg (r)))
    (x_z : A.eval (.tmp 4) = ptr b_z) (R_z : Row w b_z (BigM.dg (0)))
    (x_q : A.eval (.tmp 5) = ptr b_q) (R_q : Row w b_q (BigM.dg (qv)))
    (x_p : A.eval (.tmp 6) = ptr b_p) (R_p : Row w b_p (BigM.dg (part))) (B_p : B ≤ b_p)
    (x_o : A.eval (.tmp 7) = ptr b_o) (R_o : Row w b_o (BigM.dg (one)))
    (ne_a_p : b_a ≠ b_p)
    (ne_z_p : b_z ≠ b_p)
    (ne_q_p : b_q ≠ b_p)
    (ne_p_o : b_p ≠ b_o)
    (h : ∀ w', Below B w w' → Row w' b_a (BigM.dg (r)) → Row w' b_z (BigM.dg (0)) → Row w' b_q (BigM.dg (qv)) → Row w' b_p (BigM.dg (part + part)) → Row w' b_o (BigM.dg (one)) → Q .normal (((A.put (some 14) (Big (part))).put (some 15) (Big (part))).put (some 16) (Big (part + part))) w') :
    (Code.region id l.toArray d).wp Tryd.prog Q A w := by
  refine wp_region_invD (by kernel_rfl) _ hB (quot_dbl_pAt r qv part one b_a b_z b_q b_p b_o B A w) ⟨Off.refl _ _, Below.refl _ _, by simp, by simp, by simp, R_a, R_z, R_q, fun _ => R_p, by simp, R_o⟩ ⟨Off.refl _ _, (Below.refl _ _).drew, by simp, by simp, by simp, R_a, R_z, R_q, fun _ => R_p, by simp, R_o⟩ ?_ ?_
  · intro s a w' S i o ho hsi hT K hK
    have sz : a.tmps.size = 38 := by rw [S.off.2.1]; exact hs
    have il : i < 4 := by have := (List.getElem?_eq_some_iff.1 ho).1; omega
    match i, il, ho, hsi, hT with
    | 0, _, ho, hsi, hT =>
      obtain ⟨e1, e2⟩ := pick_of h0 ho
      have N3 : s 3 = false := by simpa using hT
      refine step_load (.tmp 6) e1 (b := b_p) (f := BigM.dg (part)) (by rw [S.off.eval (by decide)]; exact x_p) (S.o_p N3) (hK _ _ ?_)
      rw [e2]
      exact ⟨S.off.put (by decide) _, S.below, fun _ => (eval_put _ _ _ (by omega)).trans rfl, fun g => by rw [eval_put_ne _ _ _ _ (by decide)]; exact S.t1 (by simpa using g), fun g => by rw [eval_put_ne _ _ _ _ (by decide)]; exact S.t2 (by simpa using g), S.o_a, S.o_z, S.o_q, fun g => S.o_p (by simpa using g), fun g => S.n_p (by simpa using g), S.o_o⟩
    | 1, _, ho, hsi, hT =>
      obtain ⟨e1, e2⟩ := pick_of h1 ho
      have N3 : s 3 = false := by simpa using hT
      refine step_load (.tmp 6) e1 (b := b_p) (f := BigM.dg (part)) (by rw [S.off.eval (by decide)]; exact x_p) (S.o_p N3) (hK _ _ ?_)
      rw [e2]
      exact ⟨S.off.put (by decide) _, S.below, fun g => by rw [eval_put_ne _ _ _ _ (by decide)]; exact S.t0 (by simpa using g), fun _ => (eval_put _ _ _ (by omega)).trans rfl, fun g => by rw [eval_put_ne _ _ _ _ (by decide)]; exact S.t2 (by simpa using g), S.o_a, S.o_z, S.o_q, fun g => S.o_p (by simpa using g), fun g => S.n_p (by simpa using g), S.o_o⟩
    | 2, _, ho, hsi, hT =>
      obtain ⟨e1, e2⟩ := pick_of h2 ho
      simp only [Bool.and_eq_true, Bool.not_eq_true'] at hT
      obtain ⟨⟨D0, D1⟩, N3⟩ := hT
      refine step_call 37 (fun args w => by go_simp) _ _ e1 #[Big (part), Big (part)] (by simp only [List.map_toArray, List.map_cons, List.map_nil, S.t0 D0, S.t1 D1]) ((bigAdd_any part part w').mono ?_)
      rintro e w2 ⟨rfl, BB⟩
      refine ⟨_, rfl, hK _ _ ?_⟩
      rw [e2]
      have hBs : B ≤ w'.heap.size := Nat.le_trans hB0 S.below.size
      exact ⟨S.off.put (by decide) _, S.below.trans (BB.mono hBs), fun g => by rw [eval_put_ne _ _ _ _ (by decide)]; exact S.t0 (by simpa using g), fun g => by rw [eval_put_ne _ _ _ _ (by decide)]; exact S.t1 (by simpa using g), fun _ => (eval_put _ _ _ (by omega)).trans rfl, (S.o_a).below BB, (S.o_z).below BB, (S.o_q).below BB, fun g => (S.o_p (by simpa using g)).below BB, fun g => (S.n_p (by simpa using g)).below BB, (S.o_o).below BB⟩
    | 3, _, ho, hsi, hT =>
      obtain ⟨e1, e2⟩ := pick_of h3 ho
      simp only [Bool.and_eq_true] at hT
      obtain ⟨⟨D0, D1⟩, D2⟩ := hT
      refine step_store (.tmp 6) (.tmp 16) e1 (b := b_p) (f := BigM.dg (part + part)) (by rw [S.off.eval (by decide)]; exact x_p) (S.t2 D2) (S.o_p hsi) (hK _ _ ?_)
      rw [e2]
      exact ⟨S.off, below_setRow S.below B_p _, fun g => S.t0 (by simpa using g), fun g => S.t1 (by simpa using g), fun g => S.t2 (by simpa using g), (S.o_a).setRowOther (ne_a_p), (S.o_z).setRowOther (ne_z_p), (S.o_q).setRowOther (ne_q_p), fun g => absurd g (by simp), fun _ => (S.o_p hsi).setRow, (S.o_o).setRowOther (ne_p_o.symm)⟩
  · intro s a w' S hall
    have a0 := hall 0 (by omega)
    have a1 := hall 1 (by omega)
    have a2 := hall 2 (by omega)
    have a3 := hall 3 (by omega)
    have e := off_norm _ (by intro d hd; simp at hd; omega) S.off
    simp only [List.foldl, S.t0 a0, S.t1 a1, S.t2 a2] at e
    rw [e]
    exact h _ S.below S.o_a S.o_z S.o_q (S.n_p a3) S.o_o
structure quot_dbl_oAt (r qv part one : Nat) (b_a b_z b_q b_p b_o B : Nat) (A : Act) (w0 : World) (s : Nat → Bool) (a : Act) (w : World) : Prop where
  off : Off [17, 18, 19] a A
  below : Below B w0 w
  t0 : s 0 = true → a.eval (.tmp 17) = Big (one)
  t1 : s 1 = true → a.eval (.tmp 18) = Big (one)
  t2 : s 2 = true → a.eval (.tmp 19) = Big (one + one)
  o_a : Row w b_a (BigM.dg (r))
  o_z : Row w b_z (BigM.dg (0))
  o_q : Row w b_q (BigM.dg (qv))
  o_p : Row w b_p (BigM.dg (part))
  o_o : s 3 = false → Row w b_o (BigM.dg (one))
  n_o : s 3 = true → Row w b_o (BigM.dg (one + one))

set_option maxHeartbeats 2000000 in
theorem quot_dbl_o {id : Nat} {d : Bool} {l : List Oper} {A : Act} {w : World} {Q : Exit → Act → World → Prop} (r qv part one : Nat)  {b_a b_z b_q b_p b_o B : Nat}
    (hB : tableD d l.toArray (fun s i => match i with | 0 => !s 3 | 1 => !s 3 | 2 => s 0 && s 1 && !s 3 | 3 => s 0 && s 1 && s 2 | _ => true) = true) (hl : l.length = 4)
    (h0 : pick l 0 = some (.load 47 (.tmp 7), some 17))
    (h1 : pick l 1 = some (.load 47 (.tmp 7), some 18))
    (h2 : pick l 2 = some (.call { callee := .value (.func 37), args := #[.tmp 17, .tmp 18], argTypes := #[47, 47] }, some 19))
    (h3 : pick l 3 = some (.store 47 (.tmp 7) (.tmp 19), none))
    (hs : A.tmps.size = 38) (hB0 : B ≤ w.heap.size)
    (x_a : A.eval (.tmp 2) = ptr b_a) (R_a : Row w b_a (BigM.dg (r)))
    (x_z : A.eval (.tmp 4) = ptr b_z) (R_z : Row w b_z (BigM.dg (0)))
    (x_q : A.eval (.tmp 5) = ptr b_q) (R_q : Row w b_q (BigM.dg (qv)))
    (x_p : A.eval (.tmp 6) = ptr b_p) (R_p : Row w b_p (BigM.dg (part)))
    (x_o : A.eval (.tmp 7) = ptr b_o) (R_o : Row w b_o (BigM.dg (one))) (B_o : B ≤ b_o)
    (ne_a_o : b_a ≠ b_o)
    (ne_z_o : b_z ≠ b_o)
    (ne_q_o : b_q ≠ b_o)
    (ne_p_o : b_p ≠ b_o)
    (h : ∀ w', Below B w w' → Row w' b_a (BigM.dg (r)) → Row w' b_z (BigM.dg (0)) → Row w' b_q (BigM.dg (qv)) → Row w' b_p (BigM.dg (part)) → Row w' b_o (BigM.dg (one + one)) → Q .normal (((A.put (some 17) (Big (one))).put (some 18) (Big (one))).put (some 19) (Big (one + one))) w') :
    (Code.region id l.toArray d).wp Tryd.prog Q A w := by
  refine wp_region_invD (by kernel_rfl) _ hB (quot_dbl_oAt r qv part one b_a b_z b_q b_p b_o B A w) ⟨Off.refl _ _, Below.refl _ _, by simp, by simp, by simp, R_a, R_z, R_q, R_p, fun _ => R_o, by simp⟩ ⟨Off.refl _ _, (Below.refl _ _).drew, by simp, by simp, by simp, R_a, R_z, R_q, R_p, fun _ => R_o, by simp⟩ ?_ ?_
  · intro s a w' S i o ho hsi hT K hK
    have sz : a.tmps.size = 38 := by rw [S.off.2.1]; exact hs
    have il : i < 4 := by have := (List.getElem?_eq_some_iff.1 ho).1; omega
    match i, il, ho, hsi, hT with
    | 0, _, ho, hsi, hT =>
      obtain ⟨e1, e2⟩ := pick_of h0 ho
      have N3 : s 3 = false := by simpa using hT
      refine step_load (.tmp 7) e1 (b := b_o) (f := BigM.dg (one)) (by rw [S.off.eval (by decide)]; exact x_o) (S.o_o N3) (hK _ _ ?_)
      rw [e2]
      exact ⟨S.off.put (by decide) _, S.below, fun _ => (eval_put _ _ _ (by omega)).trans rfl, fun g => by rw [eval_put_ne _ _ _ _ (by decide)]; exact S.t1 (by simpa using g), fun g => by rw [eval_put_ne _ _ _ _ (by decide)]; exact S.t2 (by simpa using g), S.o_a, S.o_z, S.o_q, S.o_p, fun g => S.o_o (by simpa using g), fun g => S.n_o (by simpa using g)⟩
    | 1, _, ho, hsi, hT =>
      obtain ⟨e1, e2⟩ := pick_of h1 ho
      have N3 : s 3 = false := by simpa using hT
      refine step_load (.tmp 7) e1 (b := b_o) (f := BigM.dg (one)) (by rw [S.off.eval (by decide)]; exact x_o) (S.o_o N3) (hK _ _ ?_)
      rw [e2]
      exact ⟨S.off.put (by decide) _, S.below, fun g => by rw [eval_put_ne _ _ _ _ (by decide)]; exact S.t0 (by simpa using g), fun _ => (eval_put _ _ _ (by omega)).trans rfl, fun g => by rw [eval_put_ne _ _ _ _ (by decide)]; exact S.t2 (by simpa using g), S.o_a, S.o_z, S.o_q, S.o_p, fun g => S.o_o (by simpa using g), fun g => S.n_o (by simpa using g)⟩
    | 2, _, ho, hsi, hT =>
      obtain ⟨e1, e2⟩ := pick_of h2 ho
      simp only [Bool.and_eq_true, Bool.not_eq_true'] at hT
      obtain ⟨⟨D0, D1⟩, N3⟩ := hT
      refine step_call 37 (fun args w => by go_simp) _ _ e1 #[Big (one), Big (one)] (by simp only [List.map_toArray, List.map_cons, List.map_nil, S.t0 D0, S.t1 D1]) ((bigAdd_any one one w').mono ?_)
      rintro e w2 ⟨rfl, BB⟩
      refine ⟨_, rfl, hK _ _ ?_⟩
      rw [e2]
      have hBs : B ≤ w'.heap.size := Nat.le_trans hB0 S.below.size
      exact ⟨S.off.put (by decide) _, S.below.trans (BB.mono hBs), fun g => by rw [eval_put_ne _ _ _ _ (by decide)]; exact S.t0 (by simpa using g), fun g => by rw [eval_put_ne _ _ _ _ (by decide)]; exact S.t1 (by simpa using g), fun _ => (eval_put _ _ _ (by omega)).trans rfl, (S.o_a).below BB, (S.o_z).below BB, (S.o_q).below BB, (S.o_p).below BB, fun g => (S.o_o (by simpa using g)).below BB, fun g => (S.n_o (by simpa using g)).below BB⟩
    | 3, _, ho, hsi, hT =>
      obtain ⟨e1, e2⟩ := pick_of h3 ho
      simp only [Bool.and_eq_true] at hT
      obtain ⟨⟨D0, D1⟩, D2⟩ := hT
      refine step_store (.tmp 7) (.tmp 19) e1 (b := b_o) (f := BigM.dg (one + one)) (by rw [S.off.eval (by decide)]; exact x_o) (S.t2 D2) (S.o_o hsi) (hK _ _ ?_)
      rw [e2]
      exact ⟨S.off, below_setRow S.below B_o _, fun g => S.t0 (by simpa using g), fun g => S.t1 (by simpa using g), fun g => S.t2 (by simpa using g), (S.o_a).setRowOther (ne_a_o), (S.o_z).setRowOther (ne_z_o), (S.o_q).setRowOther (ne_q_o), (S.o_p).setRowOther (ne_p_o), fun g => absurd g (by simp), fun _ => (S.o_o hsi).setRow⟩
  · intro s a w' S hall
    have a0 := hall 0 (by omega)
    have a1 := hall 1 (by omega)
    have a2 := hall 2 (by omega)
    have a3 := hall 3 (by omega)
    have e := off_norm _ (by intro d hd; simp at hd; omega) S.off
    simp only [List.foldl, S.t0 a0, S.t1 a1, S.t2 a2] at e
    rw [e]
    exact h _ S.below S.o_a S.o_z S.o_q S.o_p (S.n_o a3)
structure quot_subAt (r qv part one : Nat) (b_a b_z b_q b_p b_o B : Nat) (A : Act) (w0 : World) (s : Nat → Bool) (a : Act) (w : World) : Prop where
  off : Off [31, 32, 33] a A
  below : Below B w0 w
  t0 : s 0 = true → a.eval (.tmp 31) = Big (r)
  t1 : s 1 = true → a.eval (.tmp 32) = Big (part)
  t2 : s 2 = true → a.eval (.tmp 33) = Big (r - part)
  o_a : s 3 = false → Row w b_a (BigM.dg (r))
  n_a : s 3 = true → Row w b_a (BigM.dg (r - part))
  o_z : Row w b_z (BigM.dg (0))
  o_q : Row w b_q (BigM.dg (qv))
  o_p : Row w b_p (BigM.dg (part))
  o_o : Row w b_o (BigM.dg (one))

set_option maxHeartbeats 2000000 in
theorem quot_sub {id : Nat} {d : Bool} {l : List Oper} {A : Act} {w : World} {Q : Exit → Act → World → Prop} (r qv part one : Nat) (hr : r < 65536 ^ 17) (hpart : part < 65536 ^ 17) (hle : part ≤ r) {b_a b_z b_q b_p b_o B : Nat}
    (hB : tableD d l.toArray (fun s i => match i with | 0 => !s 3 | 1 => !s 3 | 2 => s 0 && s 1 && !s 3 | 3 => s 0 && s 1 && s 2 | _ => true) = true) (hl : l.length = 4)
    (h0 : pick l 0 = some (.load 47 (.tmp 2), some 31))
    (h1 : pick l 1 = some (.load 47 (.tmp 6), some 32))
    (h2 : pick l 2 = some (.call { callee := .value (.func 42), args := #[.tmp 31, .tmp 32], argTypes := #[47, 47] }, some 33))
    (h3 : pick l 3 = some (.store 47 (.tmp 2) (.tmp 33), none))
    (hs : A.tmps.size = 38) (hB0 : B ≤ w.heap.size)
    (x_a : A.eval (.tmp 2) = ptr b_a) (R_a : Row w b_a (BigM.dg (r))) (B_a : B ≤ b_a)
    (x_z : A.eval (.tmp 4) = ptr b_z) (R_z : Row w b_z (BigM.dg (0)))
    (x_q : A.eval (.tmp 5) = ptr b_q) (R_q : Row w b_q (BigM.dg (qv)))
    (x_p : A.eval (.tmp 6) = ptr b_p) (R_p : Row w b_p (BigM.dg (part)))
    (x_o : A.eval (.tmp 7) = ptr b_o) (R_o : Row w b_o (BigM.dg (one)))
    (ne_a_z : b_a ≠ b_z)
    (ne_a_q : b_a ≠ b_q)
    (ne_a_p : b_a ≠ b_p)
    (ne_a_o : b_a ≠ b_o)
    (h : ∀ w', Below B w w' → Row w' b_a (BigM.dg (r - part)) → Row w' b_z (BigM.dg (0)) → Row w' b_q (BigM.dg (qv)) → Row w' b_p (BigM.dg (part)) → Row w' b_o (BigM.dg (one)) → Q .normal (((A.put (some 31) (Big (r))).put (some 32) (Big (part))).put (some 33) (Big (r - part))) w') :
    (Code.region id l.toArray d).wp Tryd.prog Q A w := by
  refine wp_region_invD (by kernel_rfl) _ hB (quot_subAt r qv part one b_a b_z b_q b_p b_o B A w) ⟨Off.refl _ _, Below.refl _ _, by simp, by simp, by simp, fun _ => R_a, by simp, R_z, R_q, R_p, R_o⟩ ⟨Off.refl _ _, (Below.refl _ _).drew, by simp, by simp, by simp, fun _ => R_a, by simp, R_z, R_q, R_p, R_o⟩ ?_ ?_
  · intro s a w' S i o ho hsi hT K hK
    have sz : a.tmps.size = 38 := by rw [S.off.2.1]; exact hs
    have il : i < 4 := by have := (List.getElem?_eq_some_iff.1 ho).1; omega
    match i, il, ho, hsi, hT with
    | 0, _, ho, hsi, hT =>
      obtain ⟨e1, e2⟩ := pick_of h0 ho
      have N3 : s 3 = false := by simpa using hT
      refine step_load (.tmp 2) e1 (b := b_a) (f := BigM.dg (r)) (by rw [S.off.eval (by decide)]; exact x_a) (S.o_a N3) (hK _ _ ?_)
      rw [e2]
      exact ⟨S.off.put (by decide) _, S.below, fun _ => (eval_put _ _ _ (by omega)).trans rfl, fun g => by rw [eval_put_ne _ _ _ _ (by decide)]; exact S.t1 (by simpa using g), fun g => by rw [eval_put_ne _ _ _ _ (by decide)]; exact S.t2 (by simpa using g), fun g => S.o_a (by simpa using g), fun g => S.n_a (by simpa using g), S.o_z, S.o_q, S.o_p, S.o_o⟩
    | 1, _, ho, hsi, hT =>
      obtain ⟨e1, e2⟩ := pick_of h1 ho
      have N3 : s 3 = false := by simpa using hT
      refine step_load (.tmp 6) e1 (b := b_p) (f := BigM.dg (part)) (by rw [S.off.eval (by decide)]; exact x_p) S.o_p (hK _ _ ?_)
      rw [e2]
      exact ⟨S.off.put (by decide) _, S.below, fun g => by rw [eval_put_ne _ _ _ _ (by decide)]; exact S.t0 (by simpa using g), fun _ => (eval_put _ _ _ (by omega)).trans rfl, fun g => by rw [eval_put_ne _ _ _ _ (by decide)]; exact S.t2 (by simpa using g), fun g => S.o_a (by simpa using g), fun g => S.n_a (by simpa using g), S.o_z, S.o_q, S.o_p, S.o_o⟩
    | 2, _, ho, hsi, hT =>
      obtain ⟨e1, e2⟩ := pick_of h2 ho
      simp only [Bool.and_eq_true, Bool.not_eq_true'] at hT
      obtain ⟨⟨D0, D1⟩, N3⟩ := hT
      refine step_call 42 (fun args w => by go_simp) _ _ e1 #[Big (r), Big (part)] (by simp only [List.map_toArray, List.map_cons, List.map_nil, S.t0 D0, S.t1 D1]) ((bigSub_any r part hr hpart hle w').mono ?_)
      rintro e w2 ⟨rfl, BB⟩
      refine ⟨_, rfl, hK _ _ ?_⟩
      rw [e2]
      have hBs : B ≤ w'.heap.size := Nat.le_trans hB0 S.below.size
      exact ⟨S.off.put (by decide) _, S.below.trans (BB.mono hBs), fun g => by rw [eval_put_ne _ _ _ _ (by decide)]; exact S.t0 (by simpa using g), fun g => by rw [eval_put_ne _ _ _ _ (by decide)]; exact S.t1 (by simpa using g), fun _ => (eval_put _ _ _ (by omega)).trans rfl, fun g => (S.o_a (by simpa using g)).below BB, fun g => (S.n_a (by simpa using g)).below BB, (S.o_z).below BB, (S.o_q).below BB, (S.o_p).below BB, (S.o_o).below BB⟩
    | 3, _, ho, hsi, hT =>
      obtain ⟨e1, e2⟩ := pick_of h3 ho
      simp only [Bool.and_eq_true] at hT
      obtain ⟨⟨D0, D1⟩, D2⟩ := hT
      refine step_store (.tmp 2) (.tmp 33) e1 (b := b_a) (f := BigM.dg (r - part)) (by rw [S.off.eval (by decide)]; exact x_a) (S.t2 D2) (S.o_a hsi) (hK _ _ ?_)
      rw [e2]
      exact ⟨S.off, below_setRow S.below B_a _, fun g => S.t0 (by simpa using g), fun g => S.t1 (by simpa using g), fun g => S.t2 (by simpa using g), fun g => absurd g (by simp), fun _ => (S.o_a hsi).setRow, (S.o_z).setRowOther (ne_a_z.symm), (S.o_q).setRowOther (ne_a_q.symm), (S.o_p).setRowOther (ne_a_p.symm), (S.o_o).setRowOther (ne_a_o.symm)⟩
  · intro s a w' S hall
    have a0 := hall 0 (by omega)
    have a1 := hall 1 (by omega)
    have a2 := hall 2 (by omega)
    have a3 := hall 3 (by omega)
    have e := off_norm _ (by intro d hd; simp at hd; omega) S.off
    simp only [List.foldl, S.t0 a0, S.t1 a1, S.t2 a2] at e
    rw [e]
    exact h _ S.below (S.n_a a3) S.o_z S.o_q S.o_p S.o_o
structure quot_addqAt (r qv part one : Nat) (b_a b_z b_q b_p b_o B : Nat) (A : Act) (w0 : World) (s : Nat → Bool) (a : Act) (w : World) : Prop where
  off : Off [34, 35, 36] a A
  below : Below B w0 w
  t0 : s 0 = true → a.eval (.tmp 34) = Big (qv)
  t1 : s 1 = true → a.eval (.tmp 35) = Big (one)
  t2 : s 2 = true → a.eval (.tmp 36) = Big (qv + one)
  o_a : Row w b_a (BigM.dg (r))
  o_z : Row w b_z (BigM.dg (0))
  o_q : s 3 = false → Row w b_q (BigM.dg (qv))
  n_q : s 3 = true → Row w b_q (BigM.dg (qv + one))
  o_p : Row w b_p (BigM.dg (part))
  o_o : Row w b_o (BigM.dg (one))

set_option maxHeartbeats 2000000 in
theorem quot_addq {id : Nat} {d : Bool} {l : List Oper} {A : Act} {w : World} {Q : Exit → Act → World → Prop} (r qv part one : Nat)  {b_a b_z b_q b_p b_o B : Nat}
    (hB : tableD d l.toArray (fun s i => match i with | 0 => !s 3 | 1 => !s 3 | 2 => s 0 && s 1 && !s 3 | 3 => s 0 && s 1 && s 2 | _ => true) = true) (hl : l.length = 4)
    (h0 : pick l 0 = some (.load 47 (.tmp 5), some 34))
    (h1 : pick l 1 = some (.load 47 (.tmp 7), some 35))
    (h2 : pick l 2 = some (.call { callee := .value (.func 37), args := #[.tmp 34, .tmp 35], argTypes := #[47, 47] }, some 36))
    (h3 : pick l 3 = some (.store 47 (.tmp 5) (.tmp 36), none))
    (hs : A.tmps.size = 38) (hB0 : B ≤ w.heap.size)
    (x_a : A.eval (.tmp 2) = ptr b_a) (R_a : Row w b_a (BigM.dg (r)))
    (x_z : A.eval (.tmp 4) = ptr b_z) (R_z : Row w b_z (BigM.dg (0)))
    (x_q : A.eval (.tmp 5) = ptr b_q) (R_q : Row w b_q (BigM.dg (qv))) (B_q : B ≤ b_q)
    (x_p : A.eval (.tmp 6) = ptr b_p) (R_p : Row w b_p (BigM.dg (part)))
    (x_o : A.eval (.tmp 7) = ptr b_o) (R_o : Row w b_o (BigM.dg (one)))
    (ne_a_q : b_a ≠ b_q)
    (ne_z_q : b_z ≠ b_q)
    (ne_q_p : b_q ≠ b_p)
    (ne_q_o : b_q ≠ b_o)
    (h : ∀ w', Below B w w' → Row w' b_a (BigM.dg (r)) → Row w' b_z (BigM.dg (0)) → Row w' b_q (BigM.dg (qv + one)) → Row w' b_p (BigM.dg (part)) → Row w' b_o (BigM.dg (one)) → Q .normal (((A.put (some 34) (Big (qv))).put (some 35) (Big (one))).put (some 36) (Big (qv + one))) w') :
    (Code.region id l.toArray d).wp Tryd.prog Q A w := by
  refine wp_region_invD (by kernel_rfl) _ hB (quot_addqAt r qv part one b_a b_z b_q b_p b_o B A w) ⟨Off.refl _ _, Below.refl _ _, by simp, by simp, by simp, R_a, R_z, fun _ => R_q, by simp, R_p, R_o⟩ ⟨Off.refl _ _, (Below.refl _ _).drew, by simp, by simp, by simp, R_a, R_z, fun _ => R_q, by simp, R_p, R_o⟩ ?_ ?_
  · intro s a w' S i o ho hsi hT K hK
    have sz : a.tmps.size = 38 := by rw [S.off.2.1]; exact hs
    have il : i < 4 := by have := (List.getElem?_eq_some_iff.1 ho).1; omega
    match i, il, ho, hsi, hT with
    | 0, _, ho, hsi, hT =>
      obtain ⟨e1, e2⟩ := pick_of h0 ho
      have N3 : s 3 = false := by simpa using hT
      refine step_load (.tmp 5) e1 (b := b_q) (f := BigM.dg (qv)) (by rw [S.off.eval (by decide)]; exact x_q) (S.o_q N3) (hK _ _ ?_)
      rw [e2]
      exact ⟨S.off.put (by decide) _, S.below, fun _ => (eval_put _ _ _ (by omega)).trans rfl, fun g => by rw [eval_put_ne _ _ _ _ (by decide)]; exact S.t1 (by simpa using g), fun g => by rw [eval_put_ne _ _ _ _ (by decide)]; exact S.t2 (by simpa using g), S.o_a, S.o_z, fun g => S.o_q (by simpa using g), fun g => S.n_q (by simpa using g), S.o_p, S.o_o⟩
    | 1, _, ho, hsi, hT =>
      obtain ⟨e1, e2⟩ := pick_of h1 ho
      have N3 : s 3 = false := by simpa using hT
      refine step_load (.tmp 7) e1 (b := b_o) (f := BigM.dg (one)) (by rw [S.off.eval (by decide)]; exact x_o) S.o_o (hK _ _ ?_)
      rw [e2]
      exact ⟨S.off.put (by decide) _, S.below, fun g => by rw [eval_put_ne _ _ _ _ (by decide)]; exact S.t0 (by simpa using g), fun _ => (eval_put _ _ _ (by omega)).trans rfl, fun g => by rw [eval_put_ne _ _ _ _ (by decide)]; exact S.t2 (by simpa using g), S.o_a, S.o_z, fun g => S.o_q (by simpa using g), fun g => S.n_q (by simpa using g), S.o_p, S.o_o⟩
    | 2, _, ho, hsi, hT =>
      obtain ⟨e1, e2⟩ := pick_of h2 ho
      simp only [Bool.and_eq_true, Bool.not_eq_true'] at hT
      obtain ⟨⟨D0, D1⟩, N3⟩ := hT
      refine step_call 37 (fun args w => by go_simp) _ _ e1 #[Big (qv), Big (one)] (by simp only [List.map_toArray, List.map_cons, List.map_nil, S.t0 D0, S.t1 D1]) ((bigAdd_any qv one w').mono ?_)
      rintro e w2 ⟨rfl, BB⟩
      refine ⟨_, rfl, hK _ _ ?_⟩
      rw [e2]
      have hBs : B ≤ w'.heap.size := Nat.le_trans hB0 S.below.size
      exact ⟨S.off.put (by decide) _, S.below.trans (BB.mono hBs), fun g => by rw [eval_put_ne _ _ _ _ (by decide)]; exact S.t0 (by simpa using g), fun g => by rw [eval_put_ne _ _ _ _ (by decide)]; exact S.t1 (by simpa using g), fun _ => (eval_put _ _ _ (by omega)).trans rfl, (S.o_a).below BB, (S.o_z).below BB, fun g => (S.o_q (by simpa using g)).below BB, fun g => (S.n_q (by simpa using g)).below BB, (S.o_p).below BB, (S.o_o).below BB⟩
    | 3, _, ho, hsi, hT =>
      obtain ⟨e1, e2⟩ := pick_of h3 ho
      simp only [Bool.and_eq_true] at hT
      obtain ⟨⟨D0, D1⟩, D2⟩ := hT
      refine step_store (.tmp 5) (.tmp 36) e1 (b := b_q) (f := BigM.dg (qv + one)) (by rw [S.off.eval (by decide)]; exact x_q) (S.t2 D2) (S.o_q hsi) (hK _ _ ?_)
      rw [e2]
      exact ⟨S.off, below_setRow S.below B_q _, fun g => S.t0 (by simpa using g), fun g => S.t1 (by simpa using g), fun g => S.t2 (by simpa using g), (S.o_a).setRowOther (ne_a_q), (S.o_z).setRowOther (ne_z_q), fun g => absurd g (by simp), fun _ => (S.o_q hsi).setRow, (S.o_p).setRowOther (ne_q_p.symm), (S.o_o).setRowOther (ne_q_o.symm)⟩
  · intro s a w' S hall
    have a0 := hall 0 (by omega)
    have a1 := hall 1 (by omega)
    have a2 := hall 2 (by omega)
    have a3 := hall 3 (by omega)
    have e := off_norm _ (by intro d hd; simp at hd; omega) S.off
    simp only [List.foldl, S.t0 a0, S.t1 a1, S.t2 a2] at e
    rw [e]
    exact h _ S.below S.o_a S.o_z (S.n_q a3) S.o_p S.o_o
structure quot_resAt (qv : Nat) (b_z b_q B : Nat) (A : Act) (w0 : World) (s : Nat → Bool) (a : Act) (w : World) : Prop where
  off : Off [37] a A
  below : Below B w0 w
  t0 : s 0 = true → a.eval (.tmp 37) = Big (qv)
  o_z : s 1 = false → Row w b_z (BigM.dg (0))
  n_z : s 1 = true → Row w b_z (BigM.dg (qv))
  o_q : Row w b_q (BigM.dg (qv))

set_option maxHeartbeats 2000000 in
theorem quot_res {id : Nat} {d : Bool} {l : List Oper} {A : Act} {w : World} {Q : Exit → Act → World → Prop} (qv : Nat)  {b_z b_q B : Nat}
    (hB : tableD d l.toArray (fun s i => match i with | 0 => !s 1 | 1 => s 0 | _ => true) = true) (hl : l.length = 2)
    (h0 : pick l 0 = some (.load 47 (.tmp 5), some 37))
    (h1 : pick l 1 = some (.store 47 (.tmp 4) (.tmp 37), none))
    (hs : A.tmps.size = 38) (hB0 : B ≤ w.heap.size)
    (x_z : A.eval (.tmp 4) = ptr b_z) (R_z : Row w b_z (BigM.dg (0))) (B_z : B ≤ b_z)
    (x_q : A.eval (.tmp 5) = ptr b_q) (R_q : Row w b_q (BigM.dg (qv)))
    (ne_z_q : b_z ≠ b_q)
    (h : ∀ w', Below B w w' → Row w' b_z (BigM.dg (qv)) → Row w' b_q (BigM.dg (qv)) → Q .normal (A.put (some 37) (Big (qv))) w') :
    (Code.region id l.toArray d).wp Tryd.prog Q A w := by
  refine wp_region_invD (by kernel_rfl) _ hB (quot_resAt qv b_z b_q B A w) ⟨Off.refl _ _, Below.refl _ _, by simp, fun _ => R_z, by simp, R_q⟩ ⟨Off.refl _ _, (Below.refl _ _).drew, by simp, fun _ => R_z, by simp, R_q⟩ ?_ ?_
  · intro s a w' S i o ho hsi hT K hK
    have sz : a.tmps.size = 38 := by rw [S.off.2.1]; exact hs
    have il : i < 2 := by have := (List.getElem?_eq_some_iff.1 ho).1; omega
    match i, il, ho, hsi, hT with
    | 0, _, ho, hsi, hT =>
      obtain ⟨e1, e2⟩ := pick_of h0 ho
      have N1 : s 1 = false := by simpa using hT
      refine step_load (.tmp 5) e1 (b := b_q) (f := BigM.dg (qv)) (by rw [S.off.eval (by decide)]; exact x_q) S.o_q (hK _ _ ?_)
      rw [e2]
      exact ⟨S.off.put (by decide) _, S.below, fun _ => (eval_put _ _ _ (by omega)).trans rfl, fun g => S.o_z (by simpa using g), fun g => S.n_z (by simpa using g), S.o_q⟩
    | 1, _, ho, hsi, hT =>
      obtain ⟨e1, e2⟩ := pick_of h1 ho
      have D0 := hT
      refine step_store (.tmp 4) (.tmp 37) e1 (b := b_z) (f := BigM.dg (qv)) (by rw [S.off.eval (by decide)]; exact x_z) (S.t0 D0) (S.o_z hsi) (hK _ _ ?_)
      rw [e2]
      exact ⟨S.off, below_setRow S.below B_z _, fun g => S.t0 (by simpa using g), fun g => absurd g (by simp), fun _ => (S.o_z hsi).setRow, (S.o_q).setRowOther (ne_z_q.symm)⟩
  · intro s a w' S hall
    have a0 := hall 0 (by omega)
    have a1 := hall 1 (by omega)
    have e := off_norm _ (by intro d hd; simp at hd; omega) S.off
    simp only [List.foldl, S.t0 a0] at e
    rw [e]
    exact h _ S.below (S.n_z a1) S.o_q
end Go.Proofs.YtlniojmjakmcjaaDoor
