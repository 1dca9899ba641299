/- Nearest's regions. -/
import Derived.Test.YtlniojmjakmcjaaDoorQuot
namespace Go.Proofs.YtlniojmjakmcjaaDoor
open Go.RowKit
set_option linter.unusedVariables false

structure near_twiceAt (u : Nat) (b_a B : Nat) (A : Act) (w0 : World) (s : Nat → Bool) (a : Act) (w : World) : Prop where
  off : Off [8, 10, 11, 12] a A
  below : Below B w0 w
  t0 : s 0 = true → a.eval (.tmp 10) = Big (u)
  t1 : s 1 = true → a.eval (.tmp 11) = Big (u)
  t2 : s 2 = true → a.eval (.tmp 12) = Big (u + u)
  o_a : Row w b_a (BigM.dg (u))
  p_t : s 3 = true → s 4 = false → ∃ p, a.eval (.tmp 8) = ptr p ∧ w0.heap.size ≤ p ∧ Row w p (fun _ => 0)
  q_t : s 3 = true → s 4 = true → ∃ p, a.eval (.tmp 8) = ptr p ∧ w0.heap.size ≤ p ∧ Row w p (BigM.dg (u + u))

set_option maxHeartbeats 2000000 in
theorem near_twice {id : Nat} {d : Bool} {l : List Oper} {A : Act} {w : World} {Q : Exit → Act → World → Prop} (u : Nat)  {b_a B : Nat}
    (hB : tableD d l.toArray (fun s i => match i with | 0 => !s 4 | 1 => !s 4 | 2 => s 0 && s 1 && !s 4 | 3 => !s 4 | 4 => s 0 && s 1 && s 2 && s 3 | _ => true) = true) (hl : l.length = 5)
    (h0 : pick l 0 = some (.load 47 (.tmp 4), some 10))
    (h1 : pick l 1 = some (.load 47 (.tmp 4), some 11))
    (h2 : pick l 2 = some (.call { callee := .value (.func 37), args := #[.tmp 10, .tmp 11], argTypes := #[47, 47] }, some 12))
    (h3 : pick l 3 = some (.alloc 47, some 8))
    (h4 : pick l 4 = some (.store 47 (.tmp 8) (.tmp 12), none))
    (hs : A.tmps.size = 51) (hB0 : B ≤ w.heap.size)
    (x_a : A.eval (.tmp 4) = ptr b_a) (R_a : Row w b_a (BigM.dg (u)))
    (h : ∀ p_t w', Below B w w' → w.heap.size ≤ p_t → Row w' p_t (BigM.dg (u + u)) → Row w' b_a (BigM.dg (u)) → Q .normal ((((A.put (some 8) (ptr p_t)).put (some 10) (Big (u))).put (some 11) (Big (u))).put (some 12) (Big (u + u))) w') :
    (Code.region id l.toArray d).wp Tryd.prog Q A w := by
  refine wp_region_invD (by kernel_rfl) _ hB (near_twiceAt u b_a B A w) ⟨Off.refl _ _, Below.refl _ _, by simp, by simp, by simp, R_a, by simp, by simp⟩ ⟨Off.refl _ _, (Below.refl _ _).drew, by simp, by simp, by simp, R_a, by simp, by simp⟩ ?_ ?_
  · intro s a w' S i o ho hsi hT K hK
    have sz : a.tmps.size = 51 := by rw [S.off.2.1]; exact hs
    have il : i < 5 := by have := (List.getElem?_eq_some_iff.1 ho).1; omega
    match i, il, ho, hsi, hT with
    | 0, _, ho, hsi, hT =>
      obtain ⟨e1, e2⟩ := pick_of h0 ho
      have N4 : s 4 = false := by simpa using hT
      refine step_load (.tmp 4) e1 (b := b_a) (f := BigM.dg (u)) (by rw [S.off.eval (by decide)]; exact x_a) S.o_a (hK _ _ ?_)
      rw [e2]
      exact ⟨S.off.put (by decide) _, S.below, fun _ => (eval_put _ _ _ (by omega)).trans rfl, fun g => by rw [eval_put_ne _ _ _ _ (by decide)]; exact S.t1 (by simpa using g), fun g => by rw [eval_put_ne _ _ _ _ (by decide)]; exact S.t2 (by simpa using g), S.o_a, fun g g2 => by rw [eval_put_ne _ _ _ _ (by decide)]; obtain ⟨p, k1, k2, k3⟩ := S.p_t (by simpa using g) (by simpa using g2); exact ⟨p, k1, k2, k3⟩, fun g g2 => by rw [eval_put_ne _ _ _ _ (by decide)]; obtain ⟨p, k1, k2, k3⟩ := S.q_t (by simpa using g) (by simpa using g2); exact ⟨p, k1, k2, k3⟩⟩
    | 1, _, ho, hsi, hT =>
      obtain ⟨e1, e2⟩ := pick_of h1 ho
      have N4 : s 4 = false := by simpa using hT
      refine step_load (.tmp 4) e1 (b := b_a) (f := BigM.dg (u)) (by rw [S.off.eval (by decide)]; exact x_a) S.o_a (hK _ _ ?_)
      rw [e2]
      exact ⟨S.off.put (by decide) _, S.below, fun g => by rw [eval_put_ne _ _ _ _ (by decide)]; exact S.t0 (by simpa using g), fun _ => (eval_put _ _ _ (by omega)).trans rfl, fun g => by rw [eval_put_ne _ _ _ _ (by decide)]; exact S.t2 (by simpa using g), S.o_a, fun g g2 => by rw [eval_put_ne _ _ _ _ (by decide)]; obtain ⟨p, k1, k2, k3⟩ := S.p_t (by simpa using g) (by simpa using g2); exact ⟨p, k1, k2, k3⟩, fun g g2 => by rw [eval_put_ne _ _ _ _ (by decide)]; obtain ⟨p, k1, k2, k3⟩ := S.q_t (by simpa using g) (by simpa using g2); exact ⟨p, k1, k2, k3⟩⟩
    | 2, _, ho, hsi, hT =>
      obtain ⟨e1, e2⟩ := pick_of h2 ho
      simp only [Bool.and_eq_true, Bool.not_eq_true'] at hT
      obtain ⟨⟨D0, D1⟩, N4⟩ := hT
      refine step_call 37 (fun args w => by go_simp) _ _ e1 #[Big (u), Big (u)] (by simp only [List.map_toArray, List.map_cons, List.map_nil, S.t0 D0, S.t1 D1]) ((bigAdd_any u u w').mono ?_)
      rintro e w2 ⟨rfl, BB⟩
      refine ⟨_, rfl, hK _ _ ?_⟩
      rw [e2]
      have hBs : B ≤ w'.heap.size := Nat.le_trans hB0 S.below.size
      exact ⟨S.off.put (by decide) _, S.below.trans (BB.mono hBs), fun g => by rw [eval_put_ne _ _ _ _ (by decide)]; exact S.t0 (by simpa using g), fun g => by rw [eval_put_ne _ _ _ _ (by decide)]; exact S.t1 (by simpa using g), fun _ => (eval_put _ _ _ (by omega)).trans rfl, (S.o_a).below BB, fun g g2 => by rw [eval_put_ne _ _ _ _ (by decide)]; obtain ⟨p, k1, k2, k3⟩ := S.p_t (by simpa using g) (by simpa using g2); exact ⟨p, k1, k2, (k3).below BB⟩, fun g g2 => by rw [eval_put_ne _ _ _ _ (by decide)]; obtain ⟨p, k1, k2, k3⟩ := S.q_t (by simpa using g) (by simpa using g2); exact ⟨p, k1, k2, (k3).below BB⟩⟩
    | 3, _, ho, hsi, hT =>
      obtain ⟨e1, e2⟩ := pick_of h3 ho
      have N4 : s 4 = false := by simpa using hT
      refine step_alloc e1 (hK _ _ ?_)
      rw [e2]
      have hBs : B ≤ w'.heap.size := Nat.le_trans hB0 S.below.size
      exact ⟨S.off.put (by decide) _, S.below.alloc hBs _, fun g => by rw [eval_put_ne _ _ _ _ (by decide)]; exact S.t0 (by simpa using g), fun g => by rw [eval_put_ne _ _ _ _ (by decide)]; exact S.t1 (by simpa using g), fun g => by rw [eval_put_ne _ _ _ _ (by decide)]; exact S.t2 (by simpa using g), (S.o_a).alloc _, fun _ _ => by rw [eval_put _ _ _ (by omega)]; exact ⟨_, rfl, S.below.size, row_new _ _⟩, fun _ g => absurd g (by simp [N4])⟩
    | 4, _, ho, hsi, hT =>
      obtain ⟨e1, e2⟩ := pick_of h4 ho
      simp only [Bool.and_eq_true] at hT
      obtain ⟨⟨⟨D0, D1⟩, D2⟩, D3⟩ := hT
      obtain ⟨p, k1, k2, k3⟩ := S.p_t D3 hsi
      refine step_store (.tmp 8) (.tmp 12) e1 (b := p) (f := BigM.dg (u + u)) k1 (S.t2 D2) k3 (hK _ _ ?_)
      rw [e2]
      exact ⟨S.off, below_setRow S.below (by omega) _, fun g => S.t0 (by simpa using g), fun g => S.t1 (by simpa using g), fun g => S.t2 (by simpa using g), (S.o_a).setRowOther (by have := R_a.lt; omega), fun _ g => absurd g (by simp), fun _ _ => ⟨p, k1, k2, k3.setRow⟩⟩
  · intro s a w' S hall
    have a0 := hall 0 (by omega)
    have a1 := hall 1 (by omega)
    have a2 := hall 2 (by omega)
    have a3 := hall 3 (by omega)
    have a4 := hall 4 (by omega)
    obtain ⟨p, k1, k2, k3⟩ := S.q_t a3 a4
    have e := off_norm _ (by intro d hd; simp at hd; omega) S.off
    simp only [List.foldl, k1, S.t0 a0, S.t1 a1, S.t2 a2] at e
    rw [e]
    exact h p _ S.below k2 k3 S.o_a
structure near_lessAt (c tw : Nat) (b_c b_t B : Nat) (A : Act) (w0 : World) (s : Nat → Bool) (a : Act) (w : World) : Prop where
  off : Off [14, 15, 16, 17] a A
  below : Below B w0 w
  t0 : s 0 = true → a.eval (.tmp 14) = Big (c)
  t1 : s 1 = true → a.eval (.tmp 15) = Big (tw)
  t2 : s 2 = true → a.eval (.tmp 16) = .bool (decide (c < tw))
  t3 : s 3 = true → a.eval (.tmp 17) = .bool (!(decide (c < tw)))
  o_c : Row w b_c (BigM.dg (c))
  o_t : Row w b_t (BigM.dg (tw))

set_option maxHeartbeats 2000000 in
theorem near_less {id : Nat} {d : Bool} {l : List Oper} {A : Act} {w : World} {Q : Exit → Act → World → Prop} (c tw : Nat) (hc : c < 65536 ^ 17) (ht : tw < 65536 ^ 17) {b_c b_t B : Nat}
    (hB : tableD d l.toArray (fun s i => match i with | 0 => true | 1 => true | 2 => s 0 && s 1 | 3 => s 2 | _ => true) = true) (hl : l.length = 4)
    (h0 : pick l 0 = some (.load 47 (.tmp 5), some 14))
    (h1 : pick l 1 = some (.load 47 (.tmp 8), some 15))
    (h2 : pick l 2 = some (.call { callee := .value (.func 41), args := #[.tmp 14, .tmp 15], argTypes := #[47, 47] }, some 16))
    (h3 : pick l 3 = some (.unOp .not 4 (.tmp 16), some 17))
    (hs : A.tmps.size = 51) (hB0 : B ≤ w.heap.size)
    (x_c : A.eval (.tmp 5) = ptr b_c) (R_c : Row w b_c (BigM.dg (c)))
    (x_t : A.eval (.tmp 8) = ptr b_t) (R_t : Row w b_t (BigM.dg (tw)))
    (h : ∀ w', Below B w w' → Row w' b_c (BigM.dg (c)) → Row w' b_t (BigM.dg (tw)) → Q .normal ((((A.put (some 14) (Big (c))).put (some 15) (Big (tw))).put (some 16) (.bool (decide (c < tw)))).put (some 17) (.bool (!(decide (c < tw))))) w') :
    (Code.region id l.toArray d).wp Tryd.prog Q A w := by
  refine wp_region_invD (by kernel_rfl) _ hB (near_lessAt c tw b_c b_t B A w) ⟨Off.refl _ _, Below.refl _ _, by simp, by simp, by simp, by simp, R_c, R_t⟩ ⟨Off.refl _ _, (Below.refl _ _).drew, by simp, by simp, by simp, by simp, R_c, R_t⟩ ?_ ?_
  · intro s a w' S i o ho hsi hT K hK
    have sz : a.tmps.size = 51 := by rw [S.off.2.1]; exact hs
    have il : i < 4 := by have := (List.getElem?_eq_some_iff.1 ho).1; omega
    match i, il, ho, hsi, hT with
    | 0, _, ho, hsi, hT =>
      obtain ⟨e1, e2⟩ := pick_of h0 ho
      refine step_load (.tmp 5) e1 (b := b_c) (f := BigM.dg (c)) (by rw [S.off.eval (by decide)]; exact x_c) S.o_c (hK _ _ ?_)
      rw [e2]
      exact ⟨S.off.put (by decide) _, S.below, fun _ => (eval_put _ _ _ (by omega)).trans rfl, fun g => by rw [eval_put_ne _ _ _ _ (by decide)]; exact S.t1 (by simpa using g), fun g => by rw [eval_put_ne _ _ _ _ (by decide)]; exact S.t2 (by simpa using g), fun g => by rw [eval_put_ne _ _ _ _ (by decide)]; exact S.t3 (by simpa using g), S.o_c, S.o_t⟩
    | 1, _, ho, hsi, hT =>
      obtain ⟨e1, e2⟩ := pick_of h1 ho
      refine step_load (.tmp 8) e1 (b := b_t) (f := BigM.dg (tw)) (by rw [S.off.eval (by decide)]; exact x_t) S.o_t (hK _ _ ?_)
      rw [e2]
      exact ⟨S.off.put (by decide) _, S.below, fun g => by rw [eval_put_ne _ _ _ _ (by decide)]; exact S.t0 (by simpa using g), fun _ => (eval_put _ _ _ (by omega)).trans rfl, fun g => by rw [eval_put_ne _ _ _ _ (by decide)]; exact S.t2 (by simpa using g), fun g => by rw [eval_put_ne _ _ _ _ (by decide)]; exact S.t3 (by simpa using g), S.o_c, S.o_t⟩
    | 2, _, ho, hsi, hT =>
      obtain ⟨e1, e2⟩ := pick_of h2 ho
      simp only [Bool.and_eq_true] at hT
      obtain ⟨D0, D1⟩ := hT
      refine step_call 41 (fun args w => by go_simp) _ _ e1 #[Big (c), Big (tw)] (by simp only [List.map_toArray, List.map_cons, List.map_nil, S.t0 D0, S.t1 D1]) ((bigLess_any c tw hc ht w').mono ?_)
      rintro e w2 ⟨rfl, BB⟩
      refine ⟨_, rfl, hK _ _ ?_⟩
      rw [e2]
      have hBs : B ≤ w'.heap.size := Nat.le_trans hB0 S.below.size
      exact ⟨S.off.put (by decide) _, S.below.trans (BB.mono hBs), fun g => by rw [eval_put_ne _ _ _ _ (by decide)]; exact S.t0 (by simpa using g), fun g => by rw [eval_put_ne _ _ _ _ (by decide)]; exact S.t1 (by simpa using g), fun _ => (eval_put _ _ _ (by omega)).trans rfl, fun g => by rw [eval_put_ne _ _ _ _ (by decide)]; exact S.t3 (by simpa using g), (S.o_c).below BB, (S.o_t).below BB⟩
    | 3, _, ho, hsi, hT =>
      obtain ⟨e1, e2⟩ := pick_of h3 ho
      have D2 := hT
      refine step_val (v := .bool (!(decide (c < tw)))) (by simp only [execOp, e1, S.t2 D2]; go_simp) (hK _ _ ?_)
      rw [e2]
      exact ⟨S.off.put (by decide) _, S.below, fun g => by rw [eval_put_ne _ _ _ _ (by decide)]; exact S.t0 (by simpa using g), fun g => by rw [eval_put_ne _ _ _ _ (by decide)]; exact S.t1 (by simpa using g), fun g => by rw [eval_put_ne _ _ _ _ (by decide)]; exact S.t2 (by simpa using g), fun _ => (eval_put _ _ _ (by omega)).trans rfl, S.o_c, S.o_t⟩
  · intro s a w' S hall
    have a0 := hall 0 (by omega)
    have a1 := hall 1 (by omega)
    have a2 := hall 2 (by omega)
    have a3 := hall 3 (by omega)
    have e := off_norm _ (by intro d hd; simp at hd; omega) S.off
    simp only [List.foldl, S.t0 a0, S.t1 a1, S.t2 a2, S.t3 a3] at e
    rw [e]
    exact h _ S.below S.o_c S.o_t
structure near_quotAt (c tw : Nat) (b_c b_t B : Nat) (A : Act) (w0 : World) (s : Nat → Bool) (a : Act) (w : World) : Prop where
  off : Off [9, 18, 19, 20, 21, 22, 23, 24] a A
  below : Below B w0 w
  t0 : s 0 = true → a.eval (.tmp 18) = Big (tw)
  t1 : s 1 = true → a.eval (.tmp 19) = Big (c)
  t2 : s 2 = true → a.eval (.tmp 20) = Big (tw - c)
  t3 : s 3 = true → a.eval (.tmp 21) = Big (c)
  t4 : s 4 = true → a.eval (.tmp 22) = Big (c)
  t5 : s 5 = true → a.eval (.tmp 23) = Big (c + c)
  t6 : s 6 = true → a.eval (.tmp 24) = Big ((tw - c) / (c + c))
  o_c : Row w b_c (BigM.dg (c))
  o_t : Row w b_t (BigM.dg (tw))
  p_n : s 7 = true → s 8 = false → ∃ p, a.eval (.tmp 9) = ptr p ∧ w0.heap.size ≤ p ∧ Row w p (fun _ => 0)
  q_n : s 7 = true → s 8 = true → ∃ p, a.eval (.tmp 9) = ptr p ∧ w0.heap.size ≤ p ∧ Row w p (BigM.dg ((tw - c) / (c + c)))

set_option maxHeartbeats 2000000 in
theorem near_quot {id : Nat} {d : Bool} {l : List Oper} {A : Act} {w : World} {Q : Exit → Act → World → Prop} (c tw : Nat) (hc : c < 65536 ^ 17) (ht : tw < 65536 ^ 17) (hle : c ≤ tw) (hqx : (tw - c) * 2 < 65536 ^ 17) (hqz : 0 < c + c) (hqy : c + c < 65536 ^ 17) {b_c b_t B : Nat}
    (hB : tableD d l.toArray (fun s i => match i with | 0 => !s 8 | 1 => !s 8 | 2 => s 0 && s 1 && !s 8 | 3 => !s 8 | 4 => !s 8 | 5 => s 3 && s 4 && !s 8 | 6 => s 2 && s 5 && !s 8 | 7 => !s 8 | 8 => s 0 && s 1 && s 2 && s 3 && s 4 && s 5 && s 6 && s 7 | _ => true) = true) (hl : l.length = 9)
    (h0 : pick l 0 = some (.load 47 (.tmp 8), some 18))
    (h1 : pick l 1 = some (.load 47 (.tmp 5), some 19))
    (h2 : pick l 2 = some (.call { callee := .value (.func 42), args := #[.tmp 18, .tmp 19], argTypes := #[47, 47] }, some 20))
    (h3 : pick l 3 = some (.load 47 (.tmp 5), some 21))
    (h4 : pick l 4 = some (.load 47 (.tmp 5), some 22))
    (h5 : pick l 5 = some (.call { callee := .value (.func 37), args := #[.tmp 21, .tmp 22], argTypes := #[47, 47] }, some 23))
    (h6 : pick l 6 = some (.call { callee := .value (.func 46), args := #[.tmp 20, .tmp 23], argTypes := #[47, 47] }, some 24))
    (h7 : pick l 7 = some (.alloc 47, some 9))
    (h8 : pick l 8 = some (.store 47 (.tmp 9) (.tmp 24), none))
    (hs : A.tmps.size = 51) (hB0 : B ≤ w.heap.size)
    (x_c : A.eval (.tmp 5) = ptr b_c) (R_c : Row w b_c (BigM.dg (c)))
    (x_t : A.eval (.tmp 8) = ptr b_t) (R_t : Row w b_t (BigM.dg (tw)))
    (h : ∀ p_n w', Below B w w' → w.heap.size ≤ p_n → Row w' p_n (BigM.dg ((tw - c) / (c + c))) → Row w' b_c (BigM.dg (c)) → Row w' b_t (BigM.dg (tw)) → Q .normal ((((((((A.put (some 9) (ptr p_n)).put (some 18) (Big (tw))).put (some 19) (Big (c))).put (some 20) (Big (tw - c))).put (some 21) (Big (c))).put (some 22) (Big (c))).put (some 23) (Big (c + c))).put (some 24) (Big ((tw - c) / (c + c)))) w') :
    (Code.region id l.toArray d).wp Tryd.prog Q A w := by
  refine wp_region_invD (by kernel_rfl) _ hB (near_quotAt c tw b_c b_t B A w) ⟨Off.refl _ _, Below.refl _ _, by simp, by simp, by simp, by simp, by simp, by simp, by simp, R_c, R_t, by simp, by simp⟩ ⟨Off.refl _ _, (Below.refl _ _).drew, by simp, by simp, by simp, by simp, by simp, by simp, by simp, R_c, R_t, by simp, by simp⟩ ?_ ?_
  · intro s a w' S i o ho hsi hT K hK
    have sz : a.tmps.size = 51 := by rw [S.off.2.1]; exact hs
    have il : i < 9 := by have := (List.getElem?_eq_some_iff.1 ho).1; omega
    match i, il, ho, hsi, hT with
    | 0, _, ho, hsi, hT =>
      obtain ⟨e1, e2⟩ := pick_of h0 ho
      have N8 : s 8 = false := by simpa using hT
      refine step_load (.tmp 8) e1 (b := b_t) (f := BigM.dg (tw)) (by rw [S.off.eval (by decide)]; exact x_t) S.o_t (hK _ _ ?_)
      rw [e2]
      exact ⟨S.off.put (by decide) _, S.below, fun _ => (eval_put _ _ _ (by omega)).trans rfl, fun g => by rw [eval_put_ne _ _ _ _ (by decide)]; exact S.t1 (by simpa using g), fun g => by rw [eval_put_ne _ _ _ _ (by decide)]; exact S.t2 (by simpa using g), fun g => by rw [eval_put_ne _ _ _ _ (by decide)]; exact S.t3 (by simpa using g), fun g => by rw [eval_put_ne _ _ _ _ (by decide)]; exact S.t4 (by simpa using g), fun g => by rw [eval_put_ne _ _ _ _ (by decide)]; exact S.t5 (by simpa using g), fun g => by rw [eval_put_ne _ _ _ _ (by decide)]; exact S.t6 (by simpa using g), S.o_c, S.o_t, fun g g2 => by rw [eval_put_ne _ _ _ _ (by decide)]; obtain ⟨p, k1, k2, k3⟩ := S.p_n (by simpa using g) (by simpa using g2); exact ⟨p, k1, k2, k3⟩, fun g g2 => by rw [eval_put_ne _ _ _ _ (by decide)]; obtain ⟨p, k1, k2, k3⟩ := S.q_n (by simpa using g) (by simpa using g2); exact ⟨p, k1, k2, k3⟩⟩
    | 1, _, ho, hsi, hT =>
      obtain ⟨e1, e2⟩ := pick_of h1 ho
      have N8 : s 8 = false := by simpa using hT
      refine step_load (.tmp 5) e1 (b := b_c) (f := BigM.dg (c)) (by rw [S.off.eval (by decide)]; exact x_c) S.o_c (hK _ _ ?_)
      rw [e2]
      exact ⟨S.off.put (by decide) _, S.below, fun g => by rw [eval_put_ne _ _ _ _ (by decide)]; exact S.t0 (by simpa using g), fun _ => (eval_put _ _ _ (by omega)).trans rfl, fun g => by rw [eval_put_ne _ _ _ _ (by decide)]; exact S.t2 (by simpa using g), fun g => by rw [eval_put_ne _ _ _ _ (by decide)]; exact S.t3 (by simpa using g), fun g => by rw [eval_put_ne _ _ _ _ (by decide)]; exact S.t4 (by simpa using g), fun g => by rw [eval_put_ne _ _ _ _ (by decide)]; exact S.t5 (by simpa using g), fun g => by rw [eval_put_ne _ _ _ _ (by decide)]; exact S.t6 (by simpa using g), S.o_c, S.o_t, fun g g2 => by rw [eval_put_ne _ _ _ _ (by decide)]; obtain ⟨p, k1, k2, k3⟩ := S.p_n (by simpa using g) (by simpa using g2); exact ⟨p, k1, k2, k3⟩, fun g g2 => by rw [eval_put_ne _ _ _ _ (by decide)]; obtain ⟨p, k1, k2, k3⟩ := S.q_n (by simpa using g) (by simpa using g2); exact ⟨p, k1, k2, k3⟩⟩
    | 2, _, ho, hsi, hT =>
      obtain ⟨e1, e2⟩ := pick_of h2 ho
      simp only [Bool.and_eq_true, Bool.not_eq_true'] at hT
      obtain ⟨⟨D0, D1⟩, N8⟩ := hT
      refine step_call 42 (fun args w => by go_simp) _ _ e1 #[Big (tw), Big (c)] (by simp only [List.map_toArray, List.map_cons, List.map_nil, S.t0 D0, S.t1 D1]) ((bigSub_any tw c ht hc hle w').mono ?_)
      rintro e w2 ⟨rfl, BB⟩
      refine ⟨_, rfl, hK _ _ ?_⟩
      rw [e2]
      have hBs : B ≤ w'.heap.size := Nat.le_trans hB0 S.below.size
      exact ⟨S.off.put (by decide) _, S.below.trans (BB.mono hBs), fun g => by rw [eval_put_ne _ _ _ _ (by decide)]; exact S.t0 (by simpa using g), fun g => by rw [eval_put_ne _ _ _ _ (by decide)]; exact S.t1 (by simpa using g), fun _ => (eval_put _ _ _ (by omega)).trans rfl, fun g => by rw [eval_put_ne _ _ _ _ (by decide)]; exact S.t3 (by simpa using g), fun g => by rw [eval_put_ne _ _ _ _ (by decide)]; exact S.t4 (by simpa using g), fun g => by rw [eval_put_ne _ _ _ _ (by decide)]; exact S.t5 (by simpa using g), fun g => by rw [eval_put_ne _ _ _ _ (by decide)]; exact S.t6 (by simpa using g), (S.o_c).below BB, (S.o_t).below BB, fun g g2 => by rw [eval_put_ne _ _ _ _ (by decide)]; obtain ⟨p, k1, k2, k3⟩ := S.p_n (by simpa using g) (by simpa using g2); exact ⟨p, k1, k2, (k3).below BB⟩, fun g g2 => by rw [eval_put_ne _ _ _ _ (by decide)]; obtain ⟨p, k1, k2, k3⟩ := S.q_n (by simpa using g) (by simpa using g2); exact ⟨p, k1, k2, (k3).below BB⟩⟩
    | 3, _, ho, hsi, hT =>
      obtain ⟨e1, e2⟩ := pick_of h3 ho
      have N8 : s 8 = false := by simpa using hT
      refine step_load (.tmp 5) e1 (b := b_c) (f := BigM.dg (c)) (by rw [S.off.eval (by decide)]; exact x_c) S.o_c (hK _ _ ?_)
      rw [e2]
      exact ⟨S.off.put (by decide) _, S.below, fun g => by rw [eval_put_ne _ _ _ _ (by decide)]; exact S.t0 (by simpa using g), fun g => by rw [eval_put_ne _ _ _ _ (by decide)]; exact S.t1 (by simpa using g), fun g => by rw [eval_put_ne _ _ _ _ (by decide)]; exact S.t2 (by simpa using g), fun _ => (eval_put _ _ _ (by omega)).trans rfl, fun g => by rw [eval_put_ne _ _ _ _ (by decide)]; exact S.t4 (by simpa using g), fun g => by rw [eval_put_ne _ _ _ _ (by decide)]; exact S.t5 (by simpa using g), fun g => by rw [eval_put_ne _ _ _ _ (by decide)]; exact S.t6 (by simpa using g), S.o_c, S.o_t, fun g g2 => by rw [eval_put_ne _ _ _ _ (by decide)]; obtain ⟨p, k1, k2, k3⟩ := S.p_n (by simpa using g) (by simpa using g2); exact ⟨p, k1, k2, k3⟩, fun g g2 => by rw [eval_put_ne _ _ _ _ (by decide)]; obtain ⟨p, k1, k2, k3⟩ := S.q_n (by simpa using g) (by simpa using g2); exact ⟨p, k1, k2, k3⟩⟩
    | 4, _, ho, hsi, hT =>
      obtain ⟨e1, e2⟩ := pick_of h4 ho
      have N8 : s 8 = false := by simpa using hT
      refine step_load (.tmp 5) e1 (b := b_c) (f := BigM.dg (c)) (by rw [S.off.eval (by decide)]; exact x_c) S.o_c (hK _ _ ?_)
      rw [e2]
      exact ⟨S.off.put (by decide) _, S.below, fun g => by rw [eval_put_ne _ _ _ _ (by decide)]; exact S.t0 (by simpa using g), fun g => by rw [eval_put_ne _ _ _ _ (by decide)]; exact S.t1 (by simpa using g), fun g => by rw [eval_put_ne _ _ _ _ (by decide)]; exact S.t2 (by simpa using g), fun g => by rw [eval_put_ne _ _ _ _ (by decide)]; exact S.t3 (by simpa using g), fun _ => (eval_put _ _ _ (by omega)).trans rfl, fun g => by rw [eval_put_ne _ _ _ _ (by decide)]; exact S.t5 (by simpa using g), fun g => by rw [eval_put_ne _ _ _ _ (by decide)]; exact S.t6 (by simpa using g), S.o_c, S.o_t, fun g g2 => by rw [eval_put_ne _ _ _ _ (by decide)]; obtain ⟨p, k1, k2, k3⟩ := S.p_n (by simpa using g) (by simpa using g2); exact ⟨p, k1, k2, k3⟩, fun g g2 => by rw [eval_put_ne _ _ _ _ (by decide)]; obtain ⟨p, k1, k2, k3⟩ := S.q_n (by simpa using g) (by simpa using g2); exact ⟨p, k1, k2, k3⟩⟩
    | 5, _, ho, hsi, hT =>
      obtain ⟨e1, e2⟩ := pick_of h5 ho
      simp only [Bool.and_eq_true, Bool.not_eq_true'] at hT
      obtain ⟨⟨D3, D4⟩, N8⟩ := hT
      refine step_call 37 (fun args w => by go_simp) _ _ e1 #[Big (c), Big (c)] (by simp only [List.map_toArray, List.map_cons, List.map_nil, S.t3 D3, S.t4 D4]) ((bigAdd_any c c w').mono ?_)
      rintro e w2 ⟨rfl, BB⟩
      refine ⟨_, rfl, hK _ _ ?_⟩
      rw [e2]
      have hBs : B ≤ w'.heap.size := Nat.le_trans hB0 S.below.size
      exact ⟨S.off.put (by decide) _, S.below.trans (BB.mono hBs), fun g => by rw [eval_put_ne _ _ _ _ (by decide)]; exact S.t0 (by simpa using g), fun g => by rw [eval_put_ne _ _ _ _ (by decide)]; exact S.t1 (by simpa using g), fun g => by rw [eval_put_ne _ _ _ _ (by decide)]; exact S.t2 (by simpa using g), fun g => by rw [eval_put_ne _ _ _ _ (by decide)]; exact S.t3 (by simpa using g), fun g => by rw [eval_put_ne _ _ _ _ (by decide)]; exact S.t4 (by simpa using g), fun _ => (eval_put _ _ _ (by omega)).trans rfl, fun g => by rw [eval_put_ne _ _ _ _ (by decide)]; exact S.t6 (by simpa using g), (S.o_c).below BB, (S.o_t).below BB, fun g g2 => by rw [eval_put_ne _ _ _ _ (by decide)]; obtain ⟨p, k1, k2, k3⟩ := S.p_n (by simpa using g) (by simpa using g2); exact ⟨p, k1, k2, (k3).below BB⟩, fun g g2 => by rw [eval_put_ne _ _ _ _ (by decide)]; obtain ⟨p, k1, k2, k3⟩ := S.q_n (by simpa using g) (by simpa using g2); exact ⟨p, k1, k2, (k3).below BB⟩⟩
    | 6, _, ho, hsi, hT =>
      obtain ⟨e1, e2⟩ := pick_of h6 ho
      simp only [Bool.and_eq_true, Bool.not_eq_true'] at hT
      obtain ⟨⟨D2, D5⟩, N8⟩ := hT
      refine step_call 46 (fun args w => by go_simp) _ _ e1 #[Big (tw - c), Big (c + c)] (by simp only [List.map_toArray, List.map_cons, List.map_nil, S.t2 D2, S.t5 D5]) ((bigQuotient_any (tw - c) (c + c) hqx hqz hqy w').mono ?_)
      rintro e w2 ⟨rfl, BB⟩
      refine ⟨_, rfl, hK _ _ ?_⟩
      rw [e2]
      have hBs : B ≤ w'.heap.size := Nat.le_trans hB0 S.below.size
      exact ⟨S.off.put (by decide) _, S.below.trans (BB.mono hBs), fun g => by rw [eval_put_ne _ _ _ _ (by decide)]; exact S.t0 (by simpa using g), fun g => by rw [eval_put_ne _ _ _ _ (by decide)]; exact S.t1 (by simpa using g), fun g => by rw [eval_put_ne _ _ _ _ (by decide)]; exact S.t2 (by simpa using g), fun g => by rw [eval_put_ne _ _ _ _ (by decide)]; exact S.t3 (by simpa using g), fun g => by rw [eval_put_ne _ _ _ _ (by decide)]; exact S.t4 (by simpa using g), fun g => by rw [eval_put_ne _ _ _ _ (by decide)]; exact S.t5 (by simpa using g), fun _ => (eval_put _ _ _ (by omega)).trans rfl, (S.o_c).below BB, (S.o_t).below BB, fun g g2 => by rw [eval_put_ne _ _ _ _ (by decide)]; obtain ⟨p, k1, k2, k3⟩ := S.p_n (by simpa using g) (by simpa using g2); exact ⟨p, k1, k2, (k3).below BB⟩, fun g g2 => by rw [eval_put_ne _ _ _ _ (by decide)]; obtain ⟨p, k1, k2, k3⟩ := S.q_n (by simpa using g) (by simpa using g2); exact ⟨p, k1, k2, (k3).below BB⟩⟩
    | 7, _, ho, hsi, hT =>
      obtain ⟨e1, e2⟩ := pick_of h7 ho
      have N8 : s 8 = false := by simpa using hT
      refine step_alloc e1 (hK _ _ ?_)
      rw [e2]
      have hBs : B ≤ w'.heap.size := Nat.le_trans hB0 S.below.size
      exact ⟨S.off.put (by decide) _, S.below.alloc hBs _, fun g => by rw [eval_put_ne _ _ _ _ (by decide)]; exact S.t0 (by simpa using g), fun g => by rw [eval_put_ne _ _ _ _ (by decide)]; exact S.t1 (by simpa using g), fun g => by rw [eval_put_ne _ _ _ _ (by decide)]; exact S.t2 (by simpa using g), fun g => by rw [eval_put_ne _ _ _ _ (by decide)]; exact S.t3 (by simpa using g), fun g => by rw [eval_put_ne _ _ _ _ (by decide)]; exact S.t4 (by simpa using g), fun g => by rw [eval_put_ne _ _ _ _ (by decide)]; exact S.t5 (by simpa using g), fun g => by rw [eval_put_ne _ _ _ _ (by decide)]; exact S.t6 (by simpa using g), (S.o_c).alloc _, (S.o_t).alloc _, fun _ _ => by rw [eval_put _ _ _ (by omega)]; exact ⟨_, rfl, S.below.size, row_new _ _⟩, fun _ g => absurd g (by simp [N8])⟩
    | 8, _, ho, hsi, hT =>
      obtain ⟨e1, e2⟩ := pick_of h8 ho
      simp only [Bool.and_eq_true] at hT
      obtain ⟨⟨⟨⟨⟨⟨⟨D0, D1⟩, D2⟩, D3⟩, D4⟩, D5⟩, D6⟩, D7⟩ := hT
      obtain ⟨p, k1, k2, k3⟩ := S.p_n D7 hsi
      refine step_store (.tmp 9) (.tmp 24) e1 (b := p) (f := BigM.dg ((tw - c) / (c + c))) k1 (S.t6 D6) k3 (hK _ _ ?_)
      rw [e2]
      exact ⟨S.off, below_setRow S.below (by omega) _, fun g => S.t0 (by simpa using g), fun g => S.t1 (by simpa using g), fun g => S.t2 (by simpa using g), fun g => S.t3 (by simpa using g), fun g => S.t4 (by simpa using g), fun g => S.t5 (by simpa using g), fun g => S.t6 (by simpa using g), (S.o_c).setRowOther (by have := R_c.lt; omega), (S.o_t).setRowOther (by have := R_t.lt; omega), fun _ g => absurd g (by simp), fun _ _ => ⟨p, k1, k2, k3.setRow⟩⟩
  · intro s a w' S hall
    have a0 := hall 0 (by omega)
    have a1 := hall 1 (by omega)
    have a2 := hall 2 (by omega)
    have a3 := hall 3 (by omega)
    have a4 := hall 4 (by omega)
    have a5 := hall 5 (by omega)
    have a6 := hall 6 (by omega)
    have a7 := hall 7 (by omega)
    have a8 := hall 8 (by omega)
    obtain ⟨p, k1, k2, k3⟩ := S.q_n a7 a8
    have e := off_norm _ (by intro d hd; simp at hd; omega) S.off
    simp only [List.foldl, k1, S.t0 a0, S.t1 a1, S.t2 a2, S.t3 a3, S.t4 a4, S.t5 a5, S.t6 a6] at e
    rw [e]
    exact h p _ S.below k2 k3 S.o_c S.o_t
structure near_neqAt (c tw n : Nat) (b_c b_t b_n B : Nat) (A : Act) (w0 : World) (s : Nat → Bool) (a : Act) (w : World) : Prop where
  off : Off [25, 26, 27, 28, 29, 30, 31, 32, 33] a A
  below : Below B w0 w
  t0 : s 0 = true → a.eval (.tmp 25) = Big (n)
  t1 : s 1 = true → a.eval (.tmp 26) = Big (c)
  t2 : s 2 = true → a.eval (.tmp 27) = Big (c)
  t3 : s 3 = true → a.eval (.tmp 28) = Big (c + c)
  t4 : s 4 = true → a.eval (.tmp 29) = Big (n * (c + c))
  t5 : s 5 = true → a.eval (.tmp 30) = Big (tw)
  t6 : s 6 = true → a.eval (.tmp 31) = Big (c)
  t7 : s 7 = true → a.eval (.tmp 32) = Big (tw - c)
  t8 : s 8 = true → a.eval (.tmp 33) = .bool (decide (n * (c + c) ≠ tw - c))
  o_c : Row w b_c (BigM.dg (c))
  o_t : Row w b_t (BigM.dg (tw))
  o_n : Row w b_n (BigM.dg (n))

set_option maxHeartbeats 2000000 in
theorem near_neq {id : Nat} {d : Bool} {l : List Oper} {A : Act} {w : World} {Q : Exit → Act → World → Prop} (c tw n : Nat) (hc : c < 65536 ^ 17) (ht : tw < 65536 ^ 17) (hle : c ≤ tw) (hn : n < 65536 ^ 8) (hcc : c + c < 65536 ^ 8) (hp : n * (c + c) < 65536 ^ 17) (hm : tw - c < 65536 ^ 17) {b_c b_t b_n B : Nat}
    (hB : tableD d l.toArray (fun s i => match i with | 0 => true | 1 => true | 2 => true | 3 => s 1 && s 2 | 4 => s 0 && s 3 | 5 => true | 6 => true | 7 => s 5 && s 6 | 8 => s 4 && s 7 | _ => true) = true) (hl : l.length = 9)
    (h0 : pick l 0 = some (.load 47 (.tmp 9), some 25))
    (h1 : pick l 1 = some (.load 47 (.tmp 5), some 26))
    (h2 : pick l 2 = some (.load 47 (.tmp 5), some 27))
    (h3 : pick l 3 = some (.call { callee := .value (.func 37), args := #[.tmp 26, .tmp 27], argTypes := #[47, 47] }, some 28))
    (h4 : pick l 4 = some (.call { callee := .value (.func 31), args := #[.tmp 25, .tmp 28], argTypes := #[47, 47] }, some 29))
    (h5 : pick l 5 = some (.load 47 (.tmp 8), some 30))
    (h6 : pick l 6 = some (.load 47 (.tmp 5), some 31))
    (h7 : pick l 7 = some (.call { callee := .value (.func 42), args := #[.tmp 30, .tmp 31], argTypes := #[47, 47] }, some 32))
    (h8 : pick l 8 = some (.binOp .neq 47 (.tmp 29) (.tmp 32) 47, some 33))
    (hs : A.tmps.size = 51) (hB0 : B ≤ w.heap.size)
    (x_c : A.eval (.tmp 5) = ptr b_c) (R_c : Row w b_c (BigM.dg (c)))
    (x_t : A.eval (.tmp 8) = ptr b_t) (R_t : Row w b_t (BigM.dg (tw)))
    (x_n : A.eval (.tmp 9) = ptr b_n) (R_n : Row w b_n (BigM.dg (n)))
    (h : ∀ w', Below B w w' → Row w' b_c (BigM.dg (c)) → Row w' b_t (BigM.dg (tw)) → Row w' b_n (BigM.dg (n)) → Q .normal (((((((((A.put (some 25) (Big (n))).put (some 26) (Big (c))).put (some 27) (Big (c))).put (some 28) (Big (c + c))).put (some 29) (Big (n * (c + c)))).put (some 30) (Big (tw))).put (some 31) (Big (c))).put (some 32) (Big (tw - c))).put (some 33) (.bool (decide (n * (c + c) ≠ tw - c)))) w') :
    (Code.region id l.toArray d).wp Tryd.prog Q A w := by
  refine wp_region_invD (by kernel_rfl) _ hB (near_neqAt c tw n b_c b_t b_n B A w) ⟨Off.refl _ _, Below.refl _ _, by simp, by simp, by simp, by simp, by simp, by simp, by simp, by simp, by simp, R_c, R_t, R_n⟩ ⟨Off.refl _ _, (Below.refl _ _).drew, by simp, by simp, by simp, by simp, by simp, by simp, by simp, by simp, by simp, R_c, R_t, R_n⟩ ?_ ?_
  · intro s a w' S i o ho hsi hT K hK
    have sz : a.tmps.size = 51 := by rw [S.off.2.1]; exact hs
    have il : i < 9 := by have := (List.getElem?_eq_some_iff.1 ho).1; omega
    match i, il, ho, hsi, hT with
    | 0, _, ho, hsi, hT =>
      obtain ⟨e1, e2⟩ := pick_of h0 ho
      refine step_load (.tmp 9) e1 (b := b_n) (f := BigM.dg (n)) (by rw [S.off.eval (by decide)]; exact x_n) S.o_n (hK _ _ ?_)
      rw [e2]
      exact ⟨S.off.put (by decide) _, S.below, fun _ => (eval_put _ _ _ (by omega)).trans rfl, fun g => by rw [eval_put_ne _ _ _ _ (by decide)]; exact S.t1 (by simpa using g), fun g => by rw [eval_put_ne _ _ _ _ (by decide)]; exact S.t2 (by simpa using g), fun g => by rw [eval_put_ne _ _ _ _ (by decide)]; exact S.t3 (by simpa using g), fun g => by rw [eval_put_ne _ _ _ _ (by decide)]; exact S.t4 (by simpa using g), fun g => by rw [eval_put_ne _ _ _ _ (by decide)]; exact S.t5 (by simpa using g), fun g => by rw [eval_put_ne _ _ _ _ (by decide)]; exact S.t6 (by simpa using g), fun g => by rw [eval_put_ne _ _ _ _ (by decide)]; exact S.t7 (by simpa using g), fun g => by rw [eval_put_ne _ _ _ _ (by decide)]; exact S.t8 (by simpa using g), S.o_c, S.o_t, S.o_n⟩
    | 1, _, ho, hsi, hT =>
      obtain ⟨e1, e2⟩ := pick_of h1 ho
      refine step_load (.tmp 5) e1 (b := b_c) (f := BigM.dg (c)) (by rw [S.off.eval (by decide)]; exact x_c) S.o_c (hK _ _ ?_)
      rw [e2]
      exact ⟨S.off.put (by decide) _, S.below, fun g => by rw [eval_put_ne _ _ _ _ (by decide)]; exact S.t0 (by simpa using g), fun _ => (eval_put _ _ _ (by omega)).trans rfl, fun g => by rw [eval_put_ne _ _ _ _ (by decide)]; exact S.t2 (by simpa using g), fun g => by rw [eval_put_ne _ _ _ _ (by decide)]; exact S.t3 (by simpa using g), fun g => by rw [eval_put_ne _ _ _ _ (by decide)]; exact S.t4 (by simpa using g), fun g => by rw [eval_put_ne _ _ _ _ (by decide)]; exact S.t5 (by simpa using g), fun g => by rw [eval_put_ne _ _ _ _ (by decide)]; exact S.t6 (by simpa using g), fun g => by rw [eval_put_ne _ _ _ _ (by decide)]; exact S.t7 (by simpa using g), fun g => by rw [eval_put_ne _ _ _ _ (by decide)]; exact S.t8 (by simpa using g), S.o_c, S.o_t, S.o_n⟩
    | 2, _, ho, hsi, hT =>
      obtain ⟨e1, e2⟩ := pick_of h2 ho
      refine step_load (.tmp 5) e1 (b := b_c) (f := BigM.dg (c)) (by rw [S.off.eval (by decide)]; exact x_c) S.o_c (hK _ _ ?_)
      rw [e2]
      exact ⟨S.off.put (by decide) _, S.below, fun g => by rw [eval_put_ne _ _ _ _ (by decide)]; exact S.t0 (by simpa using g), fun g => by rw [eval_put_ne _ _ _ _ (by decide)]; exact S.t1 (by simpa using g), fun _ => (eval_put _ _ _ (by omega)).trans rfl, fun g => by rw [eval_put_ne _ _ _ _ (by decide)]; exact S.t3 (by simpa using g), fun g => by rw [eval_put_ne _ _ _ _ (by decide)]; exact S.t4 (by simpa using g), fun g => by rw [eval_put_ne _ _ _ _ (by decide)]; exact S.t5 (by simpa using g), fun g => by rw [eval_put_ne _ _ _ _ (by decide)]; exact S.t6 (by simpa using g), fun g => by rw [eval_put_ne _ _ _ _ (by decide)]; exact S.t7 (by simpa using g), fun g => by rw [eval_put_ne _ _ _ _ (by decide)]; exact S.t8 (by simpa using g), S.o_c, S.o_t, S.o_n⟩
    | 3, _, ho, hsi, hT =>
      obtain ⟨e1, e2⟩ := pick_of h3 ho
      simp only [Bool.and_eq_true] at hT
      obtain ⟨D1, D2⟩ := hT
      refine step_call 37 (fun args w => by go_simp) _ _ e1 #[Big (c), Big (c)] (by simp only [List.map_toArray, List.map_cons, List.map_nil, S.t1 D1, S.t2 D2]) ((bigAdd_any c c w').mono ?_)
      rintro e w2 ⟨rfl, BB⟩
      refine ⟨_, rfl, hK _ _ ?_⟩
      rw [e2]
      have hBs : B ≤ w'.heap.size := Nat.le_trans hB0 S.below.size
      exact ⟨S.off.put (by decide) _, S.below.trans (BB.mono hBs), fun g => by rw [eval_put_ne _ _ _ _ (by decide)]; exact S.t0 (by simpa using g), fun g => by rw [eval_put_ne _ _ _ _ (by decide)]; exact S.t1 (by simpa using g), fun g => by rw [eval_put_ne _ _ _ _ (by decide)]; exact S.t2 (by simpa using g), fun _ => (eval_put _ _ _ (by omega)).trans rfl, fun g => by rw [eval_put_ne _ _ _ _ (by decide)]; exact S.t4 (by simpa using g), fun g => by rw [eval_put_ne _ _ _ _ (by decide)]; exact S.t5 (by simpa using g), fun g => by rw [eval_put_ne _ _ _ _ (by decide)]; exact S.t6 (by simpa using g), fun g => by rw [eval_put_ne _ _ _ _ (by decide)]; exact S.t7 (by simpa using g), fun g => by rw [eval_put_ne _ _ _ _ (by decide)]; exact S.t8 (by simpa using g), (S.o_c).below BB, (S.o_t).below BB, (S.o_n).below BB⟩
    | 4, _, ho, hsi, hT =>
      obtain ⟨e1, e2⟩ := pick_of h4 ho
      simp only [Bool.and_eq_true] at hT
      obtain ⟨D0, D3⟩ := hT
      refine step_call 31 (fun args w => by go_simp) _ _ e1 #[Big (n), Big (c + c)] (by simp only [List.map_toArray, List.map_cons, List.map_nil, S.t0 D0, S.t3 D3]) ((bigTimes_any n (c + c) hn hcc w').mono ?_)
      rintro e w2 ⟨rfl, BB⟩
      refine ⟨_, rfl, hK _ _ ?_⟩
      rw [e2]
      have hBs : B ≤ w'.heap.size := Nat.le_trans hB0 S.below.size
      exact ⟨S.off.put (by decide) _, S.below.trans (BB.mono hBs), fun g => by rw [eval_put_ne _ _ _ _ (by decide)]; exact S.t0 (by simpa using g), fun g => by rw [eval_put_ne _ _ _ _ (by decide)]; exact S.t1 (by simpa using g), fun g => by rw [eval_put_ne _ _ _ _ (by decide)]; exact S.t2 (by simpa using g), fun g => by rw [eval_put_ne _ _ _ _ (by decide)]; exact S.t3 (by simpa using g), fun _ => (eval_put _ _ _ (by omega)).trans rfl, fun g => by rw [eval_put_ne _ _ _ _ (by decide)]; exact S.t5 (by simpa using g), fun g => by rw [eval_put_ne _ _ _ _ (by decide)]; exact S.t6 (by simpa using g), fun g => by rw [eval_put_ne _ _ _ _ (by decide)]; exact S.t7 (by simpa using g), fun g => by rw [eval_put_ne _ _ _ _ (by decide)]; exact S.t8 (by simpa using g), (S.o_c).below BB, (S.o_t).below BB, (S.o_n).below BB⟩
    | 5, _, ho, hsi, hT =>
      obtain ⟨e1, e2⟩ := pick_of h5 ho
      refine step_load (.tmp 8) e1 (b := b_t) (f := BigM.dg (tw)) (by rw [S.off.eval (by decide)]; exact x_t) S.o_t (hK _ _ ?_)
      rw [e2]
      exact ⟨S.off.put (by decide) _, S.below, fun g => by rw [eval_put_ne _ _ _ _ (by decide)]; exact S.t0 (by simpa using g), fun g => by rw [eval_put_ne _ _ _ _ (by decide)]; exact S.t1 (by simpa using g), fun g => by rw [eval_put_ne _ _ _ _ (by decide)]; exact S.t2 (by simpa using g), fun g => by rw [eval_put_ne _ _ _ _ (by decide)]; exact S.t3 (by simpa using g), fun g => by rw [eval_put_ne _ _ _ _ (by decide)]; exact S.t4 (by simpa using g), fun _ => (eval_put _ _ _ (by omega)).trans rfl, fun g => by rw [eval_put_ne _ _ _ _ (by decide)]; exact S.t6 (by simpa using g), fun g => by rw [eval_put_ne _ _ _ _ (by decide)]; exact S.t7 (by simpa using g), fun g => by rw [eval_put_ne _ _ _ _ (by decide)]; exact S.t8 (by simpa using g), S.o_c, S.o_t, S.o_n⟩
    | 6, _, ho, hsi, hT =>
      obtain ⟨e1, e2⟩ := pick_of h6 ho
      refine step_load (.tmp 5) e1 (b := b_c) (f := BigM.dg (c)) (by rw [S.off.eval (by decide)]; exact x_c) S.o_c (hK _ _ ?_)
      rw [e2]
      exact ⟨S.off.put (by decide) _, S.below, fun g => by rw [eval_put_ne _ _ _ _ (by decide)]; exact S.t0 (by simpa using g), fun g => by rw [eval_put_ne _ _ _ _ (by decide)]; exact S.t1 (by simpa using g), fun g => by rw [eval_put_ne _ _ _ _ (by decide)]; exact S.t2 (by simpa using g), fun g => by rw [eval_put_ne _ _ _ _ (by decide)]; exact S.t3 (by simpa using g), fun g => by rw [eval_put_ne _ _ _ _ (by decide)]; exact S.t4 (by simpa using g), fun g => by rw [eval_put_ne _ _ _ _ (by decide)]; exact S.t5 (by simpa using g), fun _ => (eval_put _ _ _ (by omega)).trans rfl, fun g => by rw [eval_put_ne _ _ _ _ (by decide)]; exact S.t7 (by simpa using g), fun g => by rw [eval_put_ne _ _ _ _ (by decide)]; exact S.t8 (by simpa using g), S.o_c, S.o_t, S.o_n⟩
    | 7, _, ho, hsi, hT =>
      obtain ⟨e1, e2⟩ := pick_of h7 ho
      simp only [Bool.and_eq_true] at hT
      obtain ⟨D5, D6⟩ := hT
      refine step_call 42 (fun args w => by go_simp) _ _ e1 #[Big (tw), Big (c)] (by simp only [List.map_toArray, List.map_cons, List.map_nil, S.t5 D5, S.t6 D6]) ((bigSub_any tw c ht hc hle w').mono ?_)
      rintro e w2 ⟨rfl, BB⟩
      refine ⟨_, rfl, hK _ _ ?_⟩
      rw [e2]
      have hBs : B ≤ w'.heap.size := Nat.le_trans hB0 S.below.size
      exact ⟨S.off.put (by decide) _, S.below.trans (BB.mono hBs), fun g => by rw [eval_put_ne _ _ _ _ (by decide)]; exact S.t0 (by simpa using g), fun g => by rw [eval_put_ne _ _ _ _ (by decide)]; exact S.t1 (by simpa using g), fun g => by rw [eval_put_ne _ _ _ _ (by decide)]; exact S.t2 (by simpa using g), fun g => by rw [eval_put_ne _ _ _ _ (by decide)]; exact S.t3 (by simpa using g), fun g => by rw [eval_put_ne _ _ _ _ (by decide)]; exact S.t4 (by simpa using g), fun g => by rw [eval_put_ne _ _ _ _ (by decide)]; exact S.t5 (by simpa using g), fun g => by rw [eval_put_ne _ _ _ _ (by decide)]; exact S.t6 (by simpa using g), fun _ => (eval_put _ _ _ (by omega)).trans rfl, fun g => by rw [eval_put_ne _ _ _ _ (by decide)]; exact S.t8 (by simpa using g), (S.o_c).below BB, (S.o_t).below BB, (S.o_n).below BB⟩
    | 8, _, ho, hsi, hT =>
      obtain ⟨e1, e2⟩ := pick_of h8 ho
      simp only [Bool.and_eq_true] at hT
      obtain ⟨D4, D7⟩ := hT
      refine step_neq e1 (S.t4 D4) (S.t7 D7) hp hm (hK _ _ ?_)
      rw [e2]
      exact ⟨S.off.put (by decide) _, S.below, fun g => by rw [eval_put_ne _ _ _ _ (by decide)]; exact S.t0 (by simpa using g), fun g => by rw [eval_put_ne _ _ _ _ (by decide)]; exact S.t1 (by simpa using g), fun g => by rw [eval_put_ne _ _ _ _ (by decide)]; exact S.t2 (by simpa using g), fun g => by rw [eval_put_ne _ _ _ _ (by decide)]; exact S.t3 (by simpa using g), fun g => by rw [eval_put_ne _ _ _ _ (by decide)]; exact S.t4 (by simpa using g), fun g => by rw [eval_put_ne _ _ _ _ (by decide)]; exact S.t5 (by simpa using g), fun g => by rw [eval_put_ne _ _ _ _ (by decide)]; exact S.t6 (by simpa using g), fun g => by rw [eval_put_ne _ _ _ _ (by decide)]; exact S.t7 (by simpa using g), fun _ => (eval_put _ _ _ (by omega)).trans rfl, S.o_c, S.o_t, S.o_n⟩
  · intro s a w' S hall
    have a0 := hall 0 (by omega)
    have a1 := hall 1 (by omega)
    have a2 := hall 2 (by omega)
    have a3 := hall 3 (by omega)
    have a4 := hall 4 (by omega)
    have a5 := hall 5 (by omega)
    have a6 := hall 6 (by omega)
    have a7 := hall 7 (by omega)
    have a8 := hall 8 (by omega)
    have e := off_norm _ (by intro d hd; simp at hd; omega) S.off
    simp only [List.foldl, S.t0 a0, S.t1 a1, S.t2 a2, S.t3 a3, S.t4 a4, S.t5 a5, S.t6 a6, S.t7 a7, S.t8 a8] at e
    rw [e]
    exact h _ S.below S.o_c S.o_t S.o_n
structure near_incAt (n : Nat) (b_n B : Nat) (A : Act) (w0 : World) (s : Nat → Bool) (a : Act) (w : World) : Prop where
  off : Off [34, 35, 36] a A
  below : Below B w0 w
  t0 : s 0 = true → a.eval (.tmp 34) = Big (n)
  t1 : s 1 = true → a.eval (.tmp 35) = Big 1
  t2 : s 2 = true → a.eval (.tmp 36) = Big (n + 1)
  o_n : s 3 = false → Row w b_n (BigM.dg (n))
  n_n : s 3 = true → Row w b_n (BigM.dg (n + 1))

set_option maxHeartbeats 2000000 in
theorem near_inc {id : Nat} {d : Bool} {l : List Oper} {A : Act} {w : World} {Q : Exit → Act → World → Prop} (n : Nat)  {b_n B : Nat}
    (hB : tableD d l.toArray (fun s i => match i with | 0 => !s 3 | 1 => !s 3 | 2 => s 0 && s 1 && !s 3 | 3 => s 0 && s 1 && s 2 | _ => true) = true) (hl : l.length = 4)
    (h0 : pick l 0 = some (.load 47 (.tmp 9), some 34))
    (h1 : pick l 1 = some (.call { callee := .value (.func 32), args := #[.const (.int .i64 1)], argTypes := #[2] }, some 35))
    (h2 : pick l 2 = some (.call { callee := .value (.func 37), args := #[.tmp 34, .tmp 35], argTypes := #[47, 47] }, some 36))
    (h3 : pick l 3 = some (.store 47 (.tmp 9) (.tmp 36), none))
    (hs : A.tmps.size = 51) (hB0 : B ≤ w.heap.size)
    (x_n : A.eval (.tmp 9) = ptr b_n) (R_n : Row w b_n (BigM.dg (n))) (B_n : B ≤ b_n)
    (h : ∀ w', Below B w w' → Row w' b_n (BigM.dg (n + 1)) → Q .normal (((A.put (some 34) (Big (n))).put (some 35) (Big 1)).put (some 36) (Big (n + 1))) w') :
    (Code.region id l.toArray d).wp Tryd.prog Q A w := by
  refine wp_region_invD (by kernel_rfl) _ hB (near_incAt n b_n B A w) ⟨Off.refl _ _, Below.refl _ _, by simp, by simp, by simp, fun _ => R_n, by simp⟩ ⟨Off.refl _ _, (Below.refl _ _).drew, by simp, by simp, by simp, fun _ => R_n, by simp⟩ ?_ ?_
  · intro s a w' S i o ho hsi hT K hK
    have sz : a.tmps.size = 51 := by rw [S.off.2.1]; exact hs
    have il : i < 4 := by have := (List.getElem?_eq_some_iff.1 ho).1; omega
    match i, il, ho, hsi, hT with
    | 0, _, ho, hsi, hT =>
      obtain ⟨e1, e2⟩ := pick_of h0 ho
      have N3 : s 3 = false := by simpa using hT
      refine step_load (.tmp 9) e1 (b := b_n) (f := BigM.dg (n)) (by rw [S.off.eval (by decide)]; exact x_n) (S.o_n N3) (hK _ _ ?_)
      rw [e2]
      exact ⟨S.off.put (by decide) _, S.below, fun _ => (eval_put _ _ _ (by omega)).trans rfl, fun g => by rw [eval_put_ne _ _ _ _ (by decide)]; exact S.t1 (by simpa using g), fun g => by rw [eval_put_ne _ _ _ _ (by decide)]; exact S.t2 (by simpa using g), fun g => S.o_n (by simpa using g), fun g => S.n_n (by simpa using g)⟩
    | 1, _, ho, hsi, hT =>
      obtain ⟨e1, e2⟩ := pick_of h1 ho
      have N3 : s 3 = false := by simpa using hT
      refine step_call 32 (fun args w => by go_simp) _ _ e1 #[.int .i64 1] (by simp only [List.map_toArray, List.map_cons, List.map_nil]; rfl) ((bigAbs_any 1 fits_one w').mono ?_)
      rintro e w2 ⟨rfl, BB⟩
      refine ⟨_, rfl, hK _ _ ?_⟩
      rw [e2]
      have hBs : B ≤ w'.heap.size := Nat.le_trans hB0 S.below.size
      exact ⟨S.off.put (by decide) _, S.below.trans (BB.mono hBs), fun g => by rw [eval_put_ne _ _ _ _ (by decide)]; exact S.t0 (by simpa using g), fun _ => (eval_put _ _ _ (by omega)).trans rfl, fun g => by rw [eval_put_ne _ _ _ _ (by decide)]; exact S.t2 (by simpa using g), fun g => (S.o_n (by simpa using g)).below BB, fun g => (S.n_n (by simpa using g)).below BB⟩
    | 2, _, ho, hsi, hT =>
      obtain ⟨e1, e2⟩ := pick_of h2 ho
      simp only [Bool.and_eq_true, Bool.not_eq_true'] at hT
      obtain ⟨⟨D0, D1⟩, N3⟩ := hT
      refine step_call 37 (fun args w => by go_simp) _ _ e1 #[Big (n), Big 1] (by simp only [List.map_toArray, List.map_cons, List.map_nil, S.t0 D0, S.t1 D1]) ((bigAdd_any n 1 w').mono ?_)
      rintro e w2 ⟨rfl, BB⟩
      refine ⟨_, rfl, hK _ _ ?_⟩
      rw [e2]
      have hBs : B ≤ w'.heap.size := Nat.le_trans hB0 S.below.size
      exact ⟨S.off.put (by decide) _, S.below.trans (BB.mono hBs), fun g => by rw [eval_put_ne _ _ _ _ (by decide)]; exact S.t0 (by simpa using g), fun g => by rw [eval_put_ne _ _ _ _ (by decide)]; exact S.t1 (by simpa using g), fun _ => (eval_put _ _ _ (by omega)).trans rfl, fun g => (S.o_n (by simpa using g)).below BB, fun g => (S.n_n (by simpa using g)).below BB⟩
    | 3, _, ho, hsi, hT =>
      obtain ⟨e1, e2⟩ := pick_of h3 ho
      simp only [Bool.and_eq_true] at hT
      obtain ⟨⟨D0, D1⟩, D2⟩ := hT
      refine step_store (.tmp 9) (.tmp 36) e1 (b := b_n) (f := BigM.dg (n + 1)) (by rw [S.off.eval (by decide)]; exact x_n) (S.t2 D2) (S.o_n hsi) (hK _ _ ?_)
      rw [e2]
      exact ⟨S.off, below_setRow S.below B_n _, fun g => S.t0 (by simpa using g), fun g => S.t1 (by simpa using g), fun g => S.t2 (by simpa using g), fun g => absurd g (by simp), fun _ => (S.o_n hsi).setRow⟩
  · intro s a w' S hall
    have a0 := hall 0 (by omega)
    have a1 := hall 1 (by omega)
    have a2 := hall 2 (by omega)
    have a3 := hall 3 (by omega)
    have e := off_norm _ (by intro d hd; simp at hd; omega) S.off
    simp only [List.foldl, S.t0 a0, S.t1 a1, S.t2 a2] at e
    rw [e]
    exact h _ S.below (S.n_n a3)
structure near_negAt (n : Nat) (b_n B : Nat) (A : Act) (w0 : World) (s : Nat → Bool) (a : Act) (w : World) : Prop where
  off : Off [6, 7, 37, 38, 39, 40] a A
  below : Below B w0 w
  t0 : s 0 = true → a.eval (.tmp 37) = Big (n)
  t1 : s 1 = true → a.eval (.tmp 38) = .tuple #[.int .i64 (Fix.sgnV (n) true), .int .i64 (Fix.sgnE (n) true)]
  t2 : s 2 = true → a.eval (.tmp 39) = .int .i64 (Fix.sgnV (n) true)
  t3 : s 3 = true → a.eval (.tmp 40) = .int .i64 (Fix.sgnE (n) true)
  t4 : s 4 = true → a.eval (.tmp 6) = .int .i64 (Fix.sgnV (n) true)
  t5 : s 5 = true → a.eval (.tmp 7) = .int .i64 (Fix.sgnE (n) true)
  o_n : Row w b_n (BigM.dg (n))

set_option maxHeartbeats 2000000 in
theorem near_neg {id : Nat} {d : Bool} {l : List Oper} {A : Act} {w : World} {Q : Exit → Act → World → Prop} (n : Nat) (hstrue : n < 65536 ^ 17) {b_n B : Nat}
    (hB : tableD d l.toArray (fun s i => match i with | 0 => true | 1 => s 0 | 2 => s 1 | 3 => s 1 | 4 => s 2 | 5 => s 3 | _ => true) = true) (hl : l.length = 6)
    (h0 : pick l 0 = some (.load 47 (.tmp 9), some 37))
    (h1 : pick l 1 = some (.call { callee := .value (.func 34), args := #[.const (.bool true), .tmp 37], argTypes := #[4, 47] }, some 38))
    (h2 : pick l 2 = some (.extract (.tmp 38) 0, some 39))
    (h3 : pick l 3 = some (.extract (.tmp 38) 1, some 40))
    (h4 : pick l 4 = some (.assign (.tmp 39), some 6))
    (h5 : pick l 5 = some (.assign (.tmp 40), some 7))
    (hs : A.tmps.size = 51) (hB0 : B ≤ w.heap.size)
    (x_n : A.eval (.tmp 9) = ptr b_n) (R_n : Row w b_n (BigM.dg (n)))
    (h : ∀ w', Below B w w' → Row w' b_n (BigM.dg (n)) → Q .normal ((((((A.put (some 6) (.int .i64 (Fix.sgnV (n) true))).put (some 7) (.int .i64 (Fix.sgnE (n) true))).put (some 37) (Big (n))).put (some 38) (.tuple #[.int .i64 (Fix.sgnV (n) true), .int .i64 (Fix.sgnE (n) true)])).put (some 39) (.int .i64 (Fix.sgnV (n) true))).put (some 40) (.int .i64 (Fix.sgnE (n) true))) w') :
    (Code.region id l.toArray d).wp Tryd.prog Q A w := by
  refine wp_region_invD (by kernel_rfl) _ hB (near_negAt n b_n B A w) ⟨Off.refl _ _, Below.refl _ _, by simp, by simp, by simp, by simp, by simp, by simp, R_n⟩ ⟨Off.refl _ _, (Below.refl _ _).drew, by simp, by simp, by simp, by simp, by simp, by simp, R_n⟩ ?_ ?_
  · intro s a w' S i o ho hsi hT K hK
    have sz : a.tmps.size = 51 := by rw [S.off.2.1]; exact hs
    have il : i < 6 := by have := (List.getElem?_eq_some_iff.1 ho).1; omega
    match i, il, ho, hsi, hT with
    | 0, _, ho, hsi, hT =>
      obtain ⟨e1, e2⟩ := pick_of h0 ho
      refine step_load (.tmp 9) e1 (b := b_n) (f := BigM.dg (n)) (by rw [S.off.eval (by decide)]; exact x_n) S.o_n (hK _ _ ?_)
      rw [e2]
      exact ⟨S.off.put (by decide) _, S.below, fun _ => (eval_put _ _ _ (by omega)).trans rfl, fun g => by rw [eval_put_ne _ _ _ _ (by decide)]; exact S.t1 (by simpa using g), fun g => by rw [eval_put_ne _ _ _ _ (by decide)]; exact S.t2 (by simpa using g), fun g => by rw [eval_put_ne _ _ _ _ (by decide)]; exact S.t3 (by simpa using g), fun g => by rw [eval_put_ne _ _ _ _ (by decide)]; exact S.t4 (by simpa using g), fun g => by rw [eval_put_ne _ _ _ _ (by decide)]; exact S.t5 (by simpa using g), S.o_n⟩
    | 1, _, ho, hsi, hT =>
      obtain ⟨e1, e2⟩ := pick_of h1 ho
      have D0 := hT
      refine step_call 34 (fun args w => by go_simp) _ _ e1 #[.bool true, Big (n)] (by simp only [List.map_toArray, List.map_cons, List.map_nil, S.t0 D0, show ∀ v, a.eval (.const v) = v from fun _ => rfl]) ((bigSigned_any true (n) hstrue w').mono ?_)
      rintro e w2 ⟨rfl, BB⟩
      refine ⟨_, rfl, hK _ _ ?_⟩
      rw [e2]
      have hBs : B ≤ w'.heap.size := Nat.le_trans hB0 S.below.size
      exact ⟨S.off.put (by decide) _, S.below.trans (BB.mono hBs), fun g => by rw [eval_put_ne _ _ _ _ (by decide)]; exact S.t0 (by simpa using g), fun _ => (eval_put _ _ _ (by omega)).trans rfl, fun g => by rw [eval_put_ne _ _ _ _ (by decide)]; exact S.t2 (by simpa using g), fun g => by rw [eval_put_ne _ _ _ _ (by decide)]; exact S.t3 (by simpa using g), fun g => by rw [eval_put_ne _ _ _ _ (by decide)]; exact S.t4 (by simpa using g), fun g => by rw [eval_put_ne _ _ _ _ (by decide)]; exact S.t5 (by simpa using g), (S.o_n).below BB⟩
    | 2, _, ho, hsi, hT =>
      obtain ⟨e1, e2⟩ := pick_of h2 ho
      have D1 := hT
      refine step_val (v := .int .i64 (Fix.sgnV (n) true)) (by simp only [execOp, e1, S.t1 D1]; go_simp) (hK _ _ ?_)
      rw [e2]
      exact ⟨S.off.put (by decide) _, S.below, fun g => by rw [eval_put_ne _ _ _ _ (by decide)]; exact S.t0 (by simpa using g), fun g => by rw [eval_put_ne _ _ _ _ (by decide)]; exact S.t1 (by simpa using g), fun _ => (eval_put _ _ _ (by omega)).trans rfl, fun g => by rw [eval_put_ne _ _ _ _ (by decide)]; exact S.t3 (by simpa using g), fun g => by rw [eval_put_ne _ _ _ _ (by decide)]; exact S.t4 (by simpa using g), fun g => by rw [eval_put_ne _ _ _ _ (by decide)]; exact S.t5 (by simpa using g), S.o_n⟩
    | 3, _, ho, hsi, hT =>
      obtain ⟨e1, e2⟩ := pick_of h3 ho
      have D1 := hT
      refine step_val (v := .int .i64 (Fix.sgnE (n) true)) (by simp only [execOp, e1, S.t1 D1]; go_simp) (hK _ _ ?_)
      rw [e2]
      exact ⟨S.off.put (by decide) _, S.below, fun g => by rw [eval_put_ne _ _ _ _ (by decide)]; exact S.t0 (by simpa using g), fun g => by rw [eval_put_ne _ _ _ _ (by decide)]; exact S.t1 (by simpa using g), fun g => by rw [eval_put_ne _ _ _ _ (by decide)]; exact S.t2 (by simpa using g), fun _ => (eval_put _ _ _ (by omega)).trans rfl, fun g => by rw [eval_put_ne _ _ _ _ (by decide)]; exact S.t4 (by simpa using g), fun g => by rw [eval_put_ne _ _ _ _ (by decide)]; exact S.t5 (by simpa using g), S.o_n⟩
    | 4, _, ho, hsi, hT =>
      obtain ⟨e1, e2⟩ := pick_of h4 ho
      have D2 := hT
      refine step_val (v := .int .i64 (Fix.sgnV (n) true)) (by simp only [execOp, e1, S.t2 D2]; go_simp) (hK _ _ ?_)
      rw [e2]
      exact ⟨S.off.put (by decide) _, S.below, fun g => by rw [eval_put_ne _ _ _ _ (by decide)]; exact S.t0 (by simpa using g), fun g => by rw [eval_put_ne _ _ _ _ (by decide)]; exact S.t1 (by simpa using g), fun g => by rw [eval_put_ne _ _ _ _ (by decide)]; exact S.t2 (by simpa using g), fun g => by rw [eval_put_ne _ _ _ _ (by decide)]; exact S.t3 (by simpa using g), fun _ => (eval_put _ _ _ (by omega)).trans rfl, fun g => by rw [eval_put_ne _ _ _ _ (by decide)]; exact S.t5 (by simpa using g), S.o_n⟩
    | 5, _, ho, hsi, hT =>
      obtain ⟨e1, e2⟩ := pick_of h5 ho
      have D3 := hT
      refine step_val (v := .int .i64 (Fix.sgnE (n) true)) (by simp only [execOp, e1, S.t3 D3]; go_simp) (hK _ _ ?_)
      rw [e2]
      exact ⟨S.off.put (by decide) _, S.below, fun g => by rw [eval_put_ne _ _ _ _ (by decide)]; exact S.t0 (by simpa using g), fun g => by rw [eval_put_ne _ _ _ _ (by decide)]; exact S.t1 (by simpa using g), fun g => by rw [eval_put_ne _ _ _ _ (by decide)]; exact S.t2 (by simpa using g), fun g => by rw [eval_put_ne _ _ _ _ (by decide)]; exact S.t3 (by simpa using g), fun g => by rw [eval_put_ne _ _ _ _ (by decide)]; exact S.t4 (by simpa using g), fun _ => (eval_put _ _ _ (by omega)).trans rfl, S.o_n⟩
  · intro s a w' S hall
    have a0 := hall 0 (by omega)
    have a1 := hall 1 (by omega)
    have a2 := hall 2 (by omega)
    have a3 := hall 3 (by omega)
    have a4 := hall 4 (by omega)
    have a5 := hall 5 (by omega)
    have e := off_norm _ (by intro d hd; simp at hd; omega) S.off
    simp only [List.foldl, S.t0 a0, S.t1 a1, S.t2 a2, S.t3 a3, S.t4 a4, S.t5 a5] at e
    rw [e]
    exact h _ S.below S.o_n
structure near_posAt (c tw : Nat) (b_c b_t B : Nat) (A : Act) (w0 : World) (s : Nat → Bool) (a : Act) (w : World) : Prop where
  off : Off [6, 7, 41, 42, 43, 44, 45, 46, 47, 48, 49, 50] a A
  below : Below B w0 w
  t0 : s 0 = true → a.eval (.tmp 41) = Big (tw)
  t1 : s 1 = true → a.eval (.tmp 42) = Big (c)
  t2 : s 2 = true → a.eval (.tmp 43) = Big (tw + c)
  t3 : s 3 = true → a.eval (.tmp 44) = Big (c)
  t4 : s 4 = true → a.eval (.tmp 45) = Big (c)
  t5 : s 5 = true → a.eval (.tmp 46) = Big (c + c)
  t6 : s 6 = true → a.eval (.tmp 47) = Big ((tw + c) / (c + c))
  t7 : s 7 = true → a.eval (.tmp 48) = .tuple #[.int .i64 (Fix.sgnV ((tw + c) / (c + c)) false), .int .i64 (Fix.sgnE ((tw + c) / (c + c)) false)]
  t8 : s 8 = true → a.eval (.tmp 49) = .int .i64 (Fix.sgnV ((tw + c) / (c + c)) false)
  t9 : s 9 = true → a.eval (.tmp 50) = .int .i64 (Fix.sgnE ((tw + c) / (c + c)) false)
  t10 : s 10 = true → a.eval (.tmp 6) = .int .i64 (Fix.sgnV ((tw + c) / (c + c)) false)
  t11 : s 11 = true → a.eval (.tmp 7) = .int .i64 (Fix.sgnE ((tw + c) / (c + c)) false)
  o_c : Row w b_c (BigM.dg (c))
  o_t : Row w b_t (BigM.dg (tw))

set_option maxHeartbeats 2000000 in
theorem near_pos {id : Nat} {d : Bool} {l : List Oper} {A : Act} {w : World} {Q : Exit → Act → World → Prop} (c tw : Nat) (hqx : (tw + c) * 2 < 65536 ^ 17) (hqz : 0 < c + c) (hqy : c + c < 65536 ^ 17) (hsfalse : (tw + c) / (c + c) < 65536 ^ 17) {b_c b_t B : Nat}
    (hB : tableD d l.toArray (fun s i => match i with | 0 => true | 1 => true | 2 => s 0 && s 1 | 3 => true | 4 => true | 5 => s 3 && s 4 | 6 => s 2 && s 5 | 7 => s 6 | 8 => s 7 | 9 => s 7 | 10 => s 8 | 11 => s 9 | _ => true) = true) (hl : l.length = 12)
    (h0 : pick l 0 = some (.load 47 (.tmp 8), some 41))
    (h1 : pick l 1 = some (.load 47 (.tmp 5), some 42))
    (h2 : pick l 2 = some (.call { callee := .value (.func 37), args := #[.tmp 41, .tmp 42], argTypes := #[47, 47] }, some 43))
    (h3 : pick l 3 = some (.load 47 (.tmp 5), some 44))
    (h4 : pick l 4 = some (.load 47 (.tmp 5), some 45))
    (h5 : pick l 5 = some (.call { callee := .value (.func 37), args := #[.tmp 44, .tmp 45], argTypes := #[47, 47] }, some 46))
    (h6 : pick l 6 = some (.call { callee := .value (.func 46), args := #[.tmp 43, .tmp 46], argTypes := #[47, 47] }, some 47))
    (h7 : pick l 7 = some (.call { callee := .value (.func 34), args := #[.const (.bool false), .tmp 47], argTypes := #[4, 47] }, some 48))
    (h8 : pick l 8 = some (.extract (.tmp 48) 0, some 49))
    (h9 : pick l 9 = some (.extract (.tmp 48) 1, some 50))
    (h10 : pick l 10 = some (.assign (.tmp 49), some 6))
    (h11 : pick l 11 = some (.assign (.tmp 50), some 7))
    (hs : A.tmps.size = 51) (hB0 : B ≤ w.heap.size)
    (x_c : A.eval (.tmp 5) = ptr b_c) (R_c : Row w b_c (BigM.dg (c)))
    (x_t : A.eval (.tmp 8) = ptr b_t) (R_t : Row w b_t (BigM.dg (tw)))
    (h : ∀ w', Below B w w' → Row w' b_c (BigM.dg (c)) → Row w' b_t (BigM.dg (tw)) → Q .normal ((((((((((((A.put (some 6) (.int .i64 (Fix.sgnV ((tw + c) / (c + c)) false))).put (some 7) (.int .i64 (Fix.sgnE ((tw + c) / (c + c)) false))).put (some 41) (Big (tw))).put (some 42) (Big (c))).put (some 43) (Big (tw + c))).put (some 44) (Big (c))).put (some 45) (Big (c))).put (some 46) (Big (c + c))).put (some 47) (Big ((tw + c) / (c + c)))).put (some 48) (.tuple #[.int .i64 (Fix.sgnV ((tw + c) / (c + c)) false), .int .i64 (Fix.sgnE ((tw + c) / (c + c)) false)])).put (some 49) (.int .i64 (Fix.sgnV ((tw + c) / (c + c)) false))).put (some 50) (.int .i64 (Fix.sgnE ((tw + c) / (c + c)) false))) w') :
    (Code.region id l.toArray d).wp Tryd.prog Q A w := by
  refine wp_region_invD (by kernel_rfl) _ hB (near_posAt c tw b_c b_t B A w) ⟨Off.refl _ _, Below.refl _ _, by simp, by simp, by simp, by simp, by simp, by simp, by simp, by simp, by simp, by simp, by simp, by simp, R_c, R_t⟩ ⟨Off.refl _ _, (Below.refl _ _).drew, by simp, by simp, by simp, by simp, by simp, by simp, by simp, by simp, by simp, by simp, by simp, by simp, R_c, R_t⟩ ?_ ?_
  · intro s a w' S i o ho hsi hT K hK
    have sz : a.tmps.size = 51 := by rw [S.off.2.1]; exact hs
    have il : i < 12 := by have := (List.getElem?_eq_some_iff.1 ho).1; omega
    match i, il, ho, hsi, hT with
    | 0, _, ho, hsi, hT =>
      obtain ⟨e1, e2⟩ := pick_of h0 ho
      refine step_load (.tmp 8) e1 (b := b_t) (f := BigM.dg (tw)) (by rw [S.off.eval (by decide)]; exact x_t) S.o_t (hK _ _ ?_)
      rw [e2]
      exact ⟨S.off.put (by decide) _, S.below, fun _ => (eval_put _ _ _ (by omega)).trans rfl, fun g => by rw [eval_put_ne _ _ _ _ (by decide)]; exact S.t1 (by simpa using g), fun g => by rw [eval_put_ne _ _ _ _ (by decide)]; exact S.t2 (by simpa using g), fun g => by rw [eval_put_ne _ _ _ _ (by decide)]; exact S.t3 (by simpa using g), fun g => by rw [eval_put_ne _ _ _ _ (by decide)]; exact S.t4 (by simpa using g), fun g => by rw [eval_put_ne _ _ _ _ (by decide)]; exact S.t5 (by simpa using g), fun g => by rw [eval_put_ne _ _ _ _ (by decide)]; exact S.t6 (by simpa using g), fun g => by rw [eval_put_ne _ _ _ _ (by decide)]; exact S.t7 (by simpa using g), fun g => by rw [eval_put_ne _ _ _ _ (by decide)]; exact S.t8 (by simpa using g), fun g => by rw [eval_put_ne _ _ _ _ (by decide)]; exact S.t9 (by simpa using g), fun g => by rw [eval_put_ne _ _ _ _ (by decide)]; exact S.t10 (by simpa using g), fun g => by rw [eval_put_ne _ _ _ _ (by decide)]; exact S.t11 (by simpa using g), S.o_c, S.o_t⟩
    | 1, _, ho, hsi, hT =>
      obtain ⟨e1, e2⟩ := pick_of h1 ho
      refine step_load (.tmp 5) e1 (b := b_c) (f := BigM.dg (c)) (by rw [S.off.eval (by decide)]; exact x_c) S.o_c (hK _ _ ?_)
      rw [e2]
      exact ⟨S.off.put (by decide) _, S.below, fun g => by rw [eval_put_ne _ _ _ _ (by decide)]; exact S.t0 (by simpa using g), fun _ => (eval_put _ _ _ (by omega)).trans rfl, fun g => by rw [eval_put_ne _ _ _ _ (by decide)]; exact S.t2 (by simpa using g), fun g => by rw [eval_put_ne _ _ _ _ (by decide)]; exact S.t3 (by simpa using g), fun g => by rw [eval_put_ne _ _ _ _ (by decide)]; exact S.t4 (by simpa using g), fun g => by rw [eval_put_ne _ _ _ _ (by decide)]; exact S.t5 (by simpa using g), fun g => by rw [eval_put_ne _ _ _ _ (by decide)]; exact S.t6 (by simpa using g), fun g => by rw [eval_put_ne _ _ _ _ (by decide)]; exact S.t7 (by simpa using g), fun g => by rw [eval_put_ne _ _ _ _ (by decide)]; exact S.t8 (by simpa using g), fun g => by rw [eval_put_ne _ _ _ _ (by decide)]; exact S.t9 (by simpa using g), fun g => by rw [eval_put_ne _ _ _ _ (by decide)]; exact S.t10 (by simpa using g), fun g => by rw [eval_put_ne _ _ _ _ (by decide)]; exact S.t11 (by simpa using g), S.o_c, S.o_t⟩
    | 2, _, ho, hsi, hT =>
      obtain ⟨e1, e2⟩ := pick_of h2 ho
      simp only [Bool.and_eq_true] at hT
      obtain ⟨D0, D1⟩ := hT
      refine step_call 37 (fun args w => by go_simp) _ _ e1 #[Big (tw), Big (c)] (by simp only [List.map_toArray, List.map_cons, List.map_nil, S.t0 D0, S.t1 D1]) ((bigAdd_any tw c w').mono ?_)
      rintro e w2 ⟨rfl, BB⟩
      refine ⟨_, rfl, hK _ _ ?_⟩
      rw [e2]
      have hBs : B ≤ w'.heap.size := Nat.le_trans hB0 S.below.size
      exact ⟨S.off.put (by decide) _, S.below.trans (BB.mono hBs), fun g => by rw [eval_put_ne _ _ _ _ (by decide)]; exact S.t0 (by simpa using g), fun g => by rw [eval_put_ne _ _ _ _ (by decide)]; exact S.t1 (by simpa using g), fun _ => (eval_put _ _ _ (by omega)).trans rfl, fun g => by rw [eval_put_ne _ _ _ _ (by decide)]; exact S.t3 (by simpa using g), fun g => by rw [eval_put_ne _ _ _ _ (by decide)]; exact S.t4 (by simpa using g), fun g => by rw [eval_put_ne _ _ _ _ (by decide)]; exact S.t5 (by simpa using g), fun g => by rw [eval_put_ne _ _ _ _ (by decide)]; exact S.t6 (by simpa using g), fun g => by rw [eval_put_ne _ _ _ _ (by decide)]; exact S.t7 (by simpa using g), fun g => by rw [eval_put_ne _ _ _ _ (by decide)]; exact S.t8 (by simpa using g), fun g => by rw [eval_put_ne _ _ _ _ (by decide)]; exact S.t9 (by simpa using g), fun g => by rw [eval_put_ne _ _ _ _ (by decide)]; exact S.t10 (by simpa using g), fun g => by rw [eval_put_ne _ _ _ _ (by decide)]; exact S.t11 (by simpa using g), (S.o_c).below BB, (S.o_t).below BB⟩
    | 3, _, ho, hsi, hT =>
      obtain ⟨e1, e2⟩ := pick_of h3 ho
      refine step_load (.tmp 5) e1 (b := b_c) (f := BigM.dg (c)) (by rw [S.off.eval (by decide)]; exact x_c) S.o_c (hK _ _ ?_)
      rw [e2]
      exact ⟨S.off.put (by decide) _, S.below, fun g => by rw [eval_put_ne _ _ _ _ (by decide)]; exact S.t0 (by simpa using g), fun g => by rw [eval_put_ne _ _ _ _ (by decide)]; exact S.t1 (by simpa using g), fun g => by rw [eval_put_ne _ _ _ _ (by decide)]; exact S.t2 (by simpa using g), fun _ => (eval_put _ _ _ (by omega)).trans rfl, fun g => by rw [eval_put_ne _ _ _ _ (by decide)]; exact S.t4 (by simpa using g), fun g => by rw [eval_put_ne _ _ _ _ (by decide)]; exact S.t5 (by simpa using g), fun g => by rw [eval_put_ne _ _ _ _ (by decide)]; exact S.t6 (by simpa using g), fun g => by rw [eval_put_ne _ _ _ _ (by decide)]; exact S.t7 (by simpa using g), fun g => by rw [eval_put_ne _ _ _ _ (by decide)]; exact S.t8 (by simpa using g), fun g => by rw [eval_put_ne _ _ _ _ (by decide)]; exact S.t9 (by simpa using g), fun g => by rw [eval_put_ne _ _ _ _ (by decide)]; exact S.t10 (by simpa using g), fun g => by rw [eval_put_ne _ _ _ _ (by decide)]; exact S.t11 (by simpa using g), S.o_c, S.o_t⟩
    | 4, _, ho, hsi, hT =>
      obtain ⟨e1, e2⟩ := pick_of h4 ho
      refine step_load (.tmp 5) e1 (b := b_c) (f := BigM.dg (c)) (by rw [S.off.eval (by decide)]; exact x_c) S.o_c (hK _ _ ?_)
      rw [e2]
      exact ⟨S.off.put (by decide) _, S.below, fun g => by rw [eval_put_ne _ _ _ _ (by decide)]; exact S.t0 (by simpa using g), fun g => by rw [eval_put_ne _ _ _ _ (by decide)]; exact S.t1 (by simpa using g), fun g => by rw [eval_put_ne _ _ _ _ (by decide)]; exact S.t2 (by simpa using g), fun g => by rw [eval_put_ne _ _ _ _ (by decide)]; exact S.t3 (by simpa using g), fun _ => (eval_put _ _ _ (by omega)).trans rfl, fun g => by rw [eval_put_ne _ _ _ _ (by decide)]; exact S.t5 (by simpa using g), fun g => by rw [eval_put_ne _ _ _ _ (by decide)]; exact S.t6 (by simpa using g), fun g => by rw [eval_put_ne _ _ _ _ (by decide)]; exact S.t7 (by simpa using g), fun g => by rw [eval_put_ne _ _ _ _ (by decide)]; exact S.t8 (by simpa using g), fun g => by rw [eval_put_ne _ _ _ _ (by decide)]; exact S.t9 (by simpa using g), fun g => by rw [eval_put_ne _ _ _ _ (by decide)]; exact S.t10 (by simpa using g), fun g => by rw [eval_put_ne _ _ _ _ (by decide)]; exact S.t11 (by simpa using g), S.o_c, S.o_t⟩
    | 5, _, ho, hsi, hT =>
      obtain ⟨e1, e2⟩ := pick_of h5 ho
      simp only [Bool.and_eq_true] at hT
      obtain ⟨D3, D4⟩ := hT
      refine step_call 37 (fun args w => by go_simp) _ _ e1 #[Big (c), Big (c)] (by simp only [List.map_toArray, List.map_cons, List.map_nil, S.t3 D3, S.t4 D4]) ((bigAdd_any c c w').mono ?_)
      rintro e w2 ⟨rfl, BB⟩
      refine ⟨_, rfl, hK _ _ ?_⟩
      rw [e2]
      have hBs : B ≤ w'.heap.size := Nat.le_trans hB0 S.below.size
      exact ⟨S.off.put (by decide) _, S.below.trans (BB.mono hBs), fun g => by rw [eval_put_ne _ _ _ _ (by decide)]; exact S.t0 (by simpa using g), fun g => by rw [eval_put_ne _ _ _ _ (by decide)]; exact S.t1 (by simpa using g), fun g => by rw [eval_put_ne _ _ _ _ (by decide)]; exact S.t2 (by simpa using g), fun g => by rw [eval_put_ne _ _ _ _ (by decide)]; exact S.t3 (by simpa using g), fun g => by rw [eval_put_ne _ _ _ _ (by decide)]; exact S.t4 (by simpa using g), fun _ => (eval_put _ _ _ (by omega)).trans rfl, fun g => by rw [eval_put_ne _ _ _ _ (by decide)]; exact S.t6 (by simpa using g), fun g => by rw [eval_put_ne _ _ _ _ (by decide)]; exact S.t7 (by simpa using g), fun g => by rw [eval_put_ne _ _ _ _ (by decide)]; exact S.t8 (by simpa using g), fun g => by rw [eval_put_ne _ _ _ _ (by decide)]; exact S.t9 (by simpa using g), fun g => by rw [eval_put_ne _ _ _ _ (by decide)]; exact S.t10 (by simpa using g), fun g => by rw [eval_put_ne _ _ _ _ (by decide)]; exact S.t11 (by simpa using g), (S.o_c).below BB, (S.o_t).below BB⟩
    | 6, _, ho, hsi, hT =>
      obtain ⟨e1, e2⟩ := pick_of h6 ho
      simp only [Bool.and_eq_true] at hT
      obtain ⟨D2, D5⟩ := hT
      refine step_call 46 (fun args w => by go_simp) _ _ e1 #[Big (tw + c), Big (c + c)] (by simp only [List.map_toArray, List.map_cons, List.map_nil, S.t2 D2, S.t5 D5]) ((bigQuotient_any (tw + c) (c + c) hqx hqz hqy w').mono ?_)
      rintro e w2 ⟨rfl, BB⟩
      refine ⟨_, rfl, hK _ _ ?_⟩
      rw [e2]
      have hBs : B ≤ w'.heap.size := Nat.le_trans hB0 S.below.size
      exact ⟨S.off.put (by decide) _, S.below.trans (BB.mono hBs), fun g => by rw [eval_put_ne _ _ _ _ (by decide)]; exact S.t0 (by simpa using g), fun g => by rw [eval_put_ne _ _ _ _ (by decide)]; exact S.t1 (by simpa using g), fun g => by rw [eval_put_ne _ _ _ _ (by decide)]; exact S.t2 (by simpa using g), fun g => by rw [eval_put_ne _ _ _ _ (by decide)]; exact S.t3 (by simpa using g), fun g => by rw [eval_put_ne _ _ _ _ (by decide)]; exact S.t4 (by simpa using g), fun g => by rw [eval_put_ne _ _ _ _ (by decide)]; exact S.t5 (by simpa using g), fun _ => (eval_put _ _ _ (by omega)).trans rfl, fun g => by rw [eval_put_ne _ _ _ _ (by decide)]; exact S.t7 (by simpa using g), fun g => by rw [eval_put_ne _ _ _ _ (by decide)]; exact S.t8 (by simpa using g), fun g => by rw [eval_put_ne _ _ _ _ (by decide)]; exact S.t9 (by simpa using g), fun g => by rw [eval_put_ne _ _ _ _ (by decide)]; exact S.t10 (by simpa using g), fun g => by rw [eval_put_ne _ _ _ _ (by decide)]; exact S.t11 (by simpa using g), (S.o_c).below BB, (S.o_t).below BB⟩
    | 7, _, ho, hsi, hT =>
      obtain ⟨e1, e2⟩ := pick_of h7 ho
      have D6 := hT
      refine step_call 34 (fun args w => by go_simp) _ _ e1 #[.bool false, Big ((tw + c) / (c + c))] (by simp only [List.map_toArray, List.map_cons, List.map_nil, S.t6 D6, show ∀ v, a.eval (.const v) = v from fun _ => rfl]) ((bigSigned_any false ((tw + c) / (c + c)) hsfalse w').mono ?_)
      rintro e w2 ⟨rfl, BB⟩
      refine ⟨_, rfl, hK _ _ ?_⟩
      rw [e2]
      have hBs : B ≤ w'.heap.size := Nat.le_trans hB0 S.below.size
      exact ⟨S.off.put (by decide) _, S.below.trans (BB.mono hBs), fun g => by rw [eval_put_ne _ _ _ _ (by decide)]; exact S.t0 (by simpa using g), fun g => by rw [eval_put_ne _ _ _ _ (by decide)]; exact S.t1 (by simpa using g), fun g => by rw [eval_put_ne _ _ _ _ (by decide)]; exact S.t2 (by simpa using g), fun g => by rw [eval_put_ne _ _ _ _ (by decide)]; exact S.t3 (by simpa using g), fun g => by rw [eval_put_ne _ _ _ _ (by decide)]; exact S.t4 (by simpa using g), fun g => by rw [eval_put_ne _ _ _ _ (by decide)]; exact S.t5 (by simpa using g), fun g => by rw [eval_put_ne _ _ _ _ (by decide)]; exact S.t6 (by simpa using g), fun _ => (eval_put _ _ _ (by omega)).trans rfl, fun g => by rw [eval_put_ne _ _ _ _ (by decide)]; exact S.t8 (by simpa using g), fun g => by rw [eval_put_ne _ _ _ _ (by decide)]; exact S.t9 (by simpa using g), fun g => by rw [eval_put_ne _ _ _ _ (by decide)]; exact S.t10 (by simpa using g), fun g => by rw [eval_put_ne _ _ _ _ (by decide)]; exact S.t11 (by simpa using g), (S.o_c).below BB, (S.o_t).below BB⟩
    | 8, _, ho, hsi, hT =>
      obtain ⟨e1, e2⟩ := pick_of h8 ho
      have D7 := hT
      refine step_val (v := .int .i64 (Fix.sgnV ((tw + c) / (c + c)) false)) (by simp only [execOp, e1, S.t7 D7]; go_simp) (hK _ _ ?_)
      rw [e2]
      exact ⟨S.off.put (by decide) _, S.below, fun g => by rw [eval_put_ne _ _ _ _ (by decide)]; exact S.t0 (by simpa using g), fun g => by rw [eval_put_ne _ _ _ _ (by decide)]; exact S.t1 (by simpa using g), fun g => by rw [eval_put_ne _ _ _ _ (by decide)]; exact S.t2 (by simpa using g), fun g => by rw [eval_put_ne _ _ _ _ (by decide)]; exact S.t3 (by simpa using g), fun g => by rw [eval_put_ne _ _ _ _ (by decide)]; exact S.t4 (by simpa using g), fun g => by rw [eval_put_ne _ _ _ _ (by decide)]; exact S.t5 (by simpa using g), fun g => by rw [eval_put_ne _ _ _ _ (by decide)]; exact S.t6 (by simpa using g), fun g => by rw [eval_put_ne _ _ _ _ (by decide)]; exact S.t7 (by simpa using g), fun _ => (eval_put _ _ _ (by omega)).trans rfl, fun g => by rw [eval_put_ne _ _ _ _ (by decide)]; exact S.t9 (by simpa using g), fun g => by rw [eval_put_ne _ _ _ _ (by decide)]; exact S.t10 (by simpa using g), fun g => by rw [eval_put_ne _ _ _ _ (by decide)]; exact S.t11 (by simpa using g), S.o_c, S.o_t⟩
    | 9, _, ho, hsi, hT =>
      obtain ⟨e1, e2⟩ := pick_of h9 ho
      have D7 := hT
      refine step_val (v := .int .i64 (Fix.sgnE ((tw + c) / (c + c)) false)) (by simp only [execOp, e1, S.t7 D7]; go_simp) (hK _ _ ?_)
      rw [e2]
      exact ⟨S.off.put (by decide) _, S.below, fun g => by rw [eval_put_ne _ _ _ _ (by decide)]; exact S.t0 (by simpa using g), fun g => by rw [eval_put_ne _ _ _ _ (by decide)]; exact S.t1 (by simpa using g), fun g => by rw [eval_put_ne _ _ _ _ (by decide)]; exact S.t2 (by simpa using g), fun g => by rw [eval_put_ne _ _ _ _ (by decide)]; exact S.t3 (by simpa using g), fun g => by rw [eval_put_ne _ _ _ _ (by decide)]; exact S.t4 (by simpa using g), fun g => by rw [eval_put_ne _ _ _ _ (by decide)]; exact S.t5 (by simpa using g), fun g => by rw [eval_put_ne _ _ _ _ (by decide)]; exact S.t6 (by simpa using g), fun g => by rw [eval_put_ne _ _ _ _ (by decide)]; exact S.t7 (by simpa using g), fun g => by rw [eval_put_ne _ _ _ _ (by decide)]; exact S.t8 (by simpa using g), fun _ => (eval_put _ _ _ (by omega)).trans rfl, fun g => by rw [eval_put_ne _ _ _ _ (by decide)]; exact S.t10 (by simpa using g), fun g => by rw [eval_put_ne _ _ _ _ (by decide)]; exact S.t11 (by simpa using g), S.o_c, S.o_t⟩
    | 10, _, ho, hsi, hT =>
      obtain ⟨e1, e2⟩ := pick_of h10 ho
      have D8 := hT
      refine step_val (v := .int .i64 (Fix.sgnV ((tw + c) / (c + c)) false)) (by simp only [execOp, e1, S.t8 D8]; go_simp) (hK _ _ ?_)
      rw [e2]
      exact ⟨S.off.put (by decide) _, S.below, fun g => by rw [eval_put_ne _ _ _ _ (by decide)]; exact S.t0 (by simpa using g), fun g => by rw [eval_put_ne _ _ _ _ (by decide)]; exact S.t1 (by simpa using g), fun g => by rw [eval_put_ne _ _ _ _ (by decide)]; exact S.t2 (by simpa using g), fun g => by rw [eval_put_ne _ _ _ _ (by decide)]; exact S.t3 (by simpa using g), fun g => by rw [eval_put_ne _ _ _ _ (by decide)]; exact S.t4 (by simpa using g), fun g => by rw [eval_put_ne _ _ _ _ (by decide)]; exact S.t5 (by simpa using g), fun g => by rw [eval_put_ne _ _ _ _ (by decide)]; exact S.t6 (by simpa using g), fun g => by rw [eval_put_ne _ _ _ _ (by decide)]; exact S.t7 (by simpa using g), fun g => by rw [eval_put_ne _ _ _ _ (by decide)]; exact S.t8 (by simpa using g), fun g => by rw [eval_put_ne _ _ _ _ (by decide)]; exact S.t9 (by simpa using g), fun _ => (eval_put _ _ _ (by omega)).trans rfl, fun g => by rw [eval_put_ne _ _ _ _ (by decide)]; exact S.t11 (by simpa using g), S.o_c, S.o_t⟩
    | 11, _, ho, hsi, hT =>
      obtain ⟨e1, e2⟩ := pick_of h11 ho
      have D9 := hT
      refine step_val (v := .int .i64 (Fix.sgnE ((tw + c) / (c + c)) false)) (by simp only [execOp, e1, S.t9 D9]; go_simp) (hK _ _ ?_)
      rw [e2]
      exact ⟨S.off.put (by decide) _, S.below, fun g => by rw [eval_put_ne _ _ _ _ (by decide)]; exact S.t0 (by simpa using g), fun g => by rw [eval_put_ne _ _ _ _ (by decide)]; exact S.t1 (by simpa using g), fun g => by rw [eval_put_ne _ _ _ _ (by decide)]; exact S.t2 (by simpa using g), fun g => by rw [eval_put_ne _ _ _ _ (by decide)]; exact S.t3 (by simpa using g), fun g => by rw [eval_put_ne _ _ _ _ (by decide)]; exact S.t4 (by simpa using g), fun g => by rw [eval_put_ne _ _ _ _ (by decide)]; exact S.t5 (by simpa using g), fun g => by rw [eval_put_ne _ _ _ _ (by decide)]; exact S.t6 (by simpa using g), fun g => by rw [eval_put_ne _ _ _ _ (by decide)]; exact S.t7 (by simpa using g), fun g => by rw [eval_put_ne _ _ _ _ (by decide)]; exact S.t8 (by simpa using g), fun g => by rw [eval_put_ne _ _ _ _ (by decide)]; exact S.t9 (by simpa using g), fun g => by rw [eval_put_ne _ _ _ _ (by decide)]; exact S.t10 (by simpa using g), fun _ => (eval_put _ _ _ (by omega)).trans rfl, S.o_c, S.o_t⟩
  · intro s a w' S hall
    have a0 := hall 0 (by omega)
    have a1 := hall 1 (by omega)
    have a2 := hall 2 (by omega)
    have a3 := hall 3 (by omega)
    have a4 := hall 4 (by omega)
    have a5 := hall 5 (by omega)
    have a6 := hall 6 (by omega)
    have a7 := hall 7 (by omega)
    have a8 := hall 8 (by omega)
    have a9 := hall 9 (by omega)
    have a10 := hall 10 (by omega)
    have a11 := hall 11 (by omega)
    have e := off_norm _ (by intro d hd; simp at hd; omega) S.off
    simp only [List.foldl, S.t0 a0, S.t1 a1, S.t2 a2, S.t3 a3, S.t4 a4, S.t5 a5, S.t6 a6, S.t7 a7, S.t8 a8, S.t9 a9, S.t10 a10, S.t11 a11] at e
    rw [e]
    exact h _ S.below S.o_c S.o_t
end Go.Proofs.YtlniojmjakmcjaaDoor
