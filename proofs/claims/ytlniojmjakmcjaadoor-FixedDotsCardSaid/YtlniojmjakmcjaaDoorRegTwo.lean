/- Quotient's region that draws its order and makes two blocks. -/
import Derived.Test.YtlniojmjakmcjaaDoorRegEq
namespace Go.Proofs.YtlniojmjakmcjaaDoor
open Go.RowKit
set_option linter.unusedVariables false

/-- The frames are the same but for some slots. -/
def Off (S : List Nat) (a A : Act) : Prop := a.defers = A.defers ∧ a.tmps.size = A.tmps.size ∧ ∀ k, k ∉ S → a.tmps[k]? = A.tmps[k]?
theorem Off.refl (S : List Nat) (A : Act) : Off S A A := ⟨rfl, rfl, fun _ _ => rfl⟩
theorem Off.put {S : List Nat} {a A : Act} (h : Off S a A) {d : Nat} (hd : d ∈ S) (v : Value) : Off S (a.put (some d) v) A := by
  refine ⟨h.1, by rw [size_put]; exact h.2.1, fun k hk => ?_⟩
  have : d ≠ k := fun e => hk (e ▸ hd)
  show (a.tmps.setIfInBounds d v)[k]? = _
  rw [Array.getElem?_setIfInBounds_ne this]
  exact h.2.2 k hk
theorem Off.put_none {S : List Nat} {a A : Act} (h : Off S a A) (v : Value) : Off S (a.put none v) A := h
theorem Off.eval {S : List Nat} {a A : Act} (h : Off S a A) {k : Nat} (hk : k ∉ S) : a.eval (.tmp k) = A.eval (.tmp k) := by
  simp only [Act.eval, Array.getD_eq_getD_getElem?]
  rw [h.2.2 k hk]
theorem off_norm : ∀ (S : List Nat) {a A : Act}, (∀ d ∈ S, d < A.tmps.size) → Off S a A → a = S.foldl (fun B d => B.put (some d) (a.eval (.tmp d))) A
  | [], a, A, hs, h => by
    obtain ⟨h1, h2, h3⟩ := h
    cases a; cases A
    simp only [List.foldl]
    simp only at h1 h2 h3
    subst h1
    congr 1
    exact Array.ext_getElem? (fun k => h3 k (by simp))
  | d :: S, a, A, hs, h => by
    simp only [List.foldl]
    refine off_norm S (fun e he => by rw [size_put]; exact hs e (by simp [he])) ⟨h.1, by rw [size_put]; exact h.2.1, fun k hk => ?_⟩
    by_cases e : k = d
    · subst e
      have h1 : k < A.tmps.size := hs k (by simp)
      have h2 : k < a.tmps.size := by rw [h.2.1]; exact h1
      show a.tmps[k]? = (A.tmps.setIfInBounds k _)[k]?
      rw [Array.getElem?_setIfInBounds_self_of_lt h1]
      simp [Act.eval, h2]
    · show a.tmps[k]? = (A.tmps.setIfInBounds d _)[k]?
      rw [Array.getElem?_setIfInBounds_ne (Ne.symm e)]
      exact h.2.2 k (by simp [e, hk])

def pick (l : List Oper) (i : Nat) : Option (Op × Option Tmp) := (l[i]?).map fun o => (o.op, o.dst)
theorem pick_of {l : List Oper} {i : Nat} {o : Oper} {x : Op} {d : Option Tmp} (h : pick l i = some (x, d)) (ho : l[i]? = some o) : o.op = x ∧ o.dst = d := by
  unfold pick at h
  rw [ho] at h
  simpa using h

def ptr (b : Nat) : Value := .pointer (some ⟨b, 0, none⟩)
theorem ptr_inj {b c : Nat} (h : ptr b = ptr c) : b = c := by simpa [ptr] using h

structure TwoAt (y : Nat) (A : Act) (w0 : World) (s : Nat → Bool) (a : Act) (w : World) : Prop where
  off : Off [6, 7, 8, 9] a A
  below : Below w0.heap.size w0 w
  t8 : s 0 = true → a.eval (.tmp 8) = Big y
  t9 : s 1 = true → a.eval (.tmp 9) = Big 1
  t6 : s 2 = true → ∃ p, a.eval (.tmp 6) = ptr p ∧ w0.heap.size ≤ p ∧ Row w p (if s 4 then BigM.dg y else fun _ => 0)
  t7 : s 3 = true → ∃ q, a.eval (.tmp 7) = ptr q ∧ w0.heap.size ≤ q ∧ Row w q (if s 5 then BigM.dg 1 else fun _ => 0)
  ne : s 2 = true → s 3 = true → a.eval (.tmp 6) ≠ a.eval (.tmp 7)

theorem fits_one : Fix.fits 1 := by constructor <;> decide

set_option maxHeartbeats 1000000 in
theorem quot_two {id : Nat} {l : List Oper} {A : Act} {w : World} {Q : Exit → Act → World → Prop} {y b : Nat}
    (hB : tableB l.toArray (fun s i => match i with | 4 => s 0 && s 1 && s 2 && s 3 | 5 => s 0 && s 1 && s 2 && s 3 && s 4 | _ => !s 4 && !s 5) = true)
    (hl : l.length = 6) (h0 : pick l 0 = some (.load 47 (.tmp 3), some 8))
    (h1 : pick l 1 = some (.call { callee := .value (.func 32), args := #[.const (.int .i64 1)], argTypes := #[2] }, some 9))
    (h2 : pick l 2 = some (.alloc 47, some 6)) (h3 : pick l 3 = some (.alloc 47, some 7))
    (h4 : pick l 4 = some (.store 47 (.tmp 6) (.tmp 8), none)) (h5 : pick l 5 = some (.store 47 (.tmp 7) (.tmp 9), none))
    (hs : A.tmps.size = 38) (hx : A.eval (.tmp 3) = ptr b) (R : Row w b (BigM.dg y))
    (h : ∀ p q w', p ≠ q → w.heap.size ≤ p → w.heap.size ≤ q → Below w.heap.size w w' → Row w' p (BigM.dg y) → Row w' q (BigM.dg 1) →
      Q .normal ((((A.put (some 6) (ptr p)).put (some 7) (ptr q)).put (some 8) (Big y)).put (some 9) (Big 1)) w') :
    (Code.region id l.toArray true).wp Tryd.prog Q A w := by
  refine wp_region_inv (by kernel_rfl) _ hB (TwoAt y A w) ⟨Off.refl _ _, (Below.refl _ _).drew, by simp, by simp, by simp, by simp, by simp⟩ ?_ ?_
  · intro s a w' S i o ho hsi hT K hK
    have sz : a.tmps.size = 38 := by rw [S.off.2.1]; exact hs
    have il : i < 6 := by
      have := (List.getElem?_eq_some_iff.1 ho).1
      omega
    match i, il, ho, hsi, hT with
    | 0, _, ho, hsi, hT =>
      obtain ⟨e1, e2⟩ := pick_of h0 ho
      refine step_load (.tmp 3) e1 (b := b) (f := BigM.dg y) (by rw [S.off.eval (by decide)]; exact hx) (by unfold Row; rw [S.below.block _ R.lt]; exact R) (hK _ _ ?_)
      rw [e2]
      exact ⟨S.off.put (by decide) _, S.below, fun _ => by rw [eval_put _ _ _ (by omega)]; rfl, fun g => by rw [eval_put_ne _ _ _ _ (by decide)]; exact S.t9 (by simpa using g), fun g => by rw [eval_put_ne _ _ _ _ (by decide)]; exact S.t6 (by simpa using g), fun g => by rw [eval_put_ne _ _ _ _ (by decide)]; exact S.t7 (by simpa using g), fun g g' => by rw [eval_put_ne _ _ _ _ (by decide), eval_put_ne _ _ _ _ (by decide)]; exact S.ne (by simpa using g) (by simpa using g')⟩
    | 1, _, ho, hsi, hT =>
      obtain ⟨e1, e2⟩ := pick_of h1 ho
      refine step_call 32 (fun args w => by go_simp) _ _ e1 #[.int .i64 1] (by simp [Act.eval]) ((bigAbs_any 1 fits_one w').mono ?_)
      rintro e w2 ⟨rfl, B⟩
      refine ⟨_, rfl, hK _ _ ?_⟩
      rw [e2]
      have sub : ∀ {b f}, Row w' b f → Row w2 b f := fun r => r.below B
      have B' : Below w.heap.size w w2 := S.below.trans (B.mono S.below.size)
      exact ⟨S.off.put (by decide) _, B', fun g => by rw [eval_put_ne _ _ _ _ (by decide)]; exact S.t8 (by simpa using g), fun _ => by rw [eval_put _ _ _ (by omega)]; rfl, fun g => by rw [eval_put_ne _ _ _ _ (by decide)]; obtain ⟨p, k1, k2, k3⟩ := S.t6 (by simpa using g); exact ⟨p, k1, k2, sub k3⟩, fun g => by rw [eval_put_ne _ _ _ _ (by decide)]; obtain ⟨p, k1, k2, k3⟩ := S.t7 (by simpa using g); exact ⟨p, k1, k2, sub k3⟩, fun g g' => by rw [eval_put_ne _ _ _ _ (by decide), eval_put_ne _ _ _ _ (by decide)]; exact S.ne (by simpa using g) (by simpa using g')⟩
    | 2, _, ho, hsi, hT =>
      obtain ⟨e1, e2⟩ := pick_of h2 ho
      simp only [Bool.and_eq_true, Bool.not_eq_true'] at hT
      have s4 := hT.1
      refine step_alloc e1 (hK _ _ ?_)
      rw [e2]
      have B' := S.below.alloc S.below.size (.cells (arr fun _ => 0) 47)
      refine ⟨S.off.put (by decide) _, B', fun g => by rw [eval_put_ne _ _ _ _ (by decide)]; exact S.t8 (by simpa using g), fun g => by rw [eval_put_ne _ _ _ _ (by decide)]; exact S.t9 (by simpa using g), fun _ => ?_, fun g => by rw [eval_put_ne _ _ _ _ (by decide)]; obtain ⟨p, k1, k2, k3⟩ := S.t7 (by simpa using g); exact ⟨p, k1, k2, k3.alloc _⟩, fun _ g' => ?_⟩
      · rw [eval_put _ _ _ (by omega)]
        refine ⟨_, rfl, S.below.size, ?_⟩
        simp only [s4, show ¬ (4 = 2) by decide, if_false]
        exact row_new _ _
      · rw [eval_put _ _ _ (by omega), eval_put_ne _ _ _ _ (by decide)]
        obtain ⟨p, k1, k2, k3⟩ := S.t7 (by simpa using g')
        rw [k1]
        intro e
        have := ptr_inj (show ptr w'.heap.size = ptr p from e)
        have := k3.lt
        omega
    | 3, _, ho, hsi, hT =>
      obtain ⟨e1, e2⟩ := pick_of h3 ho
      simp only [Bool.and_eq_true, Bool.not_eq_true'] at hT
      have s5 := hT.2
      refine step_alloc e1 (hK _ _ ?_)
      rw [e2]
      have B' := S.below.alloc S.below.size (.cells (arr fun _ => 0) 47)
      refine ⟨S.off.put (by decide) _, B', fun g => by rw [eval_put_ne _ _ _ _ (by decide)]; exact S.t8 (by simpa using g), fun g => by rw [eval_put_ne _ _ _ _ (by decide)]; exact S.t9 (by simpa using g), fun g => by rw [eval_put_ne _ _ _ _ (by decide)]; obtain ⟨p, k1, k2, k3⟩ := S.t6 (by simpa using g); exact ⟨p, k1, k2, k3.alloc _⟩, fun _ => ?_, fun g _ => ?_⟩
      · rw [eval_put _ _ _ (by omega)]
        refine ⟨_, rfl, S.below.size, ?_⟩
        simp only [s5, show ¬ (5 = 3) by decide, if_false]
        exact row_new _ _
      · rw [eval_put _ _ _ (by omega), eval_put_ne _ _ _ _ (by decide)]
        obtain ⟨p, k1, k2, k3⟩ := S.t6 (by simpa using g)
        rw [k1]
        intro e
        have := ptr_inj (show ptr p = ptr w'.heap.size from e)
        have := k3.lt
        omega
    | 4, _, ho, hsi, hT =>
      obtain ⟨e1, e2⟩ := pick_of h4 ho
      simp only [Bool.and_eq_true] at hT
      obtain ⟨p, k1, k2, k3⟩ := S.t6 hT.1.2
      refine step_store (.tmp 6) (.tmp 8) e1 (b := p) (f := BigM.dg y) k1 (S.t8 hT.1.1.1) k3 (hK _ _ ?_)
      rw [e2]
      refine ⟨S.off, below_setRow S.below k2 _, fun g => S.t8 (by simpa using g), fun g => S.t9 (by simpa using g), fun _ => ⟨p, k1, k2, ?_⟩, fun g => ?_, fun g g' => S.ne (by simpa using g) (by simpa using g')⟩
      · simp only [if_true]; exact k3.setRow
      · obtain ⟨q, j1, j2, j3⟩ := S.t7 (by simpa using g)
        refine ⟨q, j1, j2, Row.setRowOther j3 (fun e => ?_)⟩
        refine S.ne hT.1.2 hT.2 ?_
        rw [k1, j1, e]
    | 5, _, ho, hsi, hT =>
      obtain ⟨e1, e2⟩ := pick_of h5 ho
      simp only [Bool.and_eq_true] at hT
      obtain ⟨q, k1, k2, k3⟩ := S.t7 hT.1.2
      refine step_store (.tmp 7) (.tmp 9) e1 (b := q) (f := BigM.dg 1) k1 (S.t9 hT.1.1.1.2) k3 (hK _ _ ?_)
      rw [e2]
      refine ⟨S.off, below_setRow S.below k2 _, fun g => S.t8 (by simpa using g), fun g => S.t9 (by simpa using g), fun g => ?_, fun _ => ⟨q, k1, k2, ?_⟩, fun g g' => S.ne (by simpa using g) (by simpa using g')⟩
      · obtain ⟨p, j1, j2, j3⟩ := S.t6 (by simpa using g)
        refine ⟨p, j1, j2, Row.setRowOther j3 (fun e => ?_)⟩
        refine S.ne hT.1.1.2 hT.1.2 ?_
        rw [k1, j1, e]
      · simp only [if_true]; exact k3.setRow
  · intro s a w' S hall
    have a0 := hall 0 (by omega)
    have a1 := hall 1 (by omega)
    have a2 := hall 2 (by omega)
    have a3 := hall 3 (by omega)
    have a4 := hall 4 (by omega)
    have a5 := hall 5 (by omega)
    obtain ⟨p, k1, k2, k3⟩ := S.t6 a2
    obtain ⟨q, j1, j2, j3⟩ := S.t7 a3
    rw [a4, if_pos rfl] at k3
    rw [a5, if_pos rfl] at j3
    have e := off_norm _ (by intro d hd; simp at hd; omega) S.off
    simp only [List.foldl, k1, j1, S.t8 a0, S.t9 a1] at e
    rw [e]
    exact h p q w' (fun e => S.ne a2 a3 (by rw [k1, j1, e])) k2 j2 S.below k3 j3
end Go.Proofs.YtlniojmjakmcjaaDoor
