/- Regions that draw the order of their first operations, by an invariant over what has come up, and end with operations in a fixed order. -/
import Derived.Test.YtphkaambodecdaaRegG
import Derived.StillTailTactics
namespace Go.Proofs.Ytphkaambodecdaa
open Go.RowKit
set_option linter.unusedVariables false

/-- A slice of one cell, made anew. -/
def Bld (V v : Value) (w : World) : Prop := ∃ B, v = .slice (some ⟨B, 0, none⟩) 1 1 ∧ w.cell? ⟨B, 0, none⟩ = some V ∧ B < w.heap.size
theorem Bld.mono {V v : Value} {w w' : World} (h : Bld V v w) (hb : Below w.heap.size w w') : Bld V v w' := by
  obtain ⟨B, h1, h2, h3⟩ := h
  exact ⟨B, h1, (hb.cell (p := ⟨B, 0, none⟩) h3).trans h2, Nat.lt_of_lt_of_le h3 hb.size⟩
theorem bld_new (w : World) (V : Value) (t : TypeId) : Bld V (.slice (some ⟨w.heap.size, 0, none⟩) 1 1) (w.alloc (.cells #[V] t)) :=
  ⟨_, rfl, World.cell?_alloc_new w _ _ 0, by rw [World.size_alloc]; omega⟩
theorem Bld.cells {V v : Value} {w : World} (h : Bld V v w) : ∃ B, v = .slice (some ⟨B, 0, none⟩) 1 1 ∧ ∀ j u, [V][j]? = some u → w.cell? ((⟨B, 0, none⟩ : Addr).add j) = some u := by
  obtain ⟨B, h1, h2, _⟩ := h
  refine ⟨B, h1, fun j u hu => ?_⟩
  have hj : j < 1 := by
    have := (List.getElem?_eq_some_iff.1 hu).1
    simpa using this
  obtain rfl : j = 0 := by omega
  have e : (⟨B, 0, none⟩ : Addr).add 0 = ⟨B, 0, none⟩ := by unfold Addr.add; split <;> simp_all
  rw [e, h2]
  simpa using hu

section
variable {P : Program} {Q : Exit → Act → World → Prop}
/-- The table of the head alone: what the first n operations wait for; nobody of the tail comes up ahead of them. -/
def tableH (ops : Array Oper) (n : Nat) (pos neg : Nat → List Nat) : Bool :=
  decide (n < ops.size) && Region.sinkB .any ops n && Region.chainB .any ops n && Region.seqB .any ops (ops.size - n) n (Array.replicate n true ++ Array.replicate (ops.size - n) false) &&
  (List.range n).all fun i => (match ops[i]? with | some o => o.guard.isNone | none => true) && (pos i).all (fun j => need ops ops.size i j) && (neg i).all (fun k => need ops ops.size k i) && lowB ops i

theorem closedB_of {ops : Array Oper} {l : Array Bool} (h : closedB ops l = true) : ∀ j oj, ops[j]? = some oj → l.getD j false = true → ∀ e ∈ oj.after, Region.binds .any e = true → l.getD e.on false = true :=
  fun j oj ho hj => closed_after h ho hj

theorem wpAny_head {ops : Array Oper} {n : Nat} {pos neg : Nat → List Nat} (hB : tableH ops n pos neg = true) (I : (Nat → Bool) → Act → World → Prop)
    (hs : ∀ s a w, I s a w → ∀ i o, i < n → ops[i]? = some o → s i = false → listT pos neg s i = true → ∀ K : Act → World → Prop, (∀ a w, I (fun j => if j = i then true else s j) a w → K a w) → o.wp P a w K Q)
    (hd : ∀ s a w, I s a w → (∀ j, j < n → s j = true) → wpList P ops Q (ops.toList.drop n) a w) :
    ∀ (fuel : Nat) (l : Array Bool) (a : Act) (w : World), l.size = ops.size → closedB ops l = true → (∀ t, n ≤ t → t < ops.size → l.getD t true = false) → lefts l.toList = fuel → I (fun j => l.getD j false) a w → wpAny P .any ops Q fuel l a w := by
  simp only [tableH, Bool.and_eq_true, decide_eq_true_eq] at hB
  obtain ⟨⟨⟨⟨hn, hS⟩, hC⟩, hQ⟩, hrows⟩ := hB
  have row : ∀ i, i < n → (((match ops[i]? with | some o => o.guard.isNone | none => true) = true ∧ (pos i).all (fun j => need ops ops.size i j) = true) ∧ (neg i).all (fun k => need ops ops.size k i) = true) ∧ lowB ops i = true := by
    intro i hi
    have := List.all_eq_true.1 hrows i (by simpa using hi)
    simpa only [Bool.and_eq_true] using this
  have tab : ∀ l : Array Bool, l.size = ops.size → closedB ops l = true → ∀ i, i < n → i ∈ Region.ready .any ops l → listT pos neg (fun j => l.getD j false) i = true := by
    intro l hl hc i hin hi
    obtain ⟨h1, o, ho, h2⟩ := mem_ready.1 hi
    obtain ⟨⟨⟨_, hp⟩, hng⟩, _⟩ := row i hin
    have fi : l.getD i false = false := getD_both h1
    unfold listT
    rw [Bool.and_eq_true]
    refine ⟨List.all_eq_true.2 fun d hd => ?_, List.all_eq_true.2 fun k hk => ?_⟩
    · exact need_spec hc _ i d (fun o' ho' => by rw [ho] at ho'; cases ho'; exact h2) (List.all_eq_true.1 hp d hd)
    · cases hkl : l.getD k false with
      | false => show (!l.getD k false) = true; rw [hkl]; rfl
      | true =>
        have := need_spec hc _ k i (fun o' ho' => closed_after hc ho' hkl) (List.all_eq_true.1 hng k hk)
        rw [fi] at this
        cases this
  have some_ready : ∀ l : Array Bool, l.size = ops.size → closedB ops l = true → Region.ready .any ops l = [] → ∀ j, j < n → l.getD j false = true := by
    intro l hl hc hr j
    induction j using Nat.strongRecOn with
    | _ j ih =>
      intro hj
      cases hjl : l.getD j false with
      | true => rfl
      | false =>
        have ho : ops[j]? = some ops[j] := by simp
        have lw := (row j hj).2
        unfold lowB at lw
        rw [ho] at lw
        simp only at lw
        rw [Array.all_eq_true'] at lw
        have : j ∈ Region.ready .any ops l := mem_ready.2 ⟨getD_in (by omega) hjl, _, ho, fun e he hb => by
          have := lw e he
          rw [hb] at this
          have lt : e.on < j := by simpa using this
          exact ih e.on lt (by omega)⟩
        rw [hr] at this
        cases this
  intro fuel
  induction fuel with
  | zero =>
    intro l a w hl hc ht hf hI
    exfalso
    have h1 := ht n (Nat.le_refl _) hn
    have : ∀ (l : List Bool), lefts l = 0 → ∀ i, l.getD i true = true := by
      intro l
      induction l with
      | nil => intro _ i; simp
      | cons b l ih =>
        intro h i
        simp only [lefts] at h
        cases b with
        | false => simp at h
        | true =>
          cases i with
          | zero => rfl
          | succ i => exact ih (by simpa using h) i
    have h2 := this l.toList hf n
    simp only [Array.getD_eq_getD_getElem?] at h1
    rw [List.getD_eq_getElem?_getD, Array.getElem?_toList] at h2
    rw [h2] at h1
    cases h1
  | succ fuel ih =>
    intro l a w hl hc ht hf hI
    by_cases hall : ∀ j, j < n → l.getD j false = true
    · have e : l = Array.replicate n true ++ Array.replicate (ops.size - n) false := by
        apply Array.ext_getElem?
        intro i
        by_cases hi : i < n
        · have h1 := hall i hi
          have il : i < l.size := by omega
          rw [Array.getElem?_append_left (by simpa using hi), Array.getElem?_replicate, if_pos hi]
          simp only [Array.getD_eq_getD_getElem?, Array.getElem?_eq_getElem il, Option.getD_some] at h1
          rw [Array.getElem?_eq_getElem il, h1]
        · by_cases hi2 : i < ops.size
          · have h1 := ht i (by omega) hi2
            have il : i < l.size := by omega
            rw [Array.getElem?_append_right (by simp; omega), Array.getElem?_replicate, if_pos (by simp; omega)]
            simp only [Array.getD_eq_getD_getElem?, Array.getElem?_eq_getElem il, Option.getD_some] at h1
            rw [Array.getElem?_eq_getElem il, h1]
          · rw [Array.getElem?_eq_none (by omega), Array.getElem?_eq_none (by simp; omega)]
      have hl2 : (ops.toList.drop n).length = ops.size - n := by simp
      have hfu : fuel + 1 = (ops.toList.drop n).length := by
        rw [← hf, hl2, e]
        rw [Array.toList_append]
        have la : ∀ a b : List Bool, lefts (a ++ b) = lefts a + lefts b := by
          intro a b
          induction a with
          | nil => simp [lefts]
          | cons x a ih => simp only [List.cons_append, lefts, ih]; omega
        have lt : ∀ m, lefts (List.replicate m true) = 0 := by
          intro m
          induction m with
          | zero => rfl
          | succ m ih => simp [List.replicate_succ, lefts, ih]
        rw [la, Array.toList_replicate, Array.toList_replicate, lt, lefts_replicate]
        omega
      rw [hfu]
      refine wpAny_of_seq _ n l a w (fun j => by simp [List.getElem?_drop]) ?_ (hd _ a w hI hall)
      rw [hl2, e]
      exact hQ
    · have inv : HeadInv .any ops n l := ⟨hl, closedB_of hc, ht⟩
      have hex : ∃ i, i < n ∧ l.getD i true = false := by
        apply Classical.byContradiction
        intro hno
        apply hall
        intro j hj
        cases hjl : l.getD j false with
        | true => rfl
        | false => exact absurd ⟨j, hj, getD_in (by omega) hjl⟩ hno
      obtain ⟨i0, hi0, hu0⟩ := hex
      refine ⟨fun hr => absurd (some_ready l hl hc hr) hall, fun i hi => ?_⟩
      have hin : i < n := by
        apply Nat.lt_of_not_le
        intro hle
        exact tail_waits hS hC hn inv _ i0 rfl hi0 hu0 i hle hi
      obtain ⟨h1, o, ho, h2⟩ := mem_ready.1 hi
      have hil : i < l.size := by
        rw [hl]
        exact (Array.getElem?_eq_some_iff.1 ho).1
      have hfl : l[i] = false := by simpa [Array.getD, hil] using h1
      have hls : l.toList[i]? = some false := by simp [hil, hfl]
      have hlf := lefts_set _ i hls
      have hg : o.guard = none := by
        have := (row i hin).1.1.1
        rw [ho] at this
        simpa using this
      refine wpOp_step ho fun K' hK' => ?_
      rw [if_pos (wanted_none hg a)]
      refine hs _ a w hI i o hin ho (by simp [Array.getD, hil, hfl]) (tab l hl hc i hin hi) K' (fun a' w' h => hK' _ _ (ih _ a' w' (by simpa using hl) (closedB_set hc hi) (fun t h3 h4 => by rw [getD_set_ne true (by omega)]; exact ht t h3 h4) (by rw [Array.toList_setIfInBounds]; omega) ?_))
      have e : (fun j => (l.setIfInBounds i true).getD j false) = (fun j => if j = i then true else l.getD j false) := by
        funext j
        by_cases h : j = i
        · subst h; simp [Array.getD, hil]
        · rw [if_neg h]
          simp only [Array.getD_eq_getD_getElem?]
          rw [Array.getElem?_setIfInBounds_ne (Ne.symm h)]
      rw [e]
      exact h

/-- A region that draws: an invariant over its first n operations, and then the others as they stand. -/
theorem wp_region_head {id : Nat} {l : List Oper} {a : Act} {w : World} (hm : P.follows .mixedOrders = true) (n : Nat) (pos neg : Nat → List Nat) (hB : tableH l.toArray n pos neg = true)
    (I : (Nat → Bool) → Act → World → Prop) (h0 : I (fun _ => false) a w.drew)
    (hs : ∀ s a w, I s a w → ∀ i o, i < n → l[i]? = some o → s i = false → listT pos neg s i = true → ∀ K : Act → World → Prop, (∀ a w, I (fun j => if j = i then true else s j) a w → K a w) → o.wp P a w K Q)
    (hd : ∀ s a w, I s a w → (∀ j, j < n → s j = true) → wpList P l.toArray Q (l.drop n) a w) : (Code.region id l.toArray true).wp P Q a w := by
  refine wp_region_any hm ?_
  have hn : n < l.toArray.size := by
    simp only [tableH, Bool.and_eq_true, decide_eq_true_eq] at hB
    exact hB.1.1.1.1
  refine wpAny_head hB I (fun s a w hI i o hin ho => hs s a w hI i o hin (by simpa using ho)) (fun s a w hI h => hd s a w hI h) _ _ a _ (by simp) (closedB_none _ _) (fun t _ ht => getD_in (by simpa using ht) (getD_replicate_false _ _)) (by rw [Array.toList_replicate, lefts_replicate]) ?_
  have e : (fun j => (Array.replicate l.toArray.size false).getD j false) = (fun _ => false) := by
    funext j
    exact getD_replicate_false _ _
  rw [e]
  exact h0

theorem step_to1 {o : Oper} {a : Act} {w w2 : World} {K : Act → World → Prop} {v : Value} (hv : (execOp a.eval o).run P w = .ok (.value v) w2) (h : K (a.put o.dst v) w2) : o.wp P a w K Q := by
  unfold Oper.wp
  rw [hv, Oper.upon_value]
  exact h
/-- A call that may panic. -/
theorem step_callp {o : Oper} {a : Act} {w : World} {K : Act → World → Prop} (f : FuncId) (hf : ∀ args w, (callFunc f args).run P w = .ok (.enter f args) w) (xs : Array Operand) (ts : Array TypeId) (ho : o.op = .call { callee := .value (.func f), args := xs, argTypes := ts })
    (args : Array Value) (hx : xs.map a.eval = args) (hc : Calls P f args w fun e w' => (∃ v, e = .returned v ∧ K (a.put o.dst v) w') ∨ (∃ p, e = .panicked p ∧ Q (.panic p) a w')) : o.wp P a w K Q := by
  unfold Oper.wp
  have hrun : (execOp a.eval o).run P w = .ok (.enter f args) w := by
    subst hx
    simp only [execOp, ho, resolve, Act.eval, Deferred.ofValue, invoke]; simp [hf]
  rw [hrun, Oper.upon_enter]
  refine hc.mono fun e w' h => ?_
  rcases h with ⟨v, rfl, hk⟩ | ⟨p, rfl, hq⟩
  · exact hk
  · exact hq
/-- A call of a function value that captures. -/
theorem step_callc {o : Oper} {a : Act} {w : World} {K : Act → World → Prop} (f : FuncId) (first cap : Array Value) (hf : ∀ args w, (callFunc f args).run P w = .ok (.enter f args) w) (x : Operand) (hx0 : a.eval x = .func (.func f) first cap) (xs : Array Operand) (ts : Array TypeId) (ho : o.op = .call { callee := .value x, args := xs, argTypes := ts })
    (args : Array Value) (hx : xs.map a.eval = args) (hc : Calls P f (first ++ args ++ cap) w fun e w' => ∃ v, e = .returned v ∧ K (a.put o.dst v) w') : o.wp P a w K Q := by
  unfold Oper.wp
  have hrun : (execOp a.eval o).run P w = .ok (.enter f (first ++ args ++ cap)) w := by
    subst hx
    simp only [execOp, ho, resolve, hx0, Deferred.ofValue, invoke]; simp [hf]
  rw [hrun, Oper.upon_enter]
  exact hc.mono fun e w' ⟨v, he, hk⟩ => by subst he; exact hk
end
end Go.Proofs.Ytphkaambodecdaa
