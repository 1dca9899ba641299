/- Regions that draw their order, by an invariant: what may come up when is told by lists, and checked by following what each operation waits for. -/
import Derived.Test.YtlniojmjakmcjaaDoorReg
namespace Go.Proofs.YtlniojmjakmcjaaDoor
open Go.RowKit
set_option linter.unusedVariables false

section
variable {P : Program} {Q : Exit → Act → World → Prop}

/-- Operation i waits for d, at so many steps at most. -/
def need (ops : Array Oper) : Nat → Nat → Nat → Bool
  | 0, _, _ => false
  | f + 1, i, d => match ops[i]? with
    | some o => o.after.any fun e => Region.binds .any e && (e.on == d || need ops f e.on d)
    | none => false
def lowB (ops : Array Oper) (i : Nat) : Bool := match ops[i]? with
  | some o => o.after.all fun e => !Region.binds .any e || decide (e.on < i)
  | none => true
def tableL (d : Bool) (ops : Array Oper) (pos neg : Nat → List Nat) : Bool :=
  ops.all (fun o => o.guard.isNone) && (List.range ops.size).all fun i =>
    if d then (pos i).all (fun j => need ops ops.size i j) && (neg i).all (fun k => need ops ops.size k i) && lowB ops i
    else (pos i).all (fun j => decide (j < i)) && (neg i).all (fun k => decide (i < k))
def listT (pos neg : Nat → List Nat) (s : Nat → Bool) (i : Nat) : Bool := (pos i).all s && (neg i).all fun k => !s k

theorem list_pos {pos neg : Nat → List Nat} {s : Nat → Bool} {i d : Nat} (h : listT pos neg s i = true) (hd : d ∈ pos i) : s d = true := by
  unfold listT at h
  rw [Bool.and_eq_true] at h
  exact List.all_eq_true.1 h.1 d hd
theorem list_neg {pos neg : Nat → List Nat} {s : Nat → Bool} {i k : Nat} (h : listT pos neg s i = true) (hk : k ∈ neg i) : s k = false := by
  unfold listT at h
  rw [Bool.and_eq_true] at h
  have := List.all_eq_true.1 h.2 k hk
  simpa using this

theorem closed_after {ops : Array Oper} {l : Array Bool} (hc : closedB ops l = true) {i : Nat} {o : Oper} (ho : ops[i]? = some o) (hi : l.getD i false = true) : ∀ e ∈ o.after, Region.binds .any e = true → l.getD e.on false = true := by
  unfold closedB at hc
  have h := List.all_eq_true.1 hc i (by have := (Array.getElem?_eq_some_iff.1 ho).1; simpa using this)
  rw [hi, ho] at h
  simp only [Bool.not_true, Bool.false_or] at h
  rw [Array.all_eq_true'] at h
  intro e he hb
  have := h e he
  rw [hb] at this
  simpa using this
theorem need_spec {ops : Array Oper} {l : Array Bool} (hc : closedB ops l = true) : ∀ (f i d : Nat), (∀ o, ops[i]? = some o → ∀ e ∈ o.after, Region.binds .any e = true → l.getD e.on false = true) → need ops f i d = true → l.getD d false = true
  | 0, i, d, _, h => by simp [need] at h
  | f + 1, i, d, ha, h => by
    unfold need at h
    cases ho : ops[i]? with
    | none => rw [ho] at h; simp at h
    | some o =>
      rw [ho] at h
      simp only at h
      obtain ⟨e, he, hb⟩ := Array.any_eq_true'.1 h
      simp only [Bool.and_eq_true, Bool.or_eq_true, beq_iff_eq] at hb
      have l1 := ha o ho e he hb.1
      rcases hb.2 with h2 | h2
      · rw [← h2]; exact l1
      · exact need_spec hc f e.on d (fun o' ho' => closed_after hc ho' l1) h2

theorem tab_of {ops : Array Oper} {pos neg : Nat → List Nat} (hB : tableL true ops pos neg = true) (l : Array Bool) (hl : l.size = ops.size) (hc : closedB ops l = true) :
    (∀ i ∈ Region.ready .any ops l, listT pos neg (fun j => l.getD j false) i = true) ∧ (Region.ready .any ops l = [] → ∀ j, j < ops.size → l.getD j false = true) := by
  simp only [tableL, Bool.and_eq_true] at hB
  have row : ∀ i, i < ops.size → ((pos i).all (fun j => need ops ops.size i j) = true ∧ (neg i).all (fun k => need ops ops.size k i) = true) ∧ lowB ops i = true := by
    intro i hi
    have := List.all_eq_true.1 hB.2 i (by simpa using hi)
    simpa only [if_true, Bool.and_eq_true] using this
  refine ⟨fun i hi => ?_, fun hr => ?_⟩
  · obtain ⟨h1, o, ho, h2⟩ := mem_ready.1 hi
    have il := (Array.getElem?_eq_some_iff.1 ho).1
    obtain ⟨⟨hp, hn⟩, _⟩ := row i il
    have fi : l.getD i false = false := getD_both h1
    unfold listT
    rw [Bool.and_eq_true]
    refine ⟨List.all_eq_true.2 fun d hd => ?_, List.all_eq_true.2 fun k hk => ?_⟩
    · exact need_spec hc _ i d (fun o' ho' => by rw [ho] at ho'; cases ho'; exact h2) (List.all_eq_true.1 hp d hd)
    · cases hkl : l.getD k false with
      | false => show (!l.getD k false) = true; rw [hkl]; rfl
      | true =>
        have := need_spec hc _ k i (fun o' ho' => closed_after hc ho' hkl) (List.all_eq_true.1 hn k hk)
        rw [fi] at this
        cases this
  · intro j
    induction j using Nat.strongRecOn with
    | _ j ih =>
      intro hj
      cases hjl : l.getD j false with
      | true => rfl
      | false =>
        have ho : ops[j]? = some ops[j] := by simp [hj]
        have lw := (row j hj).2
        unfold lowB at lw
        rw [ho] at lw
        simp only at lw
        rw [Array.all_eq_true'] at lw
        have : j ∈ Region.ready .any ops l := mem_ready.2 ⟨getD_in (by omega) hjl, _, ho, fun e he hb => by
          have := lw e he
          rw [hb] at this
          have lt : e.on < j := by simpa using this
          exact ih e.on lt (by omega)⟩
        rw [hr] at this
        cases this

theorem wpAny_invT {ops : Array Oper} {T : (Nat → Bool) → Nat → Bool} (hg : ∀ (i : Nat) (o : Oper), ops[i]? = some o → o.guard = none)
    (tab : ∀ l : Array Bool, l.size = ops.size → closedB ops l = true → (∀ i ∈ Region.ready .any ops l, T (fun j => l.getD j false) i = true) ∧ (Region.ready .any ops l = [] → ∀ j, j < ops.size → l.getD j false = true))
    (I : (Nat → Bool) → Act → World → Prop)
    (hs : ∀ s a w, I s a w → ∀ i o, ops[i]? = some o → s i = false → T s i = true → ∀ K : Act → World → Prop, (∀ a w, I (fun j => if j = i then true else s j) a w → K a w) → o.wp P a w K Q)
    (hd : ∀ s a w, I s a w → (∀ j, j < ops.size → s j = true) → Q .normal a w) :
    ∀ (fuel : Nat) (l : Array Bool) (a : Act) (w : World), l.size = ops.size → closedB ops l = true → lefts l.toList ≤ fuel → I (fun j => l.getD j false) a w → wpAny P .any ops Q fuel l a w := by
  have step : ∀ (l : Array Bool) (a : Act) (w : World) (i : Nat), l.size = ops.size → closedB ops l = true → I (fun j => l.getD j false) a w → i ∈ Region.ready .any ops l →
      l.toList[i]? = some false ∧ ∀ K : Act → World → Prop, (∀ a w, I (fun j => (l.setIfInBounds i true).getD j false) a w → K a w) → wpOp P ops Q i K a w := by
    intro l a w i hl hc hI hi
    obtain ⟨h1, o, ho, h2⟩ := mem_ready.1 hi
    have hil : i < l.size := by
      rw [hl]
      exact (Array.getElem?_eq_some_iff.1 ho).1
    have hf : l[i] = false := by simpa [Array.getD, hil] using h1
    refine ⟨by simp [hil, hf], fun K hK => wpOp_step ho fun K' hK' => ?_⟩
    rw [if_pos (wanted_none (hg i o ho) a)]
    refine hs _ a w hI i o ho (by simp [Array.getD, hil, hf]) ((tab l hl hc).1 i hi) K' (fun a' w' h => hK' _ _ (hK _ _ ?_))
    have e : (fun j => (l.setIfInBounds i true).getD j false) = (fun j => if j = i then true else l.getD j false) := by
      funext j
      by_cases h : j = i
      · subst h; simp [Array.getD, hil]
      · rw [if_neg h]
        simp only [Array.getD_eq_getD_getElem?]
        rw [Array.getElem?_setIfInBounds_ne (Ne.symm h)]
    rw [e]
    exact h
  intro fuel
  induction fuel with
  | zero =>
    intro l a w hl hc hn hI
    have hr : Region.ready .any ops l = [] := by
      cases hr : Region.ready .any ops l with
      | nil => rfl
      | cons i r =>
        have := lefts_set _ i (step l a w i hl hc hI (by rw [hr]; simp)).1
        omega
    exact ⟨hr, hd _ _ _ hI ((tab l hl hc).2 hr)⟩
  | succ fuel ih =>
    intro l a w hl hc hn hI
    refine ⟨fun hr => hd _ _ _ hI ((tab l hl hc).2 hr), fun i hi => ?_⟩
    obtain ⟨h1, h2⟩ := step l a w i hl hc hI hi
    have := lefts_set _ i h1
    exact h2 _ (fun a' w' h => ih _ a' w' (by simpa using hl) (closedB_set hc hi) (by rw [Array.toList_setIfInBounds]; omega) h)

theorem wp_region_invL {id : Nat} {d : Bool} {l : List Oper} {a : Act} {w : World} (hm : P.follows .mixedOrders = true) (pos neg : Nat → List Nat) (hB : tableL d l.toArray pos neg = true)
    (I : (Nat → Bool) → Act → World → Prop) (h0 : I (fun _ => false) a w) (h0' : I (fun _ => false) a w.drew)
    (hs : ∀ s a w, I s a w → ∀ i o, l[i]? = some o → s i = false → listT pos neg s i = true → ∀ K : Act → World → Prop, (∀ a w, I (fun j => if j = i then true else s j) a w → K a w) → o.wp P a w K Q)
    (hd : ∀ s a w, I s a w → (∀ j, j < l.length → s j = true) → Q .normal a w) : (Code.region id l.toArray d).wp P Q a w := by
  have hg : ∀ (i : Nat) (o : Oper), l.toArray[i]? = some o → o.guard = none := by
    intro i o ho
    simp only [tableL, Bool.and_eq_true] at hB
    have := hB.1
    rw [Array.all_eq_true'] at this
    have := this o (Array.mem_of_getElem? ho)
    simpa using this
  cases d with
  | true =>
    refine wp_region_any hm ?_
    refine wpAny_invT hg (tab_of hB) I (fun s a w hI i o ho => hs s a w hI i o (by simpa using ho)) (fun s a w hI h => hd s a w hI (by simpa using h)) _ _ a _ (by simp) (closedB_none _ _) (by rw [Array.toList_replicate, lefts_replicate]; exact Nat.le_refl _) ?_
    have e : (fun j => (Array.replicate l.toArray.size false).getD j false) = (fun _ => false) := by
      funext j
      exact getD_replicate_false _ _
    rw [e]
    exact h0'
  | false =>
    refine wp_region_invD hm (listT pos neg) ?_ I h0 h0' hs hd
    simp only [tableL, Bool.and_eq_true] at hB
    simp only [tableD, Bool.false_eq_true, if_false, seqB', Bool.and_eq_true]
    refine ⟨hB.1, List.all_eq_true.2 fun i hi => ?_⟩
    have h := List.all_eq_true.1 hB.2 i hi
    simp only [Bool.false_eq_true, if_false, Bool.and_eq_true] at h
    unfold listT
    rw [Bool.and_eq_true]
    refine ⟨h.1, List.all_eq_true.2 fun k hk => ?_⟩
    have := List.all_eq_true.1 h.2 k hk
    have lt : i < k := by simpa using this
    simp only [Bool.not_eq_true', decide_eq_false_iff_not]
    omega
end
end Go.Proofs.YtlniojmjakmcjaaDoor
