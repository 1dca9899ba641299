/- RegHF -/
import Derived.Deep.Quiet
import Derived.StillTailTactics
import Derived.Test.YtchfkncbemjepaaGreatCrcRow
set_option linter.unusedVariables false
/- Regions that draw their order, by an invariant over what has come up: for rows of any kind. -/
namespace Go.Proofs.YtchfkncbemjepaaGreat
open Go.RowKit

def lefts:List Bool->Nat
  | []=>0
  | b :: l=>(if b then 0 else 1) + lefts l
theorem lefts_set:∀ (l:List Bool) (i:Nat),l[i]?=some false->lefts (l.set i true) + 1=lefts l
  | [],i,h=>by simp at h
  | b :: l,0,h=>by
    have e:b=false:=by simpa using h
    subst e
    simp [lefts]
    omega
  | b :: l,i + 1,h=>by
    have:=lefts_set l i (by simpa using h)
    simp only [List.set_cons_succ,lefts]
    omega
theorem lefts_replicate:∀ n,lefts (List.replicate n false)=n
  | 0=>rfl
  | n + 1=>by simp [List.replicate_succ,lefts,lefts_replicate n]; omega

def allB:Nat->List (List Bool)
  | 0=>[[]]
  | n + 1=>(allB n).flatMap fun l=>[false :: l,true :: l]
theorem mem_allB:∀ l:List Bool,l ∈ allB l.length
  | []=>by simp [allB]
  | b :: l=>by
    have:=mem_allB l
    simp only [List.length_cons,allB,List.mem_flatMap]
    exact ⟨l,this,by cases b <;> simp⟩

def closedB (ops:Array Oper) (A:Array Bool):Bool:=
  (List.range ops.size).all fun j=>!A.getD j false || match ops[j]? with
    | some o=>o.after.all fun e=>!Region.binds .any e || A.getD e.on false
    | none=>true
theorem getD_set_of {l:Array Bool} {i k:Nat} (h:l.getD k false=true):(l.setIfInBounds i true).getD k false=true:=by
  by_cases e:k=i
  · subst e
    have:k < l.size:=by
      apply Nat.lt_of_not_le
      intro hh
      simp [Array.getD,Nat.not_lt.2 hh] at h
    simp [Array.getD,this]
  simp only [Array.getD_eq_getD_getElem?] at h ⊢
  rw [Array.getElem?_setIfInBounds_ne (Ne.symm e)]
  exact h
theorem closedB_set {ops:Array Oper} {l:Array Bool} {i:Nat} (hc:closedB ops l=true) (hi:i ∈ Region.ready .any ops l):closedB ops (l.setIfInBounds i true)=true:=by
  unfold closedB at *
  rw [List.all_eq_true] at *
  intro j hj
  have h1:=hc j hj
  by_cases e:j=i
  · subst e
    obtain ⟨_,o,ho,h2⟩:=mem_ready.1 hi
    rw [ho,Bool.or_eq_true]
    refine .inr ?_
    show (o.after.all fun e=>_)=true
    rw [Array.all_eq_true']
    intro x hx
    cases hb:Region.binds .any x with
    | false=>rfl
    | true=>exact getD_set_of (h2 x hx hb)
  rw [Bool.or_eq_true] at h1 ⊢
  rcases h1 with h1 | h1
  · refine .inl ?_
    simp only [Array.getD_eq_getD_getElem?] at h1 ⊢
    rw [Array.getElem?_setIfInBounds_ne (Ne.symm e)]
    exact h1
  refine .inr ?_
  cases ho:ops[j]? with
  | none=>rfl
  | some o=>
    rw [ho] at h1
    simp only at h1
    rw [Array.all_eq_true'] at h1
    show (o.after.all fun e=>_)=true
    rw [Array.all_eq_true']
    intro x hx
    have h2:=h1 x hx
    cases hb:Region.binds .any x with
    | false=>rfl
    | true=>
      rw [hb] at h2
      exact getD_set_of (by simpa using h2)
theorem closedB_none (ops:Array Oper) (n:Nat):closedB ops (Array.replicate n false)=true:=by
  unfold closedB
  rw [List.all_eq_true]
  intro j _
  rw [getD_replicate_false]
  rfl

def tableB (ops:Array Oper) (T:(Nat->Bool)->Nat->Bool):Bool:=
  ops.all (fun o=>o.guard.isNone) && (allB ops.size).all fun l=>
    let A:=l.toArray
    let r:=Region.ready .any ops A
    !closedB ops A || (r.all (fun i=>T (fun j=>A.getD j false) i) && (!r.isEmpty || l.all id))

section
variable {P:Program} {Q:Exit->Act->World->Prop}

theorem wanted_none {ops:Array Oper} {o:Oper} (hg:o.guard=none) (a:Act):Region.wanted o (yielded ops a.tmps)=true:=by simp [Region.wanted,hg]

theorem wpAny_inv {ops:Array Oper} {T:(Nat->Bool)->Nat->Bool} (hB:tableB ops T=true) (I:(Nat->Bool)->Act->World->Prop)
    (hs:∀ s a w,I s a w->∀ i o,ops[i]?=some o->s i=false->T s i=true->∀ K:Act->World->Prop,(∀ a w,I (fun j=>if j=i then true else s j) a w->K a w)->o.wp P a w K Q)
    (hd:∀ s a w,I s a w->(∀ j,j < ops.size->s j=true)->Q .normal a w):
    ∀ (fuel:Nat) (l:Array Bool) (a:Act) (w:World),l.size=ops.size->closedB ops l=true->lefts l.toList<=fuel->I (fun j=>l.getD j false) a w->wpAny P .any ops Q fuel l a w:=by
  have tab:∀ l:Array Bool,l.size=ops.size->closedB ops l=true->(∀ i ∈ Region.ready .any ops l,T (fun j=>l.getD j false) i=true)/\(Region.ready .any ops l=[]->∀ j,j < ops.size->l.getD j false=true):=by
    intro l hl hc
    simp only [tableB,Bool.and_eq_true] at hB
    have h1:=List.all_eq_true.1 hB.2 l.toList (by have:=mem_allB l.toList; rwa [Array.length_toList,hl] at this)
    simp only [Bool.and_eq_true,Array.toArray_toList,Bool.or_eq_true,hc,Bool.not_true,Bool.false_eq_true,false_or] at h1
    refine ⟨fun i hi=>List.all_eq_true.1 h1.1 i hi,fun hr j hj=>?_⟩
    rcases h1.2 with h2 | h2
    · rw [hr] at h2; simp at h2
    have hj':j < l.size:=by omega
    have:=List.all_eq_true.1 h2 l[j] (by simp)
    simp only [id] at this
    simp [Array.getD,hj',this]
  have hg:∀ (i:Nat) (o:Oper),ops[i]?=some o->o.guard=none:=by
    intro i o ho
    simp only [tableB,Bool.and_eq_true] at hB
    have:=hB.1
    rw [Array.all_eq_true'] at this
    have:=this o (Array.mem_of_getElem? ho)
    simpa using this
  have step:∀ (l:Array Bool) (a:Act) (w:World) (i:Nat),l.size=ops.size->closedB ops l=true->I (fun j=>l.getD j false) a w->i ∈ Region.ready .any ops l →
      l.toList[i]?=some false/\∀ K:Act->World->Prop,(∀ a w,I (fun j=>(l.setIfInBounds i true).getD j false) a w->K a w)->wpOp P ops Q i K a w:=by
    intro l a w i hl hc hI hi
    obtain ⟨h1,o,ho,h2⟩:=mem_ready.1 hi
    have hil:i < l.size:=by
      rw [hl]
      exact (Array.getElem?_eq_some_iff.1 ho).1
    have hf:l[i]=false:=by simpa [Array.getD,hil] using h1
    refine ⟨by simp [hil,hf],fun K hK=>wpOp_step ho fun K' hK'=>?_⟩
    rw [if_pos (wanted_none (hg i o ho) a)]
    refine hs _ a w hI i o ho (by simp [Array.getD,hil,hf]) ((tab l hl hc).1 i hi) K' (fun a' w' h=>hK' _ _ (hK _ _ ?_))
    have e:(fun j=>(l.setIfInBounds i true).getD j false)=(fun j=>if j=i then true else l.getD j false):=by
      funext j
      by_cases h:j=i
      · subst h; simp [Array.getD,hil]
      rw [if_neg h]
      simp only [Array.getD_eq_getD_getElem?]
      rw [Array.getElem?_setIfInBounds_ne (Ne.symm h)]
    rw [e]
    exact h
  intro fuel
  induction fuel with
  | zero=>
    intro l a w hl hc hn hI
    have hr:Region.ready .any ops l=[]:=by
      cases hr:Region.ready .any ops l with
      | nil=>rfl
      | cons i r=>
        have:=lefts_set _ i (step l a w i hl hc hI (by rw [hr]; simp)).1
        omega
    exact ⟨hr,hd _ _ _ hI ((tab l hl hc).2 hr)⟩
  | succ fuel ih=>
    intro l a w hl hc hn hI
    refine ⟨fun hr=>hd _ _ _ hI ((tab l hl hc).2 hr),fun i hi=>?_⟩
    obtain ⟨h1,h2⟩:=step l a w i hl hc hI hi
    have:=lefts_set _ i h1
    exact h2 _ (fun a' w' h=>ih _ a' w' (by simpa using hl) (closedB_set hc hi) (by rw [Array.toList_setIfInBounds]; omega) h)

theorem wp_region_inv {id:Nat} {l:List Oper} {a:Act} {w:World} (hm:P.follows .mixedOrders=true) (T:(Nat->Bool)->Nat->Bool) (hB:tableB l.toArray T=true)
    (I:(Nat->Bool)->Act->World->Prop) (h0:I (fun _=>false) a w.drew)
    (hs:∀ s a w,I s a w->∀ i o,l[i]?=some o->s i=false->T s i=true->∀ K:Act->World->Prop,(∀ a w,I (fun j=>if j=i then true else s j) a w->K a w)->o.wp P a w K Q)
    (hd:∀ s a w,I s a w->(∀ j,j < l.length->s j=true)->Q .normal a w):(Code.region id l.toArray true).wp P Q a w:=by
  refine wp_region_any hm ?_
  refine wpAny_inv hB I (fun s a w hI i o ho=>hs s a w hI i o (by simpa using ho)) (fun s a w hI h=>hd s a w hI (by simpa using h)) _ _ a _ (by simp) (closedB_none _ _) (by rw [Array.toList_replicate,lefts_replicate]; exact Nat.le_refl _) ?_
  have e:(fun j=>(Array.replicate l.toArray.size false).getD j false)=(fun _=>false):=by
    funext j
    exact getD_replicate_false _ _
  rw [e]
  exact h0

def seqB' (ops:Array Oper) (T:(Nat->Bool)->Nat->Bool):Bool:=
  ops.all (fun o=>o.guard.isNone) && (List.range ops.size).all fun i=>T (fun j=>decide (j < i)) i
def tableD (d:Bool) (ops:Array Oper) (T:(Nat->Bool)->Nat->Bool):Bool:=if d then tableB ops T else seqB' ops T

theorem wp_region_invD {id:Nat} {d:Bool} {l:List Oper} {a:Act} {w:World} (hm:P.follows .mixedOrders=true) (T:(Nat->Bool)->Nat->Bool) (hB:tableD d l.toArray T=true)
    (I:(Nat->Bool)->Act->World->Prop) (h0:I (fun _=>false) a w) (h0':I (fun _=>false) a w.drew)
    (hs:∀ s a w,I s a w->∀ i o,l[i]?=some o->s i=false->T s i=true->∀ K:Act->World->Prop,(∀ a w,I (fun j=>if j=i then true else s j) a w->K a w)->o.wp P a w K Q)
    (hd:∀ s a w,I s a w->(∀ j,j < l.length->s j=true)->Q .normal a w):(Code.region id l.toArray d).wp P Q a w:=by
  cases d with
  | true=>exact wp_region_inv hm T hB I h0' hs hd
  | false=>
    refine wp_region_lit ?_
    simp only [tableD,Bool.false_eq_true,if_false,seqB',Bool.and_eq_true] at hB
    have go:∀ (rest:List Oper) (k:Nat) (a:Act) (w:World),l.drop k=rest->k<=l.length->I (fun j=>decide (j < k)) a w->wpList P l.toArray Q rest a w:=by
      intro rest
      induction rest with
      | nil=>
        intro k a w hk hkl hI
        have:l.length<=k:=List.drop_eq_nil_iff.1 hk
        exact wpList_nil (hd _ _ _ hI (fun j hj=>decide_eq_true (by omega)))
      | cons o rest ih=>
        intro k a w hk hkl hI
        have hlt:k < l.length:=by
          apply Nat.lt_of_not_le
          intro h
          rw [List.drop_eq_nil_of_le h] at hk
          cases hk
        have ho:l[k]?=some o:=by
          have:=List.getElem?_drop (xs:=l) (i:=k) (j:=0)
          rw [hk] at this
          simpa using this.symm
        have hg:o.guard=none:=by
          have:=hB.1
          rw [Array.all_eq_true'] at this
          have:=this o (by simpa using List.mem_of_getElem? ho)
          simpa using this
        have hT:=List.all_eq_true.1 hB.2 k (by simpa using hlt)
        refine wpList_plain hg fun K hK=>hs _ a w hI k o ho (by simp) hT K (fun a' w' h=>hK _ _ (ih (k + 1) a' w' (by rw [<-List.drop_drop,hk]; rfl) hlt ?_))
        have e:(fun j=>if j=k then true else decide (j < k))=(fun j=>decide (j < k + 1)):=by
          funext j
          by_cases h:j=k
          · subst h; simp
          rw [if_neg h]
          by_cases g:j < k
          · rw [decide_eq_true g,decide_eq_true (by omega)]
          rw [decide_eq_false g,decide_eq_false (by omega)]
        rw [e] at h
        exact h
    refine go l 0 a w rfl (Nat.zero_le _) ?_
    have e:(fun j=>decide (j < 0))=(fun _:Nat=>false):=by funext j; simp
    rw [e]
    exact h0

theorem eval_put (a:Act) (d:Nat) (v:Value) (h:d < a.tmps.size):(a.put (some d) v).eval (.tmp d)=v:=by simp [Act.put,Act.eval,h]
theorem eval_put_ne (a:Act) (d k:Nat) (v:Value) (h:d ≠ k):(a.put (some d) v).eval (.tmp k)=a.eval (.tmp k):=by
  simp only [Act.put,Act.eval,Array.getD_eq_getD_getElem?]
  rw [Array.getElem?_setIfInBounds_ne h]
theorem kp {a:Act} {d k i j:Nat} {v w:Value} {s:Nat->Bool} (h:s j=true->a.eval (.tmp k)=w) (hj:j ≠ i:=by decide) (hk:d ≠ k:=by decide):
    (if j=i then true else s j)=true->(a.put (some d) v).eval (.tmp k)=w:=fun g=>(eval_put_ne _ _ _ _ hk).trans (h (by rwa [if_neg hj] at g))
theorem size_put (a:Act) (d:Nat) (v:Value):(a.put (some d) v).tmps.size=a.tmps.size:=by simp [Act.put]

theorem step_call {o:Oper} {a:Act} {w:World} {K:Act->World->Prop} (f:FuncId) (hf:∀ args w,(callFunc f args).run P w=.ok (.enter f args) w) (xs:Array Operand) (ts:Array TypeId) (ho:o.op=.call { callee:=.value (.func f),args:=xs,argTypes:=ts })
    (args:Array Value) (hx:xs.map a.eval=args) (hc:Calls P f args w fun e w'=>∃ v,e=.returned v/\K (a.put o.dst v) w'):o.wp P a w K Q:=by
  unfold Oper.wp
  have hrun:(execOp a.eval o).run P w=.ok (.enter f args) w:=by
    subst hx
    simp only [execOp,ho,resolve,Act.eval,Deferred.ofValue,invoke]; simp [hf]
  rw [hrun,Oper.upon_enter]
  exact hc.mono fun e w' ⟨v,he,hk⟩=>by subst he; exact hk

end

section
variable {P:Program} {Q:Exit->Act->World->Prop}

def need (ops:Array Oper):Nat->Nat->Nat->Bool
  | 0,_,_=>false
  | f + 1,i,d=>match ops[i]? with
    | some o=>o.after.any fun e=>Region.binds .any e && (e.on == d || need ops f e.on d)
    | none=>false
def lowB (ops:Array Oper) (i:Nat):Bool:=match ops[i]? with
  | some o=>o.after.all fun e=>!Region.binds .any e || decide (e.on < i)
  | none=>true
def tableL (d:Bool) (ops:Array Oper) (pos neg:Nat->List Nat):Bool:=
  ops.all (fun o=>o.guard.isNone) && (List.range ops.size).all fun i=>
    if d then (pos i).all (fun j=>need ops ops.size i j) && (neg i).all (fun k=>need ops ops.size k i) && lowB ops i
    else (pos i).all (fun j=>decide (j < i)) && (neg i).all (fun k=>decide (i < k))
def listT (pos neg:Nat->List Nat) (s:Nat->Bool) (i:Nat):Bool:=(pos i).all s && (neg i).all fun k=>!s k

theorem list_pos {pos neg:Nat->List Nat} {s:Nat->Bool} {i d:Nat} (h:listT pos neg s i=true) (hd:d ∈ pos i):s d=true:=by
  unfold listT at h
  rw [Bool.and_eq_true] at h
  exact List.all_eq_true.1 h.1 d hd
theorem list_neg {pos neg:Nat->List Nat} {s:Nat->Bool} {i k:Nat} (h:listT pos neg s i=true) (hk:k ∈ neg i):s k=false:=by
  unfold listT at h
  rw [Bool.and_eq_true] at h
  have:=List.all_eq_true.1 h.2 k hk
  simpa using this

theorem closed_after {ops:Array Oper} {l:Array Bool} (hc:closedB ops l=true) {i:Nat} {o:Oper} (ho:ops[i]?=some o) (hi:l.getD i false=true):∀ e ∈ o.after,Region.binds .any e=true->l.getD e.on false=true:=by
  unfold closedB at hc
  have h:=List.all_eq_true.1 hc i (by have:=(Array.getElem?_eq_some_iff.1 ho).1; simpa using this)
  rw [hi,ho] at h
  simp only [Bool.not_true,Bool.false_or] at h
  rw [Array.all_eq_true'] at h
  intro e he hb
  have:=h e he
  rw [hb] at this
  simpa using this
theorem need_spec {ops:Array Oper} {l:Array Bool} (hc:closedB ops l=true):∀ (f i d:Nat),(∀ o,ops[i]?=some o->∀ e ∈ o.after,Region.binds .any e=true->l.getD e.on false=true)->need ops f i d=true->l.getD d false=true
  | 0,i,d,_,h=>by simp [need] at h
  | f + 1,i,d,ha,h=>by
    unfold need at h
    cases ho:ops[i]? with
    | none=>rw [ho] at h; simp at h
    | some o=>
      rw [ho] at h
      simp only at h
      obtain ⟨e,he,hb⟩:=Array.any_eq_true'.1 h
      simp only [Bool.and_eq_true,Bool.or_eq_true,beq_iff_eq] at hb
      have l1:=ha o ho e he hb.1
      rcases hb.2 with h2 | h2
      · rw [<-h2]; exact l1
      exact need_spec hc f e.on d (fun o' ho'=>closed_after hc ho' l1) h2

theorem tab_of {ops:Array Oper} {pos neg:Nat->List Nat} (hB:tableL true ops pos neg=true) (l:Array Bool) (hl:l.size=ops.size) (hc:closedB ops l=true):
    (∀ i ∈ Region.ready .any ops l,listT pos neg (fun j=>l.getD j false) i=true)/\(Region.ready .any ops l=[]->∀ j,j < ops.size->l.getD j false=true):=by
  simp only [tableL,Bool.and_eq_true] at hB
  have row:∀ i,i < ops.size->((pos i).all (fun j=>need ops ops.size i j)=true/\(neg i).all (fun k=>need ops ops.size k i)=true)/\lowB ops i=true:=by
    intro i hi
    have:=List.all_eq_true.1 hB.2 i (by simpa using hi)
    simpa only [if_true,Bool.and_eq_true] using this
  refine ⟨fun i hi=>?_,fun hr=>?_⟩
  · obtain ⟨h1,o,ho,h2⟩:=mem_ready.1 hi
    have il:=(Array.getElem?_eq_some_iff.1 ho).1
    obtain ⟨⟨hp,hn⟩,_⟩:=row i il
    have fi:l.getD i false=false:=getD_both h1
    unfold listT
    rw [Bool.and_eq_true]
    refine ⟨List.all_eq_true.2 fun d hd=>?_,List.all_eq_true.2 fun k hk=>?_⟩
    · exact need_spec hc _ i d (fun o' ho'=>by rw [ho] at ho'; cases ho'; exact h2) (List.all_eq_true.1 hp d hd)
    cases hkl:l.getD k false with
    | false=>show (!l.getD k false)=true; rw [hkl]; rfl
    | true=>
      have:=need_spec hc _ k i (fun o' ho'=>closed_after hc ho' hkl) (List.all_eq_true.1 hn k hk)
      rw [fi] at this
      cases this
  intro j
  induction j using Nat.strongRecOn with
  | _ j ih=>
    intro hj
    cases hjl:l.getD j false with
    | true=>rfl
    | false=>
      have ho:ops[j]?=some ops[j]:=by simp [hj]
      have lw:=(row j hj).2
      unfold lowB at lw
      rw [ho] at lw
      simp only at lw
      rw [Array.all_eq_true'] at lw
      have:j ∈ Region.ready .any ops l:=mem_ready.2 ⟨getD_in (by omega) hjl,_,ho,fun e he hb=>by
        have:=lw e he
        rw [hb] at this
        have lt:e.on < j:=by simpa using this
        exact ih e.on lt (by omega)⟩
      rw [hr] at this
      cases this

theorem wpAny_invT {ops:Array Oper} {T:(Nat->Bool)->Nat->Bool} (hg:∀ (i:Nat) (o:Oper),ops[i]?=some o->o.guard=none)
    (tab:∀ l:Array Bool,l.size=ops.size->closedB ops l=true->(∀ i ∈ Region.ready .any ops l,T (fun j=>l.getD j false) i=true)/\(Region.ready .any ops l=[]->∀ j,j < ops.size->l.getD j false=true))
    (I:(Nat->Bool)->Act->World->Prop)
    (hs:∀ s a w,I s a w->∀ i o,ops[i]?=some o->s i=false->T s i=true->∀ K:Act->World->Prop,(∀ a w,I (fun j=>if j=i then true else s j) a w->K a w)->o.wp P a w K Q)
    (hd:∀ s a w,I s a w->(∀ j,j < ops.size->s j=true)->Q .normal a w):
    ∀ (fuel:Nat) (l:Array Bool) (a:Act) (w:World),l.size=ops.size->closedB ops l=true->lefts l.toList<=fuel->I (fun j=>l.getD j false) a w->wpAny P .any ops Q fuel l a w:=by
  have step:∀ (l:Array Bool) (a:Act) (w:World) (i:Nat),l.size=ops.size->closedB ops l=true->I (fun j=>l.getD j false) a w->i ∈ Region.ready .any ops l →
      l.toList[i]?=some false/\∀ K:Act->World->Prop,(∀ a w,I (fun j=>(l.setIfInBounds i true).getD j false) a w->K a w)->wpOp P ops Q i K a w:=by
    intro l a w i hl hc hI hi
    obtain ⟨h1,o,ho,h2⟩:=mem_ready.1 hi
    have hil:i < l.size:=by
      rw [hl]
      exact (Array.getElem?_eq_some_iff.1 ho).1
    have hf:l[i]=false:=by simpa [Array.getD,hil] using h1
    refine ⟨by simp [hil,hf],fun K hK=>wpOp_step ho fun K' hK'=>?_⟩
    rw [if_pos (wanted_none (hg i o ho) a)]
    refine hs _ a w hI i o ho (by simp [Array.getD,hil,hf]) ((tab l hl hc).1 i hi) K' (fun a' w' h=>hK' _ _ (hK _ _ ?_))
    have e:(fun j=>(l.setIfInBounds i true).getD j false)=(fun j=>if j=i then true else l.getD j false):=by
      funext j
      by_cases h:j=i
      · subst h; simp [Array.getD,hil]
      rw [if_neg h]
      simp only [Array.getD_eq_getD_getElem?]
      rw [Array.getElem?_setIfInBounds_ne (Ne.symm h)]
    rw [e]
    exact h
  intro fuel
  induction fuel with
  | zero=>
    intro l a w hl hc hn hI
    have hr:Region.ready .any ops l=[]:=by
      cases hr:Region.ready .any ops l with
      | nil=>rfl
      | cons i r=>
        have:=lefts_set _ i (step l a w i hl hc hI (by rw [hr]; simp)).1
        omega
    exact ⟨hr,hd _ _ _ hI ((tab l hl hc).2 hr)⟩
  | succ fuel ih=>
    intro l a w hl hc hn hI
    refine ⟨fun hr=>hd _ _ _ hI ((tab l hl hc).2 hr),fun i hi=>?_⟩
    obtain ⟨h1,h2⟩:=step l a w i hl hc hI hi
    have:=lefts_set _ i h1
    exact h2 _ (fun a' w' h=>ih _ a' w' (by simpa using hl) (closedB_set hc hi) (by rw [Array.toList_setIfInBounds]; omega) h)

theorem wp_region_invL {id:Nat} {d:Bool} {l:List Oper} {a:Act} {w:World} (hm:P.follows .mixedOrders=true) (pos neg:Nat->List Nat) (hB:tableL d l.toArray pos neg=true)
    (I:(Nat->Bool)->Act->World->Prop) (h0:I (fun _=>false) a w) (h0':I (fun _=>false) a w.drew)
    (hs:∀ s a w,I s a w->∀ i o,l[i]?=some o->s i=false->listT pos neg s i=true->∀ K:Act->World->Prop,(∀ a w,I (fun j=>if j=i then true else s j) a w->K a w)->o.wp P a w K Q)
    (hd:∀ s a w,I s a w->(∀ j,j < l.length->s j=true)->Q .normal a w):(Code.region id l.toArray d).wp P Q a w:=by
  have hg:∀ (i:Nat) (o:Oper),l.toArray[i]?=some o->o.guard=none:=by
    intro i o ho
    simp only [tableL,Bool.and_eq_true] at hB
    have:=hB.1
    rw [Array.all_eq_true'] at this
    have:=this o (Array.mem_of_getElem? ho)
    simpa using this
  cases d with
  | true=>
    refine wp_region_any hm ?_
    refine wpAny_invT hg (tab_of hB) I (fun s a w hI i o ho=>hs s a w hI i o (by simpa using ho)) (fun s a w hI h=>hd s a w hI (by simpa using h)) _ _ a _ (by simp) (closedB_none _ _) (by rw [Array.toList_replicate,lefts_replicate]; exact Nat.le_refl _) ?_
    have e:(fun j=>(Array.replicate l.toArray.size false).getD j false)=(fun _=>false):=by
      funext j
      exact getD_replicate_false _ _
    rw [e]
    exact h0'
  | false=>
    refine wp_region_invD hm (listT pos neg) ?_ I h0 h0' hs hd
    simp only [tableL,Bool.and_eq_true] at hB
    simp only [tableD,Bool.false_eq_true,if_false,seqB',Bool.and_eq_true]
    refine ⟨hB.1,List.all_eq_true.2 fun i hi=>?_⟩
    have h:=List.all_eq_true.1 hB.2 i hi
    simp only [Bool.false_eq_true,if_false,Bool.and_eq_true] at h
    unfold listT
    rw [Bool.and_eq_true]
    refine ⟨h.1,List.all_eq_true.2 fun k hk=>?_⟩
    have:=List.all_eq_true.1 h.2 k hk
    have lt:i < k:=by simpa using this
    simp only [Bool.not_eq_true',decide_eq_false_iff_not]
    omega
end
def Off (S:List Nat) (a A:Act):Prop:=a.defers=A.defers/\a.tmps.size=A.tmps.size/\∀ k,k ∉ S->a.tmps[k]?=A.tmps[k]?
theorem Off.refl (S:List Nat) (A:Act):Off S A A:=⟨rfl,rfl,fun _ _=>rfl⟩
theorem Off.put {S:List Nat} {a A:Act} (h:Off S a A) {d:Nat} (hd:d ∈ S) (v:Value):Off S (a.put (some d) v) A:=by
  refine ⟨h.1,by rw [size_put]; exact h.2.1,fun k hk=>?_⟩
  have:d ≠ k:=fun e=>hk (e ▸ hd)
  show (a.tmps.setIfInBounds d v)[k]?=_
  rw [Array.getElem?_setIfInBounds_ne this]
  exact h.2.2 k hk
theorem ev_ {a:Act} {d:Nat} {v w:Value} {P:Prop} (h:d < a.tmps.size) (e:v=w:=by rfl):P->(a.put (some d) v).eval (.tmp d)=w:=fun _=>(eval_put _ _ _ h).trans e
theorem ofp {S:List Nat} {a A:Act} {d:Nat} {v:Value} (h:Off S a A) (hd:d ∈ S:=by decide):Off S (a.put (some d) v) A:=h.put hd v
theorem Off.put_none {S:List Nat} {a A:Act} (h:Off S a A) (v:Value):Off S (a.put none v) A:=h
theorem Off.eval {S:List Nat} {a A:Act} (h:Off S a A) {k:Nat} (hk:k ∉ S):a.eval (.tmp k)=A.eval (.tmp k):=by
  simp only [Act.eval,Array.getD_eq_getD_getElem?]
  rw [h.2.2 k hk]
theorem off_norm:∀ (S:List Nat) {a A:Act},(∀ d ∈ S,d < A.tmps.size)->Off S a A->a=S.foldl (fun B d=>B.put (some d) (a.eval (.tmp d))) A
  | [],a,A,hs,h=>by
    obtain ⟨h1,h2,h3⟩:=h
    cases a; cases A
    simp only [List.foldl]
    simp only at h1 h2 h3
    subst h1
    congr 1
    exact Array.ext_getElem? (fun k=>h3 k (by simp))
  | d :: S,a,A,hs,h=>by
    simp only [List.foldl]
    refine off_norm S (fun e he=>by rw [size_put]; exact hs e (by simp [he])) ⟨h.1,by rw [size_put]; exact h.2.1,fun k hk=>?_⟩
    by_cases e:k=d
    · subst e
      have h1:k < A.tmps.size:=hs k (by simp)
      have h2:k < a.tmps.size:=by rw [h.2.1]; exact h1
      show a.tmps[k]?=(A.tmps.setIfInBounds k _)[k]?
      rw [Array.getElem?_setIfInBounds_self_of_lt h1]
      simp [Act.eval,h2]
    show a.tmps[k]?=(A.tmps.setIfInBounds d _)[k]?
    rw [Array.getElem?_setIfInBounds_ne (Ne.symm e)]
    exact h.2.2 k (by simp [e,hk])

def pick (l:List Oper) (i:Nat):Option (Op × Option Tmp):=(l[i]?).map fun o=>(o.op,o.dst)
theorem pick_of {l:List Oper} {i:Nat} {o:Oper} {x:Op} {d:Option Tmp} (h:pick l i=some (x,d)) (ho:l[i]?=some o):o.op=x/\o.dst=d:=by
  unfold pick at h
  rw [ho] at h
  simpa using h

section
variable {P:Program} {Q:Exit->Act->World->Prop}
theorem step_val {o:Oper} {a:Act} {w:World} {K:Act->World->Prop} {v:Value} (hv:(execOp a.eval o).run P w=.ok (.value v) w) (h:K (a.put o.dst v) w):o.wp P a w K Q:=by
  unfold Oper.wp
  rw [hv,Oper.upon_value]
  exact h
theorem step_to {o:Oper} {a:Act} {w w2:World} {K:Act->World->Prop} (hv:(execOp a.eval o).run P w=.ok .skip w2) (h:K (a.put o.dst undef) w2):o.wp P a w K Q:=by
  unfold Oper.wp
  rw [hv]
  exact h
end
end Go.Proofs.YtchfkncbemjepaaGreat
/- Regions that draw the order of their first operations, by an invariant over what has come up, and end with operations in a fixed order. -/
namespace Go.Proofs.YtchfkncbemjepaaGreat
open Go.RowKit

section
variable {P:Program} {Q:Exit->Act->World->Prop}
def tableH (ops:Array Oper) (n:Nat) (pos neg:Nat->List Nat):Bool:=
  decide (n < ops.size) && Region.sinkB .any ops n && Region.chainB .any ops n && Region.seqB .any ops (ops.size - n) n (Array.replicate n true ++ Array.replicate (ops.size - n) false) &&
  (List.range n).all fun i=>(match ops[i]? with | some o=>o.guard.isNone | none=>true) && (pos i).all (fun j=>need ops ops.size i j) && (neg i).all (fun k=>need ops ops.size k i) && lowB ops i

theorem closedB_of {ops:Array Oper} {l:Array Bool} (h:closedB ops l=true):∀ j oj,ops[j]?=some oj->l.getD j false=true->∀ e ∈ oj.after,Region.binds .any e=true->l.getD e.on false=true:=
  fun j oj ho hj=>closed_after h ho hj

theorem wpAny_head {ops:Array Oper} {n:Nat} {pos neg:Nat->List Nat} (hB:tableH ops n pos neg=true) (I:(Nat->Bool)->Act->World->Prop)
    (hs:∀ s a w,I s a w->∀ i o,i < n->ops[i]?=some o->s i=false->listT pos neg s i=true->∀ K:Act->World->Prop,(∀ a w,I (fun j=>if j=i then true else s j) a w->K a w)->o.wp P a w K Q)
    (hd:∀ s a w,I s a w->(∀ j,j < n->s j=true)->wpList P ops Q (ops.toList.drop n) a w):
    ∀ (fuel:Nat) (l:Array Bool) (a:Act) (w:World),l.size=ops.size->closedB ops l=true->(∀ t,n<=t->t < ops.size->l.getD t true=false)->lefts l.toList=fuel->I (fun j=>l.getD j false) a w->wpAny P .any ops Q fuel l a w:=by
  simp only [tableH,Bool.and_eq_true,decide_eq_true_eq] at hB
  obtain ⟨⟨⟨⟨hn,hS⟩,hC⟩,hQ⟩,hrows⟩:=hB
  have row:∀ i,i < n->(((match ops[i]? with | some o=>o.guard.isNone | none=>true)=true/\(pos i).all (fun j=>need ops ops.size i j)=true)/\(neg i).all (fun k=>need ops ops.size k i)=true)/\lowB ops i=true:=by
    intro i hi
    have:=List.all_eq_true.1 hrows i (by simpa using hi)
    simpa only [Bool.and_eq_true] using this
  have tab:∀ l:Array Bool,l.size=ops.size->closedB ops l=true->∀ i,i < n->i ∈ Region.ready .any ops l->listT pos neg (fun j=>l.getD j false) i=true:=by
    intro l hl hc i hin hi
    obtain ⟨h1,o,ho,h2⟩:=mem_ready.1 hi
    obtain ⟨⟨⟨_,hp⟩,hng⟩,_⟩:=row i hin
    have fi:l.getD i false=false:=getD_both h1
    unfold listT
    rw [Bool.and_eq_true]
    refine ⟨List.all_eq_true.2 fun d hd=>?_,List.all_eq_true.2 fun k hk=>?_⟩
    · exact need_spec hc _ i d (fun o' ho'=>by rw [ho] at ho'; cases ho'; exact h2) (List.all_eq_true.1 hp d hd)
    cases hkl:l.getD k false with
    | false=>show (!l.getD k false)=true; rw [hkl]; rfl
    | true=>
      have:=need_spec hc _ k i (fun o' ho'=>closed_after hc ho' hkl) (List.all_eq_true.1 hng k hk)
      rw [fi] at this
      cases this
  have some_ready:∀ l:Array Bool,l.size=ops.size->closedB ops l=true->Region.ready .any ops l=[]->∀ j,j < n->l.getD j false=true:=by
    intro l hl hc hr j
    induction j using Nat.strongRecOn with
    | _ j ih=>
      intro hj
      cases hjl:l.getD j false with
      | true=>rfl
      | false=>
        have ho:ops[j]?=some ops[j]:=by simp
        have lw:=(row j hj).2
        unfold lowB at lw
        rw [ho] at lw
        simp only at lw
        rw [Array.all_eq_true'] at lw
        have:j ∈ Region.ready .any ops l:=mem_ready.2 ⟨getD_in (by omega) hjl,_,ho,fun e he hb=>by
          have:=lw e he
          rw [hb] at this
          have lt:e.on < j:=by simpa using this
          exact ih e.on lt (by omega)⟩
        rw [hr] at this
        cases this
  intro fuel
  induction fuel with
  | zero=>
    intro l a w hl hc ht hf hI
    exfalso
    have h1:=ht n (Nat.le_refl _) hn
    have:∀ (l:List Bool),lefts l=0->∀ i,l.getD i true=true:=by
      intro l
      induction l with
      | nil=>intro _ i; simp
      | cons b l ih=>
        intro h i
        simp only [lefts] at h
        cases b with
        | false=>simp at h
        | true=>
          cases i with
          | zero=>rfl
          | succ i=>exact ih (by simpa using h) i
    have h2:=this l.toList hf n
    simp only [Array.getD_eq_getD_getElem?] at h1
    rw [List.getD_eq_getElem?_getD,Array.getElem?_toList] at h2
    rw [h2] at h1
    cases h1
  | succ fuel ih=>
    intro l a w hl hc ht hf hI
    by_cases hall:∀ j,j < n->l.getD j false=true
    · have e:l=Array.replicate n true ++ Array.replicate (ops.size - n) false:=by
        apply Array.ext_getElem?
        intro i
        by_cases hi:i < n
        · have h1:=hall i hi
          have il:i < l.size:=by omega
          rw [Array.getElem?_append_left (by simpa using hi),Array.getElem?_replicate,if_pos hi]
          simp only [Array.getD_eq_getD_getElem?,Array.getElem?_eq_getElem il,Option.getD_some] at h1
          rw [Array.getElem?_eq_getElem il,h1]
        by_cases hi2:i < ops.size
        · have h1:=ht i (by omega) hi2
          have il:i < l.size:=by omega
          rw [Array.getElem?_append_right (by simp; omega),Array.getElem?_replicate,if_pos (by simp; omega)]
          simp only [Array.getD_eq_getD_getElem?,Array.getElem?_eq_getElem il,Option.getD_some] at h1
          rw [Array.getElem?_eq_getElem il,h1]
        rw [Array.getElem?_eq_none (by omega),Array.getElem?_eq_none (by simp; omega)]
      have hl2:(ops.toList.drop n).length=ops.size - n:=by simp
      have hfu:fuel + 1=(ops.toList.drop n).length:=by
        rw [<-hf,hl2,e]
        rw [Array.toList_append]
        have la:∀ a b:List Bool,lefts (a ++ b)=lefts a + lefts b:=by
          intro a b
          induction a with
          | nil=>simp [lefts]
          | cons x a ih=>simp only [List.cons_append,lefts,ih]; omega
        have lt:∀ m,lefts (List.replicate m true)=0:=by
          intro m
          induction m with
          | zero=>rfl
          | succ m ih=>simp [List.replicate_succ,lefts,ih]
        rw [la,Array.toList_replicate,Array.toList_replicate,lt,lefts_replicate]
        omega
      rw [hfu]
      refine wpAny_of_seq _ n l a w (fun j=>by simp [List.getElem?_drop]) ?_ (hd _ a w hI hall)
      rw [hl2,e]
      exact hQ
    have inv:HeadInv .any ops n l:=⟨hl,closedB_of hc,ht⟩
    have hex:∃ i,i < n/\l.getD i true=false:=by
      apply Classical.byContradiction
      intro hno
      apply hall
      intro j hj
      cases hjl:l.getD j false with
      | true=>rfl
      | false=>exact absurd ⟨j,hj,getD_in (by omega) hjl⟩ hno
    obtain ⟨i0,hi0,hu0⟩:=hex
    refine ⟨fun hr=>absurd (some_ready l hl hc hr) hall,fun i hi=>?_⟩
    have hin:i < n:=by
      apply Nat.lt_of_not_le
      intro hle
      exact tail_waits hS hC hn inv _ i0 rfl hi0 hu0 i hle hi
    obtain ⟨h1,o,ho,h2⟩:=mem_ready.1 hi
    have hil:i < l.size:=by
      rw [hl]
      exact (Array.getElem?_eq_some_iff.1 ho).1
    have hfl:l[i]=false:=by simpa [Array.getD,hil] using h1
    have hls:l.toList[i]?=some false:=by simp [hil,hfl]
    have hlf:=lefts_set _ i hls
    have hg:o.guard=none:=by
      have:=(row i hin).1.1.1
      rw [ho] at this
      simpa using this
    refine wpOp_step ho fun K' hK'=>?_
    rw [if_pos (wanted_none hg a)]
    refine hs _ a w hI i o hin ho (by simp [Array.getD,hil,hfl]) (tab l hl hc i hin hi) K' (fun a' w' h=>hK' _ _ (ih _ a' w' (by simpa using hl) (closedB_set hc hi) (fun t h3 h4=>by rw [getD_set_ne true (by omega)]; exact ht t h3 h4) (by rw [Array.toList_setIfInBounds]; omega) ?_))
    have e:(fun j=>(l.setIfInBounds i true).getD j false)=(fun j=>if j=i then true else l.getD j false):=by
      funext j
      by_cases h:j=i
      · subst h; simp [Array.getD,hil]
      rw [if_neg h]
      simp only [Array.getD_eq_getD_getElem?]
      rw [Array.getElem?_setIfInBounds_ne (Ne.symm h)]
    rw [e]
    exact h

theorem wp_region_head {id:Nat} {l:List Oper} {a:Act} {w:World} (hm:P.follows .mixedOrders=true) (n:Nat) (pos neg:Nat->List Nat) (hB:tableH l.toArray n pos neg=true)
    (I:(Nat->Bool)->Act->World->Prop) (h0:I (fun _=>false) a w.drew)
    (hs:∀ s a w,I s a w->∀ i o,i < n->l[i]?=some o->s i=false->listT pos neg s i=true->∀ K:Act->World->Prop,(∀ a w,I (fun j=>if j=i then true else s j) a w->K a w)->o.wp P a w K Q)
    (hd:∀ s a w,I s a w->(∀ j,j < n->s j=true)->wpList P l.toArray Q (l.drop n) a w):(Code.region id l.toArray true).wp P Q a w:=by
  refine wp_region_any hm ?_
  have hn:n < l.toArray.size:=by
    simp only [tableH,Bool.and_eq_true,decide_eq_true_eq] at hB
    exact hB.1.1.1.1
  refine wpAny_head hB I (fun s a w hI i o hin ho=>hs s a w hI i o hin (by simpa using ho)) (fun s a w hI h=>hd s a w hI h) _ _ a _ (by simp) (closedB_none _ _) (fun t _ ht=>getD_in (by simpa using ht) (getD_replicate_false _ _)) (by rw [Array.toList_replicate,lefts_replicate]) ?_
  have e:(fun j=>(Array.replicate l.toArray.size false).getD j false)=(fun _=>false):=by
    funext j
    exact getD_replicate_false _ _
  rw [e]
  exact h0

theorem step_to1 {o:Oper} {a:Act} {w w2:World} {K:Act->World->Prop} {v:Value} (hv:(execOp a.eval o).run P w=.ok (.value v) w2) (h:K (a.put o.dst v) w2):o.wp P a w K Q:=by
  unfold Oper.wp
  rw [hv,Oper.upon_value]
  exact h
end
end Go.Proofs.YtchfkncbemjepaaGreat
/- Regions that draw the order of their first operations, some of them guarded, by an invariant over what has come up (RegH, with guards that hold). -/
namespace Go.Proofs.YtchfkncbemjepaaGreat
open Go.RowKit

section
variable {P:Program} {Q:Exit->Act->World->Prop}

end
end Go.Proofs.YtchfkncbemjepaaGreat
/- The table of a drawn head, decided without looking below what is searched for (RegHG's own search takes time without bound in regions of forty operations). -/
namespace Go.Proofs.YtchfkncbemjepaaGreat
open Go.RowKit

end Go.Proofs.YtchfkncbemjepaaGreat
