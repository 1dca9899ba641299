/- RangeR -/
import Derived.Test.YtchfkncbemjepaaGreatF2e
import Derived.RangeFuncNested
import Derived.RangeFuncBound
import Derived.RangeFuncCalls
import Derived.RangeFuncLeaves
set_option linter.unusedVariables false
/- StillIn's law at the wide fence itself: a region that draws its order, all of whose operations but a forced tail only read, in a function that yields. -/
namespace Go.Proofs.YtchfkncbemjepaaGreat
section
variable {P:Program} {ops:Array Oper} {md:Region.Mode} {w:World} {n:Nat}

theorem wpIn_of_stillW {o:Oper} {a:Act} {K:Act->Prop} {K':Act->World->Prop} {Q':Exit->Act->World->Prop} (hd:∀ c,o.op ≠ .defer c) (h:∀ a,K a->K' a w) (hh:o.still P a w K):o.wpIn (Fence.wide) n P a w K' Q':=by
  unfold Oper.still at hh
  unfold Oper.wpIn
  refine ⟨fun _ _=>trivial,?_⟩
  rw [Oper.semAt_eq _ _ _ hd]
  generalize (execOp a.eval o).run P w=r at *
  cases r with
  | ok x w'=>
    cases x <;> simp only [Oper.stillUpon] at hh <;> simp only [Oper.uponIn]
    case enter f args=>
      obtain ⟨rfl,v,hc,hn⟩:=hh
      refine ⟨fun hz=>(by cases hz),?_⟩
      have hc':CallsIn Fence.wide (n - 1) P f args w' (fun e w''=>e=.returned v/\w''=w'):=callsIn_wide.2 hc
      have hc2:CallsIn (Fence.wide) (n - 1) P f args w' (fun e w''=>e=.returned v/\w''=w'):=hc'
      exact hc2.mono fun e w'' ⟨he,hw⟩=>by subst he; subst hw; exact h _ hn
    all_goals (obtain ⟨rfl,h2⟩:=hh; exact h _ h2)
  | halt x w'=>simp only [Oper.stillUpon] at hh

theorem wpOpIn_of_stillW {i:Nat} {a:Act} {K:Act->Prop} {K':Act->World->Prop} {Q':Exit->Act->World->Prop} (hd:noDefer ops=true) (h:∀ a,K a->K' a w) (hh:stOp P ops w i K a):wpOpIn (Fence.wide) n P ops Q' i K' a w:=by
  unfold stOp at hh
  unfold wpOpIn
  split
  · rename_i ho; simp only [ho] at hh; exact h _ hh
  rename_i o ho
  simp only [ho] at hh
  split
  · rename_i hw; simp only [hw,if_true] at hh; exact wpIn_of_stillW (noDefer_spec hd ho) h hh
  rename_i hw; simp only [hw] at hh; exact ⟨fun _ _=>trivial,h _ hh⟩

theorem anyIn_of_headW {m g:Nat} {L:Array Bool->Act->Prop} {Q':Exit->Act->World->Prop} (hd:noDefer ops=true) (hL:∀ listed a,L listed a->wpAnyIn (Fence.wide) n P md ops Q' g listed a w):
    ∀ (f:Nat) (listed:Array Bool) (a:Act),wpAnyL P md ops w m L f listed a->wpAnyIn (Fence.wide) n P md ops Q' (f + g) listed a w
  | 0,listed,a,h=>by rw [Nat.zero_add]; exact hL _ _ h
  | f + 1,listed,a,h=>by
    rw [show f + 1 + g=(f + g) + 1 by omega]
    exact ⟨fun h0=>absurd h0 h.1,fun i hi=>wpOpIn_of_stillW hd (fun a' h'=>anyIn_of_headW hd hL f _ a' h') (h.2 i hi).2⟩

theorem wpIn_region_still_tailW {id:Nat} {Q:Exit->Act->World->Prop} {a:Act} {w:World} {xs:List Oper} (m:Nat) (hm:P.follows .mixedOrders=true) (hd:noDefer xs.toArray=true) (hB:Region.lexTailB .any xs.toArray m=true)
    (h:wpStill P xs.toArray { w with drawn:=w.drawn + 1 } (fun a'=>wpListIn (Fence.wide) n P xs.toArray Q (xs.drop m) a' { w with drawn:=w.drawn + 1 }) (xs.take m) a):(Code.region id xs.toArray true).wpIn (Fence.wide) n P Q a w:=by
  simp only [Region.lexTailB,Bool.and_eq_true,decide_eq_true_eq] at hB
  obtain ⟨⟨⟨⟨hsel,hn⟩,hs⟩,hc⟩,hlex⟩:=hB
  have hn':m < xs.length:=by simpa using hn
  have htl:(xs.take m).length=m:=by simp; omega
  have hdl:(xs.drop m).length=xs.toArray.size - m:=by simp
  have inv0:HeadInv .any xs.toArray m (Array.replicate xs.toArray.size false):=
    ⟨by simp,fun j oj _ hl=>(by rw [getD_replicate_false] at hl; cases hl),fun t _ ht=>getD_in (by simpa using ht) (getD_replicate_false _ _)⟩
  have H:=wpAnyL_lex (md:=.any) (g:=xs.toArray.size - m) hsel hs hc hn (xs.take m) 0 _ a (fun j hj=>by
    have hj':j < m:=by rw [htl] at hj; exact hj
    simp [hj']) (by simpa using htl) inv0 (by rw [htl]; exact hlex) h
  refine wpIn_region_any hm ?_
  have:=anyIn_of_headW (Q':=Q) (n:=n) (g:=xs.toArray.size - m) hd (fun listed a' hL=>by
    have:=anyIn_of_seq (md:=.any) (F:=Fence.wide) (n:=n) (Q':=Q) (xs.drop m) m listed a' { w with drawn:=w.drawn + 1 } (fun j=>by simp [List.getElem?_drop]) (by rw [hdl]; exact hL.1) hL.2
    rwa [hdl] at this) _ _ _ H
  rw [htl,show m + (xs.toArray.size - m)=xs.toArray.size by omega] at this
  exact this
end
end Go.Proofs.YtchfkncbemjepaaGreat

/- A range over a function whose rounds are told which element comes next: what was yielded and the next one stand in a relation R; no round leaves the loop early. At the wide fence. -/
namespace Go.Proofs.YtchfkncbemjepaaGreat
open Go.RowKit

def Yields {α:Type} (n:Nat) (P:Program) (gf:Nat) (lb:Array Value) (encs:α->Array Value) (R:List α->α->Prop) (S:List α->Prop) (w:World):Prop:=
  ∀ (l:Nat) (J:List α->World->Prop) (W:World),Below w.heap.size w W->AbidesFrom W.heap.size J →
    (∀ pre x W1,R pre x->J pre W1->YieldAt Fence.wide (n - 1) P l (encs x) W1 fun e W'=>e=.returned (.bool true)/\J (pre ++ [x]) W')->J [] W →
    CallsIn Fence.wide n P gf (#[.func (.yield l) #[] #[]] ++ lb) W fun e W'=>(∃ v,e=.returned v)/\∃ xs,S xs/\J xs W'
theorem range_told {α:Type} {P:Program} {g:Operand} {ps:Array Tmp} {assign body:Code} {Q:Exit->Act->World->Prop} {a:Act} {w:World} {n:Nat} (h1:1<=n) {gf:Nat} {lb:Array Value}
    (hg:a.eval g=.func (.func gf) #[] lb) (eg:∀ args w,(callFunc gf args).run P w=.ok (.enter gf args) w) {encs:α->Array Value} {R:List α->α->Prop} {S:List α->Prop}
    (hps:∀ x,(encs x).size=ps.size) (hseq:Yields (n - 1) P gf lb encs R S w) (I:List α->World->Prop) (hI:OwnFrom w.heap.size I) (h0:I [] w) (M:List α->α->Act->World->Prop)
    (hM:∀ pre x a1 W W' row,M pre x a1 W->W.grownBy W' row->(∀ r,row=some r->w.heap.size<=r/\∃ o:Obj,W.heap[r]?=some o/\o.isCells=false)->M pre x a1 W')
    (hassign:∀ (l:Nat) (pre:List α) (x:α) (W:World),R pre x->I pre W →
      assign.wpIn (Fence.wide.inRound l) (n - 1 - 1) P (Exit.then (fun a1 W1=>KeepsOthers W W1/\M pre x a1 W1) (fun _ _ _=>False)) { tmps:=(ps.zip (encs x)).foldl (fun t (p,v)=>t.setIfInBounds p v) a.tmps,defers:=[] } W)
    (hbody:∀ (l:Nat) (pre:List α) (x:α) (a1:Act) (W:World),R pre x->M pre x a1 W->body.wpIn (Fence.wide.inRound l) (n - 1 - 1) P (fun e _ W'=>e=.normal/\KeepsOthers W W'/\I (pre ++ [x]) W') a1 W)
    (hdone:∀ (D:Nat) (xs:List α) (W:World),w.heap.size<=D->S xs->I xs W->W.heap[D]?=some (.deferred (some []))->Q .normal { a with defers:={ target:=.collected D,args:=#[] } :: a.defers } W):
    (Code.rangeFunc g ps assign body).wpIn Fence.wide n P Q a w:=by
  refine wpIn_rangeFunc (fun fn hfn=>?_)
  -- the loop's record, ready and busy; the world in which the iterator is entered
  obtain ⟨rd,hrd⟩:∃ r:Loop,{ state:=.ready,pending:=none,fn,tmps:=a.tmps,params:=ps,assign,body,defers:=w.heap.size }=r:=⟨_,rfl⟩
  obtain ⟨by',hby⟩:∃ r:Loop,{ rd with state:=.busy }=r:=⟨_,rfl⟩
  obtain ⟨N,hN⟩:∃ N,w.heap.size=N:=⟨_,rfl⟩
  have er:=run_enterLoop_outer (P:=P) (w:=w) fn a.tmps ps assign body
  rw [hrd,hN] at er
  obtain ⟨W1,hW1⟩:∃ W1,(w.alloc (.deferred (some []))).alloc (.loop rd)=W1:=⟨_,rfl⟩
  rw [hW1] at er
  have sz:W1.heap.size=N + 2:=by rw [<-hW1,World.size_alloc,World.size_alloc,hN]
  have L1:W1.heap[N + 1]?=some (.loop rd):=by
    rw [<-hW1,<-hN]
    have:=World.alloc_heap_new (w.alloc (.deferred (some []))) (.loop rd)
    rwa [World.size_alloc] at this
  have D1:W1.heap[N]?=some (.deferred (some [])):=by
    rw [<-hW1,<-hN]
    exact (Below.heap_alloc _ _ _ (by rw [World.size_alloc]; omega)).trans (World.alloc_heap_new w _)
  have I1:I [] W1:=by rw [<-hW1]; exact hI.alloc _ (hI.alloc _ h0)
  have b1:Below w.heap.size w W1:=by
    rw [<-hW1]
    exact ((Below.refl _ w).alloc (Nat.le_refl _) _).trans (((Below.refl _ _).alloc (Nat.le_refl _) _).mono (by rw [World.size_alloc]; omega))
  rw [hN] at hI
  refine ⟨N + 1,[{ target:=.collected N,args:=#[] }],W1,{ target:=.fn (.func gf) lb,args:=#[.func (.yield (N + 1)) #[] #[]] },W1,gf,#[.func (.yield (N + 1)) #[] #[]] ++ lb,W1,er,?_,fun _ _=>trivial,?_,fun _=>h1,?_⟩
  · simp only [resolve,hg]
    simp [go_sem]
  · simp [invoke,go_sem,eg]
  -- what holds between two rounds: the caller's word, the record is ready, the block of deferred calls is open
  refine (hseq (N + 1) (fun pre W=>I pre W/\W.heap[N + 1]?=some (.loop rd)/\W.heap[N]?=some (.deferred (some []))) W1 b1 (fun s A B row hs hg' hr=>⟨?_,?_,?_⟩) (fun pre x W hR hJ=>?_) ⟨I1,L1,D1⟩).mono ?_
  · exact hI s A B row hs.1 hg' (fun r e=>by
      obtain ⟨q1,o,q2,q3⟩:=hr r e
      exact ⟨by omega,o,q2,Obj.not_cells_of_walk q3⟩)
  · exact (grownBy_keeps hg' (fun r e=>(hr r e).2) hs.2.1 rfl).trans hs.2.1
  · exact (grownBy_keeps hg' (fun r e=>(hr r e).2) hs.2.2 rfl).trans hs.2.2
  · obtain ⟨hi,hl,hd⟩:=hJ
    have hy:=run_yield (P:=P) (args:=encs x) hl (by rw [<-hrd]; exact hps x)
    rw [<-hrd] at hy
    refine ⟨fn,_,assign,body,hy,roundIn_of_wpIn hfn (wpIn_mono (hassign _ pre x W hR hi) ?_)⟩
    rintro e a1 Wa hp
    cases e with
    | normal=>
    obtain ⟨ka,m⟩:=hp
    have la:=ka.same _ _ hl rfl
    have da:=ka.same _ _ hd rfl
    have hb:=run_beginRound (P:=P) la (by rw [<-hrd])
    rw [hby] at hb
    have lt:=(Array.getElem?_eq_some_iff.1 la).1
    obtain ⟨W2,hW2⟩:∃ W2,Wa.putObj (N + 1) (.loop by')=W2:=⟨_,rfl⟩
    rw [hW2] at hb
    have l2:W2.heap[N + 1]?=some (.loop by'):=by rw [<-hW2]; exact World.putObj_heap_same lt
    have d2:W2.heap[N]?=some (.deferred (some [])):=by rw [<-hW2]; exact (World.putObj_heap_other (by omega)).trans da
    have m2:M pre x a1 W2:=by
      rw [<-hW2]
      exact hM _ _ _ _ _ (some (N + 1)) m (grownBy_putObj' Wa (N + 1) _) (fun r e=>by cases e; exact ⟨by omega,_,la,rfl⟩)
    refine ⟨W2,hb,wpIn_mono (hbody _ pre x a1 W2 hR m2) ?_⟩
    rintro e a3 W3 ⟨rfl,k3,i3⟩
    have l3:=k3.same _ _ l2 rfl
    have d3:=k3.same _ _ d2 rfl
    have hr:=run_endRound (P:=P) none l3
    rw [show { by' with state:=if (none:Option Code).isNone then LoopState.ready else .done,pending:=none }=rd by rw [<-hby,<-hrd]; rfl] at hr
    exact ⟨_,_,hr,rfl,hI.putObj _ i3 (by omega) l3 rfl,World.putObj_heap_same (Array.getElem?_eq_some_iff.1 l3).1,(World.putObj_heap_other (by omega)).trans d3⟩
    | _=>exact hp.elim
  rintro e W2 ⟨⟨v,rfl⟩,xs,hS,hi,hl,hd⟩
  have he:=run_endLoop (P:=P) hl (by rw [<-hrd]; simp)
  rw [show rd.pending=none by rw [<-hrd]] at he
  exact ⟨none,_,he,hdone N xs _ (by omega) hS (hI.putObj _ hi (by omega) hl rfl) ((World.putObj_heap_other (by omega)).trans hd)⟩
end Go.Proofs.YtchfkncbemjepaaGreat
