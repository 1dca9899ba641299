/- ChWhP -/
import Derived.Test.YtchfkncbemjepaaGreatTmWhole
import Derived.Test.YtchfkncbemjepaaGreatChShP
set_option linter.unusedVariables false
/- Layer 11, pure: all frames of a channel arrive: what the demux makes of the fields of a filler. -/
namespace Go.Proofs.YtchfkncbemjepaaGreat.Ch
open Go.Proofs.YtchfkncbemjepaaGreat

theorem take_all {p:Pkt} (h:Pk.Ok p):Pk.take (Pk.enc p)=.ok p (Pk.enc p).length:=by
  have:=Pk.take_enc h []
  rwa [List.append_nil] at this
theorem pks_flat:∀ (U:List (Bool × List UInt8)) (f:Nat) (pt:List UInt8),(∀ x ∈ U,Tm.Pkd x)->U.length<=f->Pk.take pt=.none →
    (pks f (Tm.flat U ++ pt)).2=pt/\kept (pks f (Tm.flat U ++ pt)).1=Tm.real U
  | [],f,pt,_,_,h=>by
    show (pks f ([] ++ pt)).2=pt/\kept (pks f ([] ++ pt)).1=[]
    rw [List.nil_append,pks_no (fun p k e=>by rw [h] at e; cases e)]
    exact ⟨rfl,rfl⟩
  | x :: U,f,pt,hU,hf,h=>by
    obtain ⟨p,e,ok,hi⟩:=hU x (List.mem_cons_self ..)
    cases f with
    | zero=>exact absurd hf (by simp)
    | succ f=>
      have ih:=pks_flat U f pt (fun y hy=>hU y (List.mem_cons_of_mem _ hy)) (by rw [List.length_cons] at hf; omega) h
      have es:Tm.flat (x :: U) ++ pt=Pk.enc p ++ (Tm.flat U ++ pt):=by rw [Tm.flat_cons,e,List.append_assoc]
      rw [es,pks_ok (Pk.take_enc ok _),List.drop_left,List.take_left]
      refine ⟨ih.1,?_⟩
      show kept ([(p,Pk.enc p)] ++ (pks f (Tm.flat U ++ pt)).1)=_
      rw [kept_app,ih.2,kept_one]
      obtain ⟨b,l⟩:=x
      cases b with
      | true=>
        rw [if_pos (hi.1 rfl)]
        rfl
      | false=>
        rw [if_neg (fun g=>by have:=hi.2 g; cases this)]
        show [Pk.enc p] ++ Tm.real U=l :: Tm.real U
        rw [<-e]
        rfl
theorem flat_count {U:List (Bool × List UInt8)} (h:∀ x ∈ U,Tm.Pkd x):U.length<=(Tm.flat U).length:=by
  induction U with
  | nil=>exact Nat.zero_le _
  | cons x U ih=>
    have:=(h x (List.mem_cons_self ..)).len
    have:=ih (fun y hy=>h y (List.mem_cons_of_mem _ hy))
    rw [Tm.flat_cons,List.length_append,List.length_cons]
    omega
theorem begin_flat {U:List (Bool × List UInt8)} {pt:List UInt8} (hU:∀ x ∈ U,Tm.Pkd x) (h:Pk.take pt=.none):begin (Tm.flat U ++ pt)=(pt,Tm.real U,0):=by
  obtain ⟨h1,h2⟩:=pks_flat U (Tm.flat U ++ pt).length pt hU (by have:=flat_count hU; rw [List.length_append]; omega) h
  unfold begin
  rw [h1,h,h2]
structure Lk (T:List (Bool × List UInt8)) (out rest pt:List UInt8) (got:List (List UInt8)):Prop where
  pk:∀ x ∈ T,Tm.Pkd x
  bytes:Tm.flat T=out ++ rest
  some:(rest=[]/\pt=[]/\got=Tm.real T)\/(rest ≠ []/\pt ≠ []/\∃ T1 x,T=T1 ++ [x]/\x.2=pt ++ rest/\got=Tm.real T1)
theorem Lk.start:Lk [] [] [] [] []:=⟨fun x h=>(by cases h),rfl,.inl ⟨rfl,rfl,rfl⟩⟩
theorem take_open2 {x:Bool × List UInt8} (h:Tm.Pkd x) {pt rest:List UInt8} (e:x.2=pt ++ rest) (hr:rest ≠ []):Pk.take pt=.none:=by
  obtain ⟨p,ep,ok,_⟩:=h
  have:pt=(Pk.enc p).take pt.length:=by rw [<-ep,e,List.take_left]
  rw [this]
  refine Pk.take_cut ok _ ?_
  rw [<-ep,e,List.length_append]
  have:=List.length_pos_iff.2 hr
  omega
theorem goOn_whole {x:Bool × List UInt8} (h:Tm.Pkd x) {pt more:List UInt8} (e:x.2=pt ++ more) (hp:pt ≠ []) (op:Bool):goOn pt more op=([],Tm.real [x],0):=by
  obtain ⟨p,ep,ok,hi⟩:=h
  unfold goOn
  rw [if_neg hp,<-e,ep,take_all ok]
  simp only [if_true]
  rw [kept_one]
  obtain ⟨b,l⟩:=x
  cases b with
  | true=>rw [if_pos (hi.1 rfl)]; rfl
  | false=>
    rw [if_neg (fun g=>by have:=hi.2 g; cases this)]
    show _=([],[l],0)
    rw [<-ep]
theorem real_one (x:Bool × List UInt8) (T:List (Bool × List UInt8)):Tm.real (T ++ [x])=Tm.real T ++ Tm.real [x]:=Tm.real_app _ _
theorem goOn_rest {T:List (Bool × List UInt8)} {out rest pt:List UInt8} {got:List (List UInt8)} (h:Lk T out rest pt got):∃ g,(goOn pt rest false).2=(g,0)/\got ++ g=Tm.real T:=by
  rcases h.some with ⟨e1,e2,e3⟩ | ⟨e1,e2,T1,x,e3,e4,e5⟩
  · subst e1 e2
    exact ⟨[],rfl,by rw [List.append_nil]; exact e3⟩
  refine ⟨Tm.real [x],?_,by rw [e3,real_one,e5]⟩
  rw [goOn_whole (h.pk x (by rw [e3]; simp)) e4 e2]
theorem Lk.next {T U:List (Bool × List UInt8)} {out rest pt f rest':List UInt8} {got:List (List UInt8)} (h:Lk T out rest pt got) (hU:∀ x ∈ U,Tm.Pkd x) (hb:Tm.flat (T ++ U)=out ++ f ++ rest') (hf:f ≠ []) (hl:f.length<=200)
    (hin:∀ U1 x U2,U=U1 ++ x :: U2->rest.length + (Tm.flat U1).length < f.length):
    ∃ pt' g,tk pt 0 (if U=[] then 2047 else rest.length) f=(pt',g,0)/\Lk (T ++ U) (out ++ f) rest' pt' (got ++ g):=by
  have E:rest ++ Tm.flat U=f ++ rest':=by
    rw [Tm.flat_app,h.bytes,List.append_assoc,List.append_assoc] at hb
    exact List.append_cancel_left hb
  have all:∀ x ∈ T ++ U,Tm.Pkd x:=fun x hx=>by
    rcases List.mem_append.1 hx with e | e
    · exact h.pk x e
    exact hU x e
  by_cases hu:U=[]
  · subst hu
    rw [if_pos rfl]
    have E':rest=f ++ rest':=by rw [<-E]; exact (List.append_nil _).symm
    have rn:rest ≠ []:=fun e=>by
      rw [e] at E'
      exact hf (List.append_eq_nil_iff.1 E'.symm).1
    rcases h.some with ⟨e1,_,_⟩ | ⟨e1,e2,T1,x,e3,e4,e5⟩
    · exact absurd e1 rn
    have tk1:tk pt 0 2047 f=((goOn pt f true).1,(goOn pt f true).2.1,(goOn pt f true).2.2):=by
      unfold tk
      simp
    have px:=h.pk x (by rw [e3]; simp)
    by_cases hr:rest'=[]
    · subst hr
      have e6:x.2=pt ++ f:=by rw [e4,E',List.append_nil]
      refine ⟨[],Tm.real [x],by rw [tk1,goOn_whole px e6 e2],all,hb,.inl ⟨rfl,rfl,?_⟩⟩
      rw [List.append_nil,e3,real_one,e5]
    have e6:x.2=(pt ++ f) ++ rest':=by rw [e4,E',List.append_assoc]
    have go:goOn pt f true=(pt ++ f,[],0):=by
      unfold goOn
      rw [if_neg e2,take_open2 px e6 hr]
      rfl
    refine ⟨pt ++ f,[],by rw [tk1,go],all,hb,.inr ⟨hr,by simp [e2],T1,x,by rw [List.append_nil]; exact e3,e6,by rw [List.append_nil]; exact e5⟩⟩
  rw [if_neg hu]
  have lt:rest.length < f.length:=by
    cases U with
    | nil=>exact absurd rfl hu
    | cons x U=>
      have:=hin [] x U rfl
      exact Nat.lt_of_le_of_lt (Nat.le_add_right _ _) this
  have hd:Tm.flat U=f.drop rest.length ++ rest':=by
    have:=congrArg (List.drop rest.length) E
    rw [List.drop_left,List.drop_append_of_le_length (by omega)] at this
    exact this
  have ht:f.take rest.length=rest:=by
    have:=congrArg (List.take rest.length) E
    rw [List.take_left,List.take_append_of_le_length (by omega)] at this
    exact this.symm
  obtain ⟨g0,hg0,hgT⟩:=goOn_rest h
  have tk1:tk pt 0 rest.length f=((begin (f.drop rest.length)).1,g0 ++ (begin (f.drop rest.length)).2.1,(begin (f.drop rest.length)).2.2):=by
    unfold tk
    rw [ht]
    simp only [ne_eq,not_true_eq_false,false_and,if_false]
    rw [if_neg (by omega),if_neg (by omega),hg0]
    simp
  rw [tk1]
  by_cases hr:rest'=[]
  · subst hr
    rw [List.append_nil] at hd
    have b:=begin_flat (pt:=[]) hU take_nil
    rw [List.append_nil,hd] at b
    rw [b]
    refine ⟨[],_,rfl,all,hb,.inl ⟨rfl,rfl,?_⟩⟩
    rw [<-List.append_assoc,hgT,Tm.real_app]
  obtain ⟨U0,y,rfl⟩:∃ U0 y,U=U0 ++ [y]:=⟨U.dropLast,U.getLast hu,(List.dropLast_concat_getLast hu).symm⟩
  have l0:=hin U0 y [] rfl
  rw [Tm.flat_app,show Tm.flat [y]=y.2 from List.append_nil _] at hd
  have ld:(f.drop rest.length).length=f.length - rest.length:=List.length_drop
  have h1:(f.drop rest.length).take (Tm.flat U0).length=Tm.flat U0:=by
    have:=congrArg (List.take (Tm.flat U0).length) hd
    rw [List.take_left,List.take_append_of_le_length (by omega)] at this
    exact this.symm
  have h2:y.2=(f.drop rest.length).drop (Tm.flat U0).length ++ rest':=by
    have:=congrArg (List.drop (Tm.flat U0).length) hd
    rw [List.drop_left,List.drop_append_of_le_length (by omega)] at this
    exact this
  obtain ⟨pt',hpt⟩:∃ z,(f.drop rest.length).drop (Tm.flat U0).length=z:=⟨_,rfl⟩
  have sp:f.drop rest.length=Tm.flat U0 ++ pt':=by
    rw [<-hpt]
    conv=>lhs; rw [<-List.take_append_drop (Tm.flat U0).length (f.drop rest.length),h1]
  rw [hpt] at h2
  have py:=hU y (by simp)
  have b:=begin_flat (U:=U0) (pt:=pt') (fun x hx=>hU x (List.mem_append_left _ hx)) (take_open2 py h2 hr)
  rw [sp,b]
  refine ⟨pt',_,rfl,all,hb,.inr ⟨hr,?_,T ++ U0,y,(List.append_assoc ..).symm,h2,?_⟩⟩
  · intro e
    have:=congrArg List.length hpt
    rw [e,List.length_drop,ld] at this
    simp at this
    omega
  rw [<-List.append_assoc,hgT,Tm.real_app]
structure Ck (A:List (List UInt8)) (s:Tm.Fl) (T:List (Bool × List UInt8)) (out pt:List UInt8) (got:List (List UInt8)):Prop where
  run:Tm.Run A s T out
  ends:Tm.Ends s T
  lk:Lk T out (s.re ++ Tm.pend s.q s.bg) pt got
  ad:∀ p ∈ A,Tm.Pkd (false,p)
theorem Ck.start:Ck [] ⟨[],false,[]⟩ [] [] [] []:=⟨Tm.Run.start,fun h=>absurd rfl h,Lk.start,fun p h=>(by cases h)⟩
theorem Ck.add {A:List (List UInt8)} {s:Tm.Fl} {T:List (Bool × List UInt8)} {out pt:List UInt8} {got:List (List UInt8)} (h:Ck A s T out pt got) {p:List UInt8} (hp:Tm.Pkd (false,p)):Ck (A ++ [p]) ⟨s.q ++ [p],s.bg,s.re⟩ T out pt got:=by
  have p0:p ≠ []:=fun e=>by
    have:=hp.len
    rw [e] at this
    simp at this
  refine ⟨h.run.add p0,h.ends,?_,fun x hx=>?_⟩
  · show Lk T out (s.re ++ Tm.pend (s.q ++ [p]) s.bg) pt got
    rw [(Tm.pend_add h.run.bgq p).1]
    exact h.lk
  rcases List.mem_append.1 hx with e | e
  · exact h.ad x e
  rw [List.mem_singleton.1 e]; exact hp
theorem mem_real {T:List (Bool × List UInt8)} {x:Bool × List UInt8} (h:x ∈ T) (hx:x.1=false):x.2 ∈ Tm.real T:=by
  unfold Tm.real
  exact List.mem_map.2 ⟨x,List.mem_filter.2 ⟨h,by rw [hx]; rfl⟩,rfl⟩
theorem Ck.next {idle:Nat->List UInt8} {n:Nat} {A:List (List UInt8)} {s:Tm.Fl} {T:List (Bool × List UInt8)} {out pt:List UInt8} {got:List (List UInt8)} (h:Ck A s T out pt got) (hi:∀ k,(idle k).length=k) (hd:∀ k,7<=k->k<=200->Tm.Pkd (true,idle k)) (hn:32<=n/\n<=200):
    ∃ T' pt' g,Ck A (Tm.next idle n s).2.2 T' (out ++ (Tm.next idle n s).1) pt' (got ++ g)/\tk pt 0 (Tm.next idle n s).2.1 (Tm.next idle n s).1=(pt',g,0):=by
  obtain ⟨U,v,hf,hU⟩:=h.run.next hi hn
  have hs:=h.run.short
  have nl:=Tm.next_len (n:=n) (s:=s) hi (by omega)
  have pl:=congrArg List.length (Tm.pend_flat s.q s.bg)
  rw [List.length_append] at pl
  have wl:Tm.wait s.q=s.q.flatten.length:=rfl
  have pU:∀ x ∈ U,Tm.Pkd x:=fun x hx=>by
    obtain ⟨b,l⟩:=x
    cases b with
    | false=>
      refine h.ad l ?_
      rw [v.pks,Tm.real_app]
      exact List.mem_append_left _ (List.mem_append_right _ (mem_real hx rfl))
    | true=>
      have no:∀ S:List (List UInt8),(true,l) ∉ Tm.tag S:=fun S e=>by
        obtain ⟨_,_,e⟩:=List.mem_map.1 e
        cases e
      rcases hU with e | ⟨k,k1,k2,e,_⟩
      · rw [e] at hx
        exact absurd hx (no _)
      rw [e] at hx
      rcases List.mem_append.1 hx with e2 | e2
      · exact absurd e2 (no _)
      cases List.mem_singleton.1 e2
      exact hd k k1 k2
  have inn:∀ U1 x U2,U=U1 ++ x :: U2->(s.re ++ Tm.pend s.q s.bg).length + (Tm.flat U1).length < (Tm.next idle n s).1.length:=fun U1 x U2 e=>by
    rw [nl,List.length_append]
    have em:=congrArg (List.map Prod.snd) e
    rw [List.map_append,List.map_cons] at em
    show _ + (U1.map Prod.snd).flatten.length < n
    rcases hU with rfl | ⟨j,j1,j2,rfl,j3⟩
    · rw [Tm.tag_snd] at em
      have:=Tm.started_in _ _ _ _ _ _ em
      omega
    rw [List.map_append,Tm.tag_snd] at em
    have:=Tm.pre_flat (l:=Tm.later s.q s.bg) (y:=idle j) em
    omega
  obtain ⟨pt',g,e,l⟩:=h.lk.next (rest':=(Tm.next idle n s).2.2.re ++ Tm.pend (Tm.next idle n s).2.2.q (Tm.next idle n s).2.2.bg) pU v.bytes (fun e=>by rw [e] at nl; simp at nl; omega) (by omega) inn
  rw [List.length_append,<-hf] at e
  refine ⟨T ++ U,pt',g,⟨v,?_,l,h.ad⟩,e⟩
  intro hr
  rcases hU with e | ⟨k,_,_,e,_⟩
  · exfalso
    have sb:=(Tm.started_bytes s.q s.bg (n - s.re.length) s.re.length 2047).2
    by_cases g2:n<=s.re.length + Tm.wait s.q
    · exact hr ((Tm.next_less (idle:=idle)).1 g2).1
    have a:=congrArg List.length v.bytes
    have b:=congrArg List.length h.run.bytes
    have c:=congrArg (fun z=>z.flatten.length) sb
    simp only [List.flatten_append,List.length_append] at c
    rw [e,Tm.flat_app,Tm.flat_tag,List.length_append,List.length_append,List.length_append,nl,List.length_append] at a
    rw [List.length_append,List.length_append] at b
    omega
  exact ⟨T ++ Tm.tag (Tm.later s.q s.bg),idle k,by rw [e,List.append_assoc]⟩
theorem Ck.fin {A:List (List UInt8)} {s:Tm.Fl} {T:List (Bool × List UInt8)} {out pt:List UInt8} {got:List (List UInt8)} (h:Ck A s T out pt got) (hw:Tm.wait s.q=0):got=A:=by
  have q0:s.q=[]:=Tm.flatten_nil_of h.run.full (List.length_eq_zero_iff.1 hw)
  have eA:A=Tm.real T:=by
    rw [h.run.pks,q0]
    cases s.bg <;> exact List.append_nil _
  rcases h.lk.some with ⟨_,_,e⟩ | ⟨e1,_,T1,x,e3,_,e5⟩
  · rw [e,eA]
  have rn:s.re ≠ []:=fun e=>by
    refine e1 ?_
    rw [e,q0]
    cases s.bg <;> rfl
  obtain ⟨T0,y,e6⟩:=h.ends rn
  have:=List.append_inj' (e6.symm.trans e3) rfl
  obtain ⟨rfl,e7⟩:=this
  rw [eA,e5,e6,Tm.real_app]
  exact (List.append_nil _).symm
end Go.Proofs.YtchfkncbemjepaaGreat.Ch
