/- TmGd -/
import Derived.Test.YtchfkncbemjepaaGreatTpNext
import Derived.Test.YtchfkncbemjepaaGreatTmFlip
set_option linter.unusedVariables false
set_option maxRecDepth 100000
/- Layer 10: the landed filler with the filler of the mathematics: what each call returns and leaves. -/
namespace Go.Proofs.YtchfkncbemjepaaGreat
open Go.RowKit

def tmIdle (k:Nat):List UInt8:=Pk.enc (pkIdle (k - 6))
abbrev XTs:List TypeId:=[129,5,3]
theorem KF.kp {w w':World} {n0 X n r:Nat} {va vb:Value} {B:List UInt8} {G:List Nat} {S':Nat->Prop} (h:PFl w n0 X n r va vb B G) (k:KF n0 (SX X va vb) S' w w'):Kp n0 XTs false w w':=
  ⟨k.below,fun b cur t fr e hn=>k.rest b (Array.getElem?_eq_some_iff.1 e).1 (fun hs=>by
    have T:TyB w b t:=⟨cur,fr,e⟩
    rcases hs with hs | hs | hs
    · exact ty_ne T h.ty (fun q=>hn (by rw [q]; simp)) hs
    · exact ty_ne T (h.ba.blk hs).2 (fun q=>hn (by rw [q]; simp)) rfl
    · exact ty_ne T (h.be.blk hs).2 (fun q=>hn (by rw [q]; simp)) rfl),fun _ b es c e=>k.rest b (Array.getElem?_eq_some_iff.1 e).1 (fun hs=>by
    have no:∀ t,¬ TyB w b t:=fun t ⟨cur,fr,e2⟩=>by rw [e] at e2; cases e2
    rcases hs with hs | hs | hs
    · exact no _ (hs ▸ h.ty)
    · exact no _ (h.ba.blk hs).2
    exact no _ (h.be.blk hs).2)⟩
theorem PFl.kp {w w':World} {n0 X n r n1:Nat} {va vb:Value} {B:List UInt8} {G:List Nat} {ts:List TypeId} {m:Bool} (h:PFl w n0 X n r va vb B G) (k:Kp n1 ts m w w') (t1:129 ∉ ts) (t2:5 ∉ ts) (t3:3 ∉ ts):PFl w' n0 X n r va vb B G:=
  h.keep (fun g hg=>by
    rcases hg with rfl | hg | hg
    · exact h.ty.keep k t1
    · exact (h.ba.blk hg).2.keep k t2
    exact (h.be.blk hg).2.keep k t3)
def Gd (s:Tm.Fl):Prop:=(∃ A T out,Tm.Run A s T out)/\Tm.wait s.q<=65536
def s0:Tm.Fl:=⟨[],false,[]⟩
theorem Gd.start:Gd s0:=⟨⟨_,_,_,Tm.Run.start⟩,Nat.zero_le _⟩
theorem starts_len:∀ (o:Nat) (l:List (List UInt8)),(Tm.starts o l).length=l.length
  | _,[]=>rfl
  | o,p :: l=>congrArg (· + 1) (starts_len (o + p.length) l)
theorem full_len:∀ (q:List (List UInt8)),Tm.Full q->q.length<=Tm.wait q
  | [],_=>Nat.zero_le _
  | p :: q,h=>by
    have ih:=full_len q (fun x hx=>h x (List.mem_cons_of_mem _ hx))
    have hp:0 < p.length:=List.length_pos_iff.2 (h p (List.mem_cons_self ..))
    have:Tm.wait (p :: q)=p.length + Tm.wait q:=by unfold Tm.wait; simp
    rw [List.length_cons,this]
    omega
theorem later_len (q:List (List UInt8)) (bg:Bool):(Tm.later q bg).length<=q.length:=by
  cases bg with
  | false=>rw [Tm.later_no]; exact Nat.le_refl _
  | true=>cases q with
    | nil=>exact Nat.le_refl _
    | cons p q=>exact Nat.le_succ _
theorem Gd.bounds {s:Tm.Fl} (g:Gd s) {B:List UInt8} {G:List Nat} {r:Nat} (h:Tm.Rel s B G r):r<=6/\B.length=r + Tm.wait s.q/\B.length<=65542/\G.length<=65536/\∀ x ∈ G,x<=65542:=by
  obtain ⟨⟨A,T,out,u⟩,hw⟩:=g
  have e:=h.wait
  have hr:=h.rest
  have hs:=u.short
  have pl:=congrArg List.length (Tm.pend_flat s.q s.bg)
  rw [List.length_append] at pl
  have wl:Tm.wait s.q=s.q.flatten.length:=rfl
  refine ⟨by omega,e,by omega,?_,fun x hx=>?_⟩
  · rw [h.places,starts_len]
    have:=later_len s.q s.bg
    have:=full_len s.q u.full
    omega
  rw [h.places] at hx
  have:=(Tm.starts_ge _ _ _ hx).2
  omega
def idl (k:Nat):List UInt8:=if 7<=k then tmIdle k else List.replicate k 0
theorem idl_len (k:Nat):(idl k).length=k:=by
  unfold idl
  by_cases h:7<=k
  · rw [if_pos h]; exact idle_len k h
  rw [if_neg h,List.length_replicate]
theorem idl_max (k:Nat):idl (max k 7)=tmIdle (max k 7):=if_pos (by omega)
theorem next_idl (n:Nat) (s:Tm.Fl):Tm.next idl n s=Tm.next tmIdle n s:=by
  unfold Tm.next
  rw [idl_max]
def nxV (n:Nat) (s:Tm.Fl):Value:=if Tm.wait s.q=0 then .tuple #[.string ⟨#[]⟩,.int .i64 0,.bool false] else .tuple #[.string (bs (Tm.next tmIdle n s).1),.int .i64 ((Tm.next tmIdle n s).2.1:Nat),.bool true]
def nxS (n:Nat) (s:Tm.Fl):Tm.Fl:=if Tm.wait s.q=0 then s else (Tm.next tmIdle n s).2.2
theorem next_wait (n:Nat) (s:Tm.Fl):Tm.wait (Tm.next tmIdle n s).2.2.q<=Tm.wait s.q:=by
  unfold Tm.next
  by_cases h:n<=s.re.length + Tm.wait s.q
  · rw [if_pos h]
    show (Tm.pull _ _ _ _ _).2.2.1.flatten.length<=s.q.flatten.length
    rw [(Tm.pull_bytes _ _ _ _ _).2,List.length_drop]
    exact Nat.sub_le _ _
  rw [if_neg h]
  exact Nat.zero_le _
theorem Gd.next {s:Tm.Fl} (g:Gd s) {n:Nat} (hn:32<=n/\n<=200):Gd (nxS n s):=by
  unfold nxS
  by_cases h:Tm.wait s.q=0
  · rw [if_pos h]; exact g
  rw [if_neg h]
  obtain ⟨⟨A,T,out,u⟩,hw⟩:=g
  obtain ⟨U,v,_⟩:=u.next (idle:=idl) idl_len hn
  rw [next_idl] at v
  exact ⟨⟨_,_,_,v⟩,Nat.le_trans (next_wait n s) hw⟩
def acV (s:Tm.Fl) (p:ByteArray):Int:=if Pk.busy p.data.toList=true then (if 65536 < Tm.wait s.q + p.size then 5 else 0) else 6
def asS (s:Tm.Fl) (p:ByteArray):Tm.Fl:=if Pk.busy p.data.toList=true/\¬ 65536 < Tm.wait s.q + p.size then ⟨s.q ++ [p.data.toList],s.bg,s.re⟩ else s
theorem busy_pos {p:ByteArray} (h:Pk.busy p.data.toList=true):0 < p.size:=by
  rcases Nat.eq_zero_or_pos p.size with e | e
  · have:p.data.toList=[]:=List.length_eq_zero_iff.1 (by rw [ls]; exact e)
    rw [this] at h
    exact absurd h (by decide)
  exact e
theorem Gd.add {s:Tm.Fl} (g:Gd s) (p:ByteArray):Gd (asS s p):=by
  unfold asS
  by_cases h:Pk.busy p.data.toList=true/\¬ 65536 < Tm.wait s.q + p.size
  · rw [if_pos h]
    obtain ⟨⟨A,T,out,u⟩,hw⟩:=g
    refine ⟨⟨_,_,_,u.add (p:=p.data.toList) (fun e=>?_)⟩,?_⟩
    · have:=busy_pos h.1
      have l:=congrArg List.length e
      rw [ls,List.length_nil] at l
      omega
    show (s.q ++ [p.data.toList]).flatten.length<=65536
    rw [List.flatten_append,List.length_append,show [p.data.toList].flatten=p.data.toList by simp,ls]
    have:=h.2
    unfold Tm.wait at this
    omega
  rw [if_neg h]; exact g
end Go.Proofs.YtchfkncbemjepaaGreat
