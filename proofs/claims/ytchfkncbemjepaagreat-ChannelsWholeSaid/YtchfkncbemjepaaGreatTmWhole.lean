/- TmWhole -/
import Derived.Test.YtchfkncbemjepaaGreatTmRnP
import Derived.Test.YtchfkncbemjepaaGreatTmGd
set_option linter.unusedVariables false
/- Layer 10, pure: the fields of a filler, one after the other: where packets begin in each, and what Take finds in all of them. -/
namespace Go.Proofs.YtchfkncbemjepaaGreat.Tm

def fAt (n i:Nat) (S:List Nat):Nat:=match S.find? (fun g=>decide (i * n<=g) && decide (g < (i + 1) * n)) with
  | some g=>g - i * n
  | none=>2047
theorem fAt_yes {n i g:Nat} {S:List Nat} (h1:i * n<=g) (h2:g < (i + 1) * n):fAt n i (g :: S)=g - i * n:=by
  unfold fAt
  rw [List.find?_cons_of_pos (by simp [h1,h2])]
theorem fAt_app_left {n i:Nat} {S R:List Nat} (h:∀ g ∈ R,¬ (i * n<=g/\g < (i + 1) * n)):fAt n i (S ++ R)=fAt n i S:=by
  have e:R.find? (fun g=>decide (i * n<=g) && decide (g < (i + 1) * n))=none:=List.find?_eq_none.2 (fun g hg=>by have:=h g hg; simp only [Bool.and_eq_true,decide_eq_true_eq]; exact this)
  unfold fAt
  rw [List.find?_append,e,Option.or_none]
theorem fAt_app_right {n i:Nat} {S R:List Nat} (h:∀ g ∈ S,¬ (i * n<=g/\g < (i + 1) * n)):fAt n i (S ++ R)=fAt n i R:=by
  have e:S.find? (fun g=>decide (i * n<=g) && decide (g < (i + 1) * n))=none:=List.find?_eq_none.2 (fun g hg=>by have:=h g hg; simp only [Bool.and_eq_true,decide_eq_true_eq]; exact this)
  unfold fAt
  rw [List.find?_append,e,Option.none_or]
theorem getD_left {F:List Nat} {x:Nat} {i:Nat} (h:i < F.length):(F ++ [x]).getD i 0=F.getD i 0:=by
  rw [List.getD_eq_getElem?_getD,List.getD_eq_getElem?_getD,List.getElem?_append_left h]
theorem getD_last {F:List Nat} {x:Nat} {i:Nat} (h:F.length=i):(F ++ [x]).getD i 0=x:=by
  rw [List.getD_eq_getElem?_getD,List.getElem?_append_right (by omega),h,Nat.sub_self]
  rfl
def bgs (T:List (Bool × List UInt8)):List Nat:=starts 0 (T.map Prod.snd)
theorem bgs_app (T U:List (Bool × List UInt8)):bgs (T ++ U)=bgs T ++ starts (flat T).length (U.map Prod.snd):=by
  unfold bgs flat
  rw [List.map_append,starts_app,Nat.zero_add]
structure FS (n:Nat) (T:List (Bool × List UInt8)) (Fs:List Nat):Prop where
  inn:∀ g ∈ bgs T,g < Fs.length * n
  at':∀ i,i < Fs.length->Fs.getD i 0=fAt n i (bgs T)
theorem FS.start (n:Nat):FS n [] []:=⟨fun g h=>(by cases h),fun i h=>(by cases h)⟩
theorem tag_snd (l:List (List UInt8)):(tag l).map Prod.snd=l:=by
  unfold tag
  rw [List.map_map]
  exact List.map_id l
theorem pre_flat {T1 T2 l:List (List UInt8)} {x y:List UInt8} (h:l ++ [y]=T1 ++ x :: T2):T1.flatten.length<=l.flatten.length:=by
  rcases List.append_eq_append_iff.1 h with ⟨c,h1,h2⟩ | ⟨c,h1,h2⟩
  · cases c with
    | nil=>
      rw [List.append_nil] at h1
      rw [h1]
      exact Nat.le_refl _
    | cons a c=>
      rw [List.cons_append] at h2
      have:=congrArg List.length h2
      simp at this
  rw [h1,List.flatten_append,List.length_append]
  omega
theorem FS.next {idle:Nat->List UInt8} {n:Nat} {A:List (List UInt8)} {s:Fl} {T:List (Bool × List UInt8)} {out:List UInt8} {Fs:List Nat} (u:Run A s T out) (h:FS n T Fs) (ho:out.length=Fs.length * n) (hi:∀ k,(idle k).length=k) (hn:32<=n/\n<=200):
    ∃ U,Run A (Tm.next idle n s).2.2 (T ++ U) (out ++ (Tm.next idle n s).1)/\FS n (T ++ U) (Fs ++ [(Tm.next idle n s).2.1])/\(out ++ (Tm.next idle n s).1).length=(Fs ++ [(Tm.next idle n s).2.1]).length * n ∧
      (U=tag (started s.q s.bg (n - s.re.length))\/∃ k,7<=k/\k<=200/\U=tag (later s.q s.bg) ++ [(true,idle k)]):=by
  obtain ⟨U,v,hf,hU⟩:=u.next hi hn
  have hs:=u.short
  have nl:=next_len (n:=n) (s:=s) hi (by omega)
  have fl:=congrArg List.length u.bytes
  rw [List.length_append,List.length_append,ho] at fl
  obtain ⟨k,hk⟩:∃ k,Fs.length=k:=⟨_,rfl⟩
  obtain ⟨o,hoo⟩:∃ o,s.re.length + (pend s.q s.bg).length=o:=⟨_,rfl⟩
  rw [hk,hoo] at fl
  rw [hk] at ho
  obtain ⟨f,hff⟩:∃ f,(Tm.next idle n s).2.1=f:=⟨_,rfl⟩
  rw [hff,hoo] at hf
  have mul1:(k + 1) * n=k * n + n:=Nat.succ_mul k n
  have lenF:(Fs ++ [f]).length=k + 1:=by rw [List.length_append,hk]; rfl
  have pl:=congrArg List.length (pend_flat s.q s.bg)
  rw [List.length_append] at pl
  have wl:wait s.q=s.q.flatten.length:=rfl
  -- each begins in this field
  have hin:∀ g ∈ starts (k * n + o) (U.map Prod.snd),g < (k + 1) * n:=by
    refine starts_in _ _ _ (fun T1 x T2 e=>?_)
    rcases hU with rfl | ⟨j,j1,j2,rfl,j3⟩
    · rw [tag_snd] at e
      have:=started_in _ _ _ T1 x T2 e
      omega
    rw [List.map_append,tag_snd] at e
    have:=pre_flat (l:=later s.q s.bg) (y:=idle j) e
    omega
  have hge:∀ g ∈ starts (k * n + o) (U.map Prod.snd),k * n<=g:=fun g hg=>by have:=(starts_ge _ _ _ hg).1; omega
  have nle:∀ i,i < k->(i + 1) * n<=k * n:=fun i hi=>Nat.mul_le_mul_right n hi
  rw [hff]
  refine ⟨U,v,⟨?_,?_⟩,?_,?_⟩
  · intro g hg
    rw [bgs_app,fl] at hg
    rw [lenF]
    rcases List.mem_append.1 hg with e | e
    · have:=h.inn g e
      rw [hk] at this
      omega
    exact hin g e
  · intro i hi
    rw [lenF] at hi
    rw [bgs_app,fl]
    by_cases e:i < k
    · rw [fAt_app_left (fun g hg=>by have:=hge g hg; have:=nle i e; omega),getD_left (by omega)]
      exact h.at' i (by omega)
    obtain rfl:i=k:=by omega
    rw [fAt_app_right (fun g hg=>by have:=h.inn g hg; rw [hk] at this; omega)]
    rw [getD_last hk]
    rw [hf]
    cases U with
    | nil=>rfl
    | cons x U=>
      rw [if_neg (by simp)]
      show o=fAt n i ((i * n + o) :: starts (i * n + o + x.2.length) (U.map Prod.snd))
      have h1:i * n + o < (i + 1) * n:=hin _ (List.mem_cons_self ..)
      rw [fAt_yes (by omega) h1,Nat.add_sub_cancel_left]
  · rw [List.length_append,nl,ho,lenF,mul1]
  rcases hU with h1 | ⟨j,j1,j2,j3,_⟩
  · exact .inl h1
  exact .inr ⟨j,j1,j2,j3⟩
def Pkd (x:Bool × List UInt8):Prop:=∃ p,x.2=Pk.enc p/\Pk.Ok p/\(x.1=true ↔ p.ap=2047)
theorem Pkd.len {x:Bool × List UInt8} (h:Pkd x):7<=x.2.length:=by
  obtain ⟨p,e,ok,_⟩:=h
  rw [e,Pk.enc_len]
  have:=ok.2.2.2.1
  omega
theorem flat_cons (x:Bool × List UInt8) (T:List (Bool × List UInt8)):flat (x :: T)=x.2 ++ flat T:=rfl
theorem next_less {idle:Nat->List UInt8} {n:Nat} {s:Fl}:(n<=s.re.length + wait s.q->(Tm.next idle n s).2.2.re=[]/\wait (Tm.next idle n s).2.2.q=wait s.q - (n - s.re.length))/\(¬ n<=s.re.length + wait s.q->wait (Tm.next idle n s).2.2.q=0):=by
  refine ⟨fun h=>?_,fun h=>?_⟩
  · unfold Tm.next
    rw [if_pos h]
    refine ⟨rfl,?_⟩
    show (pull _ _ _ _ _).2.2.1.flatten.length=s.q.flatten.length - _
    rw [(pull_bytes _ _ _ _ _).2,List.length_drop]
  unfold Tm.next
  rw [if_neg h]
  rfl
def Ends (s:Fl) (T:List (Bool × List UInt8)):Prop:=s.re ≠ []->∃ T0 y,T=T0 ++ [(true,y)]
theorem Ends.next {idle:Nat->List UInt8} {n:Nat} {s:Fl} {T:List (Bool × List UInt8)} {A:List (List UInt8)} {out:List UInt8} (u:Run A s T out) (hi:∀ k,(idle k).length=k) (hn:32<=n/\n<=200) {U:List (Bool × List UInt8)}
    (hU:U=tag (started s.q s.bg (n - s.re.length))\/∃ k,7<=k/\k<=200/\U=tag (later s.q s.bg) ++ [(true,idle k)]) (h:U=tag (started s.q s.bg (n - s.re.length))->n<=s.re.length + wait s.q):Ends (Tm.next idle n s).2.2 (T ++ U):=fun hr=>by
  rcases hU with e | ⟨k,_,_,e⟩
  · exact absurd ((next_less (idle:=idle)).1 (h e)).1 hr
  exact ⟨T ++ tag (later s.q s.bg),idle k,by rw [e,List.append_assoc]⟩
end Go.Proofs.YtchfkncbemjepaaGreat.Tm
