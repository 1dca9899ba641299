/- ChWhQ -/
import Derived.Test.YtchfkncbemjepaaGreatChWhP
import Derived.Test.YtchfkncbemjepaaGreatChFrm
import Derived.Test.YtchfkncbemjepaaGreatChSharP
import Derived.Test.YtchfkncbemjepaaGreatChNext
set_option linter.unusedVariables false
/- Layer 11, pure: all frames of a mux are fed to a demux, in order, some of them twice: all packets arrive. -/
namespace Go.Proofs.YtchfkncbemjepaaGreat.Ch
open Go.Proofs.YtchfkncbemjepaaGreat

structure Wl (x:Mx) (y:Dx) (A got:Nat->List (List UInt8)):Prop where
  ok:x.Ok
  dok:y.Ok
  yc:y.craft=x.craft
  yn:y.n=x.n
  ma:y.mb=true->(y.ml + 1) % 256=x.ma
  bg:∀ c,c < 8->(y.ch c).bg=true->((y.ch c).la + 1) % 256=x.ct c/\∃ f,Tm.get (y.ch c).fr.data.toList=(f,0)/\f.ct=((y.ch c).la:Nat)
  no:∀ c,c < 8->(y.ch c).bg=false->(y.ch c).fr=⟨#[]⟩
  ck:∀ c,c < 8->∃ T out,Ck (A c) (x.fl c) T out (y.ch c).pt (got c)
theorem Wl.start {n craft:Nat} {pr sh:Nat->Nat} (h:(Mx.new n craft pr sh).Ok) (hd:(Dx.new n craft).Ok):Wl (Mx.new n craft pr sh) (Dx.new n craft) (fun _=>[]) (fun _=>[]):=
  ⟨h,hd,rfl,rfl,fun e=>(by cases e),fun _ _ e=>(by cases e),fun _ _ _=>rfl,fun _ _=>⟨_,_,Ck.start⟩⟩
theorem busy_pkd {l:List UInt8} (h:Pk.busy l=true):Tm.Pkd (false,l):=by
  unfold Pk.busy at h
  obtain ⟨h1,h2⟩:=of_decide_eq_true h
  unfold Pk.gt at h1 h2
  cases e:Pk.take l with
  | ok p n=>
    rw [e] at h1 h2
    by_cases hn:n=l.length
    · simp only [if_pos hn] at h1 h2
      obtain ⟨o,_,t⟩:=Pk.take_ok e
      rw [hn,List.take_length] at t
      exact ⟨p,t,o,⟨fun q=>(by cases q),fun q=>absurd q h2⟩⟩
    simp only [if_neg hn] at h1
    cases h1
  | none=>rw [e] at h1; cases h1
  | form=>rw [e] at h1; cases h1
theorem Wl.add {x:Mx} {y:Dx} {A got:Nat->List (List UInt8)} (h:Wl x y A got) {c:Nat} (hc:c < 8) {p:ByteArray} (hb:Pk.busy p.data.toList=true) (hw:x.wt c + p.size<=65536):Wl (x.add c p) y (upd A c (A c ++ [p.data.toList])) got:=by
  have e:asS (x.fl c) p=⟨(x.fl c).q ++ [p.data.toList],(x.fl c).bg,(x.fl c).re⟩:=if_pos ⟨hb,fun g=>by have:x.wt c=Tm.wait (x.fl c).q:=rfl; omega⟩
  refine ⟨h.ok.add c hc p,h.dok,h.yc,h.yn,h.ma,h.bg,h.no,fun j hj=>?_⟩
  show ∃ T out,Ck (upd A c (A c ++ [p.data.toList]) j) (upd x.fl c (asS (x.fl c) p) j) T out (y.ch j).pt (got j)
  by_cases g:j=c
  · subst g
    rw [upd_same,upd_same,e]
    obtain ⟨T,out,k⟩:=h.ck j hj
    exact ⟨T,out,k.add (busy_pkd hb)⟩
  rw [upd_ne _ _ g,upd_ne _ _ g]
  exact h.ck j hj
theorem idl_pkd (k:Nat) (h1:7<=k) (h2:k<=200):Tm.Pkd (true,idl k):=
  ⟨pkIdle (k - 6),if_pos h1,idle_ok _ (by omega) (by omega),fun _=>rfl,fun _=>rfl⟩
theorem tk_idle0 (pt d:List UInt8):tk pt 0 2046 d=(pt,[],0):=by
  unfold tk
  simp
theorem Wl.next {x:Mx} {y:Dx} {A got:Nat->List (List UInt8)} (h:Wl x y A got) (wd:Nat) (hw:wd < 4294967296):
    ∃ g y',y.feed (bs (Tm.enc (x.frm wd)))=(⟨x.ch,false,0,0,0,wd,g⟩,0,y')/\y'.feed (bs (Tm.enc (x.frm wd)))=(⟨x.ch,true,0,0,0,wd,[]⟩,0,y')/\Wl x.nxt y' A (upd got x.ch (got x.ch ++ g)):=by
  have ok:=Mx.frm_ok h.ok wd
  have hn:=h.ok.n1
  have cl:=x.ch_lt
  obtain ⟨F,hF⟩:∃ F,bs (Tm.enc (x.frm wd))=F:=⟨_,rfl⟩
  have g:Tm.get F.data.toList=(x.frm wd,0):=by rw [<-hF,bs_list]; exact Tm.get_enc ok hw
  have sz:(x.frm wd).da.size=x.n:=by
    show (bs x.dat).size=x.n
    rw [bs_size,Mx.dat_len h.ok]
  have Fn:F ≠ ⟨#[]⟩:=fun e=>by
    have:=congrArg ByteArray.size e
    rw [<-hF,bs_size,Tm.enc_len] at this
    have z:ByteArray.size ⟨#[]⟩=0:=rfl
    omega
  have lab:=h.dok.la x.ch cl
  have ne:(y.ch x.ch).fr ≠ F:=fun e=>by
    cases b:(y.ch x.ch).bg with
    | false=>exact Fn (e.symm.trans (h.no _ cl b))
    | true=>
      obtain ⟨h1,f,h2,h3⟩:=h.bg _ cl b
      rw [e,g] at h2
      obtain rfl:x.frm wd=f:=congrArg Prod.fst h2
      have:((x.ct x.ch:Nat):Int)=((y.ch x.ch).la:Nat):=h3
      omega
  have m1:miss (y.ch x.ch).bg (y.ch x.ch).la (x.ct x.ch)=0:=by
    unfold miss
    cases b:(y.ch x.ch).bg with
    | false=>rfl
    | true=>
      have:=(h.bg _ cl b).1
      rw [if_pos rfl]
      omega
  have m2:miss y.mb y.ml x.ma=0:=by
    unfold miss
    cases b:y.mb with
    | false=>rfl
    | true=>
      have:=h.ma b
      have:=h.dok.ml
      rw [if_pos rfl]
      omega
  obtain ⟨T,out,k⟩:=h.ck x.ch cl
  -- what the demux makes of the field
  obtain ⟨pt',gg,T',out',e1,k'⟩:∃ pt' gg T' out',tk (y.ch x.ch).pt 0 x.fst x.dat=(pt',gg,0)/\Ck (A x.ch) (nxS x.n (x.fl x.ch)) T' out' pt' (got x.ch ++ gg):=by
    by_cases i:x.idle
    · have f1:x.fst=2046:=if_pos i
      have w0:Tm.wait (x.fl x.ch).q=0:=(x.idle_iff (by omega)).1 i x.ch cl
      have n0:nxS x.n (x.fl x.ch)=x.fl x.ch:=if_pos w0
      refine ⟨_,_,T,out,by rw [f1]; exact tk_idle0 _ _,?_⟩
      rw [n0,List.append_nil]
      exact k
    have f1:x.fst=(Tm.next tmIdle x.n (x.fl x.ch)).2.1:=if_neg i
    have d1:x.dat=(Tm.next tmIdle x.n (x.fl x.ch)).1:=if_neg i
    have cp:x.ch=x.pick:=if_neg i
    have w0:¬ Tm.wait (x.fl x.ch).q=0:=fun e=>by
      have:=x.pick_waits i (by omega)
      rw [<-cp] at this
      exact absurd e (Nat.ne_of_gt this)
    have n0:nxS x.n (x.fl x.ch)=(Tm.next tmIdle x.n (x.fl x.ch)).2.2:=if_neg w0
    obtain ⟨T',pt',gg,k',e⟩:=k.next (idle:=idl) (n:=x.n) idl_len idl_pkd ⟨h.ok.n1,h.ok.n2⟩
    rw [next_idl] at k' e
    exact ⟨pt',gg,T',_,by rw [f1,d1]; exact e,by rw [n0]; exact k'⟩
  have fd:y.feed F=(⟨x.ch,false,0,0,0,wd,gg⟩,0,{ y with mb:=true,ml:=x.ma,ch:=upd y.ch x.ch ⟨F,true,x.ct x.ch,pt'⟩ }):=by
    unfold Dx.feed
    rw [g]
    simp only [ne_eq,not_true_eq_false,if_false]
    rw [if_neg (show ¬ ((x.frm wd).cr ≠ (y.craft:Int)\/(x.frm wd).da.size ≠ y.n) from fun q=>by
      rcases q with q | q
      · exact q (by show (x.craft:Int)=y.craft; rw [h.yc])
      exact q (by rw [sz,h.yn]))]
    rw [if_neg (show ¬ (y.ch (x.frm wd).ch.toNat).fr=F from ne)]
    have ea:y.acc F (x.frm wd)=(⟨x.ch,false,0,0,0,wd,gg⟩,{ y with mb:=true,ml:=x.ma,ch:=upd y.ch x.ch ⟨F,true,x.ct x.ch,pt'⟩ }):=by
      unfold Dx.acc
      simp only
      rw [show (x.frm wd).ch.toNat=x.ch from rfl,show (x.frm wd).ct.toNat=x.ct x.ch from rfl,show (x.frm wd).ma.toNat=x.ma from rfl,show (x.frm wd).fi.toNat=x.fst from rfl,show (x.frm wd).da.data.toList=x.dat from bs_list _,show (x.frm wd).wo=wd from rfl,m1,m2,e1]
    rw [ea]
  have en:x.nxt.n=x.n:=Mx.chz_n x
  have ec:x.nxt.craft=x.craft:=Mx.chz_craft x
  obtain ⟨y',hy⟩:∃ y',y'=({ y with mb:=true,ml:=x.ma,ch:=upd y.ch x.ch ⟨F,true,x.ct x.ch,pt'⟩ }:Dx):=⟨_,rfl⟩
  rw [<-hy] at fd
  have dok':y'.Ok:=by
    have:=h.dok.feed F
    rwa [fd] at this
  rw [hF]
  refine ⟨gg,y',fd,?_,⟨h.ok.nxt,dok',?_,?_,fun _=>?_,fun c hc=>?_,fun c hc=>?_,fun c hc=>?_⟩⟩
  · unfold Dx.feed
    rw [g]
    simp only [ne_eq,not_true_eq_false,if_false]
    rw [if_neg (show ¬ ((x.frm wd).cr ≠ (y'.craft:Int)\/(x.frm wd).da.size ≠ y'.n) from fun q=>by
      rcases q with q | q
      · exact q (by rw [hy]; show (x.craft:Int)=y.craft; rw [h.yc])
      exact q (by rw [sz,hy]; exact h.yn.symm))]
    rw [if_pos (show (y'.ch (x.frm wd).ch.toNat).fr=F from by rw [hy]; show (upd y.ch x.ch _ x.ch).fr=F; rw [upd_same])]
    rfl
  · rw [hy,ec]; exact h.yc
  · rw [hy,en]; exact h.yn
  · rw [hy]; rfl
  · rw [hy]
    show (upd y.ch x.ch _ c).bg=true->((upd y.ch x.ch _ c).la + 1) % 256=(upd x.ct x.ch ((x.ct x.ch + 1) % 256)) c/\∃ f,Tm.get (upd y.ch x.ch _ c).fr.data.toList=(f,0)/\f.ct=((upd y.ch x.ch _ c).la:Nat)
    by_cases q:c=x.ch
    · subst q
      rw [upd_same,upd_same]
      exact fun _=>⟨rfl,_,g,rfl⟩
    rw [upd_ne _ _ q,upd_ne _ _ q]
    exact h.bg c hc
  · rw [hy]
    show (upd y.ch x.ch _ c).bg=false->(upd y.ch x.ch _ c).fr=⟨#[]⟩
    by_cases q:c=x.ch
    · subst q
      rw [upd_same]
      exact fun e=>(by cases e)
    rw [upd_ne _ _ q]
    exact h.no c hc
  rw [hy]
  show ∃ T out,Ck (A c) (upd x.fl x.ch (nxS x.n (x.fl x.ch)) c) T out (upd y.ch x.ch _ c).pt (upd got x.ch (got x.ch ++ gg) c)
  by_cases q:c=x.ch
  · subst q
    rw [upd_same,upd_same,upd_same]
    exact ⟨T',out',k'⟩
  rw [upd_ne _ _ q,upd_ne _ _ q,upd_ne _ _ q]
  exact h.ck c hc
theorem Ck.le {A:List (List UInt8)} {s:Tm.Fl} {T:List (Bool × List UInt8)} {out pt:List UInt8} {got:List (List UInt8)} (h:Ck A s T out pt got):got.length<=A.length:=by
  rw [h.run.pks,List.length_append]
  rcases h.lk.some with ⟨_,_,e⟩ | ⟨_,_,T1,x,e3,_,e5⟩
  · rw [e]; exact Nat.le_add_right _ _
  rw [e5,e3,Tm.real_app,List.length_append]
  omega
structure Hs (n craft:Nat) (F:List ByteArray) (C:List Nat) (x:Mx) (A:Nat->List (List UInt8)) (Y:Nat->Dx) (G:Nat->Nat->List (List UInt8)):Prop where
  len:C.length=F.length
  y0:Y 0=Dx.new n craft
  g0:∀ c,G 0 c=[]
  st:∀ i f c,F[i]?=some f->C[i]?=some c->c < 8/\f.size<=1000/\∃ wo g,(Y i).feed f=(⟨c,false,0,0,0,wo,g⟩,0,Y (i + 1))/\(Y (i + 1)).feed f=(⟨c,true,0,0,0,wo,[]⟩,0,Y (i + 1))/\G (i + 1)=upd (G i) c (G i c ++ g)
  ok:∀ i,i<=F.length->(Y i).Ok/\(Y i).craft=craft/\(Y i).n=n
  le:∀ i c,i<=F.length->c < 8->(G i c).length<=(A c).length
  wl:Wl x (Y F.length) A (G F.length)
theorem Hs.start {n craft:Nat} {pr sh:Nat->Nat} (h:(Mx.new n craft pr sh).Ok) (hd:(Dx.new n craft).Ok):Hs n craft [] [] (Mx.new n craft pr sh) (fun _=>[]) (fun _=>Dx.new n craft) (fun _ _=>[]):=
  ⟨rfl,rfl,fun _=>rfl,fun i f c e=>(by cases e),fun _ _=>⟨hd,rfl,rfl⟩,fun _ _ _ _=>Nat.le_refl _,Wl.start h hd⟩
theorem Hs.add {n craft:Nat} {F:List ByteArray} {C:List Nat} {x:Mx} {A:Nat->List (List UInt8)} {Y:Nat->Dx} {G:Nat->Nat->List (List UInt8)} (h:Hs n craft F C x A Y G) {c:Nat} (hc:c < 8) {p:ByteArray} (hb:Pk.busy p.data.toList=true) (hw:x.wt c + p.size<=65536):
    Hs n craft F C (x.add c p) (upd A c (A c ++ [p.data.toList])) Y G:=by
  refine ⟨h.len,h.y0,h.g0,h.st,h.ok,fun i j hi hj=>?_,h.wl.add hc hb hw⟩
  have:=h.le i j hi hj
  by_cases g:j=c
  · subst g
    rw [upd_same,List.length_append]
    omega
  rw [upd_ne _ _ g]
  exact this
theorem Hs.next {n craft:Nat} {F:List ByteArray} {C:List Nat} {x:Mx} {A:Nat->List (List UInt8)} {Y:Nat->Dx} {G:Nat->Nat->List (List UInt8)} (h:Hs n craft F C x A Y G) (wd:Nat) (hw:wd < 4294967296):
    ∃ Y' G',Hs n craft (F ++ [bs (Tm.enc (x.frm wd))]) (C ++ [x.ch]) x.nxt A Y' G':=by
  obtain ⟨g,y',f1,f2,w'⟩:=h.wl.next wd hw
  obtain ⟨f,hf⟩:∃ f,bs (Tm.enc (x.frm wd))=f:=⟨_,rfl⟩
  have fs:f.size<=1000:=by
    rw [<-hf,bs_size,Tm.enc_len]
    have:=h.wl.ok.n2
    show (bs x.dat).size + 12<=1000
    rw [bs_size,Mx.dat_len h.wl.ok]
    omega
  rw [hf] at f1 f2 ⊢
  obtain ⟨N,hN⟩:∃ N,F.length=N:=⟨_,rfl⟩
  have w0:=h.wl
  have ok0:=h.ok
  have le0:=h.le
  rw [hN] at f1 w' w0 ok0 le0
  have lF:(F ++ [f]).length=N + 1:=by rw [List.length_append,hN]; rfl
  obtain ⟨G',hG'⟩:∃ G',(fun i=>if i<=N then G i else upd (G N) x.ch (G N x.ch ++ g))=G':=⟨_,rfl⟩
  obtain ⟨Y',hY'⟩:∃ Y',(fun i=>if i<=N then Y i else y')=Y':=⟨_,rfl⟩
  have gl:∀ i,i<=N->G' i=G i:=fun i hi=>by rw [<-hG']; exact if_pos hi
  have yl:∀ i,i<=N->Y' i=Y i:=fun i hi=>by rw [<-hY']; exact if_pos hi
  have gn:G' (N + 1)=upd (G N) x.ch (G N x.ch ++ g):=by rw [<-hG']; exact if_neg (by omega)
  have yn:Y' (N + 1)=y':=by rw [<-hY']; exact if_neg (by omega)
  have ec:x.nxt.craft=x.craft:=Mx.chz_craft x
  have en:x.nxt.n=x.n:=Mx.chz_n x
  refine ⟨Y',G',⟨by rw [List.length_append,List.length_append,h.len]; rfl,by rw [yl 0 (Nat.zero_le _)]; exact h.y0,fun c=>by rw [gl 0 (Nat.zero_le _)]; exact h.g0 c,fun i f' c hf' hc'=>?_,fun i hi=>?_,fun i c hi hc=>?_,?_⟩⟩
  · rcases Nat.lt_or_ge i N with q | q
    · rw [List.getElem?_append_left (by omega)] at hf'
      rw [List.getElem?_append_left (by rw [h.len]; omega)] at hc'
      rw [yl i (by omega),yl (i + 1) (by omega),gl i (by omega),gl (i + 1) (by omega)]
      exact h.st i f' c hf' hc'
    have iN:i=N:=by
      have:=(List.getElem?_eq_some_iff.1 hf').1
      rw [lF] at this
      omega
    subst iN
    rw [List.getElem?_append_right (by omega),hN,Nat.sub_self] at hf'
    rw [List.getElem?_append_right (by rw [h.len]; omega),h.len,hN,Nat.sub_self] at hc'
    cases hf'
    cases hc'
    rw [yl i (Nat.le_refl _),yn,gl i (Nat.le_refl _),gn]
    exact ⟨x.ch_lt,fs,wd,g,f1,f2,rfl⟩
  · rw [lF] at hi
    rcases Nat.lt_or_ge N i with q | q
    · obtain rfl:i=N + 1:=by omega
      rw [yn]
      exact ⟨w'.dok,by rw [w'.yc,ec,<-w0.yc]; exact (ok0 N (Nat.le_refl _)).2.1,by rw [w'.yn,en,<-w0.yn]; exact (ok0 N (Nat.le_refl _)).2.2⟩
    rw [yl i q]
    exact ok0 i q
  · rw [lF] at hi
    rcases Nat.lt_or_ge N i with q | q
    · obtain rfl:i=N + 1:=by omega
      rw [gn]
      obtain ⟨T,out,k⟩:=w'.ck c hc
      exact k.le
    rw [gl i q]
    exact le0 i c q hc
  rw [lF,yn,gn]
  exact w'
theorem Hs.fin {n craft:Nat} {F:List ByteArray} {C:List Nat} {x:Mx} {A:Nat->List (List UInt8)} {Y:Nat->Dx} {G:Nat->Nat->List (List UInt8)} (h:Hs n craft F C x A Y G) {c:Nat} (hc:c < 8) (hw:x.wt c=0):G F.length c=A c:=by
  obtain ⟨T,out,k⟩:=h.wl.ck c hc
  exact k.fin hw
def psi (w:Nat):Nat:=w / 26 + if 0 < w then 1 else 0
theorem psi_drop {a b:Nat} (h:a + 26<=b\/(a=0/\0 < b)):psi a + 1<=psi b:=by
  unfold psi
  rw [if_pos (show 0 < b by omega)]
  rcases h with h | ⟨h,_⟩
  · by_cases z:0 < a
    · rw [if_pos z]; omega
    rw [if_neg z]; omega
  subst h
  simp
def Phi (x:Mx):Nat:=s8 (fun c=>psi (x.wt c))
theorem wt_nxt (x:Mx) (c:Nat):x.nxt.wt c=if c=x.ch then Tm.wait (nxS x.n (x.fl x.ch)).q else x.wt c:=by
  show Tm.wait (upd x.fl x.ch (nxS x.n (x.fl x.ch)) c).q=_
  unfold upd
  split
  · rfl
  rfl
theorem wt_less {x:Mx} (o:x.Ok) (i:¬ x.idle):x.nxt.wt x.ch < x.wt x.ch/\psi (x.nxt.wt x.ch) + 1<=psi (x.wt x.ch):=by
  have n1:=o.n1
  have cp:x.ch=x.pick:=if_neg i
  have w0:0 < x.wt x.ch:=by rw [cp]; exact x.pick_waits i (by omega)
  have re:=rest_le (o.fl x.ch x.ch_lt)
  have n0:nxS x.n (x.fl x.ch)=(Tm.next tmIdle x.n (x.fl x.ch)).2.2:=if_neg (Nat.ne_of_gt w0)
  rw [wt_nxt,if_pos rfl,n0]
  obtain ⟨h1,h2⟩:=Tm.next_less (idle:=tmIdle) (n:=x.n) (s:=x.fl x.ch)
  have we:x.wt x.ch=Tm.wait (x.fl x.ch).q:=rfl
  have d:Tm.wait (Tm.next tmIdle x.n (x.fl x.ch)).2.2.q + 26<=x.wt x.ch\/(Tm.wait (Tm.next tmIdle x.n (x.fl x.ch)).2.2.q=0/\0 < x.wt x.ch):=by
    by_cases g:x.n<=(x.fl x.ch).re.length + Tm.wait (x.fl x.ch).q
    · have:=(h1 g).2
      by_cases z:Tm.wait (Tm.next tmIdle x.n (x.fl x.ch)).2.2.q=0
      · exact .inr ⟨z,w0⟩
      left
      omega
    exact .inr ⟨h2 g,w0⟩
  exact ⟨by omega,psi_drop d⟩
theorem s8_le {f g:Nat->Nat} (h:∀ c,c < 8->f c<=g c):s8 f<=s8 g:=by
  unfold s8
  have h0:=h 0 (by omega)
  have h1:=h 1 (by omega)
  have h2:=h 2 (by omega)
  have h3:=h 3 (by omega)
  have h4:=h 4 (by omega)
  have h5:=h 5 (by omega)
  have h6:=h 6 (by omega)
  have h7:=h 7 (by omega)
  omega
theorem s8_drop {f g:Nat->Nat} {p:Nat} (hp:p < 8) (h:∀ c,c < 8->c ≠ p->f c=g c) (h1:f p + 1<=g p):s8 f + 1<=s8 g:=by
  have:s8 (upd f p (f p + 1))<=s8 g:=s8_le (fun c hc=>by
    by_cases e:c=p
    · subst e; rw [upd_same]; exact h1
    rw [upd_ne _ _ e,h c hc e]; exact Nat.le_refl _)
  rwa [s8_upd f p hp] at this
theorem Phi_less {x:Mx} (o:x.Ok) (i:¬ x.idle):Phi x.nxt + 1<=Phi x:=by
  refine s8_drop x.ch_lt (fun c hc q=>?_) (wt_less o i).2
  show psi (x.nxt.wt c)=psi (x.wt c)
  rw [wt_nxt,if_neg q]
theorem wt_le {x:Mx} (o:x.Ok) (c:Nat) (hc:c < 8):x.nxt.wt c<=x.wt c:=by
  rw [wt_nxt]
  split
  · rename_i e
    subst e
    by_cases i:x.idle
    · have w0:Tm.wait (x.fl x.ch).q=0:=(x.idle_iff (by have:=o.n1; omega)).1 i x.ch hc
      rw [show nxS x.n (x.fl x.ch)=x.fl x.ch from if_pos w0]
      exact Nat.le_refl _
    have:=(wt_less o i).1
    rw [wt_nxt,if_pos rfl] at this
    omega
  exact Nat.le_refl _
theorem ch_seen {x:Mx} (o:x.Ok):(x.idle/\x.ch=7/\∀ c,c < 8->x.nxt.wt c=x.wt c)\/(¬ x.idle/\x.nxt.wt x.ch ≠ x.wt x.ch/\∀ c,c < 8->c ≠ x.ch->x.nxt.wt c=x.wt c):=by
  by_cases i:x.idle
  · refine .inl ⟨i,if_pos i,fun c hc=>?_⟩
    have z:=(x.idle_iff (by have:=o.n1; omega)).1 i
    have:=wt_le o c hc
    rw [z c hc] at this ⊢
    omega
  refine .inr ⟨i,Nat.ne_of_lt (wt_less o i).1,fun c hc q=>?_⟩
  rw [wt_nxt,if_neg q]
theorem Phi_bytes (x:Mx):Phi x<=s8 x.wt / 26 + 8:=by
  have one:∀ w:Nat,psi w<=w / 26 + 1:=fun w=>by unfold psi; split <;> omega
  have h0:=one (x.wt 0)
  have h1:=one (x.wt 1)
  have h2:=one (x.wt 2)
  have h3:=one (x.wt 3)
  have h4:=one (x.wt 4)
  have h5:=one (x.wt 5)
  have h6:=one (x.wt 6)
  have h7:=one (x.wt 7)
  show psi (x.wt 0) + psi (x.wt 1) + psi (x.wt 2) + psi (x.wt 3) + psi (x.wt 4) + psi (x.wt 5) + psi (x.wt 6) + psi (x.wt 7)<=(x.wt 0 + x.wt 1 + x.wt 2 + x.wt 3 + x.wt 4 + x.wt 5 + x.wt 6 + x.wt 7) / 26 + 8
  omega
theorem wt_add {x:Mx} {c:Nat} {p:ByteArray} (hb:Pk.busy p.data.toList=true) (hw:x.wt c + p.size<=65536) (j:Nat):(x.add c p).wt j=if j=c then x.wt c + p.size else x.wt j:=by
  show Tm.wait (upd x.fl c (asS (x.fl c) p) j).q=_
  have e:asS (x.fl c) p=⟨(x.fl c).q ++ [p.data.toList],(x.fl c).bg,(x.fl c).re⟩:=if_pos ⟨hb,fun g=>by have:x.wt c=Tm.wait (x.fl c).q:=rfl; omega⟩
  unfold upd
  split
  · rw [e]
    show ((x.fl c).q ++ [p.data.toList]).flatten.length=_
    rw [List.flatten_append,List.length_append,show [p.data.toList].flatten=p.data.toList by simp,ls]
    rfl
  rfl
theorem sum_add {x:Mx} {c:Nat} (hc:c < 8) {p:ByteArray} (hb:Pk.busy p.data.toList=true) (hw:x.wt c + p.size<=65536):s8 (x.add c p).wt=s8 x.wt + p.size:=by
  unfold s8
  have w:=fun j=>wt_add hb hw j
  rw [w 0,w 1,w 2,w 3,w 4,w 5,w 6,w 7]
  match c,hc with
  | 0,_=>simp; omega
  | 1,_=>simp; omega
  | 2,_=>simp; omega
  | 3,_=>simp; omega
  | 4,_=>simp; omega
  | 5,_=>simp; omega
  | 6,_=>simp; omega
  | 7,_=>simp; omega
theorem sum_nxt {x:Mx} (o:x.Ok):s8 x.nxt.wt<=s8 x.wt:=s8_le (fun c hc=>wt_le o c hc)
theorem wt_sum (x:Mx) {c:Nat} (hc:c < 8):x.wt c<=s8 x.wt:=by
  unfold s8
  match c,hc with
  | 0,_=>omega
  | 1,_=>omega
  | 2,_=>omega
  | 3,_=>omega
  | 4,_=>omega
  | 5,_=>omega
  | 6,_=>omega
  | 7,_=>omega
end Go.Proofs.YtchfkncbemjepaaGreat.Ch
