/- ChAll -/
import Derived.BigQuiet
import Derived.Test.YtchfkncbemjepaaGreatChBase
import Derived.Test.YtchfkncbemjepaaGreatTmPV
set_option linter.unusedVariables false
set_option maxRecDepth 100000
set_option maxHeartbeats 8000000
/- Layer 11, the landed program: its mux in memory; backlog and the comparisons of channels. -/
namespace Go.Proofs.YtchfkncbemjepaaGreat
open Go.RowKit

def oC (x:Ch.Mx) (X:Nat->Nat) (i:Nat):Nat->Value
  | 0=>.pointer (some ⟨X i,0,none⟩)
  | 1=>.int .i64 (i:Nat)
  | 2=>.int .i64 (x.pr i:Nat)
  | 3=>.int .i64 (x.sh i:Nat)
  | 4=>.int .i64 (x.cr i:Nat)
  | _=>.int .i64 (x.ct i:Nat)
def mC (M:Nat) (x:Ch.Mx) (X:Nat->Nat) (j:Nat):Value:=
  if 4<=j then oC x X ((j - 4) / 6) ((j - 4) % 6) else
  match j with
  | 0=>.pointer (some ⟨M,0,none⟩)
  | 1=>.int .i64 (x.craft:Nat)
  | 2=>.int .i64 (x.n:Nat)
  | _=>.int .i64 (x.ma:Nat)
theorem mC_out (M:Nat) (x:Ch.Mx) (X:Nat->Nat) {i k:Nat} (hk:k < 6):mC M x X (4 + i * 6 + k)=oC x X i k:=by
  unfold mC
  rw [if_pos (by omega),show (4 + i * 6 + k - 4) / 6=i by omega,show (4 + i * 6 + k - 4) % 6=k by omega]
abbrev opV (M i:Nat):Value:=.pointer (some ⟨M,4 + i * 6,none⟩)
structure PM (w:World) (n0 M:Nat) (x:Ch.Mx) (X:Nat->Nat) (va vb:Nat->Value):Prop where
  xl:n0<=M
  ty:TyB w M 61
  c:Cel w M 52 (mC M x X)
  f:∀ i,i < 8->PV w n0 (X i) x.n (x.fl i) (va i) (vb i)
  ap:∀ i j,i < 8->j < 8->i ≠ j->∀ g,SX (X i) (va i) (vb i) g->¬ SX (X j) (va j) (vb j) g
def SM (M:Nat) (X:Nat->Nat) (va vb:Nat->Value) (g:Nat):Prop:=g=M\/∃ i,i < 8/\SX (X i) (va i) (vb i) g
abbrev MTs:List TypeId:=[61,129,5,3]
namespace PM
variable {w w':World} {n0 M:Nat} {x:Ch.Mx} {X:Nat->Nat} {va vb:Nat->Value}
theorem keep (h:PM w n0 M x X va vb) (hs:∀ g,SM M X va vb g->w'.heap[g]?=w.heap[g]?):PM w' n0 M x X va vb:=
  ⟨h.xl,h.ty.of_block (hs M (.inl rfl)),h.c.of_block (hs M (.inl rfl)),fun i hi=>(h.f i hi).keep (fun g hg=>hs g (.inr ⟨i,hi,hg⟩)),h.ap⟩
theorem tyS (h:PM w n0 M x X va vb) {g:Nat} (hg:SM M X va vb g):∃ t,t ∈ MTs/\TyB w g t:=by
  rcases hg with rfl | ⟨i,hi,hg⟩
  · exact ⟨_,by simp,h.ty⟩
  obtain ⟨t,ht,T⟩:=(h.f i hi).ty hg
  exact ⟨t,List.mem_cons_of_mem _ ht,T⟩
theorem lt (h:PM w n0 M x X va vb) {g:Nat} (hg:SM M X va vb g):g < w.heap.size:=by
  obtain ⟨t,_,T⟩:=h.tyS hg
  exact T.lt
theorem below (h:PM w n0 M x X va vb) (hb:Below w.heap.size w w'):PM w' n0 M x X va vb:=h.keep (fun g hg=>hb.block g (h.lt hg))
theorem notM (h:PM w n0 M x X va vb) {i:Nat} (hi:i < 8):¬ SX (X i) (va i) (vb i) M:=fun hg=>by
  obtain ⟨t,ht,T⟩:=(h.f i hi).ty hg
  exact ty_ne T h.ty (fun e=>by subst e; exact absurd ht (by decide)) rfl
theorem out (h:PM w n0 M x X va vb) {i k:Nat} (hi:i < 8) (hk:k < 6):w.cell? ⟨M,4 + i * 6 + k,none⟩=some (oC x X i k):=by
  rw [<-mC_out M x X hk]
  exact h.c.cell (by omega)
theorem own (h:PM w n0 M x X va vb):w.cell? ⟨M,0,none⟩=some (.pointer (some ⟨M,0,none⟩)):=h.c.cell (j:=0) (by omega)
theorem setM {x':Ch.Mx} (h:PM w n0 M x X va vb) (k:But M w w') (c:Cel w' M 52 (mC M x' X)) (t:TyB w' M 61) (hn:x'.n=x.n) (hf:x'.fl=x.fl):PM w' n0 M x' X va vb:=
  ⟨h.xl,t,c,fun i hi=>by
    rw [hn,hf]
    exact (h.f i hi).keep (fun g hg=>k.rest g ((h.f i hi).lt hg) (fun e=>h.notM hi (e ▸ hg))),h.ap⟩
theorem kfM (h:PM w n0 M x X va vb) (k:But M w w'):KF n0 (SM M X va vb) (SM M X va vb) w w':=
  ⟨But.under (Below.refl _ _) k h.xl,fun g hg hn=>k.rest g hg (fun e=>hn (.inl e)),fun g hg=>.inl hg⟩
theorem setF {i:Nat} {s':Tm.Fl} {va' vb':Value} (h:PM w n0 M x X va vb) (hi:i < 8) (p:PV w' n0 (X i) x.n s' va' vb') (k:KF n0 (SX (X i) (va i) (vb i)) (SX (X i) va' vb') w w'):
    PM w' n0 M { x with fl:=Ch.upd x.fl i s' } X (Ch.upd va i va') (Ch.upd vb i vb')/\KF n0 (SM M X va vb) (SM M X (Ch.upd va i va') (Ch.upd vb i vb')) w w':=by
  have rest:∀ j,j < 8->j ≠ i->∀ g,SX (X j) (va j) (vb j) g->w'.heap[g]?=w.heap[g]?:=fun j hj hji g hg=>k.rest g ((h.f j hj).lt hg) (h.ap j i hj hi hji g hg)
  have kM:w'.heap[M]?=w.heap[M]?:=k.rest M h.ty.lt (h.notM hi)
  refine ⟨⟨h.xl,h.ty.of_block kM,h.c.of_block kM,fun j hj=>?_,fun j l hj hl hjl g hg=>?_⟩,⟨k.below,fun g hg hn=>k.rest g hg (fun e=>hn (.inr ⟨i,hi,e⟩)),fun g hg=>?_⟩⟩
  · show PV w' n0 (X j) x.n (Ch.upd x.fl i s' j) (Ch.upd va i va' j) (Ch.upd vb i vb' j)
    by_cases e:j=i
    · subst e
      rw [Ch.upd_same,Ch.upd_same,Ch.upd_same]
      exact p
    rw [Ch.upd_ne _ _ e,Ch.upd_ne _ _ e,Ch.upd_ne _ _ e]
    exact (h.f j hj).keep (rest j hj e)
  · by_cases e:j=i
    · subst e
      rw [Ch.upd_same,Ch.upd_same] at hg
      rw [Ch.upd_ne _ _ (fun q=>hjl q.symm),Ch.upd_ne _ _ (fun q=>hjl q.symm)]
      rcases k.own g hg with q | q
      · exact h.ap j l hj hl hjl g q
      exact fun z=>absurd ((h.f l hl).lt z) (by omega)
    rw [Ch.upd_ne _ _ e,Ch.upd_ne _ _ e] at hg
    by_cases e2:l=i
    · subst e2
      rw [Ch.upd_same,Ch.upd_same]
      intro z
      rcases k.own g z with q | q
      · exact h.ap j l hj hl hjl g hg q
      exact absurd ((h.f j hj).lt hg) (by omega)
    rw [Ch.upd_ne _ _ e2,Ch.upd_ne _ _ e2]
    exact h.ap j l hj hl hjl g hg
  rcases hg with rfl | ⟨j,hj,hg⟩
  · exact .inl (.inl rfl)
  by_cases e:j=i
  · subst e
    rw [Ch.upd_same,Ch.upd_same] at hg
    rcases k.own g hg with q | q
    · exact .inl (.inr ⟨j,hj,q⟩)
    exact .inr q
  rw [Ch.upd_ne _ _ e,Ch.upd_ne _ _ e] at hg
  exact .inl (.inr ⟨j,hj,hg⟩)
end PM
theorem vwait {w:World} {n0 X n:Nat} {s:Tm.Fl} {va vb:Value} (h:PV w n0 X n s va vb) (g:Gd s):
    Calls Tryz.prog 48 #[.pointer (some ⟨X,0,none⟩)] w fun e w'=>e=.returned (.int .i64 (Tm.wait s.q:Nat))/\∃ m,w'=w.drewN m:=by
  obtain ⟨B,G,r,h1,h2⟩:=h
  obtain ⟨b1,b2,b3,b4,b5⟩:=g.bounds h2
  refine (twaiting_any h1 (by omega) (by omega)).mono ?_
  rintro e w' ⟨rfl,m,rfl⟩
  exact ⟨by rw [b2,Nat.add_sub_cancel_left],m,rfl⟩
theorem quiet_eqL {P:Program} {f:FuncId} {args:Array Value} {w:World} {n:Nat} {v:Value}
    (h:Calls P f args (w.drewN n) fun e w'=>e=.returned v/\w.drewN n=w'):Calls P f args (w.drewN n) fun e w''=>e=.returned v/\∃ m,w''=w.drewN m:=
  h.mono fun _ _ ⟨he,hm⟩=>⟨he,n,hm.symm⟩
section
variable {w:World} {n0 M:Nat} {x:Ch.Mx} {X:Nat->Nat} {va vb:Nat->Value}
theorem back_any (h:PM w n0 M x X va vb) (o:x.Ok) {i:Nat} (hi:i < 8):
    Calls Tryz.prog 66 #[.pointer (some ⟨M,0,none⟩),opV M i] w fun e w'=>e=.returned (.int .i64 (x.back i:Nat))/\∃ m,w'=w.drewN m:=by
  have c0:w.cell? ⟨M,4 + i * 6,none⟩=some (.pointer (some ⟨X i,0,none⟩)):=h.out hi (k:=0) (by omega)
  have c2:w.cell? ⟨M,2,none⟩=some (.int .i64 (x.n:Nat)):=h.c.cell (j:=2) (by omega)
  have VW:=Lib.hid (vwait (h.f i hi) (o.fl i hi))
  obtain ⟨W,hW⟩:∃ W,Tm.wait (x.fl i).q=W:=⟨_,rfl⟩
  have HV:=Lib.hid (show x.back i=if x.n<=W then 2 else if 0 < W then 1 else 0 by unfold Ch.Mx.back Ch.Mx.wt; rw [hW])
  obtain ⟨b,hb⟩:∃ b,x.back i=b:=⟨_,rfl⟩
  obtain ⟨n,hn⟩:∃ n,x.n=n:=⟨_,rfl⟩
  obtain ⟨Y,hY⟩:∃ Y,X i=Y:=⟨_,rfl⟩
  rw [hW,hY] at VW
  rw [hY] at c0
  rw [hn] at c2
  rw [hb,hn] at HV
  rw [hb]
  clear hb hn hY hW h o hi
  by_cases g1:n<=W
  · have p1:decide ((n:Int)<=(W:Int))=true:=decide_eq_true (by omega)
    have p1n:decide (n<=W)=true:=decide_eq_true g1
    have HB:b=2:=by rw [HV.out,if_pos g1]
    subst HB
    clear g1
    go_enter Tryz.func66,Tryz.ntmps66
    go_wp2_with fail
    (with_reducible refine VW.out.mono ?_)
    rintro e w' ⟨rfl,m,rfl⟩
    go_wp2_with fail
    go_ret
    exact ⟨rfl,_,rfl⟩
  have p1:decide ((n:Int)<=(W:Int))=false:=decide_eq_false (by omega)
  have p1n:decide (n<=W)=false:=decide_eq_false g1
  by_cases g2:0 < W
  · have p2:decide ((0:Int) < (W:Int))=true:=decide_eq_true (by omega)
    have HB:b=1:=by rw [HV.out,if_neg g1,if_pos g2]
    subst HB
    clear g1
    go_enter Tryz.func66,Tryz.ntmps66
    go_wp2_with fail
    (with_reducible refine VW.out.mono ?_)
    rintro e w' ⟨rfl,m,rfl⟩
    go_wp2_with fail
    go_ret
    exact ⟨rfl,_,rfl⟩
  have p2:decide ((0:Int) < (W:Int))=false:=decide_eq_false (by omega)
  have HB:b=0:=by rw [HV.out,if_neg g1,if_neg g2]
  subst HB
  clear g1
  go_enter Tryz.func66,Tryz.ntmps66
  go_wp2_with fail
  (with_reducible refine VW.out.mono ?_)
  rintro e w' ⟨rfl,m,rfl⟩
  go_wp2_with fail
  go_ret
  exact ⟨rfl,_,rfl⟩
theorem cmpB_any (h:PM w n0 M x X va vb) (o:x.Ok) {K:Nat} (cK:w.cell? ⟨K,0,none⟩=some (.pointer (some ⟨M,0,none⟩))) {i j:Nat} (hi:i < 8) (hj:j < 8):
    Calls Tryz.prog 64 #[opV M i,opV M j,.pointer (some ⟨K,0,none⟩)] w fun e w'=>e=.returned (.int .i64 (cmpI (x.back i:Nat) (x.back j:Nat)))/\∃ m,w'=w.drewN m:=by
  have BI:=Lib.hid (fun nq=>back_any (h.below (below_drewN (Below.refl _ _) nq)) o hi)
  have BJ:=Lib.hid (fun nq=>back_any (h.below (below_drewN (Below.refl _ _) nq)) o hj)
  have CM:=Lib.hid (fun a b w=>compareI_any a b w)
  obtain ⟨a,ha⟩:∃ a,x.back i=a:=⟨_,rfl⟩
  obtain ⟨b,hb⟩:∃ a,x.back j=a:=⟨_,rfl⟩
  obtain ⟨p,hp⟩:∃ p,4 + i * 6=p:=⟨_,rfl⟩
  obtain ⟨q,hq⟩:∃ p,4 + j * 6=p:=⟨_,rfl⟩
  unfold opV at BI BJ ⊢
  rw [ha,hp] at BI
  rw [hb,hq] at BJ
  rw [ha,hb,hp,hq]
  clear h o hi hj ha hb hp hq
  go_enter Tryz.func64,Tryz.ntmps64
  go_wp2_with fail
  go_quiet (first
    | (go_at_call 66; first | (with_reducible exact Calls.quiet_of (BI.out _)) | (with_reducible exact Calls.quiet_of (BJ.out _)))
    | (go_at_call 65; exact quiet_eqL (CM.out _ _ _)))
  go_wp2_with fail
  go_ret
  exact ⟨rfl,_,rfl⟩
theorem cmpP_any (h:PM w n0 M x X va vb) {i j:Nat} (hi:i < 8) (hj:j < 8):
    Calls Tryz.prog 67 #[opV M i,opV M j] w fun e w'=>e=.returned (.int .i64 (cmpI (x.pr i:Nat) (x.pr j:Nat)))/\∃ m,w'=w.drewN m:=by
  have ci:w.cell? ⟨M,4 + i * 6 + 2,none⟩=some (.int .i64 (x.pr i:Nat)):=h.out hi (k:=2) (by omega)
  have cj:w.cell? ⟨M,4 + j * 6 + 2,none⟩=some (.int .i64 (x.pr j:Nat)):=h.out hj (k:=2) (by omega)
  have CM:=Lib.hid (fun a b w=>compareI_any a b w)
  obtain ⟨a,ha⟩:∃ a,x.pr i=a:=⟨_,rfl⟩
  obtain ⟨b,hb⟩:∃ a,x.pr j=a:=⟨_,rfl⟩
  obtain ⟨p,hp⟩:∃ p,4 + i * 6=p:=⟨_,rfl⟩
  obtain ⟨q,hq⟩:∃ p,4 + j * 6=p:=⟨_,rfl⟩
  unfold opV
  rw [ha,hp] at ci
  rw [hb,hq] at cj
  rw [ha,hb,hp,hq]
  clear h hi hj ha hb hp hq
  go_enter Tryz.func67,Tryz.ntmps67
  go_wp2_with fail
  go_quiet ((go_at_call 65; exact quiet_eqL (CM.out _ _ _)))
  go_wp2_with fail
  go_ret
  exact ⟨rfl,_,rfl⟩
theorem cmpC_any (h:PM w n0 M x X va vb) {i j:Nat} (hi:i < 8) (hj:j < 8):
    Calls Tryz.prog 68 #[opV M i,opV M j] w fun e w'=>e=.returned (.int .i64 (cmpI (x.cr i:Nat) (x.cr j:Nat)))/\∃ m,w'=w.drewN m:=by
  have ci:w.cell? ⟨M,4 + i * 6 + 4,none⟩=some (.int .i64 (x.cr i:Nat)):=h.out hi (k:=4) (by omega)
  have cj:w.cell? ⟨M,4 + j * 6 + 4,none⟩=some (.int .i64 (x.cr j:Nat)):=h.out hj (k:=4) (by omega)
  have CM:=Lib.hid (fun a b w=>compareI_any a b w)
  obtain ⟨a,ha⟩:∃ a,x.cr i=a:=⟨_,rfl⟩
  obtain ⟨b,hb⟩:∃ a,x.cr j=a:=⟨_,rfl⟩
  obtain ⟨p,hp⟩:∃ p,4 + i * 6=p:=⟨_,rfl⟩
  obtain ⟨q,hq⟩:∃ p,4 + j * 6=p:=⟨_,rfl⟩
  unfold opV
  rw [ha,hp] at ci
  rw [hb,hq] at cj
  rw [ha,hb,hp,hq]
  clear h hi hj ha hb hp hq
  go_enter Tryz.func68,Tryz.ntmps68
  go_wp2_with fail
  go_quiet ((go_at_call 65; exact quiet_eqL (CM.out _ _ _)))
  go_wp2_with fail
  go_ret
  exact ⟨rfl,_,rfl⟩
end
end Go.Proofs.YtchfkncbemjepaaGreat

/- Layer 11, the landed program: slices.MaxFunc over channels, best, all. -/
namespace Go.Proofs.YtchfkncbemjepaaGreat
open Go.RowKit

theorem top_take {k:Nat->Nat} {l:List Nat} {i a:Nat} (h:l[i]?=some a):Ch.top k (l.take (i + 1))=max (Ch.top k (l.take i)) (k a):=by
  rw [List.take_add_one,h]
  exact Ch.top_app k _ a
theorem top_one {k:Nat->Nat} {l:List Nat} {a:Nat} (h:l[0]?=some a):Ch.top k (l.take 1)=k a:=by
  cases l with
  | nil=>cases h
  | cons b l=>
    simp only [List.getElem?_cons_zero,Option.some.injEq] at h
    subst h
    show max (k b) (Ch.top k (l.take 0))=k b
    rw [List.take_zero]
    exact Nat.max_zero _
theorem cmpI_gt {a b:Nat} (h:b < a):cmpI (a:Int) (b:Int)=1:=by
  unfold cmpI
  rw [if_neg (by omega),if_pos (by omega)]
theorem cmpI_le {a b:Nat} (h:¬ b < a):cmpI (a:Int) (b:Int)<=0:=by
  unfold cmpI
  split
  · omega
  rw [if_neg (by omega)]
  exact Int.le_refl _
theorem cmpI_eq {a b:Nat}:cmpI (a:Int) (b:Int)=0 ↔ a=b:=by
  unfold cmpI
  split
  · omega
  split <;> omega
theorem maxF_any (fid:FuncId) (cap:Array Value) (k:Nat->Nat) (M B c:Nat) (l:List Nat) (n:Nat) (hl:l.length=n) (h0:0 < n) (h8:n<=8) (w:World)
    (hc:∀ j i,l[j]?=some i->w.cell? ⟨B,j,none⟩=some (opV M i))
    (hfn:∀ args w,(callFunc fid args).run Tryz.prog w=.ok (.enter fid args) w)
    (CF:∀ i j nq,i ∈ l->j ∈ l->Calls Tryz.prog fid (#[opV M i,opV M j] ++ cap) (w.drewN nq) fun e w'=>e=.returned (.int .i64 (cmpI (k i:Nat) (k j:Nat)))/\∃ m,w'=(w.drewN nq).drewN m):
    Calls Tryz.prog 102 #[.slice (some ⟨B,0,none⟩) n c,.func (.func fid) #[] cap] w
      fun e w'=>∃ m,m ∈ l/\k m=Ch.top k l/\e=.returned (opV M m)/\∃ d,w'=w.drewN d:=by
  obtain ⟨a0,ha0⟩:∃ z,l[0]?=some z:=⟨l[0]'(by omega),List.getElem?_eq_getElem (by omega)⟩
  have c0:w.cell? ⟨B,0,none⟩=some (opV M a0):=hc 0 a0 ha0
  have p0:decide ((n:Int) < 1)=false:=decide_eq_false (by omega)
  have p0n:decide (n < 1)=false:=decide_eq_false (by omega)
  have HA:=Lib.hid ha0
  have HL:=Lib.hid hl
  have HC:=Lib.hid hc
  have HF:=Lib.hid CF
  have HN:=Lib.hid hfn
  have H0:=Lib.hid h0
  have H8:=Lib.hid h8
  unfold opV at c0
  obtain ⟨p,hp⟩:∃ p,4 + a0 * 6=p:=⟨_,rfl⟩
  rw [hp] at c0
  have HP:=Lib.hid hp
  clear ha0 hl hc CF h0 hp hfn
  go_enter Tryz.func102,Tryz.ntmps102
  go_wp2_with fail
  go_loopw [5,6] (fun x5 x6 wr=>∃ i m d:Nat,1<=i/\i<=n/\x6=.int .i64 i/\x5=opV M m/\m ∈ l/\k m=Ch.top k (l.take i)/\wr=w.drewN d) (fun _ x6 _=>n - (intOf x6).toNat)
  case atStart=>exact ⟨1,a0,0,Nat.le_refl _,H0.out,rfl,by rw [<-HP.out],List.mem_of_getElem? HA.out,(top_one HA.out).symm,rfl⟩
  case round=>
    obtain ⟨i,m,d,h1,hi,rfl,rfl,hm,hk,hw⟩:=hrel
    by_cases hlt:i < n
    · obtain ⟨a,ha⟩:∃ z,l[i]?=some z:=⟨l[i]'(by have:=HL.out; omega),List.getElem?_eq_getElem (by have:=HL.out; omega)⟩
      have ca:wr.cell? ⟨B,i,none⟩=some (opV M a):=by rw [hw]; exact HC.out i a ha
      have i0:(0:Int)<=(i:Int):=by omega
      have i1:(i:Int) < (n:Int):=by omega
      have TT:=Lib.hid (top_take (k:=k) ha)
      have CA:=HF.out a m d (List.mem_of_getElem? ha) hm
      have AM:=Lib.hid (List.mem_of_getElem? ha)
      have HM:=Lib.hid hm
      have HK:=Lib.hid hk
      have HW:=Lib.hid hw
      have H1:=Lib.hid h1
      obtain ⟨p,hp⟩:∃ p,4 + a * 6=p:=⟨_,rfl⟩
      obtain ⟨q,hq⟩:∃ p,4 + m * 6=p:=⟨_,rfl⟩
      have HP:=Lib.hid hp
      have HQ:=Lib.hid hq
      unfold opV at ca CA ⊢
      rw [hp] at ca CA
      rw [hq] at CA ⊢
      by_cases g:k m < k a
      · rw [cmpI_gt g,<-hw] at CA
        have MX:=Lib.hid (show k a=Ch.top k (l.take (i + 1)) by rw [TT.out,<-HK.out]; omega)
        have CA2:=Lib.hid CA
        clear CA hw hk hm ha hp hq g h1 hi
        go_wp2_with fail
        rw [HN.out,Oper.upon_enter]
        (refine CA2.out.mono ?_)
        rintro e w2 ⟨rfl,d2,rfl⟩
        go_wp2_with fail
        go_roundw
        case rel=>exact ⟨i + 1,a,d + d2,by omega,by omega,by go_num,by rw [<-HP.out],AM.out,MX.out,by rw [HW.out,World.drewN_drewN]⟩
        case measure=>simp [intOf]; omega
      obtain ⟨r,hr⟩:∃ r,cmpI ((k a:Nat):Int) ((k m:Nat):Int)=r:=⟨_,rfl⟩
      have hr0:r<=0:=by rw [<-hr]; exact cmpI_le g
      have pr:decide (0 < r)=false:=decide_eq_false (by omega)
      rw [hr,<-hw] at CA
      have MX:=Lib.hid (show k m=Ch.top k (l.take (i + 1)) by rw [TT.out,<-HK.out]; omega)
      have CA2:=Lib.hid CA
      clear CA hw hk hm ha hp hq g h1 hi hr hr0
      go_wp2_with fail
      rw [HN.out,Oper.upon_enter]
      (refine CA2.out.mono ?_)
      rintro e w2 ⟨rfl,d2,rfl⟩
      go_wp2_with fail
      go_roundw
      case rel=>exact ⟨i + 1,m,d + d2,by omega,by omega,by go_num,by rw [<-HQ.out],HM.out,MX.out,by rw [HW.out,World.drewN_drewN]⟩
      case measure=>simp [intOf]; omega
    obtain rfl:n=i:=by omega
    have TK:=Lib.hid (show l.take n=l from List.take_of_length_le (by have:=HL.out; omega))
    have HM:=Lib.hid hm
    have HK:=Lib.hid hk
    have HW:=Lib.hid hw
    clear hm hk hw
    go_wp2_with fail
    go_ret
    exact ⟨m,HM.out,by rw [HK.out,TK.out],rfl,d,HW.out⟩
theorem wpList_setMidT {P:Program} {ops:Array Oper} {rest:List Oper} {op:Oper} {a:Act} {w:World} {Q:Exit->Act->World->Prop} (hgd:op.guard=none) (ty:TypeId) (x y:Operand) (ho:op.op=.store ty x y) (X p n m:Nat) (vs:List Value) (f g:Nat->Value) (C:Cel w X n f) (hm:vs.length=m) (hp:p + m<=n)
    (hg:∀ j,j < n->(if p<=j/\j < p + m then vs.getD (j - p) undef else f j)=g j)
    (hx:a.eval x=.pointer (some ⟨X,p,none⟩)) (hy:a.eval y=.agg vs.toArray) (hi:(P.info? ty).map (·.size)=some m) (h1:vs.all (·.oneCell')=true)
    (K:∀ w',Hid (Cel w' X n g)->Hid (But X w w')->Hid (w'.heap.size=w.heap.size)->Hid (∀ t,TyB w X t->TyB w' X t)->wpList P ops Q rest (a.put op.dst undef) w'):wpList P ops Q (op :: rest) a w:=by
  have there:w.there X p vs.toArray.size:=C.there p _ (by simp only [List.size_toArray]; omega)
  refine wpList_store_mid hgd ty x y ho X p vs.toArray hx hy there (by rw [hi]; simp [hm]) (by simpa using h1) ?_
  refine K _ (Lib.hid ?_) (Lib.hid (But.of_setCells X _ _ _)) (Lib.hid (size_setCells _ _ _ _)) (Lib.hid (fun t h=>tyB_setCells X t _ _ _ h))
  refine (C.setMany p vs (by omega) undef).congr (fun j hj=>?_)
  rw [hm]
  exact hg j hj
def opVs (M:Nat) (l:List Nat):List Value:=l.map fun i=>opV M i
theorem opVs_add (M:Nat) (l:List Nat) (i:Nat):opVs M l ++ [opV M i]=opVs M (l ++ [i]):=by unfold opVs; rw [List.map_append]; rfl
theorem opVs_at {M:Nat} {l:List Nat} {k i:Nat} (h:l[k]?=some i):(opVs M l)[k]?=some (opV M i):=by unfold opVs; rw [List.getElem?_map,h]; rfl
theorem info_oc:(Tryz.prog.info? 94).map (fun i=>(i.zero,i.size,i.bytes))=some (some (.pointer none),1,8):=by kernel_rfl
theorem build_op1 {ev:Operand->Value} {w:World} {o:Oper} {x:Operand} {a:Option Addr} (h:o.op=.buildSlice 140 1 #[(0,x)]) (hx:ev x=.pointer a):(execOp ev o).run Tryz.prog w=.ok (.value (.slice (some ⟨w.heap.size,0,none⟩) 1 1)) (w.alloc (.cells ([.pointer a]:List Value).toArray 94)):=by
  simp only [execOp,h]; go_simp
theorem wpList_newOwn {P:Program} {ops:Array Oper} {rest:List Oper} {op:Oper} {a:Act} {w:World} {Q:Exit->Act->World->Prop} (hgd:op.guard=none) (OP:Op) (ho:op.op=OP) (vs:List Value) (t:TypeId) (n base:Nat) (hn:vs.length=n) (hm:n<=maxLen) (hb:base<=w.heap.size)
    (hrun:(execOp a.eval op).run P w=.ok (.value (.slice (some ⟨w.heap.size,0,none⟩) n n)) (w.alloc (.cells vs.toArray t)))
    (K:∀ X w',Hid (w.heap.size=X)->Hid (w'.ownsRow base t 1 (.slice (some ⟨X,0,none⟩) n n) n vs)->Hid (Below w.heap.size w w')->wpList P ops Q rest (a.put op.dst (.slice (some ⟨X,0,none⟩) n n)) w'):wpList P ops Q (op :: rest) a w:=
  wpList_plain hgd fun _ hK=>by
    unfold Oper.wp
    rw [hrun,Oper.upon_value]
    exact hK _ _ (K w.heap.size _ (Lib.hid rfl) (Lib.hid (own_new2 vs hn hm hb)) (Lib.hid (ba (Below.refl _ _) _)))
theorem own_cells {w:World} {base n c:Nat} {sa:Option Addr} {xs:List Value} {t:TypeId} (h:w.ownsRow base t 1 (.slice sa n c) n xs):∀ ad,sa=some ad->∀ j u,xs[j]?=some u->w.cell? (ad.add j)=some u:=fun ad e j u hu=>by
  subst e
  have hn:0 < n:=by
    have h1:=h.1
    have:=(List.getElem?_eq_some_iff.1 hu).1
    omega
  obtain ⟨g,e,_,_⟩:=row_some h hn
  cases e
  exact h.cells (g:=g) rfl j u hu
def Oc (w:World) (n0 M:Nat) (v:Value) (l:List Nat):Prop:=w.ownsRow n0 94 1 v l.length (opVs M l)
theorem Oc.below {w w':World} {n0 M:Nat} {v:Value} {l:List Nat} (h:Oc w n0 M v l) (hb:Below w.heap.size w w'):Oc w' n0 M v l:=own_below h hb
theorem Oc.open {w:World} {n0 M:Nat} {v:Value} {l:List Nat} (h:Oc w n0 M v l) (hl:l ≠ []):∃ B c,v=.slice (some ⟨B,0,none⟩) l.length c/\n0<=B/\TyB w B 94/\∀ j i,l[j]?=some i->w.cell? ⟨B,j,none⟩=some (opV M i):=by
  obtain ⟨a,c,rfl⟩:=own_is h
  obtain ⟨g,rfl,h1,h2⟩:=row_some h (List.length_pos_iff.2 hl)
  exact ⟨g,c,rfl,h1,h2,fun j i hj=>by
    have:=own_cells h _ rfl j _ (opVs_at hj)
    rwa [add_off,Nat.zero_add] at this⟩
theorem filter_take {p:Nat->Bool} {l:List Nat} {i a:Nat} (h:l[i]?=some a):(l.take (i + 1)).filter p=(l.take i).filter p ++ (if p a=true then [a] else []):=by
  rw [List.take_add_one,h,List.filter_append]
  congr 1
  simp [List.filter_cons]
theorem best_any (fid:FuncId) (cap:Array Value) (k:Nat->Nat) (M B c:Nat) (l:List Nat) (n:Nat) (hl:l.length=n) (h0:0 < n) (h8:n<=8) (w:World) (hB:B < w.heap.size)
    (hc:∀ j i,l[j]?=some i->w.cell? ⟨B,j,none⟩=some (opV M i))
    (hfn:∀ args w,(callFunc fid args).run Tryz.prog w=.ok (.enter fid args) w)
    (CF:∀ w' i j,Below w.heap.size w w'->i ∈ l->j ∈ l->Calls Tryz.prog fid (#[opV M i,opV M j] ++ cap) w' fun e w2=>e=.returned (.int .i64 (cmpI (k i:Nat) (k j:Nat)))/\∃ m,w2=w'.drewN m):
    Calls Tryz.prog 69 #[.agg #[.func (.func fid) #[] cap],.slice (some ⟨B,0,none⟩) n c] w
      fun e w'=>∃ v,e=.returned v/\Oc w' w.heap.size M v (Ch.best k l)/\Below w.heap.size w w':=by
  obtain ⟨j0,hj0,hy0,hy1,hy2⟩:=info_parts info_oc
  have HL:=Lib.hid hl
  have HC:=Lib.hid hc
  have HF:=Lib.hid CF
  have HN:=Lib.hid hfn
  have HB:=Lib.hid hB
  have H0:=Lib.hid h0
  clear hl hc CF hfn hB h0
  go_enter Tryz.func69,Tryz.ntmps69
  go_wp2_with (((with_reducible refine atList ?_); refine wpList_newT rfl (.box 139 (.tmp 0)) rfl (some 2) rfl #[.func (.func fid) #[] cap] 139 (fun X=>.pointer (some ⟨X,0,none⟩)) 1 (fun _=>.func (.func fid) #[] cap) (fun j hj=>by obtain rfl:j=0:=(by omega); rfl) (by simp only [execOp]; go_simp) ?_; intro X w1 HX Sw1 CX BX TX; have cX:w1.cell? ⟨X,0,none⟩=some (.func (.func fid) #[] cap):=CX.out.cell (j:=0) (by omega)))
  have MF:=Lib.hid (maxF_any fid cap k M B c l n HL.out H0.out h8 w1 (fun j i hj=>(BX.out.cell (p:=⟨B,j,none⟩) HB.out).trans (HC.out j i hj)) HN.out (fun i j nq hi hj=>HF.out _ i j (below_drewN BX.out nq) hi hj))
  go_wp2_with fail
  (refine MF.out.mono ?_)
  rintro e w2 ⟨m,hm,hk,rfl,d,hd⟩
  have B2:=Lib.hid (show Below w.heap.size w w2 by rw [hd]; exact below_drewN BX.out d)
  have C2:=Lib.hid (show Cel w2 X 1 (fun _=>.func (.func fid) #[] cap) from CX.out.below (by rw [hd]; exact below_drewN (Below.refl _ _) d))
  have T2:=Lib.hid (show TyB w2 X 139 from TX.out.below (by rw [hd]; exact below_drewN (Below.refl _ _) d))
  have HM:=Lib.hid hm
  have HK:=Lib.hid hk
  obtain ⟨q,hq⟩:∃ p,4 + m * 6=p:=⟨_,rfl⟩
  have HQ:=Lib.hid hq
  unfold opV
  rw [hq]
  clear hm hk hd MF cX CX TX BX hq
  go_wp2_with fail
  go_loopw [6,15] (fun x6 x15 wr=>∃ i:Nat,i<=n/\x15=.int .i64 i/\Oc wr w.heap.size M x6 ((l.take i).filter (fun i=>k i == Ch.top k l))/\Below w.heap.size w wr/\Cel wr X 1 (fun _=>.func (.func fid) #[] cap)/\TyB wr X 139) (fun _ x15 _=>n - (intOf x15).toNat)
  case atStart=>exact ⟨0,Nat.zero_le _,rfl,World.ownsRow_nil _ _ _ _,B2.out,C2.out,T2.out⟩
  case round=>
    obtain ⟨i,hi,rfl,hO,hB3,hC3,hT3⟩:=hrel
    have OR:=Lib.hid hO
    have B3:=Lib.hid hB3
    have C3:=Lib.hid hC3
    have T3:=Lib.hid hT3
    have LF:=Lib.hid (show ((l.take i).filter (fun i=>k i == Ch.top k l)).length<=8 from Nat.le_trans (List.length_filter_le _ _) (by rw [List.length_take]; omega))
    clear hO hB3 hC3 hT3
    by_cases hlt:i < n
    · obtain ⟨a,ha⟩:∃ z,l[i]?=some z:=⟨l[i]'(by have:=HL.out; omega),List.getElem?_eq_getElem (by have:=HL.out; omega)⟩
      have ca:wr.cell? ⟨B,i,none⟩=some (opV M a):=(B3.out.cell (p:=⟨B,i,none⟩) HB.out).trans (HC.out i a ha)
      have cx:wr.cell? ⟨X,0,none⟩=some (.func (.func fid) #[] cap):=C3.out.cell (j:=0) (by omega)
      have i0:(0:Int)<=(i:Int):=by omega
      have i1:(i:Int) < (n:Int):=by omega
      have FT:=Lib.hid (filter_take (p:=fun i=>k i == Ch.top k l) ha)
      have CA:=HF.out wr a m B3.out (List.mem_of_getElem? ha) HM.out
      obtain ⟨p,hp⟩:∃ p,4 + a * 6=p:=⟨_,rfl⟩
      have HP:=Lib.hid hp
      unfold opV at ca CA
      rw [hp] at ca CA
      rw [HQ.out] at CA
      by_cases g:k a=k m
      · rw [cmpI_eq.2 g] at CA
        have FT2:=Lib.hid (FT.out.trans (by rw [if_pos (by rw [g,HK.out]; simp)]))
        have CA2:=Lib.hid CA
        clear CA ha hp g FT
        go_wp2_with fail
        rw [HN.out,Oper.upon_enter]
        (refine CA2.out.mono ?_)
        rintro e w4 ⟨rfl,d2,hd2⟩
        have b4:Below wr.heap.size wr w4:=by rw [hd2]; exact below_drewN (Below.refl _ _) d2
        have B4:=Lib.hid (bt B3.out b4)
        have C4:=Lib.hid (C3.out.below b4)
        have T4:=Lib.hid (T3.out.below b4)
        have O4:=Lib.hid (OR.out.below b4)
        have N4:=Lib.hid B4.out.size
        clear b4 hd2 ca cx CA2
        go_wp2_with (first
          | ((with_reducible refine atList ?_); refine wpList_newOwn rfl (.buildSlice 140 1 #[(0,.tmp 26)]) rfl [.pointer (some ⟨M,p,none⟩)] 94 1 w.heap.size rfl (by unfold maxLen; omega) N4.out (build_op1 rfl rfl) ?_; intro A5 w5 HA5 OA5 LA5)
          | (at_builtin; (with_reducible refine atList ?_); refine wpList_append_own2 rfl (.tmp 25) (.tmp 27) 140 rfl w.heap.size 94 j0 (.pointer none) 1 8 Tryz.underlying140 hj0 hy0 hy1 hy2 rfl (by decide) _ _ _ rfl (O4.out.below LA5.out) ⟨A5,0,none⟩ 1 1 [.pointer (some ⟨M,p,none⟩)] rfl rfl (own_cells OA5.out ⟨A5,0,none⟩ rfl) (by simp [Value.oneCell']) (by unfold maxLen; have:=LF.out; omega) (by have:=LF.out; omega) (Nat.le_trans N4.out LA5.out.size) ?_; intro v6 w6 O6 g6 k6; have B6:=Lib.hid ((bt B4.out LA5.out).grown g6 (Nat.le_trans N4.out LA5.out.size) (fun k e=>(own_ty (O4.out.below LA5.out) e).1)); have e6:=(T4.out.below LA5.out).of_block (g6.block X (T4.out.below LA5.out).lt (fun e=>ty_ne (T4.out.below LA5.out) (own_ty (O4.out.below LA5.out) e.symm).2 (by decide) rfl)); have f6:=(C4.out.below LA5.out).of_block (g6.block X (T4.out.below LA5.out).lt (fun e=>ty_ne (T4.out.below LA5.out) (own_ty (O4.out.below LA5.out) e.symm).2 (by decide) rfl)); have HO6:=Lib.hid O6; have T6:=Lib.hid e6; have C6:=Lib.hid f6; clear O6 g6 k6 e6 f6))
        go_roundw
        case rel=>exact ⟨i + 1,by omega,by go_num,by
          show World.ownsRow _ _ _ _ _ _ _
          rw [FT2.out,List.length_append,<-opVs_add]
          have:=HO6.out
          rw [<-HP.out] at this
          exact this,B6.out,C6.out,T6.out⟩
        case measure=>simp [intOf]; omega
      obtain ⟨r,hr⟩:∃ r,cmpI ((k a:Nat):Int) ((k m:Nat):Int)=r:=⟨_,rfl⟩
      have pr:(r == (0:Int))=false:=by
        rw [<-hr]
        simpa using fun h=>g (cmpI_eq.1 h)
      rw [hr] at CA
      have FT2:=Lib.hid (FT.out.trans (by rw [if_neg (by rw [<-HK.out]; simpa using g),List.append_nil]))
      have CA2:=Lib.hid CA
      clear CA ha hp g FT hr
      go_wp2_with fail
      rw [HN.out,Oper.upon_enter]
      (refine CA2.out.mono ?_)
      rintro e w4 ⟨rfl,d2,hd2⟩
      have b4:Below wr.heap.size wr w4:=by rw [hd2]; exact below_drewN (Below.refl _ _) d2
      have B4:=Lib.hid (bt B3.out b4)
      have C4:=Lib.hid (C3.out.below b4)
      have T4:=Lib.hid (T3.out.below b4)
      have O4:=Lib.hid (OR.out.below b4)
      clear b4 hd2 ca cx CA2
      go_wp2_with fail
      go_roundw
      case rel=>exact ⟨i + 1,by omega,by go_num,by rw [FT2.out]; exact O4.out,B4.out,C4.out,T4.out⟩
      case measure=>simp [intOf]; omega
    obtain rfl:n=i:=by omega
    have TK:=Lib.hid (show l.take n=l from List.take_of_length_le (by have:=HL.out; omega))
    have OR2:=Lib.hid (show Oc wr w.heap.size M u6 (Ch.best k l) by have:=OR.out; rw [TK.out] at this; exact this)
    clear OR
    obtain ⟨sa,sc,hv⟩:=own_is OR2.out
    subst hv
    go_wp2_with fail
    go_ret
    exact ⟨_,rfl,OR2.out,B3.out⟩
end Go.Proofs.YtchfkncbemjepaaGreat

/- Layer 11, the landed program: all, renew. -/
namespace Go.Proofs.YtchfkncbemjepaaGreat
open Go.RowKit

theorem all_take {i:Nat} (h:i < 8):Ch.allC.take (i + 1)=Ch.allC.take i ++ [i]:=by
  match i,h with
  | 0,_=>rfl
  | 1,_=>rfl
  | 2,_=>rfl
  | 3,_=>rfl
  | 4,_=>rfl
  | 5,_=>rfl
  | 6,_=>rfl
  | 7,_=>rfl
theorem all_get {j:Nat} (h:j < 8):Ch.allC[j]?=some j:=by
  match j,h with
  | 0,_=>rfl
  | 1,_=>rfl
  | 2,_=>rfl
  | 3,_=>rfl
  | 4,_=>rfl
  | 5,_=>rfl
  | 6,_=>rfl
  | 7,_=>rfl
theorem all_any (M:Nat) (w:World):Calls Tryz.prog 70 #[.pointer (some ⟨M,0,none⟩)] w
    fun e w'=>∃ v,e=.returned v/\Oc w' w.heap.size M v Ch.allC/\Below w.heap.size w w':=by
  obtain ⟨j0,hj0,hy0,hy1,hy2⟩:=info_parts info_oc
  have B0:=Lib.hid (Below.refl w.heap.size w)
  go_enter Tryz.func70,Tryz.ntmps70
  go_wp2_with fail
  go_loopw [3,5] (fun x3 x5 wr=>∃ i:Nat,i<=8/\x5=.int .i64 i/\Oc wr w.heap.size M x3 (Ch.allC.take i)/\Below w.heap.size w wr) (fun _ x5 _=>8 - (intOf x5).toNat)
  case atStart=>exact ⟨0,Nat.zero_le _,rfl,World.ownsRow_nil _ _ _ _,B0.out⟩
  case round=>
    obtain ⟨i,hi,rfl,hO,hB3⟩:=hrel
    have OR:=Lib.hid hO
    have B3:=Lib.hid hB3
    have N3:=Lib.hid hB3.size
    have LF:=Lib.hid (show (Ch.allC.take i).length<=8 by rw [List.length_take]; exact Nat.le_trans (Nat.min_le_left _ _) hi)
    clear hO hB3
    by_cases hlt:i < 8
    · have i1:(i:Int) < 8:=by omega
      have i0:(0:Int)<=(i:Int):=by omega
      have TK:=Lib.hid (all_take hlt)
      go_wp2_with (first
        | ((with_reducible refine atList ?_); refine wpList_newOwn rfl (.buildSlice 140 1 #[(0,.tmp 13)]) rfl [opV M i] 94 1 w.heap.size rfl (by unfold maxLen; omega) N3.out (build_op1 rfl rfl) ?_; intro A5 w5 HA5 OA5 LA5)
        | (at_builtin; (with_reducible refine atList ?_); refine wpList_append_own2 rfl (.tmp 8) (.tmp 14) 140 rfl w.heap.size 94 j0 (.pointer none) 1 8 Tryz.underlying140 hj0 hy0 hy1 hy2 rfl (by decide) _ _ _ rfl (OR.out.below LA5.out) ⟨A5,0,none⟩ 1 1 [opV M i] rfl rfl (own_cells OA5.out ⟨A5,0,none⟩ rfl) (by simp [Value.oneCell']) (by unfold maxLen; have:=LF.out; omega) (by have:=LF.out; omega) (Nat.le_trans N3.out LA5.out.size) ?_; intro v6 w6 O6 g6 k6; have B6:=Lib.hid ((bt B3.out LA5.out).grown g6 (Nat.le_trans N3.out LA5.out.size) (fun k e=>(own_ty (OR.out.below LA5.out) e).1)); have HO6:=Lib.hid O6; clear O6 g6 k6))
      go_roundw
      case rel=>exact ⟨i + 1,by omega,by go_num,by
        show World.ownsRow _ _ _ _ _ _ _
        rw [TK.out,List.length_append,<-opVs_add]
        exact HO6.out,B6.out⟩
      case measure=>simp [intOf]; omega
    obtain rfl:8=i:=by omega
    have OR2:=Lib.hid (show Oc wr w.heap.size M u3 Ch.allC from OR.out)
    clear OR
    obtain ⟨sa,sc,hv⟩:=own_is OR2.out
    subst hv
    go_wp2_with fail
    go_ret
    exact ⟨_,rfl,OR2.out,B3.out⟩
theorem oC_cr (x:Ch.Mx) (X:Nat->Nat) (q k i v:Nat) (hk:k < 6) (h:¬ (q=i/\k=4)):oC x X q k=oC { x with cr:=Ch.upd x.cr i v } X q k:=by
  match k,hk,h with
  | 0,_,_=>rfl
  | 1,_,_=>rfl
  | 2,_,_=>rfl
  | 3,_,_=>rfl
  | 4,_,h=>exact congrArg (fun z:Nat=>Value.int .i64 z) (Ch.upd_ne x.cr v (fun e=>h ⟨e,rfl⟩)).symm
  | 5,_,_=>rfl
theorem mC_cr (M:Nat) (x:Ch.Mx) (X:Nat->Nat) (i v:Nat):∀ j,j < 52->(if j=4 + i * 6 + 4 then Value.int .i64 (v:Nat) else mC M x X j)=mC M { x with cr:=Ch.upd x.cr i v } X j:=fun j hj=>by
  by_cases e:j=4 + i * 6 + 4
  · subst e
    rw [if_pos rfl,mC_out _ _ _ (by omega)]
    exact congrArg (fun z:Nat=>Value.int .i64 z) (Ch.upd_same x.cr i v).symm
  rw [if_neg e]
  unfold mC
  by_cases h4:4<=j
  · rw [if_pos h4,if_pos h4]
    exact oC_cr x X _ _ i v (by omega) (by omega)
  rw [if_neg h4,if_neg h4]
theorem oC_ct (x:Ch.Mx) (X:Nat->Nat) (q k i v:Nat) (hk:k < 6) (h:¬ (q=i/\k=5)):oC x X q k=oC { x with ct:=Ch.upd x.ct i v } X q k:=by
  match k,hk,h with
  | 0,_,_=>rfl
  | 1,_,_=>rfl
  | 2,_,_=>rfl
  | 3,_,_=>rfl
  | 4,_,_=>rfl
  | 5,_,h=>exact congrArg (fun z:Nat=>Value.int .i64 z) (Ch.upd_ne x.ct v (fun e=>h ⟨e,rfl⟩)).symm
theorem mC_ct (M:Nat) (x:Ch.Mx) (X:Nat->Nat) (i v:Nat):∀ j,j < 52->(if j=4 + i * 6 + 5 then Value.int .i64 (v:Nat) else mC M x X j)=mC M { x with ct:=Ch.upd x.ct i v } X j:=fun j hj=>by
  by_cases e:j=4 + i * 6 + 5
  · subst e
    rw [if_pos rfl,mC_out _ _ _ (by omega)]
    exact congrArg (fun z:Nat=>Value.int .i64 z) (Ch.upd_same x.ct i v).symm
  rw [if_neg e]
  unfold mC
  by_cases h4:4<=j
  · rw [if_pos h4,if_pos h4]
    exact oC_ct x X _ _ i v (by omega) (by omega)
  rw [if_neg h4,if_neg h4]
theorem mC_ma (M:Nat) (x:Ch.Mx) (X:Nat->Nat) (v:Nat):∀ j,j < 52->(if j=3 then Value.int .i64 (v:Nat) else mC M x X j)=mC M { x with ma:=v } X j:=fun j hj=>by
  by_cases e:j=3
  · subst e
    rfl
  rw [if_neg e]
  unfold mC
  by_cases h4:4<=j
  · rw [if_pos h4,if_pos h4]
    have:∀ q k,oC x X q k=oC { x with ma:=v } X q k:=fun q k=>by
      match k with
      | 0=>rfl
      | 1=>rfl
      | 2=>rfl
      | 3=>rfl
      | 4=>rfl
      | _ + 5=>rfl
    exact this _ _
  rw [if_neg h4,if_neg h4]
  match j,e with
  | 0,_=>rfl
  | 1,_=>rfl
  | 2,_=>rfl
  | j + 3,e=>exact absurd h4 (by omega)
def rnw (x:Ch.Mx) (p i:Nat):Nat->Nat:=fun j=>if j < i/\x.pr j=p then x.sh j else x.cr j
theorem rnw_zero (x:Ch.Mx) (p:Nat):rnw x p 0=x.cr:=by
  funext j
  unfold rnw
  rw [if_neg (by omega)]
theorem rnw_yes {x:Ch.Mx} {p i:Nat} (h:x.pr i=p):Ch.upd (rnw x p i) i (x.sh i)=rnw x p (i + 1):=by
  funext j
  unfold Ch.upd rnw
  by_cases e:j=i
  · subst e
    rw [if_pos rfl,if_pos ⟨by omega,h⟩]
  rw [if_neg e]
  by_cases g:x.pr j=p
  · by_cases g2:j < i
    · rw [if_pos ⟨g2,g⟩,if_pos ⟨by omega,g⟩]
    rw [if_neg (by omega),if_neg (by omega)]
  rw [if_neg (fun q=>g q.2),if_neg (fun q=>g q.2)]
theorem rnw_no {x:Ch.Mx} {p i:Nat} (h:¬ x.pr i=p):rnw x p i=rnw x p (i + 1):=by
  funext j
  unfold rnw
  by_cases g:x.pr j=p
  · by_cases g2:j < i
    · rw [if_pos ⟨g2,g⟩,if_pos ⟨by omega,g⟩]
    have:j ≠ i:=fun e=>h (e ▸ g)
    rw [if_neg (by omega),if_neg (by omega)]
  rw [if_neg (fun q=>g q.2),if_neg (fun q=>g q.2)]
theorem renew_any {w:World} {n0 M:Nat} {x:Ch.Mx} {X:Nat->Nat} {va vb:Nat->Value} (h:PM w n0 M x X va vb) (hn0:n0<=w.heap.size) (p:Nat):
    Calls Tryz.prog 71 #[.pointer (some ⟨M,0,none⟩),.int .i64 (p:Nat)] w
      fun e w'=>(∃ v,e=.returned v)/\PM w' n0 M { x with cr:=rnw x p 8 } X va vb/\KF n0 (SM M X va vb) (SM M X va vb) w w':=by
  have AL:=Lib.hid (all_any M w)
  have HP:=Lib.hid h
  have HN:=Lib.hid hn0
  clear h hn0
  go_enter Tryz.func71,Tryz.ntmps71
  go_wp2_with fail
  (with_reducible refine AL.out.mono ?_)
  rintro e w1 ⟨v,rfl,O1,B1⟩
  obtain ⟨B,c,rfl,b1,T1,c1⟩:=O1.open (by decide)
  have H1:=Lib.hid (show PM w1 n0 M { x with cr:=rnw x p 0 } X va vb by rw [rnw_zero]; exact HP.out.below B1)
  have K1:=Lib.hid (KF.of_below (S:=SM M X va vb) B1 HN.out)
  have NB:=Lib.hid (show ¬ SM M X va vb B from fun hs=>by
    obtain ⟨t,ht,T⟩:=H1.out.tyS hs
    exact ty_ne T T1 (fun e=>by subst e; exact absurd ht (by decide)) rfl)
  have C1:=Lib.hid (show B < w1.heap.size/\∀ j,j < 8->w1.cell? ⟨B,j,none⟩=some (opV M j) from ⟨T1.lt,fun j hj=>c1 j j (all_get hj)⟩)
  clear O1 B1 T1 c1 b1 AL
  rw [show Ch.allC.length=8 from rfl]
  go_wp2_with fail
  go_loopw [9] (fun x9 wr=>∃ i:Nat,i<=8/\x9=.int .i64 i/\PM wr n0 M { x with cr:=rnw x p i } X va vb/\KF n0 (SM M X va vb) (SM M X va vb) w1 wr) (fun x9 _=>8 - (intOf x9).toNat)
  case atStart=>exact ⟨0,Nat.zero_le _,rfl,H1.out,KF.refl _ _ _⟩
  case round=>
    obtain ⟨i,hi,rfl,hP,hK⟩:=hrel
    have PR:=Lib.hid hP
    have KR:=Lib.hid hK
    clear hP hK
    by_cases hlt:i < 8
    · have i1:(i:Int) < 8:=by omega
      have i0:(0:Int)<=(i:Int):=by omega
      have ca:wr.cell? ⟨B,i,none⟩=some (opV M i):=(World.cell?_of_block (w:=w1) (a:=⟨B,i,none⟩) (KR.out.rest B C1.out.1 NB.out)).trans (C1.out.2 i hlt)
      have cp:wr.cell? ⟨M,4 + i * 6 + 2,none⟩=some (.int .i64 (x.pr i:Nat)):=PR.out.out hlt (k:=2) (by omega)
      have cs:wr.cell? ⟨M,4 + i * 6 + 3,none⟩=some (.int .i64 (x.sh i:Nat)):=PR.out.out hlt (k:=3) (by omega)
      have QC:=Lib.hid (show 4 + i * 6 + 4 < 52 by omega)
      have MC:=Lib.hid (mC_cr M { x with cr:=rnw x p i } X i (x.sh i))
      have CC:=Lib.hid PR.out.c
      obtain ⟨q,hq⟩:∃ q,4 + i * 6=q:=⟨_,rfl⟩
      obtain ⟨r,hr⟩:∃ r,x.pr i=r:=⟨_,rfl⟩
      obtain ⟨s,hs⟩:∃ s,x.sh i=s:=⟨_,rfl⟩
      unfold opV at ca
      rw [hq] at ca cp cs QC MC
      rw [hr] at cp
      rw [hs] at cs MC
      have HS:=Lib.hid hs
      by_cases g:r=p
      · have p1:((r:Int) == (p:Int))=true:=by rw [beq_iff_eq]; omega
        have p1n:(r == p)=true:=by simpa using g
        have RY:=Lib.hid (rnw_yes (x:=x) (p:=p) (i:=i) (hr.trans g))
        clear hq hr hs g
        go_wp2_with (((with_reducible refine atList ?_); refine wpList_setT rfl (.store 3 (.tmp 25) (.tmp 23)) rfl M (q + 4) 52 (.int .i64 (s:Nat)) _ _ CC.out QC.out MC.out (store_int rfl rfl rfl (CC.out.cell QC.out) (CC.out.frozen QC.out)) ?_; intro w4 C4 U4 S4 V4))
        have P4:=Lib.hid (PR.out.setM (x':={ x with cr:=rnw x p (i + 1) }) U4.out (by have:=C4.out; rw [<-HS.out,RY.out] at this; exact this) (V4.out _ PR.out.ty) rfl rfl)
        have K4:=Lib.hid (KR.out.trans (PR.out.kfM U4.out))
        go_roundw
        case rel=>exact ⟨i + 1,by omega,by go_num,P4.out,K4.out⟩
        case measure=>simp [intOf]; omega
      have p1:((r:Int) == (p:Int))=false:=by rw [beq_eq_false_iff_ne]; omega
      have p1n:(r == p)=false:=by simpa using g
      have RN:=Lib.hid (rnw_no (x:=x) (p:=p) (i:=i) (by rw [hr]; exact g))
      clear hq hr hs g
      go_wp2_with fail
      go_roundw
      case rel=>exact ⟨i + 1,by omega,by go_num,by rw [<-RN.out]; exact PR.out,KR.out⟩
      case measure=>simp [intOf]; omega
    obtain rfl:8=i:=by omega
    go_wp2_with fail
    first | go_ret | go_end0 | refine bodyPost_end (results_none rfl _ _ _) rfl ?_ | refine bodyPost_ret (results_none rfl _ _ _) rfl ?_
    exact ⟨⟨_,rfl⟩,PR.out,K1.out.trans KR.out⟩
end Go.Proofs.YtchfkncbemjepaaGreat
