/- ChMux -/
import Derived.BigQuiet
import Derived.Test.YtchfkncbemjepaaGreatChBase
import Derived.Test.YtchfkncbemjepaaGreatTmPV
set_option linter.unusedVariables false
set_option maxRecDepth 100000
set_option maxHeartbeats 2000000
/- Layer 11, the landed program: its mux in memory; backlog and the comparisons of channels. -/
namespace Go.Proofs.YtchfkncbemjepaaGreat
open Go.RowKit

def oC (x:Ch.Mx) (X:Nat->Nat) (i:Nat):Nat->Value
  | 0=>.pointer (some ⟨X i,0,none⟩)
  | 1=>.int .i64 (i:Nat)
  | 2=>.int .i64 (x.pr i:Nat)
  | 3=>.int .i64 (x.sh i:Nat)
  | 4=>.int .i64 (x.cr i:Nat)
  | _=>.int .i64 (x.ct i:Nat)
def mC (M:Nat) (x:Ch.Mx) (X:Nat->Nat) (j:Nat):Value:=
  if 4<=j then oC x X ((j - 4) / 6) ((j - 4) % 6) else
  match j with
  | 0=>.pointer (some ⟨M,0,none⟩)
  | 1=>.int .i64 (x.craft:Nat)
  | 2=>.int .i64 (x.n:Nat)
  | _=>.int .i64 (x.ma:Nat)
theorem mC_out (M:Nat) (x:Ch.Mx) (X:Nat->Nat) {i k:Nat} (hk:k < 6):mC M x X (4 + i * 6 + k)=oC x X i k:=by
  unfold mC
  rw [if_pos (by omega),show (4 + i * 6 + k - 4) / 6=i by omega,show (4 + i * 6 + k - 4) % 6=k by omega]
abbrev opV (M i:Nat):Value:=.pointer (some ⟨M,4 + i * 6,none⟩)
structure PM (w:World) (n0 M:Nat) (x:Ch.Mx) (X:Nat->Nat) (va vb:Nat->Value):Prop where
  xl:n0<=M
  ty:TyB w M 61
  c:Cel w M 52 (mC M x X)
  f:∀ i,i < 8->PV w n0 (X i) x.n (x.fl i) (va i) (vb i)
  ap:∀ i j,i < 8->j < 8->i ≠ j->∀ g,SX (X i) (va i) (vb i) g->¬ SX (X j) (va j) (vb j) g
def SM (M:Nat) (X:Nat->Nat) (va vb:Nat->Value) (g:Nat):Prop:=g=M\/∃ i,i < 8/\SX (X i) (va i) (vb i) g
abbrev MTs:List TypeId:=[61,129,5,3]
namespace PM
variable {w w':World} {n0 M:Nat} {x:Ch.Mx} {X:Nat->Nat} {va vb:Nat->Value}
theorem keep (h:PM w n0 M x X va vb) (hs:∀ g,SM M X va vb g->w'.heap[g]?=w.heap[g]?):PM w' n0 M x X va vb:=
  ⟨h.xl,h.ty.of_block (hs M (.inl rfl)),h.c.of_block (hs M (.inl rfl)),fun i hi=>(h.f i hi).keep (fun g hg=>hs g (.inr ⟨i,hi,hg⟩)),h.ap⟩
theorem tyS (h:PM w n0 M x X va vb) {g:Nat} (hg:SM M X va vb g):∃ t,t ∈ MTs/\TyB w g t:=by
  rcases hg with rfl | ⟨i,hi,hg⟩
  · exact ⟨_,by simp,h.ty⟩
  obtain ⟨t,ht,T⟩:=(h.f i hi).ty hg
  exact ⟨t,List.mem_cons_of_mem _ ht,T⟩
theorem lt (h:PM w n0 M x X va vb) {g:Nat} (hg:SM M X va vb g):g < w.heap.size:=by
  obtain ⟨t,_,T⟩:=h.tyS hg
  exact T.lt
theorem below (h:PM w n0 M x X va vb) (hb:Below w.heap.size w w'):PM w' n0 M x X va vb:=h.keep (fun g hg=>hb.block g (h.lt hg))
theorem notM (h:PM w n0 M x X va vb) {i:Nat} (hi:i < 8):¬ SX (X i) (va i) (vb i) M:=fun hg=>by
  obtain ⟨t,ht,T⟩:=(h.f i hi).ty hg
  exact ty_ne T h.ty (fun e=>by subst e; exact absurd ht (by decide)) rfl
theorem out (h:PM w n0 M x X va vb) {i k:Nat} (hi:i < 8) (hk:k < 6):w.cell? ⟨M,4 + i * 6 + k,none⟩=some (oC x X i k):=by
  rw [<-mC_out M x X hk]
  exact h.c.cell (by omega)
theorem own (h:PM w n0 M x X va vb):w.cell? ⟨M,0,none⟩=some (.pointer (some ⟨M,0,none⟩)):=h.c.cell (j:=0) (by omega)
theorem setM {x':Ch.Mx} (h:PM w n0 M x X va vb) (k:But M w w') (c:Cel w' M 52 (mC M x' X)) (t:TyB w' M 61) (hn:x'.n=x.n) (hf:x'.fl=x.fl):PM w' n0 M x' X va vb:=
  ⟨h.xl,t,c,fun i hi=>by
    rw [hn,hf]
    exact (h.f i hi).keep (fun g hg=>k.rest g ((h.f i hi).lt hg) (fun e=>h.notM hi (e ▸ hg))),h.ap⟩
theorem kfM (h:PM w n0 M x X va vb) (k:But M w w'):KF n0 (SM M X va vb) (SM M X va vb) w w':=
  ⟨But.under (Below.refl _ _) k h.xl,fun g hg hn=>k.rest g hg (fun e=>hn (.inl e)),fun g hg=>.inl hg⟩
theorem setF {i:Nat} {s':Tm.Fl} {va' vb':Value} (h:PM w n0 M x X va vb) (hi:i < 8) (p:PV w' n0 (X i) x.n s' va' vb') (k:KF n0 (SX (X i) (va i) (vb i)) (SX (X i) va' vb') w w'):
    PM w' n0 M { x with fl:=Ch.upd x.fl i s' } X (Ch.upd va i va') (Ch.upd vb i vb')/\KF n0 (SM M X va vb) (SM M X (Ch.upd va i va') (Ch.upd vb i vb')) w w':=by
  have rest:∀ j,j < 8->j ≠ i->∀ g,SX (X j) (va j) (vb j) g->w'.heap[g]?=w.heap[g]?:=fun j hj hji g hg=>k.rest g ((h.f j hj).lt hg) (h.ap j i hj hi hji g hg)
  have kM:w'.heap[M]?=w.heap[M]?:=k.rest M h.ty.lt (h.notM hi)
  refine ⟨⟨h.xl,h.ty.of_block kM,h.c.of_block kM,fun j hj=>?_,fun j l hj hl hjl g hg=>?_⟩,⟨k.below,fun g hg hn=>k.rest g hg (fun e=>hn (.inr ⟨i,hi,e⟩)),fun g hg=>?_⟩⟩
  · show PV w' n0 (X j) x.n (Ch.upd x.fl i s' j) (Ch.upd va i va' j) (Ch.upd vb i vb' j)
    by_cases e:j=i
    · subst e
      rw [Ch.upd_same,Ch.upd_same,Ch.upd_same]
      exact p
    rw [Ch.upd_ne _ _ e,Ch.upd_ne _ _ e,Ch.upd_ne _ _ e]
    exact (h.f j hj).keep (rest j hj e)
  · by_cases e:j=i
    · subst e
      rw [Ch.upd_same,Ch.upd_same] at hg
      rw [Ch.upd_ne _ _ (fun q=>hjl q.symm),Ch.upd_ne _ _ (fun q=>hjl q.symm)]
      rcases k.own g hg with q | q
      · exact h.ap j l hj hl hjl g q
      exact fun z=>absurd ((h.f l hl).lt z) (by omega)
    rw [Ch.upd_ne _ _ e,Ch.upd_ne _ _ e] at hg
    by_cases e2:l=i
    · subst e2
      rw [Ch.upd_same,Ch.upd_same]
      intro z
      rcases k.own g z with q | q
      · exact h.ap j l hj hl hjl g hg q
      exact absurd ((h.f j hj).lt hg) (by omega)
    rw [Ch.upd_ne _ _ e2,Ch.upd_ne _ _ e2]
    exact h.ap j l hj hl hjl g hg
  rcases hg with rfl | ⟨j,hj,hg⟩
  · exact .inl (.inl rfl)
  by_cases e:j=i
  · subst e
    rw [Ch.upd_same,Ch.upd_same] at hg
    rcases k.own g hg with q | q
    · exact .inl (.inr ⟨j,hj,q⟩)
    exact .inr q
  rw [Ch.upd_ne _ _ e,Ch.upd_ne _ _ e] at hg
  exact .inl (.inr ⟨j,hj,hg⟩)
end PM
theorem vwait {w:World} {n0 X n:Nat} {s:Tm.Fl} {va vb:Value} (h:PV w n0 X n s va vb) (g:Gd s):
    Calls Tryz.prog 48 #[.pointer (some ⟨X,0,none⟩)] w fun e w'=>e=.returned (.int .i64 (Tm.wait s.q:Nat))/\∃ m,w'=w.drewN m:=by
  obtain ⟨B,G,r,h1,h2⟩:=h
  obtain ⟨b1,b2,b3,b4,b5⟩:=g.bounds h2
  refine (twaiting_any h1 (by omega) (by omega)).mono ?_
  rintro e w' ⟨rfl,m,rfl⟩
  exact ⟨by rw [b2,Nat.add_sub_cancel_left],m,rfl⟩
theorem quiet_eqL {P:Program} {f:FuncId} {args:Array Value} {w:World} {n:Nat} {v:Value}
    (h:Calls P f args (w.drewN n) fun e w'=>e=.returned v/\w.drewN n=w'):Calls P f args (w.drewN n) fun e w''=>e=.returned v/\∃ m,w''=w.drewN m:=
  h.mono fun _ _ ⟨he,hm⟩=>⟨he,n,hm.symm⟩
section
variable {w:World} {n0 M:Nat} {x:Ch.Mx} {X:Nat->Nat} {va vb:Nat->Value}
theorem back_any (h:PM w n0 M x X va vb) (o:x.Ok) {i:Nat} (hi:i < 8):
    Calls Tryz.prog 66 #[.pointer (some ⟨M,0,none⟩),opV M i] w fun e w'=>e=.returned (.int .i64 (x.back i:Nat))/\∃ m,w'=w.drewN m:=by
  have c0:w.cell? ⟨M,4 + i * 6,none⟩=some (.pointer (some ⟨X i,0,none⟩)):=h.out hi (k:=0) (by omega)
  have c2:w.cell? ⟨M,2,none⟩=some (.int .i64 (x.n:Nat)):=h.c.cell (j:=2) (by omega)
  have VW:=Lib.hid (vwait (h.f i hi) (o.fl i hi))
  obtain ⟨W,hW⟩:∃ W,Tm.wait (x.fl i).q=W:=⟨_,rfl⟩
  have HV:=Lib.hid (show x.back i=if x.n<=W then 2 else if 0 < W then 1 else 0 by unfold Ch.Mx.back Ch.Mx.wt; rw [hW])
  obtain ⟨b,hb⟩:∃ b,x.back i=b:=⟨_,rfl⟩
  obtain ⟨n,hn⟩:∃ n,x.n=n:=⟨_,rfl⟩
  obtain ⟨Y,hY⟩:∃ Y,X i=Y:=⟨_,rfl⟩
  rw [hW,hY] at VW
  rw [hY] at c0
  rw [hn] at c2
  rw [hb,hn] at HV
  rw [hb]
  clear hb hn hY hW h o hi
  by_cases g1:n<=W
  · have p1:decide ((n:Int)<=(W:Int))=true:=decide_eq_true (by omega)
    have p1n:decide (n<=W)=true:=decide_eq_true g1
    have HB:b=2:=by rw [HV.out,if_pos g1]
    subst HB
    clear g1
    go_enter Tryz.func66,Tryz.ntmps66
    go_wp2_with fail
    (with_reducible refine VW.out.mono ?_)
    rintro e w' ⟨rfl,m,rfl⟩
    go_wp2_with fail
    go_ret
    exact ⟨rfl,_,rfl⟩
  have p1:decide ((n:Int)<=(W:Int))=false:=decide_eq_false (by omega)
  have p1n:decide (n<=W)=false:=decide_eq_false g1
  by_cases g2:0 < W
  · have p2:decide ((0:Int) < (W:Int))=true:=decide_eq_true (by omega)
    have HB:b=1:=by rw [HV.out,if_neg g1,if_pos g2]
    subst HB
    clear g1
    go_enter Tryz.func66,Tryz.ntmps66
    go_wp2_with fail
    (with_reducible refine VW.out.mono ?_)
    rintro e w' ⟨rfl,m,rfl⟩
    go_wp2_with fail
    go_ret
    exact ⟨rfl,_,rfl⟩
  have p2:decide ((0:Int) < (W:Int))=false:=decide_eq_false (by omega)
  have HB:b=0:=by rw [HV.out,if_neg g1,if_neg g2]
  subst HB
  clear g1
  go_enter Tryz.func66,Tryz.ntmps66
  go_wp2_with fail
  (with_reducible refine VW.out.mono ?_)
  rintro e w' ⟨rfl,m,rfl⟩
  go_wp2_with fail
  go_ret
  exact ⟨rfl,_,rfl⟩
theorem cmpB_any (h:PM w n0 M x X va vb) (o:x.Ok) {K:Nat} (cK:w.cell? ⟨K,0,none⟩=some (.pointer (some ⟨M,0,none⟩))) {i j:Nat} (hi:i < 8) (hj:j < 8):
    Calls Tryz.prog 64 #[opV M i,opV M j,.pointer (some ⟨K,0,none⟩)] w fun e w'=>e=.returned (.int .i64 (cmpI (x.back i:Nat) (x.back j:Nat)))/\∃ m,w'=w.drewN m:=by
  have BI:=Lib.hid (fun nq=>back_any (h.below (below_drewN (Below.refl _ _) nq)) o hi)
  have BJ:=Lib.hid (fun nq=>back_any (h.below (below_drewN (Below.refl _ _) nq)) o hj)
  have CM:=Lib.hid (fun a b w=>compareI_any a b w)
  obtain ⟨a,ha⟩:∃ a,x.back i=a:=⟨_,rfl⟩
  obtain ⟨b,hb⟩:∃ a,x.back j=a:=⟨_,rfl⟩
  obtain ⟨p,hp⟩:∃ p,4 + i * 6=p:=⟨_,rfl⟩
  obtain ⟨q,hq⟩:∃ p,4 + j * 6=p:=⟨_,rfl⟩
  unfold opV at BI BJ ⊢
  rw [ha,hp] at BI
  rw [hb,hq] at BJ
  rw [ha,hb,hp,hq]
  clear h o hi hj ha hb hp hq
  go_enter Tryz.func64,Tryz.ntmps64
  go_wp2_with fail
  go_quiet (first
    | (go_at_call 66; first | (with_reducible exact Calls.quiet_of (BI.out _)) | (with_reducible exact Calls.quiet_of (BJ.out _)))
    | (go_at_call 65; exact quiet_eqL (CM.out _ _ _)))
  go_wp2_with fail
  go_ret
  exact ⟨rfl,_,rfl⟩
theorem cmpP_any (h:PM w n0 M x X va vb) {i j:Nat} (hi:i < 8) (hj:j < 8):
    Calls Tryz.prog 67 #[opV M i,opV M j] w fun e w'=>e=.returned (.int .i64 (cmpI (x.pr i:Nat) (x.pr j:Nat)))/\∃ m,w'=w.drewN m:=by
  have ci:w.cell? ⟨M,4 + i * 6 + 2,none⟩=some (.int .i64 (x.pr i:Nat)):=h.out hi (k:=2) (by omega)
  have cj:w.cell? ⟨M,4 + j * 6 + 2,none⟩=some (.int .i64 (x.pr j:Nat)):=h.out hj (k:=2) (by omega)
  have CM:=Lib.hid (fun a b w=>compareI_any a b w)
  obtain ⟨a,ha⟩:∃ a,x.pr i=a:=⟨_,rfl⟩
  obtain ⟨b,hb⟩:∃ a,x.pr j=a:=⟨_,rfl⟩
  obtain ⟨p,hp⟩:∃ p,4 + i * 6=p:=⟨_,rfl⟩
  obtain ⟨q,hq⟩:∃ p,4 + j * 6=p:=⟨_,rfl⟩
  unfold opV
  rw [ha,hp] at ci
  rw [hb,hq] at cj
  rw [ha,hb,hp,hq]
  clear h hi hj ha hb hp hq
  go_enter Tryz.func67,Tryz.ntmps67
  go_wp2_with fail
  go_quiet ((go_at_call 65; exact quiet_eqL (CM.out _ _ _)))
  go_wp2_with fail
  go_ret
  exact ⟨rfl,_,rfl⟩
theorem cmpC_any (h:PM w n0 M x X va vb) {i j:Nat} (hi:i < 8) (hj:j < 8):
    Calls Tryz.prog 68 #[opV M i,opV M j] w fun e w'=>e=.returned (.int .i64 (cmpI (x.cr i:Nat) (x.cr j:Nat)))/\∃ m,w'=w.drewN m:=by
  have ci:w.cell? ⟨M,4 + i * 6 + 4,none⟩=some (.int .i64 (x.cr i:Nat)):=h.out hi (k:=4) (by omega)
  have cj:w.cell? ⟨M,4 + j * 6 + 4,none⟩=some (.int .i64 (x.cr j:Nat)):=h.out hj (k:=4) (by omega)
  have CM:=Lib.hid (fun a b w=>compareI_any a b w)
  obtain ⟨a,ha⟩:∃ a,x.cr i=a:=⟨_,rfl⟩
  obtain ⟨b,hb⟩:∃ a,x.cr j=a:=⟨_,rfl⟩
  obtain ⟨p,hp⟩:∃ p,4 + i * 6=p:=⟨_,rfl⟩
  obtain ⟨q,hq⟩:∃ p,4 + j * 6=p:=⟨_,rfl⟩
  unfold opV
  rw [ha,hp] at ci
  rw [hb,hq] at cj
  rw [ha,hb,hp,hq]
  clear h hi hj ha hb hp hq
  go_enter Tryz.func68,Tryz.ntmps68
  go_wp2_with fail
  go_quiet ((go_at_call 65; exact quiet_eqL (CM.out _ _ _)))
  go_wp2_with fail
  go_ret
  exact ⟨rfl,_,rfl⟩
end
end Go.Proofs.YtchfkncbemjepaaGreat
