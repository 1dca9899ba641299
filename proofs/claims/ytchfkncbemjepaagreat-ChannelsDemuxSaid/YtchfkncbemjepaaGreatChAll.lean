/- ChAll -/
import Derived.Test.YtchfkncbemjepaaGreatChBest
set_option linter.unusedVariables false
set_option maxRecDepth 100000
set_option maxHeartbeats 4000000
/- Layer 11, the landed program: all, renew. -/
namespace Go.Proofs.YtchfkncbemjepaaGreat
open Go.RowKit

theorem all_take {i:Nat} (h:i < 8):Ch.allC.take (i + 1)=Ch.allC.take i ++ [i]:=by
  match i,h with
  | 0,_=>rfl
  | 1,_=>rfl
  | 2,_=>rfl
  | 3,_=>rfl
  | 4,_=>rfl
  | 5,_=>rfl
  | 6,_=>rfl
  | 7,_=>rfl
theorem all_get {j:Nat} (h:j < 8):Ch.allC[j]?=some j:=by
  match j,h with
  | 0,_=>rfl
  | 1,_=>rfl
  | 2,_=>rfl
  | 3,_=>rfl
  | 4,_=>rfl
  | 5,_=>rfl
  | 6,_=>rfl
  | 7,_=>rfl
theorem all_any (M:Nat) (w:World):Calls Tryz.prog 70 #[.pointer (some ⟨M,0,none⟩)] w
    fun e w'=>∃ v,e=.returned v/\Oc w' w.heap.size M v Ch.allC/\Below w.heap.size w w':=by
  obtain ⟨j0,hj0,hy0,hy1,hy2⟩:=info_parts info_oc
  have B0:=Lib.hid (Below.refl w.heap.size w)
  go_enter Tryz.func70,Tryz.ntmps70
  go_wp2_with fail
  go_loopw [3,5] (fun x3 x5 wr=>∃ i:Nat,i<=8/\x5=.int .i64 i/\Oc wr w.heap.size M x3 (Ch.allC.take i)/\Below w.heap.size w wr) (fun _ x5 _=>8 - (intOf x5).toNat)
  case atStart=>exact ⟨0,Nat.zero_le _,rfl,World.ownsRow_nil _ _ _ _,B0.out⟩
  case round=>
    obtain ⟨i,hi,rfl,hO,hB3⟩:=hrel
    have OR:=Lib.hid hO
    have B3:=Lib.hid hB3
    have N3:=Lib.hid hB3.size
    have LF:=Lib.hid (show (Ch.allC.take i).length<=8 by rw [List.length_take]; exact Nat.le_trans (Nat.min_le_left _ _) hi)
    clear hO hB3
    by_cases hlt:i < 8
    · have i1:(i:Int) < 8:=by omega
      have i0:(0:Int)<=(i:Int):=by omega
      have TK:=Lib.hid (all_take hlt)
      go_wp2_with (first
        | ((with_reducible refine atList ?_); refine wpList_newOwn rfl (.buildSlice 140 1 #[(0,.tmp 13)]) rfl [opV M i] 94 1 w.heap.size rfl (by unfold maxLen; omega) N3.out (build_op1 rfl rfl) ?_; intro A5 w5 HA5 OA5 LA5)
        | (at_builtin; (with_reducible refine atList ?_); refine wpList_append_own2 rfl (.tmp 8) (.tmp 14) 140 rfl w.heap.size 94 j0 (.pointer none) 1 8 Tryz.underlying140 hj0 hy0 hy1 hy2 rfl (by decide) _ _ _ rfl (OR.out.below LA5.out) ⟨A5,0,none⟩ 1 1 [opV M i] rfl rfl (own_cells OA5.out ⟨A5,0,none⟩ rfl) (by simp [Value.oneCell']) (by unfold maxLen; have:=LF.out; omega) (by have:=LF.out; omega) (Nat.le_trans N3.out LA5.out.size) ?_; intro v6 w6 O6 g6 k6; have B6:=Lib.hid ((bt B3.out LA5.out).grown g6 (Nat.le_trans N3.out LA5.out.size) (fun k e=>(own_ty (OR.out.below LA5.out) e).1)); have HO6:=Lib.hid O6; clear O6 g6 k6))
      go_roundw
      case rel=>exact ⟨i + 1,by omega,by go_num,by
        show World.ownsRow _ _ _ _ _ _ _
        rw [TK.out,List.length_append,<-opVs_add]
        exact HO6.out,B6.out⟩
      case measure=>simp [intOf]; omega
    obtain rfl:8=i:=by omega
    have OR2:=Lib.hid (show Oc wr w.heap.size M u3 Ch.allC from OR.out)
    clear OR
    obtain ⟨sa,sc,hv⟩:=own_is OR2.out
    subst hv
    go_wp2_with fail
    go_ret
    exact ⟨_,rfl,OR2.out,B3.out⟩
theorem oC_cr (x:Ch.Mx) (X:Nat->Nat) (q k i v:Nat) (hk:k < 6) (h:¬ (q=i/\k=4)):oC x X q k=oC { x with cr:=Ch.upd x.cr i v } X q k:=by
  match k,hk,h with
  | 0,_,_=>rfl
  | 1,_,_=>rfl
  | 2,_,_=>rfl
  | 3,_,_=>rfl
  | 4,_,h=>exact congrArg (fun z:Nat=>Value.int .i64 z) (Ch.upd_ne x.cr v (fun e=>h ⟨e,rfl⟩)).symm
  | 5,_,_=>rfl
theorem mC_cr (M:Nat) (x:Ch.Mx) (X:Nat->Nat) (i v:Nat):∀ j,j < 52->(if j=4 + i * 6 + 4 then Value.int .i64 (v:Nat) else mC M x X j)=mC M { x with cr:=Ch.upd x.cr i v } X j:=fun j hj=>by
  by_cases e:j=4 + i * 6 + 4
  · subst e
    rw [if_pos rfl,mC_out _ _ _ (by omega)]
    exact congrArg (fun z:Nat=>Value.int .i64 z) (Ch.upd_same x.cr i v).symm
  rw [if_neg e]
  unfold mC
  by_cases h4:4<=j
  · rw [if_pos h4,if_pos h4]
    exact oC_cr x X _ _ i v (by omega) (by omega)
  rw [if_neg h4,if_neg h4]
theorem oC_ct (x:Ch.Mx) (X:Nat->Nat) (q k i v:Nat) (hk:k < 6) (h:¬ (q=i/\k=5)):oC x X q k=oC { x with ct:=Ch.upd x.ct i v } X q k:=by
  match k,hk,h with
  | 0,_,_=>rfl
  | 1,_,_=>rfl
  | 2,_,_=>rfl
  | 3,_,_=>rfl
  | 4,_,_=>rfl
  | 5,_,h=>exact congrArg (fun z:Nat=>Value.int .i64 z) (Ch.upd_ne x.ct v (fun e=>h ⟨e,rfl⟩)).symm
theorem mC_ct (M:Nat) (x:Ch.Mx) (X:Nat->Nat) (i v:Nat):∀ j,j < 52->(if j=4 + i * 6 + 5 then Value.int .i64 (v:Nat) else mC M x X j)=mC M { x with ct:=Ch.upd x.ct i v } X j:=fun j hj=>by
  by_cases e:j=4 + i * 6 + 5
  · subst e
    rw [if_pos rfl,mC_out _ _ _ (by omega)]
    exact congrArg (fun z:Nat=>Value.int .i64 z) (Ch.upd_same x.ct i v).symm
  rw [if_neg e]
  unfold mC
  by_cases h4:4<=j
  · rw [if_pos h4,if_pos h4]
    exact oC_ct x X _ _ i v (by omega) (by omega)
  rw [if_neg h4,if_neg h4]
theorem mC_ma (M:Nat) (x:Ch.Mx) (X:Nat->Nat) (v:Nat):∀ j,j < 52->(if j=3 then Value.int .i64 (v:Nat) else mC M x X j)=mC M { x with ma:=v } X j:=fun j hj=>by
  by_cases e:j=3
  · subst e
    rfl
  rw [if_neg e]
  unfold mC
  by_cases h4:4<=j
  · rw [if_pos h4,if_pos h4]
    have:∀ q k,oC x X q k=oC { x with ma:=v } X q k:=fun q k=>by
      match k with
      | 0=>rfl
      | 1=>rfl
      | 2=>rfl
      | 3=>rfl
      | 4=>rfl
      | _ + 5=>rfl
    exact this _ _
  rw [if_neg h4,if_neg h4]
  match j,e with
  | 0,_=>rfl
  | 1,_=>rfl
  | 2,_=>rfl
  | j + 3,e=>exact absurd h4 (by omega)
def rnw (x:Ch.Mx) (p i:Nat):Nat->Nat:=fun j=>if j < i/\x.pr j=p then x.sh j else x.cr j
theorem rnw_zero (x:Ch.Mx) (p:Nat):rnw x p 0=x.cr:=by
  funext j
  unfold rnw
  rw [if_neg (by omega)]
theorem rnw_yes {x:Ch.Mx} {p i:Nat} (h:x.pr i=p):Ch.upd (rnw x p i) i (x.sh i)=rnw x p (i + 1):=by
  funext j
  unfold Ch.upd rnw
  by_cases e:j=i
  · subst e
    rw [if_pos rfl,if_pos ⟨by omega,h⟩]
  rw [if_neg e]
  by_cases g:x.pr j=p
  · by_cases g2:j < i
    · rw [if_pos ⟨g2,g⟩,if_pos ⟨by omega,g⟩]
    rw [if_neg (by omega),if_neg (by omega)]
  rw [if_neg (fun q=>g q.2),if_neg (fun q=>g q.2)]
theorem rnw_no {x:Ch.Mx} {p i:Nat} (h:¬ x.pr i=p):rnw x p i=rnw x p (i + 1):=by
  funext j
  unfold rnw
  by_cases g:x.pr j=p
  · by_cases g2:j < i
    · rw [if_pos ⟨g2,g⟩,if_pos ⟨by omega,g⟩]
    have:j ≠ i:=fun e=>h (e ▸ g)
    rw [if_neg (by omega),if_neg (by omega)]
  rw [if_neg (fun q=>g q.2),if_neg (fun q=>g q.2)]
theorem renew_any {w:World} {n0 M:Nat} {x:Ch.Mx} {X:Nat->Nat} {va vb:Nat->Value} (h:PM w n0 M x X va vb) (hn0:n0<=w.heap.size) (p:Nat):
    Calls Tryz.prog 71 #[.pointer (some ⟨M,0,none⟩),.int .i64 (p:Nat)] w
      fun e w'=>(∃ v,e=.returned v)/\PM w' n0 M { x with cr:=rnw x p 8 } X va vb/\KF n0 (SM M X va vb) (SM M X va vb) w w':=by
  have AL:=Lib.hid (all_any M w)
  have HP:=Lib.hid h
  have HN:=Lib.hid hn0
  clear h hn0
  go_enter Tryz.func71,Tryz.ntmps71
  go_wp2_with fail
  (with_reducible refine AL.out.mono ?_)
  rintro e w1 ⟨v,rfl,O1,B1⟩
  obtain ⟨B,c,rfl,b1,T1,c1⟩:=O1.open (by decide)
  have H1:=Lib.hid (show PM w1 n0 M { x with cr:=rnw x p 0 } X va vb by rw [rnw_zero]; exact HP.out.below B1)
  have K1:=Lib.hid (KF.of_below (S:=SM M X va vb) B1 HN.out)
  have NB:=Lib.hid (show ¬ SM M X va vb B from fun hs=>by
    obtain ⟨t,ht,T⟩:=H1.out.tyS hs
    exact ty_ne T T1 (fun e=>by subst e; exact absurd ht (by decide)) rfl)
  have C1:=Lib.hid (show B < w1.heap.size/\∀ j,j < 8->w1.cell? ⟨B,j,none⟩=some (opV M j) from ⟨T1.lt,fun j hj=>c1 j j (all_get hj)⟩)
  clear O1 B1 T1 c1 b1 AL
  rw [show Ch.allC.length=8 from rfl]
  go_wp2_with fail
  go_loopw [9] (fun x9 wr=>∃ i:Nat,i<=8/\x9=.int .i64 i/\PM wr n0 M { x with cr:=rnw x p i } X va vb/\KF n0 (SM M X va vb) (SM M X va vb) w1 wr) (fun x9 _=>8 - (intOf x9).toNat)
  case atStart=>exact ⟨0,Nat.zero_le _,rfl,H1.out,KF.refl _ _ _⟩
  case round=>
    obtain ⟨i,hi,rfl,hP,hK⟩:=hrel
    have PR:=Lib.hid hP
    have KR:=Lib.hid hK
    clear hP hK
    by_cases hlt:i < 8
    · have i1:(i:Int) < 8:=by omega
      have i0:(0:Int)<=(i:Int):=by omega
      have ca:wr.cell? ⟨B,i,none⟩=some (opV M i):=(World.cell?_of_block (w:=w1) (a:=⟨B,i,none⟩) (KR.out.rest B C1.out.1 NB.out)).trans (C1.out.2 i hlt)
      have cp:wr.cell? ⟨M,4 + i * 6 + 2,none⟩=some (.int .i64 (x.pr i:Nat)):=PR.out.out hlt (k:=2) (by omega)
      have cs:wr.cell? ⟨M,4 + i * 6 + 3,none⟩=some (.int .i64 (x.sh i:Nat)):=PR.out.out hlt (k:=3) (by omega)
      have QC:=Lib.hid (show 4 + i * 6 + 4 < 52 by omega)
      have MC:=Lib.hid (mC_cr M { x with cr:=rnw x p i } X i (x.sh i))
      have CC:=Lib.hid PR.out.c
      obtain ⟨q,hq⟩:∃ q,4 + i * 6=q:=⟨_,rfl⟩
      obtain ⟨r,hr⟩:∃ r,x.pr i=r:=⟨_,rfl⟩
      obtain ⟨s,hs⟩:∃ s,x.sh i=s:=⟨_,rfl⟩
      unfold opV at ca
      rw [hq] at ca cp cs QC MC
      rw [hr] at cp
      rw [hs] at cs MC
      have HS:=Lib.hid hs
      by_cases g:r=p
      · have p1:((r:Int) == (p:Int))=true:=by rw [beq_iff_eq]; omega
        have p1n:(r == p)=true:=by simpa using g
        have RY:=Lib.hid (rnw_yes (x:=x) (p:=p) (i:=i) (hr.trans g))
        clear hq hr hs g
        go_wp2_with (((with_reducible refine atList ?_); refine wpList_setT rfl (.store 3 (.tmp 25) (.tmp 23)) rfl M (q + 4) 52 (.int .i64 (s:Nat)) _ _ CC.out QC.out MC.out (store_int rfl rfl rfl (CC.out.cell QC.out) (CC.out.frozen QC.out)) ?_; intro w4 C4 U4 S4 V4))
        have P4:=Lib.hid (PR.out.setM (x':={ x with cr:=rnw x p (i + 1) }) U4.out (by have:=C4.out; rw [<-HS.out,RY.out] at this; exact this) (V4.out _ PR.out.ty) rfl rfl)
        have K4:=Lib.hid (KR.out.trans (PR.out.kfM U4.out))
        go_roundw
        case rel=>exact ⟨i + 1,by omega,by go_num,P4.out,K4.out⟩
        case measure=>simp [intOf]; omega
      have p1:((r:Int) == (p:Int))=false:=by rw [beq_eq_false_iff_ne]; omega
      have p1n:(r == p)=false:=by simpa using g
      have RN:=Lib.hid (rnw_no (x:=x) (p:=p) (i:=i) (by rw [hr]; exact g))
      clear hq hr hs g
      go_wp2_with fail
      go_roundw
      case rel=>exact ⟨i + 1,by omega,by go_num,by rw [<-RN.out]; exact PR.out,KR.out⟩
      case measure=>simp [intOf]; omega
    obtain rfl:8=i:=by omega
    go_wp2_with fail
    first | go_ret | go_end0 | refine bodyPost_end (results_none rfl _ _ _) rfl ?_ | refine bodyPost_ret (results_none rfl _ _ _) rfl ?_
    exact ⟨⟨_,rfl⟩,PR.out,K1.out.trans KR.out⟩
end Go.Proofs.YtchfkncbemjepaaGreat
