/- RcChoose -/
import Derived.Test.YtchfkncbemjepaaGreatRcChR
set_option linter.unusedVariables false
set_option maxRecDepth 100000
set_option maxHeartbeats 16000000
/- Layer 11, the reference: choose. -/
namespace Go.Proofs.YtchfkncbemjepaaGreat
open Go.RowKit

theorem len8' (x:Ch.Mx):x.c1.length<=8:=Nat.le_trans (Ch.best_len _ _) (by decide)
def chI (x:Ch.Mx):Int:=if x.idle then -1 else (x.pick:Nat)
theorem cand_cases {x:Ch.Mx} (hn:1<=x.n):(x.cand=[]/\x.idle)\/(x.cand ≠ []/\x.cand=x.c1/\¬ x.idle):=by
  by_cases h:x.atl x.n=[]
  · by_cases h1:x.atl 1=[]
    · exact .inl ⟨by unfold Ch.Mx.cand; rw [if_pos h,h1],Ch.Mx.cand_none hn h1⟩
    obtain ⟨a,b⟩:=Ch.Mx.cand_some h h1
    exact .inr ⟨by unfold Ch.Mx.cand; rw [if_pos h]; exact h1,a,b⟩
  obtain ⟨a,b⟩:=Ch.Mx.cand_full h
  exact .inr ⟨by unfold Ch.Mx.cand; rw [if_neg h]; exact h,a,b⟩
def bsI (x:Ch.Mx) (g:Nat) (l:List Nat) (k:Nat):Int:=match Ch.bsv x g l k with | none=>-1 | some b=>(b:Nat)
theorem bsI_none {x:Ch.Mx} {g:Nat} {l:List Nat} {k:Nat} (h:Ch.bsv x g l k=none):bsI x g l k=-1:=by unfold bsI; rw [h]
theorem bsI_some {x:Ch.Mx} {g:Nat} {l:List Nat} {k b:Nat} (h:Ch.bsv x g l k=some b):bsI x g l k=(b:Nat):=by unfold bsI; rw [h]
theorem rchoose_any {w:World} {n0 M:Nat} {x:Ch.Mx} {Y:Nat->Nat} (h:MY w n0 M x Y) (o:x.Ok) (hn0:n0<=w.heap.size):
    Calls Tryz.prog 45 #[.pointer (some ⟨M,0,none⟩)] w fun e w'=>e=.returned (.int .i64 (chI x))/\MY w' n0 M x.chz Y/\Kp n0 RTs false w w':=by
  have H:=Lib.hid h
  have O:=Lib.hid o
  have HN:=Lib.hid hn0
  have c1:=h.csz
  have A1:=Lib.hid (atl_any h o x.n)
  obtain ⟨n,hn⟩:∃ n,x.n=n:=⟨_,rfl⟩
  rw [hn] at c1 A1
  have HX:=Lib.hid hn
  clear h o hn0 hn
  go_enter Tryz.func45,Tryz.ntmps45
  go_wp2_with fail
  (with_reducible refine A1.out.mono ?_)
  rintro e w1 ⟨v1,rfl,hO1,hB1⟩
  have O1:=Lib.hid hO1
  have B1:=Lib.hid hB1
  clear A1 hO1 hB1
  have O1':=O1.out
  unfold Ic at O1'
  obtain ⟨L,hL⟩:∃ L,(x.atl n).length=L:=⟨_,rfl⟩
  obtain ⟨sa,sc,hv⟩:=own_is O1'
  rw [hL] at hv
  subst hv
  clear O1'
  go_upto_if 19 with fail
  go_cut [3] (fun a wx=>Ic wx w.heap.size a x.cand/\Below w.heap.size w wx)
  case first=>
    by_cases q:x.atl n=[]
    · have E:=Lib.hid (show x.cand=x.atl 1 by unfold Ch.Mx.cand; rw [if_pos (by rw [HX.out]; exact q)])
      obtain rfl:L=0:=by rw [<-hL,q]; rfl
      have A2:Hid (Calls Tryz.prog 84 #[.pointer (some ⟨M,0,none⟩),.int .i64 1] w1 fun e w'=>∃ v,e=.returned v/\Ic w' w1.heap.size v (x.atl 1)/\Below w1.heap.size w1 w'):=Lib.hid (atl_any (H.out.below B1.out) O.out 1)
      clear q O1 hL
      go_wp2_with fail
      (with_reducible refine A2.out.mono ?_)
      rintro e w2 ⟨v2,rfl,hO2,hB2⟩
      have R2:=Lib.hid (show Ic w2 w.heap.size v2 x.cand/\Below w.heap.size w w2 from ⟨by rw [E.out]; exact own_mono hO2 B1.out.size,bt B1.out hB2⟩)
      clear A2 hO2 hB2
      go_wp2_with fail
      go_meet
      case rel=>exact R2.out
    have E:=Lib.hid (show x.cand=x.atl n by unfold Ch.Mx.cand; rw [if_neg (by rw [HX.out]; exact q),HX.out])
    have lp:=List.length_pos_iff.2 q
    have R2:=Lib.hid (show Ic w1 w.heap.size (.slice sa L sc) x.cand/\Below w.heap.size w w1 from ⟨by rw [E.out]; exact O1.out,B1.out⟩)
    have t0:((L:Int) == 0)=false:=by simp; omega
    have t0n:(L == 0)=false:=by simp; omega
    have t0d:decide ((L:Int)=0)=false:=decide_eq_false (by omega)
    have t0e:decide (L=0)=false:=decide_eq_false (by omega)
    clear q lp hL O1
    go_wp2_with fail
    go_meet
    case rel=>exact R2.out
  case rest=>
    obtain ⟨hO2,hB2⟩:=hcut
    rename World=>w2
    have O2:=Lib.hid hO2
    have B2:=Lib.hid hB2
    clear hO2 hB2 O1 B1
    rcases cand_cases (x:=x) (by have:=O.out.n1; omega) with ⟨q,hid⟩ | ⟨q,hc,hid⟩
    · have O2':=O2.out
      unfold Ic at O2'
      rw [q] at O2'
      obtain ⟨sa,sc,hv⟩:=own_is O2'
      rw [show ([]:List Nat).length=0 from rfl] at hv
      have HI:=Lib.hid hid
      subst hv
      clear q O2' O2 hid
      go_wp2_with fail
      go_ret
      refine ⟨by unfold chI; rw [if_pos HI.out]; rfl,?_,Kp.of_below B2.out HN.out⟩
      rw [show x.chz=x from if_pos HI.out]
      exact H.out.below B2.out
    rw [hc] at O2
    obtain ⟨B,c,hv,hb,T2,hcel⟩:=O2.out.open x.c1_ne
    have HI:=Lib.hid hid
    have HCE:=Lib.hid hcel
    have T:=Lib.hid T2
    have BB:=Lib.hid hb
    have lp:=List.length_pos_iff.2 x.c1_ne
    obtain ⟨L,hL⟩:∃ L,x.c1.length=L:=⟨_,rfl⟩
    rw [hL] at lp hv
    have HL:=Lib.hid hL
    have L8:=Lib.hid (show L<=8 by rw [<-hL]; exact len8' x)
    have t0:((L:Int) == 0)=false:=by simp; omega
    have t0n:(L == 0)=false:=by simp; omega
    have P2:=Lib.hid (H.out.below B2.out)
    subst hv
    clear q hc hid hcel T2 hb lp hL O2
    go_wp2_with fail
    go_loopw [4,5] (fun x4 x5 wr=>∃ i:Nat,i<=L/\x5=.int .i64 i/\x4=.int .i64 (Ch.top x.pr (x.c1.take i):Nat)/\∃ nq,wr=w2.drewN nq) (fun _ x5 _=>L - (intOf x5).toNat)
    case atStart=>exact ⟨0,by omega,rfl,by rw [List.take_zero]; rfl,0,rfl⟩
    case round=>
      obtain ⟨i,hi,rfl,rfl,nq,hw⟩:=hrel
      by_cases hlt:i < L
      · obtain ⟨a,ha⟩:∃ z,x.c1[i]?=some z:=⟨x.c1[i]'(by have:=HL.out; omega),List.getElem?_eq_getElem (by have:=HL.out; omega)⟩
        have a8:a < 8:=x.c1_lt (List.mem_of_getElem? ha)
        have cb:wr.cell? ⟨B,i,none⟩=some (.int .i64 (a:Nat)):=by rw [hw]; exact HCE.out i a ha
        have cp:wr.cell? ⟨M,2 + a,none⟩=some (.int .i64 (x.pr a:Nat)):=by rw [hw]; exact P2.out.cpr a8
        have TT:=Lib.hid (top_take (k:=x.pr) ha)
        obtain ⟨g,hg⟩:∃ g,Ch.top x.pr (x.c1.take i)=g:=⟨_,rfl⟩
        obtain ⟨p,hp⟩:∃ g,x.pr a=g:=⟨_,rfl⟩
        rw [hp] at cp
        rw [hg,hp] at TT
        obtain ⟨gp,hgp⟩:∃ z,max g p=z:=⟨_,rfl⟩
        rw [hgp] at TT
        have e1:max (g:Int) (p:Int)=(gp:Int):=by omega
        have i0:(0:Int)<=(i:Int):=by omega
        have i1:(i:Int) < (L:Int):=by omega
        have i8:(i:Int) < 8:=by have:=L8.out; omega
        have a0:(0:Int)<=(a:Int):=by omega
        have a1:(a:Int) < 8:=by omega
        have HW:=Lib.hid hw
        rw [hg]
        clear ha hg hp hgp a8 hw
        go_wp2_with fail
        go_quiet (fail)
        go_wp2_with fail
        go_roundw
        case rel=>exact ⟨i + 1,by omega,by go_num,by rw [TT.out],_,by rw [HW.out,World.drewN_drewN]⟩
        case measure=>simp [intOf]; omega
      obtain rfl:L=i:=by omega
      have TL:=Lib.hid (show x.c1.take L=x.c1 by rw [<-HL.out,List.take_length])
      rw [TL.out]
      have P3:=Lib.hid (show MY wr n0 M x Y by rw [hw]; exact P2.out.below (below_drewN (Below.refl _ _) _))
      have B3:=Lib.hid (show Below w.heap.size w wr by rw [hw]; exact below_drewN B2.out _)
      have T3:=Lib.hid (show TyB wr B 3 by rw [hw]; exact T.out.below (below_drewN (Below.refl _ _) _))
      have HC3:=Lib.hid (show ∀ j i,x.c1[j]?=some i->wr.cell? ⟨B,j,none⟩=some (.int .i64 (i:Nat)) by rw [hw]; exact HCE.out)
      obtain ⟨g,hg⟩:∃ g,Ch.top x.pr x.c1=g:=⟨_,rfl⟩
      have HG:=Lib.hid hg
      rw [hg]
      clear hg hw hlt HCE P2 B2 hi
      rename World=>w3
      go_wp2_with fail
      go_loopw [7,8] (fun x7 x8 ws=>∃ i:Nat,i<=L/\x8=.int .i64 i/\x7=.bool (x.spv g x.c1 i)/\∃ nq,ws=w3.drewN nq) (fun _ x8 _=>L - (intOf x8).toNat)
      case atStart=>exact ⟨0,by omega,rfl,by rw [Ch.Mx.spv_zero],0,rfl⟩
      case round=>
        obtain ⟨i,hi,rfl,rfl,nq,hw⟩:=hrel
        by_cases hlt:i < L
        · obtain ⟨a,ha⟩:∃ z,x.c1[i]?=some z:=⟨x.c1[i]'(by have:=HL.out; omega),List.getElem?_eq_getElem (by have:=HL.out; omega)⟩
          have a8:a < 8:=x.c1_lt (List.mem_of_getElem? ha)
          have cb:wr.cell? ⟨B,i,none⟩=some (.int .i64 (a:Nat)):=by rw [hw]; exact HC3.out i a ha
          have cp:wr.cell? ⟨M,2 + a,none⟩=some (.int .i64 (x.pr a:Nat)):=by rw [hw]; exact P3.out.cpr a8
          have cc:wr.cell? ⟨M,35 + a,none⟩=some (.int .i64 (x.cr a:Nat)):=by rw [hw]; exact P3.out.ccr a8
          have i0:(0:Int)<=(i:Int):=by omega
          have i1:(i:Int) < (L:Int):=by omega
          have i8:(i:Int) < 8:=by have:=L8.out; omega
          have a0:(0:Int)<=(a:Int):=by omega
          have a1:(a:Int) < 8:=by omega
          have HW:=Lib.hid hw
          have HA:=Lib.hid ha
          obtain ⟨p,hp⟩:∃ g,x.pr a=g:=⟨_,rfl⟩
          obtain ⟨k,hk⟩:∃ g,x.cr a=g:=⟨_,rfl⟩
          obtain ⟨s0,hs0⟩:∃ z,x.spv g x.c1 i=z:=⟨_,rfl⟩
          rw [hp] at cp
          rw [hk] at cc
          rw [hs0]
          by_cases e:p=g
          · subst e
            have q1:((p:Int) == (p:Int))=true:=by simp
            have q1n:(p == p)=true:=by simp
            by_cases z:0 < k
            · have NX:=Lib.hid (show x.spv p x.c1 (i + 1)=false from Ch.Mx.spv_hit ha hp (by omega))
              have z1:decide ((0:Int) < (k:Int))=true:=decide_eq_true (by omega)
              have z1n:decide (0 < k)=true:=decide_eq_true z
              clear ha hw a8 hp hk hs0 z
              go_wp2_with fail
              go_quiet (fail)
              go_wp2_with fail
              go_roundw
              case rel=>exact ⟨i + 1,by omega,by go_num,by rw [NX.out],_,by rw [HW.out,World.drewN_drewN]⟩
              case measure=>simp [intOf]; omega
            have NX:=Lib.hid (show x.spv p x.c1 (i + 1)=s0 by rw [<-hs0]; exact Ch.Mx.spv_miss ha (fun q=>z (by omega)))
            have z1:decide ((0:Int) < (k:Int))=false:=decide_eq_false (by omega)
            have z1n:decide (0 < k)=false:=decide_eq_false z
            clear ha hw a8 hp hk hs0 z
            go_wp2_with fail
            go_quiet (fail)
            go_wp2_with fail
            go_roundw
            case rel=>exact ⟨i + 1,by omega,by go_num,by rw [NX.out],_,by rw [HW.out,World.drewN_drewN]⟩
            case measure=>simp [intOf]; omega
          have NX:=Lib.hid (show x.spv g x.c1 (i + 1)=s0 by rw [<-hs0]; exact Ch.Mx.spv_miss ha (fun q=>e (by omega)))
          have q1:((p:Int) == (g:Int))=false:=by rw [beq_eq_false_iff_ne]; omega
          have q1n:(p == g)=false:=by rw [beq_eq_false_iff_ne]; omega
          clear ha hw a8 hp hk hs0 e
          go_wp2_with fail
          go_quiet (fail)
          go_wp2_with fail
          go_roundw
          case rel=>exact ⟨i + 1,by omega,by go_num,by rw [NX.out],_,by rw [HW.out,World.drewN_drewN]⟩
          case measure=>simp [intOf]; omega
        obtain rfl:L=i:=by omega
        have P4:=Lib.hid (show MY wr n0 M x Y by rw [hw]; exact P3.out.below (below_drewN (Below.refl _ _) _))
        have B4:=Lib.hid (show Below w.heap.size w wr by rw [hw]; exact below_drewN B3.out _)
        have HC4:=Lib.hid (show ∀ j i,x.c1[j]?=some i->wr.cell? ⟨B,j,none⟩=some (.int .i64 (i:Nat)) by rw [hw]; exact HC3.out)
        have T4:=Lib.hid (show TyB wr B 3 by rw [hw]; exact T3.out.below (below_drewN (Below.refl _ _) _))
        obtain ⟨sp,hsp⟩:∃ z,x.spv g x.c1 L=z:=⟨_,rfl⟩
        have HSP:=Lib.hid (show x.cr1=if sp=true then rnw x g 8 else x.cr by
          cases sp with
          | true=>rw [if_pos rfl,<-HG.out]; exact Ch.Mx.cr1_spent (by rw [HG.out,HL.out]; exact hsp)
          | false=>rw [if_neg (by simp)]; exact Ch.Mx.cr1_kept (by rw [HG.out,HL.out]; exact hsp))
        rw [hsp]
        clear hsp hw hlt HC3 P3 B3 hi
        rename World=>w4
        have W4:=Lib.hid (Nat.le_trans HN.out B4.out.size)
        go_wp2_with fail
        go_loopw [9] (fun x9 ws=>∃ i:Nat,i<=8/\(sp=false->i=0)/\x9=.int .i64 i/\MY ws n0 M { x with cr:=rnw x g i } Y/\Kp n0 RTs false w4 ws) (fun x9 _=>8 - (intOf x9).toNat)
        case atStart=>exact ⟨0,by omega,fun _=>rfl,rfl,by rw [rnw_zero]; exact P4.out,Kp.refl _ _ _ _⟩
        case round=>
          obtain ⟨i,hi,hs0,rfl,hM,hK⟩:=hrel
          have HM:=Lib.hid hM
          have HK:=Lib.hid hK
          have HS0:=Lib.hid hs0
          have HI8:=Lib.hid hi
          obtain ⟨lo,hlo⟩:∃ z,(decide (i < 8) && sp)=z:=⟨_,rfl⟩
          have HLO:=Lib.hid hlo
          clear hM hK hs0 hlo hi P4
          go_upto_region 18 with fail
          go_cut [75] from 71 to 96 (fun a wx=>a=.bool lo/\wx=wr)
          case first=>
            by_cases hlt:i < 8
            · have i1:(i:Int) < 8:=by omega
              obtain rfl:sp=lo:=by rw [<-HLO.out,decide_eq_true hlt]; rfl
              go_wp2_with fail
              go_meet
              case rel=>exact ⟨rfl,rfl⟩
            have i1:(8:Int)<=(i:Int):=by omega
            have i2:decide ((i:Int) < 8)=false:=decide_eq_false (by omega)
            have i2n:decide (i < 8)=false:=decide_eq_false (by omega)
            obtain rfl:false=lo:=by rw [<-HLO.out,decide_eq_false hlt]; rfl
            go_wp2_with fail
            go_meet
            case rel=>exact ⟨rfl,rfl⟩
          case rest=>
            obtain ⟨rfl,hwx⟩:=hcut
            subst hwx
            rename World=>wr
            cases lo with
            | true=>
              have hlt:i < 8:=by have:=HLO.out; simp at this; exact this.1
              have hsp:sp=true:=by have:=HLO.out; simp at this; exact this.2
              have HSP2:=Lib.hid hsp
              have HLT:=Lib.hid hlt
              have i0:(0:Int)<=(i:Int):=by omega
              have i1:(i:Int) < 8:=by omega
              have cp:=HM.out.cpr hlt
              have cs:=HM.out.csh hlt
              dsimp only at cp cs
              obtain ⟨p,hp⟩:∃ z,x.pr i=z:=⟨_,rfl⟩
              obtain ⟨u,hu⟩:∃ z,x.sh i=z:=⟨_,rfl⟩
              rw [hp] at cp
              rw [hu] at cs
              by_cases e:p=g
              · have RY:=Lib.hid (rnw_yes (x:=x) (p:=g) (i:=i) (hp.trans e))
                rw [hu] at RY
                subst e
                have q1:((p:Int) == (p:Int))=true:=by simp
                have q1n:(p == p)=true:=by simp
                have MC:=Lib.hid (yC_cr { x with cr:=rnw x p i } Y i u)
                dsimp only at MC
                rw [RY.out] at MC
                clear hp hu hlt hsp
                go_upto_region 21 with fail
                refine rcRegion21 M i u HM.out.ty.lt i0 i1 cs (by kernel_rfl) rfl rfl rfl rfl rfl rfl rfl rfl rfl rfl rfl rfl rfl rfl ?_
                intro w5 b5
                have H5:=Lib.hid (HM.out.below b5)
                have B5:=Lib.hid b5
                clear b5
                simp only [Act.put,List.setIfInBounds_toArray,List.set_cons_succ,List.set_cons_zero,List.drop_succ_cons,List.drop_zero]
                go_wp2_with (((with_reducible refine atList ?_); refine wpList_setT rfl (.store 3 (.tmp 96) (.tmp 93)) rfl M (35 + i) 43 (.int .i64 (u:Nat)) _ _ H5.out.c (by have:=HLT.out; omega) MC.out (store_int rfl rfl rfl (H5.out.c.cell (by have:=HLT.out; omega)) (H5.out.c.frozen (by have:=HLT.out; omega))) ?_; intro w6 C6 U6 S6 V6))
                have R6:=Lib.hid (H5.out.setM (x':={ x with cr:=rnw x p (i + 1) }) U6.out C6.out (V6.out _ H5.out.ty) rfl rfl)
                have K6:=Lib.hid ((HK.out.trans (Kp.of_below B5.out (Nat.le_trans W4.out HK.out.below.size))).trans R6.out.2)
                go_roundw
                case rel=>exact ⟨i + 1,HLT.out,(fun z=>by rw [HSP2.out] at z; cases z),by have:=HLT.out; go_num,R6.out.1,K6.out⟩
                case measure=>have:=HLT.out; simp [intOf]; omega
              have RN:=Lib.hid (rnw_no (x:=x) (p:=g) (i:=i) (by rw [hp]; exact e))
              have q1:((p:Int) == (g:Int))=false:=by rw [beq_eq_false_iff_ne]; omega
              have q1n:(p == g)=false:=by rw [beq_eq_false_iff_ne]; omega
              clear hp hu e hlt hsp
              go_wp2_with fail
              go_roundw
              case rel=>exact ⟨i + 1,HLT.out,(fun z=>by rw [HSP2.out] at z; cases z),by have:=HLT.out; go_num,by rw [<-RN.out]; exact HM.out,HK.out⟩
              case measure=>have:=HLT.out; simp [intOf]; omega
            | false=>
              have e0:x.cr1=rnw x g i:=by
                rw [HSP.out]
                have:=HLO.out
                simp at this
                cases sp with
                | true=>
                  have i8:i=8:=by
                    have:=HI8.out
                    have:¬ i < 8:=fun q=>by simpa using (‹i < 8->true=false›) q
                    omega
                  rw [if_pos rfl,i8]
                | false=>rw [if_neg (by simp),HS0.out rfl,rnw_zero]
              have M5:=Lib.hid (show MY wr n0 M { x with cr:=x.cr1 } Y by rw [e0]; exact HM.out)
              have K5:=Lib.hid ((Kp.of_below B4.out HN.out:Kp n0 RTs false w w4).trans HK.out)
              have N5:=Lib.hid (show n0<=wr.heap.size from Nat.le_trans W4.out HK.out.below.size)
              have HC5:=Lib.hid (show ∀ j i,x.c1[j]?=some i->wr.cell? ⟨B,j,none⟩=some (.int .i64 (i:Nat)) from fun j i hj=>(World.cell?_of_block (w:=w4) (a:=⟨B,j,none⟩) (T4.out.keep HK.out (by decide))).trans (HC4.out j i hj))
              clear e0 HM HK HLO HS0 HI8 HC4 T4 B4 HSP W4
              rename World=>w5
              go_wp2_with fail
              go_loopw [6,10] (fun x6 x10 ws=>∃ i:Nat,i<=L/\x10=.int .i64 i/\x6=.int .i64 (bsI x g x.c1 i)/\∃ nq,ws=w5.drewN nq) (fun _ x10 _=>L - (intOf x10).toNat)
              case atStart=>exact ⟨0,by omega,rfl,by rw [bsI_none (Ch.bsv_zero x g x.c1)],0,rfl⟩
              case round=>
                obtain ⟨i,hi,rfl,rfl,nq,hw⟩:=hrel
                by_cases hlt:i < L
                · obtain ⟨a,ha⟩:∃ z,x.c1[i]?=some z:=⟨x.c1[i]'(by have:=HL.out; omega),List.getElem?_eq_getElem (by have:=HL.out; omega)⟩
                  have a8:a < 8:=x.c1_lt (List.mem_of_getElem? ha)
                  have cb:wr.cell? ⟨B,i,none⟩=some (.int .i64 (a:Nat)):=by rw [hw]; exact HC5.out i a ha
                  have cp:wr.cell? ⟨M,2 + a,none⟩=some (.int .i64 (x.pr a:Nat)):=by rw [hw]; exact M5.out.cpr a8
                  have ca:wr.cell? ⟨M,35 + a,none⟩=some (.int .i64 (x.cr1 a:Nat)):=by rw [hw]; exact M5.out.ccr a8
                  have i0:(0:Int)<=(i:Int):=by omega
                  have i1:(i:Int) < (L:Int):=by omega
                  have i8:(i:Int) < 8:=by have:=L8.out; omega
                  have a0:(0:Int)<=(a:Int):=by omega
                  have a1:(a:Int) < 8:=by omega
                  have HW:=Lib.hid hw
                  have HA:=Lib.hid ha
                  obtain ⟨p,hp⟩:∃ z,x.pr a=z:=⟨_,rfl⟩
                  obtain ⟨k,hk⟩:∃ z,x.cr1 a=z:=⟨_,rfl⟩
                  rw [hp] at cp
                  rw [hk] at ca
                  by_cases e:p=g
                  · have EP:=Lib.hid (show x.pr a=g from hp.trans e)
                    subst e
                    have q1:((p:Int) == (p:Int))=true:=by simp
                    have q1n:(p == p)=true:=by simp
                    rcases Option.eq_none_or_eq_some (Ch.bsv x p x.c1 i) with hb | ⟨b,hb⟩
                    · rw [bsI_none hb]
                      have NX:=Lib.hid (bsI_some (Ch.bsv_first ha EP.out hb))
                      clear ha hw a8 hp hk hb ca
                      go_wp2_with fail
                      go_quiet (fail)
                      go_wp2_with fail
                      go_roundw
                      case rel=>exact ⟨i + 1,by omega,by go_num,by rw [NX.out],_,by rw [HW.out,World.drewN_drewN]⟩
                      case measure=>simp [intOf]; omega
                    rw [bsI_some hb]
                    have b8:b < 8:=x.c1_lt (Ch.bsv_mem hb)
                    have cc:wr.cell? ⟨M,35 + b,none⟩=some (.int .i64 (x.cr1 b:Nat)):=by rw [hw]; exact M5.out.ccr b8
                    obtain ⟨t,ht⟩:∃ z,x.cr1 b=z:=⟨_,rfl⟩
                    rw [ht] at cc
                    have b0:(0:Int)<=(b:Int):=by omega
                    have b1:(b:Int) < 8:=by omega
                    have b2:decide ((b:Int) < 0)=false:=decide_eq_false (by omega)
                    by_cases z:t < k
                    · have NX:=Lib.hid (bsI_some (Ch.bsv_more ha EP.out hb (by omega)))
                      have z1:decide ((t:Int) < (k:Int))=true:=decide_eq_true (by omega)
                      have z1n:decide (t < k)=true:=decide_eq_true z
                      clear ha hw a8 hp hk hb ht b8 z
                      go_wp2_with fail
                      go_quiet (fail)
                      go_wp2_with fail
                      go_roundw
                      case rel=>exact ⟨i + 1,by omega,by go_num,by rw [NX.out],_,by rw [HW.out,World.drewN_drewN]⟩
                      case measure=>simp [intOf]; omega
                    have NX:=Lib.hid (bsI_some (Ch.bsv_less ha EP.out hb (by omega)))
                    have z1:decide ((t:Int) < (k:Int))=false:=decide_eq_false (by omega)
                    have z1n:decide (t < k)=false:=decide_eq_false z
                    clear ha hw a8 hp hk hb ht b8 z
                    go_wp2_with fail
                    go_quiet (fail)
                    go_wp2_with fail
                    go_roundw
                    case rel=>exact ⟨i + 1,by omega,by go_num,by rw [NX.out],_,by rw [HW.out,World.drewN_drewN]⟩
                    case measure=>simp [intOf]; omega
                  have NX:=Lib.hid (show bsI x g x.c1 (i + 1)=bsI x g x.c1 i by unfold bsI; rw [Ch.bsv_no ha (by rw [hp]; exact e)])
                  obtain ⟨bi,hbi⟩:∃ z,bsI x g x.c1 i=z:=⟨_,rfl⟩
                  rw [hbi] at NX ⊢
                  have q1:((p:Int) == (g:Int))=false:=by rw [beq_eq_false_iff_ne]; omega
                  have q1n:(p == g)=false:=by rw [beq_eq_false_iff_ne]; omega
                  clear ha hw a8 hp hk e ca hbi
                  go_wp2_with fail
                  go_quiet (fail)
                  go_wp2_with fail
                  go_roundw
                  case rel=>exact ⟨i + 1,by omega,by go_num,by rw [NX.out],_,by rw [HW.out,World.drewN_drewN]⟩
                  case measure=>simp [intOf]; omega
                obtain rfl:L=i:=by omega
                have BP:=bsI_some (show Ch.bsv x g x.c1 L=some x.pick by rw [<-HL.out,<-HG.out]; exact Ch.bsv_all x)
                rw [BP]
                have M6:=Lib.hid (show MY wr n0 M { x with cr:=x.cr1 } Y by rw [hw]; exact M5.out.below (below_drewN (Below.refl _ _) _))
                have K6:=Lib.hid (show Kp n0 RTs false w wr by rw [hw]; exact K5.out.trans (Kp.of_below (below_drewN (Below.refl _ _) _) N5.out))
                have N6:=Lib.hid (show n0<=wr.heap.size by rw [hw]; exact Nat.le_trans N5.out (below_drewN (Below.refl w5.heap.size w5) nq).size)
                have PL:=Lib.hid x.pick_lt
                have cc:=M6.out.ccr x.pick_lt
                dsimp only at cc
                have E1:=Lib.hid (show IntKind.i64.wrap ((x.cr1 x.pick:Int) - 1)=((x.cr1 x.pick - 1:Nat):Int) by
                  have:=O.out.credit
                  have:=O.out.cr1 x.pick_lt
                  rw [IntKind.wrap_i64]; omega)
                have CI:=Lib.hid (show chI x=(x.pick:Nat) from if_neg HI.out)
                have HCZ:=Lib.hid (show x.chz={ x with cr:=Ch.upd x.cr1 x.pick (x.cr1 x.pick - 1) } from if_neg HI.out)
                have MC:=Lib.hid (yC_cr { x with cr:=x.cr1 } Y x.pick (x.cr1 x.pick - 1))
                dsimp only at MC
                obtain ⟨y,hy⟩:∃ z,x.cr1 x.pick - 1=z:=⟨_,rfl⟩
                rw [hy] at E1 MC HCZ
                obtain ⟨u,hu⟩:∃ z,x.cr1 x.pick=z:=⟨_,rfl⟩
                rw [hu] at E1 cc
                have HP:=Lib.hid (show True from True.intro)
                obtain ⟨k,hk⟩:∃ z,x.pick=z:=⟨_,rfl⟩
                rw [hk] at PL cc MC HCZ CI ⊢
                clear hy hu hk hw hlt M5 HC5 hi BP HP
                go_upto_region 27 with fail
                refine rcRegion27 M k u y M6.out.ty.lt (by omega) (by have:=PL.out; omega) E1.out cc (by kernel_rfl) rfl rfl rfl rfl rfl rfl rfl rfl rfl rfl rfl rfl rfl ?_
                intro w7 b7
                have H7:=Lib.hid (M6.out.below b7)
                have B7:=Lib.hid b7
                clear b7
                simp only [Act.put,List.setIfInBounds_toArray,List.set_cons_succ,List.set_cons_zero,List.drop_succ_cons,List.drop_zero]
                go_wp2_with (((with_reducible refine atList ?_); refine wpList_setT rfl (.store 3 (.tmp 149) (.tmp 146)) rfl M (35 + k) 43 (.int .i64 (y:Nat)) _ _ H7.out.c (by have:=PL.out; omega) MC.out (store_int rfl rfl rfl (H7.out.c.cell (by have:=PL.out; omega)) (H7.out.c.frozen (by have:=PL.out; omega))) ?_; intro w8 C8 U8 S8 V8))
                have R8:=Lib.hid (H7.out.setM (x':={ x with cr:=Ch.upd x.cr1 k y }) U8.out C8.out (V8.out _ H7.out.ty) rfl rfl)
                go_ret
                exact ⟨by rw [CI.out]; rfl,by rw [HCZ.out]; exact R8.out.1,(K6.out.trans (Kp.of_below B7.out N6.out)).trans R8.out.2⟩
end Go.Proofs.YtchfkncbemjepaaGreat
