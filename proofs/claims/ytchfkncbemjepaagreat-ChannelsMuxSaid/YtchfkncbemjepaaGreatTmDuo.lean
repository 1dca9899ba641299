/- TmDuo -/
import Derived.Test.YtchfkncbemjepaaGreatTmRnR
import Derived.Test.YtchfkncbemjepaaGreatTmGd
set_option linter.unusedVariables false
set_option maxRecDepth 100000
set_option maxHeartbeats 16000000
/- Layer 10: the reference's filler: Next's contract. -/
namespace Go.Proofs.YtchfkncbemjepaaGreat
open Go.RowKit

theorem RFl.setC {w w1:World} {n0 r n:Nat} {sv:Value} {L:List ByteArray} {bg bg2:Bool} {re re2:ByteArray} (h:RFl w n0 r n sv L bg re) (C:Cel w1 r 4 (flC n sv bg2 re2)) (U:But r w w1) (V:∀ t,TyB w r t->TyB w1 r t):RFl w1 n0 r n sv L bg2 re2/\RK n0 r w w1:=
  ⟨⟨h.rl,V _ h.ty,C,but_row h.row U h.apart⟩,RK.of_but U h.rl⟩
theorem RFl.newRow {w w1 w2:World} {n0 r n:Nat} {sv sv2:Value} {L L2:List ByteArray} {bg:Bool} {re:ByteArray} (h:RFl w n0 r n sv L bg re) (hn0:n0<=w.heap.size) (B:Below w.heap.size w w1) (O:w1.ownsRow n0 9 1 sv2 L2.length (strVs L2)) (C:Cel w2 r 4 (flC n sv2 bg re)) (U:But r w1 w2) (V:∀ t,TyB w1 r t->TyB w2 r t):RFl w2 n0 r n sv2 L2 bg re/\RK n0 r w w2:=
  have H1:=h.below B
  have ne:sv2.ownBlock ≠ some r:=fun e=>ty_ne (own_ty O e).2 H1.ty (by decide) rfl
  ⟨⟨h.rl,V _ H1.ty,C,but_row O U ne⟩,(RK.of_below B hn0).trans (RK.of_but U h.rl)⟩
theorem ext_all (s:ByteArray):s.extract 0 s.size=s:=by
  apply ByteArray.ext
  apply Array.toList_inj.1
  rw [cut_list,List.take_of_length_le (by rw [ls]; exact Nat.le_refl _)]
theorem app_below2 {w3 w5 w6:World} {A1:Nat} (ha:w3.heap.size=A1) (l5:Below w3.heap.size w3 w5) (g6:w5.grownBy w6 (some A1)):Below w3.heap.size w3 w6:=l5.grown g6 l5.size (fun k e=>by cases e; omega)
theorem pos_size {L:List ByteArray} (h:0 < sizes L):L ≠ []:=fun e=>by rw [e] at h; exact absurd h (Nat.lt_irrefl 0)
theorem rtnext_none {w:World} {n0 r n:Nat} {sv:Value} {L:List ByteArray} {bg:Bool} {re:ByteArray} (h:RFl w n0 r n sv L bg re) (hl:L.length<=100000) (hz:sizes L=0):
    Calls Tryz.prog 46 #[.pointer (some ⟨r,0,none⟩)] w fun e w'=>e=.returned (.tuple #[.string ⟨#[]⟩,.int .i64 0,.bool false])/\w=w':=by
  have WT:=Lib.hid (rwaiting_any h hl (by omega))
  rw [hz] at WT
  clear h hl hz
  go_enter Tryz.func46,Tryz.ntmps46
  go_wp2_with fail
  (with_reducible refine WT.out.mono ?_)
  rintro e w' ⟨rfl,rfl⟩
  go_wp2_with fail
  go_ret3
  exact ⟨rfl,rfl⟩
theorem rtnext_any {w:World} {n0 r n:Nat} {sv:Value} {L:List ByteArray} {bg:Bool} {re:ByteArray} (h:RFl w n0 r n sv L bg re) (hl:L.length<=100000) (hz:0 < sizes L) (hz2':sizes L<=1000000) (hfull:∀ s ∈ L,0 < s.size) (hn:32<=n/\n<=200) (hre:re.size<=n) (hn0:n0<=w.heap.size):
    Calls Tryz.prog 46 #[.pointer (some ⟨r,0,none⟩)] w fun e w'=>∃ sv' L',e=.returned (.tuple #[.string (bs (Tm.next tmIdle n ⟨lists L,bg,re.data.toList⟩).1),.int .i64 ((Tm.next tmIdle n ⟨lists L,bg,re.data.toList⟩).2.1:Nat),.bool true])/\RFl w' n0 r n sv' L' (Tm.next tmIdle n ⟨lists L,bg,re.data.toList⟩).2.2.bg (bs (Tm.next tmIdle n ⟨lists L,bg,re.data.toList⟩).2.2.re)/\lists L'=(Tm.next tmIdle n ⟨lists L,bg,re.data.toList⟩).2.2.q/\(∀ s ∈ L',0 < s.size)/\RK n0 r w w':=by
  have WT:=Lib.hid (rwaiting_any h hl hz2')
  obtain ⟨Z,hZ⟩:∃ Z,sizes L=Z:=⟨_,rfl⟩
  have HNE:=Lib.hid (pos_size hz)
  rw [hZ] at WT hz
  have q0:((Z:Int) == 0)=false:=by simp; omega
  have q0n:(Z == 0)=false:=by simp; omega
  have H:=Lib.hid h
  have HN0:=Lib.hid hn0
  have HRE:=Lib.hid hre
  have HFULL:=Lib.hid hfull
  have J0:=Lib.hid (show Jn n re 2047 L bg (re.data.toList ++ (Tm.pull (lists L) bg (n - re.size) re.size 2047).1,(Tm.pull (lists L) bg (n - re.size) re.size 2047).2) from ⟨hre,rfl,hfull,hl⟩)
  obtain ⟨R,hR⟩:∃ R,(re.data.toList ++ (Tm.pull (lists L) bg (n - re.size) re.size 2047).1,(Tm.pull (lists L) bg (n - re.size) re.size 2047).2)=R:=⟨_,rfl⟩
  rw [hR] at J0
  have HR:=Lib.hid hR.symm
  have c3:w.cell? ⟨r,3,none⟩=some (.string re):=h.cr.cell (j:=3) (by omega)
  obtain ⟨i0,hi0,hz0,hz1,hz2⟩:=info_parts info_str
  clear h hl hz hz2' hfull hre hn0 hR hZ
  go_enter Tryz.func46,Tryz.ntmps46
  go_wp2_with fail
  (with_reducible refine WT.out.mono ?_)
  rintro e w' ⟨rfl,rfl⟩
  go_wp2_with ((with_reducible refine atList ?_); refine wpList_setT rfl (.store 9 (.tmp 20) (.const (.string ⟨#[]⟩))) rfl r 3 4 (.string ⟨#[]⟩) _ (flC n sv bg ⟨#[]⟩) H.out.cr (by omega) (fun j hj=>by match j,hj with | 0,_=>rfl | 1,_=>rfl | 2,_=>rfl | 3,_=>rfl) (store_str rfl rfl rfl (H.out.cr.cell (j:=3) (by omega)) (H.out.cr.frozen (j:=3) (by omega))) ?_; intro w1 C1 U1 S1 V1)
  obtain ⟨R1,K1⟩:=H.out.setC C1.out U1.out V1.out
  have HH1:=Lib.hid R1
  have HK1:=Lib.hid K1
  clear R1 K1 c3
  simp only [Act.put]
  go_loopw [5,6] (fun x5 x6 wr=>∃ sv L bg F fst,x5=.string F/\x6=.int .i64 (fst:Nat)/\fst<=2047/\Jn n F fst L bg R/\RFl wr n0 r n sv L bg ⟨#[]⟩/\RK n0 r w wr) (fun x5 _ _=>n - strOf x5)
  case atStart=>exact ⟨_,_,_,_,2047,rfl,rfl,Nat.le_refl _,J0.out,HH1.out,HK1.out⟩
  case round=>
    obtain ⟨sv1,L1,bg1,F,fst,rfl,rfl,fl,hJ,hH,hK⟩:=hrel
    have HJ:=Lib.hid hJ
    have HH:=Lib.hid hH
    have HK:=Lib.hid hK
    have FL0:=Lib.hid fl
    obtain ⟨sa,cap,rfl⟩:=own_is hH.row
    obtain ⟨f,hf0⟩:∃ f,F.size=f:=⟨_,rfl⟩
    have hf:=Lib.hid hf0
    have hff:=hf0
    have lef:f<=n:=by rw [<-hf0]; exact hJ.le
    have c0:wr.cell? ⟨r,0,none⟩=some (.int .i64 (n:Nat)):=hH.cr.cell (j:=0) (by omega)
    have c1:wr.cell? ⟨r,1,none⟩=some (.slice sa L1.length cap):=hH.cr.cell (j:=1) (by omega)
    have c2:wr.cell? ⟨r,2,none⟩=some (.bool bg1):=hH.cr.cell (j:=2) (by omega)
    clear hJ hH hK fl
    cases L1 with
    | nil=>
      rw [show ([]:List ByteArray).length=0 from rfl] at c1
      have t0:decide ((0:Int) < ((0:Nat):Int))=false:=rfl
      have HD:=Lib.hid (HJ.out.done (.inl rfl))
      by_cases fn:f=n
      · have HF:=Lib.hid (show F.size=n by rw [hf0,fn])
        clear fn
        have NE:=Lib.hid (next_full (by rw [<-HD.out]; exact HR.out) HRE.out HF.out)
        have ee:IntKind.i64.wrap ((n:Int) - (f:Int))=0:=by rw [show f=n by have:=HF.out; have:=hf.out; omega,Int.sub_self]; rfl
        have FJ:=Lib.hid HJ.out.full
        clear HD
        go_wp2_with fail
        go_ret3
        refine ⟨.slice sa 0 cap,[],?_,?_,?_,FJ.out,HK.out⟩
        · rw [NE.out,bs_self]; rfl
        · rw [NE.out]; exact HH.out
        rw [NE.out]
      clear hf0
      have LT:=Lib.hid (show F.size < n by have:=hf.out; have:=HJ.out.le; omega)
      obtain ⟨_,bgf,ne⟩:=next_idle (by rw [<-HD.out]; exact HR.out) HRE.out LT.out HFULL.out HNE.out
      have BG:=Lib.hid bgf
      obtain ⟨q,hq⟩:∃ q,n - F.size=q:=⟨_,rfl⟩
      obtain ⟨k,hk⟩:∃ k,max q 7=k:=⟨_,rfl⟩
      rw [hq,hk] at ne
      have ee:IntKind.i64.wrap ((n:Int) - (f:Int))=(q:Int):=by rw [IntKind.wrap_i64]; have:=hf.out; have:=LT.out; omega
      have mx:max (q:Int) 7=(k:Int):=by omega
      have q0:decide (0 < (q:Int))=true:=decide_eq_true (by have:=LT.out; omega)
      have q0n:decide (0 < q)=true:=decide_eq_true (by have:=LT.out; omega)
      have IC:=Lib.hid (fun w=>ridle_any k (by omega) (by omega) w)
      have sE:(bs (tmIdle k)).size=k:=by rw [bs_size]; exact idle_len k (by omega)
      rw [show bs (Pk.enc (pkIdle (k - 6)))=bs (tmIdle k) from rfl] at IC
      have xE:(bs (tmIdle k)).data.toList=tmIdle k:=bs_list _
      obtain ⟨E,hE⟩:∃ E,bs (tmIdle k)=E:=⟨_,rfl⟩
      rw [hE] at IC sE xE
      have qk:q<=k:=by omega
      have kb:k<=1000:=by omega
      have qb:q<=1000:=by omega
      have RES2:=Lib.hid (show E.extract q k=bs ((tmIdle k).drop q) by
        apply ByteArray.ext
        apply Array.toList_inj.1
        rw [<-sE,rest_list _ _ (by omega),xE,bs_list,sE])
      have RES1:=Lib.hid (show F ++ E.extract 0 q=bs (F.data.toList ++ (tmIdle k).take q) by
        apply ByteArray.ext
        apply Array.toList_inj.1
        rw [app_list,cut_list,xE,bs_list])
      have NE:=Lib.hid ne
      clear ne hq hk hE xE bgf HD
      by_cases ff:fst=2047
      · have t3:((fst:Int) == 2047)=true:=by rw [ff]; rfl
        rw [if_pos ff] at NE
        have RES:=Lib.hid (show Ending.returned (.tuple #[.string (F ++ E.extract 0 q),.int .i64 (f:Nat),.bool true])=Ending.returned (.tuple #[.string (bs (F.data.toList ++ (tmIdle k).take q)),.int .i64 (F.size:Nat),.bool true]) by rw [RES1.out,hf.out])
        clear ff
        go_wp2_with fail
        (refine (IC.out _).mono ?_)
        rintro e w2 ⟨rfl,h2⟩
        have H2:=Lib.hid (HH.out.below h2)
        have K2:=Lib.hid (HK.out.trans (RK.of_below h2 (Nat.le_trans HN0.out HK.out.below.size)))
        clear h2
        go_wp2_with ((with_reducible refine atList ?_); refine wpList_setT rfl (.store 9 (.tmp 144) (.tmp 142)) rfl r 3 4 (.string (E.extract q k)) _ (flC n (.slice sa 0 cap) bg1 (E.extract q k)) H2.out.cr (by omega) (fun j hj=>by match j,hj with | 0,_=>rfl | 1,_=>rfl | 2,_=>rfl | 3,_=>rfl) (store_str rfl rfl rfl (H2.out.cr.cell (j:=3) (by omega)) (H2.out.cr.frozen (j:=3) (by omega))) ?_; intro w3 C3 U3 S3 V3)
        go_ret3
        obtain ⟨R3,K3⟩:=H2.out.setC C3.out U3.out V3.out
        refine ⟨.slice sa 0 cap,[],?_,?_,?_,HJ.out.full,K2.out.trans K3⟩
        · rw [NE.out]; exact RES.out
        · rw [NE.out]
          show RFl w3 n0 r n (.slice sa 0 cap) [] false (bs ((tmIdle k).drop q))
          rw [<-RES2.out,<-BG.out]
          exact R3
        rw [NE.out]; rfl
      have t3:((fst:Int) == 2047)=false:=by simp; omega
      rw [if_neg ff] at NE
      have RES:=Lib.hid (show Ending.returned (.tuple #[.string (F ++ E.extract 0 q),.int .i64 (fst:Nat),.bool true])=Ending.returned (.tuple #[.string (bs (F.data.toList ++ (tmIdle k).take q)),.int .i64 (fst:Nat),.bool true]) by rw [RES1.out])
      clear ff
      go_wp2_with fail
      (refine (IC.out _).mono ?_)
      rintro e w2 ⟨rfl,h2⟩
      have H2:=Lib.hid (HH.out.below h2)
      have K2:=Lib.hid (HK.out.trans (RK.of_below h2 (Nat.le_trans HN0.out HK.out.below.size)))
      clear h2
      go_wp2_with ((with_reducible refine atList ?_); refine wpList_setT rfl (.store 9 (.tmp 144) (.tmp 142)) rfl r 3 4 (.string (E.extract q k)) _ (flC n (.slice sa 0 cap) bg1 (E.extract q k)) H2.out.cr (by omega) (fun j hj=>by match j,hj with | 0,_=>rfl | 1,_=>rfl | 2,_=>rfl | 3,_=>rfl) (store_str rfl rfl rfl (H2.out.cr.cell (j:=3) (by omega)) (H2.out.cr.frozen (j:=3) (by omega))) ?_; intro w3 C3 U3 S3 V3)
      go_ret3
      obtain ⟨R3,K3⟩:=H2.out.setC C3.out U3.out V3.out
      refine ⟨.slice sa 0 cap,[],?_,?_,?_,HJ.out.full,K2.out.trans K3⟩
      · rw [NE.out]; exact RES.out
      · rw [NE.out]
        show RFl w3 n0 r n (.slice sa 0 cap) [] false (bs ((tmIdle k).drop q))
        rw [<-RES2.out,<-BG.out]
        exact R3
      rw [NE.out]; rfl
    | cons s L2=>
      obtain ⟨N,hNN⟩:∃ N,(s :: L2).length=N:=⟨_,rfl⟩
      rw [hNN] at c1
      have t0:decide ((0:Int) < (N:Int))=true:=decide_eq_true (by rw [<-hNN,List.length_cons]; omega)
      have t0n:decide (0 < N)=true:=decide_eq_true (by rw [<-hNN,List.length_cons]; omega)
      by_cases fn:f=n
      · have HF:=Lib.hid (show F.size=n by rw [hf0,fn])
        have HD:=Lib.hid (HJ.out.done (.inr HF.out))
        have t1:decide ((f:Int) < (n:Int))=false:=decide_eq_false (by omega)
        have t1n:decide (f < n)=false:=decide_eq_false (by omega)
        clear fn
        have NE:=Lib.hid (next_full (by rw [<-HD.out]; exact HR.out) HRE.out HF.out)
        have ee:IntKind.i64.wrap ((n:Int) - (f:Int))=0:=by rw [show f=n by have:=HF.out; have:=hf.out; omega,Int.sub_self]; rfl
        have FJ:=Lib.hid HJ.out.full
        clear HD
        go_wp2_with fail
        go_ret3
        refine ⟨.slice sa (s :: L2).length cap,(s :: L2),?_,?_,?_,FJ.out,HK.out⟩
        · rw [NE.out,bs_self]; rfl
        · rw [NE.out]; exact HH.out
        rw [NE.out]
      have t1:decide ((f:Int) < (n:Int))=true:=decide_eq_true (by omega)
      have t1n:decide (f < n)=true:=decide_eq_true (by omega)
      have LTN:=Lib.hid (show F.size < n by omega)
      obtain ⟨G,rfl,_,TG⟩:=row_some (show wr.ownsRow n0 9 1 (.slice sa N cap) N (strVs (s :: L2)) by have:=HH.out.row; rw [hNN] at this; exact this) (by rw [<-hNN,List.length_cons]; omega)
      have RW:=Lib.hid (show wr.ownsRow n0 9 1 (.slice (some ⟨G,0,none⟩) N cap) N (strVs (s :: L2)) by have:=HH.out.row; rw [hNN] at this; exact this)
      have GL:=Lib.hid TG.lt
      have CC:=Lib.hid (show ∀ w2,Below wr.heap.size wr w2->w2.cell? ⟨r,1,none⟩=some (.slice (some ⟨G,0,none⟩) N cap) from fun w2 hb=>by have:=(HH.out.below hb).cr.cell (j:=1) (by omega); rw [this,<-hNN]; rfl)
      have CG:=Lib.hid (show ∀ w2,Below wr.heap.size wr w2->w2.cell? ⟨G,0,none⟩=some (.string s) from fun w2 hb=>row_cell (own_below RW.out hb) (k:=0) rfl)
      have NP:=Lib.hid (show 1<=N by rw [<-hNN,List.length_cons]; omega)
      have NC:=Lib.hid (show N<=cap from by
        obtain ⟨_,_,e,g1,_⟩:=(RowAt.of_own RW.out).is
        cases e
        rw [strVs_len,hNN] at g1
        exact g1)
      obtain ⟨O1,hO⟩:∃ O1,(if cap=1 then 0 else 1)=O1:=⟨_,rfl⟩
      obtain ⟨M,hM⟩:∃ M,N - 1=M:=⟨_,rfl⟩
      obtain ⟨C1',hC1⟩:∃ C1',cap - 1=C1':=⟨_,rfl⟩
      have HO:=Lib.hid hO.symm
      have HM:=Lib.hid hM.symm
      have HC1:=Lib.hid hC1.symm
      have LM:=Lib.hid (show L2.length=M by rw [List.length_cons] at hNN; omega)
      have LB:=Lib.hid (show M<=100000 by have:=HJ.out.few; rw [List.length_cons] at this; have:=LM.out; omega)
      obtain ⟨y,hy⟩:∃ y,s.size=y:=⟨_,rfl⟩
      obtain ⟨q,hq⟩:∃ q,n - f=q:=⟨_,rfl⟩
      obtain ⟨k,hk0⟩:∃ k,min y q=k:=⟨_,rfl⟩
      have hk:=Lib.hid hk0
      have LTQ:=Lib.hid (show n - F.size=q by rw [hf0]; exact hq)
      have ee:=Lib.hid (show IntKind.i64.wrap ((n:Int) - (f:Int))=(q:Int) by rw [IntKind.wrap_i64]; omega)
      obtain ⟨M1,hM1⟩:∃ M1,1 + M=M1:=⟨_,rfl⟩
      have M1E:=Lib.hid hM1
      clear hM1
      have SP:=Lib.hid (show 0 < s.size from HJ.out.full s (List.mem_cons_self ..))
      have qp:0 < q:=by omega
      clear fn hf0 hO hM hC1 hk0 TG hNN
      cases bg1 with
      | true=>
        have EF:=Lib.hid (show fst2 true fst F.size=fst by simp [fst2])
        have FL:=Lib.hid FL0.out
        go_upto_region 8 with fail
        refine rnmRegion r G N cap n y f q k s F HH.out.cr.lt (HH.out.cr.cell (j:=0) (by omega)) (CC.out wr (Below.refl _ _)) GL.out (CG.out wr (Below.refl _ _)) NP.out hy hf.out ee.out hk.out (by kernel_rfl) rfl rfl rfl rfl rfl rfl rfl rfl rfl rfl rfl rfl rfl rfl rfl rfl rfl rfl ?_
        intro w8 h8
        have B8:=Lib.hid h8
        have H8:=Lib.hid (HH.out.below h8)
        have c18:=CC.out w8 h8
        have c08:w8.cell? ⟨r,0,none⟩=some (.int .i64 (n:Nat)):=H8.out.cr.cell (j:=0) (by omega)
        have cg8:=CG.out w8 h8
        have hn8:=Lib.hid (Nat.le_trans HN0.out HK.out.below.size)
        have hn88:=Lib.hid (Nat.le_trans hn8.out h8.size)
        have RW8:=Lib.hid (own_below RW.out h8)
        clear h8
        simp only [Act.put,List.setIfInBounds_toArray,List.set_cons_succ,List.set_cons_zero,List.drop_succ_cons,List.drop_zero]
        by_cases hyq:y<=q
        · obtain rfl:y=k:=by have:=hk.out; omega
          have t5:decide ((y:Int) < (y:Int))=false:=decide_eq_false (by omega)
          have t5n:decide (y < y)=false:=decide_eq_false (by omega)
          have eF:F ++ s.extract 0 y=F ++ s:=by rw [<-hy,ext_all]
          have JA:=Lib.hid (HJ.out.all LTN.out (by have:=LTQ.out; omega))
          have yy:y<=s.size:=by omega
          go_wp2_with (first
            | ((with_reducible refine atList ?_); refine wpList_newRow rfl (.buildSlice 43 0 #[]) rfl [] 9 0 n0 rfl (Nat.zero_le _) hn88.out (build_strs0 rfl) ?_; intro A1 w9 HA OA LA; have c19:w9.cell? ⟨r,1,none⟩=some (.slice (some ⟨G,0,none⟩) N cap):=CC.out w9 (bt B8.out LA.out))
            | ((with_reducible refine atList ?_); refine wpList_run rfl (.slice 43 (.tmp 107) (some (.const (.int .i64 1))) none none) rfl (.slice (some ⟨G,O1,none⟩) M C1') (slice_lo_strs rfl rfl rfl NP.out NC.out HO.out HM.out HC1.out) ?_)
            | (at_builtin; (with_reducible refine atList ?_); refine wpList_append_own2 rfl (.tmp 103) (.tmp 108) 43 rfl n0 9 i0 (.string ⟨#[]⟩) 1 16 Tryz.underlying43 hi0 hz0 hz1 hz2 rfl (by decide) _ 0 [] rfl OA.out ⟨G,O1,none⟩ M C1' (strVs L2) rfl (by rw [strVs_len,LM.out,Nat.mul_one]) (cells_none (own_below RW8.out LA.out) HO.out (by rw [strVs_len,LM.out]; have:=HM.out; have:=NP.out; omega) NC.out) (strVs_one L2) (by unfold maxLen; have:=LB.out; omega) (by have:=LB.out; omega) (Nat.le_trans hn88.out LA.out.size) ?_; intro v10 w10 O10 g10 k10; rw [Nat.zero_add,List.nil_append] at O10; obtain ⟨a10,p10,rfl⟩:=own_is O10; have OO10:=Lib.hid (show w10.ownsRow n0 9 1 (.slice a10 M p10) L2.length (strVs L2) by rw [LM.out]; exact O10); have B10:=Lib.hid (app_below2 HA.out LA.out g10); have H10:=Lib.hid (H8.out.below B10.out); clear O10 g10 k10)
            | ((with_reducible refine atList ?_); refine wpList_setT rfl (.store 43 (.tmp 111) (.tmp 109)) rfl r 1 4 (.slice a10 M p10) _ (flC n (.slice a10 M p10) true ⟨#[]⟩) H10.out.cr (by omega) (fun j hj=>by match j,hj with | 0,_=>rfl | 1,_=>rfl | 2,_=>rfl | 3,_=>rfl) (store_strs rfl rfl rfl (H10.out.cr.cell (j:=1) (by omega)) (H10.out.cr.frozen (j:=1) (by omega))) ?_; intro w11 C11 U11 S11 V11)
            | ((with_reducible refine atList ?_); refine wpList_setT rfl (.store 4 (.tmp 114) (.const (.bool false))) rfl r 2 4 (.bool false) _ (flC n (.slice a10 M p10) false ⟨#[]⟩) C11.out (by omega) (fun j hj=>by match j,hj with | 0,_=>rfl | 1,_=>rfl | 2,_=>rfl | 3,_=>rfl) (store_bool rfl rfl rfl (C11.out.cell (j:=2) (by omega)) (C11.out.frozen (j:=2) (by omega))) ?_; intro w12 C12 U12 S12 V12))
          obtain ⟨R11,K11⟩:=H8.out.newRow hn88.out B10.out OO10.out C11.out U11.out V11.out
          obtain ⟨RN,K12⟩:=R11.setC C12.out U12.out V12.out
          have KN:=K11.trans K12
          simp only [Act.put]
          go_roundw
          case rel=>exact ⟨_,_,_,_,_,by first | rfl | rw [eF],rfl,FL.out,EF.out ▸ JA.out,RN,HK.out.trans ((RK.of_below B8.out hn8.out).trans KN)⟩
          case measure=>simp [strOf]; have:=LTN.out; have:=SP.out; have:=hf.out; omega
        obtain rfl:q=k:=by have:=hk.out; omega
        have t5:decide ((q:Int) < (y:Int))=true:=decide_eq_true (by omega)
        have t5n:decide (q < y)=true:=decide_eq_true (by omega)
        have qy:q<=s.size:=by omega
        have JP:=Lib.hid (HJ.out.part LTN.out (by have:=LTQ.out; omega))
        rw [LTQ.out] at JP
        go_upto_region 11 with fail
        refine rnaRegion r G N cap q O1 M C1' s (s.extract q s.size) (fun v w2=>∃ a c,v=.slice a M1 c/\w2.ownsRow n0 9 1 v (s.extract q s.size :: L2).length (strVs (s.extract q s.size :: L2))/\Below w8.heap.size w8 w2) H8.out.cr.lt c18 (Nat.lt_of_lt_of_le GL.out B8.out.size) cg8 NP.out NC.out HO.out HM.out HC1.out qy rfl (fun ty w' hb gb hgb hrow=>by
          obtain ⟨v10,w10,e10,O10,g10,_⟩:=run_append_own2 (P:=Tryz.prog) w' n0 43 ty 9 i0 (.string ⟨#[]⟩) 1 16 Tryz.underlying43 hi0 hz0 hz1 hz2 rfl (by decide) _ 1 [.string (s.extract q s.size)] (own_mono hrow hn88.out) ⟨G,O1,none⟩ M C1' (strVs L2) (by rw [strVs_len,LM.out,Nat.mul_one]) (cells_none (own_below RW8.out hb) HO.out (by rw [strVs_len,LM.out]; have:=HM.out; have:=NP.out; omega) NC.out) (strVs_one L2) (by unfold maxLen; have:=LB.out; omega) (by have:=LB.out; omega) (Nat.le_trans hn88.out hb.size)
          rw [M1E.out] at O10
          obtain ⟨a10,p10,rfl⟩:=own_is O10
          refine ⟨_,w10,e10,a10,p10,rfl,?_,hb.grown g10 hb.size (fun k e=>by cases e; exact hgb)⟩
          rw [List.length_cons,LM.out,Nat.add_comm M 1,M1E.out]
          exact O10) (by kernel_rfl) rfl rfl rfl rfl rfl rfl rfl rfl rfl rfl rfl rfl rfl rfl rfl rfl rfl rfl rfl ?_
        rintro v9 v10 w10 ⟨a10,p10,rfl,O10,B10'⟩
        have OO10:=Lib.hid O10
        have B10:=Lib.hid B10'
        have H10:=Lib.hid (H8.out.below B10')
        clear O10 B10'
        simp only [Act.put,List.setIfInBounds_toArray,List.set_cons_succ,List.set_cons_zero,List.drop_succ_cons,List.drop_zero]
        go_wp2_with (first
          | ((with_reducible refine atList ?_); refine wpList_setT rfl (.store 43 (.tmp 98) (.tmp 96)) rfl r 1 4 (.slice a10 M1 p10) _ (flC n (.slice a10 M1 p10) true ⟨#[]⟩) H10.out.cr (by omega) (fun j hj=>by match j,hj with | 0,_=>rfl | 1,_=>rfl | 2,_=>rfl | 3,_=>rfl) (store_strs rfl rfl rfl (H10.out.cr.cell (j:=1) (by omega)) (H10.out.cr.frozen (j:=1) (by omega))) ?_; intro w11 C11 U11 S11 V11)
          | ((with_reducible refine atList ?_); refine wpList_setT rfl (.store 4 (.tmp 101) (.const (.bool true))) rfl r 2 4 (.bool true) _ (flC n (.slice a10 M1 p10) true ⟨#[]⟩) C11.out (by omega) (fun j hj=>by match j,hj with | 0,_=>rfl | 1,_=>rfl | 2,_=>rfl | 3,_=>rfl) (store_bool rfl rfl rfl (C11.out.cell (j:=2) (by omega)) (C11.out.frozen (j:=2) (by omega))) ?_; intro w12 C12 U12 S12 V12))
        obtain ⟨R11,K11⟩:=H8.out.newRow hn88.out B10.out OO10.out C11.out U11.out V11.out
        obtain ⟨RN,K12⟩:=R11.setC C12.out U12.out V12.out
        have KN:=K11.trans K12
        simp only [Act.put]
        go_roundw
        case rel=>exact ⟨_,_,_,_,_,rfl,rfl,FL.out,EF.out ▸ JP.out,RN,HK.out.trans ((RK.of_below B8.out hn8.out).trans KN)⟩
        case measure=>simp [strOf]; have:=LTN.out; have:=SP.out; have:=hf.out; have:=LTQ.out; have:=ByteArray.size_extract (a:=s) (b:=0) (e:=q); omega
      | false=>
        by_cases ff:fst=2047
        · have t3:((fst:Int) == 2047)=true:=by rw [ff]; rfl
          have EF:=Lib.hid (show fst2 false fst F.size=f by rw [ff,hff]; simp [fst2])
          have FL:=Lib.hid (show f<=2047 by omega)
          clear ff
          go_upto_region 8 with fail
          refine rnmRegion r G N cap n y f q k s F HH.out.cr.lt (HH.out.cr.cell (j:=0) (by omega)) (CC.out wr (Below.refl _ _)) GL.out (CG.out wr (Below.refl _ _)) NP.out hy hf.out ee.out hk.out (by kernel_rfl) rfl rfl rfl rfl rfl rfl rfl rfl rfl rfl rfl rfl rfl rfl rfl rfl rfl rfl ?_
          intro w8 h8
          have B8:=Lib.hid h8
          have H8:=Lib.hid (HH.out.below h8)
          have c18:=CC.out w8 h8
          have c08:w8.cell? ⟨r,0,none⟩=some (.int .i64 (n:Nat)):=H8.out.cr.cell (j:=0) (by omega)
          have cg8:=CG.out w8 h8
          have hn8:=Lib.hid (Nat.le_trans HN0.out HK.out.below.size)
          have hn88:=Lib.hid (Nat.le_trans hn8.out h8.size)
          have RW8:=Lib.hid (own_below RW.out h8)
          clear h8
          simp only [Act.put,List.setIfInBounds_toArray,List.set_cons_succ,List.set_cons_zero,List.drop_succ_cons,List.drop_zero]
          by_cases hyq:y<=q
          · obtain rfl:y=k:=by have:=hk.out; omega
            have t5:decide ((y:Int) < (y:Int))=false:=decide_eq_false (by omega)
            have t5n:decide (y < y)=false:=decide_eq_false (by omega)
            have eF:F ++ s.extract 0 y=F ++ s:=by rw [<-hy,ext_all]
            have JA:=Lib.hid (HJ.out.all LTN.out (by have:=LTQ.out; omega))
            have yy:y<=s.size:=by omega
            go_wp2_with (first
              | ((with_reducible refine atList ?_); refine wpList_newRow rfl (.buildSlice 43 0 #[]) rfl [] 9 0 n0 rfl (Nat.zero_le _) hn88.out (build_strs0 rfl) ?_; intro A1 w9 HA OA LA; have c19:w9.cell? ⟨r,1,none⟩=some (.slice (some ⟨G,0,none⟩) N cap):=CC.out w9 (bt B8.out LA.out))
              | ((with_reducible refine atList ?_); refine wpList_run rfl (.slice 43 (.tmp 107) (some (.const (.int .i64 1))) none none) rfl (.slice (some ⟨G,O1,none⟩) M C1') (slice_lo_strs rfl rfl rfl NP.out NC.out HO.out HM.out HC1.out) ?_)
              | (at_builtin; (with_reducible refine atList ?_); refine wpList_append_own2 rfl (.tmp 103) (.tmp 108) 43 rfl n0 9 i0 (.string ⟨#[]⟩) 1 16 Tryz.underlying43 hi0 hz0 hz1 hz2 rfl (by decide) _ 0 [] rfl OA.out ⟨G,O1,none⟩ M C1' (strVs L2) rfl (by rw [strVs_len,LM.out,Nat.mul_one]) (cells_none (own_below RW8.out LA.out) HO.out (by rw [strVs_len,LM.out]; have:=HM.out; have:=NP.out; omega) NC.out) (strVs_one L2) (by unfold maxLen; have:=LB.out; omega) (by have:=LB.out; omega) (Nat.le_trans hn88.out LA.out.size) ?_; intro v10 w10 O10 g10 k10; rw [Nat.zero_add,List.nil_append] at O10; obtain ⟨a10,p10,rfl⟩:=own_is O10; have OO10:=Lib.hid (show w10.ownsRow n0 9 1 (.slice a10 M p10) L2.length (strVs L2) by rw [LM.out]; exact O10); have B10:=Lib.hid (app_below2 HA.out LA.out g10); have H10:=Lib.hid (H8.out.below B10.out); clear O10 g10 k10)
              | ((with_reducible refine atList ?_); refine wpList_setT rfl (.store 43 (.tmp 111) (.tmp 109)) rfl r 1 4 (.slice a10 M p10) _ (flC n (.slice a10 M p10) false ⟨#[]⟩) H10.out.cr (by omega) (fun j hj=>by match j,hj with | 0,_=>rfl | 1,_=>rfl | 2,_=>rfl | 3,_=>rfl) (store_strs rfl rfl rfl (H10.out.cr.cell (j:=1) (by omega)) (H10.out.cr.frozen (j:=1) (by omega))) ?_; intro w11 C11 U11 S11 V11)
              | ((with_reducible refine atList ?_); refine wpList_setT rfl (.store 4 (.tmp 114) (.const (.bool false))) rfl r 2 4 (.bool false) _ (flC n (.slice a10 M p10) false ⟨#[]⟩) C11.out (by omega) (fun j hj=>by match j,hj with | 0,_=>rfl | 1,_=>rfl | 2,_=>rfl | 3,_=>rfl) (store_bool rfl rfl rfl (C11.out.cell (j:=2) (by omega)) (C11.out.frozen (j:=2) (by omega))) ?_; intro w12 C12 U12 S12 V12))
            obtain ⟨R11,K11⟩:=H8.out.newRow hn88.out B10.out OO10.out C11.out U11.out V11.out
            obtain ⟨RN,K12⟩:=R11.setC C12.out U12.out V12.out
            have KN:=K11.trans K12
            simp only [Act.put]
            go_roundw
            case rel=>exact ⟨_,_,_,_,_,by first | rfl | rw [eF],rfl,FL.out,EF.out ▸ JA.out,RN,HK.out.trans ((RK.of_below B8.out hn8.out).trans KN)⟩
            case measure=>simp [strOf]; have:=LTN.out; have:=SP.out; have:=hf.out; omega
          obtain rfl:q=k:=by have:=hk.out; omega
          have t5:decide ((q:Int) < (y:Int))=true:=decide_eq_true (by omega)
          have t5n:decide (q < y)=true:=decide_eq_true (by omega)
          have qy:q<=s.size:=by omega
          have JP:=Lib.hid (HJ.out.part LTN.out (by have:=LTQ.out; omega))
          rw [LTQ.out] at JP
          go_upto_region 11 with fail
          refine rnaRegion r G N cap q O1 M C1' s (s.extract q s.size) (fun v w2=>∃ a c,v=.slice a M1 c/\w2.ownsRow n0 9 1 v (s.extract q s.size :: L2).length (strVs (s.extract q s.size :: L2))/\Below w8.heap.size w8 w2) H8.out.cr.lt c18 (Nat.lt_of_lt_of_le GL.out B8.out.size) cg8 NP.out NC.out HO.out HM.out HC1.out qy rfl (fun ty w' hb gb hgb hrow=>by
            obtain ⟨v10,w10,e10,O10,g10,_⟩:=run_append_own2 (P:=Tryz.prog) w' n0 43 ty 9 i0 (.string ⟨#[]⟩) 1 16 Tryz.underlying43 hi0 hz0 hz1 hz2 rfl (by decide) _ 1 [.string (s.extract q s.size)] (own_mono hrow hn88.out) ⟨G,O1,none⟩ M C1' (strVs L2) (by rw [strVs_len,LM.out,Nat.mul_one]) (cells_none (own_below RW8.out hb) HO.out (by rw [strVs_len,LM.out]; have:=HM.out; have:=NP.out; omega) NC.out) (strVs_one L2) (by unfold maxLen; have:=LB.out; omega) (by have:=LB.out; omega) (Nat.le_trans hn88.out hb.size)
            rw [M1E.out] at O10
            obtain ⟨a10,p10,rfl⟩:=own_is O10
            refine ⟨_,w10,e10,a10,p10,rfl,?_,hb.grown g10 hb.size (fun k e=>by cases e; exact hgb)⟩
            rw [List.length_cons,LM.out,Nat.add_comm M 1,M1E.out]
            exact O10) (by kernel_rfl) rfl rfl rfl rfl rfl rfl rfl rfl rfl rfl rfl rfl rfl rfl rfl rfl rfl rfl rfl ?_
          rintro v9 v10 w10 ⟨a10,p10,rfl,O10,B10'⟩
          have OO10:=Lib.hid O10
          have B10:=Lib.hid B10'
          have H10:=Lib.hid (H8.out.below B10')
          clear O10 B10'
          simp only [Act.put,List.setIfInBounds_toArray,List.set_cons_succ,List.set_cons_zero,List.drop_succ_cons,List.drop_zero]
          go_wp2_with (first
            | ((with_reducible refine atList ?_); refine wpList_setT rfl (.store 43 (.tmp 98) (.tmp 96)) rfl r 1 4 (.slice a10 M1 p10) _ (flC n (.slice a10 M1 p10) false ⟨#[]⟩) H10.out.cr (by omega) (fun j hj=>by match j,hj with | 0,_=>rfl | 1,_=>rfl | 2,_=>rfl | 3,_=>rfl) (store_strs rfl rfl rfl (H10.out.cr.cell (j:=1) (by omega)) (H10.out.cr.frozen (j:=1) (by omega))) ?_; intro w11 C11 U11 S11 V11)
            | ((with_reducible refine atList ?_); refine wpList_setT rfl (.store 4 (.tmp 101) (.const (.bool true))) rfl r 2 4 (.bool true) _ (flC n (.slice a10 M1 p10) true ⟨#[]⟩) C11.out (by omega) (fun j hj=>by match j,hj with | 0,_=>rfl | 1,_=>rfl | 2,_=>rfl | 3,_=>rfl) (store_bool rfl rfl rfl (C11.out.cell (j:=2) (by omega)) (C11.out.frozen (j:=2) (by omega))) ?_; intro w12 C12 U12 S12 V12))
          obtain ⟨R11,K11⟩:=H8.out.newRow hn88.out B10.out OO10.out C11.out U11.out V11.out
          obtain ⟨RN,K12⟩:=R11.setC C12.out U12.out V12.out
          have KN:=K11.trans K12
          simp only [Act.put]
          go_roundw
          case rel=>exact ⟨_,_,_,_,_,rfl,rfl,FL.out,EF.out ▸ JP.out,RN,HK.out.trans ((RK.of_below B8.out hn8.out).trans KN)⟩
          case measure=>simp [strOf]; have:=LTN.out; have:=SP.out; have:=hf.out; have:=LTQ.out; have:=ByteArray.size_extract (a:=s) (b:=0) (e:=q); omega
        have t3:((fst:Int) == 2047)=false:=by simp; omega
        have EF:=Lib.hid (show fst2 false fst F.size=fst by simp [fst2,ff])
        have FL:=Lib.hid FL0.out
        clear ff
        go_upto_region 8 with fail
        refine rnmRegion r G N cap n y f q k s F HH.out.cr.lt (HH.out.cr.cell (j:=0) (by omega)) (CC.out wr (Below.refl _ _)) GL.out (CG.out wr (Below.refl _ _)) NP.out hy hf.out ee.out hk.out (by kernel_rfl) rfl rfl rfl rfl rfl rfl rfl rfl rfl rfl rfl rfl rfl rfl rfl rfl rfl rfl ?_
        intro w8 h8
        have B8:=Lib.hid h8
        have H8:=Lib.hid (HH.out.below h8)
        have c18:=CC.out w8 h8
        have c08:w8.cell? ⟨r,0,none⟩=some (.int .i64 (n:Nat)):=H8.out.cr.cell (j:=0) (by omega)
        have cg8:=CG.out w8 h8
        have hn8:=Lib.hid (Nat.le_trans HN0.out HK.out.below.size)
        have hn88:=Lib.hid (Nat.le_trans hn8.out h8.size)
        have RW8:=Lib.hid (own_below RW.out h8)
        clear h8
        simp only [Act.put,List.setIfInBounds_toArray,List.set_cons_succ,List.set_cons_zero,List.drop_succ_cons,List.drop_zero]
        by_cases hyq:y<=q
        · obtain rfl:y=k:=by have:=hk.out; omega
          have t5:decide ((y:Int) < (y:Int))=false:=decide_eq_false (by omega)
          have t5n:decide (y < y)=false:=decide_eq_false (by omega)
          have eF:F ++ s.extract 0 y=F ++ s:=by rw [<-hy,ext_all]
          have JA:=Lib.hid (HJ.out.all LTN.out (by have:=LTQ.out; omega))
          have yy:y<=s.size:=by omega
          go_wp2_with (first
            | ((with_reducible refine atList ?_); refine wpList_newRow rfl (.buildSlice 43 0 #[]) rfl [] 9 0 n0 rfl (Nat.zero_le _) hn88.out (build_strs0 rfl) ?_; intro A1 w9 HA OA LA; have c19:w9.cell? ⟨r,1,none⟩=some (.slice (some ⟨G,0,none⟩) N cap):=CC.out w9 (bt B8.out LA.out))
            | ((with_reducible refine atList ?_); refine wpList_run rfl (.slice 43 (.tmp 107) (some (.const (.int .i64 1))) none none) rfl (.slice (some ⟨G,O1,none⟩) M C1') (slice_lo_strs rfl rfl rfl NP.out NC.out HO.out HM.out HC1.out) ?_)
            | (at_builtin; (with_reducible refine atList ?_); refine wpList_append_own2 rfl (.tmp 103) (.tmp 108) 43 rfl n0 9 i0 (.string ⟨#[]⟩) 1 16 Tryz.underlying43 hi0 hz0 hz1 hz2 rfl (by decide) _ 0 [] rfl OA.out ⟨G,O1,none⟩ M C1' (strVs L2) rfl (by rw [strVs_len,LM.out,Nat.mul_one]) (cells_none (own_below RW8.out LA.out) HO.out (by rw [strVs_len,LM.out]; have:=HM.out; have:=NP.out; omega) NC.out) (strVs_one L2) (by unfold maxLen; have:=LB.out; omega) (by have:=LB.out; omega) (Nat.le_trans hn88.out LA.out.size) ?_; intro v10 w10 O10 g10 k10; rw [Nat.zero_add,List.nil_append] at O10; obtain ⟨a10,p10,rfl⟩:=own_is O10; have OO10:=Lib.hid (show w10.ownsRow n0 9 1 (.slice a10 M p10) L2.length (strVs L2) by rw [LM.out]; exact O10); have B10:=Lib.hid (app_below2 HA.out LA.out g10); have H10:=Lib.hid (H8.out.below B10.out); clear O10 g10 k10)
            | ((with_reducible refine atList ?_); refine wpList_setT rfl (.store 43 (.tmp 111) (.tmp 109)) rfl r 1 4 (.slice a10 M p10) _ (flC n (.slice a10 M p10) false ⟨#[]⟩) H10.out.cr (by omega) (fun j hj=>by match j,hj with | 0,_=>rfl | 1,_=>rfl | 2,_=>rfl | 3,_=>rfl) (store_strs rfl rfl rfl (H10.out.cr.cell (j:=1) (by omega)) (H10.out.cr.frozen (j:=1) (by omega))) ?_; intro w11 C11 U11 S11 V11)
            | ((with_reducible refine atList ?_); refine wpList_setT rfl (.store 4 (.tmp 114) (.const (.bool false))) rfl r 2 4 (.bool false) _ (flC n (.slice a10 M p10) false ⟨#[]⟩) C11.out (by omega) (fun j hj=>by match j,hj with | 0,_=>rfl | 1,_=>rfl | 2,_=>rfl | 3,_=>rfl) (store_bool rfl rfl rfl (C11.out.cell (j:=2) (by omega)) (C11.out.frozen (j:=2) (by omega))) ?_; intro w12 C12 U12 S12 V12))
          obtain ⟨R11,K11⟩:=H8.out.newRow hn88.out B10.out OO10.out C11.out U11.out V11.out
          obtain ⟨RN,K12⟩:=R11.setC C12.out U12.out V12.out
          have KN:=K11.trans K12
          simp only [Act.put]
          go_roundw
          case rel=>exact ⟨_,_,_,_,_,by first | rfl | rw [eF],rfl,FL.out,EF.out ▸ JA.out,RN,HK.out.trans ((RK.of_below B8.out hn8.out).trans KN)⟩
          case measure=>simp [strOf]; have:=LTN.out; have:=SP.out; have:=hf.out; omega
        obtain rfl:q=k:=by have:=hk.out; omega
        have t5:decide ((q:Int) < (y:Int))=true:=decide_eq_true (by omega)
        have t5n:decide (q < y)=true:=decide_eq_true (by omega)
        have qy:q<=s.size:=by omega
        have JP:=Lib.hid (HJ.out.part LTN.out (by have:=LTQ.out; omega))
        rw [LTQ.out] at JP
        go_upto_region 11 with fail
        refine rnaRegion r G N cap q O1 M C1' s (s.extract q s.size) (fun v w2=>∃ a c,v=.slice a M1 c/\w2.ownsRow n0 9 1 v (s.extract q s.size :: L2).length (strVs (s.extract q s.size :: L2))/\Below w8.heap.size w8 w2) H8.out.cr.lt c18 (Nat.lt_of_lt_of_le GL.out B8.out.size) cg8 NP.out NC.out HO.out HM.out HC1.out qy rfl (fun ty w' hb gb hgb hrow=>by
          obtain ⟨v10,w10,e10,O10,g10,_⟩:=run_append_own2 (P:=Tryz.prog) w' n0 43 ty 9 i0 (.string ⟨#[]⟩) 1 16 Tryz.underlying43 hi0 hz0 hz1 hz2 rfl (by decide) _ 1 [.string (s.extract q s.size)] (own_mono hrow hn88.out) ⟨G,O1,none⟩ M C1' (strVs L2) (by rw [strVs_len,LM.out,Nat.mul_one]) (cells_none (own_below RW8.out hb) HO.out (by rw [strVs_len,LM.out]; have:=HM.out; have:=NP.out; omega) NC.out) (strVs_one L2) (by unfold maxLen; have:=LB.out; omega) (by have:=LB.out; omega) (Nat.le_trans hn88.out hb.size)
          rw [M1E.out] at O10
          obtain ⟨a10,p10,rfl⟩:=own_is O10
          refine ⟨_,w10,e10,a10,p10,rfl,?_,hb.grown g10 hb.size (fun k e=>by cases e; exact hgb)⟩
          rw [List.length_cons,LM.out,Nat.add_comm M 1,M1E.out]
          exact O10) (by kernel_rfl) rfl rfl rfl rfl rfl rfl rfl rfl rfl rfl rfl rfl rfl rfl rfl rfl rfl rfl rfl ?_
        rintro v9 v10 w10 ⟨a10,p10,rfl,O10,B10'⟩
        have OO10:=Lib.hid O10
        have B10:=Lib.hid B10'
        have H10:=Lib.hid (H8.out.below B10')
        clear O10 B10'
        simp only [Act.put,List.setIfInBounds_toArray,List.set_cons_succ,List.set_cons_zero,List.drop_succ_cons,List.drop_zero]
        go_wp2_with (first
          | ((with_reducible refine atList ?_); refine wpList_setT rfl (.store 43 (.tmp 98) (.tmp 96)) rfl r 1 4 (.slice a10 M1 p10) _ (flC n (.slice a10 M1 p10) false ⟨#[]⟩) H10.out.cr (by omega) (fun j hj=>by match j,hj with | 0,_=>rfl | 1,_=>rfl | 2,_=>rfl | 3,_=>rfl) (store_strs rfl rfl rfl (H10.out.cr.cell (j:=1) (by omega)) (H10.out.cr.frozen (j:=1) (by omega))) ?_; intro w11 C11 U11 S11 V11)
          | ((with_reducible refine atList ?_); refine wpList_setT rfl (.store 4 (.tmp 101) (.const (.bool true))) rfl r 2 4 (.bool true) _ (flC n (.slice a10 M1 p10) true ⟨#[]⟩) C11.out (by omega) (fun j hj=>by match j,hj with | 0,_=>rfl | 1,_=>rfl | 2,_=>rfl | 3,_=>rfl) (store_bool rfl rfl rfl (C11.out.cell (j:=2) (by omega)) (C11.out.frozen (j:=2) (by omega))) ?_; intro w12 C12 U12 S12 V12))
        obtain ⟨R11,K11⟩:=H8.out.newRow hn88.out B10.out OO10.out C11.out U11.out V11.out
        obtain ⟨RN,K12⟩:=R11.setC C12.out U12.out V12.out
        have KN:=K11.trans K12
        simp only [Act.put]
        go_roundw
        case rel=>exact ⟨_,_,_,_,_,rfl,rfl,FL.out,EF.out ▸ JP.out,RN,HK.out.trans ((RK.of_below B8.out hn8.out).trans KN)⟩
        case measure=>simp [strOf]; have:=LTN.out; have:=SP.out; have:=hf.out; have:=LTQ.out; have:=ByteArray.size_extract (a:=s) (b:=0) (e:=q); omega
end Go.Proofs.YtchfkncbemjepaaGreat

/- Layer 10: the landed filler and the reference's filler, each with the filler of the mathematics: what each call returns and leaves. -/
namespace Go.Proofs.YtchfkncbemjepaaGreat
open Go.RowKit

abbrev YTs:List TypeId:=[131]
def PY (w:World) (n0 Y n:Nat) (s:Tm.Fl):Prop:=∃ sv L,RFl w n0 Y n sv L s.bg (bs s.re)/\lists L=s.q
theorem PY.kp {w w':World} {n0 Y n n1:Nat} {s:Tm.Fl} {ts:List TypeId} {m:Bool} (h:PY w n0 Y n s) (k:Kp n1 ts m w w') (t1:131 ∉ ts) (t2:9 ∉ ts):PY w' n0 Y n s:=by
  obtain ⟨sv,L,h1,h2⟩:=h
  exact ⟨sv,L,h1.kp k t1 t2,h2⟩
theorem PY.below {w w':World} {n0 Y n:Nat} {s:Tm.Fl} (h:PY w n0 Y n s) (hb:Below w.heap.size w w'):PY w' n0 Y n s:=by
  obtain ⟨sv,L,h1,h2⟩:=h
  exact ⟨sv,L,h1.below hb,h2⟩
theorem lists_size {L:List ByteArray} {s:Tm.Fl} (e:lists L=s.q):sizes L=Tm.wait s.q:=by rw [<-e,lists_wait]
theorem lists_len {L:List ByteArray} {s:Tm.Fl} (e:lists L=s.q):L.length=s.q.length:=by rw [<-e]; unfold lists; rw [List.length_map]
theorem lists_full {L:List ByteArray} {s:Tm.Fl} (e:lists L=s.q) (g:Gd s):∀ x ∈ L,0 < x.size:=fun x hx=>by
  obtain ⟨⟨A,T,out,u⟩,_⟩:=g
  have:=u.full x.data.toList (by rw [<-e]; exact List.mem_map_of_mem hx)
  rw [<-ls]
  exact List.length_pos_iff.2 this
theorem PY.ty {w:World} {n0 Y n:Nat} {s:Tm.Fl} (h:PY w n0 Y n s):TyB w Y 131:=by
  obtain ⟨sv,L,h1,h2⟩:=h
  exact h1.ty
theorem PY.rk {w w':World} {n0 Y n n1 r:Nat} {s:Tm.Fl} (h:PY w n0 Y n s) (k:RK n1 r w w') (t:TyB w r 131) (hn:Y ≠ r):PY w' n0 Y n s:=by
  obtain ⟨sv,L,h1,h2⟩:=h
  exact ⟨sv,L,h1.keep (k.rest Y h1.ty.lt hn) (fun g hg=>k.rest g (own_block_lt h1.row hg) (fun e=>ty_ne (own_ty h1.row hg).2 t (by decide) e)),h2⟩
theorem ynextR {w:World} {n0 Y n:Nat} {s:Tm.Fl} (h:PY w n0 Y n s) (g:Gd s) (hn:32<=n/\n<=200) (hn0:n0<=w.heap.size):
    Calls Tryz.prog 46 #[.pointer (some ⟨Y,0,none⟩)] w fun e w'=>e=.returned (nxV n s)/\PY w' n0 Y n (nxS n s)/\RK n0 Y w w':=by
  obtain ⟨sv,L,h1,h2⟩:=h
  have l1:=lists_size h2
  have l2:=lists_len h2
  have l3:=lists_full h2 g
  obtain ⟨⟨A,T,out,u⟩,hw⟩:=g
  have fl:=full_len s.q u.full
  unfold nxV nxS
  by_cases hz:Tm.wait s.q=0
  · rw [if_pos hz,if_pos hz]
    refine (rtnext_none h1 (by omega) (by omega)).mono ?_
    rintro e w' ⟨rfl,rfl⟩
    exact ⟨rfl,⟨sv,L,h1,h2⟩,RK.refl _ _ _⟩
  rw [if_neg hz,if_neg hz]
  refine (rtnext_any h1 (by omega) (by omega) (by omega) l3 hn (by rw [bs_size]; have:=u.short; omega) hn0).mono ?_
  rintro e w' ⟨sv',L',rfl,p,q,_,k⟩
  rw [bs_list,h2] at p q
  exact ⟨by rw [bs_list,h2],⟨sv',L',p,q⟩,k⟩
theorem ynext {w:World} {n0 Y n:Nat} {s:Tm.Fl} (h:PY w n0 Y n s) (g:Gd s) (hn:32<=n/\n<=200) (hn0:n0<=w.heap.size):
    Calls Tryz.prog 46 #[.pointer (some ⟨Y,0,none⟩)] w fun e w'=>e=.returned (nxV n s)/\PY w' n0 Y n (nxS n s)/\Kp n0 YTs false w w':=
  (ynextR h g hn hn0).mono fun _ _ ⟨a,b,k⟩=>⟨a,b,k.kp h.ty⟩
theorem addPre (p:ByteArray) (hp:p.size<=2000):AddPre p (Pk.gt p.data.toList).1 (Pk.gt p.data.toList).2:=fun w=>by
  have:=rget_any p (by omega) w
  rw [getV_gt] at this
  exact this
theorem yaddR {w:World} {n0 Y n:Nat} {s:Tm.Fl} (h:PY w n0 Y n s) (g:Gd s) (hn0:n0<=w.heap.size) (p:ByteArray) (hp:p.size<=2000):
    Calls Tryz.prog 38 #[.pointer (some ⟨Y,0,none⟩),.string p] w fun e w'=>e=.returned (.int .i64 (acV s p))/\PY w' n0 Y n (asS s p)/\RK n0 Y w w':=by
  obtain ⟨sv,L,h1,h2⟩:=h
  have l1:=lists_size h2
  have l2:=lists_len h2
  have AP:=addPre p hp
  obtain ⟨⟨A,T,out,u⟩,hw⟩:=g
  have fl:=full_len s.q u.full
  unfold acV asS
  by_cases hb:Pk.busy p.data.toList=true
  · rw [if_pos hb]
    obtain ⟨z1,z2⟩:=of_decide_eq_true hb
    rw [z1] at AP
    by_cases hf:65536 < Tm.wait s.q + p.size
    · rw [if_pos hf,if_neg (fun q=>q.2 hf)]
      refine (radd_full h1 hn0 (by omega) (by omega) p _ AP z2 (by omega) (by omega)).mono ?_
      rintro e w' ⟨rfl,k⟩
      exact ⟨rfl,⟨sv,L,h1.below k,h2⟩,RK.of_below k hn0⟩
    rw [if_neg hf,if_pos ⟨hb,hf⟩]
    refine (radd_ok h1 hn0 (by omega) (by omega) p _ AP z2 (by omega)).mono ?_
    rintro e w' ⟨sv',rfl,q,k⟩
    exact ⟨rfl,⟨sv',_,q,by unfold lists; rw [List.map_append]; show lists L ++ _=_; rw [h2]; rfl⟩,k⟩
  rw [if_neg hb,if_neg (fun q=>hb q.1)]
  refine (radd_form p _ _ AP ?_).mono ?_
  · have:¬ ((Pk.gt p.data.toList).2=0/\(Pk.gt p.data.toList).1.ap ≠ 2047):=fun q=>hb (decide_eq_true q)
    by_cases z:(Pk.gt p.data.toList).2=0
    · right
      by_cases z2:(Pk.gt p.data.toList).1.ap=2047
      · exact z2
      exact absurd ⟨z,z2⟩ this
    exact .inl z
  rintro e w' ⟨rfl,k⟩
  exact ⟨rfl,⟨sv,L,h1.below k,h2⟩,RK.of_below k hn0⟩
theorem yadd {w:World} {n0 Y n:Nat} {s:Tm.Fl} (h:PY w n0 Y n s) (g:Gd s) (hn0:n0<=w.heap.size) (p:ByteArray) (hp:p.size<=2000):
    Calls Tryz.prog 38 #[.pointer (some ⟨Y,0,none⟩),.string p] w fun e w'=>e=.returned (.int .i64 (acV s p))/\PY w' n0 Y n (asS s p)/\Kp n0 YTs false w w':=
  (yaddR h g hn0 p hp).mono fun _ _ ⟨a,b,k⟩=>⟨a,b,k.kp h.ty⟩
theorem yclearR {w:World} {n0 Y n:Nat} {s:Tm.Fl} (h:PY w n0 Y n s):
    Calls Tryz.prog 40 #[.pointer (some ⟨Y,0,none⟩)] w fun e w'=>(∃ v,e=.returned v)/\PY w' n0 Y n s0/\RK n0 Y w w':=by
  obtain ⟨sv,L,h1,h2⟩:=h
  refine (rtclear_any h1).mono ?_
  rintro e w' ⟨e1,q,k⟩
  exact ⟨e1,⟨_,_,q,rfl⟩,k⟩
theorem yclear {w:World} {n0 Y n:Nat} {s:Tm.Fl} (h:PY w n0 Y n s):
    Calls Tryz.prog 40 #[.pointer (some ⟨Y,0,none⟩)] w fun e w'=>(∃ v,e=.returned v)/\PY w' n0 Y n s0/\Kp n0 YTs false w w':=
  (yclearR h).mono fun _ _ ⟨a,b,k⟩=>⟨a,b,k.kp h.ty⟩
theorem ywaitR {w:World} {n0 Y n:Nat} {s:Tm.Fl} (h:PY w n0 Y n s) (g:Gd s):
    Calls Tryz.prog 49 #[.pointer (some ⟨Y,0,none⟩)] w fun e w'=>e=.returned (.int .i64 (Tm.wait s.q:Nat))/\w=w':=by
  obtain ⟨sv,L,h1,h2⟩:=h
  have l1:=lists_size h2
  have l2:=lists_len h2
  obtain ⟨⟨A,T,out,u⟩,hw⟩:=g
  have fl:=full_len s.q u.full
  refine (rwaiting_any h1 (by omega) (by omega)).mono ?_
  rintro e w' ⟨rfl,rfl⟩
  exact ⟨by rw [l1],rfl⟩
theorem ywait {w:World} {n0 Y n:Nat} {s:Tm.Fl} (h:PY w n0 Y n s) (g:Gd s):
    Calls Tryz.prog 49 #[.pointer (some ⟨Y,0,none⟩)] w fun e w'=>e=.returned (.int .i64 (Tm.wait s.q:Nat))/\Below w.heap.size w w':=
  (ywaitR h g).mono fun _ _ ⟨a,b⟩=>⟨a,by subst b; exact Below.refl _ _⟩
end Go.Proofs.YtchfkncbemjepaaGreat
