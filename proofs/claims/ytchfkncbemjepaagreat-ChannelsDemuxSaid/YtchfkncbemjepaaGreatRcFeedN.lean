/- RcFeedN -/
import Derived.Test.YtchfkncbemjepaaGreatRcFeed
set_option linter.unusedVariables false
set_option maxRecDepth 100000
set_option maxHeartbeats 16000000
/- Layer 11, the reference: Feed of its demux: a frame is accepted. -/
namespace Go.Proofs.YtchfkncbemjepaaGreat
open Go.RowKit

theorem tk_gone {pt:List UInt8} {lo fi:Nat} {d:List UInt8} (h:lo ≠ 0/\pt ≠ []):Ch.tk pt lo fi d=((Ch.tk [] 0 fi d).1,(Ch.tk [] 0 fi d).2.1,1 + (Ch.tk [] 0 fi d).2.2):=by
  rw [tk_cases pt lo fi d ([],1) (if_pos h),tk_cases [] 0 fi d ([],0) (if_neg (by simp))]
  split
  · rfl
  split
  · simp
  simp [Nat.add_assoc]
theorem tk_kept {pt:List UInt8} {lo fi:Nat} {d:List UInt8} (h:¬ (lo ≠ 0/\pt ≠ [])):Ch.tk pt lo fi d=((Ch.tk pt 0 fi d).1,(Ch.tk pt 0 fi d).2.1,0 + (Ch.tk pt 0 fi d).2.2):=by
  rw [tk_cases pt lo fi d (pt,0) (if_neg h),tk_cases pt 0 fi d (pt,0) (if_neg (by simp)),Nat.zero_add]
  by_cases h1:fi=2046
  · simp [h1]
  by_cases h2:fi=2047
  · simp [h2]
  simp [h1,h2]
theorem tk_idle (pt:List UInt8) (d:List UInt8):Ch.tk pt 0 2046 d=(pt,[],0):=by
  rw [tk_cases pt 0 2046 d (pt,0) (if_neg (by simp)),if_pos rfl]
theorem rFeed_n {w:World} {n0 D:Nat} {x:Ch.Dx} (h:QD w n0 D x) (hn0:n0<=w.heap.size) (b:ByteArray) (hb:b.size<=1000000) (o:x.Ok) (he:(Tm.get b.data.toList).2=0) (hc:¬ ((Tm.get b.data.toList).1.cr ≠ x.craft\/(Tm.get b.data.toList).1.da.size ≠ x.n)) (hd:¬ (x.ch (Tm.get b.data.toList).1.ch.toNat).fr=b):Calls Tryz.prog 23 #[.pointer (some ⟨D,0,none⟩),.string b] w (Fq w n0 D b x):=by
  have GT:=Lib.hid (fun w=>rtget_any b (by unfold maxLen; omega) w)
  obtain ⟨fr,hfr⟩:∃ z,(Tm.get b.data.toList).1=z:=⟨_,rfl⟩
  obtain ⟨k,hk⟩:∃ z,(Tm.get b.data.toList).2=z:=⟨_,rfl⟩
  rw [hfr,hk] at GT
  have FE:=Lib.hid (show x.feed b=((x.acc b fr).1,0,(x.acc b fr).2) by
    unfold Ch.Dx.feed; rw [if_neg (by rw [he]; simp),if_neg hc,if_neg hd,hfr])
  have hok:Tm.Ok fr:=by rw [<-hfr]; exact (Tm.get_ok he).1
  have FOK:=Lib.hid hok
  obtain ⟨c,ma,ct,hch,hma,hct,c8,ma8,ct8⟩:=frm_nums hok
  rw [hfr] at hc
  rw [hk] at he
  subst he
  have hcr:fr.cr=(x.craft:Int):=Classical.byContradiction (fun e=>hc (.inl e))
  have hN:fr.da.size=x.n:=Classical.byContradiction (fun e=>hc (.inr e))
  have p1:(fr.cr != ((x.craft:Nat):Int))=false:=by rw [hcr]; simp
  have p2:(((fr.da.size:Nat):Int) != ((x.n:Nat):Int))=false:=by rw [hN]; simp
  have p2n:(fr.da.size != x.n)=false:=by rw [hN]; simp
  have HNN:=Lib.hid hN
  have HCH:=Lib.hid hch
  have HMA:=Lib.hid hma
  have HCT:=Lib.hid hct
  have C8:=Lib.hid c8
  have N8:=Lib.hid (And.intro ma8 ct8)
  have i0:(0:Int)<=(c:Int):=by omega
  have i1:(c:Int) < 8:=by omega
  obtain ⟨q,hq⟩:∃ q,4 + c * 5=q:=⟨_,rfl⟩
  have HQ:=Lib.hid hq
  have HDD:=Lib.hid h
  have HBZ:=Lib.hid hb
  rw [hfr,show fr.ch.toNat=c by rw [hch]; rfl] at hd
  have OX:=Lib.hid o
  clear hfr hk hb hc hch hma hct hcr hN c8 ma8 ct8 hok hq o
  go_enter Tryz.func23,Tryz.ntmps23
  go_wp2_with ((with_reducible refine atList ?_); refine wpList_newT rfl (.alloc 51) rfl (some 4) rfl #[.int .i64 0,.bool false,.int .i64 0,.int .i64 0,.slice none 0 0,.int .i64 0,.int .u32 0] 51 (fun X=>.pointer (some ⟨X,0,none⟩)) 7 (aC (.slice none 0 0) Ch.av0) (arC_cells (.slice none 0 0) Ch.av0) (alloc_ar rfl) ?_; intro R w1 HR SR CR BR TR)
  (refine (GT.out w1).mono ?_)
  rintro e w2 ⟨rfl,b2⟩
  have B2:=Lib.hid (bt BR.out b2)
  have CR2:=Lib.hid (CR.out.below b2)
  have TR2:=Lib.hid (TR.out.below b2)
  clear b2
  go_upto_region 2 with (first
    | ((with_reducible refine atList ?_); refine wpList_newT rfl (.alloc 100) rfl (some 6) rfl #[.int .i64 0,.int .i64 0,.int .i64 0,.int .i64 0,.int .i64 0,.string ⟨#[]⟩,.int .u32 0] 100 (fun X=>.pointer (some ⟨X,0,none⟩)) 7 (tmCel tm0) (tm_cells tm0) (alloc_tm rfl) ?_; intro F w3 HF SF CF BF TF0)
    | ((with_reducible refine atList ?_); refine wpList_setAllT rfl 100 (.tmp 6) (.tmp 13) rfl F 7 [.int .i64 fr.cr,.int .i64 fr.ch,.int .i64 fr.ma,.int .i64 fr.ct,.int .i64 fr.fi,.string fr.da,.int .u32 (fr.wo:Nat)] _ (tmCel fr) CF.out rfl (tm_list fr) rfl rfl tm_info (by simp [Value.oneCell']) ?_; intro w4 C4 U4 S4 V4))
  have B4:=Lib.hid (show Below w.heap.size w w4 from But.under (bt B2.out BF.out) U4.out (by have:=HF.out; have:=B2.out.size; omega))
  have nFR:=Lib.hid (show R ≠ F from fun e=>by have:=TR2.out.lt; have:=HF.out; omega)
  have CR4:=Lib.hid ((CR2.out.below BF.out).but U4.out nFR.out)
  have TR4:=Lib.hid ((TR2.out.below BF.out).but U4.out nFR.out)
  have TF4:=Lib.hid (V4.out _ TF0.out)
  have H4:=Lib.hid (h.below B4.out)
  have RW:=Lib.hid (show w.heap.size<=R by have:=HR.out; omega)
  have FW:=Lib.hid (show w.heap.size<=F by have:=HF.out; have:=B2.out.size; omega)
  clear B2 CR2 TR2 HF SF CF BF TF0 HR SR CR BR TR U4 S4 V4
  have k0:w4.cell? ⟨F,0,none⟩=some (.int .i64 fr.cr):=C4.out.cell (j:=0) (by omega)
  have k1:w4.cell? ⟨F,1,none⟩=some (.int .i64 (c:Nat)):=by rw [<-HCH.out]; exact C4.out.cell (j:=1) (by omega)
  have k5:w4.cell? ⟨F,5,none⟩=some (.string fr.da):=C4.out.cell (j:=5) (by omega)
  have k6:w4.cell? ⟨F,6,none⟩=some (.int .u32 (fr.wo:Nat)):=C4.out.cell (j:=6) (by omega)
  have d0:=H4.out.craft
  have d1:=H4.out.sz
  go_wp2_with fail
  go_quiet (fail)
  rename Nat=>nq0
  obtain ⟨w5,hw5⟩:∃ z,w4.drewN nq0=z:=⟨_,rfl⟩
  have b45:=Lib.hid (show Below w4.heap.size w4 w5 by rw [<-hw5]; exact below_drewN (Below.refl _ _) _)
  rw [hw5]
  have B5:=Lib.hid (bt B4.out b45.out)
  have H5:=Lib.hid (H4.out.below b45.out)
  have C5:=Lib.hid (C4.out.below b45.out)
  have CR5:=Lib.hid (CR4.out.below b45.out)
  have TR5:=Lib.hid (TR4.out.below b45.out)
  have TF5:=Lib.hid (TF4.out.below b45.out)
  have k1':w5.cell? ⟨F,1,none⟩=some (.int .i64 (c:Nat)):=by rw [<-HCH.out]; exact C5.out.cell (j:=1) (by omega)
  have k6':w5.cell? ⟨F,6,none⟩=some (.int .u32 (fr.wo:Nat)):=C5.out.cell (j:=6) (by omega)
  clear hw5 b45 B4 H4 C4 CR4 TR4 TF4 k0 k1 k5 k6 d0 d1 p1 p2 p2n
  go_upto_region 7 with (first
    | ((with_reducible refine atList ?_); refine wpList_newT rfl (.alloc 51) rfl (some 8) rfl #[.int .i64 0,.bool false,.int .i64 0,.int .i64 0,.slice none 0 0,.int .i64 0,.int .u32 0] 51 (fun X=>.pointer (some ⟨X,0,none⟩)) 7 (aC (.slice none 0 0) Ch.av0) (arC_cells (.slice none 0 0) Ch.av0) (alloc_ar rfl) ?_; intro A w6 HA SA CA BA TA)
    | ((with_reducible refine atList ?_); refine wpList_setAllT rfl 51 (.tmp 8) (.tmp 41) rfl A 7 [.int .i64 (c:Nat),.bool false,.int .i64 0,.int .i64 0,.slice none 0 0,.int .i64 0,.int .u32 (fr.wo:Nat)] _ (aC (.slice none 0 0) ⟨c,false,0,0,0,fr.wo,[]⟩) CA.out rfl (arC_list (.slice none 0 0) ⟨c,false,0,0,0,fr.wo,[]⟩) rfl rfl info_ar (by simp [Value.oneCell']) ?_; intro w7 Cw7 Uw7 Sw7 Vw7))
  have DR7:=Lib.hid (show DR w5 D A (dY x) (.slice none 0 0) ⟨c,false,0,0,0,fr.wo,[]⟩ w7 from by
    have bz:Below w5.heap.size w5 w7:=But.under BA.out Uw7.out (by have:=HA.out; omega)
    exact ⟨H5.out.dt.lt,H5.out.dt.below bz,H5.out.c.below bz,by have:=HA.out; omega,Vw7.out _ TA.out,Cw7.out,World.ownsRow_nil _ _ _ _,KF.of_below bz (Nat.le_of_lt H5.out.dt.lt)⟩)
  have B7:=Lib.hid (show Below w5.heap.size w5 w7 from But.under BA.out Uw7.out (by have:=HA.out; omega))
  have k1:w7.cell? ⟨F,1,none⟩=some (.int .i64 (c:Nat)):=(B7.out.cell (p:=⟨F,1,none⟩) TF5.out.lt).trans k1'
  clear HA SA CA BA TA Cw7 Uw7 Sw7 Vw7 k1' k6'
  go_quiet (fail)
  rename Nat=>nq1
  obtain ⟨w8,hw8⟩:∃ z,w7.drewN nq1=z:=⟨_,rfl⟩
  have b78:=Lib.hid (show Below w7.heap.size w7 w8 by rw [<-hw8]; exact below_drewN (Below.refl _ _) _)
  rw [hw8]
  have D8':=Lib.hid (DR7.out.below b78.out)
  clear hw8 b78 DR7 B7 k1
  rw [HQ.out]
  have HQ4:=Lib.hid (show 4<=q by have:=HQ.out; omega)
  have HQ2:=Lib.hid (show q + 5<=44 by have:=HQ.out; have:=C8.out; omega)
  have D8:=Lib.hid (show DR w5 D A (dZ x q ⟨x.mb,x.ml,(x.ch c).bg,(x.ch c).fr,(x.ch c).la,decide ((x.ch c).pt ≠ []),bs (x.ch c).pt⟩) (.slice none 0 0) ⟨c,false,0,0,0,fr.wo,[]⟩ w8 from D8'.out.congr (fun j _=>by rw [<-HQ.out]; exact dZ_start x c j))
  have q0:w8.cell? ⟨D,q + 0,none⟩=some (.bool (x.ch c).bg):=by have:=D8'.out.dc.cell (j:=4 + c * 5 + 0) (by have:=C8.out; omega); rw [dY_in x (by omega),HQ.out] at this; exact this
  have q1:w8.cell? ⟨D,q + 1,none⟩=some (.string (x.ch c).fr):=by have:=D8'.out.dc.cell (j:=4 + c * 5 + 1) (by have:=C8.out; omega); rw [dY_in x (by omega),HQ.out] at this; exact this
  have q0':w8.cell? ⟨D,q,none⟩=some (.bool (x.ch c).bg):=q0
  have nFD:=Lib.hid (show F ≠ D from fun e=>by have:=FW.out; have:=HDD.out.dt.lt; omega)
  have nRD:=Lib.hid (show R ≠ D from fun e=>by have:=RW.out; have:=HDD.out.dt.lt; omega)
  clear D8'
  obtain ⟨bg,hbg⟩:∃ y,(x.ch c).bg=y:=⟨_,rfl⟩
  have HBG:=Lib.hid hbg
  rw [hbg] at q0 q0'
  have NE1:((x.ch c).fr == b)=false:=by
    show ((x.ch c).fr.data == b.data)=false
    rw [beq_eq_false_iff_ne]
    intro e
    exact hd (ByteArray.ext e)
  have NE2:((x.ch c).fr.toList == b.toList)=false:=by rw [<-beq_toListBytes,NE1]
  clear hbg hd
  go_upto_region 8 with fail
  go_cut [59] (fun a wx=>a=.bool false/\wx=w8)
  case first=>
    cases bg with
    | true=>
      go_wp2_with fail
      go_meet
      case rel=>exact ⟨rfl,rfl⟩
    | false=>
      go_wp2_with fail
      go_meet
      case rel=>exact ⟨rfl,rfl⟩
  case rest=>
    obtain ⟨rfl,hwx⟩:=hcut
    subst hwx
    rename World=>w8
    obtain ⟨mb,hmb⟩:∃ y,x.mb=y:=⟨_,rfl⟩
    have HMB:=Lib.hid hmb
    obtain ⟨mi,hmi⟩:∃ y,Ch.miss x.mb x.ml ma=y:=⟨_,rfl⟩
    have HMI:=Lib.hid hmi
    obtain ⟨lo,hlo⟩:∃ y,Ch.miss (x.ch c).bg (x.ch c).la ct=y:=⟨_,rfl⟩
    have HLO:=Lib.hid hlo
    have LLO:=Lib.hid (show lo < 256 by rw [<-hlo]; exact Ch.miss_lt _ _ _)
    have m65:w8.cell? ⟨D,2,none⟩=some (.bool mb):=by have:=D8.out.dc.cell (j:=2) (by omega); rw [this,dZ_at_mb x HQ4.out,<-hmb]
    clear hmb hmi hlo q0 q1 q0' NE1 NE2
    go_upto_if 65 with fail
    go_cut [9] (fun a wx=>a=.pointer (some ⟨D,q,none⟩)/\DR w5 D A (dZ x q ⟨x.mb,x.ml,(x.ch c).bg,(x.ch c).fr,(x.ch c).la,decide ((x.ch c).pt ≠ []),bs (x.ch c).pt⟩) (.slice none 0 0) ⟨c,false,0,mi,0,fr.wo,[]⟩ wx)
    case first=>
      cases mb with
      | false=>
        obtain rfl:0=mi:=by rw [<-HMI.out,HMB.out]; rfl
        go_wp2_with fail
        go_meet
        case rel=>exact ⟨rfl,D8.out⟩
      | true=>
        have kL:w8.cell? ⟨D,3,none⟩=some (.int .i64 (x.ml:Nat)):=by have:=D8.out.dc.cell (j:=3) (by omega); rw [this,dZ_at_ml x HQ4.out]
        have kC:w8.cell? ⟨F,2,none⟩=some (.int .i64 (ma:Nat)):=by
          have:=(C5.out.of_block (D8.out.fr.rest F TF5.out.lt nFD.out)).cell (j:=2) (by omega)
          rw [this]
          rw [<-HMA.out]; rfl
        go_upto_region 12 with fail
        refine rdRegion12 D q F A ma x.ml mi D8.out.dt.lt (Nat.lt_of_lt_of_le TF5.out.lt D8.out.fr.below.size) kL kC N8.out.1 OX.out.ml (by rw [<-HMI.out,HMB.out]; unfold Ch.miss; rw [if_pos rfl]) (by kernel_rfl) rfl rfl rfl rfl rfl rfl rfl rfl rfl rfl rfl rfl rfl rfl rfl ?_
        intro w9 b9
        have D9:=Lib.hid (D8.out.below b9)
        clear b9 kL kC
        simp only [Act.put,List.setIfInBounds_toArray,List.set_cons_succ,List.set_cons_zero,List.drop_succ_cons,List.drop_zero]
        go_wp2_with ((with_reducible refine atList ?_); refine wpList_setT rfl (.store 3 (.tmp 76) (.tmp 75)) rfl A 3 7 (.int .i64 (mi:Nat)) _ (aC (.slice none 0 0) ⟨c,false,0,mi,0,fr.wo,[]⟩) D9.out.ac (by omega) (fun j hj=>by match j,hj with | 0,_=>rfl | 1,_=>rfl | 2,_=>rfl | 3,_=>rfl | 4,_=>rfl | 5,_=>rfl | 6,_=>rfl) (store_int rfl rfl rfl (D9.out.ac.cell (j:=3) (by omega)) (D9.out.ac.frozen (j:=3) (by omega))) ?_; intro w10 Cw10 Uw10 Sw10 Vw10; have Dw10:=Lib.hid (D9.out.setA (a':=⟨c,false,0,mi,0,fr.wo,[]⟩) Uw10.out Cw10.out (Vw10.out _ D9.out.at') (World.ownsRow_nil _ _ _ _)); clear Cw10 Uw10 Sw10 Vw10)
        go_meet
        case rel=>exact ⟨rfl,Dw10.out⟩
    case rest=>
      obtain ⟨rfl,hD⟩:=hcut
      rename World=>w10
      have D10:=Lib.hid hD
      have m80:w10.cell? ⟨D,q,none⟩=some (.bool bg):=by have:=D10.out.dc.cell (j:=q) (by have:=HQ2.out; omega); rw [this]; rw [<-HBG.out]; exact congrArg some (dZ_at_hs x HQ4.out _)
      clear hD D8 m65
      go_upto_if 80 with fail
      go_cut [9] (fun a wx=>a=.pointer (some ⟨D,q,none⟩)/\DR w5 D A (dZ x q ⟨x.mb,x.ml,(x.ch c).bg,(x.ch c).fr,(x.ch c).la,decide ((x.ch c).pt ≠ []),bs (x.ch c).pt⟩) (.slice none 0 0) ⟨c,false,lo,mi,0,fr.wo,[]⟩ wx)
      case first=>
        cases bg with
        | false=>
          obtain rfl:0=lo:=by rw [<-HLO.out,HBG.out]; rfl
          go_wp2_with fail
          go_meet
          case rel=>exact ⟨rfl,D10.out⟩
        | true=>
          have kL:w10.cell? ⟨D,q + 2,none⟩=some (.int .i64 ((x.ch c).la:Nat)):=by have:=D10.out.dc.cell (j:=q + 2) (by have:=HQ2.out; omega); rw [this,dZ_at_la x HQ4.out]
          have kC:w10.cell? ⟨F,3,none⟩=some (.int .i64 (ct:Nat)):=by
            have:=(C5.out.of_block (D10.out.fr.rest F TF5.out.lt nFD.out)).cell (j:=3) (by omega)
            rw [this]
            rw [<-HCT.out]; rfl
          go_upto_region 14 with fail
          refine rdRegion14 D q F A ct (x.ch c).la lo D10.out.dt.lt (Nat.lt_of_lt_of_le TF5.out.lt D10.out.fr.below.size) kL kC N8.out.2 (OX.out.la c C8.out) (by rw [<-HLO.out,HBG.out]; unfold Ch.miss; rw [if_pos rfl]) (by kernel_rfl) rfl rfl rfl rfl rfl rfl rfl rfl rfl rfl rfl rfl rfl rfl rfl ?_
          intro w9 b9
          have D9:=Lib.hid (D10.out.below b9)
          clear b9 kL kC
          simp only [Act.put,List.setIfInBounds_toArray,List.set_cons_succ,List.set_cons_zero,List.drop_succ_cons,List.drop_zero]
          go_wp2_with ((with_reducible refine atList ?_); refine wpList_setT rfl (.store 3 (.tmp 91) (.tmp 90)) rfl A 2 7 (.int .i64 (lo:Nat)) _ (aC (.slice none 0 0) ⟨c,false,lo,mi,0,fr.wo,[]⟩) D9.out.ac (by omega) (fun j hj=>by match j,hj with | 0,_=>rfl | 1,_=>rfl | 2,_=>rfl | 3,_=>rfl | 4,_=>rfl | 5,_=>rfl | 6,_=>rfl) (store_int rfl rfl rfl (D9.out.ac.cell (j:=2) (by omega)) (D9.out.ac.frozen (j:=2) (by omega))) ?_; intro w11 Cw11 Uw11 Sw11 Vw11; have Dw11:=Lib.hid (D9.out.setA (a':=⟨c,false,lo,mi,0,fr.wo,[]⟩) Uw11.out Cw11.out (Vw11.out _ D9.out.at') (World.ownsRow_nil _ _ _ _)); clear Cw11 Uw11 Sw11 Vw11)
          go_meet
          case rel=>exact ⟨rfl,Dw11.out⟩
      case rest=>
        obtain ⟨rfl,hD⟩:=hcut
        rename World=>w11
        have D11:=Lib.hid hD
        clear hD D10 m80
        go_upto_region 15 with fail
        refine rdRegion15 D F ma (fun e w'=>DR w5 D A (dZ x q (cond e ({ (⟨x.mb,x.ml,(x.ch c).bg,(x.ch c).fr,(x.ch c).la,decide ((x.ch c).pt ≠ []),bs (x.ch c).pt⟩:Zs) with mb:=true }) ⟨x.mb,x.ml,(x.ch c).bg,(x.ch c).fr,(x.ch c).la,decide ((x.ch c).pt ≠ []),bs (x.ch c).pt⟩)) (.slice none 0 0) ⟨c,false,lo,mi,0,fr.wo,[]⟩ w') (D11.out.below (Below.refl _ _).drew) (fun e w' h=>by
          have:=(C5.out.of_block (h.fr.rest F TF5.out.lt nFD.out)).cell (j:=2) (by omega)
          rw [this,<-HMA.out]
          rfl) (fun w' h=>by
      have u:But D w' (w'.setCell ⟨D,2,none⟩ (.bool true)):=(But.refl D w').setCell (2) _
      refine ⟨_,h.dc.cell (by have:=HQ2.out; omega),h.dc.frozen (by have:=HQ2.out; omega),h.setD u ((h.dc.set (2) (.bool true)).congr (dZ_mb x HQ4.out (⟨x.mb,x.ml,(x.ch c).bg,(x.ch c).fr,(x.ch c).la,decide ((x.ch c).pt ≠ []),bs (x.ch c).pt⟩) _)) ?_⟩
      obtain ⟨cur,fe,hh⟩:=h.dt
      obtain ⟨c',hc'⟩:=cells_setCell (i:=2) (u:=.bool true) hh
      exact ⟨c',fe,hc'⟩) (by kernel_rfl) rfl rfl rfl rfl rfl rfl rfl rfl rfl rfl rfl rfl ?_
        intro w12 h12
        have D12:=Lib.hid (show DR w5 D A (dZ x q { (⟨x.mb,x.ml,(x.ch c).bg,(x.ch c).fr,(x.ch c).la,decide ((x.ch c).pt ≠ []),bs (x.ch c).pt⟩:Zs) with mb:=true }) (.slice none 0 0) ⟨c,false,lo,mi,0,fr.wo,[]⟩ w12 from h12)
        clear h12
        simp only [Act.put,List.setIfInBounds_toArray,List.set_cons_succ,List.set_cons_zero,List.drop_succ_cons,List.drop_zero]
        go_upto_region 16 with ((with_reducible refine atList ?_); refine wpList_setT rfl (.store 3 (.tmp 99) (.tmp 95)) rfl D (3) 44 (.int .i64 (ma:Nat)) _ (dZ x q { ({ (⟨x.mb,x.ml,(x.ch c).bg,(x.ch c).fr,(x.ch c).la,decide ((x.ch c).pt ≠ []),bs (x.ch c).pt⟩:Zs) with mb:=true }:Zs) with ml:=ma }) D12.out.dc (by have:=HQ2.out; omega) (dZ_ml x HQ4.out ({ (⟨x.mb,x.ml,(x.ch c).bg,(x.ch c).fr,(x.ch c).la,decide ((x.ch c).pt ≠ []),bs (x.ch c).pt⟩:Zs) with mb:=true }) _) (store_int rfl rfl rfl (D12.out.dc.cell (by have:=HQ2.out; omega)) (D12.out.dc.frozen (by have:=HQ2.out; omega))) ?_; intro w13 Cw13 Uw13 Sw13 Vw13; have Dw13:=Lib.hid (D12.out.setD Uw13.out Cw13.out (Vw13.out _ D12.out.dt)); clear Cw13 Uw13 Sw13 Vw13)
        obtain ⟨Y,hY⟩:∃ y,({ { (⟨x.mb,x.ml,(x.ch c).bg,(x.ch c).fr,(x.ch c).la,decide ((x.ch c).pt ≠ []),bs (x.ch c).pt⟩:Zs) with mb:=true } with ml:=ma }:Zs)=y:=⟨_,rfl⟩
        have HY:=Lib.hid hY
        rw [hY] at Dw13
        clear hY D12
        refine rdRegion16 D q F ct b (fun e f w'=>DR w5 D A (dZ x q { (Y:Zs) with hs:=cond e true Y.hs,fr:=cond f b Y.fr }) (.slice none 0 0) ⟨c,false,lo,mi,0,fr.wo,[]⟩ w') (Dw13.out.below (Below.refl _ _).drew) (fun e f w' h=>by
          have:=(C5.out.of_block (h.fr.rest F TF5.out.lt nFD.out)).cell (j:=3) (by omega)
          rw [this,<-HCT.out]
          rfl) (fun f w' h=>by
      have u:But D w' (w'.setCell ⟨D,q,none⟩ (.bool true)):=(But.refl D w').setCell (q) _
      refine ⟨_,h.dc.cell (by have:=HQ2.out; omega),h.dc.frozen (by have:=HQ2.out; omega),h.setD u ((h.dc.set (q) (.bool true)).congr (dZ_hs x HQ4.out ({ (Y:Zs) with fr:=cond f b Y.fr }) _)) ?_⟩
      obtain ⟨cur,fe,hh⟩:=h.dt
      obtain ⟨c',hc'⟩:=cells_setCell (i:=q) (u:=.bool true) hh
      exact ⟨c',fe,hc'⟩) (fun e w' h=>by
      have u:But D w' (w'.setCell ⟨D,q + 1,none⟩ (.string b)):=(But.refl D w').setCell (q + 1) _
      refine ⟨_,h.dc.cell (by have:=HQ2.out; omega),h.dc.frozen (by have:=HQ2.out; omega),h.setD u ((h.dc.set (q + 1) (.string b)).congr (dZ_fr x HQ4.out ({ (Y:Zs) with hs:=cond e true Y.hs }) _)) ?_⟩
      obtain ⟨cur,fe,hh⟩:=h.dt
      obtain ⟨c',hc'⟩:=cells_setCell (i:=q + 1) (u:=.string b) hh
      exact ⟨c',fe,hc'⟩) (by kernel_rfl) rfl rfl rfl rfl rfl rfl rfl rfl rfl rfl rfl rfl rfl rfl rfl rfl rfl rfl ?_
        intro w14 h14
        have D14:=Lib.hid (show DR w5 D A (dZ x q { (Y:Zs) with hs:=true,fr:=b }) (.slice none 0 0) ⟨c,false,lo,mi,0,fr.wo,[]⟩ w14 from h14)
        clear h14
        simp only [Act.put,List.setIfInBounds_toArray,List.set_cons_succ,List.set_cons_zero,List.drop_succ_cons,List.drop_zero]
        go_upto_region 17 with ((with_reducible refine atList ?_); refine wpList_setT rfl (.store 3 (.tmp 111) (.tmp 105)) rfl D (q + 2) 44 (.int .i64 (ct:Nat)) _ (dZ x q { ({ (Y:Zs) with hs:=true,fr:=b }:Zs) with la:=ct }) D14.out.dc (by have:=HQ2.out; omega) (dZ_la x HQ4.out ({ (Y:Zs) with hs:=true,fr:=b }) _) (store_int rfl rfl rfl (D14.out.dc.cell (by have:=HQ2.out; omega)) (D14.out.dc.frozen (by have:=HQ2.out; omega))) ?_; intro w15 Cw15 Uw15 Sw15 Vw15; have Dw15:=Lib.hid (D14.out.setD Uw15.out Cw15.out (Vw15.out _ D14.out.dt)); clear Cw15 Uw15 Sw15 Vw15)
        obtain ⟨Z,hZ⟩:∃ y,({ ({ (Y:Zs) with hs:=true,fr:=b }:Zs) with la:=ct }:Zs)=y:=⟨_,rfl⟩
        have HZ:=Lib.hid (show Z=⟨true,ma,true,b,ct,decide ((x.ch c).pt ≠ []),bs (x.ch c).pt⟩ by rw [<-hZ,<-HY.out])
        rw [hZ] at Dw15
        clear hZ D14 Dw13 HY
        obtain ⟨pt,hpt⟩:∃ y,(x.ch c).pt=y:=⟨_,rfl⟩
        have HPT:=Lib.hid hpt
        have LPT:=Lib.hid (show pt.length<=1030 by rw [<-hpt]; exact OX.out.pt c C8.out)
        rw [hpt] at HZ
        obtain ⟨lb,hlb⟩:∃ y,decide (lo ≠ 0/\pt ≠ [])=y:=⟨_,rfl⟩
        have HLB:=Lib.hid hlb
        have n2:w15.cell? ⟨A,2,none⟩=some (.int .i64 (lo:Nat)):=Dw15.out.ac.cell (j:=2) (by omega)
        have n3:w15.cell? ⟨D,q + 3,none⟩=some (.bool (decide (pt ≠ []))):=by have:=Dw15.out.dc.cell (j:=q + 3) (by have:=HQ2.out; omega); rw [this,dZ_at_bn x HQ4.out,HZ.out]
        clear hpt hlb
        simp only [Act.put]
        go_cut [120] (fun a wx=>a=.bool lb/\wx=w15)
        case first=>
          by_cases g:lo=0
          · have g1:((lo:Int) != 0)=false:=by simp; omega
            have g1n:(lo != 0)=false:=by simp; omega
            obtain rfl:false=lb:=by rw [<-HLB.out]; exact (decide_eq_false (fun h=>h.1 g)).symm
            clear g
            go_wp2_with fail
            go_meet
            case rel=>exact ⟨rfl,rfl⟩
          have g1:((lo:Int) != 0)=true:=by simp; omega
          have g1n:(lo != 0)=true:=by simp; omega
          have g2:decide (pt ≠ [])=lb:=by rw [<-HLB.out]; exact decide_eq_decide.2 ⟨fun h=>⟨g,h⟩,fun h=>h.2⟩
          rw [g2] at n3
          clear g g2
          go_wp2_with fail
          go_meet
          case rel=>exact ⟨rfl,rfl⟩
        case rest=>
          obtain ⟨rfl,hwx⟩:=hcut
          subst hwx
          rename World=>w15
          clear n2 n3
          go_upto_if 120 with fail
          go_cut [9] (fun a wx=>a=.pointer (some ⟨D,q,none⟩)/\∃ (pt1:List UInt8) (br1:Nat),DR w5 D A (dZ x q ⟨true,ma,true,b,ct,decide (pt1 ≠ []),bs pt1⟩) (.slice none 0 0) ⟨c,false,lo,mi,br1,fr.wo,[]⟩ wx/\pt1.length<=1030/\br1<=1/\Ch.tk pt lo fr.fi.toNat fr.da.data.toList=((Ch.tk pt1 0 fr.fi.toNat fr.da.data.toList).1,(Ch.tk pt1 0 fr.fi.toNat fr.da.data.toList).2.1,br1 + (Ch.tk pt1 0 fr.fi.toNat fr.da.data.toList).2.2))
          case first=>
            cases lb with
            | false=>
              have TK:=Lib.hid (tk_kept (fi:=fr.fi.toNat) (d:=fr.da.data.toList) (of_decide_eq_false HLB.out))
              go_wp2_with fail
              go_meet
              case rel=>exact ⟨rfl,pt,0,by rw [<-HZ.out]; exact Dw15.out,LPT.out,by omega,TK.out⟩
            | true=>
              have TK:=Lib.hid (tk_gone (fi:=fr.fi.toNat) (d:=fr.da.data.toList) (of_decide_eq_true HLB.out))
              have n5:w15.cell? ⟨A,5,none⟩=some (.int .i64 0):=Dw15.out.ac.cell (j:=5) (by omega)
              rw [HZ.out] at Dw15
              go_upto_region 19 with (first
                | ((with_reducible refine atList ?_); refine wpList_setT rfl (.store 4 (.tmp 124) (.const (.bool false))) rfl D (q + 3) 44 (.bool false) _ (dZ x q { (⟨true,ma,true,b,ct,decide (pt ≠ []),bs pt⟩:Zs) with bn:=false }) Dw15.out.dc (by have:=HQ2.out; omega) (dZ_bn x HQ4.out (⟨true,ma,true,b,ct,decide (pt ≠ []),bs pt⟩) _) (store_bool rfl rfl rfl (Dw15.out.dc.cell (by have:=HQ2.out; omega)) (Dw15.out.dc.frozen (by have:=HQ2.out; omega))) ?_; intro w16 Cw16 Uw16 Sw16 Vw16; have Dw16:=Lib.hid (Dw15.out.setD Uw16.out Cw16.out (Vw16.out _ Dw15.out.dt)); clear Cw16 Uw16 Sw16 Vw16)
                | ((with_reducible refine atList ?_); refine wpList_setT rfl (.store 9 (.tmp 126) (.const (.string ⟨#[]⟩))) rfl D (q + 4) 44 (.string ⟨#[]⟩) _ (dZ x q { ({ (⟨true,ma,true,b,ct,decide (pt ≠ []),bs pt⟩:Zs) with bn:=false }:Zs) with pt:=⟨#[]⟩ }) Dw16.out.dc (by have:=HQ2.out; omega) (dZ_pt x HQ4.out ({ (⟨true,ma,true,b,ct,decide (pt ≠ []),bs pt⟩:Zs) with bn:=false }) _) (store_str rfl rfl rfl (Dw16.out.dc.cell (by have:=HQ2.out; omega)) (Dw16.out.dc.frozen (by have:=HQ2.out; omega))) ?_; intro w17 Cw17 Uw17 Sw17 Vw17; have Dw17:=Lib.hid (Dw16.out.setD Uw17.out Cw17.out (Vw17.out _ Dw16.out.dt)); clear Cw17 Uw17 Sw17 Vw17))
              have n5':w17.cell? ⟨A,5,none⟩=some (.int .i64 0):=Dw17.out.ac.cell (j:=5) (by omega)
              clear n5
              go_wp2_with ((with_reducible refine atList ?_); refine wpList_setT rfl (.store 3 (.tmp 130) (.tmp 129)) rfl A 5 7 (.int .i64 (1:Nat)) _ (aC (.slice none 0 0) ⟨c,false,lo,mi,1,fr.wo,[]⟩) Dw17.out.ac (by omega) (fun j hj=>by match j,hj with | 0,_=>rfl | 1,_=>rfl | 2,_=>rfl | 3,_=>rfl | 4,_=>rfl | 5,_=>rfl | 6,_=>rfl) (store_int rfl rfl rfl (Dw17.out.ac.cell (j:=5) (by omega)) (Dw17.out.ac.frozen (j:=5) (by omega))) ?_; intro w18 Cw18 Uw18 Sw18 Vw18; have Dw18:=Lib.hid (Dw17.out.setA (a':=⟨c,false,lo,mi,1,fr.wo,[]⟩) Uw18.out Cw18.out (Vw18.out _ Dw17.out.at') (World.ownsRow_nil _ _ _ _)); clear Cw18 Uw18 Sw18 Vw18)
              go_meet
              case rel=>exact ⟨rfl,[],1,Dw18.out,Nat.zero_le _,by omega,TK.out⟩
          case rest=>
            obtain ⟨rfl,pt1,br1,hD,hl,hb1,ht⟩:=hcut
            rename World=>w16
            have D16:=Lib.hid hD
            have LP1:=Lib.hid hl
            have LB1:=Lib.hid hb1
            have TK:=Lib.hid ht
            clear hD hl hb1 ht Dw15
            obtain ⟨fi,hfi⟩:∃ y:Nat,fr.fi=y:=⟨fr.fi.toNat,by have h1:=FOK.out.2; have h2:=FOK.out.1.2.2.2.2.2; omega⟩
            have HFI:=Lib.hid hfi
            have LFI:=Lib.hid (show fi<=2047 by have h1:=FOK.out.2; have h2:=FOK.out.1.2.2.2.2.2; omega)
            rw [show fr.fi.toNat=fi by rw [hfi]; rfl] at TK
            have f4:w16.cell? ⟨F,4,none⟩=some (.int .i64 (fi:Nat)):=by
              have:=(C5.out.of_block (D16.out.fr.rest F TF5.out.lt nFD.out)).cell (j:=4) (by omega)
              rw [this,<-hfi]
              rfl
            clear hfi
            by_cases g:fi=2046
            · have g1:((fi:Int) != 2046)=false:=by simp; omega
              have g1n:(fi != 2046)=false:=by simp; omega
              have AE:=Lib.hid (show x.acc b fr=(⟨c,false,lo,mi,br1,fr.wo,[]⟩,{ x with mb:=true,ml:=ma,ch:=Ch.upd x.ch c ⟨b,true,ct,pt1⟩ }) by
                unfold Ch.Dx.acc
                simp only
                rw [show fr.ch.toNat=c by rw [HCH.out]; rfl,show fr.ct.toNat=ct by rw [HCT.out]; rfl,show fr.ma.toNat=ma by rw [HMA.out]; rfl,HLO.out,HMI.out,HPT.out,show fr.fi.toNat=fi by rw [HFI.out]; rfl,TK.out,g,tk_idle]
                rfl)
              clear g TK
              go_upto_if 133 with fail
              have kR:=D16.out.fr.rest R TR5.out.lt nRD.out
              have CRz:=Lib.hid (CR5.out.of_block kR)
              have TRz:=Lib.hid (TR5.out.of_block kR)
              clear kR
              go_wp2_with (first
                | ((with_reducible refine atList ?_); refine wpList_getAll rfl 51 (.tmp 8) rfl A 7 [.int .i64 (c:Nat),.bool false,.int .i64 (lo:Nat),.int .i64 (mi:Nat),.slice none 0 0,.int .i64 ((br1:Nat)),.int .u32 (fr.wo:Nat)] (aC (.slice none 0 0) ⟨c,false,lo,mi,br1,fr.wo,[]⟩) _ D16.out.ac rfl (arC_list (.slice none 0 0) ⟨c,false,lo,mi,br1,fr.wo,[]⟩) rfl Tryz.underlying51 rfl info_ar ?_)
                | ((with_reducible refine atList ?_); refine wpList_setAllT rfl 51 (.tmp 4) (.tmp 138) rfl R 7 [.int .i64 (c:Nat),.bool false,.int .i64 (lo:Nat),.int .i64 (mi:Nat),.slice none 0 0,.int .i64 ((br1:Nat)),.int .u32 (fr.wo:Nat)] _ (aC (.slice none 0 0) ⟨c,false,lo,mi,br1,fr.wo,[]⟩) CRz.out rfl (arC_list (.slice none 0 0) ⟨c,false,lo,mi,br1,fr.wo,[]⟩) rfl rfl info_ar (by simp [Value.oneCell']) ?_; intro w20 Cw20 Uw20 Sw20 Vw20; refine Hid.out ?_))
              refine Lib.hid ?_
              iterate 7 go_step
              have RA:=Cw20.out.rangeAll [.int .i64 (c:Nat),.bool false,.int .i64 (lo:Nat),.int .i64 (mi:Nat),.slice none 0 0,.int .i64 ((br1:Nat)),.int .u32 (fr.wo:Nat)] rfl (arC_list (.slice none 0 0) ⟨c,false,lo,mi,br1,fr.wo,[]⟩)
              have RR:=fun tmps hp=>results_cell_t1 (P:=Tryz.prog) Tryz.results23 tmps w20 R [.int .i64 (c:Nat),.bool false,.int .i64 (lo:Nat),.int .i64 (mi:Nat),.slice none 0 0,.int .i64 ((br1:Nat)),.int .u32 (fr.wo:Nat)] _ hp RA Tryz.underlying51 rfl info_ar
              refine bodyPost_ret (RR _ rfl) rfl ?_
              have DE:DR w5 D A (dY { x with mb:=true,ml:=ma,ch:=Ch.upd x.ch c ⟨b,true,ct,pt1⟩ }) (.slice none 0 0) ⟨c,false,lo,mi,br1,fr.wo,[]⟩ w16:=D16.out.congr (fun j _=>by rw [<-HQ.out]; exact dZ_end x c b ma ct pt1 j)
              have Zf:=fq_fin HDD.out hn0 B5.out DE Uw20.out RW.out TRz.out
              unfold Fq
              rw [FE.out,AE.out]
              exact ⟨_,rfl,Zf.1,Zf.2.1,Zf.2.2⟩
            have g1:((fi:Int) != 2046)=true:=by simp; omega
            have g1n:(fi != 2046)=true:=by simp; omega
            have RF:=Lib.hid (rfield_any D16.out HQ4.out HQ2.out pt1 rfl rfl LP1.out fr fi HFI.out LFI.out g (by rw [HNN.out]; exact OX.out.n2) (Nat.zero_le _) (by have:=LB1.out; show br1<=1000; omega))
            obtain ⟨r,hr⟩:∃ y,Ch.tk pt1 0 fi fr.da.data.toList=y:=⟨_,rfl⟩
            rw [hr] at RF TK
            have AE:=Lib.hid (show x.acc b fr=(⟨c,false,lo,mi,br1 + r.2.2,fr.wo,r.2.1⟩,{ x with mb:=true,ml:=ma,ch:=Ch.upd x.ch c ⟨b,true,ct,r.1⟩ }) by
              unfold Ch.Dx.acc
              simp only
              rw [show fr.ch.toNat=c by rw [HCH.out]; rfl,show fr.ct.toNat=ct by rw [HCT.out]; rfl,show fr.ma.toNat=ma by rw [HMA.out]; rfl,HLO.out,HMI.out,HPT.out,show fr.fi.toNat=fi by rw [HFI.out]; rfl,TK.out])
            have CF16:=Lib.hid (C5.out.of_block (D16.out.fr.rest F TF5.out.lt nFD.out))
            clear g TK hr
            unfold tmVal at RF
            go_wp2_with ((with_reducible refine atList ?_); refine wpList_getAll rfl 100 (.tmp 6) rfl F 7 [.int .i64 fr.cr,.int .i64 fr.ch,.int .i64 fr.ma,.int .i64 fr.ct,.int .i64 fr.fi,.string fr.da,.int .u32 (fr.wo:Nat)] (tmCel fr) _ CF16.out rfl (tm_list fr) rfl Tryz.underlying100 rfl tm_info ?_)
            (with_reducible refine RF.out.mono ?_)
            rintro e w17 ⟨⟨u17,rfl⟩,v17,hD17⟩
            have D17:=Lib.hid (show DR w5 D A (dZ x q ⟨true,ma,true,b,ct,decide (r.1 ≠ []),bs r.1⟩) v17 ⟨c,false,lo,mi,br1 + r.2.2,fr.wo,r.2.1⟩ w17 from by have:=hD17; rwa [List.nil_append] at this)
            obtain ⟨sa,sc,hv⟩:=own_is hD17.row
            rw [List.nil_append] at hv
            clear hD17 RF
            subst hv
            have kR:=D17.out.fr.rest R TR5.out.lt nRD.out
            have CRz:=Lib.hid (CR5.out.of_block kR)
            have TRz:=Lib.hid (TR5.out.of_block kR)
            clear kR
            go_wp2_with (first
              | ((with_reducible refine atList ?_); refine wpList_getAll rfl 51 (.tmp 8) rfl A 7 [.int .i64 (c:Nat),.bool false,.int .i64 (lo:Nat),.int .i64 (mi:Nat),.slice sa r.2.1.length sc,.int .i64 ((br1 + r.2.2:Nat)),.int .u32 (fr.wo:Nat)] (aC (.slice sa r.2.1.length sc) ⟨c,false,lo,mi,br1 + r.2.2,fr.wo,r.2.1⟩) _ D17.out.ac rfl (arC_list (.slice sa r.2.1.length sc) ⟨c,false,lo,mi,br1 + r.2.2,fr.wo,r.2.1⟩) rfl Tryz.underlying51 rfl info_ar ?_)
              | ((with_reducible refine atList ?_); refine wpList_setAllT rfl 51 (.tmp 4) (.tmp 138) rfl R 7 [.int .i64 (c:Nat),.bool false,.int .i64 (lo:Nat),.int .i64 (mi:Nat),.slice sa r.2.1.length sc,.int .i64 ((br1 + r.2.2:Nat)),.int .u32 (fr.wo:Nat)] _ (aC (.slice sa r.2.1.length sc) ⟨c,false,lo,mi,br1 + r.2.2,fr.wo,r.2.1⟩) CRz.out rfl (arC_list (.slice sa r.2.1.length sc) ⟨c,false,lo,mi,br1 + r.2.2,fr.wo,r.2.1⟩) rfl rfl info_ar (by simp [Value.oneCell']) ?_; intro w20 Cw20 Uw20 Sw20 Vw20; refine Hid.out ?_))
            refine Lib.hid ?_
            iterate 7 go_step
            have RA:=Cw20.out.rangeAll [.int .i64 (c:Nat),.bool false,.int .i64 (lo:Nat),.int .i64 (mi:Nat),.slice sa r.2.1.length sc,.int .i64 ((br1 + r.2.2:Nat)),.int .u32 (fr.wo:Nat)] rfl (arC_list (.slice sa r.2.1.length sc) ⟨c,false,lo,mi,br1 + r.2.2,fr.wo,r.2.1⟩)
            have RR:=fun tmps hp=>results_cell_t1 (P:=Tryz.prog) Tryz.results23 tmps w20 R [.int .i64 (c:Nat),.bool false,.int .i64 (lo:Nat),.int .i64 (mi:Nat),.slice sa r.2.1.length sc,.int .i64 ((br1 + r.2.2:Nat)),.int .u32 (fr.wo:Nat)] _ hp RA Tryz.underlying51 rfl info_ar
            refine bodyPost_ret (RR _ rfl) rfl ?_
            have DE:DR w5 D A (dY { x with mb:=true,ml:=ma,ch:=Ch.upd x.ch c ⟨b,true,ct,r.1⟩ }) (.slice sa r.2.1.length sc) ⟨c,false,lo,mi,br1 + r.2.2,fr.wo,r.2.1⟩ w17:=D17.out.congr (fun j _=>by rw [<-HQ.out]; exact dZ_end x c b ma ct r.1 j)
            have Zf:=fq_fin HDD.out hn0 B5.out DE Uw20.out RW.out TRz.out
            unfold Fq
            rw [FE.out,AE.out]
            exact ⟨_,rfl,Zf.1,Zf.2.1,Zf.2.2⟩
end Go.Proofs.YtchfkncbemjepaaGreat
