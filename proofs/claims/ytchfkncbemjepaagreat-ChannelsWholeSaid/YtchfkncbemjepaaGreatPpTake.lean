/- PpTake -/
import Derived.Test.YtchfkncbemjepaaGreatPpParsed
import Derived.Test.YtchfkncbemjepaaGreatPpHead
import Derived.Test.YtchfkncbemjepaaGreatPkGet
import Derived.Test.YtchfkncbemjepaaGreatBlkRepeat
import Derived.Test.YtchfkncbemjepaaGreatPkClone
set_option linter.unusedVariables false
set_option maxRecDepth 100000
set_option maxHeartbeats 8000000
/- Layer 9, the landed program: Clone, Take, Get, Idle. -/
namespace Go.Proofs.YtchfkncbemjepaaGreat
open Go.RowKit Go.Shelf

theorem clone_any (s:ByteArray) (hs:s.size<=1000000) (w:World):Calls Tryz.prog 53 #[.string s] w fun e w'=>e=.returned (.string s)/\Below w.heap.size w w':=by
  have CL:=Lib.hid (fun w=>Tryz.stringslite_Clone s w (by omega))
  clear hs
  go_enter Tryz.func53,Tryz.ntmps53
  go_wp2_with fail
  (with_reducible refine (CL.out _).mono ?_)
  rintro e w1 ⟨rfl,h1⟩
  have B1:=Lib.hid h1
  clear h1
  go_wp2_with fail
  go_ret
  exact ⟨rfl,B1.out⟩
theorem repeat_zero (k:Nat):Lib.repeatL [0] k=List.replicate k 0:=by
  induction k with
  | zero=>rfl
  | succ k ih=>rw [Lib.repeatL,ih]; rfl
theorem repeat_any (k:Nat) (hk:k<=1000000) (w:World):Calls Tryz.prog 43 #[.string ⟨#[0]⟩,.int .i64 (k:Nat)] w fun e w'=>e=.returned (.string (bs (List.replicate k 0)))/\Below w.heap.size w w':=by
  have h:=Tryz.strings_Repeat ⟨#[0]⟩ k w (by omega) (by show 1 * k<=_; omega)
  rw [show ((⟨#[0]⟩:ByteArray).data.toList)=[0] from rfl,repeat_zero] at h
  exact h
theorem bs_list (l:List UInt8):(bs l).data.toList=l:=by simp [bs]
theorem pad_str (b:ByteArray) (m:Nat) (hm:min b.size 6=m):b.extract 0 m ++ bs (List.replicate (6 - m) 0)=bs (Pk.pad b.data.toList):=by
  have e:b.extract 0 m=bs (b.data.toList.take 6):=by
    apply ByteArray.ext
    apply Array.toList_inj.1
    simp [bs,ByteArray.data_extract]
    omega
  rw [e,bs_app]
  unfold Pk.pad
  rw [ls]
  congr 3
  omega
theorem pk_set_data (p:Pkt) (d:ByteArray):∀ j,j < 5->(if j=4 then Value.string d else pkCel p j)=pkCel { p with da:=d } j:=fun j hj=>by
  match j,hj with
  | 0,_=>rfl
  | 1,_=>rfl
  | 2,_=>rfl
  | 3,_=>rfl
  | 4,_=>rfl
theorem ptake_any (b:ByteArray) (hs:b.size<=1000000) (w:World):Calls Tryz.prog 120 #[.string b] w fun e w'=>e=.returned (tkV (Pk.take b.data.toList))/\Below w.heap.size w w':=by
  obtain ⟨l,hl⟩:∃ l,b.data.toList=l:=⟨_,rfl⟩
  obtain ⟨n,hn⟩:∃ n,b.size=n:=⟨_,rfl⟩
  obtain ⟨m,hm⟩:∃ m,min n 6=m:=⟨_,rfl⟩
  obtain ⟨k,hk⟩:∃ k,6 - m=k:=⟨_,rfl⟩
  have LN:l.length=n:=by rw [<-hl,ls,hn]
  have PS:=pad_str b m (by rw [hn]; exact hm)
  rw [hl,hk] at PS
  have PA:=Lib.hid (fun w=>parsed_any (bs (Pk.pad l)) (by rw [bs_size,Pk.pad_len]) w)
  rw [bs_list] at PA
  have RP:=Lib.hid (fun w=>repeat_any k (by omega) w)
  have CL:=Lib.hid (fun (s:ByteArray) (h:s.size<=1000000) w=>clone_any s h w)
  have TK:=Lib.hid (show Pk.take l=if Pk.Bad l then .form else if l.length < 6 then .none else if l.length < Pk.len l then .none else .ok (Pk.pkt l) (Pk.len l) from rfl)
  have e1:(6:Int) - (m:Int)=(k:Int):=by omega
  have e2:IntKind.i64.wrap ((6:Int) - (m:Int))=(k:Int):=by rw [IntKind.wrap_i64]; omega
  obtain ⟨T,hT⟩:∃ T,tkV (Pk.take l)=T:=⟨_,rfl⟩
  have VT:=Lib.hid hT
  rw [hl,hT]
  obtain ⟨H,hH⟩:∃ H,b.extract 0 m=H:=⟨_,rfl⟩
  obtain ⟨Z,hZ⟩:∃ Z,bs (List.replicate k 0)=Z:=⟨_,rfl⟩
  obtain ⟨PD,hPD⟩:∃ P,bs (Pk.pad l)=P:=⟨_,rfl⟩
  rw [hZ] at RP
  rw [hPD] at PA
  rw [hH,hZ,hPD] at PS
  have sH:H.size=m:=by rw [<-hH,ByteArray.size_extract]; omega
  have sZ:Z.size=k:=by rw [<-hZ,bs_size]; simp
  have hmI:min (n:Int) 6=(m:Int):=by omega
  have sn:b.size=n:=hn
  have LNH:=Lib.hid LN
  have HL:=Lib.hid hl
  have m6:m<=6:=by omega
  have k6:k<=6:=by omega
  have nb:n<=1000000:=by omega
  clear hZ hPD hT hl hm hk LN hs hn
  by_cases hbad:Pk.Bad l
  · have gd:¬ Pk.good (Pk.pad l)=true:=fun h=>(Pk.pad_good l).1 h hbad
    have PV:=Lib.hid (show psV (Pk.pad l)=.tuple #[pkVal pk0,.int .i64 0,.bool false] from if_neg gd)
    rw [PV.out] at PA
    have E:=Lib.hid (show T=.tuple #[pkVal pk0,.int .i64 0,.int .i64 6] from by rw [<-VT.out,Pk.take_bad hbad]; rfl)
    clear hbad gd
    go_enter Tryz.func120,Tryz.ntmps120
    go_wp2_with (refine wpList_new rfl (.alloc 125) rfl (some 2) rfl #[.bool false,.int .i64 0,.int .i64 0,.int .i64 0,.string ⟨#[]⟩] 125 (fun X=>.pointer (some ⟨X,0,none⟩)) 5 (pkCel pk0) (pk_cells pk0) (alloc_pk rfl) ?_; intro X w1 HX Sw1 CX Bw1)
    (with_reducible refine (RP.out _).mono ?_)
    rintro e w2 ⟨rfl,h2⟩
    have B2:=Lib.hid (bt Bw1.out h2)
    have CX2:=Lib.hid (CX.out.below h2)
    clear h2
    go_wp2_with fail
    (with_reducible refine (PA.out _).mono ?_)
    rintro e w3 ⟨rfl,h3⟩
    have B3:=Lib.hid (bt B2.out h3)
    have CX3:=Lib.hid (CX2.out.below h3)
    clear h3 CX2
    go_wp2_with (first
      | (refine wpList_new rfl (.alloc 125) rfl (some 6) rfl #[.bool false,.int .i64 0,.int .i64 0,.int .i64 0,.string ⟨#[]⟩] 125 (fun X=>.pointer (some ⟨X,0,none⟩)) 5 (pkCel pk0) (pk_cells pk0) (alloc_pk rfl) ?_; intro G w4 HG Sw4 CG Bw4; have CX4':=Lib.hid (CX3.out.below Bw4.out); have NXG:=Lib.hid (show X ≠ G from by have:=CX3.out.lt; have:=HG.out; omega))
      | (refine wpList_setAll rfl 125 (.tmp 6) (.tmp 23) rfl G 5 [.bool pk0.cmd,.int .i64 pk0.ap,.int .i64 pk0.fl,.int .i64 pk0.ct,.string pk0.da] _ (pkCel pk0) CG.out rfl (pk_list pk0) rfl rfl pk_info (by simp [Value.oneCell']) ?_; intro w5 CA UA SA; have CX4:=Lib.hid (CX4'.out.but UA.out NXG.out))
      | (refine wpList_setAll rfl 125 (.tmp 2) (.tmp 28) rfl X 5 [.bool pk0.cmd,.int .i64 pk0.ap,.int .i64 pk0.fl,.int .i64 pk0.ct,.string pk0.da] _ (pkCel pk0) CX4.out rfl (pk_list pk0) rfl rfl pk_info (by simp [Value.oneCell']) ?_; intro w9 CB UB SB))
    refine bodyPost_ret (v:=.tuple #[pkVal pk0,.int .i64 0,.int .i64 6]) (results_cell_t2 Tryz.results120 _ _ X [.bool pk0.cmd,.int .i64 pk0.ap,.int .i64 pk0.fl,.int .i64 pk0.ct,.string pk0.da] _ rfl (CB.out.rangeAll _ rfl (pk_list pk0)) Tryz.underlying125 rfl pk_info) rfl ⟨by rw [E.out],But.under (But.under (bt B3.out Bw4.out) UA.out (by have:=HG.out; have:=B3.out.size; omega)) UB.out (by have:=HX.out; omega)⟩
  have gd:Pk.good (Pk.pad l)=true:=(Pk.pad_good l).2 hbad
  obtain ⟨sz,hsz⟩:∃ s,Pk.nb (Pk.pad l) 4 * 256 + Pk.nb (Pk.pad l) 5 + 1=s:=⟨_,rfl⟩
  obtain ⟨N,hN⟩:∃ N,6 + sz=N:=⟨_,rfl⟩
  obtain ⟨q,hq⟩:∃ q,Pk.headed (Pk.pad l)=q:=⟨_,rfl⟩
  have PV:=Lib.hid (show psV (Pk.pad l)=.tuple #[pkVal q,.int .i64 (sz:Nat),.bool true] from by unfold psV; rw [if_pos gd,hq,hsz])
  rw [PV.out] at PA
  have NL:=Lib.hid (show Pk.len l=N from by
    rw [<-hN,<-hsz,Pk.pad_nb l 4 (by omega),Pk.pad_nb l 5 (by omega)]
    unfold Pk.len
    omega)
  have zb:sz<=70000:=by
    have:=Pk.nb_lt (Pk.pad l) 4
    have:=Pk.nb_lt (Pk.pad l) 5
    omega
  have z0:7<=N:=by omega
  have a1:IntKind.i64.wrap (6 + (sz:Int))=(N:Int):=by rw [IntKind.wrap_i64]; omega
  have a2:(6:Int) + (sz:Int)=(N:Int):=by omega
  have HQ:=Lib.hid hq
  have HBAD:=Lib.hid hbad
  clear hsz hN hq gd hbad
  by_cases hlt:n < N
  · have t1:decide ((n:Int) < (N:Int))=true:=by simp; omega
    have t1n:decide (n < N)=true:=decide_eq_true hlt
    have E:=Lib.hid (show T=.tuple #[pkVal pk0,.int .i64 0,.int .i64 4] from by
      rw [<-VT.out]
      by_cases h6:l.length < 6
      · rw [Pk.take_few HBAD.out h6]; rfl
      rw [Pk.take_short HBAD.out h6 (by rw [LNH.out,NL.out]; exact hlt)]; rfl)
    clear hlt
    go_enter Tryz.func120,Tryz.ntmps120
    go_wp2_with (refine wpList_new rfl (.alloc 125) rfl (some 2) rfl #[.bool false,.int .i64 0,.int .i64 0,.int .i64 0,.string ⟨#[]⟩] 125 (fun X=>.pointer (some ⟨X,0,none⟩)) 5 (pkCel pk0) (pk_cells pk0) (alloc_pk rfl) ?_; intro X w1 HX Sw1 CX Bw1)
    (with_reducible refine (RP.out _).mono ?_)
    rintro e w2 ⟨rfl,h2⟩
    have B2:=Lib.hid (bt Bw1.out h2)
    have CX2:=Lib.hid (CX.out.below h2)
    clear h2
    go_wp2_with fail
    (with_reducible refine (PA.out _).mono ?_)
    rintro e w3 ⟨rfl,h3⟩
    have B3:=Lib.hid (bt B2.out h3)
    have CX3:=Lib.hid (CX2.out.below h3)
    clear h3 CX2
    go_wp2_with (first
      | (refine wpList_new rfl (.alloc 125) rfl (some 6) rfl #[.bool false,.int .i64 0,.int .i64 0,.int .i64 0,.string ⟨#[]⟩] 125 (fun X=>.pointer (some ⟨X,0,none⟩)) 5 (pkCel pk0) (pk_cells pk0) (alloc_pk rfl) ?_; intro G w4 HG Sw4 CG Bw4; have CX4':=Lib.hid (CX3.out.below Bw4.out); have NXG:=Lib.hid (show X ≠ G from by have:=CX3.out.lt; have:=HG.out; omega))
      | (refine wpList_setAll rfl 125 (.tmp 6) (.tmp 23) rfl G 5 [.bool q.cmd,.int .i64 q.ap,.int .i64 q.fl,.int .i64 q.ct,.string q.da] _ (pkCel q) CG.out rfl (pk_list q) rfl rfl pk_info (by simp [Value.oneCell']) ?_; intro w5 CA UA SA; have CX4:=Lib.hid (CX4'.out.but UA.out NXG.out))
      | (refine wpList_setAll rfl 125 (.tmp 2) (.tmp 35) rfl X 5 [.bool pk0.cmd,.int .i64 pk0.ap,.int .i64 pk0.fl,.int .i64 pk0.ct,.string pk0.da] _ (pkCel pk0) CX4.out rfl (pk_list pk0) rfl rfl pk_info (by simp [Value.oneCell']) ?_; intro w9 CB UB SB))
    refine bodyPost_ret (v:=.tuple #[pkVal pk0,.int .i64 0,.int .i64 4]) (results_cell_t2 Tryz.results120 _ _ X [.bool pk0.cmd,.int .i64 pk0.ap,.int .i64 pk0.fl,.int .i64 pk0.ct,.string pk0.da] _ rfl (CB.out.rangeAll _ rfl (pk_list pk0)) Tryz.underlying125 rfl pk_info) rfl ⟨by rw [E.out],But.under (But.under (bt B3.out Bw4.out) UA.out (by have:=HG.out; have:=B3.out.size; omega)) UB.out (by have:=HX.out; omega)⟩
  have t1:decide ((n:Int) < (N:Int))=false:=by simp; omega
  have t1n:decide (n < N)=false:=decide_eq_false hlt
  obtain ⟨da,hda⟩:∃ d,b.extract 6 N=d:=⟨_,rfl⟩
  obtain ⟨q2,hq2⟩:∃ q2:Pkt,{ q with da:=da }=q2:=⟨_,rfl⟩
  have E:=Lib.hid (show T=.tuple #[pkVal q2,.int .i64 (N:Nat),.int .i64 0] from by
    have DA:(⟨((l.take N).drop 6).toArray⟩:ByteArray)=da:=by
      rw [<-hda,<-HL.out]
      apply ByteArray.ext
      apply Array.toList_inj.1
      simp [ByteArray.data_extract,List.drop_take]
    rw [<-VT.out,Pk.take_good HBAD.out (by rw [LNH.out]; omega) (by rw [LNH.out,NL.out]; exact hlt),NL.out,<-Pk.headed_pkt HBAD.out (by rw [LNH.out]; omega),HQ.out,NL.out,DA,hq2]
    rfl)
  have SM:=Lib.hid (show ∀ w,(Instr.slice 9 (.string b) (some (.int .i64 6)) (some (.int .i64 (N:Nat))) none).run Tryz.prog w=.ok (.string da) w from fun w=>by
    rw [run_slice_string (P:=Tryz.prog) (w:=w) 9 b .i64 .i64 6 (N:Nat) Tryz.underlying9 (by omega) (by omega) (by omega)]
    show Result.ok (Value.string (b.extract 6 ((N:Int)).toNat)) w=_
    rw [Int.toNat_natCast,hda])
  have CD:=Lib.hid (fun w=>CL.out da (by rw [<-hda,ByteArray.size_extract]; omega) w)
  have Q2:=Lib.hid (show ∀ j,j < 5->(if j=4 then Value.string da else pkCel q j)=pkCel q2 j from fun j hj=>by rw [<-hq2]; exact pk_set_data q da j hj)
  clear hlt hda hq2
  go_enter Tryz.func120,Tryz.ntmps120
  go_wp2_with (refine wpList_new rfl (.alloc 125) rfl (some 2) rfl #[.bool false,.int .i64 0,.int .i64 0,.int .i64 0,.string ⟨#[]⟩] 125 (fun X=>.pointer (some ⟨X,0,none⟩)) 5 (pkCel pk0) (pk_cells pk0) (alloc_pk rfl) ?_; intro X w1 HX Sw1 CX Bw1)
  (with_reducible refine (RP.out _).mono ?_)
  rintro e w2 ⟨rfl,h2⟩
  have B2:=Lib.hid (bt Bw1.out h2)
  have CX2:=Lib.hid (CX.out.below h2)
  clear h2
  go_wp2_with fail
  (with_reducible refine (PA.out _).mono ?_)
  rintro e w3 ⟨rfl,h3⟩
  have B3:=Lib.hid (bt B2.out h3)
  have CX3:=Lib.hid (CX2.out.below h3)
  clear h3 CX2
  go_wp2_with (first
    | (refine wpList_new rfl (.alloc 125) rfl (some 6) rfl #[.bool false,.int .i64 0,.int .i64 0,.int .i64 0,.string ⟨#[]⟩] 125 (fun X=>.pointer (some ⟨X,0,none⟩)) 5 (pkCel pk0) (pk_cells pk0) (alloc_pk rfl) ?_; intro G w4 HG Sw4 CG Bw4; have CX4':=Lib.hid (CX3.out.below Bw4.out); have NXG:=Lib.hid (show X ≠ G from by have:=CX3.out.lt; have:=HG.out; omega))
    | (refine wpList_setAll rfl 125 (.tmp 6) (.tmp 23) rfl G 5 [.bool q.cmd,.int .i64 q.ap,.int .i64 q.fl,.int .i64 q.ct,.string q.da] _ (pkCel q) CG.out rfl (pk_list q) rfl rfl pk_info (by simp [Value.oneCell']) ?_; intro w5 CA UA SA; have CX4:=Lib.hid (CX4'.out.but UA.out NXG.out))
    | simp only [SM.out])
  (with_reducible refine (CD.out _).mono ?_)
  rintro e w6 ⟨rfl,h6⟩
  have C6:=Lib.hid (CA.out.below h6)
  have CX6:=Lib.hid (CX4.out.below h6)
  have B6:=Lib.hid (bt (But.under (bt B3.out Bw4.out) UA.out (by have:=HG.out; have:=B3.out.size; omega)) h6)
  clear h6
  go_wp2_with (first
    | (refine wpList_set rfl (.store 9 (.tmp 40) (.tmp 39)) rfl G 4 5 (.string da) _ (pkCel q2) C6.out (by omega) Q2.out (store_str rfl rfl rfl (C6.out.cell (j:=4) (by omega)) (C6.out.frozen (j:=4) (by omega))) ?_; intro w7 C7 U7 S7; have CX7:=Lib.hid (CX6.out.but U7.out NXG.out))
    | (refine wpList_getAll rfl 125 (.tmp 6) rfl G 5 [.bool q2.cmd,.int .i64 q2.ap,.int .i64 q2.fl,.int .i64 q2.ct,.string q2.da] _ _ C7.out rfl (pk_list q2) rfl Tryz.underlying125 rfl pk_info ?_)
    | (refine wpList_setAll rfl 125 (.tmp 2) (.tmp 41) rfl X 5 [.bool q2.cmd,.int .i64 q2.ap,.int .i64 q2.fl,.int .i64 q2.ct,.string q2.da] _ (pkCel q2) CX7.out rfl (pk_list q2) rfl rfl pk_info (by simp [Value.oneCell']) ?_; intro w9 CB UB SB))
  refine bodyPost_ret (v:=.tuple #[pkVal q2,.int .i64 (N:Nat),.int .i64 0]) (results_cell_t2 Tryz.results120 _ _ X [.bool q2.cmd,.int .i64 q2.ap,.int .i64 q2.fl,.int .i64 q2.ct,.string q2.da] _ rfl (CB.out.rangeAll _ rfl (pk_list q2)) Tryz.underlying125 rfl pk_info) rfl ⟨by rw [E.out],But.under (But.under B6.out U7.out (by have:=HG.out; have:=B3.out.size; omega)) UB.out (by have:=HX.out; omega)⟩
theorem pget_any (b:ByteArray) (hs:b.size<=1000000) (w:World):Calls Tryz.prog 100 #[.string b] w fun e w'=>e=.returned (getV b.data.toList)/\Below w.heap.size w w':=by
  have TK:=Lib.hid (fun w=>ptake_any b hs w)
  obtain ⟨n,hn⟩:∃ n,b.size=n:=⟨_,rfl⟩
  have LL:=Lib.hid (show b.data.toList.length=n by rw [ls,hn])
  obtain ⟨p,k,c,hv,hr⟩:=tkV_form (Pk.take b.data.toList)
  have GV:=Lib.hid (show getV b.data.toList=if c=0/\k=n then .tuple #[pkVal p,.int .i64 0] else .tuple #[pkVal pk0,.int .i64 6] from by
    unfold getV
    rw [LL.out]
    rcases hr with ⟨h1,h2⟩ | ⟨h1,h2⟩
    · rw [h2]
      by_cases g:k=n
      · rw [if_pos ⟨h1,g⟩]
        simp [g]
      rw [if_neg (fun h=>g h.2)]
      simp [g]
    rw [if_neg (fun h=>h1 h.1)]
    cases h:Pk.take b.data.toList with
    | ok q j=>exact absurd h (h2 q j)
    | none=>rfl
    | form=>rfl)
  obtain ⟨V,hV⟩:∃ V,getV b.data.toList=V:=⟨_,rfl⟩
  rw [hV] at GV ⊢
  rw [hv] at TK
  have sn:b.size=n:=hn
  clear hv hr hV hn
  by_cases c0:c=0
  · have d1:(c != 0)=false:=by simp; omega
    by_cases kn:k=n
    · have E:=Lib.hid (show V=.tuple #[pkVal p,.int .i64 0] by rw [GV.out,if_pos ⟨c0,kn⟩])
      have d2:((k:Int) != (n:Int))=false:=by simp; omega
      clear c0 kn
      go_enter Tryz.func100,Tryz.ntmps100
      go_wp2_with (refine wpList_new rfl (.alloc 125) rfl (some 2) rfl #[.bool false,.int .i64 0,.int .i64 0,.int .i64 0,.string ⟨#[]⟩] 125 (fun X=>.pointer (some ⟨X,0,none⟩)) 5 (pkCel pk0) (pk_cells pk0) (alloc_pk rfl) ?_; intro X w1 HX Sw1 CX Bw1)
      (with_reducible refine (TK.out _).mono ?_)
      rintro e w3 ⟨rfl,h3⟩
      have B3:=Lib.hid (bt Bw1.out h3)
      have CX3:=Lib.hid (CX.out.below h3)
      clear h3
      go_wp2_with (first
        | (refine wpList_new rfl (.alloc 125) rfl (some 4) rfl #[.bool false,.int .i64 0,.int .i64 0,.int .i64 0,.string ⟨#[]⟩] 125 (fun X=>.pointer (some ⟨X,0,none⟩)) 5 (pkCel pk0) (pk_cells pk0) (alloc_pk rfl) ?_; intro G w4 HG Sw4 CG Bw4; have CX4':=Lib.hid (CX3.out.below Bw4.out); have NXG:=Lib.hid (show X ≠ G from by have:=CX3.out.lt; have:=HG.out; omega))
        | (refine wpList_setAll rfl 125 (.tmp 4) (.tmp 10) rfl G 5 [.bool p.cmd,.int .i64 p.ap,.int .i64 p.fl,.int .i64 p.ct,.string p.da] _ (pkCel p) CG.out rfl (pk_list p) rfl rfl pk_info (by simp [Value.oneCell']) ?_; intro w5 CA UA SA; have CX4:=Lib.hid (CX4'.out.but UA.out NXG.out))
        | (refine wpList_getAll rfl 125 (.tmp 4) rfl G 5 [.bool p.cmd,.int .i64 p.ap,.int .i64 p.fl,.int .i64 p.ct,.string p.da] _ _ CA.out rfl (pk_list p) rfl Tryz.underlying125 rfl pk_info ?_)
        | (refine wpList_setAll rfl 125 (.tmp 2) (.tmp 22) rfl X 5 [.bool p.cmd,.int .i64 p.ap,.int .i64 p.fl,.int .i64 p.ct,.string p.da] _ (pkCel p) CX4.out rfl (pk_list p) rfl rfl pk_info (by simp [Value.oneCell']) ?_; intro w9 CB UB SB))
      refine bodyPost_ret (v:=.tuple #[pkVal p,.int .i64 0]) (results_cell_t1 Tryz.results100 _ _ X [.bool p.cmd,.int .i64 p.ap,.int .i64 p.fl,.int .i64 p.ct,.string p.da] _ rfl (CB.out.rangeAll _ rfl (pk_list p)) Tryz.underlying125 rfl pk_info) rfl ⟨by rw [E.out],But.under (But.under (bt B3.out Bw4.out) UA.out (by have:=HG.out; have:=B3.out.size; omega)) UB.out (by have:=HX.out; omega)⟩
    have E:=Lib.hid (show V=.tuple #[pkVal pk0,.int .i64 6] by rw [GV.out,if_neg (fun h=>kn h.2)])
    have d2:((k:Int) != (n:Int))=true:=by simp; omega
    clear c0 kn
    go_enter Tryz.func100,Tryz.ntmps100
    go_wp2_with (refine wpList_new rfl (.alloc 125) rfl (some 2) rfl #[.bool false,.int .i64 0,.int .i64 0,.int .i64 0,.string ⟨#[]⟩] 125 (fun X=>.pointer (some ⟨X,0,none⟩)) 5 (pkCel pk0) (pk_cells pk0) (alloc_pk rfl) ?_; intro X w1 HX Sw1 CX Bw1)
    (with_reducible refine (TK.out _).mono ?_)
    rintro e w3 ⟨rfl,h3⟩
    have B3:=Lib.hid (bt Bw1.out h3)
    have CX3:=Lib.hid (CX.out.below h3)
    clear h3
    go_wp2_with (first
      | (refine wpList_new rfl (.alloc 125) rfl (some 4) rfl #[.bool false,.int .i64 0,.int .i64 0,.int .i64 0,.string ⟨#[]⟩] 125 (fun X=>.pointer (some ⟨X,0,none⟩)) 5 (pkCel pk0) (pk_cells pk0) (alloc_pk rfl) ?_; intro G w4 HG Sw4 CG Bw4; have CX4':=Lib.hid (CX3.out.below Bw4.out); have NXG:=Lib.hid (show X ≠ G from by have:=CX3.out.lt; have:=HG.out; omega))
      | (refine wpList_setAll rfl 125 (.tmp 4) (.tmp 10) rfl G 5 [.bool p.cmd,.int .i64 p.ap,.int .i64 p.fl,.int .i64 p.ct,.string p.da] _ (pkCel p) CG.out rfl (pk_list p) rfl rfl pk_info (by simp [Value.oneCell']) ?_; intro w5 CA UA SA; have CX4:=Lib.hid (CX4'.out.but UA.out NXG.out))
      | (refine wpList_setAll rfl 125 (.tmp 2) (.tmp 21) rfl X 5 [.bool pk0.cmd,.int .i64 pk0.ap,.int .i64 pk0.fl,.int .i64 pk0.ct,.string pk0.da] _ (pkCel pk0) CX4.out rfl (pk_list pk0) rfl rfl pk_info (by simp [Value.oneCell']) ?_; intro w9 CB UB SB))
    refine bodyPost_ret (v:=.tuple #[pkVal pk0,.int .i64 6]) (results_cell_t1 Tryz.results100 _ _ X [.bool pk0.cmd,.int .i64 pk0.ap,.int .i64 pk0.fl,.int .i64 pk0.ct,.string pk0.da] _ rfl (CB.out.rangeAll _ rfl (pk_list pk0)) Tryz.underlying125 rfl pk_info) rfl ⟨by rw [E.out],But.under (But.under (bt B3.out Bw4.out) UA.out (by have:=HG.out; have:=B3.out.size; omega)) UB.out (by have:=HX.out; omega)⟩
  have E:=Lib.hid (show V=.tuple #[pkVal pk0,.int .i64 6] by rw [GV.out,if_neg (fun h=>c0 h.1)])
  have d1:(c != 0)=true:=by simp; omega
  clear c0
  go_enter Tryz.func100,Tryz.ntmps100
  go_wp2_with (refine wpList_new rfl (.alloc 125) rfl (some 2) rfl #[.bool false,.int .i64 0,.int .i64 0,.int .i64 0,.string ⟨#[]⟩] 125 (fun X=>.pointer (some ⟨X,0,none⟩)) 5 (pkCel pk0) (pk_cells pk0) (alloc_pk rfl) ?_; intro X w1 HX Sw1 CX Bw1)
  (with_reducible refine (TK.out _).mono ?_)
  rintro e w3 ⟨rfl,h3⟩
  have B3:=Lib.hid (bt Bw1.out h3)
  have CX3:=Lib.hid (CX.out.below h3)
  clear h3
  go_wp2_with (first
    | (refine wpList_new rfl (.alloc 125) rfl (some 4) rfl #[.bool false,.int .i64 0,.int .i64 0,.int .i64 0,.string ⟨#[]⟩] 125 (fun X=>.pointer (some ⟨X,0,none⟩)) 5 (pkCel pk0) (pk_cells pk0) (alloc_pk rfl) ?_; intro G w4 HG Sw4 CG Bw4; have CX4':=Lib.hid (CX3.out.below Bw4.out); have NXG:=Lib.hid (show X ≠ G from by have:=CX3.out.lt; have:=HG.out; omega))
    | (refine wpList_setAll rfl 125 (.tmp 4) (.tmp 10) rfl G 5 [.bool p.cmd,.int .i64 p.ap,.int .i64 p.fl,.int .i64 p.ct,.string p.da] _ (pkCel p) CG.out rfl (pk_list p) rfl rfl pk_info (by simp [Value.oneCell']) ?_; intro w5 CA UA SA; have CX4:=Lib.hid (CX4'.out.but UA.out NXG.out))
    | (refine wpList_setAll rfl 125 (.tmp 2) (.tmp 21) rfl X 5 [.bool pk0.cmd,.int .i64 pk0.ap,.int .i64 pk0.fl,.int .i64 pk0.ct,.string pk0.da] _ (pkCel pk0) CX4.out rfl (pk_list pk0) rfl rfl pk_info (by simp [Value.oneCell']) ?_; intro w9 CB UB SB))
  refine bodyPost_ret (v:=.tuple #[pkVal pk0,.int .i64 6]) (results_cell_t1 Tryz.results100 _ _ X [.bool pk0.cmd,.int .i64 pk0.ap,.int .i64 pk0.fl,.int .i64 pk0.ct,.string pk0.da] _ rfl (CB.out.rangeAll _ rfl (pk_list pk0)) Tryz.underlying125 rfl pk_info) rfl ⟨by rw [E.out],But.under (But.under (bt B3.out Bw4.out) UA.out (by have:=HG.out; have:=B3.out.size; omega)) UB.out (by have:=HX.out; omega)⟩
theorem rep_zer (k:Nat):bs (List.replicate k 0)=zer k:=by
  unfold bs zer
  congr 2
  apply List.ext_getElem
  · rw [List.length_replicate]
    have:=coefs_size (fun _=>0#8) k
    exact this.symm
  intro i h1 h2
  rw [List.getElem_replicate]
  simp [Gal.coefs]
theorem pidle_any (s:Nat) (h1:7<=s) (h2:s<=1030) (w:World):Calls Tryz.prog 72 #[.int .i64 (s:Nat)] w fun e w'=>e=.returned (.tuple #[.string (bs (Pk.enc (pkIdle (s - 6)))),.int .i64 0])/\Below w.heap.size w w':=by
  obtain ⟨n,hn⟩:∃ n,s - 6=n:=⟨_,rfl⟩
  have e1:(s:Int) - 6=(n:Int):=by omega
  have e2:IntKind.i64.wrap ((s:Int) - 6)=(n:Int):=by rw [IntKind.wrap_i64]; omega
  rw [hn]
  have A:=Lib.hid (fun w=>isSize_any (n:Int) w)
  rw [decide_eq_true (show 1<=(n:Int)/\(n:Int)<=1024 by omega)] at A
  have RP:=Lib.hid (fun w=>repeat_any n (by omega) w)
  rw [rep_zer] at RP
  have PU:=Lib.hid (fun w=>pput_any (pkIdle n) (by show (zer n).size<=maxLen; rw [zer_size]; unfold maxLen; omega) w)
  rw [if_pos (idle_ok n (by omega) (by omega))] at PU
  obtain ⟨R,hR⟩:∃ R,bs (Pk.enc (pkIdle n))=R:=⟨_,rfl⟩
  rw [hR] at PU ⊢
  unfold pkIdle pkVal at PU
  simp only at PU
  obtain ⟨Z,hZ⟩:∃ Z,zer n=Z:=⟨_,rfl⟩
  rw [hZ] at PU RP
  have n1:n<=1024:=by omega
  clear hR hn hZ h1 h2
  go_enter Tryz.func72,Tryz.ntmps72
  go_wp2_with fail
  (with_reducible refine (A.out _).mono ?_)
  rintro e w' ⟨rfl,rfl⟩
  go_wp2_with fail
  (with_reducible refine (RP.out _).mono ?_)
  rintro e w2 ⟨rfl,h2⟩
  have B2:=Lib.hid h2
  clear h2
  go_wp2_with fail
  (with_reducible refine (PU.out _).mono ?_)
  rintro e w3 ⟨rfl,h3⟩
  have B3:=Lib.hid (bt B2.out h3)
  clear h3
  go_wp2_with fail
  go_ret2
  exact ⟨rfl,B3.out⟩
end Go.Proofs.YtchfkncbemjepaaGreat
