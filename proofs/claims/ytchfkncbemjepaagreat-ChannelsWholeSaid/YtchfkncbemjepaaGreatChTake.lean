/- ChTake -/
import Derived.Test.YtchfkncbemjepaaGreatChBegin
set_option linter.unusedVariables false
set_option maxRecDepth 100000
set_option maxHeartbeats 2000000
/- Layer 11, the landed demux: take. -/
namespace Go.Proofs.YtchfkncbemjepaaGreat
open Go.RowKit

theorem box_tmC {ev:Operand->Value} {o:Oper} {w:World} {x:Operand} {fr:Tmf} (h:o.op=.box 100 x) (hx:ev x=tmVal fr):(execOp ev o).run Tryz.prog w=.ok (.value (.pointer (some ⟨w.heap.size,0,none⟩))) (w.alloc (.cells #[.int .i64 fr.cr,.int .i64 fr.ch,.int .i64 fr.ma,.int .i64 fr.ct,.int .i64 fr.fi,.string fr.da,.int .u32 (fr.wo:Nat)] 100)):=by
  simp only [execOp,h,hx,tmVal]; go_simp
theorem bs_data (b:ByteArray):bs b.data.toList=b:=by
  apply ByteArray.ext
  simp [bs]
theorem tk_cases (pt:List UInt8) (lo fi:Nat) (d:List UInt8) (q:List UInt8 × Nat) (hq:(if lo ≠ 0/\pt ≠ [] then (([]:List UInt8),1) else (pt,0))=q):
    Ch.tk pt lo fi d=if fi=2046 then (q.1,[],q.2) else if fi=2047 then ((Ch.goOn q.1 d true).1,(Ch.goOn q.1 d true).2.1,q.2 + (Ch.goOn q.1 d true).2.2)
      else ((Ch.begin (d.drop fi)).1,(Ch.goOn q.1 (d.take fi) false).2.1 ++ (Ch.begin (d.drop fi)).2.1,q.2 + (Ch.goOn q.1 (d.take fi) false).2.2 + (Ch.begin (d.drop fi)).2.2):=by
  subst hq
  rfl
theorem goOn_few (pt more:List UInt8) (op:Bool):(Ch.goOn pt more op).2.1.length<=1:=by
  have k1:∀ x,(Ch.kept [x]).length<=1:=fun x=>by
    unfold Ch.kept
    rw [List.length_map]
    exact List.length_filter_le _ _
  unfold Ch.goOn
  split
  · exact Nat.zero_le _
  split
  · split
    · exact k1 _
    exact Nat.zero_le _
  · split <;> exact Nat.zero_le _
  exact Nat.zero_le _
theorem itake_any {W0 w:World} {D A:Nat} {f:Nat->Value} {v:Value} {a:Ch.Av} (h:DS W0 D A f v a w) (o:Nat) (ho:o + 3 < 37) (pt:List UInt8) (hf:f (o + 3)=.string (bs pt)) (hp:pt.length<=1030) (fr:Tmf) (hok:Tm.Ok fr) (hbr:a.br=0) (hpk:a.pk=[]):
    Calls Tryz.prog 54 #[.pointer (some ⟨D,o,none⟩),tmVal fr,.pointer (some ⟨A,0,none⟩)] w fun e w'=>(∃ u,e=.returned u)/\(∃ v',DS W0 D A (Ch.upd f (o + 3) (.string (bs (Ch.tk pt a.lo fr.fi.toNat fr.da.data.toList).1))) v' { a with pk:=(Ch.tk pt a.lo fr.fi.toNat fr.da.data.toList).2.1,br:=(Ch.tk pt a.lo fr.fi.toNat fr.da.data.toList).2.2 } w')/\Ey D A w w':=by
  obtain ⟨fi,hfi⟩:∃ n:Nat,fr.fi=n:=⟨fr.fi.toNat,by have:=hok.2; omega⟩
  obtain ⟨d,hd⟩:∃ d,fr.da.data.toList=d:=⟨_,rfl⟩
  have da:fr.da=bs d:=by rw [<-hd,bs_data]
  have HLN:=Lib.hid (show d.length<=200 by have:=hok.1.2.2.2.2.2; rw [<-hd,Array.length_toList]; exact this)
  have HFL:=Lib.hid (show fi < d.length\/fi=2046\/fi=2047 by
    have h1:=hok.2
    have h2:fr.da.size=d.length:=by rw [<-hd,Array.length_toList]; rfl
    omega)
  rw [hd,show fr.fi.toNat=fi by rw [hfi]; rfl]
  have HFI:=Lib.hid hfi
  have HDA:=Lib.hid da
  have HD:=Lib.hid h
  have HO:=Lib.hid ho
  obtain ⟨lo,hlo⟩:∃ n,a.lo=n:=⟨_,rfl⟩
  have HLO:=Lib.hid hlo
  rw [hlo]
  have HBR:=Lib.hid hbr
  have HPK:=Lib.hid hpk
  have HF:=Lib.hid hf
  have HP:=Lib.hid hp
  obtain ⟨q,hq⟩:∃ q,(if lo ≠ 0/\pt ≠ [] then (([]:List UInt8),1) else (pt,0))=q:=⟨_,rfl⟩
  have TC:=Lib.hid (tk_cases pt lo fi d q hq)
  have Q1:=Lib.hid (show lo ≠ 0->q.1=[]/\q.2=gup pt from fun z=>by
    rw [<-hq]
    by_cases g:pt=[]
    · rw [if_neg (fun e=>e.2 g),g]; exact ⟨rfl,(if_pos rfl).symm⟩
    rw [if_pos ⟨z,g⟩]; exact ⟨rfl,(if_neg g).symm⟩)
  have Q0:=Lib.hid (show lo=0->q=(pt,0) from fun z=>by rw [<-hq,if_neg (fun e=>e.1 z)])
  have QL:=Lib.hid (show q.1.length<=1030 by rw [<-hq]; split; exact Nat.zero_le _; exact hp)
  have Q2:=Lib.hid (show q.2<=1 by rw [<-hq]; split; exact Nat.le_refl _; exact Nat.zero_le _)
  clear h ho hf hp hok hbr hpk hfi hd da hlo hq
  obtain ⟨z,hz⟩:∃ z,bs d=z:=⟨_,rfl⟩
  have HZ:=Lib.hid hz
  clear hz
  by_cases l0:lo=0
  · have p0:((lo:Int) != (0:Int))=false:=by subst l0; rfl
    have p0n:(lo != 0)=false:=by subst l0; rfl
    by_cases f1:fi=2046
    · have s1:((fi:Int) == (2046:Int))=true:=by rw [beq_iff_eq]; omega
      have s1n:(fi == 2046)=true:=by rw [beq_iff_eq]; exact f1
      go_enter Tryz.func54,Tryz.ntmps54
      go_wp2_with (((with_reducible refine atList ?_); refine wpList_newT rfl (.box 100 (.tmp 1)) rfl (some 4) rfl #[.int .i64 fr.cr,.int .i64 fr.ch,.int .i64 fr.ma,.int .i64 fr.ct,.int .i64 fr.fi,.string fr.da,.int .u32 (fr.wo:Nat)] 100 (fun X=>.pointer (some ⟨X,0,none⟩)) 7 (tmCel fr) (tm_cells fr) (box_tmC rfl rfl) ?_; intro K w1 HK SK CK BK TK; have D1:=Lib.hid (HD.out.below BK.out); have cA2:w1.cell? ⟨A,2,none⟩=some (.int .i64 (lo:Nat)):=(by rw [<-HLO.out]; exact D1.out.ac.cell (j:=2) (by omega)); have k4:w1.cell? ⟨K,4,none⟩=some (.int .i64 (fi:Nat)):=(by rw [<-HFI.out]; exact CK.out.cell (j:=4) (by omega)); have k5:w1.cell? ⟨K,5,none⟩=some (.string z):=by rw [<-HZ.out,<-HDA.out]; exact CK.out.cell (j:=5) (by omega)))
      have DX:=Lib.hid (show DS W0 D A (Ch.upd f (o + 3) (.string (bs q.1))) v { a with br:=q.2 } w1 from by
        rw [Q0.out l0]
        have e0:{ a with br:=0 }=a:=by rw [<-HBR.out]
        show DS W0 D A (Ch.upd f (o + 3) (.string (bs pt))) v { a with br:=0 } w1
        rw [e0]
        exact D1.out.congr (fun j hj=>by
          unfold Ch.upd
          split
          · rename_i e; rw [e,HF.out]
          rfl))
      first | go_ret | go_end0 | refine bodyPost_end (results_none rfl _ _ _) rfl ?_ | refine bodyPost_ret (results_none rfl _ _ _) rfl ?_
      refine ⟨⟨_,rfl⟩,⟨v,?_⟩,(Ey.of_below BK.out)⟩
      rw [TC.out,if_pos f1,<-HLO.out]
      have:=DX.out
      show DS W0 D A _ v { a with pk:=[],br:=q.2 } w1
      rw [<-HPK.out]
      exact this
    have s1:((fi:Int) == (2046:Int))=false:=by rw [beq_eq_false_iff_ne]; omega
    have s1n:(fi == 2046)=false:=by rw [beq_eq_false_iff_ne]; exact f1
    by_cases f2:fi=2047
    · have s2:((fi:Int) == (2047:Int))=true:=by rw [beq_iff_eq]; omega
      have s2n:(fi == 2047)=true:=by rw [beq_iff_eq]; exact f2
      go_enter Tryz.func54,Tryz.ntmps54
      go_wp2_with (((with_reducible refine atList ?_); refine wpList_newT rfl (.box 100 (.tmp 1)) rfl (some 4) rfl #[.int .i64 fr.cr,.int .i64 fr.ch,.int .i64 fr.ma,.int .i64 fr.ct,.int .i64 fr.fi,.string fr.da,.int .u32 (fr.wo:Nat)] 100 (fun X=>.pointer (some ⟨X,0,none⟩)) 7 (tmCel fr) (tm_cells fr) (box_tmC rfl rfl) ?_; intro K w1 HK SK CK BK TK; have D1:=Lib.hid (HD.out.below BK.out); have cA2:w1.cell? ⟨A,2,none⟩=some (.int .i64 (lo:Nat)):=(by rw [<-HLO.out]; exact D1.out.ac.cell (j:=2) (by omega)); have k4:w1.cell? ⟨K,4,none⟩=some (.int .i64 (fi:Nat)):=(by rw [<-HFI.out]; exact CK.out.cell (j:=4) (by omega)); have k5:w1.cell? ⟨K,5,none⟩=some (.string z):=by rw [<-HZ.out,<-HDA.out]; exact CK.out.cell (j:=5) (by omega)))
      have DX:=Lib.hid (show DS W0 D A (Ch.upd f (o + 3) (.string (bs q.1))) v { a with br:=q.2 } w1 from by
        rw [Q0.out l0]
        have e0:{ a with br:=0 }=a:=by rw [<-HBR.out]
        show DS W0 D A (Ch.upd f (o + 3) (.string (bs pt))) v { a with br:=0 } w1
        rw [e0]
        exact D1.out.congr (fun j hj=>by
          unfold Ch.upd
          split
          · rename_i e; rw [e,HF.out]
          rfl))
      have GO1:=Lib.hid (goOn_any DX.out o HO.out q.1 d true (Ch.upd_same _ _ _) QL.out (by have:=HLN.out; omega) (by show q.2<=50; have:=Q2.out; omega) (by show a.pk.length<=_; rw [HPK.out]; exact Nat.zero_le _))
      rw [HZ.out] at GO1
      (refine GO1.out.mono ?_)
      rintro e w3 ⟨⟨u,rfl⟩,⟨v3,D3'⟩,EY'⟩
      have D3:=Lib.hid D3'
      have EY:=Lib.hid EY'
      clear D3' EY'
      go_wp2_with fail
      first | go_ret | go_end0 | refine bodyPost_end (results_none rfl _ _ _) rfl ?_ | refine bodyPost_ret (results_none rfl _ _ _) rfl ?_
      refine ⟨⟨_,rfl⟩,⟨v3,?_⟩,(Ey.of_below BK.out).trans EY.out⟩
      rw [TC.out,if_neg f1,if_pos f2,<-HLO.out]
      have:=D3.out
      show DS W0 D A _ v3 { a with pk:=(Ch.goOn q.1 d true).2.1,br:=q.2 + (Ch.goOn q.1 d true).2.2 } w3
      rw [HPK.out,List.nil_append] at this
      exact this.congr (fun j hj=>by unfold Ch.upd; split <;> rfl)
    have s2:((fi:Int) == (2047:Int))=false:=by rw [beq_eq_false_iff_ne]; omega
    have s2n:(fi == 2047)=false:=by rw [beq_eq_false_iff_ne]; exact f2
    have EX1:z.extract 0 fi=bs (d.take fi):=by rw [<-HZ.out,bs_cut _ _ _ (Nat.zero_le _)]; rfl
    have fd:fi<=d.length:=by have:=HFL.out; omega
    have EX2:z.extract fi z.size=bs (d.drop fi):=by rw [<-HZ.out,bs_cut _ _ _ (by rw [bs_size]; omega),bs_size,List.take_of_length_le (Nat.le_refl _)]
    have fz:fi<=z.size:=by rw [<-HZ.out,bs_size]; exact fd
    go_enter Tryz.func54,Tryz.ntmps54
    go_wp2_with (((with_reducible refine atList ?_); refine wpList_newT rfl (.box 100 (.tmp 1)) rfl (some 4) rfl #[.int .i64 fr.cr,.int .i64 fr.ch,.int .i64 fr.ma,.int .i64 fr.ct,.int .i64 fr.fi,.string fr.da,.int .u32 (fr.wo:Nat)] 100 (fun X=>.pointer (some ⟨X,0,none⟩)) 7 (tmCel fr) (tm_cells fr) (box_tmC rfl rfl) ?_; intro K w1 HK SK CK BK TK; have D1:=Lib.hid (HD.out.below BK.out); have cA2:w1.cell? ⟨A,2,none⟩=some (.int .i64 (lo:Nat)):=(by rw [<-HLO.out]; exact D1.out.ac.cell (j:=2) (by omega)); have k4:w1.cell? ⟨K,4,none⟩=some (.int .i64 (fi:Nat)):=(by rw [<-HFI.out]; exact CK.out.cell (j:=4) (by omega)); have k5:w1.cell? ⟨K,5,none⟩=some (.string z):=by rw [<-HZ.out,<-HDA.out]; exact CK.out.cell (j:=5) (by omega)))
    have DX:=Lib.hid (show DS W0 D A (Ch.upd f (o + 3) (.string (bs q.1))) v { a with br:=q.2 } w1 from by
      rw [Q0.out l0]
      have e0:{ a with br:=0 }=a:=by rw [<-HBR.out]
      show DS W0 D A (Ch.upd f (o + 3) (.string (bs pt))) v { a with br:=0 } w1
      rw [e0]
      exact D1.out.congr (fun j hj=>by
        unfold Ch.upd
        split
        · rename_i e; rw [e,HF.out]
        rfl))
    have GO1:=Lib.hid (goOn_any DX.out o HO.out q.1 (d.take fi) false (Ch.upd_same _ _ _) QL.out (by rw [List.length_take]; have:=HLN.out; omega) (by show q.2<=50; have:=Q2.out; omega) (by show a.pk.length<=_; rw [HPK.out]; exact Nat.zero_le _))
    (refine GO1.out.mono ?_)
    rintro e w3 ⟨⟨u,rfl⟩,⟨v3,D3'⟩,EY'⟩
    have D3:=Lib.hid D3'
    have EY:=Lib.hid EY'
    clear D3' EY'
    have kK:w3.heap[K]?=w1.heap[K]?:=EY.out.rest K _ TK.out (by decide) (fun e=>by have:=HD.out.dt.lt; have:=HK.out; omega) (fun e=>by have:=HD.out.at'.lt; have:=HK.out; omega)
    have C3:=CK.out.of_block kK
    have k4a:w3.cell? ⟨K,4,none⟩=some (.int .i64 (fi:Nat)):=by rw [<-HFI.out]; exact C3.cell (j:=4) (by omega)
    have k5a:w3.cell? ⟨K,5,none⟩=some (.string z):=by rw [<-HZ.out,<-HDA.out]; exact C3.cell (j:=5) (by omega)
    have BGN:=Lib.hid (begin_any D3.out o HO.out (d.drop fi) (by rw [List.length_drop]; have:=HLN.out; omega) (by show q.2 + (Ch.goOn q.1 (d.take fi) false).2.2<=50; have:=Q2.out; have:=(Ch.goOn_le q.1 (d.take fi) false).1; omega) (by
      show (a.pk ++ (Ch.goOn q.1 (d.take fi) false).2.1).length<=1000
      rw [HPK.out,List.nil_append]
      exact Nat.le_trans (goOn_few _ _ _) (by omega)))
    clear kK C3
    go_wp2_with fail
    (refine BGN.out.mono ?_)
    rintro e w4 ⟨⟨u,rfl⟩,⟨v4,D4'⟩,EY4'⟩
    have D4:=Lib.hid D4'
    have EY4:=Lib.hid EY4'
    clear D4' EY4'
    go_wp2_with fail
    first | go_ret | go_end0 | refine bodyPost_end (results_none rfl _ _ _) rfl ?_ | refine bodyPost_ret (results_none rfl _ _ _) rfl ?_
    refine ⟨⟨_,rfl⟩,⟨v4,?_⟩,((Ey.of_below BK.out).trans EY.out).trans EY4.out⟩
    rw [TC.out,if_neg f1,if_neg f2,<-HLO.out]
    have:=D4.out
    show DS W0 D A _ v4 { a with pk:=(Ch.goOn q.1 (d.take fi) false).2.1 ++ (Ch.begin (d.drop fi)).2.1,br:=q.2 + (Ch.goOn q.1 (d.take fi) false).2.2 + (Ch.begin (d.drop fi)).2.2 } w4
    rw [HPK.out,List.nil_append] at this
    exact this.congr (fun j hj=>by unfold Ch.upd; split <;> rfl)
  have p0:((lo:Int) != (0:Int))=true:=by rw [bne_iff_ne]; omega
  have p0n:(lo != 0)=true:=by rw [bne_iff_ne]; exact l0
  by_cases f1:fi=2046
  · have s1:((fi:Int) == (2046:Int))=true:=by rw [beq_iff_eq]; omega
    have s1n:(fi == 2046)=true:=by rw [beq_iff_eq]; exact f1
    go_enter Tryz.func54,Tryz.ntmps54
    go_wp2_with (((with_reducible refine atList ?_); refine wpList_newT rfl (.box 100 (.tmp 1)) rfl (some 4) rfl #[.int .i64 fr.cr,.int .i64 fr.ch,.int .i64 fr.ma,.int .i64 fr.ct,.int .i64 fr.fi,.string fr.da,.int .u32 (fr.wo:Nat)] 100 (fun X=>.pointer (some ⟨X,0,none⟩)) 7 (tmCel fr) (tm_cells fr) (box_tmC rfl rfl) ?_; intro K w1 HK SK CK BK TK; have D1:=Lib.hid (HD.out.below BK.out); have cA2:w1.cell? ⟨A,2,none⟩=some (.int .i64 (lo:Nat)):=(by rw [<-HLO.out]; exact D1.out.ac.cell (j:=2) (by omega)); have k4:w1.cell? ⟨K,4,none⟩=some (.int .i64 (fi:Nat)):=(by rw [<-HFI.out]; exact CK.out.cell (j:=4) (by omega)); have k5:w1.cell? ⟨K,5,none⟩=some (.string z):=by rw [<-HZ.out,<-HDA.out]; exact CK.out.cell (j:=5) (by omega)))
    have GV:=Lib.hid (giveUp_any D1.out o HO.out pt HF.out (by rw [HBR.out]; omega))
    (refine GV.out.mono ?_)
    rintro e w2 ⟨⟨u,rfl⟩,D2',EZ⟩
    have D2:=Lib.hid D2'
    have kK:w2.heap[K]?=w1.heap[K]?:=EZ.rest K CK.out.lt (fun e=>by have:=HD.out.dt.lt; have:=HK.out; omega) (fun e=>by have:=HD.out.at'.lt; have:=HK.out; omega)
    have C2:=Lib.hid (CK.out.of_block kK)
    have T2:=Lib.hid (TK.out.of_block kK)
    have N2:=Lib.hid EZ.size
    have EZ2:=Lib.hid EZ
    have k4':w2.cell? ⟨K,4,none⟩=some (.int .i64 (fi:Nat)):=by rw [<-HFI.out]; exact C2.out.cell (j:=4) (by omega)
    have k5':w2.cell? ⟨K,5,none⟩=some (.string z):=by rw [<-HZ.out,<-HDA.out]; exact C2.out.cell (j:=5) (by omega)
    clear D2' EZ kK k4 k5
    have DX:=Lib.hid (show DS W0 D A (Ch.upd f (o + 3) (.string (bs q.1))) v { a with br:=q.2 } w2 from by
      obtain ⟨e1,e2⟩:=Q1.out l0
      have:=D2.out
      rw [HBR.out,Nat.zero_add] at this
      rw [e1,e2]
      exact this)
    go_wp2_with fail
    first | go_ret | go_end0 | refine bodyPost_end (results_none rfl _ _ _) rfl ?_ | refine bodyPost_ret (results_none rfl _ _ _) rfl ?_
    refine ⟨⟨_,rfl⟩,⟨v,?_⟩,((Ey.of_below BK.out).trans (Ey.of_ez EZ2.out))⟩
    rw [TC.out,if_pos f1,<-HLO.out]
    have:=DX.out
    show DS W0 D A _ v { a with pk:=[],br:=q.2 } w2
    rw [<-HPK.out]
    exact this
  have s1:((fi:Int) == (2046:Int))=false:=by rw [beq_eq_false_iff_ne]; omega
  have s1n:(fi == 2046)=false:=by rw [beq_eq_false_iff_ne]; exact f1
  by_cases f2:fi=2047
  · have s2:((fi:Int) == (2047:Int))=true:=by rw [beq_iff_eq]; omega
    have s2n:(fi == 2047)=true:=by rw [beq_iff_eq]; exact f2
    go_enter Tryz.func54,Tryz.ntmps54
    go_wp2_with (((with_reducible refine atList ?_); refine wpList_newT rfl (.box 100 (.tmp 1)) rfl (some 4) rfl #[.int .i64 fr.cr,.int .i64 fr.ch,.int .i64 fr.ma,.int .i64 fr.ct,.int .i64 fr.fi,.string fr.da,.int .u32 (fr.wo:Nat)] 100 (fun X=>.pointer (some ⟨X,0,none⟩)) 7 (tmCel fr) (tm_cells fr) (box_tmC rfl rfl) ?_; intro K w1 HK SK CK BK TK; have D1:=Lib.hid (HD.out.below BK.out); have cA2:w1.cell? ⟨A,2,none⟩=some (.int .i64 (lo:Nat)):=(by rw [<-HLO.out]; exact D1.out.ac.cell (j:=2) (by omega)); have k4:w1.cell? ⟨K,4,none⟩=some (.int .i64 (fi:Nat)):=(by rw [<-HFI.out]; exact CK.out.cell (j:=4) (by omega)); have k5:w1.cell? ⟨K,5,none⟩=some (.string z):=by rw [<-HZ.out,<-HDA.out]; exact CK.out.cell (j:=5) (by omega)))
    have GV:=Lib.hid (giveUp_any D1.out o HO.out pt HF.out (by rw [HBR.out]; omega))
    (refine GV.out.mono ?_)
    rintro e w2 ⟨⟨u,rfl⟩,D2',EZ⟩
    have D2:=Lib.hid D2'
    have kK:w2.heap[K]?=w1.heap[K]?:=EZ.rest K CK.out.lt (fun e=>by have:=HD.out.dt.lt; have:=HK.out; omega) (fun e=>by have:=HD.out.at'.lt; have:=HK.out; omega)
    have C2:=Lib.hid (CK.out.of_block kK)
    have T2:=Lib.hid (TK.out.of_block kK)
    have N2:=Lib.hid EZ.size
    have EZ2:=Lib.hid EZ
    have k4':w2.cell? ⟨K,4,none⟩=some (.int .i64 (fi:Nat)):=by rw [<-HFI.out]; exact C2.out.cell (j:=4) (by omega)
    have k5':w2.cell? ⟨K,5,none⟩=some (.string z):=by rw [<-HZ.out,<-HDA.out]; exact C2.out.cell (j:=5) (by omega)
    clear D2' EZ kK k4 k5
    have DX:=Lib.hid (show DS W0 D A (Ch.upd f (o + 3) (.string (bs q.1))) v { a with br:=q.2 } w2 from by
      obtain ⟨e1,e2⟩:=Q1.out l0
      have:=D2.out
      rw [HBR.out,Nat.zero_add] at this
      rw [e1,e2]
      exact this)
    go_wp2_with fail
    have GO1:=Lib.hid (goOn_any DX.out o HO.out q.1 d true (Ch.upd_same _ _ _) QL.out (by have:=HLN.out; omega) (by show q.2<=50; have:=Q2.out; omega) (by show a.pk.length<=_; rw [HPK.out]; exact Nat.zero_le _))
    rw [HZ.out] at GO1
    (refine GO1.out.mono ?_)
    rintro e w3 ⟨⟨u,rfl⟩,⟨v3,D3'⟩,EY'⟩
    have D3:=Lib.hid D3'
    have EY:=Lib.hid EY'
    clear D3' EY'
    go_wp2_with fail
    first | go_ret | go_end0 | refine bodyPost_end (results_none rfl _ _ _) rfl ?_ | refine bodyPost_ret (results_none rfl _ _ _) rfl ?_
    refine ⟨⟨_,rfl⟩,⟨v3,?_⟩,((Ey.of_below BK.out).trans (Ey.of_ez EZ2.out)).trans EY.out⟩
    rw [TC.out,if_neg f1,if_pos f2,<-HLO.out]
    have:=D3.out
    show DS W0 D A _ v3 { a with pk:=(Ch.goOn q.1 d true).2.1,br:=q.2 + (Ch.goOn q.1 d true).2.2 } w3
    rw [HPK.out,List.nil_append] at this
    exact this.congr (fun j hj=>by unfold Ch.upd; split <;> rfl)
  have s2:((fi:Int) == (2047:Int))=false:=by rw [beq_eq_false_iff_ne]; omega
  have s2n:(fi == 2047)=false:=by rw [beq_eq_false_iff_ne]; exact f2
  have EX1:z.extract 0 fi=bs (d.take fi):=by rw [<-HZ.out,bs_cut _ _ _ (Nat.zero_le _)]; rfl
  have fd:fi<=d.length:=by have:=HFL.out; omega
  have EX2:z.extract fi z.size=bs (d.drop fi):=by rw [<-HZ.out,bs_cut _ _ _ (by rw [bs_size]; omega),bs_size,List.take_of_length_le (Nat.le_refl _)]
  have fz:fi<=z.size:=by rw [<-HZ.out,bs_size]; exact fd
  go_enter Tryz.func54,Tryz.ntmps54
  go_wp2_with (((with_reducible refine atList ?_); refine wpList_newT rfl (.box 100 (.tmp 1)) rfl (some 4) rfl #[.int .i64 fr.cr,.int .i64 fr.ch,.int .i64 fr.ma,.int .i64 fr.ct,.int .i64 fr.fi,.string fr.da,.int .u32 (fr.wo:Nat)] 100 (fun X=>.pointer (some ⟨X,0,none⟩)) 7 (tmCel fr) (tm_cells fr) (box_tmC rfl rfl) ?_; intro K w1 HK SK CK BK TK; have D1:=Lib.hid (HD.out.below BK.out); have cA2:w1.cell? ⟨A,2,none⟩=some (.int .i64 (lo:Nat)):=(by rw [<-HLO.out]; exact D1.out.ac.cell (j:=2) (by omega)); have k4:w1.cell? ⟨K,4,none⟩=some (.int .i64 (fi:Nat)):=(by rw [<-HFI.out]; exact CK.out.cell (j:=4) (by omega)); have k5:w1.cell? ⟨K,5,none⟩=some (.string z):=by rw [<-HZ.out,<-HDA.out]; exact CK.out.cell (j:=5) (by omega)))
  have GV:=Lib.hid (giveUp_any D1.out o HO.out pt HF.out (by rw [HBR.out]; omega))
  (refine GV.out.mono ?_)
  rintro e w2 ⟨⟨u,rfl⟩,D2',EZ⟩
  have D2:=Lib.hid D2'
  have kK:w2.heap[K]?=w1.heap[K]?:=EZ.rest K CK.out.lt (fun e=>by have:=HD.out.dt.lt; have:=HK.out; omega) (fun e=>by have:=HD.out.at'.lt; have:=HK.out; omega)
  have C2:=Lib.hid (CK.out.of_block kK)
  have T2:=Lib.hid (TK.out.of_block kK)
  have N2:=Lib.hid EZ.size
  have EZ2:=Lib.hid EZ
  have k4':w2.cell? ⟨K,4,none⟩=some (.int .i64 (fi:Nat)):=by rw [<-HFI.out]; exact C2.out.cell (j:=4) (by omega)
  have k5':w2.cell? ⟨K,5,none⟩=some (.string z):=by rw [<-HZ.out,<-HDA.out]; exact C2.out.cell (j:=5) (by omega)
  clear D2' EZ kK k4 k5
  have DX:=Lib.hid (show DS W0 D A (Ch.upd f (o + 3) (.string (bs q.1))) v { a with br:=q.2 } w2 from by
    obtain ⟨e1,e2⟩:=Q1.out l0
    have:=D2.out
    rw [HBR.out,Nat.zero_add] at this
    rw [e1,e2]
    exact this)
  go_wp2_with fail
  have GO1:=Lib.hid (goOn_any DX.out o HO.out q.1 (d.take fi) false (Ch.upd_same _ _ _) QL.out (by rw [List.length_take]; have:=HLN.out; omega) (by show q.2<=50; have:=Q2.out; omega) (by show a.pk.length<=_; rw [HPK.out]; exact Nat.zero_le _))
  (refine GO1.out.mono ?_)
  rintro e w3 ⟨⟨u,rfl⟩,⟨v3,D3'⟩,EY'⟩
  have D3:=Lib.hid D3'
  have EY:=Lib.hid EY'
  clear D3' EY'
  have kK:w3.heap[K]?=w2.heap[K]?:=EY.out.rest K _ T2.out (by decide) (fun e=>by have:=HD.out.dt.lt; have:=HK.out; omega) (fun e=>by have:=HD.out.at'.lt; have:=HK.out; omega)
  have C3:=C2.out.of_block kK
  have k4a:w3.cell? ⟨K,4,none⟩=some (.int .i64 (fi:Nat)):=by rw [<-HFI.out]; exact C3.cell (j:=4) (by omega)
  have k5a:w3.cell? ⟨K,5,none⟩=some (.string z):=by rw [<-HZ.out,<-HDA.out]; exact C3.cell (j:=5) (by omega)
  have BGN:=Lib.hid (begin_any D3.out o HO.out (d.drop fi) (by rw [List.length_drop]; have:=HLN.out; omega) (by show q.2 + (Ch.goOn q.1 (d.take fi) false).2.2<=50; have:=Q2.out; have:=(Ch.goOn_le q.1 (d.take fi) false).1; omega) (by
    show (a.pk ++ (Ch.goOn q.1 (d.take fi) false).2.1).length<=1000
    rw [HPK.out,List.nil_append]
    exact Nat.le_trans (goOn_few _ _ _) (by omega)))
  clear kK C3
  go_wp2_with fail
  (refine BGN.out.mono ?_)
  rintro e w4 ⟨⟨u,rfl⟩,⟨v4,D4'⟩,EY4'⟩
  have D4:=Lib.hid D4'
  have EY4:=Lib.hid EY4'
  clear D4' EY4'
  go_wp2_with fail
  first | go_ret | go_end0 | refine bodyPost_end (results_none rfl _ _ _) rfl ?_ | refine bodyPost_ret (results_none rfl _ _ _) rfl ?_
  refine ⟨⟨_,rfl⟩,⟨v4,?_⟩,(((Ey.of_below BK.out).trans (Ey.of_ez EZ2.out)).trans EY.out).trans EY4.out⟩
  rw [TC.out,if_neg f1,if_neg f2,<-HLO.out]
  have:=D4.out
  show DS W0 D A _ v4 { a with pk:=(Ch.goOn q.1 (d.take fi) false).2.1 ++ (Ch.begin (d.drop fi)).2.1,br:=q.2 + (Ch.goOn q.1 (d.take fi) false).2.2 + (Ch.begin (d.drop fi)).2.2 } w4
  rw [HPK.out,List.nil_append] at this
  exact this.congr (fun j hj=>by unfold Ch.upd; split <;> rfl)
end Go.Proofs.YtchfkncbemjepaaGreat
