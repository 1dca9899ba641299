/- ChGoOn -/
import Derived.Test.YtchfkncbemjepaaGreatChArr
set_option linter.unusedVariables false
set_option maxRecDepth 100000
set_option maxHeartbeats 8000000
/- Layer 11, the landed demux: goOn. -/
namespace Go.Proofs.YtchfkncbemjepaaGreat
open Go.RowKit

theorem pkC_info:(Tryz.prog.info? 125).map (·.size)=some 5:=by kernel_rfl
theorem pkC_list (p:Pkt):∀ j,j < 5->([.bool p.cmd,.int .i64 p.ap,.int .i64 p.fl,.int .i64 p.ct,.string p.da]:List Value)[j]?=some (pkCel p j):=fun j hj=>by
  match j,hj with
  | 0,_=>rfl
  | 1,_=>rfl
  | 2,_=>rfl
  | 3,_=>rfl
  | 4,_=>rfl
theorem pkc_rangeC {w w':World} {J:Nat} {p:Pkt} {hC:Cel w J 5 (pkCel p)} (hb:Below w.heap.size w w'):w'.rangeAt J 0 [.bool p.cmd,.int .i64 p.ap,.int .i64 p.fl,.int .i64 p.ct,.string p.da]:=(hC.below hb).rangeAll _ rfl (pkC_list p)
theorem alloc_pkC {ev:Operand->Value} {o:Oper} {w:World} (h:o.op=.alloc 125):(execOp ev o).run Tryz.prog w=.ok (.value (.pointer (some ⟨w.heap.size,0,none⟩))) (w.alloc (.cells #[.bool false,.int .i64 0,.int .i64 0,.int .i64 0,.string ⟨#[]⟩] 125)):=by
  simp only [execOp,h]; go_simp
theorem bs_join (l m:List UInt8):bs l ++ bs m=bs (l ++ m):=by
  apply ByteArray.ext
  apply Array.toList_inj.1
  rw [ByteArray.data_append,Array.toList_append,bs_list,bs_list,bs_list]
structure GnRegion (G H J q:Nat) (p:Pkt) (z:ByteArray) (A:Act) (w0:World) (s:Nat->Bool) (a:Act) (w:World):Prop where
  off:Off [45,46,47,48,49,50] a A
  before:Below w0.heap.size w0 w
  t0:s 0=true->a.eval (.tmp 45)=pkVal p
  t1:s 1=true->a.eval (.tmp 46)=.pointer (some ⟨G,q,none⟩)
  t2:s 2=true->a.eval (.tmp 47)=.pointer (some ⟨G,q,none⟩)
  t3:s 3=true->a.eval (.tmp 48)=.pointer (some ⟨G,q + 3,none⟩)
  t4:s 4=true->a.eval (.tmp 49)=.string z
  t5:s 5=true->a.eval (.tmp 50)=.pointer (some ⟨H,0,none⟩)
theorem gnRegion {id:Nat} {l:List Oper} {A:Act} {w:World} {Q:Exit->Act->World->Prop} (G H J q:Nat) (p:Pkt) (z:ByteArray)
    (lG:G < w.heap.size) (cG:w.cell? ⟨G,q + 3,none⟩=some (.string z)) (hJ:Cel w J 5 (pkCel p))
    (hB:tableH l.toArray 6 (fun i=>match i with | 0=>[] | 1=>[] | 2=>[1] | 3=>[2] | 4=>[3] | 5=>[] | _=>[]) (fun _=>[])=true)
    (h0:pick l 0=some (.load 125 (.tmp 8),some 45))
    (h1:pick l 1=some (.move (.tmp 0),some 46))
    (h2:pick l 2=some (.nilCheck (.tmp 46),some 47))
    (h3:pick l 3=some (.fieldAddr 65 (.tmp 47) 2,some 48))
    (h4:pick l 4=some (.load 9 (.tmp 48),some 49))
    (h5:pick l 5=some (.move (.tmp 3),some 50))
    (hs:A.tmps.size=65)
    (x0:A.eval (.tmp 0)=.pointer (some ⟨G,q,none⟩))
    (x3:A.eval (.tmp 3)=.pointer (some ⟨H,0,none⟩))
    (x8:A.eval (.tmp 8)=.pointer (some ⟨J,0,none⟩))
    (h:∀ w1,Below w.heap.size w w1->wpList Tryz.prog l.toArray Q (l.drop 6) ((((((A.put (some 45) (pkVal p)).put (some 46) (.pointer (some ⟨G,q,none⟩))).put (some 47) (.pointer (some ⟨G,q,none⟩))).put (some 48) (.pointer (some ⟨G,q + 3,none⟩))).put (some 49) (.string z)).put (some 50) (.pointer (some ⟨H,0,none⟩))) w1):
    (Code.region id l.toArray true).wp Tryz.prog Q A w:=by
  refine wp_region_head (by kernel_rfl) _ _ _ hB (GnRegion G H J q p z A w) ⟨Off.refl _ _,(Below.refl _ _).drew,by simp,by simp,by simp,by simp,by simp,by simp⟩ ?_ ?_
  · intro s a w' S i' o il ho hsi hT K hK
    have sz:a.tmps.size=65:=by rw [S.off.2.1]; exact hs
    have y0:a.eval (.tmp 0)=.pointer (some ⟨G,q,none⟩):=by rw [S.off.eval (by decide)]; exact x0
    have y3:a.eval (.tmp 3)=.pointer (some ⟨H,0,none⟩):=by rw [S.off.eval (by decide)]; exact x3
    have y8:a.eval (.tmp 8)=.pointer (some ⟨J,0,none⟩):=by rw [S.off.eval (by decide)]; exact x8
    match i',il,ho,hsi,hT with
    | 0,_,ho,hsi,hT=>
      obtain ⟨e1,e2⟩:=pick_of h0 ho
      have BW:=S.before
      refine wp_load_mid 125 (.tmp 8) e1 J 0 y8 [.bool p.cmd,.int .i64 p.ap,.int .i64 p.fl,.int .i64 p.ct,.string p.da] _ (pkc_rangeC (hC:=hJ) BW) Tryz.underlying125 rfl pkC_info (hK _ _ ?_)
      rw [e2]
      exact ⟨ofp S.off,S.before,ev_ (by omega),kp S.t1,kp S.t2,kp S.t3,kp S.t4,kp S.t5⟩
    | 1,_,ho,hsi,hT=>
      obtain ⟨e1,e2⟩:=pick_of h1 ho
      refine step_val (v:=.pointer (some ⟨G,q,none⟩)) (by simp only [execOp,e1,y0]; go_simp) (hK _ _ ?_)
      rw [e2]
      exact ⟨ofp S.off,S.before,kp S.t0,ev_ (by omega),kp S.t2,kp S.t3,kp S.t4,kp S.t5⟩
    | 2,_,ho,hsi,hT=>
      obtain ⟨e1,e2⟩:=pick_of h2 ho
      have D1:s 1=true:=list_pos hT (d:=1) (by decide)
      refine step_val (v:=.pointer (some ⟨G,q,none⟩)) (by simp only [execOp,e1,S.t1 D1]; go_simp) (hK _ _ ?_)
      rw [e2]
      exact ⟨ofp S.off,S.before,kp S.t0,kp S.t1,ev_ (by omega),kp S.t3,kp S.t4,kp S.t5⟩
    | 3,_,ho,hsi,hT=>
      obtain ⟨e1,e2⟩:=pick_of h3 ho
      have D2:s 2=true:=list_pos hT (d:=2) (by decide)
      refine step_val (v:=.pointer (some ⟨G,q + 3,none⟩)) (by simp only [execOp,e1,S.t2 D2]; go_simp) (hK _ _ ?_)
      rw [e2]
      exact ⟨ofp S.off,S.before,kp S.t0,kp S.t1,kp S.t2,ev_ (by omega),kp S.t4,kp S.t5⟩
    | 4,_,ho,hsi,hT=>
      obtain ⟨e1,e2⟩:=pick_of h4 ho
      have D3:s 3=true:=list_pos hT (d:=3) (by decide)
      have BW:=S.before
      have cz:=(BW.cell (p:=⟨G,q + 3,none⟩) lG).trans cG
      refine step_val (v:=.string z) (by simp only [execOp,e1,S.t3 D3]; go_simp) (hK _ _ ?_)
      rw [e2]
      exact ⟨ofp S.off,S.before,kp S.t0,kp S.t1,kp S.t2,kp S.t3,ev_ (by omega),kp S.t5⟩
    | 5,_,ho,hsi,hT=>
      obtain ⟨e1,e2⟩:=pick_of h5 ho
      refine step_val (v:=.pointer (some ⟨H,0,none⟩)) (by simp only [execOp,e1,y3]; go_simp) (hK _ _ ?_)
      rw [e2]
      exact ⟨ofp S.off,S.before,kp S.t0,kp S.t1,kp S.t2,kp S.t3,kp S.t4,ev_ (by omega)⟩
    | _ + 6,il,_,_,_=>exact absurd il (by omega)
  intro s a w' S hall
  have a0:=hall 0 (by omega)
  have a1:=hall 1 (by omega)
  have a2:=hall 2 (by omega)
  have a3:=hall 3 (by omega)
  have a4:=hall 4 (by omega)
  have a5:=hall 5 (by omega)
  have e:=off_norm _ (by intro d hd; simp at hd; omega) S.off
  simp only [List.foldl,S.t0 a0,S.t1 a1,S.t2 a2,S.t3 a3,S.t4 a4,S.t5 a5] at e
  rw [e]
  exact h _ S.before
theorem Cel.cell' {w:World} {X n j:Nat} {f:Nat->Value} {u:Value} (C:Cel w X n f) (hj:j < n) (e:f j=u):w.cell? ⟨X,j,none⟩=some u:=by rw [<-e]; exact C.cell hj
theorem goOn_any {W0 w:World} {D A:Nat} {f:Nat->Value} {v:Value} {a:Ch.Av} (h:DS W0 D A f v a w) (o:Nat) (ho:o + 3 < 37) (pt more:List UInt8) (op:Bool) (hf:f (o + 3)=.string (bs pt)) (hp:pt.length<=1030) (hm:more.length<=1030) (hb:a.br<=50) (hn:a.pk.length<=1000000):
    Calls Tryz.prog 93 #[.pointer (some ⟨D,o,none⟩),.string (bs more),.bool op,.pointer (some ⟨A,0,none⟩)] w fun e w'=>(∃ u,e=.returned u)/\(∃ v',DS W0 D A (Ch.upd f (o + 3) (.string (bs (Ch.goOn pt more op).1))) v' { a with pk:=a.pk ++ (Ch.goOn pt more op).2.1,br:=a.br + (Ch.goOn pt more op).2.2 } w')/\Ey D A w w':=by
  have HD:=Lib.hid h
  have c3:w.cell? ⟨D,o + 3,none⟩=some (.string (bs pt)):=by rw [<-hf]; exact h.dc.cell ho
  by_cases g:pt=[]
  · subst g
    rw [bs_nil] at c3
    have R:=Lib.hid (show DS W0 D A (Ch.upd f (o + 3) (.string (bs (Ch.goOn [] more op).1))) v { a with pk:=a.pk ++ (Ch.goOn [] more op).2.1,br:=a.br + (Ch.goOn [] more op).2.2 } w from by
      have e:Ch.goOn [] more op=([],[],0):=if_pos rfl
      rw [e,List.append_nil]
      exact h.congr (fun j hj=>by
        unfold Ch.upd
        split
        · rename_i e; rw [e,hf]
        rfl))
    clear h hf
    go_enter Tryz.func93,Tryz.ntmps93
    go_wp2_with fail
    first | go_ret | go_end0 | refine bodyPost_end (results_none rfl _ _ _) rfl ?_ | refine bodyPost_ret (results_none rfl _ _ _) rfl ?_
    exact ⟨⟨_,rfl⟩,⟨v,R.out⟩,Ey.refl⟩
  have q1:=bs_full g
  have HO:=Lib.hid ho
  have HB:=Lib.hid (show a.br<=100 by omega)
  have HNP:=Lib.hid hn
  obtain ⟨q,hq⟩:∃ q,pt ++ more=q:=⟨_,rfl⟩
  have NE:=Lib.hid (show q ≠ [] from fun e=>g (List.append_eq_nil_iff.1 (hq.trans e)).1)
  have QL:=Lib.hid (show q.length<=2060 by rw [<-hq,List.length_append]; omega)
  have zz:bs pt ++ bs more=bs q:=by rw [bs_join,hq]
  have TK:=Lib.hid (fun w=>ptake_any (bs q) (by rw [bs_size]; have:=QL.out; omega) w)
  rw [bs_list] at TK
  have GO:=Lib.hid (show Ch.goOn pt more op=(match Pk.take q with | .ok p k=>if k=q.length then ([],Ch.kept [(p,q)],0) else ([],[],1) | .none=>if op=true then (q,[],0) else ([],[],1) | .form=>([],[],1)) by
    unfold Ch.goOn; rw [if_neg g,hq]; rfl)
  obtain ⟨z1,hz1⟩:∃ z,bs pt=z:=⟨_,rfl⟩
  obtain ⟨z2,hz2⟩:∃ z,bs more=z:=⟨_,rfl⟩
  obtain ⟨z3,hz3⟩:∃ z,bs q=z:=⟨_,rfl⟩
  rw [hz1] at c3 q1 zz
  rw [hz2] at zz
  rw [hz3] at zz TK
  rw [hz2]
  obtain ⟨N,hN⟩:∃ n,q.length=n:=⟨_,rfl⟩
  have zs:z3.size=N:=by rw [<-hz3,bs_size,hN]
  have HZ:=Lib.hid hz3
  have HQN:=Lib.hid hN
  have q2:(z1 != (⟨#[]⟩:ByteArray))=true:=by show (!(z1 == _))=true; rw [q1]; rfl
  have q3:(z1.toList == (⟨#[]⟩:ByteArray).toList)=false:=by rw [<-beq_toListBytes,q1]
  have q5:z1.toList.isEmpty=false:=by
    cases hh:z1.toList with
    | nil=>rw [hh] at q3; simp at q3
    | cons x l=>rfl
  have sz12:¬ 9223372036854775807 < z1.size + z2.size:=by rw [<-hz1,<-hz2,bs_size,bs_size]; omega
  have HZZ:=Lib.hid zz
  clear h hf hz1 hz2 hz3 g ho hb hn hp hm hq zz
  cases hT:Pk.take q with
  | ok p k=>
    rw [hT] at TK GO
    unfold tkV at TK
    by_cases hk:k=N
    · have t9:((k:Int) == (N:Int))=true:=by rw [beq_iff_eq]; omega
      have t9n:(k == N)=true:=by rw [beq_iff_eq]; exact hk
      have RS:=Lib.hid (show Ch.goOn pt more op=([],Ch.kept [(p,q)],0) by rw [GO.out]; exact if_pos (hk.trans HQN.out.symm))
      clear hk hT GO
      go_enter Tryz.func93,Tryz.ntmps93
      go_wp2_with (((with_reducible refine atList ?_); refine wpList_setT rfl (.store 9 (.tmp 23) (.tmp 21)) rfl D (o + 3) 37 (.string z3) _ (Ch.upd f (o + 3) (.string z3)) HD.out.dc HO.out (fun j hj=>rfl) ?_ ?_; exact store_strC rfl rfl (congrArg Value.string HZZ.out) (HD.out.dc.cell HO.out) (HD.out.dc.frozen HO.out); intro w1 C1 U1 S1 V1; have D1:=Lib.hid (HD.out.setD U1.out C1.out (V1.out _ HD.out.dt)); have c3':w1.cell? ⟨D,o + 3,none⟩=some (.string z3):=D1.out.dc.cell' HO.out (Ch.upd_same f (o + 3) (Value.string z3))))
      (refine (TK.out w1).mono ?_)
      rintro e w2 ⟨rfl,b2⟩
      have D2:=Lib.hid (D1.out.below b2)
      have B2:=Lib.hid b2
      clear b2
      go_wp2_with (first
        | ((with_reducible refine atList ?_); refine wpList_newT rfl (.alloc 125) rfl (some 8) rfl #[.bool false,.int .i64 0,.int .i64 0,.int .i64 0,.string ⟨#[]⟩] 125 (fun X=>.pointer (some ⟨X,0,none⟩)) 5 (pkCel pk0) (pkC_cells pk0) (alloc_pkC rfl) ?_; intro K w3 HK SK CK BK TK; have D3:=Lib.hid (D2.out.below BK.out))
        | ((with_reducible refine atList ?_); refine wpList_setAllT rfl 125 (.tmp 8) (.tmp 30) rfl K 5 [.bool p.cmd,.int .i64 p.ap,.int .i64 p.fl,.int .i64 p.ct,.string p.da] _ (pkCel p) CK.out rfl (pkC_list p) rfl rfl pkC_info (by simp [Value.oneCell']) ?_; intro w4 C4 U4 S4 V4; have D4:=Lib.hid (D2.out.below (But.under BK.out U4.out (Nat.le_of_eq HK.out))); have c4':w4.cell? ⟨D,o + 3,none⟩=some (.string z3):=D4.out.dc.cell' HO.out (Ch.upd_same f (o + 3) (Value.string z3))))
      have CK4:=Lib.hid C4.out
      refine gnRegion D A K o p z3 D4.out.dt.lt (D4.out.dc.cell' HO.out (Ch.upd_same f (o + 3) (Value.string z3))) CK4.out (by kernel_rfl) rfl rfl rfl rfl rfl rfl rfl rfl rfl rfl ?_
      intro w5 b5
      have D5:=Lib.hid (D4.out.below b5)
      have B5w:=Lib.hid b5
      have AV:=Lib.hid (arrive_any D5.out p q (by have:=QL.out; omega) HNP.out)
      rw [HZ.out] at AV
      clear b5
      simp only [Act.put,List.setIfInBounds_toArray,List.set_cons_succ,List.set_cons_zero,List.drop_succ_cons,List.drop_zero]
      go_wp2_with fail
      (refine AV.out.mono ?_)
      rintro e w6 ⟨⟨u,rfl⟩,⟨v6,D6'⟩,EX⟩
      have D6:=Lib.hid D6'
      have HEX:=Lib.hid EX
      clear D6' EX
      go_wp2_with (((with_reducible refine atList ?_); refine wpList_setT rfl (.store 9 (.tmp 54) (.const (.string ⟨#[]⟩))) rfl D (o + 3) 37 (.string ⟨#[]⟩) _ (Ch.upd f (o + 3) (.string ⟨#[]⟩)) D6.out.dc HO.out (fun j hj=>by unfold Ch.upd; split <;> rfl) ?_ ?_; exact store_strC rfl rfl rfl (D6.out.dc.cell HO.out) (D6.out.dc.frozen HO.out); intro w7 C7 U7 S7 V7))
      first | go_ret | go_end0 | refine bodyPost_end (results_none rfl _ _ _) rfl ?_ | refine bodyPost_ret (results_none rfl _ _ _) rfl ?_
      refine ⟨⟨_,rfl⟩,⟨v6,?_⟩,(((((Ey.of_but U1.out).trans (Ey.of_below B2.out)).trans (Ey.of_below (But.under BK.out U4.out (Nat.le_of_eq HK.out)))).trans (Ey.of_below B5w.out)).trans (Ey.of_ex D5.out.row HEX.out)).trans (Ey.of_but U7.out)⟩
      rw [RS.out]
      exact D6.out.setD U7.out C7.out (V7.out _ D6.out.dt)
    have t9:((k:Int) == (N:Int))=false:=by rw [beq_eq_false_iff_ne]; omega
    have t9n:(k == N)=false:=by rw [beq_eq_false_iff_ne]; exact hk
    have RS:Ch.goOn pt more op=([],[],1):=by rw [GO.out]; exact if_neg (fun e=>hk (e.trans HQN.out))
    clear hk hT GO
    go_enter Tryz.func93,Tryz.ntmps93
    go_wp2_with (((with_reducible refine atList ?_); refine wpList_setT rfl (.store 9 (.tmp 23) (.tmp 21)) rfl D (o + 3) 37 (.string z3) _ (Ch.upd f (o + 3) (.string z3)) HD.out.dc HO.out (fun j hj=>rfl) ?_ ?_; exact store_strC rfl rfl (congrArg Value.string HZZ.out) (HD.out.dc.cell HO.out) (HD.out.dc.frozen HO.out); intro w1 C1 U1 S1 V1; have D1:=Lib.hid (HD.out.setD U1.out C1.out (V1.out _ HD.out.dt)); have c3':w1.cell? ⟨D,o + 3,none⟩=some (.string z3):=D1.out.dc.cell' HO.out (Ch.upd_same f (o + 3) (Value.string z3))))
    (refine (TK.out w1).mono ?_)
    rintro e w2 ⟨rfl,b2⟩
    have D2:=Lib.hid (D1.out.below b2)
    have B2:=Lib.hid b2
    clear b2
    go_wp2_with (first
      | ((with_reducible refine atList ?_); refine wpList_newT rfl (.alloc 125) rfl (some 8) rfl #[.bool false,.int .i64 0,.int .i64 0,.int .i64 0,.string ⟨#[]⟩] 125 (fun X=>.pointer (some ⟨X,0,none⟩)) 5 (pkCel pk0) (pkC_cells pk0) (alloc_pkC rfl) ?_; intro K w3 HK SK CK BK TK; have D3:=Lib.hid (D2.out.below BK.out))
      | ((with_reducible refine atList ?_); refine wpList_setAllT rfl 125 (.tmp 8) (.tmp 30) rfl K 5 [.bool p.cmd,.int .i64 p.ap,.int .i64 p.fl,.int .i64 p.ct,.string p.da] _ (pkCel p) CK.out rfl (pkC_list p) rfl rfl pkC_info (by simp [Value.oneCell']) ?_; intro w4 C4 U4 S4 V4; have D4:=Lib.hid (D2.out.below (But.under BK.out U4.out (Nat.le_of_eq HK.out))); have c4':w4.cell? ⟨D,o + 3,none⟩=some (.string z3):=D4.out.dc.cell' HO.out (Ch.upd_same f (o + 3) (Value.string z3))))
    have GV:=Lib.hid (giveUp_any D4.out o HO.out q (by rw [HZ.out]; exact Ch.upd_same f (o + 3) (Value.string z3)) HB.out)
    (refine GV.out.mono ?_)
    rintro e w5 ⟨⟨u,rfl⟩,D5,EZ⟩
    have HEZ:=Lib.hid EZ
    have GN:=Lib.hid (show gup q=1 from if_neg NE.out)
    have RES:=Lib.hid RS
    have D5':=Lib.hid D5
    clear D5 RS EZ
    go_wp2_with fail
    first | go_ret | go_end0 | refine bodyPost_end (results_none rfl _ _ _) rfl ?_ | refine bodyPost_ret (results_none rfl _ _ _) rfl ?_
    refine ⟨⟨_,rfl⟩,⟨v,?_⟩,(((Ey.of_but U1.out).trans (Ey.of_below B2.out)).trans (Ey.of_below (But.under BK.out U4.out (Nat.le_of_eq HK.out)))).trans (Ey.of_ez HEZ.out)⟩
    rw [RES.out]
    have:=D5'.out
    rw [GN.out] at this
    rw [List.append_nil]
    exact this.congr (fun j hj=>by unfold Ch.upd; split <;> rfl)
  | none=>
    rw [hT] at TK GO
    unfold tkV at TK
    cases op with
    | true=>
      have RS:=Lib.hid (show Ch.goOn pt more true=(q,[],0) by rw [GO.out]; exact if_pos rfl)
      clear hT GO
      go_enter Tryz.func93,Tryz.ntmps93
      go_wp2_with (((with_reducible refine atList ?_); refine wpList_setT rfl (.store 9 (.tmp 23) (.tmp 21)) rfl D (o + 3) 37 (.string z3) _ (Ch.upd f (o + 3) (.string z3)) HD.out.dc HO.out (fun j hj=>rfl) ?_ ?_; exact store_strC rfl rfl (congrArg Value.string HZZ.out) (HD.out.dc.cell HO.out) (HD.out.dc.frozen HO.out); intro w1 C1 U1 S1 V1; have D1:=Lib.hid (HD.out.setD U1.out C1.out (V1.out _ HD.out.dt)); have c3':w1.cell? ⟨D,o + 3,none⟩=some (.string z3):=D1.out.dc.cell' HO.out (Ch.upd_same f (o + 3) (Value.string z3))))
      (refine (TK.out w1).mono ?_)
      rintro e w2 ⟨rfl,b2⟩
      have D2:=Lib.hid (D1.out.below b2)
      have B2:=Lib.hid b2
      clear b2
      go_wp2_with (first
        | ((with_reducible refine atList ?_); refine wpList_newT rfl (.alloc 125) rfl (some 8) rfl #[.bool false,.int .i64 0,.int .i64 0,.int .i64 0,.string ⟨#[]⟩] 125 (fun X=>.pointer (some ⟨X,0,none⟩)) 5 (pkCel pk0) (pkC_cells pk0) (alloc_pkC rfl) ?_; intro K w3 HK SK CK BK TK; have D3:=Lib.hid (D2.out.below BK.out))
        | ((with_reducible refine atList ?_); refine wpList_setAllT rfl 125 (.tmp 8) (.tmp 30) rfl K 5 [.bool false,.int .i64 0,.int .i64 0,.int .i64 0,.string ⟨#[]⟩] _ (pkCel pk0) CK.out rfl (pkC_list pk0) rfl rfl pkC_info (by simp [Value.oneCell']) ?_; intro w4 C4 U4 S4 V4; have D4:=Lib.hid (D2.out.below (But.under BK.out U4.out (Nat.le_of_eq HK.out))); have c4':w4.cell? ⟨D,o + 3,none⟩=some (.string z3):=D4.out.dc.cell' HO.out (Ch.upd_same f (o + 3) (Value.string z3))))
      first | go_ret | go_end0 | refine bodyPost_end (results_none rfl _ _ _) rfl ?_ | refine bodyPost_ret (results_none rfl _ _ _) rfl ?_
      refine ⟨⟨_,rfl⟩,⟨v,?_⟩,((Ey.of_but U1.out).trans (Ey.of_below B2.out)).trans (Ey.of_below (But.under BK.out U4.out (Nat.le_of_eq HK.out)))⟩
      rw [RS.out,List.append_nil]
      show DS W0 D A (Ch.upd f (o + 3) (.string (bs q))) v a _
      rw [HZ.out]
      exact D4.out
    | false=>
      have RS:Ch.goOn pt more false=([],[],1):=by rw [GO.out]; exact if_neg (by decide)
      clear hT GO
      go_enter Tryz.func93,Tryz.ntmps93
      go_wp2_with (((with_reducible refine atList ?_); refine wpList_setT rfl (.store 9 (.tmp 23) (.tmp 21)) rfl D (o + 3) 37 (.string z3) _ (Ch.upd f (o + 3) (.string z3)) HD.out.dc HO.out (fun j hj=>rfl) ?_ ?_; exact store_strC rfl rfl (congrArg Value.string HZZ.out) (HD.out.dc.cell HO.out) (HD.out.dc.frozen HO.out); intro w1 C1 U1 S1 V1; have D1:=Lib.hid (HD.out.setD U1.out C1.out (V1.out _ HD.out.dt)); have c3':w1.cell? ⟨D,o + 3,none⟩=some (.string z3):=D1.out.dc.cell' HO.out (Ch.upd_same f (o + 3) (Value.string z3))))
      (refine (TK.out w1).mono ?_)
      rintro e w2 ⟨rfl,b2⟩
      have D2:=Lib.hid (D1.out.below b2)
      have B2:=Lib.hid b2
      clear b2
      go_wp2_with (first
        | ((with_reducible refine atList ?_); refine wpList_newT rfl (.alloc 125) rfl (some 8) rfl #[.bool false,.int .i64 0,.int .i64 0,.int .i64 0,.string ⟨#[]⟩] 125 (fun X=>.pointer (some ⟨X,0,none⟩)) 5 (pkCel pk0) (pkC_cells pk0) (alloc_pkC rfl) ?_; intro K w3 HK SK CK BK TK; have D3:=Lib.hid (D2.out.below BK.out))
        | ((with_reducible refine atList ?_); refine wpList_setAllT rfl 125 (.tmp 8) (.tmp 30) rfl K 5 [.bool false,.int .i64 0,.int .i64 0,.int .i64 0,.string ⟨#[]⟩] _ (pkCel pk0) CK.out rfl (pkC_list pk0) rfl rfl pkC_info (by simp [Value.oneCell']) ?_; intro w4 C4 U4 S4 V4; have D4:=Lib.hid (D2.out.below (But.under BK.out U4.out (Nat.le_of_eq HK.out))); have c4':w4.cell? ⟨D,o + 3,none⟩=some (.string z3):=D4.out.dc.cell' HO.out (Ch.upd_same f (o + 3) (Value.string z3))))
      have GV:=Lib.hid (giveUp_any D4.out o HO.out q (by rw [HZ.out]; exact Ch.upd_same f (o + 3) (Value.string z3)) HB.out)
      (refine GV.out.mono ?_)
      rintro e w5 ⟨⟨u,rfl⟩,D5,EZ⟩
      have HEZ:=Lib.hid EZ
      have GN:=Lib.hid (show gup q=1 from if_neg NE.out)
      have RES:=Lib.hid RS
      have D5':=Lib.hid D5
      clear D5 RS EZ
      go_wp2_with fail
      first | go_ret | go_end0 | refine bodyPost_end (results_none rfl _ _ _) rfl ?_ | refine bodyPost_ret (results_none rfl _ _ _) rfl ?_
      refine ⟨⟨_,rfl⟩,⟨v,?_⟩,(((Ey.of_but U1.out).trans (Ey.of_below B2.out)).trans (Ey.of_below (But.under BK.out U4.out (Nat.le_of_eq HK.out)))).trans (Ey.of_ez HEZ.out)⟩
      rw [RES.out]
      have:=D5'.out
      rw [GN.out] at this
      rw [List.append_nil]
      exact this.congr (fun j hj=>by unfold Ch.upd; split <;> rfl)
  | form=>
    rw [hT] at TK GO
    unfold tkV at TK
    have RS:Ch.goOn pt more op=([],[],1):=GO.out
    clear hT GO
    go_enter Tryz.func93,Tryz.ntmps93
    go_wp2_with (((with_reducible refine atList ?_); refine wpList_setT rfl (.store 9 (.tmp 23) (.tmp 21)) rfl D (o + 3) 37 (.string z3) _ (Ch.upd f (o + 3) (.string z3)) HD.out.dc HO.out (fun j hj=>rfl) ?_ ?_; exact store_strC rfl rfl (congrArg Value.string HZZ.out) (HD.out.dc.cell HO.out) (HD.out.dc.frozen HO.out); intro w1 C1 U1 S1 V1; have D1:=Lib.hid (HD.out.setD U1.out C1.out (V1.out _ HD.out.dt)); have c3':w1.cell? ⟨D,o + 3,none⟩=some (.string z3):=D1.out.dc.cell' HO.out (Ch.upd_same f (o + 3) (Value.string z3))))
    (refine (TK.out w1).mono ?_)
    rintro e w2 ⟨rfl,b2⟩
    have D2:=Lib.hid (D1.out.below b2)
    have B2:=Lib.hid b2
    clear b2
    go_wp2_with (first
      | ((with_reducible refine atList ?_); refine wpList_newT rfl (.alloc 125) rfl (some 8) rfl #[.bool false,.int .i64 0,.int .i64 0,.int .i64 0,.string ⟨#[]⟩] 125 (fun X=>.pointer (some ⟨X,0,none⟩)) 5 (pkCel pk0) (pkC_cells pk0) (alloc_pkC rfl) ?_; intro K w3 HK SK CK BK TK; have D3:=Lib.hid (D2.out.below BK.out))
      | ((with_reducible refine atList ?_); refine wpList_setAllT rfl 125 (.tmp 8) (.tmp 30) rfl K 5 [.bool false,.int .i64 0,.int .i64 0,.int .i64 0,.string ⟨#[]⟩] _ (pkCel pk0) CK.out rfl (pkC_list pk0) rfl rfl pkC_info (by simp [Value.oneCell']) ?_; intro w4 C4 U4 S4 V4; have D4:=Lib.hid (D2.out.below (But.under BK.out U4.out (Nat.le_of_eq HK.out))); have c4':w4.cell? ⟨D,o + 3,none⟩=some (.string z3):=D4.out.dc.cell' HO.out (Ch.upd_same f (o + 3) (Value.string z3))))
    have GV:=Lib.hid (giveUp_any D4.out o HO.out q (by rw [HZ.out]; exact Ch.upd_same f (o + 3) (Value.string z3)) HB.out)
    (refine GV.out.mono ?_)
    rintro e w5 ⟨⟨u,rfl⟩,D5,EZ⟩
    have HEZ:=Lib.hid EZ
    have GN:=Lib.hid (show gup q=1 from if_neg NE.out)
    have RES:=Lib.hid RS
    have D5':=Lib.hid D5
    clear D5 RS EZ
    go_wp2_with fail
    first | go_ret | go_end0 | refine bodyPost_end (results_none rfl _ _ _) rfl ?_ | refine bodyPost_ret (results_none rfl _ _ _) rfl ?_
    refine ⟨⟨_,rfl⟩,⟨v,?_⟩,(((Ey.of_but U1.out).trans (Ey.of_below B2.out)).trans (Ey.of_below (But.under BK.out U4.out (Nat.le_of_eq HK.out)))).trans (Ey.of_ez HEZ.out)⟩
    rw [RES.out]
    have:=D5'.out
    rw [GN.out] at this
    rw [List.append_nil]
    exact this.congr (fun j hj=>by unfold Ch.upd; split <;> rfl)
end Go.Proofs.YtchfkncbemjepaaGreat
