/- ChBegin -/
import Derived.RangeFuncNested
import Derived.RangeFuncBound
import Derived.RangeFuncCalls
import Derived.RangeFuncLeaves
import Derived.Shelf.Abstract
import Derived.Shelf.RegionOpen
import Derived.WalkKit
import Derived.OwnWalkIn
import Derived.TacticsInMore
import Derived.LoopNIn
import Derived.LoopIn
import Derived.Lib.Hide
import Derived.Test.YtchfkncbemjepaaGreatRangeR
import Derived.Test.YtchfkncbemjepaaGreatChGoOn
set_option linter.unusedVariables false
set_option maxRecDepth 100000
set_option maxHeartbeats 8000000
/- Layer 11, the landed demux: packets, an iterator over the packets with which a string begins. -/
namespace Go.Proofs.YtchfkncbemjepaaGreat
open Go.RowKit Go.Shelf
attribute [local go_sem] Oper.semAt_some

section
variable {P:Program} {F:Fence} {nF:Nat} {ops:Array Oper} {rest:List Oper} {op:Oper} {a:Act} {w:World} {Q:Exit->Act->World->Prop}
theorem wpListIn_newT (hgd:op.guard=none) (OP:Op) (ho:op.op=OP) (hnd:∀ c,OP ≠ .defer c) (hab:op.about P w a.eval=none) (cs:Array Value) (t:TypeId) (mk:Nat->Value) (n:Nat) (f:Nat->Value) (hf:∀ j,j < n->cs[j]?=some (f j))
    (hrun:(execOp a.eval op).run P w=.ok (.value (mk w.heap.size)) (w.alloc (.cells cs t)))
    (K:∀ X w',Hid (w.heap.size=X)->Hid (Cel w' X n f)->Hid (Below w.heap.size w w')->Hid (TyB w' X t)->wpListIn F nF P ops Q rest (a.put op.dst (mk X)) w'):wpListIn F nF P ops Q (op :: rest) a w:=
  wpListIn_plain hgd fun _ hK=>by
    unfold Oper.wpIn
    refine ⟨fun _ h=>(by rw [hab] at h; cases h),?_⟩
    rw [Oper.semAt_plain F _ _ (by rw [ho]; exact hnd),hrun]
    exact hK _ _ (K w.heap.size _ (Lib.hid rfl) (Lib.hid (Cel.new w cs t hf)) (Lib.hid (ba (Below.refl _ _) _)) (Lib.hid ⟨cs,_,heap_alloc_last w _⟩))
theorem wpListIn_setAllT (hgd:op.guard=none) (ty:TypeId) (x y:Operand) (ho:op.op=.store ty x y) (hab:op.about P w a.eval=none) (X n:Nat) (vs:List Value) (f g:Nat->Value) (C:Cel w X n f) (hn:vs.length=n) (hg:∀ j,j < n->vs[j]?=some (g j))
    (hx:a.eval x=.pointer (some ⟨X,0,none⟩)) (hy:a.eval y=.agg vs.toArray) (hi:(P.info? ty).map (·.size)=some n) (h1:vs.all (·.oneCell')=true)
    (K:∀ w',Hid (Cel w' X n g)->Hid (But X w w')->Hid (∀ t,TyB w X t->TyB w' X t)->wpListIn F nF P ops Q rest (a.put op.dst undef) w'):wpListIn F nF P ops Q (op :: rest) a w:=
  wpListIn_plain hgd fun _ hK=>by
    have there:w.there X 0 vs.toArray.size:=C.there 0 _ (by simp [hn])
    unfold Oper.wpIn
    refine ⟨fun _ h=>(by rw [hab] at h; cases h),?_⟩
    rw [Oper.semAt_plain F _ _ (by rw [ho]; intro c hc'; cases hc')]
    unfold execOp
    simp only [ho,hx,hy,Instr.storeAt,Instr.sureAddr,Sem.run_bind,Sem.run_pure,Result.andThen_ok,run_storeVar_mid w X 0 ty vs.toArray there (by rw [hi]; simp [hn]) (by simpa using h1)]
    refine hK _ _ (K _ (Lib.hid ?_) (Lib.hid (But.of_setCells X _ _ _)) (Lib.hid (fun t h=>tyB_setCells X t _ _ _ h)))
    refine (C.setMany 0 vs (by omega) undef).congr (fun j hj=>?_)
    rw [if_pos (by omega),Nat.sub_zero,List.getD_eq_getElem?_getD,hg j hj]
    rfl
end
theorem packets_any (z:ByteArray) (w:World):Calls Tryz.prog 122 #[.string z] w fun e w'=>e=.returned (.func (.func 142) #[] #[.pointer (some ⟨w.heap.size,0,none⟩)])/\w'=w.alloc (.cells #[.string z] 9):=by
  go_enter Tryz.func122,Tryz.ntmps122
  go_wp2_with fail
  go_ret
  exact ⟨rfl,rfl⟩
theorem bs_cut (l:List UInt8) (i j:Nat) (h:i<=j):(bs l).extract i j=bs ((l.take j).drop i):=by
  apply ByteArray.ext
  apply Array.toList_inj.1
  rw [ext_list _ _ _ h,bs_list,bs_list]
theorem atListIn {F:Fence} {nF:Nat} {P:Program} {ops:Array Oper} {l:List Oper} {a:Act} {w:World} {Q:Exit->Act->World->Prop} (h:wpListIn F nF P ops Q l a w):wpListIn F nF P ops Q l a w:=h
theorem grown_below {w w':World} (h:Below w.heap.size w w'):w.grownBy w' none:=⟨h.os,h.tape,h.output,h.size,fun k hk _=>h.block k hk⟩
def encP (x:Pkt × List UInt8):Array Value:=#[pkVal x.1,.string (bs x.2)]
theorem packets1_in (n:Nat) (hn:1<=n) (l B0:Nat) (d:List UInt8) (hd:d.length<=1030) (J:List (Pkt × List UInt8)->World->Prop) (W:World) (hJ:AbidesFrom W.heap.size J)
    (hY:∀ pre x W1,(∃ rest,(Ch.pks d.length d).1=pre ++ x :: rest)->J pre W1->YieldAt Fence.wide (n - 1) Tryz.prog l (encP x) W1 fun e W'=>e=.returned (.bool true)/\J (pre ++ [x]) W')
    (b0:W.cell? ⟨B0,0,none⟩=some (.string (bs d))) (h0:J [] W):
    CallsIn Fence.wide n Tryz.prog 142 #[.func (.yield l) #[] #[],.pointer (some ⟨B0,0,none⟩)] W fun e W'=>(∃ v,e=.returned v)/\∃ xs,xs=(Ch.pks d.length d).1/\J xs W':=by
  have HY:=Lib.hid hY
  have HJ0:=Lib.hid h0
  have TKA:=Lib.hid (fun (q:List UInt8) (h:q.length<=1030) w=>by
    have:=ptake_any (bs q) (by rw [bs_size]; omega) w
    rw [bs_list] at this
    exact this)
  clear hY h0
  refine callsIn_of_wp Tryz.func142 rfl trivial ?_ rfl
  simp only [Tryz.ntmps142,List.size_toArray,List.length_cons,List.length_nil,Nat.reduceAdd,Nat.reduceSub,Array.replicate_succ,Array.replicate_zero,List.push_toArray,List.append_toArray,List.nil_append,List.cons_append]
  gi_wp2
  gi_loopw [3] (fun x wr=>∃ (pre:List (Pkt × List UInt8)) (q:List UInt8),x=.string (bs q)/\pre.length + q.length<=d.length/\(Ch.pks d.length d).1=pre ++ (Ch.pks q.length q).1/\J pre wr) (fun x _=>match x with | .string z=>z.size | _=>0)
  case atStart=>exact ⟨[],d,rfl,by simp,rfl,HJ0.out⟩
  case round=>
    obtain ⟨pre,q,rfl,hl,he,hj⟩:=hrel
    have HJ:=Lib.hid hj
    have HL:=Lib.hid hl
    have HE:=Lib.hid he
    have qs:q.length<=1030:=by omega
    have TK:=Lib.hid (TKA.out q qs wr)
    obtain ⟨z,hz⟩:∃ z,bs q=z:=⟨_,rfl⟩
    have ZS:=Lib.hid (show z.size=q.length by rw [<-hz,bs_size])
    have HZ:=Lib.hid hz
    rw [hz] at TK ⊢
    clear hj hl he hz
    rcases hT:Pk.take q with ⟨p,k⟩ | _ | _
    · rw [hT] at TK
      unfold tkV at TK
      obtain ⟨k7,kl,-,-,-⟩:=Ch.take_pos hT
      have PK:=Lib.hid (show (Ch.pks q.length q).1=(p,q.take k) :: (Ch.pks (q.drop k).length (q.drop k)).1 by
        obtain ⟨m,hm⟩:∃ m,q.length=m + 1:=⟨q.length - 1,by omega⟩
        rw [hm,Ch.pks_ok hT,Ch.pks_more m (q.drop k).length (q.drop k) (by rw [List.length_drop]; omega) (Nat.le_refl _)])
      have EX1:z.extract 0 k=bs (q.take k):=by rw [<-HZ.out,bs_cut _ _ _ (Nat.zero_le _)]; rfl
      have EX2:z.extract k z.size=bs (q.drop k):=by rw [<-HZ.out,bs_cut _ _ _ (by rw [bs_size]; omega),bs_size,List.take_of_length_le (Nat.le_refl _)]
      have KN:=Lib.hid (And.intro k7 kl)
      have kz:k<=z.size:=by rw [ZS.out]; exact kl
      gi_wp2
      refine ⟨trivial,(callsIn_wide.2 TK.out).mono ?_⟩
      rintro e w2 ⟨rfl,b2⟩
      have B2:=Lib.hid b2
      clear b2
      gi_wp2_with (first
        | ((with_reducible refine atListIn ?_); refine wpListIn_newT rfl (.alloc 125) rfl (fun c h=>by cases h) rfl #[.bool false,.int .i64 0,.int .i64 0,.int .i64 0,.string ⟨#[]⟩] 125 (fun X=>.pointer (some ⟨X,0,none⟩)) 5 (pkCel pk0) (pkC_cells pk0) (alloc_pkC rfl) ?_; intro X w3 HX CX BX TX)
        | ((with_reducible refine atListIn ?_); refine wpListIn_setAllT rfl 125 (.tmp 4) (.tmp 11) rfl rfl X 5 [.bool p.cmd,.int .i64 p.ap,.int .i64 p.fl,.int .i64 p.ct,.string p.da] _ (pkCel p) CX.out rfl (pkC_list p) rfl rfl pkC_info (by simp [Value.oneCell']) ?_; intro w4 C4 U4 V4))
      have B4:=Lib.hid (show Below wr.heap.size wr w4 from bt B2.out (But.under BX.out U4.out (Nat.le_of_eq HX.out)))
      have J4:=Lib.hid (hJ pre wr w4 none HJ.out (grown_below B4.out) (fun r e=>by cases e))
      obtain ⟨fn,tmps,assign,body,hy,hR⟩:=HY.out pre (p,q.take k) w4.drew ⟨_,by rw [HE.out,PK.out]⟩ (hJ pre w4 w4.drew none J4.out (grown_below (Below.refl _ _).drew) (fun r e=>by cases e))
      have HR:=Lib.hid hR
      clear hR
      unfold encP pkVal at hy
      simp only at hy
      have cp0:w4.cell? ⟨X,0,none⟩=some (.bool p.cmd):=C4.out.cell (j:=0) (by omega)
      have cp1:w4.cell? ⟨X,1,none⟩=some (.int .i64 p.ap):=C4.out.cell (j:=1) (by omega)
      have cp2:w4.cell? ⟨X,2,none⟩=some (.int .i64 p.fl):=C4.out.cell (j:=2) (by omega)
      have cp3:w4.cell? ⟨X,3,none⟩=some (.int .i64 p.ct):=C4.out.cell (j:=3) (by omega)
      have cp4:w4.cell? ⟨X,4,none⟩=some (.string p.da):=C4.out.cell (j:=4) (by omega)
      refine wpIn_region_still_tailW 8 (by kernel_rfl) (by kernel_rfl) (by kernel_rfl) ?_
      simp only [List.take_succ_cons,List.take_zero,List.drop_succ_cons,List.drop_zero]
      repeat still_step
      refine wpStill_nil ?_
      gi_wp2
      refine HR.out.mono ?_
      rintro e W3 ⟨rfl,hJ3⟩
      have HJ3:=Lib.hid hJ3
      clear hJ3
      gi_wp2
      go_roundw
      case rel=>exact ⟨pre ++ [(p,q.take k)],q.drop k,rfl,by rw [List.length_append,List.length_drop]; have:=HL.out; have:=KN.out; simp; omega,by rw [HE.out,PK.out,List.append_assoc]; rfl,HJ3.out⟩
      case measure=>simp; rw [bs_size,List.length_drop]; have:=KN.out; have:=ZS.out; omega
    · rw [hT] at TK
      unfold tkV at TK
      have PK:=Lib.hid (show (Ch.pks q.length q).1=[] by rw [Ch.pks_no (fun p k=>by rw [hT]; simp)])
      clear hT qs
      gi_wp2
      refine ⟨trivial,(callsIn_wide.2 TK.out).mono ?_⟩
      rintro e w2 ⟨rfl,b2⟩
      have B2:=Lib.hid b2
      clear b2
      gi_wp2_with (first
        | ((with_reducible refine atListIn ?_); refine wpListIn_newT rfl (.alloc 125) rfl (fun c h=>by cases h) rfl #[.bool false,.int .i64 0,.int .i64 0,.int .i64 0,.string ⟨#[]⟩] 125 (fun X=>.pointer (some ⟨X,0,none⟩)) 5 (pkCel pk0) (pkC_cells pk0) (alloc_pkC rfl) ?_; intro X w3 HX CX BX TX)
        | ((with_reducible refine atListIn ?_); refine wpListIn_setAllT rfl 125 (.tmp 4) (.tmp 11) rfl rfl X 5 [.bool false,.int .i64 0,.int .i64 0,.int .i64 0,.string ⟨#[]⟩] _ (pkCel pk0) CX.out rfl (pkC_list pk0) rfl rfl pkC_info (by simp [Value.oneCell']) ?_; intro w4 C4 U4 V4))
      have B4:=Lib.hid (show Below wr.heap.size wr w4 from bt B2.out (But.under BX.out U4.out (Nat.le_of_eq HX.out)))
      have J4:=Lib.hid (hJ pre wr w4 none HJ.out (grown_below B4.out) (fun r e=>by cases e))
      refine wpIn_region_still_tailW 8 (by kernel_rfl) (by kernel_rfl) (by kernel_rfl) ?_
      simp only [List.take_succ_cons,List.take_zero,List.drop_succ_cons,List.drop_zero]
      repeat still_step
      refine wpStill_nil ?_
      gi_wp2
      refine ⟨fun _ h=>(by cases h),?_⟩
      gi_wp2
      refine bodyPost_ret (results_none rfl _ _ _) rfl ?_
      exact ⟨⟨_,rfl⟩,_,rfl,by rw [HE.out,PK.out,List.append_nil]; exact hJ pre w4 w4.drew none J4.out (grown_below (Below.refl _ _).drew) (fun r e=>by cases e)⟩
    rw [hT] at TK
    unfold tkV at TK
    have PK:=Lib.hid (show (Ch.pks q.length q).1=[] by rw [Ch.pks_no (fun p k=>by rw [hT]; simp)])
    clear hT qs
    gi_wp2
    refine ⟨trivial,(callsIn_wide.2 TK.out).mono ?_⟩
    rintro e w2 ⟨rfl,b2⟩
    have B2:=Lib.hid b2
    clear b2
    gi_wp2_with (first
      | ((with_reducible refine atListIn ?_); refine wpListIn_newT rfl (.alloc 125) rfl (fun c h=>by cases h) rfl #[.bool false,.int .i64 0,.int .i64 0,.int .i64 0,.string ⟨#[]⟩] 125 (fun X=>.pointer (some ⟨X,0,none⟩)) 5 (pkCel pk0) (pkC_cells pk0) (alloc_pkC rfl) ?_; intro X w3 HX CX BX TX)
      | ((with_reducible refine atListIn ?_); refine wpListIn_setAllT rfl 125 (.tmp 4) (.tmp 11) rfl rfl X 5 [.bool false,.int .i64 0,.int .i64 0,.int .i64 0,.string ⟨#[]⟩] _ (pkCel pk0) CX.out rfl (pkC_list pk0) rfl rfl pkC_info (by simp [Value.oneCell']) ?_; intro w4 C4 U4 V4))
    have B4:=Lib.hid (show Below wr.heap.size wr w4 from bt B2.out (But.under BX.out U4.out (Nat.le_of_eq HX.out)))
    have J4:=Lib.hid (hJ pre wr w4 none HJ.out (grown_below B4.out) (fun r e=>by cases e))
    refine wpIn_region_still_tailW 8 (by kernel_rfl) (by kernel_rfl) (by kernel_rfl) ?_
    simp only [List.take_succ_cons,List.take_zero,List.drop_succ_cons,List.drop_zero]
    repeat still_step
    refine wpStill_nil ?_
    gi_wp2
    refine ⟨fun _ h=>(by cases h),?_⟩
    gi_wp2
    refine bodyPost_ret (results_none rfl _ _ _) rfl ?_
    exact ⟨⟨_,rfl⟩,_,rfl,by rw [HE.out,PK.out,List.append_nil]; exact hJ pre w4 w4.drew none J4.out (grown_below (Below.refl _ _).drew) (fun r e=>by cases e)⟩
theorem packets_yields (n:Nat) (hn:1<=n) (d:List UInt8) (hd:d.length<=1030) (B0:Nat) (w:World) (l0:B0 < w.heap.size) (b0:w.cell? ⟨B0,0,none⟩=some (.string (bs d))):
    Yields n Tryz.prog 142 #[.pointer (some ⟨B0,0,none⟩)] encP (fun pre x=>∃ rest,(Ch.pks d.length d).1=pre ++ x :: rest) (fun xs=>xs=(Ch.pks d.length d).1) w:=fun l J W hW hJ hY h0=>
  packets1_in n hn l B0 d hd J W hJ hY ((hW.cell (p:=⟨B0,0,none⟩) l0).trans b0) h0
end Go.Proofs.YtchfkncbemjepaaGreat

/- Layer 11, the landed demux: begin. -/
namespace Go.Proofs.YtchfkncbemjepaaGreat
open Go.RowKit Go.Shelf
attribute [local go_sem] Oper.semAt_some

section
variable {P:Program} {F:Fence} {nF:Nat} {ops:Array Oper} {rest:List Oper} {op:Oper} {a:Act} {w:World} {Q:Exit->Act->World->Prop}
theorem wpListIn_box (hgd:op.guard=none) (OP:Op) (ho:op.op=OP) (hnd:∀ c,OP ≠ .defer c) (hab:op.about P w a.eval=none) (t:TypeId) (u:Value)
    (hrun:(execOp a.eval op).run P w=.ok (.value (.pointer (some ⟨w.heap.size,0,none⟩))) (w.alloc (.cells #[u] t)))
    (K:∀ X w',Hid (w.heap.size=X)->Hid (Boxed w' X t u)->Hid (Below w.heap.size w w')->wpListIn F nF P ops Q rest (a.put op.dst (.pointer (some ⟨X,0,none⟩))) w'):wpListIn F nF P ops Q (op :: rest) a w:=
  wpListIn_plain hgd fun _ hK=>by
    unfold Oper.wpIn
    refine ⟨fun _ h=>(by rw [hab] at h; cases h),?_⟩
    rw [Oper.semAt_plain F _ _ (by rw [ho]; exact hnd),hrun]
    exact hK _ _ (K w.heap.size _ (Lib.hid rfl) (Lib.hid (Boxed.new w t u)) (Lib.hid (ba (Below.refl _ _) _)))
theorem wpListIn_setT (hgd:op.guard=none) (OP:Op) (ho:op.op=OP) (hnd:∀ c,OP ≠ .defer c) (hab:op.about P w a.eval=none) (X i n:Nat) (v:Value) (f g:Nat->Value) (C:Cel w X n f) (hi:i < n) (hg:∀ j,j < n->(if j=i then v else f j)=g j)
    (hrun:(execOp a.eval op).run P w=.ok .skip (w.setCell ⟨X,i,none⟩ v))
    (K:∀ w',Hid (Cel w' X n g)->Hid (But X w w')->Hid (∀ t,TyB w X t->TyB w' X t)->wpListIn F nF P ops Q rest (a.put op.dst undef) w'):wpListIn F nF P ops Q (op :: rest) a w:=
  wpListIn_plain hgd fun _ hK=>by
    unfold Oper.wpIn
    refine ⟨fun _ h=>(by rw [hab] at h; cases h),?_⟩
    rw [Oper.semAt_plain F _ _ (by rw [ho]; exact hnd),hrun]
    exact hK _ _ (K _ (Lib.hid ((C.set i v).congr hg)) (Lib.hid ((But.refl X w).setCell i v)) (Lib.hid (fun t ⟨cur,fr,h⟩=>by obtain ⟨c,hc⟩:=cells_setCell (i:=i) (u:=v) h; exact ⟨c,fr,hc⟩)))
end
theorem box_in {ev:Operand->Value} {o:Oper} {w:World} {x:Operand} {a:Option Addr} (h:o.op=.box 111 x) (hx:ev x=.pointer a):(execOp ev o).run Tryz.prog w=.ok (.value (.pointer (some ⟨w.heap.size,0,none⟩))) (w.alloc (.cells #[.pointer a] 111)):=by
  simp only [execOp,h,hx]; go_simp
theorem box_ar {ev:Operand->Value} {o:Oper} {w:World} {x:Operand} {a:Option Addr} (h:o.op=.box 114 x) (hx:ev x=.pointer a):(execOp ev o).run Tryz.prog w=.ok (.value (.pointer (some ⟨w.heap.size,0,none⟩))) (w.alloc (.cells #[.pointer a] 114)):=by
  simp only [execOp,h,hx]; go_simp
theorem boxed_below {w w':World} {X:Nat} {t:TypeId} {u:Value} (h:Boxed w X t u) (hb:Below w.heap.size w w'):Boxed w' X t u:=(hb.block X h.lt).trans h
theorem boxed_tyb {w:World} {X:Nat} {t:TypeId} {u:Value} (h:Boxed w X t u):TyB w X t:=⟨_,_,h⟩
theorem boxed_but {w w':World} {X Y:Nat} {t:TypeId} {u:Value} (h:Boxed w X t u) (k:But Y w w') (hn:X ≠ Y):Boxed w' X t u:=(k.rest X h.lt hn).trans h
theorem DS.grown {W0 w w':World} {D A:Nat} {f:Nat->Value} {v:Value} {a:Ch.Av} {row:Option Nat} (h:DS W0 D A f v a w) (g:w.grownBy w' row) (hr:∀ r,row=some r->W0.heap.size<=r/\∃ o:Obj,w.heap[r]?=some o/\o.isCells=false):DS W0 D A f v a w':=by
  have no:∀ {k t},TyB w k t->some k ≠ row:=fun {k t} T e=>by
    obtain ⟨_,o,h1,h2⟩:=hr k e.symm
    obtain ⟨cur,fr,h3⟩:=T
    rw [h3] at h1
    cases h1
    cases h2
  have kD:=g.block D h.dt.lt (no h.dt)
  have kA:=g.block A h.at'.lt (no h.at')
  refine ⟨h.dl,h.dt.of_block kD,h.dc.of_block kD,h.al,h.at'.of_block kA,h.ac.of_block kA,own_keep h.row (fun k hk hl=>g.block k hl (no (own_ty h.row hk).2)),⟨h.fr.below.grown g (Nat.le_trans (Nat.le_of_lt h.dl) h.size) (fun k e=>Nat.le_trans (Nat.le_of_lt h.dl) (hr k e).1),fun k hk hn=>(g.block k (Nat.lt_of_lt_of_le hk h.size) (fun e=>by have:=(hr k e.symm).1; omega)).trans (h.fr.rest k hk hn),fun k hk=>.inl hk⟩⟩
theorem keeps_below {w w':World} (h:Below w.heap.size w w'):KeepsOthers w w':=⟨h.size,fun k o hk _=>(h.block k (Array.getElem?_eq_some_iff.1 hk).1).trans hk⟩
theorem keeps_but {w w':World} {X:Nat} {t:TypeId} (u:But X w w') (T:TyB w X t):KeepsOthers w w':=⟨u.below.size,fun k o hk ho=>(u.rest k (Array.getElem?_eq_some_iff.1 hk).1 (fun e=>by
  obtain ⟨cur,fr,h3⟩:=T
  subst e
  rw [hk] at h3
  cases h3
  cases ho)).trans hk⟩
theorem cel_grown {w w':World} {X n:Nat} {f:Nat->Value} {t:TypeId} {row:Option Nat} (C:Cel w X n f) (T:TyB w X t) (g:w.grownBy w' row) (hr:∀ r,row=some r->∃ o:Obj,w.heap[r]?=some o/\o.isCells=false):w'.heap[X]?=w.heap[X]?:=g.block X C.lt (fun e=>by
    obtain ⟨o,h1,h2⟩:=hr X e.symm
    obtain ⟨cur,fr,h3⟩:=T
    rw [h3] at h1
    cases h1
    cases h2)
theorem fold2 (T:Array Value) (i j:Nat) (x y:Value):((#[i,j]:Array Nat).zip #[x,y]).foldl (fun t (p,v)=>t.setIfInBounds p v) T=(T.setIfInBounds i x).setIfInBounds j y:=by simp
def BgI (W0 w:World) (D A o B3 B5:Nat) (f:Nat->Value) (a:Ch.Av) (d:List UInt8) (pre:List (Pkt × List UInt8)) (W:World):Prop:=
  ∃ v q,(Ch.pks d.length d).1=pre ++ (Ch.pks q.length q).1/\(Ch.pks d.length d).2=(Ch.pks q.length q).2/\pre.length + q.length<=d.length ∧
    DS W0 D A (Ch.upd f (o + 3) (.string (bs q))) v { a with pk:=a.pk ++ Ch.kept pre } W/\Boxed W B3 111 (.pointer (some ⟨D,o,none⟩))/\Boxed W B5 114 (.pointer (some ⟨A,0,none⟩))/\Ey D A w W
theorem boxed_grown {W W':World} {X:Nat} {t:TypeId} {u:Value} {row:Option Nat} (h:Boxed W X t u) (g:W.grownBy W' row) (hr:∀ r,row=some r->∃ o:Obj,W.heap[r]?=some o/\o.isCells=false):Boxed W' X t u:=h.kept g (fun e=>by
  obtain ⟨o,h1,h2⟩:=hr X e.symm
  unfold Boxed at h
  rw [h] at h1
  cases h1
  cases h2)
theorem BgI.grown {W0 w W W':World} {D A o B3 B5:Nat} {f:Nat->Value} {a:Ch.Av} {d:List UInt8} {pre:List (Pkt × List UInt8)} {row:Option Nat} (h:BgI W0 w D A o B3 B5 f a d pre W) (g:W.grownBy W' row) (hr:∀ r,row=some r->W0.heap.size<=r/\∃ o:Obj,W.heap[r]?=some o/\o.isCells=false):BgI W0 w D A o B3 B5 f a d pre W':=by
  obtain ⟨v,q,h1,h2,h3,h4,h5,h6,h7⟩:=h
  exact ⟨v,q,h1,h2,h3,h4.grown g hr,boxed_grown h5 g (fun r e=>(hr r e).2),boxed_grown h6 g (fun r e=>(hr r e).2),h7.grown g (fun r e=>(hr r e).2)⟩
theorem BgI.below {W0 w W W':World} {D A o B3 B5:Nat} {f:Nat->Value} {a:Ch.Av} {d:List UInt8} {pre:List (Pkt × List UInt8)} (h:BgI W0 w D A o B3 B5 f a d pre W) (b:Below W.heap.size W W'):BgI W0 w D A o B3 B5 f a d pre W':=h.grown (grown_below b) (fun r e=>by cases e)
def bgF (D A o B3 B5 B4 K:Nat) (z y:ByteArray) (p:Value):Act:={ tmps:=#[.pointer (some ⟨D,o,none⟩),.string z,.pointer (some ⟨A,0,none⟩),.pointer (some ⟨B3,0,none⟩),undef,.pointer (some ⟨B5,0,none⟩),.pointer (some ⟨K,0,none⟩),.string y,undef,undef,undef,.pointer (some ⟨D,o,none⟩),.string z,.pointer (some ⟨D,o,none⟩),.pointer (some ⟨D,o + 3,none⟩),.string z,.func (.func 142) #[] #[.pointer (some ⟨B4,0,none⟩)],p,.string y,undef,undef,undef,undef,undef,undef,undef,undef,undef,undef,undef,undef,undef,undef,undef,undef,undef,undef,undef,undef,undef,undef,undef,undef,undef,undef,undef,undef],defers:=[] }
theorem begin_in {W0 w:World} {D A:Nat} {f:Nat->Value} {v:Value} {a:Ch.Av} (n:Nat) (hn:3<=n) (h:DS W0 D A f v a w) (o:Nat) (ho:o + 3 < 37) (d:List UInt8) (hd:d.length<=1030) (hb:a.br<=50) (hk:a.pk.length<=1000):
    CallsIn Fence.wide n Tryz.prog 94 #[.pointer (some ⟨D,o,none⟩),.string (bs d),.pointer (some ⟨A,0,none⟩)] w fun e w'=>(∃ u,e=.returned u)/\(∃ v',DS W0 D A (Ch.upd f (o + 3) (.string (bs (Ch.begin d).1))) v' { a with pk:=a.pk ++ (Ch.begin d).2.1,br:=a.br + (Ch.begin d).2.2 } w')/\Ey D A w w':=by
  have h1:1<=n:=by omega
  have HD:=Lib.hid h
  have HO:=Lib.hid ho
  obtain ⟨z,hz⟩:∃ z,bs d=z:=⟨_,rfl⟩
  have HZ:=Lib.hid hz
  rw [hz]
  have PA:=Lib.hid (fun w=>packets_any z w)
  have DA:=Lib.hid h.da
  clear h hz ho
  refine callsIn_of_wp_marks Tryz.func94 rfl trivial ?_ rfl
  simp only [Tryz.ntmps94,List.size_toArray,List.length_cons,List.length_nil,Nat.reduceAdd,Nat.reduceSub,Array.replicate_succ,Array.replicate_zero,List.push_toArray,List.append_toArray,List.nil_append,List.cons_append]
  gi_wp2_with (first
    | ((with_reducible refine atListIn ?_); refine wpListIn_box rfl (.box 111 (.tmp 0)) rfl (fun c h=>by cases h) rfl 111 (.pointer (some ⟨D,o,none⟩)) (box_in rfl rfl) ?_; intro B3 w1 H3 X3 L3; have D1:=Lib.hid (HD.out.below L3.out))
    | ((with_reducible refine atListIn ?_); refine wpListIn_box rfl (.box 114 (.tmp 2)) rfl (fun c h=>by cases h) rfl 114 (.pointer (some ⟨A,0,none⟩)) (box_ar rfl rfl) ?_; intro B5 w2 H5 X5 L5; have D2:=Lib.hid (D1.out.below L5.out); have X3':=Lib.hid (boxed_below X3.out L5.out); have c3:w2.cell? ⟨B3,0,none⟩=some (.pointer (some ⟨D,o,none⟩)):=X3'.out.cell)
    | ((with_reducible refine atListIn ?_); refine wpListIn_setT rfl (.store 9 (.tmp 14) (.tmp 12)) rfl (fun c h=>by cases h) rfl D (o + 3) 37 (.string z) _ (Ch.upd f (o + 3) (.string z)) D2.out.dc HO.out (fun j hj=>rfl) ?_ ?_; exact store_strC rfl rfl rfl (D2.out.dc.cell HO.out) (D2.out.dc.frozen HO.out); intro w3 C3 U3 V3; have D3:=Lib.hid (D2.out.setD U3.out C3.out (V3.out _ D2.out.dt))))
  refine ⟨trivial,(callsIn_wide.2 (PA.out w3)).mono ?_⟩
  rintro e w4 ⟨rfl,h4⟩
  have L4:=Lib.hid (show Below w3.heap.size w3 w4 by rw [h4]; exact ba (Below.refl _ _) _)
  have X4:=Lib.hid (show Boxed w4 w3.heap.size 9 (.string z) by rw [h4]; exact Boxed.new _ _ _)
  clear h4
  gi_wp2
  obtain ⟨B4,hB4⟩:∃ b,w3.heap.size=b:=⟨_,rfl⟩
  rw [hB4] at X4 ⊢
  have SZ:=Lib.hid (show W0.heap.size<=w4.heap.size from Nat.le_trans D3.out.size L4.out.size)
  have X3b:=Lib.hid (boxed_but X3'.out U3.out (fun e=>by have:=D2.out.dt; exact ty_ne (boxed_tyb X3'.out) this (by decide) e))
  have X5b:=Lib.hid (boxed_but X5.out U3.out (fun e=>by have:=D2.out.dt; exact ty_ne (boxed_tyb X5.out) this (by decide) e))
  have I4:=Lib.hid (show BgI W0 w D A o B3 B5 f a d [] w4 from ⟨v,d,rfl,rfl,by simp,by rw [HZ.out]; exact ((D3.out.below L4.out):DS W0 D A _ v { a with pk:=a.pk } w4) |> fun h=>(by show DS W0 D A _ v { a with pk:=a.pk ++ [] } w4; rw [List.append_nil]; exact h),boxed_below X3b.out L4.out,boxed_below X5b.out L4.out,(((Ey.of_below L3.out).trans (Ey.of_below L5.out)).trans (Ey.of_but U3.out)).trans (Ey.of_below L4.out)⟩)
  refine range_told h1 (gf:=142) (lb:=#[.pointer (some ⟨B4,0,none⟩)]) rfl (enters_of Tryz.func142 (by kernel_rfl) rfl) (fun x=>rfl) (packets_yields (n - 1) (by omega) d hd B4 w4 X4.out.lt (by rw [HZ.out]; exact X4.out.cell))
    (BgI W0 w D A o B3 B5 f a d) (fun s W W' row hs g hr=>hs.grown g (fun r e=>⟨Nat.le_trans SZ.out (hr r e).1,(hr r e).2⟩)) I4.out
    (fun pre x a1 W=>BgI W0 w D A o B3 B5 f a d pre W/\∃ K,a1=bgF D A o B3 B5 B4 K z (bs x.2) (pkVal x.1)/\Cel W K 5 (pkCel x.1)/\TyB W K 125)
    (fun pre x a1 W W' row hm g hr=>by
      obtain ⟨m1,K,m2,m3,m4⟩:=hm
      have hk:=cel_grown m3 m4 g (fun r e=>(hr r e).2)
      exact ⟨m1.grown g (fun r e=>⟨Nat.le_trans SZ.out (hr r e).1,(hr r e).2⟩),K,m2,m3.of_block hk,m4.of_block hk⟩) ?assign ?body ?done
  case assign=>
    rintro l pre ⟨p,y⟩ W hR hI
    have HI:=Lib.hid hI
    clear hI hR
    unfold encP
    rw [fold2]
    simp only [List.setIfInBounds_toArray,List.set_cons_succ,List.set_cons_zero]
    gi_wp2_with (first
      | ((with_reducible refine atListIn ?_); refine wpListIn_newT rfl (.alloc 125) rfl (fun c h=>by cases h) rfl #[.bool false,.int .i64 0,.int .i64 0,.int .i64 0,.string ⟨#[]⟩] 125 (fun X=>.pointer (some ⟨X,0,none⟩)) 5 (pkCel pk0) (pkC_cells pk0) (alloc_pkC rfl) ?_; intro K w5 HX CX BX TX)
      | ((with_reducible refine atListIn ?_); refine wpListIn_setAllT rfl 125 (.tmp 6) (.tmp 17) rfl rfl K 5 [.bool p.cmd,.int .i64 p.ap,.int .i64 p.fl,.int .i64 p.ct,.string p.da] _ (pkCel p) CX.out rfl (pkC_list p) rfl rfl pkC_info (by simp [Value.oneCell']) ?_; intro w6 C6 U6 V6))
    have b6:=But.under BX.out U6.out (Nat.le_of_eq HX.out)
    exact ⟨keeps_below b6,HI.out.below b6,K,rfl,C6.out,V6.out _ TX.out⟩
  case body=>
    rintro l pre ⟨p,y⟩ a1 W ⟨rest,hR⟩ ⟨hI,K,rfl,hC,hT⟩
    obtain ⟨v5,q,e1,e2,e3,hD,h5,h6,h7⟩:=hI
    have H7:=Lib.hid h7
    have HDD:=Lib.hid hD
    have H5:=Lib.hid h5
    have H6:=Lib.hid h6
    have E1:=Lib.hid e1
    have E2:=Lib.hid e2
    have E3:=Lib.hid e3
    -- the next packet is the one with which the rest begins
    have hq:(Ch.pks q.length q).1=(p,y) :: rest:=List.append_cancel_left (e1.symm.trans hR)
    obtain ⟨k,hT2⟩:∃ k,Pk.take q=.ok p k/\y=q.take k:=by
      rcases hT2:Pk.take q with ⟨p',k⟩ | _ | _
      · obtain ⟨m,hm⟩:∃ m,q.length=m + 1:=⟨q.length - 1,by obtain ⟨k7,kl,_⟩:=Ch.take_pos hT2; omega⟩
        rw [hm,Ch.pks_ok hT2] at hq
        injection hq with ha hb
        cases ha
        exact ⟨k,rfl,rfl⟩
      · rw [Ch.pks_no (fun p k=>by rw [hT2]; simp)] at hq; cases hq
      rw [Ch.pks_no (fun p k=>by rw [hT2]; simp)] at hq; cases hq
    obtain ⟨hT3,rfl⟩:=hT2
    obtain ⟨k7,kl,-,-,-⟩:=Ch.take_pos hT3
    have PK:=Lib.hid (show Ch.pks q.length q=((p,q.take k) :: (Ch.pks (q.drop k).length (q.drop k)).1,(Ch.pks (q.drop k).length (q.drop k)).2) by
      obtain ⟨m,hm⟩:∃ m,q.length=m + 1:=⟨q.length - 1,by omega⟩
      rw [hm,Ch.pks_ok hT3,Ch.pks_more m (q.drop k).length (q.drop k) (by rw [List.length_drop]; omega) (Nat.le_refl _)])
    have KN:=Lib.hid (And.intro k7 kl)
    have AV:=Lib.hid (arrive_any hD p (q.take k) (by rw [List.length_take]; omega) (by
      show (a.pk ++ Ch.kept pre).length<=_
      have:(Ch.kept pre).length<=pre.length:=by unfold Ch.kept; rw [List.length_map]; exact List.length_filter_le _ _
      rw [List.length_append]
      omega))
    have cp0:W.cell? ⟨K,0,none⟩=some (.bool p.cmd):=hC.cell (j:=0) (by omega)
    have cp1:W.cell? ⟨K,1,none⟩=some (.int .i64 p.ap):=hC.cell (j:=1) (by omega)
    have cp2:W.cell? ⟨K,2,none⟩=some (.int .i64 p.fl):=hC.cell (j:=2) (by omega)
    have cp3:W.cell? ⟨K,3,none⟩=some (.int .i64 p.ct):=hC.cell (j:=3) (by omega)
    have cp4:W.cell? ⟨K,4,none⟩=some (.string p.da):=hC.cell (j:=4) (by omega)
    have c5:=h6.cell
    have c3':=h5.cell
    obtain ⟨y,hy⟩:∃ y,bs (q.take k)=y:=⟨_,rfl⟩
    have YS:=Lib.hid (show y.size=k by rw [<-hy,bs_size,List.length_take]; omega)
    rw [hy] at AV
    unfold bgF
    simp only
    rw [hy]
    clear hR e1 e2 e3 hD h5 h6 h7 hq hT3 k7 kl hC hT
    gi_wp2
    refine ⟨trivial,fun h=>(by cases h),(CallsIn.inRound l (callsIn_wide.2 AV.out)).mono ?_⟩
    rintro e W2 ⟨⟨u,rfl⟩,⟨v6,D6'⟩,EX'⟩
    have D6:=Lib.hid D6'
    have EX:=Lib.hid EX'
    have kO:∀ {X:Nat} {t:TypeId} {u:Value},Boxed W X t u->t ≠ 51->t ≠ 9->Boxed W2 X t u:=fun {X t u} hbx h7 h8=>(EX'.rest X hbx.lt (fun e=>ty_ne (boxed_tyb hbx) HDD.out.at' h7 e) (fun e=>ty_ne (boxed_tyb hbx) (own_ty HDD.out.row e.symm).2 h8 rfl)).trans hbx
    have H5':=Lib.hid (kO H5.out (by decide) (by decide))
    have H6':=Lib.hid (kO H6.out (by decide) (by decide))
    have KP:=Lib.hid (show KeepsOthers W W2 from ⟨EX'.size,fun k ob hk ho=>(EX'.rest k (Array.getElem?_eq_some_iff.1 hk).1 (fun e=>by
      obtain ⟨cur,fr,h3⟩:=HDD.out.at'
      rw [e,h3] at hk
      cases hk
      cases ho) (fun e=>by
      obtain ⟨cur,fr,h3⟩:=(own_ty HDD.out.row e.symm).2
      rw [h3] at hk
      cases hk
      cases ho)).trans hk⟩)
    clear D6' EX' kO
    obtain ⟨zq,hzq⟩:∃ s,bs q=s:=⟨_,rfl⟩
    have ZQ:=Lib.hid hzq
    have c8:W2.cell? ⟨B3,0,none⟩=some (.pointer (some ⟨D,o,none⟩)):=H5'.out.cell
    have c9:W2.cell? ⟨D,o + 3,none⟩=some (.string zq):=D6.out.dc.cell' HO.out (by rw [hzq]; exact Ch.upd_same f (o + 3) (Value.string zq))
    have EX2:zq.extract k zq.size=bs (q.drop k):=by rw [<-hzq,bs_cut _ _ _ (by rw [bs_size]; have:=KN.out; omega),bs_size,List.take_of_length_le (Nat.le_refl _)]
    have kz:k<=zq.size:=by rw [<-hzq,bs_size]; exact KN.out.2
    have ys:y.size=k:=YS.out
    clear hzq hy
    gi_wp2
    refine wpIn_region_still_tail 8 (by kernel_rfl) (by kernel_rfl) (by kernel_rfl) ?_
    simp only [List.take_succ_cons,List.take_zero,List.drop_succ_cons,List.drop_zero]
    repeat still_step
    refine wpStill_nil ?_
    have D7:=Lib.hid (D6.out.below (Below.refl _ _).drew)
    gi_wp2_with (((with_reducible refine atListIn ?_); refine wpListIn_setT rfl (.store 9 (.tmp 32) (.tmp 30)) rfl (fun c h=>by cases h) rfl D (o + 3) 37 (.string (bs (q.drop k))) _ (Ch.upd f (o + 3) (.string (bs (q.drop k)))) D7.out.dc HO.out (fun j hj=>by unfold Ch.upd; split <;> rfl) ?_ ?_; exact store_strC rfl rfl rfl (D7.out.dc.cell HO.out) (D7.out.dc.frozen HO.out); intro w9 C9 U9 V9))
    refine ⟨KP.out.trans ((keeps_below (Below.refl _ _).drew).trans (keeps_but U9.out D7.out.dt)),v6,q.drop k,?_,?_,?_,?_,?_,?_,((H7.out.trans (Ey.of_ex HDD.out.row EX.out)).trans (Ey.of_below (Below.refl _ _).drew)).trans (Ey.of_but U9.out)⟩
    · rw [E1.out,PK.out,List.append_assoc]; rfl
    · rw [E2.out,PK.out]
    · rw [List.length_append,List.length_drop]
      have:=E3.out
      have:=KN.out
      simp
      omega
    · have:=D7.out.setD U9.out C9.out (V9.out _ D7.out.dt)
      rw [Ch.kept_app,<-List.append_assoc]
      exact this
    · exact boxed_but (boxed_below H5'.out (Below.refl _ _).drew) U9.out (fun e=>ty_ne (boxed_tyb H5'.out) D6.out.dt (by decide) e)
    exact boxed_but (boxed_below H6'.out (Below.refl _ _).drew) U9.out (fun e=>ty_ne (boxed_tyb H6'.out) D6.out.dt (by decide) e)
  case done=>
    rintro E xs W hE rfl ⟨v5,q,e1,e2,e3,hD,h5,h6,h7⟩ hK
    have H7:=Lib.hid h7
    have hq:(Ch.pks q.length q).1=[]:=List.append_cancel_left (e1.symm.trans (List.append_nil _).symm)
    have hno:∀ p k,Pk.take q ≠ .ok p k:=fun p k e=>by
      obtain ⟨m,hm⟩:∃ m,q.length=m + 1:=⟨q.length - 1,by obtain ⟨k7,kl,_⟩:=Ch.take_pos e; omega⟩
      rw [hm,Ch.pks_ok e] at hq
      cases hq
    have hr:(Ch.pks d.length d).2=q:=by rw [e2,Ch.pks_no hno]
    have HDD:=Lib.hid hD
    have H5:=Lib.hid h5
    have H6:=Lib.hid h6
    have HK:=Lib.hid hK
    have HE:=Lib.hid hE
    have QL:=Lib.hid (show q.length<=1030 by omega)
    have TKQ:=Lib.hid (fun w=>ptake_any (bs q) (by rw [bs_size]; have:=QL.out; omega) w)
    rw [bs_list] at TKQ
    obtain ⟨zq,hzq⟩:∃ s,bs q=s:=⟨_,rfl⟩
    have ZQ:=Lib.hid hzq
    rw [hzq] at TKQ
    have c3':=h5.cell
    have c5':=h6.cell
    have c9:W.cell? ⟨D,o + 3,none⟩=some (.string zq):=hD.dc.cell' HO.out (by rw [hzq]; exact Ch.upd_same f (o + 3) (Value.string zq))
    rcases hT:Pk.take q with ⟨p,k⟩ | _ | _
    · exact absurd hT (hno p k)
    · rw [hT] at TKQ
      unfold tkV at TKQ
      have RS:=Lib.hid (show Ch.begin d=(q,Ch.kept (Ch.pks d.length d).1,0) by unfold Ch.begin; rw [hr,hT])
      clear e1 e2 e3 hD h5 h6 h7 hq hno hr hT hK hE hzq
      gi_wp2
      refine ⟨trivial,(callsIn_wide.2 (TKQ.out W)).mono ?_⟩
      rintro e W2 ⟨rfl,b2⟩
      have B2:=Lib.hid b2
      clear b2
      gi_wp2_with (first
        | ((with_reducible refine atListIn ?_); refine wpListIn_newT rfl (.alloc 125) rfl (fun c h=>by cases h) rfl #[.bool false,.int .i64 0,.int .i64 0,.int .i64 0,.string ⟨#[]⟩] 125 (fun X=>.pointer (some ⟨X,0,none⟩)) 5 (pkCel pk0) (pkC_cells pk0) (alloc_pkC rfl) ?_; intro K w5 HX CX BX TX)
        | ((with_reducible refine atListIn ?_); refine wpListIn_setAllT rfl 125 (.tmp 8) (.tmp 39) rfl rfl K 5 [.bool false,.int .i64 0,.int .i64 0,.int .i64 0,.string ⟨#[]⟩] _ (pkCel pk0) CX.out rfl (pkC_list pk0) rfl rfl pkC_info (by simp [Value.oneCell']) ?_; intro w6 C6 U6 V6))
      have b6:Below W.heap.size W w6:=bt B2.out (But.under BX.out U6.out (Nat.le_of_eq HX.out))
      have k6:=(b6.block E (Array.getElem?_eq_some_iff.1 HK.out).1).trans HK.out
      refine ⟨by simp,.inl ⟨_,_,rfl,run_takeDeferred k6,?_⟩⟩
      refine ⟨_,results_none rfl _ _ _,⟨_,rfl⟩,⟨v5,?_⟩,(H7.out.trans (Ey.of_below b6)).grown (grownBy_putObj' w6 E (.deferred none)) (fun r e=>by cases e; exact ⟨_,k6,rfl⟩)⟩
      rw [RS.out]
      exact (HDD.out.below b6).grown (grownBy_putObj' w6 E (.deferred none)) (fun r e=>by cases e; exact ⟨Nat.le_trans SZ.out HE.out,_,k6,rfl⟩)
    rw [hT] at TKQ
    unfold tkV at TKQ
    have RS:=Lib.hid (show Ch.begin d=([],Ch.kept (Ch.pks d.length d).1,1) by unfold Ch.begin; rw [hr,hT])
    have GN:=Lib.hid (show gup q=1 from if_neg (fun e=>by rw [e,Ch.take_nil] at hT; cases hT))
    clear e1 e2 e3 hD h5 h6 h7 hq hno hr hT hK hE hzq
    gi_wp2
    refine ⟨trivial,(callsIn_wide.2 (TKQ.out W)).mono ?_⟩
    rintro e W2 ⟨rfl,b2⟩
    have B2:=Lib.hid b2
    clear b2
    gi_wp2_with (first
      | ((with_reducible refine atListIn ?_); refine wpListIn_newT rfl (.alloc 125) rfl (fun c h=>by cases h) rfl #[.bool false,.int .i64 0,.int .i64 0,.int .i64 0,.string ⟨#[]⟩] 125 (fun X=>.pointer (some ⟨X,0,none⟩)) 5 (pkCel pk0) (pkC_cells pk0) (alloc_pkC rfl) ?_; intro K w5 HX CX BX TX)
      | ((with_reducible refine atListIn ?_); refine wpListIn_setAllT rfl 125 (.tmp 8) (.tmp 39) rfl rfl K 5 [.bool false,.int .i64 0,.int .i64 0,.int .i64 0,.string ⟨#[]⟩] _ (pkCel pk0) CX.out rfl (pkC_list pk0) rfl rfl pkC_info (by simp [Value.oneCell']) ?_; intro w6 C6 U6 V6; have b6:Below W.heap.size W w6:=bt B2.out (But.under BX.out U6.out (Nat.le_of_eq HX.out)); have c3a:w6.cell? ⟨B3,0,none⟩=some (.pointer (some ⟨D,o,none⟩)):=(boxed_below H5.out b6).cell; have c5a:w6.cell? ⟨B5,0,none⟩=some (.pointer (some ⟨A,0,none⟩)):=(boxed_below H6.out b6).cell; have HB6:=Lib.hid b6; clear b6))
    have k6:=Lib.hid ((HB6.out.block E (Array.getElem?_eq_some_iff.1 HK.out).1).trans HK.out)
    have D7:=Lib.hid (HDD.out.below HB6.out)
    have GV:=Lib.hid (giveUp_any D7.out o HO.out q (Ch.upd_same _ _ _) (by show a.br<=100; omega))
    refine ⟨trivial,(callsIn_wide.2 GV.out).mono ?_⟩
    rintro e w7 ⟨⟨u,rfl⟩,D8,EZ⟩
    have HD8:=Lib.hid D8
    have HEZ:=Lib.hid EZ
    clear D8 EZ
    gi_wp2
    have nD:E ≠ D:=fun e=>by have:=HDD.out.dl; have:=SZ.out; have:=HE.out; omega
    have nA:E ≠ A:=fun e=>by
      obtain ⟨cur,fr,h3⟩:=D7.out.at'
      have:=k6.out
      rw [e,h3] at this
      cases this
    have k7:=(HEZ.out.rest E (Array.getElem?_eq_some_iff.1 k6.out).1 nD nA).trans k6.out
    refine ⟨by simp,.inl ⟨_,_,rfl,run_takeDeferred k7,?_⟩⟩
    refine ⟨_,results_none rfl _ _ _,⟨_,rfl⟩,⟨v5,?_⟩,((H7.out.trans (Ey.of_below HB6.out)).trans (Ey.of_ez HEZ.out)).grown (grownBy_putObj' w7 E (.deferred none)) (fun r e=>by cases e; exact ⟨_,k7,rfl⟩)⟩
    rw [RS.out]
    have D9:=HD8.out.grown (grownBy_putObj' w7 E (.deferred none)) (fun r e=>by cases e; exact ⟨Nat.le_trans SZ.out HE.out,_,k7,rfl⟩)
    rw [GN.out] at D9
    exact D9.congr (fun j hj=>by unfold Ch.upd; split <;> rfl)
theorem begin_any {W0 w:World} {D A:Nat} {f:Nat->Value} {v:Value} {a:Ch.Av} (h:DS W0 D A f v a w) (o:Nat) (ho:o + 3 < 37) (d:List UInt8) (hd:d.length<=1030) (hb:a.br<=50) (hk:a.pk.length<=1000):
    Calls Tryz.prog 94 #[.pointer (some ⟨D,o,none⟩),.string (bs d),.pointer (some ⟨A,0,none⟩)] w fun e w'=>(∃ u,e=.returned u)/\(∃ v',DS W0 D A (Ch.upd f (o + 3) (.string (bs (Ch.begin d).1))) v' { a with pk:=a.pk ++ (Ch.begin d).2.1,br:=a.br + (Ch.begin d).2.2 } w')/\Ey D A w w':=
  callsIn_wide.1 (begin_in 3 (by omega) h o ho d hd hb hk)
end Go.Proofs.YtchfkncbemjepaaGreat
