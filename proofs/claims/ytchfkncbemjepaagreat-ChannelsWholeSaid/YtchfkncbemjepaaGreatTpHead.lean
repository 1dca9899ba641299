/- TpHead -/
import Derived.WalkKit
import Derived.Test.YtchfkncbemjepaaGreatTpBase
import Derived.Test.YtchfkncbemjepaaGreatTyKit
import Derived.Test.YtchfkncbemjepaaGreatCrcBits
set_option linter.unusedVariables false
set_option maxRecDepth 100000
set_option maxHeartbeats 4000000
/- The values of a pair (the same names as in PkLost: import this one or that one). -/
namespace Go.Proofs.YtchfkncbemjepaaGreat

def tup0:Value->Value
  | .tuple a=>a.getD 0 undef
  | _=>undef
def tup1:Value->Value
  | .tuple a=>a.getD 1 undef
  | _=>undef
theorem tup0_mk (x y:Value):tup0 (.tuple #[x,y])=x:=rfl
theorem tup1_mk (x y:Value):tup1 (.tuple #[x,y])=y:=rfl
end Go.Proofs.YtchfkncbemjepaaGreat
/- Layer 10, the landed program: the header, the control word, Put. -/
namespace Go.Proofs.YtchfkncbemjepaaGreat
open Go.RowKit

theorem freads_cel {k:IntKind} {w:World} {X n:Nat} {zs:List Int} {f:Nat->Value} (C:Cel w X n f) (hn:zs.length=n) (hf:∀ j,j < n->f j=.int k (zs.getD j 0)):FReads k w (some ⟨X,0,none⟩) zs:=
  .inr ⟨X,0,rfl,C.lt,fun j hj=>by
    rw [hn] at hj
    rw [Nat.zero_add,C.cell hj,hf j hj]⟩
theorem build_hn {ev:Operand->Value} {o:Oper} {w:World} {x0 x1 x2 x3 x4 x5 x6 x7:Operand} {c d m t i:Nat} (h:o.op=.buildSlice 190 8 #[(0,x0),(1,x1),(2,x2),(3,x3),(4,x4),(5,x5),(6,x6),(7,x7)])
    (h0:ev x0=.int .u64 0) (h1:ev x1=.int .u64 (c:Nat)) (h2:ev x2=.int .u64 (d:Nat)) (h3:ev x3=.int .u64 0) (h4:ev x4=.int .u64 (m:Nat)) (h5:ev x5=.int .u64 (t:Nat)) (h6:ev x6=.int .u64 0) (h7:ev x7=.int .u64 (i:Nat)):(execOp ev o).run Tryz.prog w=.ok (.value (.slice (some ⟨w.heap.size,0,none⟩) 8 8)) (w.alloc (.cells #[.int .u64 0,.int .u64 (c:Nat),.int .u64 (d:Nat),.int .u64 0,.int .u64 (m:Nat),.int .u64 (t:Nat),.int .u64 0,.int .u64 (i:Nat)] 185)):=by
  simp only [execOp,h]; go_simp
def hnC (c d m t i:Nat) (j:Nat):Value:=.int .u64 (([0,c,d,0,m,t,0,i].map Int.ofNat).getD j 0)
theorem hn_cells (c d m t i:Nat):∀ j,j < 8->(#[.int .u64 0,.int .u64 (c:Nat),.int .u64 (d:Nat),.int .u64 0,.int .u64 (m:Nat),.int .u64 (t:Nat),.int .u64 0,.int .u64 (i:Nat)]:Array Value)[j]?=some (hnC c d m t i j):=fun j hj=>by
  match j,hj with
  | 0,_=>rfl
  | 1,_=>rfl
  | 2,_=>rfl
  | 3,_=>rfl
  | 4,_=>rfl
  | 5,_=>rfl
  | 6,_=>rfl
  | 7,_=>rfl
theorem theader_any (f:Tmf) (h:Tm.Ok f) (w:World):Calls Tryz.prog 82 #[tmVal f] w fun e w'=>e=.returned (.string (bs (Tm.hdr f)))/\Below w.heap.size w w':=by
  have PK:=Lib.hid (Tm.pack_hdr h)
  obtain ⟨R,hR⟩:∃ R,Tm.hdr f=R:=⟨_,rfl⟩
  rw [hR] at PK ⊢
  clear hR
  obtain ⟨cr,ch,ma,ct,fi,da,wo⟩:=f
  obtain ⟨⟨⟨a0,a1⟩,⟨a2,a3⟩,⟨a4,a5⟩,⟨a6,a7⟩,a8,a9⟩,a10⟩:=h
  simp only at a0 a1 a2 a3 a4 a5 a6 a7 a8 a9 a10
  have b10:0<=fi/\fi<=2047:=by omega
  obtain ⟨c,rfl⟩:=Int.eq_ofNat_of_zero_le a0
  obtain ⟨d,rfl⟩:=Int.eq_ofNat_of_zero_le a6
  obtain ⟨m,rfl⟩:=Int.eq_ofNat_of_zero_le a2
  obtain ⟨t,rfl⟩:=Int.eq_ofNat_of_zero_le a4
  obtain ⟨i,rfl⟩:=Int.eq_ofNat_of_zero_le b10.1
  unfold Tm.hnum at PK
  simp only [Int.toNat_natCast] at PK
  have z1:c<=255:=by omega
  have z2:d<=7:=by omega
  have z3:m<=255:=by omega
  have z4:t<=255:=by omega
  have z5:i<=2047:=by omega
  have BD:=Lib.hid (show ∀ j,j < 8->[0,c,d,0,m,t,0,i].getD j 0 < 18446744073709551616 from fun j hj=>by
    match j,hj with
    | 0,_=>simp; try omega
    | 1,_=>simp; try omega
    | 2,_=>simp; try omega
    | 3,_=>simp; try omega
    | 4,_=>simp; try omega
    | 5,_=>simp; try omega
    | 6,_=>simp; try omega
    | 7,_=>simp; try omega)
  have TW:=Lib.hid (fun w=>twidths_any w)
  have PA:=Lib.hid (fun a1 a2 w (R1:FReads .i64 w a1 Tm.wid) (R2:FReads .u64 w a2 ([0,c,d,0,m,t,0,i].map Int.ofNat))=>pack_any a1 a2 8 8 Tm.wid [0,c,d,0,m,t,0,i] (by decide) (by simp) (by decide) (by decide) BD.out w R1 R2)
  rw [PK.out.1,PK.out.2,show Tm.wid.length=8 from rfl,show [0,c,d,0,m,t,0,i].length=8 from rfl] at PA
  unfold tmVal
  simp only
  clear a0 a1 a2 a3 a4 a5 a6 a7 a8 a9 a10 b10 PK
  go_enter Tryz.func82,Tryz.ntmps82
  go_wp2_with (first
    | ((with_reducible refine atList ?_); refine wpList_new rfl (.box 100 (.tmp 0)) rfl (some 1) rfl #[.int .i64 (c:Nat),.int .i64 (d:Nat),.int .i64 (m:Nat),.int .i64 (t:Nat),.int .i64 (i:Nat),.string da,.int .u32 (wo:Nat)] 100 (fun X=>.pointer (some ⟨X,0,none⟩)) 7 (tmCel ⟨(c:Nat),(d:Nat),(m:Nat),(t:Nat),(i:Nat),da,wo⟩) (tm_cells ⟨(c:Nat),(d:Nat),(m:Nat),(t:Nat),(i:Nat),da,wo⟩) (box_tm rfl rfl) ?_; intro X w1 HX Sw1 CX Bw1; have c0:w1.cell? ⟨X,0,none⟩=some (.int .i64 (c:Nat)):=CX.out.cell (j:=0) (by omega); have c1:w1.cell? ⟨X,1,none⟩=some (.int .i64 (d:Nat)):=CX.out.cell (j:=1) (by omega); have c2:w1.cell? ⟨X,2,none⟩=some (.int .i64 (m:Nat)):=CX.out.cell (j:=2) (by omega); have c3:w1.cell? ⟨X,3,none⟩=some (.int .i64 (t:Nat)):=CX.out.cell (j:=3) (by omega); have c4:w1.cell? ⟨X,4,none⟩=some (.int .i64 (i:Nat)):=CX.out.cell (j:=4) (by omega); have c5:w1.cell? ⟨X,5,none⟩=some (.string da):=CX.out.cell (j:=5) (by omega); have c6:w1.cell? ⟨X,6,none⟩=some (.int .u32 (wo:Nat)):=CX.out.cell (j:=6) (by omega))
    | ((with_reducible refine atList ?_); refine wpList_new rfl (.buildSlice 190 8 #[(0,.const (.int .u64 0)),(1,.tmp 8),(2,.tmp 11),(3,.const (.int .u64 0)),(4,.tmp 14),(5,.tmp 17),(6,.const (.int .u64 0)),(7,.tmp 20)]) rfl (some 21) rfl #[.int .u64 0,.int .u64 (c:Nat),.int .u64 (d:Nat),.int .u64 0,.int .u64 (m:Nat),.int .u64 (t:Nat),.int .u64 0,.int .u64 (i:Nat)] 185 (fun X=>.slice (some ⟨X,0,none⟩) 8 8) 8 (hnC c d m t i) (hn_cells c d m t i) (build_hn rfl rfl rfl rfl rfl rfl rfl rfl rfl) ?_; intro Y w2 HY Sw2 CY Bw2))
  (with_reducible refine (TW.out _).mono ?_)
  rintro e w3 ⟨B,rfl,F3,h3⟩
  have P3:=Lib.hid (PA.out _ (some ⟨Y,0,none⟩) w3 F3 (freads_cel (CY.out.below h3) rfl (fun j hj=>rfl)))
  have B3:=Lib.hid (bt Bw1.out (bt Bw2.out h3))
  clear F3 h3
  go_wp2_with fail
  (with_reducible refine P3.out.mono ?_)
  rintro e w4 ⟨rfl,h4⟩
  have B4:=Lib.hid (bt B3.out h4)
  clear h4
  go_wp2_with fail
  go_ret
  exact ⟨rfl,B4.out⟩
theorem build_one {ev:Operand->Value} {o:Oper} {w:World} {x:Operand} {v:Int} (h:o.op=.buildSlice 72 1 #[(0,x)]) (hx:ev x=.int .i64 v):(execOp ev o).run Tryz.prog w=.ok (.value (.slice (some ⟨w.heap.size,0,none⟩) 1 1)) (w.alloc (.cells #[.int .i64 v] 3)):=by
  simp only [execOp,h]; go_simp
theorem build_one64 {ev:Operand->Value} {o:Oper} {w:World} {x:Operand} {v:Int} (h:o.op=.buildSlice 190 1 #[(0,x)]) (hx:ev x=.int .u64 v):(execOp ev o).run Tryz.prog w=.ok (.value (.slice (some ⟨w.heap.size,0,none⟩) 1 1)) (w.alloc (.cells #[.int .u64 v] 185)):=by
  simp only [execOp,h]; go_simp
theorem one_val {v:Value}:∀ j,j < 1->(#[v]:Array Value)[j]?=some ((fun _=>v) j):=fun j hj=>by
  obtain rfl:j=0:=by omega
  rfl
theorem tword_any (f:Tmf) (h:f.wo < 4294967296) (w:World):Calls Tryz.prog 83 #[tmVal f] w fun e w'=>e=.returned (.string (bs (Tm.wrd f.wo)))/\Below w.heap.size w w':=by
  obtain ⟨cr,ch,ma,ct,fi,da,wo⟩:=f
  simp only at h ⊢
  have PK:=Lib.hid (Tm.pack_wrd wo h)
  obtain ⟨R,hR⟩:∃ R,Tm.wrd wo=R:=⟨_,rfl⟩
  rw [hR] at PK ⊢
  clear hR
  have PA:=Lib.hid (fun a1 a2 w (R1:FReads .i64 w a1 [32]) (R2:FReads .u64 w a2 ([wo].map Int.ofNat))=>pack_any a1 a2 1 1 [32] [wo] (by decide) (by simp) (by decide) (by decide) (fun j hj=>by
    obtain rfl:j=0:=by simp at hj; omega
    show wo < _
    omega) w R1 R2)
  rw [PK.out.1,PK.out.2,show ([32]:List Int).length=1 from rfl,show [wo].length=1 from rfl] at PA
  unfold tmVal
  simp only
  clear PK
  go_enter Tryz.func83,Tryz.ntmps83
  go_wp2_with (first
    | ((with_reducible refine atList ?_); refine wpList_new rfl (.box 100 (.tmp 0)) rfl (some 1) rfl #[.int .i64 cr,.int .i64 ch,.int .i64 ma,.int .i64 ct,.int .i64 fi,.string da,.int .u32 (wo:Nat)] 100 (fun X=>.pointer (some ⟨X,0,none⟩)) 7 (tmCel ⟨cr,ch,ma,ct,fi,da,wo⟩) (tm_cells ⟨cr,ch,ma,ct,fi,da,wo⟩) (box_tm rfl rfl) ?_; intro X w1 HX Sw1 CX Bw1; have c0:w1.cell? ⟨X,0,none⟩=some (.int .i64 cr):=CX.out.cell (j:=0) (by omega); have c1:w1.cell? ⟨X,1,none⟩=some (.int .i64 ch):=CX.out.cell (j:=1) (by omega); have c2:w1.cell? ⟨X,2,none⟩=some (.int .i64 ma):=CX.out.cell (j:=2) (by omega); have c3:w1.cell? ⟨X,3,none⟩=some (.int .i64 ct):=CX.out.cell (j:=3) (by omega); have c4:w1.cell? ⟨X,4,none⟩=some (.int .i64 fi):=CX.out.cell (j:=4) (by omega); have c5:w1.cell? ⟨X,5,none⟩=some (.string da):=CX.out.cell (j:=5) (by omega); have c6:w1.cell? ⟨X,6,none⟩=some (.int .u32 (wo:Nat)):=CX.out.cell (j:=6) (by omega))
    | ((with_reducible refine atList ?_); refine wpList_new rfl (.buildSlice 72 1 #[(0,.const (.int .i64 32))]) rfl (some 6) rfl #[.int .i64 32] 3 (fun X=>.slice (some ⟨X,0,none⟩) 1 1) 1 (fun _=>.int .i64 32) one_val (build_one rfl rfl) ?_; intro Y w2 HY Sw2 CY Bw2; have c6:=(Bw2.out.cell (p:=⟨X,6,none⟩) CX.out.lt).trans c6)
    | ((with_reducible refine atList ?_); refine wpList_new rfl (.buildSlice 190 1 #[(0,.tmp 9)]) rfl (some 10) rfl #[.int .u64 (wo:Nat)] 185 (fun X=>.slice (some ⟨X,0,none⟩) 1 1) 1 (fun _=>.int .u64 (wo:Nat)) one_val (build_one64 rfl rfl) ?_; intro Z w3 HZ Sw3 CZ Bw3))
  have P3:=Lib.hid (PA.out (some ⟨Y,0,none⟩) (some ⟨Z,0,none⟩) w3 (freads_cel (CY.out.below Bw3.out) rfl (fun j hj=>by
    obtain rfl:j=0:=by omega
    rfl)) (freads_cel CZ.out rfl (fun j hj=>by
    obtain rfl:j=0:=by omega
    rfl)))
  have B3:=Lib.hid (bt Bw1.out (bt Bw2.out Bw3.out))
  (with_reducible refine P3.out.mono ?_)
  rintro e w4 ⟨rfl,h4⟩
  have B4:=Lib.hid (bt B3.out h4)
  clear h4
  go_wp2_with fail
  go_ret
  exact ⟨rfl,B4.out⟩
structure TptRegion (X:Nat) (cr ch ma ct fi:Int) (da H V Z:ByteArray) (wo:Nat) (A:Act) (w0:World) (s:Nat->Bool) (a:Act) (w:World):Prop where
  off:Off [7,8,9,10,11,12,13,14,15,2,3] a A
  before:Below w0.heap.size w0 w
  t0:s 0=true->a.eval (.tmp 7)=.agg #[.int .i64 cr,.int .i64 ch,.int .i64 ma,.int .i64 ct,.int .i64 fi,.string da,.int .u32 (wo:Nat)]
  t1:s 1=true->a.eval (.tmp 8)=.string H
  t2:s 2=true->a.eval (.tmp 9)=.pointer (some ⟨X,5,none⟩)
  t3:s 3=true->a.eval (.tmp 10)=.string da
  t4:s 4=true->a.eval (.tmp 11)=.string (H ++ da)
  t5:s 5=true->a.eval (.tmp 12)=.agg #[.int .i64 cr,.int .i64 ch,.int .i64 ma,.int .i64 ct,.int .i64 fi,.string da,.int .u32 (wo:Nat)]
  t6:s 6=true->a.eval (.tmp 13)=.string V
  t7:s 7=true->a.eval (.tmp 14)=.string (H ++ da ++ V)
  t8:s 8=true->a.eval (.tmp 15)=.string Z
  t9:s 9=true->a.eval (.tmp 2)=.string Z
  t10:s 10=true->a.eval (.tmp 3)=.int .i64 0
theorem tptRegion {id:Nat} {d:Bool} {l:List Oper} {A:Act} {w:World} {Q:Exit->Act->World->Prop} (X:Nat) (cr ch ma ct fi:Int) (da H V Z:ByteArray) (wo:Nat)
    (lX:X < w.heap.size) (hH:H.size=6) (hD:da.size<=1024) (hV:V.size=4)
    (c0:w.cell? ⟨X,0,none⟩=some (.int .i64 cr))
    (c1:w.cell? ⟨X,1,none⟩=some (.int .i64 ch))
    (c2:w.cell? ⟨X,2,none⟩=some (.int .i64 ma))
    (c3:w.cell? ⟨X,3,none⟩=some (.int .i64 ct))
    (c4:w.cell? ⟨X,4,none⟩=some (.int .i64 fi))
    (c5:w.cell? ⟨X,5,none⟩=some (.string da))
    (c6:w.cell? ⟨X,6,none⟩=some (.int .u32 (wo:Nat)))
    (HD:∀ w,Calls Tryz.prog 82 #[.agg #[.int .i64 cr,.int .i64 ch,.int .i64 ma,.int .i64 ct,.int .i64 fi,.string da,.int .u32 (wo:Nat)]] w fun e w'=>e=.returned (.string H)/\Below w.heap.size w w')
    (WD:∀ w,Calls Tryz.prog 83 #[.agg #[.int .i64 cr,.int .i64 ch,.int .i64 ma,.int .i64 ct,.int .i64 fi,.string da,.int .u32 (wo:Nat)]] w fun e w'=>e=.returned (.string V)/\Below w.heap.size w w')
    (CL:∀ w,Calls Tryz.prog 81 #[.string (H ++ da ++ V)] w fun e w'=>e=.returned (.string Z)/\Below w.heap.size w w')
    (hB:tableL d l.toArray (fun i=>match i with | 0=>[] | 1=>[0] | 2=>[] | 3=>[2] | 4=>[1,3] | 5=>[] | 6=>[5] | 7=>[4,6] | 8=>[7] | 9=>[8] | 10=>[] | _=>[]) (fun i=>match i with | 0=>[] | 1=>[] | 2=>[] | 3=>[] | 4=>[] | 5=>[] | 6=>[] | 7=>[] | 8=>[] | 9=>[] | 10=>[] | _=>[])=true) (hl:l.length=11)
    (h0:pick l 0=some (.load 100 (.tmp 1),some 7))
    (h1:pick l 1=some (.call { callee:=.value (.func 82),args:=#[.tmp 7],argTypes:=#[100] },some 8))
    (h2:pick l 2=some (.fieldAddr 100 (.tmp 1) 5,some 9))
    (h3:pick l 3=some (.load 9 (.tmp 9),some 10))
    (h4:pick l 4=some (.binOp .add 9 (.tmp 8) (.tmp 10) 9,some 11))
    (h5:pick l 5=some (.load 100 (.tmp 1),some 12))
    (h6:pick l 6=some (.call { callee:=.value (.func 83),args:=#[.tmp 12],argTypes:=#[100] },some 13))
    (h7:pick l 7=some (.binOp .add 9 (.tmp 11) (.tmp 13) 9,some 14))
    (h8:pick l 8=some (.call { callee:=.value (.func 81),args:=#[.tmp 14],argTypes:=#[9] },some 15))
    (h9:pick l 9=some (.assign (.tmp 15),some 2))
    (h10:pick l 10=some (.assign (.const (.int .i64 0)),some 3))
    (hs:A.tmps.size=16)
    (x1:A.eval (.tmp 1)=.pointer (some ⟨X,0,none⟩))
    (h:∀ w1,Below w.heap.size w w1->Q .normal (((((((((((A.put (some 7) (.agg #[.int .i64 cr,.int .i64 ch,.int .i64 ma,.int .i64 ct,.int .i64 fi,.string da,.int .u32 (wo:Nat)])).put (some 8) (.string H)).put (some 9) (.pointer (some ⟨X,5,none⟩))).put (some 10) (.string da)).put (some 11) (.string (H ++ da))).put (some 12) (.agg #[.int .i64 cr,.int .i64 ch,.int .i64 ma,.int .i64 ct,.int .i64 fi,.string da,.int .u32 (wo:Nat)])).put (some 13) (.string V)).put (some 14) (.string (H ++ da ++ V))).put (some 15) (.string Z)).put (some 2) (.string Z)).put (some 3) (.int .i64 0)) w1):
    (Code.region id l.toArray d).wp Tryz.prog Q A w:=by
  refine wp_region_invL (by kernel_rfl) _ _ hB (TptRegion X cr ch ma ct fi da H V Z wo A w) ⟨Off.refl _ _,Below.refl _ _,by simp,by simp,by simp,by simp,by simp,by simp,by simp,by simp,by simp,by simp,by simp⟩ ⟨Off.refl _ _,(Below.refl _ _).drew,by simp,by simp,by simp,by simp,by simp,by simp,by simp,by simp,by simp,by simp,by simp⟩ ?_ ?_
  · intro s a w' S i' o ho hsi hT K hK
    have sz:a.tmps.size=16:=by rw [S.off.2.1]; exact hs
    have il:i' < 11:=by have:=(List.getElem?_eq_some_iff.1 ho).1; omega
    have y1:a.eval (.tmp 1)=.pointer (some ⟨X,0,none⟩):=by rw [S.off.eval (by decide)]; exact x1
    match i',il,ho,hsi,hT with
    | 0,_,ho,hsi,hT=>
      obtain ⟨e1,e2⟩:=pick_of h0 ho
      have BW:=S.before
      have cl0:=(BW.cell (p:=⟨X,0,none⟩) lX).trans c0
      have cl1:=(BW.cell (p:=⟨X,1,none⟩) lX).trans c1
      have cl2:=(BW.cell (p:=⟨X,2,none⟩) lX).trans c2
      have cl3:=(BW.cell (p:=⟨X,3,none⟩) lX).trans c3
      have cl4:=(BW.cell (p:=⟨X,4,none⟩) lX).trans c4
      have cl5:=(BW.cell (p:=⟨X,5,none⟩) lX).trans c5
      have cl6:=(BW.cell (p:=⟨X,6,none⟩) lX).trans c6
      refine step_val (v:=.agg #[.int .i64 cr,.int .i64 ch,.int .i64 ma,.int .i64 ct,.int .i64 fi,.string da,.int .u32 (wo:Nat)]) (by simp only [execOp,e1,y1]; go_simp) (hK _ _ ?_)
      rw [e2]
      exact ⟨ofp S.off,S.before,ev_ (by omega),kp S.t1,kp S.t2,kp S.t3,kp S.t4,kp S.t5,kp S.t6,kp S.t7,kp S.t8,kp S.t9,kp S.t10⟩
    | 1,_,ho,hsi,hT=>
      obtain ⟨e1,e2⟩:=pick_of h1 ho
      have D0:s 0=true:=list_pos hT (d:=0) (by decide)
      have BW:=S.before
      refine step_call 82 (fun args w=>by go_simp) _ _ e1 #[.agg #[.int .i64 cr,.int .i64 ch,.int .i64 ma,.int .i64 ct,.int .i64 fi,.string da,.int .u32 (wo:Nat)]] (by simp only [List.map_toArray,List.map_cons,List.map_nil,S.t0 D0]) ((HD w').mono ?_)
      rintro e w2 ⟨rfl,BB⟩
      refine ⟨_,rfl,hK _ _ ?_⟩
      rw [e2]
      exact ⟨ofp S.off,bt BW BB,kp S.t0,ev_ (by omega),kp S.t2,kp S.t3,kp S.t4,kp S.t5,kp S.t6,kp S.t7,kp S.t8,kp S.t9,kp S.t10⟩
    | 2,_,ho,hsi,hT=>
      obtain ⟨e1,e2⟩:=pick_of h2 ho
      refine step_val (v:=.pointer (some ⟨X,5,none⟩)) (by simp only [execOp,e1,y1]; go_simp) (hK _ _ ?_)
      rw [e2]
      exact ⟨ofp S.off,S.before,kp S.t0,kp S.t1,ev_ (by omega),kp S.t3,kp S.t4,kp S.t5,kp S.t6,kp S.t7,kp S.t8,kp S.t9,kp S.t10⟩
    | 3,_,ho,hsi,hT=>
      obtain ⟨e1,e2⟩:=pick_of h3 ho
      have D2:s 2=true:=list_pos hT (d:=2) (by decide)
      have BW:=S.before
      have cl5:=(BW.cell (p:=⟨X,5,none⟩) lX).trans c5
      refine step_val (v:=.string da) (by simp only [execOp,e1,S.t2 D2]; go_simp) (hK _ _ ?_)
      rw [e2]
      exact ⟨ofp S.off,S.before,kp S.t0,kp S.t1,kp S.t2,ev_ (by omega),kp S.t4,kp S.t5,kp S.t6,kp S.t7,kp S.t8,kp S.t9,kp S.t10⟩
    | 4,_,ho,hsi,hT=>
      obtain ⟨e1,e2⟩:=pick_of h4 ho
      have D1:s 1=true:=list_pos hT (d:=1) (by decide)
      have D3:s 3=true:=list_pos hT (d:=3) (by decide)
      refine step_val (v:=.string (H ++ da)) (by simp only [execOp,e1,S.t1 D1,S.t3 D3]; go_simp; omega) (hK _ _ ?_)
      rw [e2]
      exact ⟨ofp S.off,S.before,kp S.t0,kp S.t1,kp S.t2,kp S.t3,ev_ (by omega),kp S.t5,kp S.t6,kp S.t7,kp S.t8,kp S.t9,kp S.t10⟩
    | 5,_,ho,hsi,hT=>
      obtain ⟨e1,e2⟩:=pick_of h5 ho
      have BW:=S.before
      have cl0:=(BW.cell (p:=⟨X,0,none⟩) lX).trans c0
      have cl1:=(BW.cell (p:=⟨X,1,none⟩) lX).trans c1
      have cl2:=(BW.cell (p:=⟨X,2,none⟩) lX).trans c2
      have cl3:=(BW.cell (p:=⟨X,3,none⟩) lX).trans c3
      have cl4:=(BW.cell (p:=⟨X,4,none⟩) lX).trans c4
      have cl5:=(BW.cell (p:=⟨X,5,none⟩) lX).trans c5
      have cl6:=(BW.cell (p:=⟨X,6,none⟩) lX).trans c6
      refine step_val (v:=.agg #[.int .i64 cr,.int .i64 ch,.int .i64 ma,.int .i64 ct,.int .i64 fi,.string da,.int .u32 (wo:Nat)]) (by simp only [execOp,e1,y1]; go_simp) (hK _ _ ?_)
      rw [e2]
      exact ⟨ofp S.off,S.before,kp S.t0,kp S.t1,kp S.t2,kp S.t3,kp S.t4,ev_ (by omega),kp S.t6,kp S.t7,kp S.t8,kp S.t9,kp S.t10⟩
    | 6,_,ho,hsi,hT=>
      obtain ⟨e1,e2⟩:=pick_of h6 ho
      have D5:s 5=true:=list_pos hT (d:=5) (by decide)
      have BW:=S.before
      refine step_call 83 (fun args w=>by go_simp) _ _ e1 #[.agg #[.int .i64 cr,.int .i64 ch,.int .i64 ma,.int .i64 ct,.int .i64 fi,.string da,.int .u32 (wo:Nat)]] (by simp only [List.map_toArray,List.map_cons,List.map_nil,S.t5 D5]) ((WD w').mono ?_)
      rintro e w2 ⟨rfl,BB⟩
      refine ⟨_,rfl,hK _ _ ?_⟩
      rw [e2]
      exact ⟨ofp S.off,bt BW BB,kp S.t0,kp S.t1,kp S.t2,kp S.t3,kp S.t4,kp S.t5,ev_ (by omega),kp S.t7,kp S.t8,kp S.t9,kp S.t10⟩
    | 7,_,ho,hsi,hT=>
      obtain ⟨e1,e2⟩:=pick_of h7 ho
      have D4:s 4=true:=list_pos hT (d:=4) (by decide)
      have D6:s 6=true:=list_pos hT (d:=6) (by decide)
      refine step_val (v:=.string (H ++ da ++ V)) (by simp only [execOp,e1,S.t4 D4,S.t6 D6]; go_simp; omega) (hK _ _ ?_)
      rw [e2]
      exact ⟨ofp S.off,S.before,kp S.t0,kp S.t1,kp S.t2,kp S.t3,kp S.t4,kp S.t5,kp S.t6,ev_ (by omega),kp S.t8,kp S.t9,kp S.t10⟩
    | 8,_,ho,hsi,hT=>
      obtain ⟨e1,e2⟩:=pick_of h8 ho
      have D7:s 7=true:=list_pos hT (d:=7) (by decide)
      have BW:=S.before
      refine step_call 81 (fun args w=>by go_simp) _ _ e1 #[.string (H ++ da ++ V)] (by simp only [List.map_toArray,List.map_cons,List.map_nil,S.t7 D7]) ((CL w').mono ?_)
      rintro e w2 ⟨rfl,BB⟩
      refine ⟨_,rfl,hK _ _ ?_⟩
      rw [e2]
      exact ⟨ofp S.off,bt BW BB,kp S.t0,kp S.t1,kp S.t2,kp S.t3,kp S.t4,kp S.t5,kp S.t6,kp S.t7,ev_ (by omega),kp S.t9,kp S.t10⟩
    | 9,_,ho,hsi,hT=>
      obtain ⟨e1,e2⟩:=pick_of h9 ho
      have D8:s 8=true:=list_pos hT (d:=8) (by decide)
      refine step_val (v:=.string Z) (by simp only [execOp,e1,S.t8 D8]; go_simp) (hK _ _ ?_)
      rw [e2]
      exact ⟨ofp S.off,S.before,kp S.t0,kp S.t1,kp S.t2,kp S.t3,kp S.t4,kp S.t5,kp S.t6,kp S.t7,kp S.t8,ev_ (by omega),kp S.t10⟩
    | 10,_,ho,hsi,hT=>
      obtain ⟨e1,e2⟩:=pick_of h10 ho
      refine step_val (v:=.int .i64 0) (by simp only [execOp,e1]; go_simp) (hK _ _ ?_)
      rw [e2]
      exact ⟨ofp S.off,S.before,kp S.t0,kp S.t1,kp S.t2,kp S.t3,kp S.t4,kp S.t5,kp S.t6,kp S.t7,kp S.t8,kp S.t9,ev_ (by omega)⟩
  intro s a w' S hall
  have a0:=hall 0 (by omega)
  have a1:=hall 1 (by omega)
  have a2:=hall 2 (by omega)
  have a3:=hall 3 (by omega)
  have a4:=hall 4 (by omega)
  have a5:=hall 5 (by omega)
  have a6:=hall 6 (by omega)
  have a7:=hall 7 (by omega)
  have a8:=hall 8 (by omega)
  have a9:=hall 9 (by omega)
  have a10:=hall 10 (by omega)
  have e:=off_norm _ (by intro d hd; simp at hd; omega) S.off
  simp only [List.foldl,S.t0 a0,S.t1 a1,S.t2 a2,S.t3 a3,S.t4 a4,S.t5 a5,S.t6 a6,S.t7 a7,S.t8 a8,S.t9 a9,S.t10 a10] at e
  rw [e]
  exact h _ S.before
theorem bs_list (l:List UInt8):(bs l).data.toList=l:=rfl
theorem put_list (f:Tmf):bs (Tm.hdr f) ++ f.da ++ bs (Tm.wrd f.wo)=bs (Tm.body f):=by
  rw [Tm.body_cut,<-bs_app,<-bs_app,bs_self,ByteArray.append_assoc]
theorem tput_any (f:Tmf) (hs:f.da.size<=9223372036854775807) (hw:f.wo < 4294967296) (w:World):Calls Tryz.prog 44 #[tmVal f] w fun e w'=>e=.returned (if Tm.Ok f then .tuple #[.string (bs (Tm.enc f)),.int .i64 0] else .tuple #[.string ⟨#[]⟩,.int .i64 2])/\Below w.heap.size w w':=by
  have VA:=Lib.hid (fun w=>tframe_any f hs w)
  by_cases h:Tm.Ok f
  · rw [if_pos h]
    rw [decide_eq_true h] at VA
    have HD:=Lib.hid (fun w=>theader_any f h w)
    have WD:=Lib.hid (fun w=>tword_any f hw w)
    have DS:=Lib.hid (show f.da.size<=200 from h.1.2.2.2.2.2)
    have CL:=Lib.hid (fun w=>close16_any (bs (Tm.body f)) (by rw [bs_size,Tm.body_len]; have:=DS.out; omega) w)
    rw [bs_list,show (⟨(Crc.close (Tm.body f)).toArray⟩:ByteArray)=bs (Tm.enc f) from rfl,<-put_list] at CL
    have H6:=Lib.hid (show (bs (Tm.hdr f)).size=6 by rw [bs_size]; rfl)
    have V4:=Lib.hid (show (bs (Tm.wrd f.wo)).size=4 by rw [bs_size]; rfl)
    obtain ⟨H,hH⟩:∃ H,bs (Tm.hdr f)=H:=⟨_,rfl⟩
    obtain ⟨V,hV⟩:∃ H,bs (Tm.wrd f.wo)=H:=⟨_,rfl⟩
    obtain ⟨Z,hZ⟩:∃ H,bs (Tm.enc f)=H:=⟨_,rfl⟩
    rw [hH] at HD H6 CL
    rw [hV] at WD V4 CL
    rw [hZ] at CL ⊢
    clear h hH hV hZ hs hw
    obtain ⟨cr,ch,ma,ct,fi,da,wo⟩:=f
    unfold tmVal at VA HD WD ⊢
    simp only at VA HD WD DS CL ⊢
    go_enter Tryz.func44,Tryz.ntmps44
    go_wp2_with ((with_reducible refine atList ?_); refine wpList_new rfl (.box 100 (.tmp 0)) rfl (some 1) rfl #[.int .i64 cr,.int .i64 ch,.int .i64 ma,.int .i64 ct,.int .i64 fi,.string da,.int .u32 (wo:Nat)] 100 (fun X=>.pointer (some ⟨X,0,none⟩)) 7 (tmCel ⟨cr,ch,ma,ct,fi,da,wo⟩) (tm_cells ⟨cr,ch,ma,ct,fi,da,wo⟩) (box_tm rfl rfl) ?_; intro X w1 HX Sw1 CX Bw1; have c0:w1.cell? ⟨X,0,none⟩=some (.int .i64 cr):=CX.out.cell (j:=0) (by omega); have c1:w1.cell? ⟨X,1,none⟩=some (.int .i64 ch):=CX.out.cell (j:=1) (by omega); have c2:w1.cell? ⟨X,2,none⟩=some (.int .i64 ma):=CX.out.cell (j:=2) (by omega); have c3:w1.cell? ⟨X,3,none⟩=some (.int .i64 ct):=CX.out.cell (j:=3) (by omega); have c4:w1.cell? ⟨X,4,none⟩=some (.int .i64 fi):=CX.out.cell (j:=4) (by omega); have c5:w1.cell? ⟨X,5,none⟩=some (.string da):=CX.out.cell (j:=5) (by omega); have c6:w1.cell? ⟨X,6,none⟩=some (.int .u32 (wo:Nat)):=CX.out.cell (j:=6) (by omega))
    (with_reducible refine (VA.out _).mono ?_)
    rintro e w2 ⟨rfl,h2⟩
    have B2:=Lib.hid (bt Bw1.out h2)
    have lX:=CX.out.lt
    have c0:=(h2.cell (p:=⟨X,0,none⟩) lX).trans c0
    have c1:=(h2.cell (p:=⟨X,1,none⟩) lX).trans c1
    have c2:=(h2.cell (p:=⟨X,2,none⟩) lX).trans c2
    have c3:=(h2.cell (p:=⟨X,3,none⟩) lX).trans c3
    have c4:=(h2.cell (p:=⟨X,4,none⟩) lX).trans c4
    have c5:=(h2.cell (p:=⟨X,5,none⟩) lX).trans c5
    have c6:=(h2.cell (p:=⟨X,6,none⟩) lX).trans c6
    have lX2:=Nat.lt_of_lt_of_le lX h2.size
    clear h2
    go_upto_region 3 with fail
    refine tptRegion X cr ch ma ct fi da H V Z wo lX2 H6.out (by have:=DS.out; omega) V4.out c0 c1 c2 c3 c4 c5 c6 HD.out WD.out CL.out (by kernel_rfl) rfl rfl rfl rfl rfl rfl rfl rfl rfl rfl rfl rfl rfl rfl ?_
    intro w3 h3
    have B3:=Lib.hid (bt B2.out h3)
    clear h3
    simp only [Act.put,List.setIfInBounds_toArray,List.set_cons_succ,List.set_cons_zero]
    go_wp2_with fail
    go_ret2
    exact ⟨rfl,B3.out⟩
  rw [if_neg h]
  rw [decide_eq_false h] at VA
  clear h hs hw
  obtain ⟨cr,ch,ma,ct,fi,da,wo⟩:=f
  unfold tmVal at VA ⊢
  simp only at VA ⊢
  go_enter Tryz.func44,Tryz.ntmps44
  go_wp2_with ((with_reducible refine atList ?_); refine wpList_new rfl (.box 100 (.tmp 0)) rfl (some 1) rfl #[.int .i64 cr,.int .i64 ch,.int .i64 ma,.int .i64 ct,.int .i64 fi,.string da,.int .u32 (wo:Nat)] 100 (fun X=>.pointer (some ⟨X,0,none⟩)) 7 (tmCel ⟨cr,ch,ma,ct,fi,da,wo⟩) (tm_cells ⟨cr,ch,ma,ct,fi,da,wo⟩) (box_tm rfl rfl) ?_; intro X w1 HX Sw1 CX Bw1; have c0:w1.cell? ⟨X,0,none⟩=some (.int .i64 cr):=CX.out.cell (j:=0) (by omega); have c1:w1.cell? ⟨X,1,none⟩=some (.int .i64 ch):=CX.out.cell (j:=1) (by omega); have c2:w1.cell? ⟨X,2,none⟩=some (.int .i64 ma):=CX.out.cell (j:=2) (by omega); have c3:w1.cell? ⟨X,3,none⟩=some (.int .i64 ct):=CX.out.cell (j:=3) (by omega); have c4:w1.cell? ⟨X,4,none⟩=some (.int .i64 fi):=CX.out.cell (j:=4) (by omega); have c5:w1.cell? ⟨X,5,none⟩=some (.string da):=CX.out.cell (j:=5) (by omega); have c6:w1.cell? ⟨X,6,none⟩=some (.int .u32 (wo:Nat)):=CX.out.cell (j:=6) (by omega))
  (with_reducible refine (VA.out _).mono ?_)
  rintro e w2 ⟨rfl,h2⟩
  have B2:=Lib.hid (bt Bw1.out h2)
  clear h2
  go_wp2_with fail
  go_ret2
  exact ⟨rfl,B2.out⟩
end Go.Proofs.YtchfkncbemjepaaGreat
