/- ChNext -/
import Derived.Test.YtchfkncbemjepaaGreatChChoose
import Derived.Test.YtchfkncbemjepaaGreatChFrm
import Derived.Test.YtchfkncbemjepaaGreatChSmall
import Derived.Test.YtchfkncbemjepaaGreatTpHead
set_option linter.unusedVariables false
set_option maxRecDepth 100000
set_option maxHeartbeats 16000000
/- Layer 11, the landed program: Next of a mux: its drawn region. -/
namespace Go.Proofs.YtchfkncbemjepaaGreat
open Go.RowKit

def NewF (b:Nat) (v:Value) (w:World):Prop:=∃ X,v=.pointer (some ⟨X,0,none⟩)/\b<=X/\Cel w X 7 (tmCel tm0)/\TyB w X 100
theorem NewF.mono {b:Nat} {v:Value} {w w':World} (h:NewF b v w) (hb:Below w.heap.size w w'):NewF b v w':=by
  obtain ⟨X,e,h1,h2,h3⟩:=h
  exact ⟨X,e,h1,h2.below hb,h3.below hb⟩
theorem newF_alloc (w:World) (b:Nat) (hb:b<=w.heap.size):NewF b (.pointer (some ⟨w.heap.size,0,none⟩)) (w.alloc (.cells #[.int .i64 0,.int .i64 0,.int .i64 0,.int .i64 0,.int .i64 0,.string ⟨#[]⟩,.int .u32 0] 100)):=
  ⟨_,rfl,hb,Cel.new w _ _ (tm_cells tm0),_,_,heap_alloc_last w _⟩
theorem build_tmf {ev:Operand->Value} {w:World} {o:Oper} {x0 x1 x2 x3 x4 x5 x6:Operand} {v0 v1 v2 v3 v4:Int} {v5:ByteArray} {v6:Int} (h:o.op=.build 100 #[(0,x0),(1,x1),(2,x2),(3,x3),(4,x4),(5,x5),(6,x6)])
    (h0:ev x0=.int .i64 v0) (h1:ev x1=.int .i64 v1) (h2:ev x2=.int .i64 v2) (h3:ev x3=.int .i64 v3) (h4:ev x4=.int .i64 v4) (h5:ev x5=.string v5) (h6:ev x6=.int .u32 v6):
    (execOp ev o).run Tryz.prog w=.ok (.value (.agg #[.int .i64 v0,.int .i64 v1,.int .i64 v2,.int .i64 v3,.int .i64 v4,.string v5,.int .u32 v6])) w:=by
  simp only [execOp,h,List.map_toArray,List.map_cons,List.map_nil,h0,h1,h2,h3,h4,h5,h6]; go_simp
structure NxRegion (M q NB z1 z2 z3 z4 z5 z7:Nat) (z6:ByteArray) (A:Act) (w0:World) (s:Nat->Bool) (a:Act) (w:World):Prop where
  off:Off [32,33,34,35,36,37,38,39,40,41,42,43,44,45,46,47,48,49,50,51,10] a A
  before:Below w0.heap.size w0 w
  t0:s 0=true->a.eval (.tmp 32)=.pointer (some ⟨M,0,none⟩)
  t1:s 1=true->a.eval (.tmp 33)=.pointer (some ⟨M,0,none⟩)
  t2:s 2=true->a.eval (.tmp 34)=.pointer (some ⟨M,1,none⟩)
  t3:s 3=true->a.eval (.tmp 35)=.int .i64 (z1:Nat)
  t4:s 4=true->a.eval (.tmp 36)=.pointer (some ⟨M,q,none⟩)
  t5:s 5=true->a.eval (.tmp 37)=.pointer (some ⟨M,q,none⟩)
  t6:s 6=true->a.eval (.tmp 38)=.pointer (some ⟨M,q + 1,none⟩)
  t7:s 7=true->a.eval (.tmp 39)=.int .i64 (z2:Nat)
  t8:s 8=true->a.eval (.tmp 40)=.pointer (some ⟨M,0,none⟩)
  t9:s 9=true->a.eval (.tmp 41)=.pointer (some ⟨M,0,none⟩)
  t10:s 10=true->a.eval (.tmp 42)=.pointer (some ⟨M,3,none⟩)
  t11:s 11=true->a.eval (.tmp 43)=.int .i64 (z3:Nat)
  t12:s 12=true->a.eval (.tmp 44)=.pointer (some ⟨M,q,none⟩)
  t13:s 13=true->a.eval (.tmp 45)=.pointer (some ⟨M,q,none⟩)
  t14:s 14=true->a.eval (.tmp 46)=.pointer (some ⟨M,q + 5,none⟩)
  t15:s 15=true->a.eval (.tmp 47)=.int .i64 (z4:Nat)
  t16:s 16=true->a.eval (.tmp 48)=.int .i64 (z5:Nat)
  t17:s 17=true->a.eval (.tmp 49)=.string z6
  t18:s 18=true->a.eval (.tmp 50)=.int .u32 (z7:Nat)
  t19:s 19=true->a.eval (.tmp 51)=.agg #[.int .i64 (z1:Nat),.int .i64 (z2:Nat),.int .i64 (z3:Nat),.int .i64 (z4:Nat),.int .i64 (z5:Nat),.string z6,.int .u32 (z7:Nat)]
  t20:s 20=true->∃ v20,a.eval (.tmp 10)=v20/\NewF NB v20 w
theorem nxRegion {id:Nat} {l:List Oper} {A:Act} {w:World} {Q:Exit->Act->World->Prop} (M q NB z1 z2 z3 z4 z5 z7:Nat) (z6:ByteArray)
    (lM:M < w.heap.size) (k1:w.cell? ⟨M,1,none⟩=some (.int .i64 (z1:Nat))) (k2:w.cell? ⟨M,q + 1,none⟩=some (.int .i64 (z2:Nat))) (k3:w.cell? ⟨M,3,none⟩=some (.int .i64 (z3:Nat))) (k4:w.cell? ⟨M,q + 5,none⟩=some (.int .i64 (z4:Nat))) (hNB:NB<=w.heap.size)
    (hB:tableH l.toArray 21 (fun i=>match i with | 0=>[] | 1=>[0] | 2=>[1] | 3=>[2] | 4=>[] | 5=>[4] | 6=>[5] | 7=>[6] | 8=>[] | 9=>[8] | 10=>[9] | 11=>[10] | 12=>[] | 13=>[12] | 14=>[13] | 15=>[14] | 16=>[] | 17=>[] | 18=>[] | 19=>[3,7,11,15,16,17,18] | 20=>[] | _=>[]) (fun _=>[])=true)
    (h0:pick l 0=some (.move (.tmp 0),some 32))
    (h1:pick l 1=some (.nilCheck (.tmp 32),some 33))
    (h2:pick l 2=some (.fieldAddr 61 (.tmp 33) 1,some 34))
    (h3:pick l 3=some (.load 3 (.tmp 34),some 35))
    (h4:pick l 4=some (.move (.tmp 6),some 36))
    (h5:pick l 5=some (.nilCheck (.tmp 36),some 37))
    (h6:pick l 6=some (.fieldAddr 58 (.tmp 37) 1,some 38))
    (h7:pick l 7=some (.load 3 (.tmp 38),some 39))
    (h8:pick l 8=some (.move (.tmp 0),some 40))
    (h9:pick l 9=some (.nilCheck (.tmp 40),some 41))
    (h10:pick l 10=some (.fieldAddr 61 (.tmp 41) 3,some 42))
    (h11:pick l 11=some (.load 3 (.tmp 42),some 43))
    (h12:pick l 12=some (.move (.tmp 6),some 44))
    (h13:pick l 13=some (.nilCheck (.tmp 44),some 45))
    (h14:pick l 14=some (.fieldAddr 58 (.tmp 45) 5,some 46))
    (h15:pick l 15=some (.load 3 (.tmp 46),some 47))
    (h16:pick l 16=some (.move (.tmp 8),some 48))
    (h17:pick l 17=some (.move (.tmp 7),some 49))
    (h18:pick l 18=some (.move (.tmp 1),some 50))
    (h19:pick l 19=some (.build 100 #[(0,.tmp 35),(1,.tmp 39),(2,.tmp 43),(3,.tmp 47),(4,.tmp 48),(5,.tmp 49),(6,.tmp 50)],some 51))
    (h20:pick l 20=some (.alloc 100,some 10))
    (hs:A.tmps.size=74)
    (x0:A.eval (.tmp 0)=.pointer (some ⟨M,0,none⟩))
    (x6:A.eval (.tmp 6)=.pointer (some ⟨M,q,none⟩))
    (x8:A.eval (.tmp 8)=.int .i64 (z5:Nat))
    (x7:A.eval (.tmp 7)=.string z6)
    (x1:A.eval (.tmp 1)=.int .u32 (z7:Nat))
    (h:∀ v20 w1,Below w.heap.size w w1->NewF NB v20 w1->wpList Tryz.prog l.toArray Q (l.drop 21) (((((((((((((((((((((A.put (some 32) (.pointer (some ⟨M,0,none⟩))).put (some 33) (.pointer (some ⟨M,0,none⟩))).put (some 34) (.pointer (some ⟨M,1,none⟩))).put (some 35) (.int .i64 (z1:Nat))).put (some 36) (.pointer (some ⟨M,q,none⟩))).put (some 37) (.pointer (some ⟨M,q,none⟩))).put (some 38) (.pointer (some ⟨M,q + 1,none⟩))).put (some 39) (.int .i64 (z2:Nat))).put (some 40) (.pointer (some ⟨M,0,none⟩))).put (some 41) (.pointer (some ⟨M,0,none⟩))).put (some 42) (.pointer (some ⟨M,3,none⟩))).put (some 43) (.int .i64 (z3:Nat))).put (some 44) (.pointer (some ⟨M,q,none⟩))).put (some 45) (.pointer (some ⟨M,q,none⟩))).put (some 46) (.pointer (some ⟨M,q + 5,none⟩))).put (some 47) (.int .i64 (z4:Nat))).put (some 48) (.int .i64 (z5:Nat))).put (some 49) (.string z6)).put (some 50) (.int .u32 (z7:Nat))).put (some 51) (.agg #[.int .i64 (z1:Nat),.int .i64 (z2:Nat),.int .i64 (z3:Nat),.int .i64 (z4:Nat),.int .i64 (z5:Nat),.string z6,.int .u32 (z7:Nat)])).put (some 10) (v20)) w1):
    (Code.region id l.toArray true).wp Tryz.prog Q A w:=by
  refine wp_region_head (by kernel_rfl) _ _ _ hB (NxRegion M q NB z1 z2 z3 z4 z5 z7 z6 A w) ⟨Off.refl _ _,(Below.refl _ _).drew,by simp,by simp,by simp,by simp,by simp,by simp,by simp,by simp,by simp,by simp,by simp,by simp,by simp,by simp,by simp,by simp,by simp,by simp,by simp,by simp,by simp⟩ ?_ ?_
  · intro s a w' S i' o il ho hsi hT K hK
    have sz:a.tmps.size=74:=by rw [S.off.2.1]; exact hs
    have y0:a.eval (.tmp 0)=.pointer (some ⟨M,0,none⟩):=by rw [S.off.eval (by decide)]; exact x0
    have y6:a.eval (.tmp 6)=.pointer (some ⟨M,q,none⟩):=by rw [S.off.eval (by decide)]; exact x6
    have y8:a.eval (.tmp 8)=.int .i64 (z5:Nat):=by rw [S.off.eval (by decide)]; exact x8
    have y7:a.eval (.tmp 7)=.string z6:=by rw [S.off.eval (by decide)]; exact x7
    have y1:a.eval (.tmp 1)=.int .u32 (z7:Nat):=by rw [S.off.eval (by decide)]; exact x1
    match i',il,ho,hsi,hT with
    | 0,_,ho,hsi,hT=>
      obtain ⟨e1,e2⟩:=pick_of h0 ho
      refine step_val (v:=.pointer (some ⟨M,0,none⟩)) (by simp only [execOp,e1,y0]; go_simp) (hK _ _ ?_)
      rw [e2]
      exact ⟨ofp S.off,S.before,ev_ (by omega),kp S.t1,kp S.t2,kp S.t3,kp S.t4,kp S.t5,kp S.t6,kp S.t7,kp S.t8,kp S.t9,kp S.t10,kp S.t11,kp S.t12,kp S.t13,kp S.t14,kp S.t15,kp S.t16,kp S.t17,kp S.t18,kp S.t19,fun g=>(S.t20 (by simpa using g)).imp fun b hb=>⟨by rw [eval_put_ne _ _ _ _ (by decide)]; exact hb.1,hb.2⟩⟩
    | 1,_,ho,hsi,hT=>
      obtain ⟨e1,e2⟩:=pick_of h1 ho
      have D0:s 0=true:=list_pos hT (d:=0) (by decide)
      refine step_val (v:=.pointer (some ⟨M,0,none⟩)) (by simp only [execOp,e1,S.t0 D0]; go_simp) (hK _ _ ?_)
      rw [e2]
      exact ⟨ofp S.off,S.before,kp S.t0,ev_ (by omega),kp S.t2,kp S.t3,kp S.t4,kp S.t5,kp S.t6,kp S.t7,kp S.t8,kp S.t9,kp S.t10,kp S.t11,kp S.t12,kp S.t13,kp S.t14,kp S.t15,kp S.t16,kp S.t17,kp S.t18,kp S.t19,fun g=>(S.t20 (by simpa using g)).imp fun b hb=>⟨by rw [eval_put_ne _ _ _ _ (by decide)]; exact hb.1,hb.2⟩⟩
    | 2,_,ho,hsi,hT=>
      obtain ⟨e1,e2⟩:=pick_of h2 ho
      have D1:s 1=true:=list_pos hT (d:=1) (by decide)
      refine step_val (v:=.pointer (some ⟨M,1,none⟩)) (by simp only [execOp,e1,S.t1 D1]; go_simp) (hK _ _ ?_)
      rw [e2]
      exact ⟨ofp S.off,S.before,kp S.t0,kp S.t1,ev_ (by omega),kp S.t3,kp S.t4,kp S.t5,kp S.t6,kp S.t7,kp S.t8,kp S.t9,kp S.t10,kp S.t11,kp S.t12,kp S.t13,kp S.t14,kp S.t15,kp S.t16,kp S.t17,kp S.t18,kp S.t19,fun g=>(S.t20 (by simpa using g)).imp fun b hb=>⟨by rw [eval_put_ne _ _ _ _ (by decide)]; exact hb.1,hb.2⟩⟩
    | 3,_,ho,hsi,hT=>
      obtain ⟨e1,e2⟩:=pick_of h3 ho
      have D2:s 2=true:=list_pos hT (d:=2) (by decide)
      have BW:=S.before
      have d1:=(BW.cell (p:=⟨M,1,none⟩) lM).trans k1
      refine step_val (v:=.int .i64 (z1:Nat)) (by simp only [execOp,e1,S.t2 D2]; go_simp) (hK _ _ ?_)
      rw [e2]
      exact ⟨ofp S.off,S.before,kp S.t0,kp S.t1,kp S.t2,ev_ (by omega),kp S.t4,kp S.t5,kp S.t6,kp S.t7,kp S.t8,kp S.t9,kp S.t10,kp S.t11,kp S.t12,kp S.t13,kp S.t14,kp S.t15,kp S.t16,kp S.t17,kp S.t18,kp S.t19,fun g=>(S.t20 (by simpa using g)).imp fun b hb=>⟨by rw [eval_put_ne _ _ _ _ (by decide)]; exact hb.1,hb.2⟩⟩
    | 4,_,ho,hsi,hT=>
      obtain ⟨e1,e2⟩:=pick_of h4 ho
      refine step_val (v:=.pointer (some ⟨M,q,none⟩)) (by simp only [execOp,e1,y6]; go_simp) (hK _ _ ?_)
      rw [e2]
      exact ⟨ofp S.off,S.before,kp S.t0,kp S.t1,kp S.t2,kp S.t3,ev_ (by omega),kp S.t5,kp S.t6,kp S.t7,kp S.t8,kp S.t9,kp S.t10,kp S.t11,kp S.t12,kp S.t13,kp S.t14,kp S.t15,kp S.t16,kp S.t17,kp S.t18,kp S.t19,fun g=>(S.t20 (by simpa using g)).imp fun b hb=>⟨by rw [eval_put_ne _ _ _ _ (by decide)]; exact hb.1,hb.2⟩⟩
    | 5,_,ho,hsi,hT=>
      obtain ⟨e1,e2⟩:=pick_of h5 ho
      have D4:s 4=true:=list_pos hT (d:=4) (by decide)
      refine step_val (v:=.pointer (some ⟨M,q,none⟩)) (by simp only [execOp,e1,S.t4 D4]; go_simp) (hK _ _ ?_)
      rw [e2]
      exact ⟨ofp S.off,S.before,kp S.t0,kp S.t1,kp S.t2,kp S.t3,kp S.t4,ev_ (by omega),kp S.t6,kp S.t7,kp S.t8,kp S.t9,kp S.t10,kp S.t11,kp S.t12,kp S.t13,kp S.t14,kp S.t15,kp S.t16,kp S.t17,kp S.t18,kp S.t19,fun g=>(S.t20 (by simpa using g)).imp fun b hb=>⟨by rw [eval_put_ne _ _ _ _ (by decide)]; exact hb.1,hb.2⟩⟩
    | 6,_,ho,hsi,hT=>
      obtain ⟨e1,e2⟩:=pick_of h6 ho
      have D5:s 5=true:=list_pos hT (d:=5) (by decide)
      refine step_val (v:=.pointer (some ⟨M,q + 1,none⟩)) (by simp only [execOp,e1,S.t5 D5]; go_simp) (hK _ _ ?_)
      rw [e2]
      exact ⟨ofp S.off,S.before,kp S.t0,kp S.t1,kp S.t2,kp S.t3,kp S.t4,kp S.t5,ev_ (by omega),kp S.t7,kp S.t8,kp S.t9,kp S.t10,kp S.t11,kp S.t12,kp S.t13,kp S.t14,kp S.t15,kp S.t16,kp S.t17,kp S.t18,kp S.t19,fun g=>(S.t20 (by simpa using g)).imp fun b hb=>⟨by rw [eval_put_ne _ _ _ _ (by decide)]; exact hb.1,hb.2⟩⟩
    | 7,_,ho,hsi,hT=>
      obtain ⟨e1,e2⟩:=pick_of h7 ho
      have D6:s 6=true:=list_pos hT (d:=6) (by decide)
      have BW:=S.before
      have d2:=(BW.cell (p:=⟨M,q + 1,none⟩) lM).trans k2
      refine step_val (v:=.int .i64 (z2:Nat)) (by simp only [execOp,e1,S.t6 D6]; go_simp) (hK _ _ ?_)
      rw [e2]
      exact ⟨ofp S.off,S.before,kp S.t0,kp S.t1,kp S.t2,kp S.t3,kp S.t4,kp S.t5,kp S.t6,ev_ (by omega),kp S.t8,kp S.t9,kp S.t10,kp S.t11,kp S.t12,kp S.t13,kp S.t14,kp S.t15,kp S.t16,kp S.t17,kp S.t18,kp S.t19,fun g=>(S.t20 (by simpa using g)).imp fun b hb=>⟨by rw [eval_put_ne _ _ _ _ (by decide)]; exact hb.1,hb.2⟩⟩
    | 8,_,ho,hsi,hT=>
      obtain ⟨e1,e2⟩:=pick_of h8 ho
      refine step_val (v:=.pointer (some ⟨M,0,none⟩)) (by simp only [execOp,e1,y0]; go_simp) (hK _ _ ?_)
      rw [e2]
      exact ⟨ofp S.off,S.before,kp S.t0,kp S.t1,kp S.t2,kp S.t3,kp S.t4,kp S.t5,kp S.t6,kp S.t7,ev_ (by omega),kp S.t9,kp S.t10,kp S.t11,kp S.t12,kp S.t13,kp S.t14,kp S.t15,kp S.t16,kp S.t17,kp S.t18,kp S.t19,fun g=>(S.t20 (by simpa using g)).imp fun b hb=>⟨by rw [eval_put_ne _ _ _ _ (by decide)]; exact hb.1,hb.2⟩⟩
    | 9,_,ho,hsi,hT=>
      obtain ⟨e1,e2⟩:=pick_of h9 ho
      have D8:s 8=true:=list_pos hT (d:=8) (by decide)
      refine step_val (v:=.pointer (some ⟨M,0,none⟩)) (by simp only [execOp,e1,S.t8 D8]; go_simp) (hK _ _ ?_)
      rw [e2]
      exact ⟨ofp S.off,S.before,kp S.t0,kp S.t1,kp S.t2,kp S.t3,kp S.t4,kp S.t5,kp S.t6,kp S.t7,kp S.t8,ev_ (by omega),kp S.t10,kp S.t11,kp S.t12,kp S.t13,kp S.t14,kp S.t15,kp S.t16,kp S.t17,kp S.t18,kp S.t19,fun g=>(S.t20 (by simpa using g)).imp fun b hb=>⟨by rw [eval_put_ne _ _ _ _ (by decide)]; exact hb.1,hb.2⟩⟩
    | 10,_,ho,hsi,hT=>
      obtain ⟨e1,e2⟩:=pick_of h10 ho
      have D9:s 9=true:=list_pos hT (d:=9) (by decide)
      refine step_val (v:=.pointer (some ⟨M,3,none⟩)) (by simp only [execOp,e1,S.t9 D9]; go_simp) (hK _ _ ?_)
      rw [e2]
      exact ⟨ofp S.off,S.before,kp S.t0,kp S.t1,kp S.t2,kp S.t3,kp S.t4,kp S.t5,kp S.t6,kp S.t7,kp S.t8,kp S.t9,ev_ (by omega),kp S.t11,kp S.t12,kp S.t13,kp S.t14,kp S.t15,kp S.t16,kp S.t17,kp S.t18,kp S.t19,fun g=>(S.t20 (by simpa using g)).imp fun b hb=>⟨by rw [eval_put_ne _ _ _ _ (by decide)]; exact hb.1,hb.2⟩⟩
    | 11,_,ho,hsi,hT=>
      obtain ⟨e1,e2⟩:=pick_of h11 ho
      have D10:s 10=true:=list_pos hT (d:=10) (by decide)
      have BW:=S.before
      have d3:=(BW.cell (p:=⟨M,3,none⟩) lM).trans k3
      refine step_val (v:=.int .i64 (z3:Nat)) (by simp only [execOp,e1,S.t10 D10]; go_simp) (hK _ _ ?_)
      rw [e2]
      exact ⟨ofp S.off,S.before,kp S.t0,kp S.t1,kp S.t2,kp S.t3,kp S.t4,kp S.t5,kp S.t6,kp S.t7,kp S.t8,kp S.t9,kp S.t10,ev_ (by omega),kp S.t12,kp S.t13,kp S.t14,kp S.t15,kp S.t16,kp S.t17,kp S.t18,kp S.t19,fun g=>(S.t20 (by simpa using g)).imp fun b hb=>⟨by rw [eval_put_ne _ _ _ _ (by decide)]; exact hb.1,hb.2⟩⟩
    | 12,_,ho,hsi,hT=>
      obtain ⟨e1,e2⟩:=pick_of h12 ho
      refine step_val (v:=.pointer (some ⟨M,q,none⟩)) (by simp only [execOp,e1,y6]; go_simp) (hK _ _ ?_)
      rw [e2]
      exact ⟨ofp S.off,S.before,kp S.t0,kp S.t1,kp S.t2,kp S.t3,kp S.t4,kp S.t5,kp S.t6,kp S.t7,kp S.t8,kp S.t9,kp S.t10,kp S.t11,ev_ (by omega),kp S.t13,kp S.t14,kp S.t15,kp S.t16,kp S.t17,kp S.t18,kp S.t19,fun g=>(S.t20 (by simpa using g)).imp fun b hb=>⟨by rw [eval_put_ne _ _ _ _ (by decide)]; exact hb.1,hb.2⟩⟩
    | 13,_,ho,hsi,hT=>
      obtain ⟨e1,e2⟩:=pick_of h13 ho
      have D12:s 12=true:=list_pos hT (d:=12) (by decide)
      refine step_val (v:=.pointer (some ⟨M,q,none⟩)) (by simp only [execOp,e1,S.t12 D12]; go_simp) (hK _ _ ?_)
      rw [e2]
      exact ⟨ofp S.off,S.before,kp S.t0,kp S.t1,kp S.t2,kp S.t3,kp S.t4,kp S.t5,kp S.t6,kp S.t7,kp S.t8,kp S.t9,kp S.t10,kp S.t11,kp S.t12,ev_ (by omega),kp S.t14,kp S.t15,kp S.t16,kp S.t17,kp S.t18,kp S.t19,fun g=>(S.t20 (by simpa using g)).imp fun b hb=>⟨by rw [eval_put_ne _ _ _ _ (by decide)]; exact hb.1,hb.2⟩⟩
    | 14,_,ho,hsi,hT=>
      obtain ⟨e1,e2⟩:=pick_of h14 ho
      have D13:s 13=true:=list_pos hT (d:=13) (by decide)
      refine step_val (v:=.pointer (some ⟨M,q + 5,none⟩)) (by simp only [execOp,e1,S.t13 D13]; go_simp) (hK _ _ ?_)
      rw [e2]
      exact ⟨ofp S.off,S.before,kp S.t0,kp S.t1,kp S.t2,kp S.t3,kp S.t4,kp S.t5,kp S.t6,kp S.t7,kp S.t8,kp S.t9,kp S.t10,kp S.t11,kp S.t12,kp S.t13,ev_ (by omega),kp S.t15,kp S.t16,kp S.t17,kp S.t18,kp S.t19,fun g=>(S.t20 (by simpa using g)).imp fun b hb=>⟨by rw [eval_put_ne _ _ _ _ (by decide)]; exact hb.1,hb.2⟩⟩
    | 15,_,ho,hsi,hT=>
      obtain ⟨e1,e2⟩:=pick_of h15 ho
      have D14:s 14=true:=list_pos hT (d:=14) (by decide)
      have BW:=S.before
      have d4:=(BW.cell (p:=⟨M,q + 5,none⟩) lM).trans k4
      refine step_val (v:=.int .i64 (z4:Nat)) (by simp only [execOp,e1,S.t14 D14]; go_simp) (hK _ _ ?_)
      rw [e2]
      exact ⟨ofp S.off,S.before,kp S.t0,kp S.t1,kp S.t2,kp S.t3,kp S.t4,kp S.t5,kp S.t6,kp S.t7,kp S.t8,kp S.t9,kp S.t10,kp S.t11,kp S.t12,kp S.t13,kp S.t14,ev_ (by omega),kp S.t16,kp S.t17,kp S.t18,kp S.t19,fun g=>(S.t20 (by simpa using g)).imp fun b hb=>⟨by rw [eval_put_ne _ _ _ _ (by decide)]; exact hb.1,hb.2⟩⟩
    | 16,_,ho,hsi,hT=>
      obtain ⟨e1,e2⟩:=pick_of h16 ho
      refine step_val (v:=.int .i64 (z5:Nat)) (by simp only [execOp,e1,y8]; go_simp) (hK _ _ ?_)
      rw [e2]
      exact ⟨ofp S.off,S.before,kp S.t0,kp S.t1,kp S.t2,kp S.t3,kp S.t4,kp S.t5,kp S.t6,kp S.t7,kp S.t8,kp S.t9,kp S.t10,kp S.t11,kp S.t12,kp S.t13,kp S.t14,kp S.t15,ev_ (by omega),kp S.t17,kp S.t18,kp S.t19,fun g=>(S.t20 (by simpa using g)).imp fun b hb=>⟨by rw [eval_put_ne _ _ _ _ (by decide)]; exact hb.1,hb.2⟩⟩
    | 17,_,ho,hsi,hT=>
      obtain ⟨e1,e2⟩:=pick_of h17 ho
      refine step_val (v:=.string z6) (by simp only [execOp,e1,y7]; go_simp) (hK _ _ ?_)
      rw [e2]
      exact ⟨ofp S.off,S.before,kp S.t0,kp S.t1,kp S.t2,kp S.t3,kp S.t4,kp S.t5,kp S.t6,kp S.t7,kp S.t8,kp S.t9,kp S.t10,kp S.t11,kp S.t12,kp S.t13,kp S.t14,kp S.t15,kp S.t16,ev_ (by omega),kp S.t18,kp S.t19,fun g=>(S.t20 (by simpa using g)).imp fun b hb=>⟨by rw [eval_put_ne _ _ _ _ (by decide)]; exact hb.1,hb.2⟩⟩
    | 18,_,ho,hsi,hT=>
      obtain ⟨e1,e2⟩:=pick_of h18 ho
      refine step_val (v:=.int .u32 (z7:Nat)) (by simp only [execOp,e1,y1]; go_simp) (hK _ _ ?_)
      rw [e2]
      exact ⟨ofp S.off,S.before,kp S.t0,kp S.t1,kp S.t2,kp S.t3,kp S.t4,kp S.t5,kp S.t6,kp S.t7,kp S.t8,kp S.t9,kp S.t10,kp S.t11,kp S.t12,kp S.t13,kp S.t14,kp S.t15,kp S.t16,kp S.t17,ev_ (by omega),kp S.t19,fun g=>(S.t20 (by simpa using g)).imp fun b hb=>⟨by rw [eval_put_ne _ _ _ _ (by decide)]; exact hb.1,hb.2⟩⟩
    | 19,_,ho,hsi,hT=>
      obtain ⟨e1,e2⟩:=pick_of h19 ho
      have D3:s 3=true:=list_pos hT (d:=3) (by decide)
      have D7:s 7=true:=list_pos hT (d:=7) (by decide)
      have D11:s 11=true:=list_pos hT (d:=11) (by decide)
      have D15:s 15=true:=list_pos hT (d:=15) (by decide)
      have D16:s 16=true:=list_pos hT (d:=16) (by decide)
      have D17:s 17=true:=list_pos hT (d:=17) (by decide)
      have D18:s 18=true:=list_pos hT (d:=18) (by decide)
      refine step_val (build_tmf e1 (S.t3 D3) (S.t7 D7) (S.t11 D11) (S.t15 D15) (S.t16 D16) (S.t17 D17) (S.t18 D18)) (hK _ _ ?_)
      rw [e2]
      exact ⟨ofp S.off,S.before,kp S.t0,kp S.t1,kp S.t2,kp S.t3,kp S.t4,kp S.t5,kp S.t6,kp S.t7,kp S.t8,kp S.t9,kp S.t10,kp S.t11,kp S.t12,kp S.t13,kp S.t14,kp S.t15,kp S.t16,kp S.t17,kp S.t18,ev_ (by omega),fun g=>(S.t20 (by simpa using g)).imp fun b hb=>⟨by rw [eval_put_ne _ _ _ _ (by decide)]; exact hb.1,hb.2⟩⟩
    | 20,_,ho,hsi,hT=>
      obtain ⟨e1,e2⟩:=pick_of h20 ho
      have BW:=S.before
      refine step_to1 (w2:=w'.alloc (.cells #[.int .i64 0,.int .i64 0,.int .i64 0,.int .i64 0,.int .i64 0,.string ⟨#[]⟩,.int .u32 0] 100)) (v:=.pointer (some ⟨w'.heap.size,0,none⟩)) (by simp only [execOp,e1]; go_simp) (hK _ _ ?_)
      have BB:=ba (Below.refl w'.heap.size w') (.cells #[.int .i64 0,.int .i64 0,.int .i64 0,.int .i64 0,.int .i64 0,.string ⟨#[]⟩,.int .u32 0] 100)
      have FF:=newF_alloc w' NB (Nat.le_trans hNB BW.size)
      rw [e2]
      exact ⟨ofp S.off,bt BW BB,kp S.t0,kp S.t1,kp S.t2,kp S.t3,kp S.t4,kp S.t5,kp S.t6,kp S.t7,kp S.t8,kp S.t9,kp S.t10,kp S.t11,kp S.t12,kp S.t13,kp S.t14,kp S.t15,kp S.t16,kp S.t17,kp S.t18,kp S.t19,fun _=>⟨_,(eval_put _ _ _ (by omega)).trans rfl,FF⟩⟩
    | _ + 21,il,_,_,_=>exact absurd il (by omega)
  intro s a w' S hall
  have a0:=hall 0 (by omega)
  have a1:=hall 1 (by omega)
  have a2:=hall 2 (by omega)
  have a3:=hall 3 (by omega)
  have a4:=hall 4 (by omega)
  have a5:=hall 5 (by omega)
  have a6:=hall 6 (by omega)
  have a7:=hall 7 (by omega)
  have a8:=hall 8 (by omega)
  have a9:=hall 9 (by omega)
  have a10:=hall 10 (by omega)
  have a11:=hall 11 (by omega)
  have a12:=hall 12 (by omega)
  have a13:=hall 13 (by omega)
  have a14:=hall 14 (by omega)
  have a15:=hall 15 (by omega)
  have a16:=hall 16 (by omega)
  have a17:=hall 17 (by omega)
  have a18:=hall 18 (by omega)
  have a19:=hall 19 (by omega)
  have a20:=hall 20 (by omega)
  have e:=off_norm _ (by intro d hd; simp at hd; omega) S.off
  obtain ⟨v20,M20,F20⟩:=S.t20 a20
  simp only [List.foldl,S.t0 a0,S.t1 a1,S.t2 a2,S.t3 a3,S.t4 a4,S.t5 a5,S.t6 a6,S.t7 a7,S.t8 a8,S.t9 a9,S.t10 a10,S.t11 a11,S.t12 a12,S.t13 a13,S.t14 a14,S.t15 a15,S.t16 a16,S.t17 a17,S.t18 a18,S.t19 a19,M20] at e
  rw [e]
  exact h _ _ S.before F20
end Go.Proofs.YtchfkncbemjepaaGreat

/- Layer 11, the landed program: Next of a mux. -/
namespace Go.Proofs.YtchfkncbemjepaaGreat
open Go.RowKit Go.Shelf

theorem repeat_85 (k:Nat):Lib.repeatL [85] k=List.replicate k 85:=by
  induction k with
  | zero=>rfl
  | succ k ih=>rw [Lib.repeatL,ih]; rfl
theorem repeat85_any (k:Nat) (hk:k<=1000000) (w:World):Calls Tryz.prog 43 #[.string ⟨#[85]⟩,.int .i64 (k:Nat)] w fun e w'=>e=.returned (.string (bs (List.replicate k 85)))/\Below w.heap.size w w':=by
  have h:=Tryz.strings_Repeat ⟨#[85]⟩ k w (by omega) (by show 1 * k<=_; omega)
  rw [show ((⟨#[85]⟩:ByteArray).data.toList)=[85] from rfl,repeat_85] at h
  exact h
theorem Ch.Mx.chz_n (x:Ch.Mx):x.chz.n=x.n:=by unfold Ch.Mx.chz; split <;> rfl
theorem Ch.Mx.chz_fl (x:Ch.Mx):x.chz.fl=x.fl:=by unfold Ch.Mx.chz; split <;> rfl
theorem Ch.Mx.chz_craft (x:Ch.Mx):x.chz.craft=x.craft:=by unfold Ch.Mx.chz; split <;> rfl
theorem Ch.Mx.chz_ma (x:Ch.Mx):x.chz.ma=x.ma:=by unfold Ch.Mx.chz; split <;> rfl
theorem Ch.Mx.chz_ct (x:Ch.Mx):x.chz.ct=x.ct:=by unfold Ch.Mx.chz; split <;> rfl
theorem mNext_any {w:World} {n0 M:Nat} {x:Ch.Mx} {X:Nat->Nat} {va vb:Nat->Value} (h:PM w n0 M x X va vb) (o:x.Ok) (hn0:n0<=w.heap.size) (word:Nat) (hw:word < 4294967296):
    Calls Tryz.prog 16 #[.pointer (some ⟨M,0,none⟩),.int .u32 (word:Nat)] w fun e w'=>e=.returned (.tuple #[.string (bs (Tm.enc (x.frm word))),.int .i64 0])/\∃ va' vb',PM w' n0 M x.nxt X va' vb'/\KF n0 (SM M X va vb) (SM M X va' vb') w w':=by
  have MD:=Lib.hid (mmade_any h.own)
  have CHO:=Lib.hid (choose_any h o hn0)
  have HO:=Lib.hid o
  have HN:=Lib.hid hn0
  have HCL:=Lib.hid x.ch_lt
  have DL:=Lib.hid (show (bs x.dat).size=x.n by rw [bs_size,Ch.Mx.dat_len o])
  have PT:=Lib.hid (fun w=>tput_any (x.frm word) (by show (bs x.dat).size<=_; rw [DL.out]; have:=o.n2; omega) hw w)
  rw [if_pos (Ch.Mx.frm_ok o word)] at PT
  obtain ⟨EN,hEN⟩:∃ z,bs (Tm.enc (x.frm word))=z:=⟨_,rfl⟩
  rw [hEN] at PT ⊢
  unfold Ch.Mx.frm tmVal at PT
  simp only at PT
  obtain ⟨q,hq⟩:∃ q,4 + x.ch * 6=q:=⟨_,rfl⟩
  have HQ:=Lib.hid hq
  obtain ⟨z1,hz1⟩:∃ z,x.craft=z:=⟨_,rfl⟩
  obtain ⟨z2,hz2⟩:∃ z,x.ch=z:=⟨_,rfl⟩
  obtain ⟨z3,hz3⟩:∃ z,x.ma=z:=⟨_,rfl⟩
  obtain ⟨z4,hz4⟩:∃ z,x.ct x.ch=z:=⟨_,rfl⟩
  obtain ⟨z5,hz5⟩:∃ z,x.fst=z:=⟨_,rfl⟩
  obtain ⟨z6,hz6⟩:∃ z,bs x.dat=z:=⟨_,rfl⟩
  have Z2:=Lib.hid hz2
  have Z3b:=Lib.hid (show z3<=255 by rw [<-hz3]; exact o.ma)
  have Z4b:=Lib.hid (show z4<=255 by rw [<-hz4]; exact o.ct _ x.ch_lt)
  rw [hz1,hz3,hz4,hz5,hz6,hz2] at PT
  obtain ⟨m3,hm3⟩:∃ z,(z3 + 1) % 256=z:=⟨_,rfl⟩
  obtain ⟨m4,hm4⟩:∃ z,(z4 + 1) % 256=z:=⟨_,rfl⟩
  have M3:=Lib.hid hm3
  have M4:=Lib.hid hm4
  obtain ⟨y,hy⟩:∃ y:Ch.Mx,{ x.chz with fl:=Ch.upd x.fl x.ch (nxS x.n (x.fl x.ch)) }=y:=⟨_,rfl⟩
  have Z1:=Lib.hid (show y.craft=z1 by rw [<-hy]; exact x.chz_craft.trans hz1)
  have Z3:=Lib.hid (show y.ma=z3 by rw [<-hy]; exact x.chz_ma.trans hz3)
  have Z4:=Lib.hid (show y.ct x.ch=z4 by rw [<-hy]; exact (congrFun x.chz_ct _).trans hz4)
  have NXT:=Lib.hid (show x.nxt={ y with ma:=m3,ct:=Ch.upd y.ct x.ch m4 } by rw [<-hy,<-hm3,<-hm4,<-hz3,<-hz4]; unfold Ch.Mx.nxt; rw [<-x.chz_ct])
  have DZ:=Lib.hid (show x.idle->z5=2046/\z6=bs (List.replicate x.n 85) from fun g=>⟨by rw [<-hz5]; exact if_pos g,by rw [<-hz6]; exact congrArg bs (if_pos g)⟩)
  have DN:=Lib.hid (show ¬ x.idle->z5=(Tm.next tmIdle x.n (x.fl x.ch)).2.1/\z6=bs (Tm.next tmIdle x.n (x.fl x.ch)).1 from fun g=>⟨by rw [<-hz5]; exact if_neg g,by rw [<-hz6]; exact congrArg bs (if_neg g)⟩)
  have HY:=Lib.hid hy
  clear hz1 hz2 hz3 hz4 hz5 hz6 hm3 hm4 hy h o hn0 hw hEN hq
  go_enter Tryz.func16,Tryz.ntmps16
  go_wp2_with fail
  (with_reducible refine MD.out.mono ?_)
  rintro e w' ⟨rfl,rfl⟩
  go_wp2_with fail
  (refine CHO.out.mono ?_)
  rintro e w1 ⟨rfl,P1',K1'⟩
  have P1:=Lib.hid P1'
  have K1:=Lib.hid K1'
  have c0:w1.cell? ⟨M,4 + x.ch * 6,none⟩=some (.pointer (some ⟨X x.ch,0,none⟩)):=P1'.out x.ch_lt (k:=0) (by omega)
  have VN:=Lib.hid (vnext (P1'.f _ x.ch_lt) (HO.out.chz.fl _ x.ch_lt) ⟨HO.out.chz.n1,HO.out.chz.n2⟩ (Nat.le_trans HN.out K1'.below.size))
  rw [x.chz_n,x.chz_fl] at VN
  unfold opV
  rw [HQ.out] at c0 ⊢
  clear P1' K1'
  by_cases hi:x.idle
  · have W0:Tm.wait (x.fl x.ch).q=0:=(x.idle_iff (by have:=HO.out.n1; omega)).1 hi _ x.ch_lt
    have hV:nxV x.n (x.fl x.ch)=.tuple #[.string ⟨#[]⟩,.int .i64 0,.bool false]:=if_pos W0
    rw [hV] at VN
    have RP:=Lib.hid (fun w=>repeat85_any x.n (by have:=HO.out.n2; omega) w)
    obtain ⟨h5,h6⟩:=DZ.out hi
    rw [<-h6] at RP
    subst h5
    clear hi W0 hV h6 DN
    go_wp2_with fail
    (refine VN.out.mono ?_)
    rintro e w2 ⟨rfl,va',vb',P2',K2'⟩
    have R:=P1.out.setF HCL.out (by rw [x.chz_n]; exact P2') K2'
    rw [x.chz_fl,HY.out] at R
    have YY2:=Lib.hid R.1
    have KY2:=Lib.hid (K1.out.trans R.2)
    have yn:=Lib.hid (show y.n=x.n by rw [<-HY.out]; exact x.chz_n)
    have k5:w2.cell? ⟨M,2,none⟩=some (.int .i64 (x.n:Nat)):=by rw [<-yn.out]; exact YY2.out.c.cell (j:=2) (by omega)
    clear R P2' K2'
    go_wp2_with fail
    (refine (RP.out _).mono ?_)
    rintro e w3 ⟨rfl,b3⟩
    obtain ⟨va2,hva2⟩:∃ z,Ch.upd va x.ch va'=z:=⟨_,rfl⟩
    obtain ⟨vb2,hvb2⟩:∃ z,Ch.upd vb x.ch vb'=z:=⟨_,rfl⟩
    rw [hva2,hvb2] at YY2 KY2
    have YY:=Lib.hid (YY2.out.below b3)
    have KY:=Lib.hid (KY2.out.trans (KF.of_below (S:=SM M X va2 vb2) b3 (Nat.le_trans YY2.out.xl (Nat.le_of_lt YY2.out.ty.lt))))
    obtain ⟨z5,hz5⟩:∃ z:Nat,z=2046:=⟨_,rfl⟩
    rw [<-hz5] at PT
    clear b3 k5 hva2 hvb2 YY2 KY2 c0
    go_wp2_with fail
    rw [show (2046:Int)=((z5:Nat):Int) by rw [hz5]; rfl]
    clear hz5
    have NM:=Lib.hid (show n0<=w3.heap.size from Nat.le_trans HN.out KY.out.below.size)
    have k1:w3.cell? ⟨M,1,none⟩=some (.int .i64 (z1:Nat)):=by rw [<-Z1.out]; exact YY.out.c.cell (j:=1) (by omega)
    have k2:w3.cell? ⟨M,q + 1,none⟩=some (.int .i64 (z2:Nat)):=by rw [<-HQ.out,<-Z2.out]; exact YY.out.out HCL.out (k:=1) (by omega)
    have k3:w3.cell? ⟨M,3,none⟩=some (.int .i64 (z3:Nat)):=by rw [<-Z3.out]; exact YY.out.c.cell (j:=3) (by omega)
    have k4:w3.cell? ⟨M,q + 5,none⟩=some (.int .i64 (z4:Nat)):=by rw [<-HQ.out,<-Z4.out]; exact YY.out.out HCL.out (k:=5) (by omega)
    refine nxRegion M q w3.heap.size z1 z2 z3 z4 z5 word z6 YY.out.ty.lt k1 k2 k3 k4 (Nat.le_refl _) (by kernel_rfl) rfl rfl rfl rfl rfl rfl rfl rfl rfl rfl rfl rfl rfl rfl rfl rfl rfl rfl rfl rfl rfl rfl rfl rfl rfl rfl rfl ?_
    intro v4 w4 b4 F4
    obtain ⟨F,hv4,hF,CF',TF'⟩:=F4
    subst hv4
    have CF:=Lib.hid CF'
    have HF:=Lib.hid hF
    have Y4:=Lib.hid (YY.out.below b4)
    have B4w:=Lib.hid b4
    have MF:=Lib.hid (show F ≠ M from fun e=>by have:=YY.out.ty.lt; omega)
    have cq4:=Lib.hid (show w4.cell? ⟨M,q + 5,none⟩=some (.int .i64 (z4:Nat)) from (b4.cell (p:=⟨M,q + 5,none⟩) YY.out.ty.lt).trans k4)
    have QC:=Lib.hid (show q + 5 < 52 by have:=HQ.out; have:=HCL.out; omega)
    clear CF' TF' hF k1 k2 k4 b4
    simp only [Act.put,List.setIfInBounds_toArray,List.set_cons_succ,List.set_cons_zero,List.drop_succ_cons,List.drop_zero]
    have a1:IntKind.i64.wrap ((z3:Int) + 1)=(z3:Int) + 1:=by have:=Z3b.out; rw [IntKind.wrap_i64]; omega
    have a2:((z3:Int) + 1) % 256=(m3:Int):=by have:=M3.out; omega
    have a3:IntKind.i64.wrap ((z4:Int) + 1)=(z4:Int) + 1:=by have:=Z4b.out; rw [IntKind.wrap_i64]; omega
    have a4:((z4:Int) + 1) % 256=(m4:Int):=by have:=M4.out; omega
    have MC3:=Lib.hid (mC_ma M y X m3)
    have MC4:=Lib.hid (mC_ct M { y with ma:=m3 } X x.ch m4)
    rw [HQ.out,<-a4] at MC4
    rw [show (Value.int .i64 (m3:Nat))=Value.int .i64 (((z3:Int) + 1) % 256) by rw [a2]] at MC3
    clear a2 a4
    go_wp2_with (first
      | ((with_reducible refine atList ?_); refine wpList_setAllT rfl 100 (.tmp 10) (.tmp 51) rfl F 7 [.int .i64 (z1:Nat),.int .i64 (z2:Nat),.int .i64 (z3:Nat),.int .i64 (z4:Nat),.int .i64 (z5:Nat),.string z6,.int .u32 (word:Nat)] _ (tmCel ⟨((z1:Nat):Int),((z2:Nat):Int),((z3:Nat):Int),((z4:Nat):Int),((z5:Nat):Int),z6,word⟩) CF.out rfl (tm_list ⟨((z1:Nat):Int),((z2:Nat):Int),((z3:Nat):Int),((z4:Nat):Int),((z5:Nat):Int),z6,word⟩) rfl rfl tm_info (by simp [Value.oneCell']) ?_; intro w5 C5 U5 S5 V5; have Y5:=Lib.hid (Y4.out.keep (fun g hg=>U5.out.rest g (Y4.out.lt hg) (fun e=>by subst e; have h1:=HF.out; have h2:=YY.out.lt hg; omega))); have k3':w5.cell? ⟨M,3,none⟩=some (.int .i64 (z3:Nat)):=by rw [<-Z3.out]; exact Y5.out.c.cell (j:=3) (by omega))
      | ((with_reducible refine atList ?_); refine wpList_setT rfl (.store 3 (.tmp 60) (.tmp 58)) rfl M 3 52 (.int .i64 (((z3:Int) + 1) % 256)) _ _ Y5.out.c (by omega) MC3.out ?_ ?_; exact store_int rfl rfl rfl (Y5.out.c.cell (j:=3) (by omega)) (Y5.out.c.frozen (j:=3) (by omega)); intro w6 C6 U6 S6 V6; have Y6:=Lib.hid (Y5.out.setM (x':={ y with ma:=m3 }) U6.out C6.out (V6.out _ Y5.out.ty) rfl rfl); have k4':w6.cell? ⟨M,q + 5,none⟩=some (.int .i64 (z4:Nat)):=by rw [<-HQ.out,<-Z4.out]; exact Y6.out.out HCL.out (k:=5) (by omega))
      | ((with_reducible refine atList ?_); refine wpList_setT rfl (.store 3 (.tmp 69) (.tmp 67)) rfl M (q + 5) 52 (.int .i64 (((z4:Int) + 1) % 256)) _ _ Y6.out.c QC.out MC4.out ?_ ?_; exact store_int rfl rfl rfl (Y6.out.c.cell QC.out) (Y6.out.c.frozen QC.out); intro w7 C7 U7 S7 V7; have Y7:=Lib.hid (Y6.out.setM (x':={ y with ma:=m3,ct:=Ch.upd y.ct x.ch m4 }) U7.out C7.out (V7.out _ Y6.out.ty) rfl rfl); have CF7:=Lib.hid ((C5.out.but U6.out MF.out).but U7.out MF.out))
      | ((with_reducible refine atList ?_); refine wpList_getAll rfl 100 (.tmp 10) rfl F 7 [.int .i64 (z1:Nat),.int .i64 (z2:Nat),.int .i64 (z3:Nat),.int .i64 (z4:Nat),.int .i64 (z5:Nat),.string z6,.int .u32 (word:Nat)] (tmCel ⟨((z1:Nat):Int),((z2:Nat):Int),((z3:Nat):Int),((z4:Nat):Int),((z5:Nat):Int),z6,word⟩) _ CF7.out rfl (tm_list ⟨((z1:Nat):Int),((z2:Nat):Int),((z3:Nat):Int),((z4:Nat):Int),((z5:Nat):Int),z6,word⟩) rfl Tryz.underlying100 rfl tm_info ?_))
    (refine (PT.out w7).mono ?_)
    rintro e w8 ⟨rfl,b8⟩
    have K8:=Lib.hid (((KY.out.trans (KF.of_below (S:=SM M X va2 vb2) (But.under B4w.out U5.out HF.out) NM.out)).trans ((Y5.out.kfM U6.out).trans (Y6.out.kfM U7.out))).trans (KF.of_below (S:=SM M X va2 vb2) b8 (Nat.le_trans Y7.out.xl (Nat.le_of_lt Y7.out.ty.lt))))
    have Y8:=Lib.hid (Y7.out.below b8)
    clear b8
    go_wp2_with fail
    go_ret2
    exact ⟨rfl,va2,vb2,by rw [NXT.out]; exact Y8.out,K8.out⟩
  have W0:¬ Tm.wait (x.fl x.ch).q=0:=fun g=>by
    have:=x.pick_waits hi (by have:=HO.out.n1; omega)
    unfold Ch.Mx.wt at this
    rw [show x.ch=x.pick from if_neg hi] at g
    omega
  have hV:nxV x.n (x.fl x.ch)=.tuple #[.string (bs (Tm.next tmIdle x.n (x.fl x.ch)).1),.int .i64 ((Tm.next tmIdle x.n (x.fl x.ch)).2.1:Nat),.bool true]:=if_neg W0
  obtain ⟨h5,h6⟩:=DN.out hi
  rw [hV,<-h5,<-h6] at VN
  clear hi W0 hV h5 h6 DZ DN
  go_wp2_with fail
  (refine VN.out.mono ?_)
  rintro e w3 ⟨rfl,va',vb',P2',K2'⟩
  have R:=P1.out.setF HCL.out (by rw [x.chz_n]; exact P2') K2'
  rw [x.chz_fl,HY.out] at R
  obtain ⟨va2,hva2⟩:∃ z,Ch.upd va x.ch va'=z:=⟨_,rfl⟩
  obtain ⟨vb2,hvb2⟩:∃ z,Ch.upd vb x.ch vb'=z:=⟨_,rfl⟩
  rw [hva2,hvb2] at R
  have YY:=Lib.hid R.1
  have KY:=Lib.hid (K1.out.trans R.2)
  clear R P2' K2' hva2 hvb2 c0
  go_wp2_with fail
  have NM:=Lib.hid (show n0<=w3.heap.size from Nat.le_trans HN.out KY.out.below.size)
  have k1:w3.cell? ⟨M,1,none⟩=some (.int .i64 (z1:Nat)):=by rw [<-Z1.out]; exact YY.out.c.cell (j:=1) (by omega)
  have k2:w3.cell? ⟨M,q + 1,none⟩=some (.int .i64 (z2:Nat)):=by rw [<-HQ.out,<-Z2.out]; exact YY.out.out HCL.out (k:=1) (by omega)
  have k3:w3.cell? ⟨M,3,none⟩=some (.int .i64 (z3:Nat)):=by rw [<-Z3.out]; exact YY.out.c.cell (j:=3) (by omega)
  have k4:w3.cell? ⟨M,q + 5,none⟩=some (.int .i64 (z4:Nat)):=by rw [<-HQ.out,<-Z4.out]; exact YY.out.out HCL.out (k:=5) (by omega)
  refine nxRegion M q w3.heap.size z1 z2 z3 z4 z5 word z6 YY.out.ty.lt k1 k2 k3 k4 (Nat.le_refl _) (by kernel_rfl) rfl rfl rfl rfl rfl rfl rfl rfl rfl rfl rfl rfl rfl rfl rfl rfl rfl rfl rfl rfl rfl rfl rfl rfl rfl rfl rfl ?_
  intro v4 w4 b4 F4
  obtain ⟨F,hv4,hF,CF',TF'⟩:=F4
  subst hv4
  have CF:=Lib.hid CF'
  have HF:=Lib.hid hF
  have Y4:=Lib.hid (YY.out.below b4)
  have B4w:=Lib.hid b4
  have MF:=Lib.hid (show F ≠ M from fun e=>by have:=YY.out.ty.lt; omega)
  have cq4:=Lib.hid (show w4.cell? ⟨M,q + 5,none⟩=some (.int .i64 (z4:Nat)) from (b4.cell (p:=⟨M,q + 5,none⟩) YY.out.ty.lt).trans k4)
  have QC:=Lib.hid (show q + 5 < 52 by have:=HQ.out; have:=HCL.out; omega)
  clear CF' TF' hF k1 k2 k4 b4
  simp only [Act.put,List.setIfInBounds_toArray,List.set_cons_succ,List.set_cons_zero,List.drop_succ_cons,List.drop_zero]
  have a1:IntKind.i64.wrap ((z3:Int) + 1)=(z3:Int) + 1:=by have:=Z3b.out; rw [IntKind.wrap_i64]; omega
  have a2:((z3:Int) + 1) % 256=(m3:Int):=by have:=M3.out; omega
  have a3:IntKind.i64.wrap ((z4:Int) + 1)=(z4:Int) + 1:=by have:=Z4b.out; rw [IntKind.wrap_i64]; omega
  have a4:((z4:Int) + 1) % 256=(m4:Int):=by have:=M4.out; omega
  have MC3:=Lib.hid (mC_ma M y X m3)
  have MC4:=Lib.hid (mC_ct M { y with ma:=m3 } X x.ch m4)
  rw [HQ.out,<-a4] at MC4
  rw [show (Value.int .i64 (m3:Nat))=Value.int .i64 (((z3:Int) + 1) % 256) by rw [a2]] at MC3
  clear a2 a4
  go_wp2_with (first
    | ((with_reducible refine atList ?_); refine wpList_setAllT rfl 100 (.tmp 10) (.tmp 51) rfl F 7 [.int .i64 (z1:Nat),.int .i64 (z2:Nat),.int .i64 (z3:Nat),.int .i64 (z4:Nat),.int .i64 (z5:Nat),.string z6,.int .u32 (word:Nat)] _ (tmCel ⟨((z1:Nat):Int),((z2:Nat):Int),((z3:Nat):Int),((z4:Nat):Int),((z5:Nat):Int),z6,word⟩) CF.out rfl (tm_list ⟨((z1:Nat):Int),((z2:Nat):Int),((z3:Nat):Int),((z4:Nat):Int),((z5:Nat):Int),z6,word⟩) rfl rfl tm_info (by simp [Value.oneCell']) ?_; intro w5 C5 U5 S5 V5; have Y5:=Lib.hid (Y4.out.keep (fun g hg=>U5.out.rest g (Y4.out.lt hg) (fun e=>by subst e; have h1:=HF.out; have h2:=YY.out.lt hg; omega))); have k3':w5.cell? ⟨M,3,none⟩=some (.int .i64 (z3:Nat)):=by rw [<-Z3.out]; exact Y5.out.c.cell (j:=3) (by omega))
    | ((with_reducible refine atList ?_); refine wpList_setT rfl (.store 3 (.tmp 60) (.tmp 58)) rfl M 3 52 (.int .i64 (((z3:Int) + 1) % 256)) _ _ Y5.out.c (by omega) MC3.out ?_ ?_; exact store_int rfl rfl rfl (Y5.out.c.cell (j:=3) (by omega)) (Y5.out.c.frozen (j:=3) (by omega)); intro w6 C6 U6 S6 V6; have Y6:=Lib.hid (Y5.out.setM (x':={ y with ma:=m3 }) U6.out C6.out (V6.out _ Y5.out.ty) rfl rfl); have k4':w6.cell? ⟨M,q + 5,none⟩=some (.int .i64 (z4:Nat)):=by rw [<-HQ.out,<-Z4.out]; exact Y6.out.out HCL.out (k:=5) (by omega))
    | ((with_reducible refine atList ?_); refine wpList_setT rfl (.store 3 (.tmp 69) (.tmp 67)) rfl M (q + 5) 52 (.int .i64 (((z4:Int) + 1) % 256)) _ _ Y6.out.c QC.out MC4.out ?_ ?_; exact store_int rfl rfl rfl (Y6.out.c.cell QC.out) (Y6.out.c.frozen QC.out); intro w7 C7 U7 S7 V7; have Y7:=Lib.hid (Y6.out.setM (x':={ y with ma:=m3,ct:=Ch.upd y.ct x.ch m4 }) U7.out C7.out (V7.out _ Y6.out.ty) rfl rfl); have CF7:=Lib.hid ((C5.out.but U6.out MF.out).but U7.out MF.out))
    | ((with_reducible refine atList ?_); refine wpList_getAll rfl 100 (.tmp 10) rfl F 7 [.int .i64 (z1:Nat),.int .i64 (z2:Nat),.int .i64 (z3:Nat),.int .i64 (z4:Nat),.int .i64 (z5:Nat),.string z6,.int .u32 (word:Nat)] (tmCel ⟨((z1:Nat):Int),((z2:Nat):Int),((z3:Nat):Int),((z4:Nat):Int),((z5:Nat):Int),z6,word⟩) _ CF7.out rfl (tm_list ⟨((z1:Nat):Int),((z2:Nat):Int),((z3:Nat):Int),((z4:Nat):Int),((z5:Nat):Int),z6,word⟩) rfl Tryz.underlying100 rfl tm_info ?_))
  (refine (PT.out w7).mono ?_)
  rintro e w8 ⟨rfl,b8⟩
  have K8:=Lib.hid (((KY.out.trans (KF.of_below (S:=SM M X va2 vb2) (But.under B4w.out U5.out HF.out) NM.out)).trans ((Y5.out.kfM U6.out).trans (Y6.out.kfM U7.out))).trans (KF.of_below (S:=SM M X va2 vb2) b8 (Nat.le_trans Y7.out.xl (Nat.le_of_lt Y7.out.ty.lt))))
  have Y8:=Lib.hid (Y7.out.below b8)
  clear b8
  go_wp2_with fail
  go_ret2
  exact ⟨rfl,va2,vb2,by rw [NXT.out]; exact Y8.out,K8.out⟩
end Go.Proofs.YtchfkncbemjepaaGreat
