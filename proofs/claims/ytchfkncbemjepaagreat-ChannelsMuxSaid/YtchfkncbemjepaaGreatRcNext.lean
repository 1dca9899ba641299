/- RcNext -/
import Derived.Test.YtchfkncbemjepaaGreatRcChoose
import Derived.Test.YtchfkncbemjepaaGreatChNext
set_option linter.unusedVariables false
set_option maxRecDepth 100000
set_option maxHeartbeats 16000000
/- Layer 11, the reference: Next of its mux: its drawn regions. -/
namespace Go.Proofs.YtchfkncbemjepaaGreat
open Go.RowKit

theorem build_tmr {ev:Operand->Value} {w:World} {o:Oper} {x0 x1 x2 x4 x6:Operand} {v0 v1 v2 v4:Int} {v6:Int} (h:o.op=.build 100 #[(0,x0),(1,x1),(2,x2),(4,x4),(6,x6)])
    (h0:ev x0=.int .i64 v0) (h1:ev x1=.int .i64 v1) (h2:ev x2=.int .i64 v2) (h4:ev x4=.int .i64 v4) (h6:ev x6=.int .u32 v6):
    (execOp ev o).run Tryz.prog w=.ok (.value (.agg #[.int .i64 v0,.int .i64 v1,.int .i64 v2,.int .i64 0,.int .i64 v4,.string ⟨#[]⟩,.int .u32 v6])) w:=by
  simp only [execOp,h,List.map_toArray,List.map_cons,List.map_nil,h0,h1,h2,h4,h6]; go_simp
structure RnRegion (M NB z1 z3 z7:Nat) (A:Act) (w0:World) (s:Nat->Bool) (a:Act) (w:World):Prop where
  off:Off [13,14,15,16,17,18,19,20,21,22,6] a A
  before:Below w0.heap.size w0 w
  t0:s 0=true->a.eval (.tmp 13)=.pointer (some ⟨M,0,none⟩)
  t1:s 1=true->a.eval (.tmp 14)=.pointer (some ⟨M,0,none⟩)
  t2:s 2=true->a.eval (.tmp 15)=.pointer (some ⟨M,0,none⟩)
  t3:s 3=true->a.eval (.tmp 16)=.int .i64 (z1:Nat)
  t4:s 4=true->a.eval (.tmp 17)=.pointer (some ⟨M,0,none⟩)
  t5:s 5=true->a.eval (.tmp 18)=.pointer (some ⟨M,0,none⟩)
  t6:s 6=true->a.eval (.tmp 19)=.pointer (some ⟨M,26,none⟩)
  t7:s 7=true->a.eval (.tmp 20)=.int .i64 (z3:Nat)
  t8:s 8=true->a.eval (.tmp 21)=.int .u32 (z7:Nat)
  t9:s 9=true->a.eval (.tmp 22)=.agg #[.int .i64 (z1:Nat),.int .i64 7,.int .i64 (z3:Nat),.int .i64 0,.int .i64 2046,.string ⟨#[]⟩,.int .u32 (z7:Nat)]
  t10:s 10=true->∃ v10,a.eval (.tmp 6)=v10/\NewF NB v10 w
theorem rnRegion {id:Nat} {l:List Oper} {A:Act} {w:World} {Q:Exit->Act->World->Prop} (M NB z1 z3 z7:Nat)
    (lM:M < w.heap.size) (k1:w.cell? ⟨M,0,none⟩=some (.int .i64 (z1:Nat))) (k3:w.cell? ⟨M,26,none⟩=some (.int .i64 (z3:Nat))) (hNB:NB<=w.heap.size)
    (hB:tableH l.toArray 11 (fun i=>match i with | 0=>[] | 1=>[0] | 2=>[1] | 3=>[2] | 4=>[] | 5=>[4] | 6=>[5] | 7=>[6] | 8=>[] | 9=>[3,7,8] | 10=>[] | _=>[]) (fun _=>[])=true)
    (h0:pick l 0=some (.move (.tmp 0),some 13))
    (h1:pick l 1=some (.nilCheck (.tmp 13),some 14))
    (h2:pick l 2=some (.fieldAddr 90 (.tmp 14) 0,some 15))
    (h3:pick l 3=some (.load 3 (.tmp 15),some 16))
    (h4:pick l 4=some (.move (.tmp 0),some 17))
    (h5:pick l 5=some (.nilCheck (.tmp 17),some 18))
    (h6:pick l 6=some (.fieldAddr 90 (.tmp 18) 5,some 19))
    (h7:pick l 7=some (.load 3 (.tmp 19),some 20))
    (h8:pick l 8=some (.move (.tmp 1),some 21))
    (h9:pick l 9=some (.build 100 #[(0,.tmp 16),(1,.const (.int .i64 7)),(2,.tmp 20),(4,.const (.int .i64 2046)),(6,.tmp 21)],some 22))
    (h10:pick l 10=some (.alloc 100,some 6))
    (hs:A.tmps.size=96)
    (x0:A.eval (.tmp 0)=.pointer (some ⟨M,0,none⟩))
    (x1:A.eval (.tmp 1)=.int .u32 (z7:Nat))
    (h:∀ v10 w1,Below w.heap.size w w1->NewF NB v10 w1->wpList Tryz.prog l.toArray Q (l.drop 11) (((((((((((A.put (some 13) (.pointer (some ⟨M,0,none⟩))).put (some 14) (.pointer (some ⟨M,0,none⟩))).put (some 15) (.pointer (some ⟨M,0,none⟩))).put (some 16) (.int .i64 (z1:Nat))).put (some 17) (.pointer (some ⟨M,0,none⟩))).put (some 18) (.pointer (some ⟨M,0,none⟩))).put (some 19) (.pointer (some ⟨M,26,none⟩))).put (some 20) (.int .i64 (z3:Nat))).put (some 21) (.int .u32 (z7:Nat))).put (some 22) (.agg #[.int .i64 (z1:Nat),.int .i64 7,.int .i64 (z3:Nat),.int .i64 0,.int .i64 2046,.string ⟨#[]⟩,.int .u32 (z7:Nat)])).put (some 6) (v10)) w1):
    (Code.region id l.toArray true).wp Tryz.prog Q A w:=by
  refine wp_region_head (by kernel_rfl) _ _ _ hB (RnRegion M NB z1 z3 z7 A w) ⟨Off.refl _ _,(Below.refl _ _).drew,by simp,by simp,by simp,by simp,by simp,by simp,by simp,by simp,by simp,by simp,by simp⟩ ?_ ?_
  · intro s a w' S i' o il ho hsi hT K hK
    have sz:a.tmps.size=96:=by rw [S.off.2.1]; exact hs
    have y0:a.eval (.tmp 0)=.pointer (some ⟨M,0,none⟩):=by rw [S.off.eval (by decide)]; exact x0
    have y1:a.eval (.tmp 1)=.int .u32 (z7:Nat):=by rw [S.off.eval (by decide)]; exact x1
    match i',il,ho,hsi,hT with
    | 0,_,ho,hsi,hT=>
      obtain ⟨e1,e2⟩:=pick_of h0 ho
      refine step_val (v:=.pointer (some ⟨M,0,none⟩)) (by simp only [execOp,e1,y0]; go_simp) (hK _ _ ?_)
      rw [e2]
      exact ⟨ofp S.off,S.before,ev_ (by omega),kp S.t1,kp S.t2,kp S.t3,kp S.t4,kp S.t5,kp S.t6,kp S.t7,kp S.t8,kp S.t9,fun g=>(S.t10 (by simpa using g)).imp fun b hb=>⟨by rw [eval_put_ne _ _ _ _ (by decide)]; exact hb.1,hb.2⟩⟩
    | 1,_,ho,hsi,hT=>
      obtain ⟨e1,e2⟩:=pick_of h1 ho
      have D0:s 0=true:=list_pos hT (d:=0) (by decide)
      refine step_val (v:=.pointer (some ⟨M,0,none⟩)) (by simp only [execOp,e1,S.t0 D0]; go_simp) (hK _ _ ?_)
      rw [e2]
      exact ⟨ofp S.off,S.before,kp S.t0,ev_ (by omega),kp S.t2,kp S.t3,kp S.t4,kp S.t5,kp S.t6,kp S.t7,kp S.t8,kp S.t9,fun g=>(S.t10 (by simpa using g)).imp fun b hb=>⟨by rw [eval_put_ne _ _ _ _ (by decide)]; exact hb.1,hb.2⟩⟩
    | 2,_,ho,hsi,hT=>
      obtain ⟨e1,e2⟩:=pick_of h2 ho
      have D1:s 1=true:=list_pos hT (d:=1) (by decide)
      refine step_val (v:=.pointer (some ⟨M,0,none⟩)) (by simp only [execOp,e1,S.t1 D1]; go_simp) (hK _ _ ?_)
      rw [e2]
      exact ⟨ofp S.off,S.before,kp S.t0,kp S.t1,ev_ (by omega),kp S.t3,kp S.t4,kp S.t5,kp S.t6,kp S.t7,kp S.t8,kp S.t9,fun g=>(S.t10 (by simpa using g)).imp fun b hb=>⟨by rw [eval_put_ne _ _ _ _ (by decide)]; exact hb.1,hb.2⟩⟩
    | 3,_,ho,hsi,hT=>
      obtain ⟨e1,e2⟩:=pick_of h3 ho
      have D2:s 2=true:=list_pos hT (d:=2) (by decide)
      have BW:=S.before
      have d1:=(BW.cell (p:=⟨M,0,none⟩) lM).trans k1
      refine step_val (v:=.int .i64 (z1:Nat)) (by simp only [execOp,e1,S.t2 D2]; go_simp) (hK _ _ ?_)
      rw [e2]
      exact ⟨ofp S.off,S.before,kp S.t0,kp S.t1,kp S.t2,ev_ (by omega),kp S.t4,kp S.t5,kp S.t6,kp S.t7,kp S.t8,kp S.t9,fun g=>(S.t10 (by simpa using g)).imp fun b hb=>⟨by rw [eval_put_ne _ _ _ _ (by decide)]; exact hb.1,hb.2⟩⟩
    | 4,_,ho,hsi,hT=>
      obtain ⟨e1,e2⟩:=pick_of h4 ho
      refine step_val (v:=.pointer (some ⟨M,0,none⟩)) (by simp only [execOp,e1,y0]; go_simp) (hK _ _ ?_)
      rw [e2]
      exact ⟨ofp S.off,S.before,kp S.t0,kp S.t1,kp S.t2,kp S.t3,ev_ (by omega),kp S.t5,kp S.t6,kp S.t7,kp S.t8,kp S.t9,fun g=>(S.t10 (by simpa using g)).imp fun b hb=>⟨by rw [eval_put_ne _ _ _ _ (by decide)]; exact hb.1,hb.2⟩⟩
    | 5,_,ho,hsi,hT=>
      obtain ⟨e1,e2⟩:=pick_of h5 ho
      have D4:s 4=true:=list_pos hT (d:=4) (by decide)
      refine step_val (v:=.pointer (some ⟨M,0,none⟩)) (by simp only [execOp,e1,S.t4 D4]; go_simp) (hK _ _ ?_)
      rw [e2]
      exact ⟨ofp S.off,S.before,kp S.t0,kp S.t1,kp S.t2,kp S.t3,kp S.t4,ev_ (by omega),kp S.t6,kp S.t7,kp S.t8,kp S.t9,fun g=>(S.t10 (by simpa using g)).imp fun b hb=>⟨by rw [eval_put_ne _ _ _ _ (by decide)]; exact hb.1,hb.2⟩⟩
    | 6,_,ho,hsi,hT=>
      obtain ⟨e1,e2⟩:=pick_of h6 ho
      have D5:s 5=true:=list_pos hT (d:=5) (by decide)
      refine step_val (v:=.pointer (some ⟨M,26,none⟩)) (by simp only [execOp,e1,S.t5 D5]; go_simp) (hK _ _ ?_)
      rw [e2]
      exact ⟨ofp S.off,S.before,kp S.t0,kp S.t1,kp S.t2,kp S.t3,kp S.t4,kp S.t5,ev_ (by omega),kp S.t7,kp S.t8,kp S.t9,fun g=>(S.t10 (by simpa using g)).imp fun b hb=>⟨by rw [eval_put_ne _ _ _ _ (by decide)]; exact hb.1,hb.2⟩⟩
    | 7,_,ho,hsi,hT=>
      obtain ⟨e1,e2⟩:=pick_of h7 ho
      have D6:s 6=true:=list_pos hT (d:=6) (by decide)
      have BW:=S.before
      have d3:=(BW.cell (p:=⟨M,26,none⟩) lM).trans k3
      refine step_val (v:=.int .i64 (z3:Nat)) (by simp only [execOp,e1,S.t6 D6]; go_simp) (hK _ _ ?_)
      rw [e2]
      exact ⟨ofp S.off,S.before,kp S.t0,kp S.t1,kp S.t2,kp S.t3,kp S.t4,kp S.t5,kp S.t6,ev_ (by omega),kp S.t8,kp S.t9,fun g=>(S.t10 (by simpa using g)).imp fun b hb=>⟨by rw [eval_put_ne _ _ _ _ (by decide)]; exact hb.1,hb.2⟩⟩
    | 8,_,ho,hsi,hT=>
      obtain ⟨e1,e2⟩:=pick_of h8 ho
      refine step_val (v:=.int .u32 (z7:Nat)) (by simp only [execOp,e1,y1]; go_simp) (hK _ _ ?_)
      rw [e2]
      exact ⟨ofp S.off,S.before,kp S.t0,kp S.t1,kp S.t2,kp S.t3,kp S.t4,kp S.t5,kp S.t6,kp S.t7,ev_ (by omega),kp S.t9,fun g=>(S.t10 (by simpa using g)).imp fun b hb=>⟨by rw [eval_put_ne _ _ _ _ (by decide)]; exact hb.1,hb.2⟩⟩
    | 9,_,ho,hsi,hT=>
      obtain ⟨e1,e2⟩:=pick_of h9 ho
      have D3:s 3=true:=list_pos hT (d:=3) (by decide)
      have D7:s 7=true:=list_pos hT (d:=7) (by decide)
      have D8:s 8=true:=list_pos hT (d:=8) (by decide)
      refine step_val (build_tmr e1 (S.t3 D3) rfl (S.t7 D7) rfl (S.t8 D8)) (hK _ _ ?_)
      rw [e2]
      exact ⟨ofp S.off,S.before,kp S.t0,kp S.t1,kp S.t2,kp S.t3,kp S.t4,kp S.t5,kp S.t6,kp S.t7,kp S.t8,ev_ (by omega),fun g=>(S.t10 (by simpa using g)).imp fun b hb=>⟨by rw [eval_put_ne _ _ _ _ (by decide)]; exact hb.1,hb.2⟩⟩
    | 10,_,ho,hsi,hT=>
      obtain ⟨e1,e2⟩:=pick_of h10 ho
      have BW:=S.before
      refine step_to1 (w2:=w'.alloc (.cells #[.int .i64 0,.int .i64 0,.int .i64 0,.int .i64 0,.int .i64 0,.string ⟨#[]⟩,.int .u32 0] 100)) (v:=.pointer (some ⟨w'.heap.size,0,none⟩)) (by simp only [execOp,e1]; go_simp) (hK _ _ ?_)
      have BB:=ba (Below.refl w'.heap.size w') (.cells #[.int .i64 0,.int .i64 0,.int .i64 0,.int .i64 0,.int .i64 0,.string ⟨#[]⟩,.int .u32 0] 100)
      have FF:=newF_alloc w' NB (Nat.le_trans hNB BW.size)
      rw [e2]
      exact ⟨ofp S.off,bt BW BB,kp S.t0,kp S.t1,kp S.t2,kp S.t3,kp S.t4,kp S.t5,kp S.t6,kp S.t7,kp S.t8,kp S.t9,fun _=>⟨_,(eval_put _ _ _ (by omega)).trans rfl,FF⟩⟩
    | _ + 11,il,_,_,_=>exact absurd il (by omega)
  intro s a w' S hall
  have a0:=hall 0 (by omega)
  have a1:=hall 1 (by omega)
  have a2:=hall 2 (by omega)
  have a3:=hall 3 (by omega)
  have a4:=hall 4 (by omega)
  have a5:=hall 5 (by omega)
  have a6:=hall 6 (by omega)
  have a7:=hall 7 (by omega)
  have a8:=hall 8 (by omega)
  have a9:=hall 9 (by omega)
  have a10:=hall 10 (by omega)
  have e:=off_norm _ (by intro d hd; simp at hd; omega) S.off
  obtain ⟨v10,M10,F10⟩:=S.t10 a10
  simp only [List.foldl,S.t0 a0,S.t1 a1,S.t2 a2,S.t3 a3,S.t4 a4,S.t5 a5,S.t6 a6,S.t7 a7,S.t8 a8,S.t9 a9,M10] at e
  rw [e]
  exact h _ _ S.before F10
structure RnRegion15 (M i z4 m4:Nat) (A:Act) (w0:World) (s:Nat->Bool) (a:Act) (w:World):Prop where
  off:Off [79,80,81,82,83,84,85,86,87,88,89,90,91] a A
  before:Below w0.heap.size w0 w
  t0:s 0=true->a.eval (.tmp 79)=.pointer (some ⟨M,0,none⟩)
  t1:s 1=true->a.eval (.tmp 80)=.int .i64 (i:Nat)
  t2:s 2=true->a.eval (.tmp 81)=.pointer (some ⟨M,0,none⟩)
  t3:s 3=true->a.eval (.tmp 82)=.int .i64 (i:Nat)
  t4:s 4=true->a.eval (.tmp 83)=.pointer (some ⟨M,0,none⟩)
  t5:s 5=true->a.eval (.tmp 84)=.pointer (some ⟨M,27,none⟩)
  t6:s 6=true->a.eval (.tmp 85)=.pointer (some ⟨M,27 + i,none⟩)
  t7:s 7=true->a.eval (.tmp 86)=.int .i64 (z4:Nat)
  t8:s 8=true->a.eval (.tmp 87)=.int .i64 ((z4 + 1:Nat):Int)
  t9:s 9=true->a.eval (.tmp 88)=.int .i64 (m4:Nat)
  t10:s 10=true->a.eval (.tmp 89)=.pointer (some ⟨M,0,none⟩)
  t11:s 11=true->a.eval (.tmp 90)=.pointer (some ⟨M,27,none⟩)
  t12:s 12=true->a.eval (.tmp 91)=.pointer (some ⟨M,27 + i,none⟩)
theorem rnRegion15 {id:Nat} {l:List Oper} {A:Act} {w:World} {Q:Exit->Act->World->Prop} (M i z4 m4:Nat)
    (lM:M < w.heap.size) (hi0:(0:Int)<=(i:Int)) (hi1:(i:Int) < 8) (k4:w.cell? ⟨M,27 + i,none⟩=some (.int .i64 (z4:Nat))) (a3:IntKind.i64.wrap ((z4:Int) + 1)=((z4 + 1:Nat):Int)) (a4:((z4:Int) + 1).tmod 256=((m4:Nat):Int))
    (hB:tableH l.toArray 13 (fun i=>match i with | 0=>[] | 1=>[] | 2=>[] | 3=>[] | 4=>[2] | 5=>[4] | 6=>[5,3] | 7=>[6] | 8=>[7] | 9=>[8] | 10=>[0] | 11=>[10] | 12=>[11,1] | _=>[]) (fun _=>[])=true)
    (h0:pick l 0=some (.move (.tmp 0),some 79))
    (h1:pick l 1=some (.move (.tmp 7),some 80))
    (h2:pick l 2=some (.move (.tmp 0),some 81))
    (h3:pick l 3=some (.move (.tmp 7),some 82))
    (h4:pick l 4=some (.nilCheck (.tmp 81),some 83))
    (h5:pick l 5=some (.fieldAddr 90 (.tmp 83) 6,some 84))
    (h6:pick l 6=some (.indexAddr 22 (.tmp 84) (.tmp 82),some 85))
    (h7:pick l 7=some (.load 3 (.tmp 85),some 86))
    (h8:pick l 8=some (.binOp .add 3 (.tmp 86) (.const (.int .i64 1)) 3,some 87))
    (h9:pick l 9=some (.binOp .rem 3 (.tmp 87) (.const (.int .i64 256)) 3,some 88))
    (h10:pick l 10=some (.nilCheck (.tmp 79),some 89))
    (h11:pick l 11=some (.fieldAddr 90 (.tmp 89) 6,some 90))
    (h12:pick l 12=some (.indexAddr 22 (.tmp 90) (.tmp 80),some 91))
    (hs:A.tmps.size=96)
    (x0:A.eval (.tmp 0)=.pointer (some ⟨M,0,none⟩))
    (x7:A.eval (.tmp 7)=.int .i64 (i:Nat))
    (h:∀ w1,Below w.heap.size w w1->wpList Tryz.prog l.toArray Q (l.drop 13) (((((((((((((A.put (some 79) (.pointer (some ⟨M,0,none⟩))).put (some 80) (.int .i64 (i:Nat))).put (some 81) (.pointer (some ⟨M,0,none⟩))).put (some 82) (.int .i64 (i:Nat))).put (some 83) (.pointer (some ⟨M,0,none⟩))).put (some 84) (.pointer (some ⟨M,27,none⟩))).put (some 85) (.pointer (some ⟨M,27 + i,none⟩))).put (some 86) (.int .i64 (z4:Nat))).put (some 87) (.int .i64 ((z4 + 1:Nat):Int))).put (some 88) (.int .i64 (m4:Nat))).put (some 89) (.pointer (some ⟨M,0,none⟩))).put (some 90) (.pointer (some ⟨M,27,none⟩))).put (some 91) (.pointer (some ⟨M,27 + i,none⟩))) w1):
    (Code.region id l.toArray true).wp Tryz.prog Q A w:=by
  refine wp_region_head (by kernel_rfl) _ _ _ hB (RnRegion15 M i z4 m4 A w) ⟨Off.refl _ _,(Below.refl _ _).drew,by simp,by simp,by simp,by simp,by simp,by simp,by simp,by simp,by simp,by simp,by simp,by simp,by simp⟩ ?_ ?_
  · intro s a w' S i' o il ho hsi hT K hK
    have sz:a.tmps.size=96:=by rw [S.off.2.1]; exact hs
    have y0:a.eval (.tmp 0)=.pointer (some ⟨M,0,none⟩):=by rw [S.off.eval (by decide)]; exact x0
    have y7:a.eval (.tmp 7)=.int .i64 (i:Nat):=by rw [S.off.eval (by decide)]; exact x7
    match i',il,ho,hsi,hT with
    | 0,_,ho,hsi,hT=>
      obtain ⟨e1,e2⟩:=pick_of h0 ho
      refine step_val (v:=.pointer (some ⟨M,0,none⟩)) (by simp only [execOp,e1,y0]; go_simp) (hK _ _ ?_)
      rw [e2]
      exact ⟨ofp S.off,S.before,ev_ (by omega),kp S.t1,kp S.t2,kp S.t3,kp S.t4,kp S.t5,kp S.t6,kp S.t7,kp S.t8,kp S.t9,kp S.t10,kp S.t11,kp S.t12⟩
    | 1,_,ho,hsi,hT=>
      obtain ⟨e1,e2⟩:=pick_of h1 ho
      refine step_val (v:=.int .i64 (i:Nat)) (by simp only [execOp,e1,y7]; go_simp) (hK _ _ ?_)
      rw [e2]
      exact ⟨ofp S.off,S.before,kp S.t0,ev_ (by omega),kp S.t2,kp S.t3,kp S.t4,kp S.t5,kp S.t6,kp S.t7,kp S.t8,kp S.t9,kp S.t10,kp S.t11,kp S.t12⟩
    | 2,_,ho,hsi,hT=>
      obtain ⟨e1,e2⟩:=pick_of h2 ho
      refine step_val (v:=.pointer (some ⟨M,0,none⟩)) (by simp only [execOp,e1,y0]; go_simp) (hK _ _ ?_)
      rw [e2]
      exact ⟨ofp S.off,S.before,kp S.t0,kp S.t1,ev_ (by omega),kp S.t3,kp S.t4,kp S.t5,kp S.t6,kp S.t7,kp S.t8,kp S.t9,kp S.t10,kp S.t11,kp S.t12⟩
    | 3,_,ho,hsi,hT=>
      obtain ⟨e1,e2⟩:=pick_of h3 ho
      refine step_val (v:=.int .i64 (i:Nat)) (by simp only [execOp,e1,y7]; go_simp) (hK _ _ ?_)
      rw [e2]
      exact ⟨ofp S.off,S.before,kp S.t0,kp S.t1,kp S.t2,ev_ (by omega),kp S.t4,kp S.t5,kp S.t6,kp S.t7,kp S.t8,kp S.t9,kp S.t10,kp S.t11,kp S.t12⟩
    | 4,_,ho,hsi,hT=>
      obtain ⟨e1,e2⟩:=pick_of h4 ho
      have D2:s 2=true:=list_pos hT (d:=2) (by decide)
      refine step_val (v:=.pointer (some ⟨M,0,none⟩)) (by simp only [execOp,e1,S.t2 D2]; go_simp) (hK _ _ ?_)
      rw [e2]
      exact ⟨ofp S.off,S.before,kp S.t0,kp S.t1,kp S.t2,kp S.t3,ev_ (by omega),kp S.t5,kp S.t6,kp S.t7,kp S.t8,kp S.t9,kp S.t10,kp S.t11,kp S.t12⟩
    | 5,_,ho,hsi,hT=>
      obtain ⟨e1,e2⟩:=pick_of h5 ho
      have D4:s 4=true:=list_pos hT (d:=4) (by decide)
      refine step_val (v:=.pointer (some ⟨M,27,none⟩)) (by simp only [execOp,e1,S.t4 D4]; go_simp) (hK _ _ ?_)
      rw [e2]
      exact ⟨ofp S.off,S.before,kp S.t0,kp S.t1,kp S.t2,kp S.t3,kp S.t4,ev_ (by omega),kp S.t6,kp S.t7,kp S.t8,kp S.t9,kp S.t10,kp S.t11,kp S.t12⟩
    | 6,_,ho,hsi,hT=>
      obtain ⟨e1,e2⟩:=pick_of h6 ho
      have D5:s 5=true:=list_pos hT (d:=5) (by decide)
      have D3:s 3=true:=list_pos hT (d:=3) (by decide)
      refine step_val (v:=.pointer (some ⟨M,27 + i,none⟩)) (by simp only [execOp,e1,S.t5 D5,S.t3 D3]; have hn:=hi0; have hn1:=hi1; first | (go_simp; done) | (go_simp; omega) | (go_simp; intro h; omega)) (hK _ _ ?_)
      rw [e2]
      exact ⟨ofp S.off,S.before,kp S.t0,kp S.t1,kp S.t2,kp S.t3,kp S.t4,kp S.t5,ev_ (by omega),kp S.t7,kp S.t8,kp S.t9,kp S.t10,kp S.t11,kp S.t12⟩
    | 7,_,ho,hsi,hT=>
      obtain ⟨e1,e2⟩:=pick_of h7 ho
      have D6:s 6=true:=list_pos hT (d:=6) (by decide)
      have BW:=S.before
      have d4:=(BW.cell (p:=⟨M,27 + i,none⟩) lM).trans k4
      refine step_val (v:=.int .i64 (z4:Nat)) (by simp only [execOp,e1,S.t6 D6]; go_simp) (hK _ _ ?_)
      rw [e2]
      exact ⟨ofp S.off,S.before,kp S.t0,kp S.t1,kp S.t2,kp S.t3,kp S.t4,kp S.t5,kp S.t6,ev_ (by omega),kp S.t8,kp S.t9,kp S.t10,kp S.t11,kp S.t12⟩
    | 8,_,ho,hsi,hT=>
      obtain ⟨e1,e2⟩:=pick_of h8 ho
      have D7:s 7=true:=list_pos hT (d:=7) (by decide)
      refine step_val (v:=.int .i64 ((z4 + 1:Nat):Int)) (by simp only [execOp,e1,S.t7 D7]; have hy:=a3; first | (go_simp; done) | (go_simp; rw [hy]; done) | (go_simp; rw [hy]) | (go_simp; simp [hy]; done) | (go_simp; omega)) (hK _ _ ?_)
      rw [e2]
      exact ⟨ofp S.off,S.before,kp S.t0,kp S.t1,kp S.t2,kp S.t3,kp S.t4,kp S.t5,kp S.t6,kp S.t7,ev_ (by omega),kp S.t9,kp S.t10,kp S.t11,kp S.t12⟩
    | 9,_,ho,hsi,hT=>
      obtain ⟨e1,e2⟩:=pick_of h9 ho
      have D8:s 8=true:=list_pos hT (d:=8) (by decide)
      refine step_val (v:=.int .i64 (m4:Nat)) (by simp only [execOp,e1,S.t8 D8]; have hy:=a4; first | (go_simp; exact hy) | (go_simp; done) | (go_simp; rw [hy]; done) | (go_simp; rw [hy]) | (go_simp; simp [hy]; done) | (go_simp; omega)) (hK _ _ ?_)
      rw [e2]
      exact ⟨ofp S.off,S.before,kp S.t0,kp S.t1,kp S.t2,kp S.t3,kp S.t4,kp S.t5,kp S.t6,kp S.t7,kp S.t8,ev_ (by omega),kp S.t10,kp S.t11,kp S.t12⟩
    | 10,_,ho,hsi,hT=>
      obtain ⟨e1,e2⟩:=pick_of h10 ho
      have D0:s 0=true:=list_pos hT (d:=0) (by decide)
      refine step_val (v:=.pointer (some ⟨M,0,none⟩)) (by simp only [execOp,e1,S.t0 D0]; go_simp) (hK _ _ ?_)
      rw [e2]
      exact ⟨ofp S.off,S.before,kp S.t0,kp S.t1,kp S.t2,kp S.t3,kp S.t4,kp S.t5,kp S.t6,kp S.t7,kp S.t8,kp S.t9,ev_ (by omega),kp S.t11,kp S.t12⟩
    | 11,_,ho,hsi,hT=>
      obtain ⟨e1,e2⟩:=pick_of h11 ho
      have D10:s 10=true:=list_pos hT (d:=10) (by decide)
      refine step_val (v:=.pointer (some ⟨M,27,none⟩)) (by simp only [execOp,e1,S.t10 D10]; go_simp) (hK _ _ ?_)
      rw [e2]
      exact ⟨ofp S.off,S.before,kp S.t0,kp S.t1,kp S.t2,kp S.t3,kp S.t4,kp S.t5,kp S.t6,kp S.t7,kp S.t8,kp S.t9,kp S.t10,ev_ (by omega),kp S.t12⟩
    | 12,_,ho,hsi,hT=>
      obtain ⟨e1,e2⟩:=pick_of h12 ho
      have D11:s 11=true:=list_pos hT (d:=11) (by decide)
      have D1:s 1=true:=list_pos hT (d:=1) (by decide)
      refine step_val (v:=.pointer (some ⟨M,27 + i,none⟩)) (by simp only [execOp,e1,S.t11 D11,S.t1 D1]; have hn:=hi0; have hn1:=hi1; first | (go_simp; done) | (go_simp; omega) | (go_simp; intro h; omega)) (hK _ _ ?_)
      rw [e2]
      exact ⟨ofp S.off,S.before,kp S.t0,kp S.t1,kp S.t2,kp S.t3,kp S.t4,kp S.t5,kp S.t6,kp S.t7,kp S.t8,kp S.t9,kp S.t10,kp S.t11,ev_ (by omega)⟩
    | _ + 13,il,_,_,_=>exact absurd il (by omega)
  intro s a w' S hall
  have a0:=hall 0 (by omega)
  have a1:=hall 1 (by omega)
  have a2:=hall 2 (by omega)
  have a3:=hall 3 (by omega)
  have a4:=hall 4 (by omega)
  have a5:=hall 5 (by omega)
  have a6:=hall 6 (by omega)
  have a7:=hall 7 (by omega)
  have a8:=hall 8 (by omega)
  have a9:=hall 9 (by omega)
  have a10:=hall 10 (by omega)
  have a11:=hall 11 (by omega)
  have a12:=hall 12 (by omega)
  have e:=off_norm _ (by intro d hd; simp at hd; omega) S.off
  simp only [List.foldl,S.t0 a0,S.t1 a1,S.t2 a2,S.t3 a3,S.t4 a4,S.t5 a5,S.t6 a6,S.t7 a7,S.t8 a8,S.t9 a9,S.t10 a10,S.t11 a11,S.t12 a12] at e
  rw [e]
  exact h _ S.before
end Go.Proofs.YtchfkncbemjepaaGreat

/- Layer 11, the reference: Clear, Next of its mux. -/
namespace Go.Proofs.YtchfkncbemjepaaGreat
open Go.RowKit

theorem yC_congr' {x x':Ch.Mx} (Y:Nat->Nat) (j:Nat) (hj:j < 43) (h1:x'.craft=x.craft) (h2:x'.n=x.n) (h3:j=26->x'.ma=x.ma) (h4:∀ i,i < 8->x'.pr i=x.pr i) (h5:∀ i,i < 8->x'.sh i=x.sh i) (h6:∀ i,i < 8->j=27 + i->x'.ct i=x.ct i) (h7:∀ i,i < 8->j=35 + i->x'.cr i=x.cr i):yC x Y j=yC x' Y j:=by
  unfold yC
  by_cases q1:j < 1
  · rw [if_pos q1,if_pos q1,h1]
  rw [if_neg q1,if_neg q1]
  by_cases q2:j < 2
  · rw [if_pos q2,if_pos q2,h2]
  rw [if_neg q2,if_neg q2]
  by_cases q3:j < 10
  · rw [if_pos q3,if_pos q3,h4 _ (by omega)]
  rw [if_neg q3,if_neg q3]
  by_cases q4:j < 18
  · rw [if_pos q4,if_pos q4,h5 _ (by omega)]
  rw [if_neg q4,if_neg q4]
  by_cases q5:j < 26
  · rw [if_pos q5,if_pos q5]
  rw [if_neg q5,if_neg q5]
  by_cases q6:j < 27
  · rw [if_pos q6,if_pos q6,h3 (by omega)]
  rw [if_neg q6,if_neg q6]
  by_cases q7:j < 35
  · rw [if_pos q7,if_pos q7,h6 _ (by omega) (by omega)]
  rw [if_neg q7,if_neg q7,h7 _ (by omega) (by omega)]
theorem yC_congr {x x':Ch.Mx} (Y:Nat->Nat) (h1:x'.craft=x.craft) (h2:x'.n=x.n) (h3:x'.ma=x.ma) (h4:∀ i,i < 8->x'.pr i=x.pr i) (h5:∀ i,i < 8->x'.sh i=x.sh i) (h6:∀ i,i < 8->x'.ct i=x.ct i) (h7:∀ i,i < 8->x'.cr i=x.cr i):
    ∀ j,j < 43->yC x Y j=yC x' Y j:=fun j hj=>yC_congr' Y j hj h1 h2 (fun _=>h3) h4 h5 (fun i hi _=>h6 i hi) (fun i hi _=>h7 i hi)
theorem MY.congr {w:World} {n0 M:Nat} {x x':Ch.Mx} {Y:Nat->Nat} (h:MY w n0 M x Y) (h1:x'.craft=x.craft) (h2:x'.n=x.n) (h3:x'.ma=x.ma) (h4:∀ i,i < 8->x'.pr i=x.pr i) (h5:∀ i,i < 8->x'.sh i=x.sh i) (h6:∀ i,i < 8->x'.ct i=x.ct i) (h7:∀ i,i < 8->x'.cr i=x.cr i) (h8:∀ i,i < 8->x'.fl i=x.fl i):MY w n0 M x' Y:=
  ⟨h.xl,h.ty,h.c.congr (yC_congr Y h1 h2 h3 h4 h5 h6 h7),fun i hi=>by rw [h2,h8 i hi]; exact h.f i hi,h.yl,h.ne⟩
theorem info_i8:(Tryz.prog.info? 22).map (·.size)=some 8:=by kernel_rfl
theorem yC_ma (x:Ch.Mx) (Y:Nat->Nat) (v:Nat):∀ j,j < 43->(if j=26 then Value.int .i64 (v:Nat) else yC x Y j)=yC { x with ma:=v } Y j:=fun j hj=>by
  by_cases e:j=26
  · subst e
    rfl
  rw [if_neg e]
  exact yC_congr' Y j hj rfl rfl (fun q=>absurd q e) (fun _ _=>rfl) (fun _ _=>rfl) (fun _ _ _=>rfl) (fun _ _ _=>rfl)
theorem yC_ct (x:Ch.Mx) (Y:Nat->Nat) (i v:Nat) (hi:i < 8):∀ j,j < 43->(if j=27 + i then Value.int .i64 (v:Nat) else yC x Y j)=yC { x with ct:=Ch.upd x.ct i v } Y j:=fun j hj=>by
  by_cases e:j=27 + i
  · subst e
    unfold yC
    rw [if_pos rfl,if_neg (by omega),if_neg (by omega),if_neg (by omega),if_neg (by omega),if_neg (by omega),if_neg (by omega),if_pos (by omega),Nat.add_sub_cancel_left]
    exact congrArg (fun z:Nat=>Value.int .i64 z) (Ch.upd_same x.ct i v).symm
  rw [if_neg e]
  exact yC_congr' Y j hj rfl rfl (fun _=>rfl) (fun _ _=>rfl) (fun _ _=>rfl) (fun k _ q=>Ch.upd_ne x.ct v (fun z=>e (by omega))) (fun _ _ _=>rfl)
theorem z8_cr (x:Ch.Mx) (Y:Nat->Nat):∀ j,j < 43->(if 35<=j/\j < 35 + 8 then ([.int .i64 0,.int .i64 0,.int .i64 0,.int .i64 0,.int .i64 0,.int .i64 0,.int .i64 0,.int .i64 0]:List Value).getD (j - 35) undef else yC x Y j)=yC { x with cr:=fun _=>0 } Y j:=fun j hj=>by
  show (if 35<=j/\j < 35 + 8 then _ else _)=_
  by_cases e:35<=j
  · rw [if_pos ⟨e,by omega⟩]
    obtain ⟨k,rfl⟩:∃ k,j=35 + k:=⟨j - 35,by omega⟩
    have hk:k < 8:=by omega
    rw [Nat.add_sub_cancel_left]
    match k,hk with
    | 0,_=>rfl
    | 1,_=>rfl
    | 2,_=>rfl
    | 3,_=>rfl
    | 4,_=>rfl
    | 5,_=>rfl
    | 6,_=>rfl
    | 7,_=>rfl
  rw [if_neg (by omega)]
  unfold yC
  have a:∀ z1 z2:Value,(if j < 35 then Value.int .i64 (x.ct (j - 27):Nat) else z1)=(if j < 35 then Value.int .i64 (x.ct (j - 27):Nat) else z2):=fun z1 z2=>by rw [if_pos (by omega),if_pos (by omega)]
  rw [a]
theorem z8_ct (x:Ch.Mx) (Y:Nat->Nat):∀ j,j < 43->(if 27<=j/\j < 27 + 8 then ([.int .i64 0,.int .i64 0,.int .i64 0,.int .i64 0,.int .i64 0,.int .i64 0,.int .i64 0,.int .i64 0]:List Value).getD (j - 27) undef else yC x Y j)=yC { x with ct:=fun _=>0 } Y j:=fun j hj=>by
  show (if 27<=j/\j < 27 + 8 then _ else _)=_
  by_cases e:27<=j/\j < 35
  · rw [if_pos e]
    obtain ⟨k,rfl⟩:∃ k,j=27 + k:=⟨j - 27,by omega⟩
    have hk:k < 8:=by omega
    rw [Nat.add_sub_cancel_left]
    match k,hk with
    | 0,_=>rfl
    | 1,_=>rfl
    | 2,_=>rfl
    | 3,_=>rfl
    | 4,_=>rfl
    | 5,_=>rfl
    | 6,_=>rfl
    | 7,_=>rfl
  rw [if_neg (by omega)]
  unfold yC
  by_cases q:j < 27
  · have a:∀ z1 z2:Value,(if j < 27 then Value.int .i64 (x.ma:Nat) else z1)=(if j < 27 then Value.int .i64 (x.ma:Nat) else z2):=fun z1 z2=>by rw [if_pos q,if_pos q]
    rw [a]
  rw [if_neg (by omega),if_neg (by omega),if_neg (by omega),if_neg (by omega),if_neg (by omega),if_neg q,if_neg (by omega),if_neg (by omega),if_neg (by omega),if_neg (by omega),if_neg (by omega),if_neg (by omega),if_neg q,if_neg (by omega)]
theorem rmClear_any {w:World} {n0 M:Nat} {x:Ch.Mx} {Y:Nat->Nat} (h:MY w n0 M x Y):
    Calls Tryz.prog 15 #[.pointer (some ⟨M,0,none⟩)] w fun e w'=>(∃ v,e=.returned v)/\MY w' n0 M x.clr Y/\Kp n0 RTs false w w':=by
  have H:=Lib.hid h
  clear h
  go_enter Tryz.func15,Tryz.ntmps15
  go_wp2_with fail
  go_loopw [2] (fun x2 ws=>∃ i:Nat,i<=8/\x2=.int .i64 i/\MY ws n0 M { x with fl:=fun j=>if j < i then s0 else x.fl j } Y/\Kp n0 RTs false w ws) (fun x2 _=>8 - (intOf x2).toNat)
  case atStart=>exact ⟨0,by omega,rfl,H.out.congr rfl rfl rfl (fun _ _=>rfl) (fun _ _=>rfl) (fun _ _=>rfl) (fun _ _=>rfl) (fun i hi=>by show (if i < 0 then s0 else x.fl i)=_; rw [if_neg (Nat.not_lt_zero i)]),Kp.refl _ _ _ _⟩
  case round=>
    obtain ⟨i,hi,rfl,hM,hK⟩:=hrel
    have HM:=Lib.hid hM
    have HK:=Lib.hid hK
    clear hM hK
    by_cases hlt:i < 8
    · have i0:(0:Int)<=(i:Int):=by omega
      have i1:(i:Int) < 8:=by omega
      have cf:=HM.out.cfl hlt
      have YC:=Lib.hid (yclearR (HM.out.f i hlt))
      have HLT:=Lib.hid hlt
      clear hlt
      go_wp2_with fail
      (refine YC.out.mono ?_)
      rintro e w1 ⟨⟨v,rfl⟩,P1,K1⟩
      have R:=Lib.hid (HM.out.setF HLT.out P1 K1)
      clear P1 K1 YC
      go_wp2_with fail
      go_roundw
      case rel=>exact ⟨i + 1,by have:=HLT.out; omega,by have:=HLT.out; go_num,R.out.1.congr rfl rfl rfl (fun _ _=>rfl) (fun _ _=>rfl) (fun _ _=>rfl) (fun _ _=>rfl) (fun j hj=>by
        show (if j < i + 1 then s0 else x.fl j)=(if j=i then s0 else if j < i then s0 else x.fl j)
        by_cases e:j=i
        · rw [if_pos e,if_pos (by omega)]
        rw [if_neg e]
        by_cases e2:j < i
        · rw [if_pos e2,if_pos (by omega)]
        rw [if_neg e2,if_neg (by omega)]),HK.out.trans R.out.2⟩
      case measure=>have:=HLT.out; simp [intOf]; omega
    obtain rfl:i=8:=by omega
    have H1:=Lib.hid (show MY wr n0 M { x with fl:=fun _=>s0 } Y from HM.out.congr rfl rfl rfl (fun _ _=>rfl) (fun _ _=>rfl) (fun _ _=>rfl) (fun _ _=>rfl) (fun i hi=>by show s0=(if i < 8 then s0 else x.fl i); rw [if_pos hi]))
    clear hlt HM hi
    go_wp2_with (first
      | ((with_reducible refine atList ?_); refine wpList_setT rfl (.store 3 (.tmp 20) (.const (.int .i64 0))) rfl M 26 43 (.int .i64 0) _ _ H1.out.c (by omega) (yC_ma _ Y 0) (store_int rfl rfl rfl (H1.out.c.cell (j:=26) (by omega)) (H1.out.c.frozen (j:=26) (by omega))) ?_; intro w2 C2 U2 S2 V2; have H2:=Lib.hid (H1.out.setM (x':={ x with fl:=fun _=>s0,ma:=0 }) U2.out C2.out (V2.out _ H1.out.ty) rfl rfl))
      | ((with_reducible refine atList ?_); refine wpList_setMidT rfl 22 (.tmp 22) (.tmp 17) rfl M 27 43 8 [.int .i64 0,.int .i64 0,.int .i64 0,.int .i64 0,.int .i64 0,.int .i64 0,.int .i64 0,.int .i64 0] _ _ H2.out.1.c rfl (by decide) (z8_ct _ Y) rfl rfl info_i8 (by decide) ?_; intro w3 C3 U3 S3 V3; have H3:=Lib.hid (H2.out.1.setM (x':={ x with fl:=fun _=>s0,ma:=0,ct:=fun _=>0 }) U3.out C3.out (V3.out _ H2.out.1.ty) rfl rfl))
      | ((with_reducible refine atList ?_); refine wpList_setMidT rfl 22 (.tmp 24) (.tmp 18) rfl M 35 43 8 [.int .i64 0,.int .i64 0,.int .i64 0,.int .i64 0,.int .i64 0,.int .i64 0,.int .i64 0,.int .i64 0] _ _ H3.out.1.c rfl (by decide) (z8_cr _ Y) rfl rfl info_i8 (by decide) ?_; intro w4 C4 U4 S4 V4; have H4:=Lib.hid (H3.out.1.setM (x':=x.clr) U4.out C4.out (V4.out _ H3.out.1.ty) rfl rfl)))
    first | go_ret | go_end0 | refine bodyPost_end (results_none rfl _ _ _) rfl ?_ | refine bodyPost_ret (results_none rfl _ _ _) rfl ?_
    exact ⟨⟨_,rfl⟩,H4.out.1,((HK.out.trans H2.out.2).trans H3.out.2).trans H4.out.2⟩
theorem holds_85 {w:World} {b n:Nat} (C:Cel w b n (fun j=>if j < n then .int .u8 85 else .int .u8 0)):Holds w b (List.replicate n (85:UInt8)):=fun j hj=>by
  have hj':j < n:=by simpa using hj
  refine ⟨(C.cell hj').trans ?_,C.frozen hj'⟩
  rw [if_pos hj',List.getD_eq_getElem?_getD,List.getElem?_replicate,if_pos hj']
  rfl
theorem conv_back {ev:Operand->Value} {w:World} {o:Oper} {x:Operand} {b m:Nat} {z:ByteArray} (h:o.op=.convert 103 9 x) (hx:ev x=.slice (some ⟨b,0,none⟩) m m) (hc:(convert 103 9 (.slice (some ⟨b,0,none⟩) m m)).run Tryz.prog w=.ok (.string z) w):(execOp ev o).run Tryz.prog w=.ok (.value (.string z)) w:=by
  simp only [execOp,h,hx]
  first
    | (go_simp; rw [hc]; rfl)
    | (go_simp; done)
    | (simp [hc,Result.andThen]; done)

theorem Kp.under {base F:Nat} {ts:List TypeId} {w w1 w2:World} (h:Kp base ts false w w1) (k:But F w1 w2) (hF:w.heap.size<=F) (hb:base<=F):Kp base ts false w w2:=
  ⟨h.below.trans (k.below.mono hb),fun b cur t fr e hn=>by
    have lb:=(Array.getElem?_eq_some_iff.1 e).1
    have e1:=h.cells b cur t fr e hn
    rw [k.rest b ((Array.getElem?_eq_some_iff.1 (e1.trans e)).1) (by omega)]
    exact e1,fun _ b es c e=>by
    have lb:=(Array.getElem?_eq_some_iff.1 e).1
    have e1:=h.maps rfl b es c e
    rw [k.rest b ((Array.getElem?_eq_some_iff.1 (e1.trans e)).1) (by omega)]
    exact e1⟩
theorem upd_id {α:Type} (f:Nat->α) (i:Nat):Ch.upd f i (f i)=f:=by
  funext j
  unfold Ch.upd
  split
  · rename_i e; rw [e]
  rfl
theorem rmNext_any {w:World} {n0 M:Nat} {x:Ch.Mx} {Y:Nat->Nat} (h:MY w n0 M x Y) (o:x.Ok) (hn0:n0<=w.heap.size) (word:Nat) (hw:word < 4294967296):
    Calls Tryz.prog 17 #[.pointer (some ⟨M,0,none⟩),.int .u32 (word:Nat)] w fun e w'=>e=.returned (.tuple #[.string (bs (Tm.enc (x.frm word))),.int .i64 0])/\MY w' n0 M x.nxt Y/\Kp n0 RTs false w w':=by
  have HO:=Lib.hid o
  have HN:=Lib.hid hn0
  have H:=Lib.hid h
  have HCL:=Lib.hid x.ch_lt
  have DL:=Lib.hid (show (bs x.dat).size=x.n by rw [bs_size,Ch.Mx.dat_len o])
  have PT:=Lib.hid (fun w=>rtput_any (x.frm word) (by show (bs x.dat).size<=_; rw [DL.out]; have:=o.n2; omega) hw w)
  rw [if_pos (Ch.Mx.frm_ok o word)] at PT
  obtain ⟨EN,hEN⟩:∃ z,bs (Tm.enc (x.frm word))=z:=⟨_,rfl⟩
  rw [hEN] at PT ⊢
  unfold Ch.Mx.frm tmVal at PT
  simp only at PT
  obtain ⟨z1,hz1⟩:∃ z,x.craft=z:=⟨_,rfl⟩
  obtain ⟨z2,hz2⟩:∃ z,x.ch=z:=⟨_,rfl⟩
  obtain ⟨z3,hz3⟩:∃ z,x.ma=z:=⟨_,rfl⟩
  obtain ⟨z4,hz4⟩:∃ z,x.ct x.ch=z:=⟨_,rfl⟩
  obtain ⟨z5,hz5⟩:∃ z,x.fst=z:=⟨_,rfl⟩
  obtain ⟨z6,hz6⟩:∃ z,bs x.dat=z:=⟨_,rfl⟩
  have Z2:=Lib.hid hz2
  have Z3b:=Lib.hid (show z3<=255 by rw [<-hz3]; exact o.ma)
  have Z4b:=Lib.hid (show z4<=255 by rw [<-hz4]; exact o.ct _ x.ch_lt)
  rw [hz1,hz3,hz4,hz5,hz6,hz2] at PT
  obtain ⟨m3,hm3⟩:∃ z,(z3 + 1) % 256=z:=⟨_,rfl⟩
  obtain ⟨m4,hm4⟩:∃ z,(z4 + 1) % 256=z:=⟨_,rfl⟩
  have M3:=Lib.hid hm3
  have M4:=Lib.hid hm4
  have k1:w.cell? ⟨M,0,none⟩=some (.int .i64 (z1:Nat)):=by rw [<-hz1]; exact h.ccf
  have k3:w.cell? ⟨M,26,none⟩=some (.int .i64 (z3:Nat)):=by rw [<-hz3]; exact h.cma
  obtain ⟨y,hy⟩:∃ y:Ch.Mx,{ x.chz with fl:=Ch.upd x.fl x.ch (nxS x.n (x.fl x.ch)) }=y:=⟨_,rfl⟩
  have Z1:=Lib.hid (show y.craft=z1 by rw [<-hy]; exact x.chz_craft.trans hz1)
  have Z3:=Lib.hid (show y.ma=z3 by rw [<-hy]; exact x.chz_ma.trans hz3)
  have Z4:=Lib.hid (show y.ct z2=z4 by rw [<-hy,<-hz2]; exact (congrFun x.chz_ct _).trans hz4)
  have NXT:=Lib.hid (show x.nxt={ y with ma:=m3,ct:=Ch.upd y.ct z2 m4 } by rw [<-hy,<-hm3,<-hm4,<-hz3,<-hz4,<-hz2]; unfold Ch.Mx.nxt; rw [<-x.chz_ct])
  have DZ:=Lib.hid (show x.idle->z2=7/\z5=2046/\z6=bs (List.replicate x.n 85) from fun g=>⟨by rw [<-hz2]; exact if_pos g,by rw [<-hz5]; exact if_pos g,by rw [<-hz6]; exact congrArg bs (if_pos g)⟩)
  have DN:=Lib.hid (show ¬ x.idle->z2=x.pick/\z5=(Tm.next tmIdle x.n (x.fl x.ch)).2.1/\z6=bs (Tm.next tmIdle x.n (x.fl x.ch)).1 from fun g=>⟨by rw [<-hz2]; exact if_neg g,by rw [<-hz5]; exact if_neg g,by rw [<-hz6]; exact congrArg bs (if_neg g)⟩)
  have HY:=Lib.hid hy
  clear hz1 hz2 hz3 hz4 hz5 hz6 hm3 hm4 hy h o hn0 hw hEN
  go_enter Tryz.func17,Tryz.ntmps17
  go_upto_region 1 with fail
  refine rnRegion M w.heap.size z1 z3 word H.out.ty.lt k1 k3 (Nat.le_refl _) (by kernel_rfl) rfl rfl rfl rfl rfl rfl rfl rfl rfl rfl rfl rfl rfl rfl ?_
  intro v6 wa ba F6
  obtain ⟨F,hv6,hF,CF',TF'⟩:=F6
  subst hv6
  have CFa:=Lib.hid CF'
  have HF:=Lib.hid hF
  have TFa:=Lib.hid TF'
  have Ha:=Lib.hid (H.out.below ba)
  have Ba:=Lib.hid ba
  clear k1 k3 CF' TF' hF ba
  simp only [Act.put,List.setIfInBounds_toArray,List.set_cons_succ,List.set_cons_zero,List.drop_succ_cons,List.drop_zero]
  go_wp2_with (((with_reducible refine atList ?_); refine wpList_setAllT rfl 100 (.tmp 6) (.tmp 22) rfl F 7 [.int .i64 (z1:Nat),.int .i64 7,.int .i64 (z3:Nat),.int .i64 0,.int .i64 2046,.string ⟨#[]⟩,.int .u32 (word:Nat)] _ (tmCel ⟨((z1:Nat):Int),7,((z3:Nat):Int),0,2046,⟨#[]⟩,word⟩) CFa.out rfl (fun j hj=>by match j,hj with | 0,_=>rfl | 1,_=>rfl | 2,_=>rfl | 3,_=>rfl | 4,_=>rfl | 5,_=>rfl | 6,_=>rfl) rfl rfl tm_info (by simp [Value.oneCell']) ?_; intro wb Cb Ub Sb Vb))
  have Bb:=Lib.hid (But.under Ba.out Ub.out HF.out)
  have Hb:=Lib.hid (H.out.below Bb.out)
  have Tb:=Lib.hid (Vb.out _ TFa.out)
  have CHO:=Lib.hid (rchoose_any Hb.out HO.out (Nat.le_trans HN.out Bb.out.size))
  clear Ha Ba CFa TFa Ub Sb Vb
  (refine CHO.out.mono ?_)
  rintro e w1 ⟨rfl,hP,hK⟩
  have P1:=Lib.hid hP
  have K1:=Lib.hid ((Kp.of_below (ts:=RTs) (mp:=false) Bb.out HN.out).trans hK)
  have C1:=Lib.hid (Cb.out.kp Tb.out hK (by decide))
  have T1:=Lib.hid (Tb.out.kp hK (by decide))
  clear hP hK CHO
  obtain ⟨ci,hci⟩:∃ z,chI x=z:=⟨_,rfl⟩
  rw [hci]
  go_upto_if 26 with fail
  go_cut [7] (fun a wx=>a=.int .i64 (z2:Nat)/\MY wx n0 M y Y/\Kp n0 RTs false w wx/\Cel wx F 7 (tmCel ⟨((z1:Nat):Int),((z2:Nat):Int),((z3:Nat):Int),0,((z5:Nat):Int),z6,word⟩)/\TyB wx F 100)
  case first=>
    by_cases hi:x.idle
    · have W0:Tm.wait (x.fl x.ch).q=0:=(x.idle_iff (by have:=HO.out.n1; omega)).1 hi _ x.ch_lt
      have YE:=Lib.hid (show y=x.chz by
        rw [<-HY.out]
        unfold nxS
        rw [if_pos W0,upd_id,<-x.chz_fl])
      obtain ⟨e2,e5,e6⟩:=DZ.out hi
      obtain rfl:ci=-1:=by rw [<-hci]; exact if_pos hi
      have cn:w1.cell? ⟨M,1,none⟩=some (.int .i64 (x.n:Nat)):=by rw [<-x.chz_n]; exact P1.out.csz
      obtain ⟨n,hn⟩:∃ n,x.n=n:=⟨_,rfl⟩
      rw [hn] at cn e6
      have HNN:=Lib.hid (show n<=200 by rw [<-hn]; exact HO.out.n2)
      have HXN:=Lib.hid hn
      subst e2
      subst e5
      have E6:=Lib.hid e6
      clear W0 hi e6 hn DN DZ hci
      obtain ⟨i0,hi,hz0,hz1,hz2⟩:=info_parts f2_info_u8
      go_wp2_with (at_make; refine wpList_make_full _ rfl _ _ 103 rfl w1.heap.size 5 i0 (.int .u8 0) 1 Tryz.underlying103 hi hz0 hz1 .i64 .i64 _ _ n rfl rfl (by first | rfl | omega) (by first | rfl | omega) (by rw [hz2]; have:=HNN.out; omega) (by unfold maxLen; have:=HNN.out; omega) (Nat.le_refl _) ?_; intro w2 hown hgrow; have HO2:=Lib.hid (holds_made hown (fun j hj=>made_zero n j hj)); have B2:=Lib.hid ((Below.refl w1.heap.size w1).grown hgrow (Nat.le_refl _) (fun k e=>by cases e)); have T2:=Lib.hid (own_ty hown rfl).2; clear hown hgrow)
      have C2:=Lib.hid (show Cel w2 w1.heap.size n (fun j=>if j < 0 then .int .u8 85 else .int .u8 0) from ⟨T2.out.lt,fun j hj=>by
        have q:=HO2.out j (by simp [Fld.zeros]; exact hj)
        refine ⟨q.1.trans ?_,q.2⟩
        dsimp only
        rw [if_neg (Nat.not_lt_zero j),List.getD_eq_getElem?_getD]
        unfold Fld.zeros
        rw [List.getElem?_replicate,if_pos hj]
        rfl⟩)
      clear HO2 T2
      obtain ⟨b,hb⟩:∃ b,w1.heap.size=b:=⟨_,rfl⟩
      have HB:=Lib.hid hb
      rw [hb] at C2 B2 ⊢
      clear hb
      go_loopw [9] (fun x9 wr=>∃ i:Nat,i<=n/\x9=.int .i64 i/\Cel wr b n (fun j=>if j < i then .int .u8 85 else .int .u8 0)/\Below b w1 wr) (fun x9 _=>n - (intOf x9).toNat)
      case atStart=>exact ⟨0,Nat.zero_le _,rfl,C2.out,B2.out⟩
      case round=>
        obtain ⟨i,hin,rfl,hC,hBl⟩:=hrel
        have HC:=Lib.hid hC
        have HBL:=Lib.hid hBl
        have cn2:wr.cell? ⟨M,1,none⟩=some (.int .i64 (n:Nat)):=(hBl.cell (p:=⟨M,1,none⟩) (by rw [<-HB.out]; exact P1.out.ty.lt)).trans cn
        clear hC hBl
        by_cases hlt:i < n
        · have i1:(0:Int)<=(i:Int):=by omega
          have i2:(i:Int) < (n:Int):=by omega
          have c1:decide ((i:Int) < (n:Int))=true:=decide_eq_true i2
          have c1n:decide (i < n)=true:=decide_eq_true hlt
          have q0:wr.cell? ⟨b,i,none⟩=some (.int .u8 0):=(HC.out.cell hlt).trans (by rw [if_neg (Nat.lt_irrefl i)])
          have q1:wr.frozen? ⟨b,i,none⟩=false:=HC.out.frozen hlt
          have QS:=Lib.hid (HC.out.set i (.int .u8 85))
          have HLT:=Lib.hid hlt
          have hnb:(n:Int)<=200:=by have:=HNN.out; omega
          clear hlt
          go_wp2_with fail
          go_roundw
          case rel=>exact ⟨i + 1,HLT.out,by have:=HLT.out; go_num,QS.out.congr (fun j hj=>by
            by_cases e:j=i
            · rw [if_pos e,if_pos (by omega)]
            rw [if_neg e]
            by_cases e2:j < i
            · rw [if_pos e2,if_pos (by omega)]
            rw [if_neg e2,if_neg (by omega)]),HBL.out.setCell (p:=⟨b,i,none⟩) (Nat.le_refl _) _⟩
          case measure=>have:=HLT.out; simp [intOf]; omega
        obtain rfl:i=n:=by omega
        have c1:decide ((i:Int) < (i:Int))=false:=decide_eq_false (by omega)
        have c1n:decide (i < i)=false:=decide_eq_false (by omega)
        have BW:=Lib.hid (show Below w1.heap.size w1 wr by rw [HB.out]; exact HBL.out)
        have CW:=Lib.hid (C1.out.below BW.out)
        have TW:=Lib.hid (T1.out.below BW.out)
        have CV:=Lib.hid (show (convert 103 9 (.slice (some ⟨b,0,none⟩) i i)).run Tryz.prog wr=.ok (.string z6) wr by
          have:=back_bytes wr b i (List.replicate i 85) (holds_85 HC.out)
          rw [List.length_replicate] at this
          rw [this,E6.out]
          rfl)
        clear hlt
        go_wp2_with (first
          | ((with_reducible refine atList ?_); refine wpList_run rfl (.convert 103 9 (.tmp 43)) rfl (.string z6) (conv_back rfl rfl CV.out) ?_)
          | ((with_reducible refine atList ?_); refine wpList_setT rfl (.store 9 (.tmp 45) (.tmp 44)) rfl F 5 7 (.string z6) _ (tmCel ⟨((z1:Nat):Int),7,((z3:Nat):Int),0,2046,z6,word⟩) CW.out (by omega) (fun j hj=>by match j,hj with | 0,_=>rfl | 1,_=>rfl | 2,_=>rfl | 3,_=>rfl | 4,_=>rfl | 5,_=>rfl | 6,_=>rfl) (store_str rfl rfl rfl (CW.out.cell (j:=5) (by omega)) (CW.out.frozen (j:=5) (by omega))) ?_; intro w4 C4 U4 S4 V4))
        go_meet
        case rel=>
          have k4:=(K1.out.trans (Kp.of_below BW.out (Nat.le_trans HN.out K1.out.below.size))).under U4.out HF.out (Nat.le_trans HN.out HF.out)
          refine ⟨rfl,?_,k4,C4.out,V4.out _ TW.out⟩
          rw [YE.out]
          exact (P1.out.below BW.out).kp (Kp.of_but (base:=n0) U4.out TW.out (Nat.le_trans HN.out HF.out)) (by decide) (by decide) (by decide)
    have W0:¬ Tm.wait (x.fl x.ch).q=0:=fun g=>by
      have:=x.pick_waits hi (by have:=HO.out.n1; omega)
      unfold Ch.Mx.wt at this
      rw [show x.ch=x.pick from if_neg hi] at g
      omega
    have hV:nxV x.n (x.fl x.ch)=.tuple #[.string (bs (Tm.next tmIdle x.n (x.fl x.ch)).1),.int .i64 ((Tm.next tmIdle x.n (x.fl x.ch)).2.1:Nat),.bool true]:=if_neg W0
    obtain ⟨h2,h5,h6⟩:=DN.out hi
    obtain rfl:ci=(z2:Nat):=by rw [<-hci,h2]; exact if_neg hi
    have hpk:x.ch=z2:=Z2.out
    have z8:z2 < 8:=by rw [<-hpk]; exact x.ch_lt
    have YN:=Lib.hid (ynextR (P1.out.f z2 z8) (HO.out.chz.fl _ z8) ⟨HO.out.chz.n1,HO.out.chz.n2⟩ (Nat.le_trans HN.out K1.out.below.size))
    rw [x.chz_n,x.chz_fl] at YN
    rw [hpk,h2] at hV h5 h6
    rw [<-h2] at hV h5 h6
    rw [hV,<-h5,<-h6] at YN
    have cf:=P1.out.cfl z8
    have i1:(0:Int)<=(z2:Int):=by omega
    have i2:(z2:Int) < 8:=by omega
    have t0:decide ((z2:Int) < 0)=false:=decide_eq_false (by omega)
    have Z8:=Lib.hid z8
    clear hi W0 hV h2 h5 h6 DZ DN hci hpk z8
    go_wp2_with fail
    (refine YN.out.mono ?_)
    rintro e w2 ⟨rfl,P2',K2'⟩
    have R:=P1.out.setF Z8.out (by rw [x.chz_n]; exact P2') K2'
    rw [x.chz_fl,<-Z2.out,HY.out] at R
    have R2:=Lib.hid R
    have kf:=K2'.kp (P1.out.f _ Z8.out).ty
    have C2:=Lib.hid (C1.out.kp T1.out kf (by decide))
    have T2:=Lib.hid (T1.out.kp kf (by decide))
    clear R P2' K2' kf YN
    go_wp2_with (first
      | ((with_reducible refine atList ?_); refine wpList_setT rfl (.store 3 (.tmp 60) (.tmp 57)) rfl F 1 7 (.int .i64 (z2:Nat)) _ (tmCel ⟨((z1:Nat):Int),((z2:Nat):Int),((z3:Nat):Int),0,2046,⟨#[]⟩,word⟩) C2.out (by omega) (fun j hj=>by match j,hj with | 0,_=>rfl | 1,_=>rfl | 2,_=>rfl | 3,_=>rfl | 4,_=>rfl | 5,_=>rfl | 6,_=>rfl) (store_int rfl rfl rfl (C2.out.cell (j:=1) (by omega)) (C2.out.frozen (j:=1) (by omega))) ?_; intro w3 C3 U3 S3 V3)
      | ((with_reducible refine atList ?_); refine wpList_setT rfl (.store 9 (.tmp 61) (.tmp 58)) rfl F 5 7 (.string z6) _ (tmCel ⟨((z1:Nat):Int),((z2:Nat):Int),((z3:Nat):Int),0,2046,z6,word⟩) C3.out (by omega) (fun j hj=>by match j,hj with | 0,_=>rfl | 1,_=>rfl | 2,_=>rfl | 3,_=>rfl | 4,_=>rfl | 5,_=>rfl | 6,_=>rfl) (store_str rfl rfl rfl (C3.out.cell (j:=5) (by omega)) (C3.out.frozen (j:=5) (by omega))) ?_; intro w4 C4 U4 S4 V4)
      | ((with_reducible refine atList ?_); refine wpList_setT rfl (.store 3 (.tmp 62) (.tmp 59)) rfl F 4 7 (.int .i64 (z5:Nat)) _ (tmCel ⟨((z1:Nat):Int),((z2:Nat):Int),((z3:Nat):Int),0,((z5:Nat):Int),z6,word⟩) C4.out (by omega) (fun j hj=>by match j,hj with | 0,_=>rfl | 1,_=>rfl | 2,_=>rfl | 3,_=>rfl | 4,_=>rfl | 5,_=>rfl | 6,_=>rfl) (store_int rfl rfl rfl (C4.out.cell (j:=4) (by omega)) (C4.out.frozen (j:=4) (by omega))) ?_; intro w5 C5 U5 S5 V5))
    go_meet
    case rel=>
      have u5:=(U3.out.trans U4.out).trans U5.out
      have k5:=(K1.out.trans R2.out.2).under u5 HF.out (Nat.le_trans HN.out HF.out)
      exact ⟨rfl,R2.out.1.kp (Kp.of_but (base:=n0) u5 T2.out (Nat.le_trans HN.out HF.out)) (by decide) (by decide) (by decide),k5,C5.out,V5.out _ (V4.out _ (V3.out _ T2.out))⟩
  case rest=>
    obtain ⟨rfl,hM,hK,hC,hT⟩:=hcut
    rename World=>w3
    have HM:=Lib.hid hM
    have HK:=Lib.hid hK
    have HC3:=Lib.hid hC
    have HT:=Lib.hid hT
    have Z8:=Lib.hid (show z2 < 8 by rw [<-Z2.out]; exact HCL.out)
    have k4:w3.cell? ⟨M,27 + z2,none⟩=some (.int .i64 (z4:Nat)):=by rw [<-Z4.out]; exact hM.cct Z8.out
    have i1:(0:Int)<=(z2:Int):=by omega
    have i2:(z2:Int) < 8:=by have:=Z8.out; omega
    have NE:=Lib.hid (show M ≠ F from ty_ne hM.ty hT (by decide))
    clear hM hK hC hT DZ DN P1 K1 C1 T1 hci
    have a1:IntKind.i64.wrap ((z3:Int) + 1)=(z3:Int) + 1:=by have:=Z3b.out; rw [IntKind.wrap_i64]; omega
    have a2:((z3:Int) + 1) % 256=(m3:Int):=by have:=M3.out; omega
    have MC3:=Lib.hid (yC_ma y Y m3)
    rw [show (Value.int .i64 (m3:Nat))=Value.int .i64 (((z3:Int) + 1) % 256) by rw [a2]] at MC3
    clear a2
    go_upto_region 15 with (first
      | ((with_reducible refine atList ?_); refine wpList_setT rfl (.store 3 (.tmp 69) (.tmp 68)) rfl F 3 7 (.int .i64 (z4:Nat)) _ (tmCel ⟨((z1:Nat):Int),((z2:Nat):Int),((z3:Nat):Int),((z4:Nat):Int),((z5:Nat):Int),z6,word⟩) HC3.out (by omega) (fun j hj=>by match j,hj with | 0,_=>rfl | 1,_=>rfl | 2,_=>rfl | 3,_=>rfl | 4,_=>rfl | 5,_=>rfl | 6,_=>rfl) (store_int rfl rfl rfl (HC3.out.cell (j:=3) (by omega)) (HC3.out.frozen (j:=3) (by omega))) ?_; intro w4 C4 U4 S4 V4; have H4:=Lib.hid (HM.out.kp (Kp.of_but (base:=n0) U4.out HT.out (Nat.le_trans HN.out HF.out)) (by decide) (by decide) (by decide)); have k3:w4.cell? ⟨M,26,none⟩=some (.int .i64 (z3:Nat)):=by rw [<-Z3.out]; exact H4.out.cma)
      | ((with_reducible refine atList ?_); refine wpList_setT rfl (.store 3 (.tmp 78) (.tmp 76)) rfl M 26 43 (.int .i64 (((z3:Int) + 1) % 256)) _ _ H4.out.c (by omega) MC3.out ?_ ?_; exact store_int rfl rfl rfl (H4.out.c.cell (j:=26) (by omega)) (H4.out.c.frozen (j:=26) (by omega)); intro w5 C5 U5 S5 V5; have H5:=Lib.hid (H4.out.setM (x':={ y with ma:=m3 }) U5.out C5.out (V5.out _ H4.out.ty) rfl rfl)))
    have k45:w5.cell? ⟨M,27 + z2,none⟩=some (.int .i64 (z4:Nat)):=by rw [<-Z4.out]; exact H5.out.1.cct Z8.out
    refine rnRegion15 M z2 z4 m4 H5.out.1.ty.lt i1 i2 k45 (by have:=Z4b.out; rw [IntKind.wrap_i64]; omega) (by have:=M4.out; have:=Z4b.out; rw [Int.tmod_eq_emod_of_nonneg (by omega)]; omega) (by kernel_rfl) rfl rfl rfl rfl rfl rfl rfl rfl rfl rfl rfl rfl rfl rfl rfl rfl ?_
    intro w6 b6
    have H6:=Lib.hid (H5.out.1.below b6)
    have C6:=Lib.hid ((C4.out.but U5.out NE.out.symm).below b6)
    have B6:=Lib.hid b6
    clear b6 k45 k3 k4 a1
    simp only [Act.put,List.setIfInBounds_toArray,List.set_cons_succ,List.set_cons_zero,List.drop_succ_cons,List.drop_zero]
    go_wp2_with (first
      | ((with_reducible refine atList ?_); refine wpList_setT rfl (.store 3 (.tmp 91) (.tmp 88)) rfl M (27 + z2) 43 (.int .i64 (m4:Nat)) _ _ H6.out.c (by have:=Z8.out; omega) (yC_ct _ Y z2 m4 Z8.out) (store_int rfl rfl rfl (H6.out.c.cell (j:=27 + z2) (by have:=Z8.out; omega)) (H6.out.c.frozen (j:=27 + z2) (by have:=Z8.out; omega))) ?_; intro w7 C7 U7 S7 V7; have H7:=Lib.hid (H6.out.setM (x':={ y with ma:=m3,ct:=Ch.upd y.ct z2 m4 }) U7.out C7.out (V7.out _ H6.out.ty) rfl rfl); have CF7:=Lib.hid (C6.out.but U7.out NE.out.symm))
      | ((with_reducible refine atList ?_); refine wpList_getAll rfl 100 (.tmp 6) rfl F 7 [.int .i64 (z1:Nat),.int .i64 (z2:Nat),.int .i64 (z3:Nat),.int .i64 (z4:Nat),.int .i64 (z5:Nat),.string z6,.int .u32 (word:Nat)] (tmCel ⟨((z1:Nat):Int),((z2:Nat):Int),((z3:Nat):Int),((z4:Nat):Int),((z5:Nat):Int),z6,word⟩) _ CF7.out rfl (tm_list ⟨((z1:Nat):Int),((z2:Nat):Int),((z3:Nat):Int),((z4:Nat):Int),((z5:Nat):Int),z6,word⟩) rfl Tryz.underlying100 rfl tm_info ?_))
    (refine (PT.out w7).mono ?_)
    rintro e w8 ⟨rfl,b8⟩
    have H8:=Lib.hid (H7.out.1.below b8)
    have K8:=Lib.hid (((((HK.out.under U4.out HF.out (Nat.le_trans HN.out HF.out)).trans H5.out.2).trans (Kp.of_below B6.out (Nat.le_trans H5.out.1.xl (Nat.le_of_lt H5.out.1.ty.lt)))).trans H7.out.2).trans (Kp.of_below b8 (Nat.le_trans H7.out.1.xl (Nat.le_of_lt H7.out.1.ty.lt))))
    clear b8
    go_wp2_with fail
    go_ret2
    exact ⟨rfl,by rw [NXT.out]; exact H8.out,K8.out⟩

end Go.Proofs.YtchfkncbemjepaaGreat
