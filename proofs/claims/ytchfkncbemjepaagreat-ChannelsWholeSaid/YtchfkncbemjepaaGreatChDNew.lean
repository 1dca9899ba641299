/- ChDNew -/
import Derived.Test.YtchfkncbemjepaaGreatChTake
set_option linter.unusedVariables false
set_option maxRecDepth 100000
set_option maxHeartbeats 4000000
/- Layer 11, the landed demux: Feed: its drawn regions. -/
namespace Go.Proofs.YtchfkncbemjepaaGreat
open Go.RowKit

theorem arC_cells (v:Value) (a:Ch.Av):∀ j,j < 7->(#[.int .i64 (a.ch:Nat),.bool a.db,.int .i64 (a.lo:Nat),.int .i64 (a.mi:Nat),v,.int .i64 (a.br:Nat),.int .u32 (a.wo:Nat)]:Array Value)[j]?=some (aC v a j):=fun j hj=>by
  match j,hj with
  | 0,_=>rfl
  | 1,_=>rfl
  | 2,_=>rfl
  | 3,_=>rfl
  | 4,_=>rfl
  | 5,_=>rfl
  | 6,_=>rfl
theorem arC_list (v:Value) (a:Ch.Av):∀ j,j < 7->([.int .i64 (a.ch:Nat),.bool a.db,.int .i64 (a.lo:Nat),.int .i64 (a.mi:Nat),v,.int .i64 (a.br:Nat),.int .u32 (a.wo:Nat)]:List Value)[j]?=some (aC v a j):=fun j hj=>by
  match j,hj with
  | 0,_=>rfl
  | 1,_=>rfl
  | 2,_=>rfl
  | 3,_=>rfl
  | 4,_=>rfl
  | 5,_=>rfl
  | 6,_=>rfl
theorem info_ar:(Tryz.prog.info? 51).map (·.size)=some 7:=by kernel_rfl
theorem alloc_ar {ev:Operand->Value} {o:Oper} {w:World} (h:o.op=.alloc 51):(execOp ev o).run Tryz.prog w=.ok (.value (.pointer (some ⟨w.heap.size,0,none⟩))) (w.alloc (.cells #[.int .i64 0,.bool false,.int .i64 0,.int .i64 0,.slice none 0 0,.int .i64 0,.int .u32 0] 51)):=by
  simp only [execOp,h]; go_simp
theorem build_ar {ev:Operand->Value} {w:World} {o:Oper} {x0 x1 x6:Operand} {v0 v6:Int} {b:Bool} (h:o.op=.build 51 #[(0,x0),(6,x6),(1,x1)])
    (h0:ev x0=.int .i64 v0) (h6:ev x6=.int .u32 v6) (h1:ev x1=.bool b):
    (execOp ev o).run Tryz.prog w=.ok (.value (.agg #[.int .i64 v0,.bool b,.int .i64 0,.int .i64 0,.slice none 0 0,.int .i64 0,.int .u32 v6])) w:=by
  simp only [execOp,h,List.map_toArray,List.map_cons,List.map_nil,h0,h1,h6]; go_simp
def NewA (b:Nat) (v:Value) (w:World):Prop:=∃ X,v=.pointer (some ⟨X,0,none⟩)/\b<=X/\Cel w X 7 (aC (.slice none 0 0) Ch.av0)/\TyB w X 51
theorem NewA.mono {b:Nat} {v:Value} {w w':World} (h:NewA b v w) (hb:Below w.heap.size w w'):NewA b v w':=by
  obtain ⟨X,e,h1,h2,h3⟩:=h
  exact ⟨X,e,h1,h2.below hb,h3.below hb⟩
theorem newA_alloc (w:World) (b:Nat) (hb:b<=w.heap.size):NewA b (.pointer (some ⟨w.heap.size,0,none⟩)) (w.alloc (.cells #[.int .i64 0,.bool false,.int .i64 0,.int .i64 0,.slice none 0 0,.int .i64 0,.int .u32 0] 51)):=
  ⟨_,rfl,hb,Cel.new w _ _ (arC_cells (.slice none 0 0) Ch.av0),_,_,heap_alloc_last w _⟩
structure FdRegion (G H q NB ch wo:Nat) (fr z:ByteArray) (db:Bool) (A:Act) (w0:World) (s:Nat->Bool) (a:Act) (w:World):Prop where
  off:Off [47,48,49,50,51,52,53,54,55,56,57,9] a A
  before:Below w0.heap.size w0 w
  t0:s 0=true->a.eval (.tmp 47)=.pointer (some ⟨G,1,none⟩)
  t1:s 1=true->a.eval (.tmp 48)=.int .i64 (ch:Nat)
  t2:s 2=true->a.eval (.tmp 49)=.pointer (some ⟨G,6,none⟩)
  t3:s 3=true->a.eval (.tmp 50)=.int .u32 (wo:Nat)
  t4:s 4=true->a.eval (.tmp 51)=.pointer (some ⟨H,q,none⟩)
  t5:s 5=true->a.eval (.tmp 52)=.pointer (some ⟨H,q,none⟩)
  t6:s 6=true->a.eval (.tmp 53)=.pointer (some ⟨H,q,none⟩)
  t7:s 7=true->a.eval (.tmp 54)=.string fr
  t8:s 8=true->a.eval (.tmp 55)=.string z
  t9:s 9=true->a.eval (.tmp 56)=.bool db
  t10:s 10=true->a.eval (.tmp 57)=.agg #[.int .i64 (ch:Nat),.bool db,.int .i64 0,.int .i64 0,.slice none 0 0,.int .i64 0,.int .u32 (wo:Nat)]
  t11:s 11=true->∃ v11,a.eval (.tmp 9)=v11/\NewA NB v11 w
theorem fdRegion {id:Nat} {l:List Oper} {A:Act} {w:World} {Q:Exit->Act->World->Prop} (G H q NB ch wo:Nat) (fr z:ByteArray) (db:Bool)
    (lG:G < w.heap.size) (lH:H < w.heap.size) (k1:w.cell? ⟨G,1,none⟩=some (.int .i64 (ch:Nat))) (k6:w.cell? ⟨G,6,none⟩=some (.int .u32 (wo:Nat))) (kq:w.cell? ⟨H,q,none⟩=some (.string fr)) (hq1:(fr == z)=db) (hq3:(fr.toList == z.toList)=db) (hNB:NB<=w.heap.size)
    (hB:tableH l.toArray 12 (fun i=>match i with | 0=>[] | 1=>[0] | 2=>[] | 3=>[2] | 4=>[] | 5=>[4] | 6=>[5] | 7=>[6] | 8=>[] | 9=>[7,8] | 10=>[1,3,9] | 11=>[] | _=>[]) (fun _=>[])=true)
    (h0:pick l 0=some (.fieldAddr 100 (.tmp 6) 1,some 47))
    (h1:pick l 1=some (.load 3 (.tmp 47),some 48))
    (h2:pick l 2=some (.fieldAddr 100 (.tmp 6) 6,some 49))
    (h3:pick l 3=some (.load 34 (.tmp 49),some 50))
    (h4:pick l 4=some (.move (.tmp 8),some 51))
    (h5:pick l 5=some (.nilCheck (.tmp 51),some 52))
    (h6:pick l 6=some (.fieldAddr 65 (.tmp 52) 0,some 53))
    (h7:pick l 7=some (.load 9 (.tmp 53),some 54))
    (h8:pick l 8=some (.move (.tmp 1),some 55))
    (h9:pick l 9=some (.binOp .eql 9 (.tmp 54) (.tmp 55) 9,some 56))
    (h10:pick l 10=some (.build 51 #[(0,.tmp 48),(6,.tmp 50),(1,.tmp 56)],some 57))
    (h11:pick l 11=some (.alloc 51,some 9))
    (hs:A.tmps.size=84)
    (x6:A.eval (.tmp 6)=.pointer (some ⟨G,0,none⟩))
    (x8:A.eval (.tmp 8)=.pointer (some ⟨H,q,none⟩))
    (x1:A.eval (.tmp 1)=.string z)
    (h:∀ v11 w1,Below w.heap.size w w1->NewA NB v11 w1->wpList Tryz.prog l.toArray Q (l.drop 12) ((((((((((((A.put (some 47) (.pointer (some ⟨G,1,none⟩))).put (some 48) (.int .i64 (ch:Nat))).put (some 49) (.pointer (some ⟨G,6,none⟩))).put (some 50) (.int .u32 (wo:Nat))).put (some 51) (.pointer (some ⟨H,q,none⟩))).put (some 52) (.pointer (some ⟨H,q,none⟩))).put (some 53) (.pointer (some ⟨H,q,none⟩))).put (some 54) (.string fr)).put (some 55) (.string z)).put (some 56) (.bool db)).put (some 57) (.agg #[.int .i64 (ch:Nat),.bool db,.int .i64 0,.int .i64 0,.slice none 0 0,.int .i64 0,.int .u32 (wo:Nat)])).put (some 9) (v11)) w1):
    (Code.region id l.toArray true).wp Tryz.prog Q A w:=by
  refine wp_region_head (by kernel_rfl) _ _ _ hB (FdRegion G H q NB ch wo fr z db A w) ⟨Off.refl _ _,(Below.refl _ _).drew,by simp,by simp,by simp,by simp,by simp,by simp,by simp,by simp,by simp,by simp,by simp,by simp⟩ ?_ ?_
  · intro s a w' S i' o il ho hsi hT K hK
    have sz:a.tmps.size=84:=by rw [S.off.2.1]; exact hs
    have y6:a.eval (.tmp 6)=.pointer (some ⟨G,0,none⟩):=by rw [S.off.eval (by decide)]; exact x6
    have y8:a.eval (.tmp 8)=.pointer (some ⟨H,q,none⟩):=by rw [S.off.eval (by decide)]; exact x8
    have y1:a.eval (.tmp 1)=.string z:=by rw [S.off.eval (by decide)]; exact x1
    match i',il,ho,hsi,hT with
    | 0,_,ho,hsi,hT=>
      obtain ⟨e1,e2⟩:=pick_of h0 ho
      refine step_val (v:=.pointer (some ⟨G,1,none⟩)) (by simp only [execOp,e1,y6]; go_simp) (hK _ _ ?_)
      rw [e2]
      exact ⟨ofp S.off,S.before,ev_ (by omega),kp S.t1,kp S.t2,kp S.t3,kp S.t4,kp S.t5,kp S.t6,kp S.t7,kp S.t8,kp S.t9,kp S.t10,fun g=>(S.t11 (by simpa using g)).imp fun b hb=>⟨by rw [eval_put_ne _ _ _ _ (by decide)]; exact hb.1,hb.2⟩⟩
    | 1,_,ho,hsi,hT=>
      obtain ⟨e1,e2⟩:=pick_of h1 ho
      have D0:s 0=true:=list_pos hT (d:=0) (by decide)
      have BW:=S.before
      have d1:=(BW.cell (p:=⟨G,1,none⟩) lG).trans k1
      refine step_val (v:=.int .i64 (ch:Nat)) (by simp only [execOp,e1,S.t0 D0]; go_simp) (hK _ _ ?_)
      rw [e2]
      exact ⟨ofp S.off,S.before,kp S.t0,ev_ (by omega),kp S.t2,kp S.t3,kp S.t4,kp S.t5,kp S.t6,kp S.t7,kp S.t8,kp S.t9,kp S.t10,fun g=>(S.t11 (by simpa using g)).imp fun b hb=>⟨by rw [eval_put_ne _ _ _ _ (by decide)]; exact hb.1,hb.2⟩⟩
    | 2,_,ho,hsi,hT=>
      obtain ⟨e1,e2⟩:=pick_of h2 ho
      refine step_val (v:=.pointer (some ⟨G,6,none⟩)) (by simp only [execOp,e1,y6]; go_simp) (hK _ _ ?_)
      rw [e2]
      exact ⟨ofp S.off,S.before,kp S.t0,kp S.t1,ev_ (by omega),kp S.t3,kp S.t4,kp S.t5,kp S.t6,kp S.t7,kp S.t8,kp S.t9,kp S.t10,fun g=>(S.t11 (by simpa using g)).imp fun b hb=>⟨by rw [eval_put_ne _ _ _ _ (by decide)]; exact hb.1,hb.2⟩⟩
    | 3,_,ho,hsi,hT=>
      obtain ⟨e1,e2⟩:=pick_of h3 ho
      have D2:s 2=true:=list_pos hT (d:=2) (by decide)
      have BW:=S.before
      have d2:=(BW.cell (p:=⟨G,6,none⟩) lG).trans k6
      refine step_val (v:=.int .u32 (wo:Nat)) (by simp only [execOp,e1,S.t2 D2]; go_simp) (hK _ _ ?_)
      rw [e2]
      exact ⟨ofp S.off,S.before,kp S.t0,kp S.t1,kp S.t2,ev_ (by omega),kp S.t4,kp S.t5,kp S.t6,kp S.t7,kp S.t8,kp S.t9,kp S.t10,fun g=>(S.t11 (by simpa using g)).imp fun b hb=>⟨by rw [eval_put_ne _ _ _ _ (by decide)]; exact hb.1,hb.2⟩⟩
    | 4,_,ho,hsi,hT=>
      obtain ⟨e1,e2⟩:=pick_of h4 ho
      refine step_val (v:=.pointer (some ⟨H,q,none⟩)) (by simp only [execOp,e1,y8]; go_simp) (hK _ _ ?_)
      rw [e2]
      exact ⟨ofp S.off,S.before,kp S.t0,kp S.t1,kp S.t2,kp S.t3,ev_ (by omega),kp S.t5,kp S.t6,kp S.t7,kp S.t8,kp S.t9,kp S.t10,fun g=>(S.t11 (by simpa using g)).imp fun b hb=>⟨by rw [eval_put_ne _ _ _ _ (by decide)]; exact hb.1,hb.2⟩⟩
    | 5,_,ho,hsi,hT=>
      obtain ⟨e1,e2⟩:=pick_of h5 ho
      have D4:s 4=true:=list_pos hT (d:=4) (by decide)
      refine step_val (v:=.pointer (some ⟨H,q,none⟩)) (by simp only [execOp,e1,S.t4 D4]; go_simp) (hK _ _ ?_)
      rw [e2]
      exact ⟨ofp S.off,S.before,kp S.t0,kp S.t1,kp S.t2,kp S.t3,kp S.t4,ev_ (by omega),kp S.t6,kp S.t7,kp S.t8,kp S.t9,kp S.t10,fun g=>(S.t11 (by simpa using g)).imp fun b hb=>⟨by rw [eval_put_ne _ _ _ _ (by decide)]; exact hb.1,hb.2⟩⟩
    | 6,_,ho,hsi,hT=>
      obtain ⟨e1,e2⟩:=pick_of h6 ho
      have D5:s 5=true:=list_pos hT (d:=5) (by decide)
      refine step_val (v:=.pointer (some ⟨H,q,none⟩)) (by simp only [execOp,e1,S.t5 D5]; go_simp) (hK _ _ ?_)
      rw [e2]
      exact ⟨ofp S.off,S.before,kp S.t0,kp S.t1,kp S.t2,kp S.t3,kp S.t4,kp S.t5,ev_ (by omega),kp S.t7,kp S.t8,kp S.t9,kp S.t10,fun g=>(S.t11 (by simpa using g)).imp fun b hb=>⟨by rw [eval_put_ne _ _ _ _ (by decide)]; exact hb.1,hb.2⟩⟩
    | 7,_,ho,hsi,hT=>
      obtain ⟨e1,e2⟩:=pick_of h7 ho
      have D6:s 6=true:=list_pos hT (d:=6) (by decide)
      have BW:=S.before
      have d3:=(BW.cell (p:=⟨H,q,none⟩) lH).trans kq
      refine step_val (v:=.string fr) (by simp only [execOp,e1,S.t6 D6]; go_simp) (hK _ _ ?_)
      rw [e2]
      exact ⟨ofp S.off,S.before,kp S.t0,kp S.t1,kp S.t2,kp S.t3,kp S.t4,kp S.t5,kp S.t6,ev_ (by omega),kp S.t8,kp S.t9,kp S.t10,fun g=>(S.t11 (by simpa using g)).imp fun b hb=>⟨by rw [eval_put_ne _ _ _ _ (by decide)]; exact hb.1,hb.2⟩⟩
    | 8,_,ho,hsi,hT=>
      obtain ⟨e1,e2⟩:=pick_of h8 ho
      refine step_val (v:=.string z) (by simp only [execOp,e1,y1]; go_simp) (hK _ _ ?_)
      rw [e2]
      exact ⟨ofp S.off,S.before,kp S.t0,kp S.t1,kp S.t2,kp S.t3,kp S.t4,kp S.t5,kp S.t6,kp S.t7,ev_ (by omega),kp S.t9,kp S.t10,fun g=>(S.t11 (by simpa using g)).imp fun b hb=>⟨by rw [eval_put_ne _ _ _ _ (by decide)]; exact hb.1,hb.2⟩⟩
    | 9,_,ho,hsi,hT=>
      obtain ⟨e1,e2⟩:=pick_of h9 ho
      have D7:s 7=true:=list_pos hT (d:=7) (by decide)
      have D8:s 8=true:=list_pos hT (d:=8) (by decide)
      have q1:=hq1
      have q3:=hq3
      refine step_val (v:=.bool db) (by simp only [execOp,e1,S.t7 D7,S.t8 D8]; go_simp) (hK _ _ ?_)
      rw [e2]
      exact ⟨ofp S.off,S.before,kp S.t0,kp S.t1,kp S.t2,kp S.t3,kp S.t4,kp S.t5,kp S.t6,kp S.t7,kp S.t8,ev_ (by omega),kp S.t10,fun g=>(S.t11 (by simpa using g)).imp fun b hb=>⟨by rw [eval_put_ne _ _ _ _ (by decide)]; exact hb.1,hb.2⟩⟩
    | 10,_,ho,hsi,hT=>
      obtain ⟨e1,e2⟩:=pick_of h10 ho
      have D1:s 1=true:=list_pos hT (d:=1) (by decide)
      have D3:s 3=true:=list_pos hT (d:=3) (by decide)
      have D9:s 9=true:=list_pos hT (d:=9) (by decide)
      refine step_val (build_ar e1 (S.t1 D1) (S.t3 D3) (S.t9 D9)) (hK _ _ ?_)
      rw [e2]
      exact ⟨ofp S.off,S.before,kp S.t0,kp S.t1,kp S.t2,kp S.t3,kp S.t4,kp S.t5,kp S.t6,kp S.t7,kp S.t8,kp S.t9,ev_ (by omega),fun g=>(S.t11 (by simpa using g)).imp fun b hb=>⟨by rw [eval_put_ne _ _ _ _ (by decide)]; exact hb.1,hb.2⟩⟩
    | 11,_,ho,hsi,hT=>
      obtain ⟨e1,e2⟩:=pick_of h11 ho
      have BW:=S.before
      refine step_to1 (w2:=w'.alloc (.cells #[.int .i64 0,.bool false,.int .i64 0,.int .i64 0,.slice none 0 0,.int .i64 0,.int .u32 0] 51)) (v:=.pointer (some ⟨w'.heap.size,0,none⟩)) (by simp only [execOp,e1]; go_simp) (hK _ _ ?_)
      have BB:=ba (Below.refl w'.heap.size w') (.cells #[.int .i64 0,.bool false,.int .i64 0,.int .i64 0,.slice none 0 0,.int .i64 0,.int .u32 0] 51)
      have FF:=newA_alloc w' NB (Nat.le_trans hNB BW.size)
      rw [e2]
      exact ⟨ofp S.off,bt BW BB,kp S.t0,kp S.t1,kp S.t2,kp S.t3,kp S.t4,kp S.t5,kp S.t6,kp S.t7,kp S.t8,kp S.t9,kp S.t10,fun _=>⟨_,(eval_put _ _ _ (by omega)).trans rfl,FF⟩⟩
    | _ + 12,il,_,_,_=>exact absurd il (by omega)
  intro s a w' S hall
  have a0:=hall 0 (by omega)
  have a1:=hall 1 (by omega)
  have a2:=hall 2 (by omega)
  have a3:=hall 3 (by omega)
  have a4:=hall 4 (by omega)
  have a5:=hall 5 (by omega)
  have a6:=hall 6 (by omega)
  have a7:=hall 7 (by omega)
  have a8:=hall 8 (by omega)
  have a9:=hall 9 (by omega)
  have a10:=hall 10 (by omega)
  have a11:=hall 11 (by omega)
  have e:=off_norm _ (by intro d hd; simp at hd; omega) S.off
  obtain ⟨v11,M11,F11⟩:=S.t11 a11
  simp only [List.foldl,S.t0 a0,S.t1 a1,S.t2 a2,S.t3 a3,S.t4 a4,S.t5 a5,S.t6 a6,S.t7 a7,S.t8 a8,S.t9 a9,S.t10 a10,M11] at e
  rw [e]
  exact h _ _ S.before F11
structure FdRegion11 (G H ma:Nat) (A:Act) (w0:World) (s:Nat->Bool) (a:Act) (w:World):Prop where
  off:Off [61,62,63,64,65] a A
  before:Below w0.heap.size w0 w
  t0:s 0=true->a.eval (.tmp 61)=.pointer (some ⟨H,0,none⟩)
  t1:s 1=true->a.eval (.tmp 62)=.pointer (some ⟨H,0,none⟩)
  t2:s 2=true->a.eval (.tmp 63)=.pointer (some ⟨H,3,none⟩)
  t3:s 3=true->a.eval (.tmp 64)=.pointer (some ⟨G,2,none⟩)
  t4:s 4=true->a.eval (.tmp 65)=.int .i64 (ma:Nat)
theorem fdRegion11 {id:Nat} {l:List Oper} {A:Act} {w:World} {Q:Exit->Act->World->Prop} (G H ma:Nat)
    (lG:G < w.heap.size) (k2:w.cell? ⟨G,2,none⟩=some (.int .i64 (ma:Nat)))
    (hB:tableH l.toArray 5 (fun i=>match i with | 0=>[] | 1=>[0] | 2=>[1] | 3=>[] | 4=>[3] | _=>[]) (fun _=>[])=true)
    (h0:pick l 0=some (.move (.tmp 0),some 61))
    (h1:pick l 1=some (.nilCheck (.tmp 61),some 62))
    (h2:pick l 2=some (.fieldAddr 68 (.tmp 62) 3,some 63))
    (h3:pick l 3=some (.fieldAddr 100 (.tmp 6) 2,some 64))
    (h4:pick l 4=some (.load 3 (.tmp 64),some 65))
    (hs:A.tmps.size=84)
    (x0:A.eval (.tmp 0)=.pointer (some ⟨H,0,none⟩))
    (x6:A.eval (.tmp 6)=.pointer (some ⟨G,0,none⟩))
    (h:∀ w1,Below w.heap.size w w1->wpList Tryz.prog l.toArray Q (l.drop 5) (((((A.put (some 61) (.pointer (some ⟨H,0,none⟩))).put (some 62) (.pointer (some ⟨H,0,none⟩))).put (some 63) (.pointer (some ⟨H,3,none⟩))).put (some 64) (.pointer (some ⟨G,2,none⟩))).put (some 65) (.int .i64 (ma:Nat))) w1):
    (Code.region id l.toArray true).wp Tryz.prog Q A w:=by
  refine wp_region_head (by kernel_rfl) _ _ _ hB (FdRegion11 G H ma A w) ⟨Off.refl _ _,(Below.refl _ _).drew,by simp,by simp,by simp,by simp,by simp⟩ ?_ ?_
  · intro s a w' S i' o il ho hsi hT K hK
    have sz:a.tmps.size=84:=by rw [S.off.2.1]; exact hs
    have y0:a.eval (.tmp 0)=.pointer (some ⟨H,0,none⟩):=by rw [S.off.eval (by decide)]; exact x0
    have y6:a.eval (.tmp 6)=.pointer (some ⟨G,0,none⟩):=by rw [S.off.eval (by decide)]; exact x6
    match i',il,ho,hsi,hT with
    | 0,_,ho,hsi,hT=>
      obtain ⟨e1,e2⟩:=pick_of h0 ho
      refine step_val (v:=.pointer (some ⟨H,0,none⟩)) (by simp only [execOp,e1,y0]; go_simp) (hK _ _ ?_)
      rw [e2]
      exact ⟨ofp S.off,S.before,ev_ (by omega),kp S.t1,kp S.t2,kp S.t3,kp S.t4⟩
    | 1,_,ho,hsi,hT=>
      obtain ⟨e1,e2⟩:=pick_of h1 ho
      have D0:s 0=true:=list_pos hT (d:=0) (by decide)
      refine step_val (v:=.pointer (some ⟨H,0,none⟩)) (by simp only [execOp,e1,S.t0 D0]; go_simp) (hK _ _ ?_)
      rw [e2]
      exact ⟨ofp S.off,S.before,kp S.t0,ev_ (by omega),kp S.t2,kp S.t3,kp S.t4⟩
    | 2,_,ho,hsi,hT=>
      obtain ⟨e1,e2⟩:=pick_of h2 ho
      have D1:s 1=true:=list_pos hT (d:=1) (by decide)
      refine step_val (v:=.pointer (some ⟨H,3,none⟩)) (by simp only [execOp,e1,S.t1 D1]; go_simp) (hK _ _ ?_)
      rw [e2]
      exact ⟨ofp S.off,S.before,kp S.t0,kp S.t1,ev_ (by omega),kp S.t3,kp S.t4⟩
    | 3,_,ho,hsi,hT=>
      obtain ⟨e1,e2⟩:=pick_of h3 ho
      refine step_val (v:=.pointer (some ⟨G,2,none⟩)) (by simp only [execOp,e1,y6]; go_simp) (hK _ _ ?_)
      rw [e2]
      exact ⟨ofp S.off,S.before,kp S.t0,kp S.t1,kp S.t2,ev_ (by omega),kp S.t4⟩
    | 4,_,ho,hsi,hT=>
      obtain ⟨e1,e2⟩:=pick_of h4 ho
      have D3:s 3=true:=list_pos hT (d:=3) (by decide)
      have BW:=S.before
      have d1:=(BW.cell (p:=⟨G,2,none⟩) lG).trans k2
      refine step_val (v:=.int .i64 (ma:Nat)) (by simp only [execOp,e1,S.t3 D3]; go_simp) (hK _ _ ?_)
      rw [e2]
      exact ⟨ofp S.off,S.before,kp S.t0,kp S.t1,kp S.t2,kp S.t3,ev_ (by omega)⟩
    | _ + 5,il,_,_,_=>exact absurd il (by omega)
  intro s a w' S hall
  have a0:=hall 0 (by omega)
  have a1:=hall 1 (by omega)
  have a2:=hall 2 (by omega)
  have a3:=hall 3 (by omega)
  have a4:=hall 4 (by omega)
  have e:=off_norm _ (by intro d hd; simp at hd; omega) S.off
  simp only [List.foldl,S.t0 a0,S.t1 a1,S.t2 a2,S.t3 a3,S.t4 a4] at e
  rw [e]
  exact h _ S.before
structure FdRegion12 (G H q ct:Nat) (A:Act) (w0:World) (s:Nat->Bool) (a:Act) (w:World):Prop where
  off:Off [68,69,70,71,72] a A
  before:Below w0.heap.size w0 w
  t0:s 0=true->a.eval (.tmp 68)=.pointer (some ⟨H,q,none⟩)
  t1:s 1=true->a.eval (.tmp 69)=.pointer (some ⟨H,q,none⟩)
  t2:s 2=true->a.eval (.tmp 70)=.pointer (some ⟨H,q + 1,none⟩)
  t3:s 3=true->a.eval (.tmp 71)=.pointer (some ⟨G,3,none⟩)
  t4:s 4=true->a.eval (.tmp 72)=.int .i64 (ct:Nat)
theorem fdRegion12 {id:Nat} {l:List Oper} {A:Act} {w:World} {Q:Exit->Act->World->Prop} (G H q ct:Nat)
    (lG:G < w.heap.size) (k3:w.cell? ⟨G,3,none⟩=some (.int .i64 (ct:Nat)))
    (hB:tableH l.toArray 5 (fun i=>match i with | 0=>[] | 1=>[0] | 2=>[1] | 3=>[] | 4=>[3] | _=>[]) (fun _=>[])=true)
    (h0:pick l 0=some (.move (.tmp 8),some 68))
    (h1:pick l 1=some (.nilCheck (.tmp 68),some 69))
    (h2:pick l 2=some (.fieldAddr 65 (.tmp 69) 1,some 70))
    (h3:pick l 3=some (.fieldAddr 100 (.tmp 6) 3,some 71))
    (h4:pick l 4=some (.load 3 (.tmp 71),some 72))
    (hs:A.tmps.size=84)
    (x8:A.eval (.tmp 8)=.pointer (some ⟨H,q,none⟩))
    (x6:A.eval (.tmp 6)=.pointer (some ⟨G,0,none⟩))
    (h:∀ w1,Below w.heap.size w w1->wpList Tryz.prog l.toArray Q (l.drop 5) (((((A.put (some 68) (.pointer (some ⟨H,q,none⟩))).put (some 69) (.pointer (some ⟨H,q,none⟩))).put (some 70) (.pointer (some ⟨H,q + 1,none⟩))).put (some 71) (.pointer (some ⟨G,3,none⟩))).put (some 72) (.int .i64 (ct:Nat))) w1):
    (Code.region id l.toArray true).wp Tryz.prog Q A w:=by
  refine wp_region_head (by kernel_rfl) _ _ _ hB (FdRegion12 G H q ct A w) ⟨Off.refl _ _,(Below.refl _ _).drew,by simp,by simp,by simp,by simp,by simp⟩ ?_ ?_
  · intro s a w' S i' o il ho hsi hT K hK
    have sz:a.tmps.size=84:=by rw [S.off.2.1]; exact hs
    have y8:a.eval (.tmp 8)=.pointer (some ⟨H,q,none⟩):=by rw [S.off.eval (by decide)]; exact x8
    have y6:a.eval (.tmp 6)=.pointer (some ⟨G,0,none⟩):=by rw [S.off.eval (by decide)]; exact x6
    match i',il,ho,hsi,hT with
    | 0,_,ho,hsi,hT=>
      obtain ⟨e1,e2⟩:=pick_of h0 ho
      refine step_val (v:=.pointer (some ⟨H,q,none⟩)) (by simp only [execOp,e1,y8]; go_simp) (hK _ _ ?_)
      rw [e2]
      exact ⟨ofp S.off,S.before,ev_ (by omega),kp S.t1,kp S.t2,kp S.t3,kp S.t4⟩
    | 1,_,ho,hsi,hT=>
      obtain ⟨e1,e2⟩:=pick_of h1 ho
      have D0:s 0=true:=list_pos hT (d:=0) (by decide)
      refine step_val (v:=.pointer (some ⟨H,q,none⟩)) (by simp only [execOp,e1,S.t0 D0]; go_simp) (hK _ _ ?_)
      rw [e2]
      exact ⟨ofp S.off,S.before,kp S.t0,ev_ (by omega),kp S.t2,kp S.t3,kp S.t4⟩
    | 2,_,ho,hsi,hT=>
      obtain ⟨e1,e2⟩:=pick_of h2 ho
      have D1:s 1=true:=list_pos hT (d:=1) (by decide)
      refine step_val (v:=.pointer (some ⟨H,q + 1,none⟩)) (by simp only [execOp,e1,S.t1 D1]; go_simp) (hK _ _ ?_)
      rw [e2]
      exact ⟨ofp S.off,S.before,kp S.t0,kp S.t1,ev_ (by omega),kp S.t3,kp S.t4⟩
    | 3,_,ho,hsi,hT=>
      obtain ⟨e1,e2⟩:=pick_of h3 ho
      refine step_val (v:=.pointer (some ⟨G,3,none⟩)) (by simp only [execOp,e1,y6]; go_simp) (hK _ _ ?_)
      rw [e2]
      exact ⟨ofp S.off,S.before,kp S.t0,kp S.t1,kp S.t2,ev_ (by omega),kp S.t4⟩
    | 4,_,ho,hsi,hT=>
      obtain ⟨e1,e2⟩:=pick_of h4 ho
      have D3:s 3=true:=list_pos hT (d:=3) (by decide)
      have BW:=S.before
      have d1:=(BW.cell (p:=⟨G,3,none⟩) lG).trans k3
      refine step_val (v:=.int .i64 (ct:Nat)) (by simp only [execOp,e1,S.t3 D3]; go_simp) (hK _ _ ?_)
      rw [e2]
      exact ⟨ofp S.off,S.before,kp S.t0,kp S.t1,kp S.t2,kp S.t3,ev_ (by omega)⟩
    | _ + 5,il,_,_,_=>exact absurd il (by omega)
  intro s a w' S hall
  have a0:=hall 0 (by omega)
  have a1:=hall 1 (by omega)
  have a2:=hall 2 (by omega)
  have a3:=hall 3 (by omega)
  have a4:=hall 4 (by omega)
  have e:=off_norm _ (by intro d hd; simp at hd; omega) S.off
  simp only [List.foldl,S.t0 a0,S.t1 a1,S.t2 a2,S.t3 a3,S.t4 a4] at e
  rw [e]
  exact h _ S.before
theorem dC_acc (D:Nat) (x:Ch.Dx) (c ma ct:Nat) (b:ByteArray) (pt:List UInt8) (hc:c < 8):∀ j,j < 37 →
    Ch.upd (Ch.upd (Ch.upd (Ch.upd (Ch.upd (Ch.upd (dC D x) 3 (.bool true)) 4 (.int .i64 (ma:Nat))) (5 + c * 4 + 1) (.bool true)) (5 + c * 4 + 1 + 1) (.int .i64 (ct:Nat))) (5 + c * 4) (.string b)) (5 + c * 4 + 3) (.string (bs pt)) j=
      dC D { x with mb:=true,ml:=ma,ch:=Ch.upd x.ch c ⟨b,true,ct,pt⟩ } j:=fun j hj=>by
  by_cases h5:5<=j
  · obtain ⟨i,k,hk,rfl⟩:∃ i k,k < 4/\j=5 + i * 4 + k:=⟨(j - 5) / 4,(j - 5) % 4,by omega,by omega⟩
    rw [dC_in D _ hk]
    have e0:dC D x (5 + i * 4 + k)=iC (x.ch i) k:=dC_in D x hk
    by_cases e:i=c
    · subst e
      show _=iC (Ch.upd x.ch i _ i) k
      rw [Ch.upd_same]
      match k,hk with
      | 0,_=>
        rw [Ch.upd_ne _ _ (by omega),show 5 + i * 4 + 0=5 + i * 4 from rfl,Ch.upd_same]
        rfl
      | 1,_=>
        rw [Ch.upd_ne _ _ (by omega),Ch.upd_ne _ _ (by omega),Ch.upd_ne _ _ (by omega),Ch.upd_same]
        rfl
      | 2,_=>
        rw [Ch.upd_ne _ _ (by omega),Ch.upd_ne _ _ (by omega),show 5 + i * 4 + 2=5 + i * 4 + 1 + 1 from rfl,Ch.upd_same]
        rfl
      | 3,_=>
        rw [Ch.upd_same]
        rfl
    show _=iC (Ch.upd x.ch c _ i) k
    rw [Ch.upd_ne _ _ e,<-e0,Ch.upd_ne _ _ (by omega),Ch.upd_ne _ _ (by omega),Ch.upd_ne _ _ (by omega),Ch.upd_ne _ _ (by omega),Ch.upd_ne _ _ (by omega),Ch.upd_ne _ _ (by omega)]
  rw [Ch.upd_ne _ _ (by omega),Ch.upd_ne _ _ (by omega),Ch.upd_ne _ _ (by omega),Ch.upd_ne _ _ (by omega)]
  match j,h5 with
  | 0,_=>rfl
  | 1,_=>rfl
  | 2,_=>rfl
  | 3,_=>rfl
  | 4,_=>rfl
  | j + 5,h=>exact absurd (by omega) h
end Go.Proofs.YtchfkncbemjepaaGreat

/- Layer 11, the landed demux: Feed, where it refuses. -/
namespace Go.Proofs.YtchfkncbemjepaaGreat
open Go.RowKit

abbrev avVal (v:Value) (a:Ch.Av):Value:=.agg #[.int .i64 (a.ch:Nat),.bool a.db,.int .i64 (a.lo:Nat),.int .i64 (a.mi:Nat),v,.int .i64 (a.br:Nat),.int .u32 (a.wo:Nat)]
def Fd (w:World) (n0 D:Nat) (b:ByteArray) (x:Ch.Dx) (e:Ending) (w':World):Prop:=∃ v,e=.returned (.tuple #[avVal v (x.feed b).1,.int .i64 (x.feed b).2.1])/\w'.ownsRow w.heap.size 9 1 v (x.feed b).1.pk.length (bsVs (x.feed b).1.pk)/\PD w' n0 D (x.feed b).2.2/\KF n0 (·=D) (·=D) w w'
theorem Fd.err {w w':World} {n0 D:Nat} {b:ByteArray} {x:Ch.Dx} {k:Int} (h:PD w n0 D x) (hn0:n0<=w.heap.size) (e:x.feed b=(Ch.av0,k,x)) (hb:Below w.heap.size w w'):Fd w n0 D b x (.returned (.tuple #[avVal (.slice none 0 0) Ch.av0,.int .i64 k])) w':=by
  unfold Fd
  rw [e]
  exact ⟨_,rfl,World.ownsRow_nil _ _ _ _,h.below hb,KF.of_below hb hn0⟩
theorem dFeed_e {w:World} {n0 D:Nat} {x:Ch.Dx} (h:PD w n0 D x) (hn0:n0<=w.heap.size) (b:ByteArray) (hb:b.size<=1000000) (he:(Tm.get b.data.toList).2 ≠ 0):
    Calls Tryz.prog 22 #[.pointer (some ⟨D,0,none⟩),.string b] w (Fd w n0 D b x):=by
  have GT:=Lib.hid (fun w=>tget_any b hb w)
  have RES:=Lib.hid (show x.feed b=(Ch.av0,(Tm.get b.data.toList).2,x) from if_pos he)
  obtain ⟨fr,hfr⟩:∃ z,(Tm.get b.data.toList).1=z:=⟨_,rfl⟩
  obtain ⟨k,hk⟩:∃ z,(Tm.get b.data.toList).2=z:=⟨_,rfl⟩
  rw [hfr,hk] at GT
  rw [hk] at RES he
  have p1:(k != (0:Int))=true:=by rw [bne_iff_ne]; exact he
  clear hfr hk he hb
  go_enter Tryz.func22,Tryz.ntmps22
  go_wp2_with ((with_reducible refine atList ?_); refine wpList_newT rfl (.alloc 51) rfl (some 4) rfl #[.int .i64 0,.bool false,.int .i64 0,.int .i64 0,.slice none 0 0,.int .i64 0,.int .u32 0] 51 (fun X=>.pointer (some ⟨X,0,none⟩)) 7 (aC (.slice none 0 0) Ch.av0) (arC_cells (.slice none 0 0) Ch.av0) (alloc_ar rfl) ?_; intro R w1 HR SR CR BR TR)
  have cD:w.cell? ⟨D,0,none⟩=some (.pointer (some ⟨D,0,none⟩)):=h.c.cell (j:=0) (by omega)
  (with_reducible refine (dmade_any ((BR.out.cell (p:=⟨D,0,none⟩) h.dt.lt).trans cD)).mono ?_)
  rintro e w' ⟨rfl,rfl⟩
  clear cD
  go_wp2_with fail
  (refine (GT.out w1).mono ?_)
  rintro e w2 ⟨rfl,b2⟩
  have B2:=Lib.hid (bt BR.out b2)
  have CR2:=Lib.hid (CR.out.below b2)
  have TR2:=Lib.hid (TR.out.below b2)
  clear b2
  go_wp2_with (first
    | ((with_reducible refine atList ?_); refine wpList_newT rfl (.alloc 100) rfl (some 6) rfl #[.int .i64 0,.int .i64 0,.int .i64 0,.int .i64 0,.int .i64 0,.string ⟨#[]⟩,.int .u32 0] 100 (fun X=>.pointer (some ⟨X,0,none⟩)) 7 (tmCel tm0) (tm_cells tm0) (alloc_tm rfl) ?_; intro F w3 HF SF CF BF TF)
    | ((with_reducible refine atList ?_); refine wpList_setAllT rfl 100 (.tmp 6) (.tmp 17) rfl F 7 [.int .i64 fr.cr,.int .i64 fr.ch,.int .i64 fr.ma,.int .i64 fr.ct,.int .i64 fr.fi,.string fr.da,.int .u32 (fr.wo:Nat)] _ (tmCel fr) CF.out rfl (tm_list fr) rfl rfl tm_info (by simp [Value.oneCell']) ?_; intro w4 C4 U4 S4 V4; have B4:=Lib.hid (But.under (bt B2.out BF.out) U4.out (by have:=HF.out; have:=B2.out.size; omega)); have RF:=Lib.hid (show R ≠ F from fun e=>ty_ne (TR2.out.below BF.out) TF.out (by decide) e); have CR4:=Lib.hid ((CR2.out.below BF.out).but U4.out RF.out); have TR4:=Lib.hid ((TR2.out.below BF.out).but U4.out RF.out); have TF4:=Lib.hid (V4.out _ TF.out))
    | ((with_reducible refine atList ?_); refine wpList_setAllT rfl 51 (.tmp 4) (.tmp 21) rfl R 7 [.int .i64 0,.bool false,.int .i64 0,.int .i64 0,.slice none 0 0,.int .i64 0,.int .u32 0] _ (aC (.slice none 0 0) Ch.av0) CR4.out rfl (arC_list (.slice none 0 0) Ch.av0) rfl rfl info_ar (by simp [Value.oneCell']) ?_; intro w9 C9 U9 S9 V9))
  have RA:=C9.out.rangeAll [.int .i64 0,.bool false,.int .i64 0,.int .i64 0,.slice none 0 0,.int .i64 0,.int .u32 0] rfl (arC_list (.slice none 0 0) Ch.av0)
  have RR:=fun tmps hp=>results_cell_t1 (P:=Tryz.prog) Tryz.results22 tmps w9 R [.int .i64 0,.bool false,.int .i64 0,.int .i64 0,.slice none 0 0,.int .i64 0,.int .u32 0] _ hp RA Tryz.underlying51 rfl info_ar
  refine bodyPost_ret (RR _ rfl) rfl ?_
  exact Fd.err h hn0 RES.out (But.under B4.out U9.out (Nat.le_of_eq HR.out))
theorem dFeed_a {w:World} {n0 D:Nat} {x:Ch.Dx} (h:PD w n0 D x) (hn0:n0<=w.heap.size) (b:ByteArray) (hb:b.size<=1000000) (he:(Tm.get b.data.toList).2=0) (hc:(Tm.get b.data.toList).1.cr ≠ x.craft\/(Tm.get b.data.toList).1.da.size ≠ x.n):
    Calls Tryz.prog 22 #[.pointer (some ⟨D,0,none⟩),.string b] w (Fd w n0 D b x):=by
  have GT:=Lib.hid (fun w=>tget_any b hb w)
  obtain ⟨fr,hfr⟩:∃ z,(Tm.get b.data.toList).1=z:=⟨_,rfl⟩
  rw [hfr,he] at GT
  have FOK:=Lib.hid (show Tm.Ok fr by rw [<-hfr]; exact (Tm.get_ok he).1)
  have RES:=Lib.hid (show x.feed b=(Ch.av0,2,x) by unfold Ch.Dx.feed; rw [if_neg (by rw [he]; simp),if_pos hc])
  rw [hfr] at hc
  have kc:w.cell? ⟨D,1,none⟩=some (.int .i64 (x.craft:Nat)):=h.c.cell (j:=1) (by omega)
  have kn:w.cell? ⟨D,2,none⟩=some (.int .i64 (x.n:Nat)):=h.c.cell (j:=2) (by omega)
  obtain ⟨craft,hcr⟩:∃ z,x.craft=z:=⟨_,rfl⟩
  obtain ⟨n,hn⟩:∃ z,x.n=z:=⟨_,rfl⟩
  obtain ⟨N,hN⟩:∃ z,fr.da.size=z:=⟨_,rfl⟩
  rw [hcr,hn,hN] at hc
  rw [hcr] at kc
  rw [hn] at kn
  have HKC:=Lib.hid kc
  have HKN:=Lib.hid kn
  have HNN:=Lib.hid hN
  clear hfr he hb hcr hn kc kn hN
  by_cases g:fr.cr=(craft:Int)
  · have p1:(fr.cr != (craft:Int))=false:=by rw [g]; simp
    have gN:N ≠ n:=hc.resolve_left (fun e=>e g)
    have p2:((N:Int) != (n:Int))=true:=by rw [bne_iff_ne]; omega
    have p2n:(N != n)=true:=by rw [bne_iff_ne]; exact gN
    clear hc gN g
    go_enter Tryz.func22,Tryz.ntmps22
    go_wp2_with ((with_reducible refine atList ?_); refine wpList_newT rfl (.alloc 51) rfl (some 4) rfl #[.int .i64 0,.bool false,.int .i64 0,.int .i64 0,.slice none 0 0,.int .i64 0,.int .u32 0] 51 (fun X=>.pointer (some ⟨X,0,none⟩)) 7 (aC (.slice none 0 0) Ch.av0) (arC_cells (.slice none 0 0) Ch.av0) (alloc_ar rfl) ?_; intro R w1 HR SR CR BR TR)
    have cD:w.cell? ⟨D,0,none⟩=some (.pointer (some ⟨D,0,none⟩)):=h.c.cell (j:=0) (by omega)
    (with_reducible refine (dmade_any ((BR.out.cell (p:=⟨D,0,none⟩) h.dt.lt).trans cD)).mono ?_)
    rintro e w' ⟨rfl,rfl⟩
    clear cD
    go_wp2_with fail
    (refine (GT.out w1).mono ?_)
    rintro e w2 ⟨rfl,b2⟩
    have B2:=Lib.hid (bt BR.out b2)
    have CR2:=Lib.hid (CR.out.below b2)
    have TR2:=Lib.hid (TR.out.below b2)
    clear b2
    go_wp2_with (first
      | ((with_reducible refine atList ?_); refine wpList_newT rfl (.alloc 100) rfl (some 6) rfl #[.int .i64 0,.int .i64 0,.int .i64 0,.int .i64 0,.int .i64 0,.string ⟨#[]⟩,.int .u32 0] 100 (fun X=>.pointer (some ⟨X,0,none⟩)) 7 (tmCel tm0) (tm_cells tm0) (alloc_tm rfl) ?_; intro F w3 HF SF CF BF TF)
      | ((with_reducible refine atList ?_); refine wpList_setAllT rfl 100 (.tmp 6) (.tmp 17) rfl F 7 [.int .i64 fr.cr,.int .i64 fr.ch,.int .i64 fr.ma,.int .i64 fr.ct,.int .i64 fr.fi,.string fr.da,.int .u32 (fr.wo:Nat)] _ (tmCel fr) CF.out rfl (tm_list fr) rfl rfl tm_info (by simp [Value.oneCell']) ?_; intro w4 C4 U4 S4 V4; have B4:=Lib.hid (But.under (bt B2.out BF.out) U4.out (by have:=HF.out; have:=B2.out.size; omega)); have RF:=Lib.hid (show R ≠ F from fun e=>ty_ne (TR2.out.below BF.out) TF.out (by decide) e); have CR4:=Lib.hid ((CR2.out.below BF.out).but U4.out RF.out); have TR4:=Lib.hid ((TR2.out.below BF.out).but U4.out RF.out); have TF4:=Lib.hid (V4.out _ TF.out); have kf0:w4.cell? ⟨F,0,none⟩=some (.int .i64 fr.cr):=C4.out.cell (j:=0) (by omega); have kf5:w4.cell? ⟨F,5,none⟩=some (.string fr.da):=C4.out.cell (j:=5) (by omega); have kd1:w4.cell? ⟨D,1,none⟩=some (.int .i64 (craft:Nat)):=(B4.out.cell (p:=⟨D,1,none⟩) h.dt.lt).trans HKC.out; have kd2:w4.cell? ⟨D,2,none⟩=some (.int .i64 (n:Nat)):=(B4.out.cell (p:=⟨D,2,none⟩) h.dt.lt).trans HKN.out; have zs:fr.da.size=N:=HNN.out))
    go_quiet (fail)
    have CR5:=Lib.hid (CR4.out.below (below_drewN (Below.refl _ _) nq))
    have B5:=Lib.hid (below_drewN B4.out nq)
    go_wp2_with ((with_reducible refine atList ?_); refine wpList_setAllT rfl 51 (.tmp 4) (.tmp 40) rfl R 7 [.int .i64 0,.bool false,.int .i64 0,.int .i64 0,.slice none 0 0,.int .i64 0,.int .u32 0] _ (aC (.slice none 0 0) Ch.av0) CR5.out rfl (arC_list (.slice none 0 0) Ch.av0) rfl rfl info_ar (by simp [Value.oneCell']) ?_; intro w9 C9 U9 S9 V9)
    have RA:=C9.out.rangeAll [.int .i64 0,.bool false,.int .i64 0,.int .i64 0,.slice none 0 0,.int .i64 0,.int .u32 0] rfl (arC_list (.slice none 0 0) Ch.av0)
    have RR:=fun tmps hp=>results_cell_t1 (P:=Tryz.prog) Tryz.results22 tmps w9 R [.int .i64 0,.bool false,.int .i64 0,.int .i64 0,.slice none 0 0,.int .i64 0,.int .u32 0] _ hp RA Tryz.underlying51 rfl info_ar
    refine bodyPost_ret (RR _ rfl) rfl ?_
    exact Fd.err h hn0 RES.out (But.under B5.out U9.out (Nat.le_of_eq HR.out))
  have p1:(fr.cr != (craft:Int))=true:=by rw [bne_iff_ne]; exact g
  clear hc g
  go_enter Tryz.func22,Tryz.ntmps22
  go_wp2_with ((with_reducible refine atList ?_); refine wpList_newT rfl (.alloc 51) rfl (some 4) rfl #[.int .i64 0,.bool false,.int .i64 0,.int .i64 0,.slice none 0 0,.int .i64 0,.int .u32 0] 51 (fun X=>.pointer (some ⟨X,0,none⟩)) 7 (aC (.slice none 0 0) Ch.av0) (arC_cells (.slice none 0 0) Ch.av0) (alloc_ar rfl) ?_; intro R w1 HR SR CR BR TR)
  have cD:w.cell? ⟨D,0,none⟩=some (.pointer (some ⟨D,0,none⟩)):=h.c.cell (j:=0) (by omega)
  (with_reducible refine (dmade_any ((BR.out.cell (p:=⟨D,0,none⟩) h.dt.lt).trans cD)).mono ?_)
  rintro e w' ⟨rfl,rfl⟩
  clear cD
  go_wp2_with fail
  (refine (GT.out w1).mono ?_)
  rintro e w2 ⟨rfl,b2⟩
  have B2:=Lib.hid (bt BR.out b2)
  have CR2:=Lib.hid (CR.out.below b2)
  have TR2:=Lib.hid (TR.out.below b2)
  clear b2
  go_wp2_with (first
    | ((with_reducible refine atList ?_); refine wpList_newT rfl (.alloc 100) rfl (some 6) rfl #[.int .i64 0,.int .i64 0,.int .i64 0,.int .i64 0,.int .i64 0,.string ⟨#[]⟩,.int .u32 0] 100 (fun X=>.pointer (some ⟨X,0,none⟩)) 7 (tmCel tm0) (tm_cells tm0) (alloc_tm rfl) ?_; intro F w3 HF SF CF BF TF)
    | ((with_reducible refine atList ?_); refine wpList_setAllT rfl 100 (.tmp 6) (.tmp 17) rfl F 7 [.int .i64 fr.cr,.int .i64 fr.ch,.int .i64 fr.ma,.int .i64 fr.ct,.int .i64 fr.fi,.string fr.da,.int .u32 (fr.wo:Nat)] _ (tmCel fr) CF.out rfl (tm_list fr) rfl rfl tm_info (by simp [Value.oneCell']) ?_; intro w4 C4 U4 S4 V4; have B4:=Lib.hid (But.under (bt B2.out BF.out) U4.out (by have:=HF.out; have:=B2.out.size; omega)); have RF:=Lib.hid (show R ≠ F from fun e=>ty_ne (TR2.out.below BF.out) TF.out (by decide) e); have CR4:=Lib.hid ((CR2.out.below BF.out).but U4.out RF.out); have TR4:=Lib.hid ((TR2.out.below BF.out).but U4.out RF.out); have TF4:=Lib.hid (V4.out _ TF.out); have kf0:w4.cell? ⟨F,0,none⟩=some (.int .i64 fr.cr):=C4.out.cell (j:=0) (by omega); have kf5:w4.cell? ⟨F,5,none⟩=some (.string fr.da):=C4.out.cell (j:=5) (by omega); have kd1:w4.cell? ⟨D,1,none⟩=some (.int .i64 (craft:Nat)):=(B4.out.cell (p:=⟨D,1,none⟩) h.dt.lt).trans HKC.out; have kd2:w4.cell? ⟨D,2,none⟩=some (.int .i64 (n:Nat)):=(B4.out.cell (p:=⟨D,2,none⟩) h.dt.lt).trans HKN.out; have zs:fr.da.size=N:=HNN.out))
  go_quiet (fail)
  have CR5:=Lib.hid (CR4.out.below (below_drewN (Below.refl _ _) nq))
  have B5:=Lib.hid (below_drewN B4.out nq)
  go_wp2_with ((with_reducible refine atList ?_); refine wpList_setAllT rfl 51 (.tmp 4) (.tmp 40) rfl R 7 [.int .i64 0,.bool false,.int .i64 0,.int .i64 0,.slice none 0 0,.int .i64 0,.int .u32 0] _ (aC (.slice none 0 0) Ch.av0) CR5.out rfl (arC_list (.slice none 0 0) Ch.av0) rfl rfl info_ar (by simp [Value.oneCell']) ?_; intro w9 C9 U9 S9 V9)
  have RA:=C9.out.rangeAll [.int .i64 0,.bool false,.int .i64 0,.int .i64 0,.slice none 0 0,.int .i64 0,.int .u32 0] rfl (arC_list (.slice none 0 0) Ch.av0)
  have RR:=fun tmps hp=>results_cell_t1 (P:=Tryz.prog) Tryz.results22 tmps w9 R [.int .i64 0,.bool false,.int .i64 0,.int .i64 0,.slice none 0 0,.int .i64 0,.int .u32 0] _ hp RA Tryz.underlying51 rfl info_ar
  refine bodyPost_ret (RR _ rfl) rfl ?_
  exact Fd.err h hn0 RES.out (But.under B5.out U9.out (Nat.le_of_eq HR.out))
end Go.Proofs.YtchfkncbemjepaaGreat

/- Layer 11, the landed demux: Feed, where it accepts. -/
namespace Go.Proofs.YtchfkncbemjepaaGreat
open Go.RowKit

theorem beqC (s:ByteArray):(s == s)=true:=by
  show (s.data == s.data)=true
  simp
structure Tr (R F:Nat) (fr:Tmf) (w:World):Prop where
  r:Cel w R 7 (aC (.slice none 0 0) Ch.av0)
  rt:TyB w R 51
  f:Cel w F 7 (tmCel fr)
  ft:TyB w F 100
namespace Tr
variable {R F:Nat} {fr:Tmf} {w w':World}
theorem keep (h:Tr R F fr w) (h1:w'.heap[R]?=w.heap[R]?) (h2:w'.heap[F]?=w.heap[F]?):Tr R F fr w':=⟨h.r.of_block h1,h.rt.of_block h1,h.f.of_block h2,h.ft.of_block h2⟩
theorem below (h:Tr R F fr w) (b:Below w.heap.size w w'):Tr R F fr w':=h.keep (b.block R h.rt.lt) (b.block F h.ft.lt)
theorem but {X:Nat} (h:Tr R F fr w) (b:But X w w') (h1:R ≠ X) (h2:F ≠ X):Tr R F fr w':=h.keep (b.rest R h.rt.lt h1) (b.rest F h.ft.lt h2)
theorem ey {D A:Nat} (h:Tr R F fr w) (y:Ey D A w w') (r1:R ≠ D) (r2:R ≠ A) (f1:F ≠ D) (f2:F ≠ A):Tr R F fr w':=h.keep (y.rest R _ h.rt (by decide) r1 r2) (y.rest F _ h.ft (by decide) f1 f2)
end Tr
theorem frm_nums {fr:Tmf} (h:Tm.Ok fr):∃ c ma ct:Nat,fr.ch=c/\fr.ma=ma/\fr.ct=ct/\c < 8/\ma<=255/\ct<=255:=by
  have h1:=h.1.2.2.2.1
  have h2:=h.1.2.1
  have h3:=h.1.2.2.1
  exact ⟨fr.ch.toNat,fr.ma.toNat,fr.ct.toNat,by omega,by omega,by omega,by omega,by omega,by omega⟩
theorem dFeed_ok {w:World} {n0 D:Nat} {x:Ch.Dx} (h:PD w n0 D x) (o:x.Ok) (hn0:n0<=w.heap.size) (b:ByteArray) (hb:b.size<=1000000) (he:(Tm.get b.data.toList).2=0) (hc:¬ ((Tm.get b.data.toList).1.cr ≠ x.craft\/(Tm.get b.data.toList).1.da.size ≠ x.n)):
    Calls Tryz.prog 22 #[.pointer (some ⟨D,0,none⟩),.string b] w (Fd w n0 D b x):=by
  have GT:=Lib.hid (fun w=>tget_any b hb w)
  have CLN:=Lib.hid (fun w=>clone_any b hb w)
  obtain ⟨fr,hfr⟩:∃ z,(Tm.get b.data.toList).1=z:=⟨_,rfl⟩
  have FE:=Lib.hid (show x.feed b=if (x.ch fr.ch.toNat).fr=b then (⟨fr.ch.toNat,true,0,0,0,fr.wo,[]⟩,0,x) else ((x.acc b fr).1,0,(x.acc b fr).2) by
    unfold Ch.Dx.feed; rw [if_neg (by rw [he]; simp),if_neg hc,hfr])
  rw [hfr,he] at GT
  rw [hfr] at hc
  have hok:Tm.Ok fr:=by rw [<-hfr]; exact (Tm.get_ok he).1
  have FOK:=Lib.hid hok
  obtain ⟨c,ma,ct,hch,hma,hct,c8,ma8,ct8⟩:=frm_nums hok
  have kc:w.cell? ⟨D,1,none⟩=some (.int .i64 (x.craft:Nat)):=h.c.cell (j:=1) (by omega)
  have kn:w.cell? ⟨D,2,none⟩=some (.int .i64 (x.n:Nat)):=h.c.cell (j:=2) (by omega)
  have kq:w.cell? ⟨D,5 + c * 4,none⟩=some (.string (x.ch c).fr):=h.at c8 (k:=0) (by omega)
  have p1:(fr.cr != (x.craft:Int))=false:=by
    have:fr.cr=(x.craft:Int):=Classical.byContradiction (fun e=>hc (.inl e))
    rw [this]; simp
  have hN:fr.da.size=x.n:=Classical.byContradiction (fun e=>hc (.inr e))
  obtain ⟨craft,hcr⟩:∃ z,x.craft=z:=⟨_,rfl⟩
  obtain ⟨n,hn⟩:∃ z,x.n=z:=⟨_,rfl⟩
  rw [hcr] at kc p1
  rw [hn] at kn hN
  have p2:((n:Int) != (n:Int))=false:=by simp
  have p2n:(n != n)=false:=by simp
  have HKC:=Lib.hid kc
  have HKN:=Lib.hid kn
  have HKQ:=Lib.hid kq
  have HNN:=Lib.hid hN
  have HCH:=Lib.hid hch
  have HMA:=Lib.hid hma
  have HCT:=Lib.hid hct
  have C8:=Lib.hid c8
  have N8:=Lib.hid (And.intro ma8 ct8)
  have i0:(0:Int)<=(c:Int):=by omega
  have i1:(c:Int) < 8:=by omega
  rw [show fr.ch.toNat=c by rw [hch]; rfl] at FE
  obtain ⟨q,hq⟩:∃ q,5 + c * 4=q:=⟨_,rfl⟩
  have HQ:=Lib.hid hq
  clear hfr he hb hcr hn kc kn kq hN hch hma hct c8 ma8 ct8 hok hc
  by_cases g:(x.ch c).fr=b
  · have q1:((x.ch c).fr == b)=true:=by rw [g]; exact beqC _
    have q3:((x.ch c).fr.toList == b.toList)=true:=by rw [g]; simp
    rw [if_pos g] at FE
    clear g
    go_enter Tryz.func22,Tryz.ntmps22
    go_wp2_with ((with_reducible refine atList ?_); refine wpList_newT rfl (.alloc 51) rfl (some 4) rfl #[.int .i64 0,.bool false,.int .i64 0,.int .i64 0,.slice none 0 0,.int .i64 0,.int .u32 0] 51 (fun X=>.pointer (some ⟨X,0,none⟩)) 7 (aC (.slice none 0 0) Ch.av0) (arC_cells (.slice none 0 0) Ch.av0) (alloc_ar rfl) ?_; intro R w1 HR SR CR BR TR)
    have cD:w.cell? ⟨D,0,none⟩=some (.pointer (some ⟨D,0,none⟩)):=h.c.cell (j:=0) (by omega)
    (with_reducible refine (dmade_any ((BR.out.cell (p:=⟨D,0,none⟩) h.dt.lt).trans cD)).mono ?_)
    rintro e w' ⟨rfl,rfl⟩
    clear cD
    go_wp2_with fail
    (refine (GT.out w1).mono ?_)
    rintro e w2 ⟨rfl,b2⟩
    have B2:=Lib.hid (bt BR.out b2)
    have CR2:=Lib.hid (CR.out.below b2)
    have TR2:=Lib.hid (TR.out.below b2)
    clear b2
    go_wp2_with (first
      | ((with_reducible refine atList ?_); refine wpList_newT rfl (.alloc 100) rfl (some 6) rfl #[.int .i64 0,.int .i64 0,.int .i64 0,.int .i64 0,.int .i64 0,.string ⟨#[]⟩,.int .u32 0] 100 (fun X=>.pointer (some ⟨X,0,none⟩)) 7 (tmCel tm0) (tm_cells tm0) (alloc_tm rfl) ?_; intro F w3 HF SF CF BF TF)
      | ((with_reducible refine atList ?_); refine wpList_setAllT rfl 100 (.tmp 6) (.tmp 17) rfl F 7 [.int .i64 fr.cr,.int .i64 fr.ch,.int .i64 fr.ma,.int .i64 fr.ct,.int .i64 fr.fi,.string fr.da,.int .u32 (fr.wo:Nat)] _ (tmCel fr) CF.out rfl (tm_list fr) rfl rfl tm_info (by simp [Value.oneCell']) ?_; intro w4 C4 U4 S4 V4; have B4:=Lib.hid (But.under (bt B2.out BF.out) U4.out (by have:=HF.out; have:=B2.out.size; omega)); have RF:=Lib.hid (show R ≠ F from fun e=>ty_ne (TR2.out.below BF.out) TF.out (by decide) e); have CR4:=Lib.hid ((CR2.out.below BF.out).but U4.out RF.out); have TR4:=Lib.hid ((TR2.out.below BF.out).but U4.out RF.out); have TF4:=Lib.hid (V4.out _ TF.out); have kf0:w4.cell? ⟨F,0,none⟩=some (.int .i64 fr.cr):=C4.out.cell (j:=0) (by omega); have kf5:w4.cell? ⟨F,5,none⟩=some (.string fr.da):=C4.out.cell (j:=5) (by omega); have kf1:w4.cell? ⟨F,1,none⟩=some (.int .i64 (c:Nat)):=(by rw [<-HCH.out]; exact C4.out.cell (j:=1) (by omega)); have kd1:w4.cell? ⟨D,1,none⟩=some (.int .i64 (craft:Nat)):=(B4.out.cell (p:=⟨D,1,none⟩) h.dt.lt).trans HKC.out; have kd2:w4.cell? ⟨D,2,none⟩=some (.int .i64 (n:Nat)):=(B4.out.cell (p:=⟨D,2,none⟩) h.dt.lt).trans HKN.out; have zs:fr.da.size=n:=HNN.out))
    go_quiet (fail)
    go_wp2_with fail
    go_quiet (fail)
    go_wp2_with fail
    have kq4:w4.cell? ⟨D,q,none⟩=some (.string (x.ch c).fr):=by rw [<-HQ.out]; exact (B4.out.cell (p:=⟨D,5 + c * 4,none⟩) h.dt.lt).trans HKQ.out
    have kf6:w4.cell? ⟨F,6,none⟩=some (.int .u32 (fr.wo:Nat)):=C4.out.cell (j:=6) (by omega)
    have T46:=Lib.hid (show Tr R F fr w4 from ⟨CR4.out,TR4.out,C4.out,TF4.out⟩)
    refine fdRegion F D q w4.heap.size c fr.wo (x.ch c).fr b true TF4.out.lt (Nat.lt_of_lt_of_le h.dt.lt B4.out.size) kf1 kf6 kq4 q1 q3 (Nat.le_refl _) (by kernel_rfl) rfl rfl rfl rfl rfl rfl rfl rfl rfl rfl rfl rfl rfl rfl rfl rfl ?_
    intro v7 w6 b6 F7
    obtain ⟨A,hv7,hA,CA',TA'⟩:=F7
    subst hv7
    have b46:=Lib.hid (show Below w4.heap.size w4 w6 from bt (below_drewN (below_drewN (Below.refl _ _) _) _) b6)
    have CA:=Lib.hid CA'
    have TA:=Lib.hid TA'
    have HAS:=Lib.hid hA
    have RA:=Lib.hid (show R ≠ A from fun e=>by have:=TR4.out.lt; omega)
    have FA:=Lib.hid (show F ≠ A from fun e=>by have:=TF4.out.lt; omega)
    have WA:=Lib.hid (show w.heap.size<=A from Nat.le_trans B4.out.size hA)
    have RD:=Lib.hid (show R ≠ D from fun e=>by have:=HR.out; have:=h.dt.lt; omega)
    have FD:=Lib.hid (show F ≠ D from fun e=>by have:=HF.out; have:=B2.out.size; have:=h.dt.lt; omega)
    clear CA' TA' hA b6 kf0 kf1 kf5 kf6 kd1 kd2 zs kq4
    simp only [Act.put,List.setIfInBounds_toArray,List.set_cons_succ,List.set_cons_zero,List.drop_succ_cons,List.drop_zero]
    go_wp2_with (first
          | ((with_reducible refine atList ?_); refine wpList_setAllT rfl 51 (.tmp 9) (.tmp 57) rfl A 7 [.int .i64 (c:Nat),.bool true,.int .i64 0,.int .i64 0,.slice none 0 0,.int .i64 0,.int .u32 (fr.wo:Nat)] _ (aC (.slice none 0 0) ⟨c,true,0,0,0,fr.wo,[]⟩) CA.out rfl (arC_list (.slice none 0 0) ⟨c,true,0,0,0,fr.wo,[]⟩) rfl rfl info_ar (by simp [Value.oneCell']) ?_; intro w7 C7 U7 S7 V7; have cdb:w7.cell? ⟨A,1,none⟩=some (.bool true):=C7.out.cell (j:=1) (by omega); have T7:=Lib.hid ((T46.out.below b46.out).but U7.out RA.out FA.out))
          | ((with_reducible refine atList ?_); refine wpList_getAll rfl 51 (.tmp 9) rfl A 7 [.int .i64 (c:Nat),.bool true,.int .i64 0,.int .i64 0,.slice none 0 0,.int .i64 0,.int .u32 (fr.wo:Nat)] (aC (.slice none 0 0) ⟨c,true,0,0,0,fr.wo,[]⟩) _ C7.out rfl (arC_list (.slice none 0 0) ⟨c,true,0,0,0,fr.wo,[]⟩) rfl Tryz.underlying51 rfl info_ar ?_)
          | ((with_reducible refine atList ?_); refine wpList_setAllT rfl 51 (.tmp 4) (.tmp 83) rfl R 7 [.int .i64 (c:Nat),.bool true,.int .i64 0,.int .i64 0,.slice none 0 0,.int .i64 0,.int .u32 (fr.wo:Nat)] _ (aC (.slice none 0 0) ⟨c,true,0,0,0,fr.wo,[]⟩) T7.out.r rfl (arC_list (.slice none 0 0) ⟨c,true,0,0,0,fr.wo,[]⟩) rfl rfl info_ar (by simp [Value.oneCell']) ?_; intro w9 C9 U9 S9 V9))
    have RA:=C9.out.rangeAll [.int .i64 (c:Nat),.bool true,.int .i64 0,.int .i64 0,.slice none 0 0,.int .i64 0,.int .u32 (fr.wo:Nat)] rfl (arC_list (.slice none 0 0) ⟨c,true,0,0,0,fr.wo,[]⟩)
    have RR:=fun tmps hp=>results_cell_t1 (P:=Tryz.prog) Tryz.results22 tmps w9 R [.int .i64 (c:Nat),.bool true,.int .i64 0,.int .i64 0,.slice none 0 0,.int .i64 0,.int .u32 (fr.wo:Nat)] _ hp RA Tryz.underlying51 rfl info_ar
    refine bodyPost_ret (RR _ rfl) rfl ?_
    have bz:Below w.heap.size w w9:=But.under (But.under (bt B4.out b46.out) U7.out WA.out) U9.out (Nat.le_of_eq HR.out)
    unfold Fd
    rw [FE.out]
    exact ⟨_,rfl,World.ownsRow_nil _ _ _ _,h.below bz,KF.of_below bz hn0⟩
  have q1:((x.ch c).fr == b)=false:=by
    show ((x.ch c).fr.data == b.data)=false
    rw [beq_eq_false_iff_ne]
    exact fun e=>g (ByteArray.ext e)
  have q3:((x.ch c).fr.toList == b.toList)=false:=by rw [<-beq_toListBytes,q1]
  rw [if_neg g] at FE
  clear g
  go_enter Tryz.func22,Tryz.ntmps22
  go_wp2_with ((with_reducible refine atList ?_); refine wpList_newT rfl (.alloc 51) rfl (some 4) rfl #[.int .i64 0,.bool false,.int .i64 0,.int .i64 0,.slice none 0 0,.int .i64 0,.int .u32 0] 51 (fun X=>.pointer (some ⟨X,0,none⟩)) 7 (aC (.slice none 0 0) Ch.av0) (arC_cells (.slice none 0 0) Ch.av0) (alloc_ar rfl) ?_; intro R w1 HR SR CR BR TR)
  have cD:w.cell? ⟨D,0,none⟩=some (.pointer (some ⟨D,0,none⟩)):=h.c.cell (j:=0) (by omega)
  (with_reducible refine (dmade_any ((BR.out.cell (p:=⟨D,0,none⟩) h.dt.lt).trans cD)).mono ?_)
  rintro e w' ⟨rfl,rfl⟩
  clear cD
  go_wp2_with fail
  (refine (GT.out w1).mono ?_)
  rintro e w2 ⟨rfl,b2⟩
  have B2:=Lib.hid (bt BR.out b2)
  have CR2:=Lib.hid (CR.out.below b2)
  have TR2:=Lib.hid (TR.out.below b2)
  clear b2
  go_wp2_with (first
    | ((with_reducible refine atList ?_); refine wpList_newT rfl (.alloc 100) rfl (some 6) rfl #[.int .i64 0,.int .i64 0,.int .i64 0,.int .i64 0,.int .i64 0,.string ⟨#[]⟩,.int .u32 0] 100 (fun X=>.pointer (some ⟨X,0,none⟩)) 7 (tmCel tm0) (tm_cells tm0) (alloc_tm rfl) ?_; intro F w3 HF SF CF BF TF)
    | ((with_reducible refine atList ?_); refine wpList_setAllT rfl 100 (.tmp 6) (.tmp 17) rfl F 7 [.int .i64 fr.cr,.int .i64 fr.ch,.int .i64 fr.ma,.int .i64 fr.ct,.int .i64 fr.fi,.string fr.da,.int .u32 (fr.wo:Nat)] _ (tmCel fr) CF.out rfl (tm_list fr) rfl rfl tm_info (by simp [Value.oneCell']) ?_; intro w4 C4 U4 S4 V4; have B4:=Lib.hid (But.under (bt B2.out BF.out) U4.out (by have:=HF.out; have:=B2.out.size; omega)); have RF:=Lib.hid (show R ≠ F from fun e=>ty_ne (TR2.out.below BF.out) TF.out (by decide) e); have CR4:=Lib.hid ((CR2.out.below BF.out).but U4.out RF.out); have TR4:=Lib.hid ((TR2.out.below BF.out).but U4.out RF.out); have TF4:=Lib.hid (V4.out _ TF.out); have kf0:w4.cell? ⟨F,0,none⟩=some (.int .i64 fr.cr):=C4.out.cell (j:=0) (by omega); have kf5:w4.cell? ⟨F,5,none⟩=some (.string fr.da):=C4.out.cell (j:=5) (by omega); have kf1:w4.cell? ⟨F,1,none⟩=some (.int .i64 (c:Nat)):=(by rw [<-HCH.out]; exact C4.out.cell (j:=1) (by omega)); have kd1:w4.cell? ⟨D,1,none⟩=some (.int .i64 (craft:Nat)):=(B4.out.cell (p:=⟨D,1,none⟩) h.dt.lt).trans HKC.out; have kd2:w4.cell? ⟨D,2,none⟩=some (.int .i64 (n:Nat)):=(B4.out.cell (p:=⟨D,2,none⟩) h.dt.lt).trans HKN.out; have zs:fr.da.size=n:=HNN.out))
  go_quiet (fail)
  go_wp2_with fail
  go_quiet (fail)
  go_wp2_with fail
  have kq4:w4.cell? ⟨D,q,none⟩=some (.string (x.ch c).fr):=by rw [<-HQ.out]; exact (B4.out.cell (p:=⟨D,5 + c * 4,none⟩) h.dt.lt).trans HKQ.out
  have kf6:w4.cell? ⟨F,6,none⟩=some (.int .u32 (fr.wo:Nat)):=C4.out.cell (j:=6) (by omega)
  have T46:=Lib.hid (show Tr R F fr w4 from ⟨CR4.out,TR4.out,C4.out,TF4.out⟩)
  refine fdRegion F D q w4.heap.size c fr.wo (x.ch c).fr b false TF4.out.lt (Nat.lt_of_lt_of_le h.dt.lt B4.out.size) kf1 kf6 kq4 q1 q3 (Nat.le_refl _) (by kernel_rfl) rfl rfl rfl rfl rfl rfl rfl rfl rfl rfl rfl rfl rfl rfl rfl rfl ?_
  intro v7 w6 b6 F7
  obtain ⟨A,hv7,hA,CA',TA'⟩:=F7
  subst hv7
  have b46:=Lib.hid (show Below w4.heap.size w4 w6 from bt (below_drewN (below_drewN (Below.refl _ _) _) _) b6)
  have CA:=Lib.hid CA'
  have TA:=Lib.hid TA'
  have HAS:=Lib.hid hA
  have RA:=Lib.hid (show R ≠ A from fun e=>by have:=TR4.out.lt; omega)
  have FA:=Lib.hid (show F ≠ A from fun e=>by have:=TF4.out.lt; omega)
  have WA:=Lib.hid (show w.heap.size<=A from Nat.le_trans B4.out.size hA)
  have RD:=Lib.hid (show R ≠ D from fun e=>by have:=HR.out; have:=h.dt.lt; omega)
  have FD:=Lib.hid (show F ≠ D from fun e=>by have:=HF.out; have:=B2.out.size; have:=h.dt.lt; omega)
  clear CA' TA' hA b6 kf0 kf1 kf5 kf6 kd1 kd2 zs kq4
  simp only [Act.put,List.setIfInBounds_toArray,List.set_cons_succ,List.set_cons_zero,List.drop_succ_cons,List.drop_zero]
  go_wp2_with ((with_reducible refine atList ?_); refine wpList_setAllT rfl 51 (.tmp 9) (.tmp 57) rfl A 7 [.int .i64 (c:Nat),.bool false,.int .i64 0,.int .i64 0,.slice none 0 0,.int .i64 0,.int .u32 (fr.wo:Nat)] _ (aC (.slice none 0 0) ⟨c,false,0,0,0,fr.wo,[]⟩) CA.out rfl (arC_list (.slice none 0 0) ⟨c,false,0,0,0,fr.wo,[]⟩) rfl rfl info_ar (by simp [Value.oneCell']) ?_; intro w7 C7 U7 S7 V7; have cdb:w7.cell? ⟨A,1,none⟩=some (.bool false):=C7.out.cell (j:=1) (by omega); have T7:=Lib.hid ((T46.out.below b46.out).but U7.out RA.out FA.out))
  have DS7:=Lib.hid (show DS w D A (dC D x) (.slice none 0 0) ⟨c,false,0,0,0,fr.wo,[]⟩ w7 from by
    have bz:Below w.heap.size w w7:=But.under (bt B4.out b46.out) U7.out WA.out
    exact ⟨h.dt.lt,h.dt.below bz,h.c.below bz,WA.out,V7.out _ TA.out,C7.out,World.ownsRow_nil _ _ _ _,KF.of_below bz (Nat.le_of_lt h.dt.lt)⟩)
  have kf2:w7.cell? ⟨F,2,none⟩=some (.int .i64 (ma:Nat)):=by rw [<-HMA.out]; exact T7.out.f.cell (j:=2) (by omega)
  refine fdRegion11 F D ma T7.out.ft.lt kf2 (by kernel_rfl) rfl rfl rfl rfl rfl rfl rfl rfl ?_
  intro w8 b8
  have D8:=Lib.hid (DS7.out.below b8)
  have T8:=Lib.hid (T7.out.below b8)
  have CT1:=Lib.hid (ctake_any D8.out 3 (by omega) x.mb x.ml ma rfl rfl o.ml N8.out.1)
  obtain ⟨mi,hmi⟩:∃ m,Ch.miss x.mb x.ml ma=m:=⟨_,rfl⟩
  rw [hmi] at CT1
  have MI:=Lib.hid hmi
  clear b8 kf2 hmi
  simp only [Act.put,List.setIfInBounds_toArray,List.set_cons_succ,List.set_cons_zero,List.drop_succ_cons,List.drop_zero]
  go_wp2_with fail
  (refine CT1.out.mono ?_)
  rintro e w10 ⟨rfl,D10',E10'⟩
  have D10:=Lib.hid D10'
  have T10:=Lib.hid (T8.out.ey E10' RD.out RA.out FD.out FA.out)
  clear D10' E10'
  go_wp2_with (((with_reducible refine atList ?_); refine wpList_setT rfl (.store 3 (.tmp 67) (.tmp 66)) rfl A 3 7 (.int .i64 (mi:Nat)) _ (aC (.slice none 0 0) ⟨c,false,0,mi,0,fr.wo,[]⟩) D10.out.ac (by omega) (fun j hj=>by match j,hj with | 0,_=>rfl | 1,_=>rfl | 2,_=>rfl | 3,_=>rfl | 4,_=>rfl | 5,_=>rfl | 6,_=>rfl) ?_ ?_; exact store_int rfl rfl rfl (D10.out.ac.cell (j:=3) (by omega)) (D10.out.ac.frozen (j:=3) (by omega)); intro w11 C11 U11 S11 V11; have D11:=Lib.hid (D10.out.setA (v':=.slice none 0 0) (a':=⟨c,false,0,mi,0,fr.wo,[]⟩) U11.out C11.out (V11.out _ D10.out.at') (World.ownsRow_nil _ _ _ _)); have T11:=Lib.hid (T10.out.but U11.out RA.out FA.out)))
  have kf3:w11.cell? ⟨F,3,none⟩=some (.int .i64 (ct:Nat)):=by rw [<-HCT.out]; exact T11.out.f.cell (j:=3) (by omega)
  refine fdRegion12 F D q ct T11.out.ft.lt kf3 (by kernel_rfl) rfl rfl rfl rfl rfl rfl rfl rfl ?_
  intro w12 b12
  have D12:=Lib.hid (D11.out.below b12)
  have T12:=Lib.hid (T11.out.below b12)
  have CT2:=Lib.hid (ctake_any D12.out (q + 1) (by have:=HQ.out; have:=C8.out; omega) (x.ch c).bg (x.ch c).la ct (by have hq:=HQ.out; rw [Ch.upd_ne _ _ (by omega),Ch.upd_ne _ _ (by omega),<-hq]; exact dC_in D x (k:=1) (by omega)) (by have hq:=HQ.out; rw [Ch.upd_ne _ _ (by omega),Ch.upd_ne _ _ (by omega),<-hq]; exact dC_in D x (k:=2) (by omega)) (o.la c C8.out) N8.out.2)
  obtain ⟨lo,hlo⟩:∃ m,Ch.miss (x.ch c).bg (x.ch c).la ct=m:=⟨_,rfl⟩
  rw [hlo] at CT2
  have LO:=Lib.hid hlo
  clear b12 kf3 hlo
  simp only [Act.put,List.setIfInBounds_toArray,List.set_cons_succ,List.set_cons_zero,List.drop_succ_cons,List.drop_zero]
  go_wp2_with fail
  (refine CT2.out.mono ?_)
  rintro e w13 ⟨rfl,D13',E13'⟩
  have D13:=Lib.hid D13'
  have T13:=Lib.hid (T12.out.ey E13' RD.out RA.out FD.out FA.out)
  clear D13' E13'
  go_wp2_with (((with_reducible refine atList ?_); refine wpList_setT rfl (.store 3 (.tmp 74) (.tmp 73)) rfl A 2 7 (.int .i64 (lo:Nat)) _ (aC (.slice none 0 0) ⟨c,false,lo,mi,0,fr.wo,[]⟩) D13.out.ac (by omega) (fun j hj=>by match j,hj with | 0,_=>rfl | 1,_=>rfl | 2,_=>rfl | 3,_=>rfl | 4,_=>rfl | 5,_=>rfl | 6,_=>rfl) ?_ ?_; exact store_int rfl rfl rfl (D13.out.ac.cell (j:=2) (by omega)) (D13.out.ac.frozen (j:=2) (by omega)); intro w14 C14 U14 S14 V14; have D14:=Lib.hid (D13.out.setA (v':=.slice none 0 0) (a':=⟨c,false,lo,mi,0,fr.wo,[]⟩) U14.out C14.out (V14.out _ D13.out.at') (World.ownsRow_nil _ _ _ _)); have T14:=Lib.hid (T13.out.but U14.out RA.out FA.out)))
  (refine (CLN.out _).mono ?_)
  rintro e w15 ⟨rfl,b15⟩
  have D15:=Lib.hid (D14.out.below b15)
  have T15:=Lib.hid (T14.out.below b15)
  have Q37:=Lib.hid (show q < 37 by have:=HQ.out; have:=C8.out; omega)
  clear b15
  go_wp2_with (first
    | ((with_reducible refine atList ?_); refine wpList_setT rfl (.store 9 (.tmp 79) (.tmp 77)) rfl D q 37 (.string b) _ (Ch.upd (Ch.upd (Ch.upd (Ch.upd (Ch.upd (dC D x) 3 (.bool true)) (3 + 1) (.int .i64 (ma:Nat))) (q + 1) (.bool true)) (q + 1 + 1) (.int .i64 (ct:Nat))) q (.string b)) D15.out.dc Q37.out (fun j hj=>rfl) ?_ ?_; exact store_strC rfl rfl rfl (D15.out.dc.cell Q37.out) (D15.out.dc.frozen Q37.out); intro w16 C16 U16 S16 V16; have D16:=Lib.hid (D15.out.setD U16.out C16.out (V16.out _ D15.out.dt)); have T16:=Lib.hid (T15.out.but U16.out RD.out FD.out))
    | ((with_reducible refine atList ?_); refine wpList_getAll rfl 100 (.tmp 6) rfl F 7 [.int .i64 fr.cr,.int .i64 fr.ch,.int .i64 fr.ma,.int .i64 fr.ct,.int .i64 fr.fi,.string fr.da,.int .u32 (fr.wo:Nat)] (tmCel fr) _ T16.out.f rfl (tm_list fr) rfl Tryz.underlying100 rfl tm_info ?_))
  have IT:=Lib.hid (itake_any D16.out q (by have:=HQ.out; have:=C8.out; omega) (x.ch c).pt (by have hq:=HQ.out; rw [Ch.upd_ne _ _ (by omega),Ch.upd_ne _ _ (by omega),Ch.upd_ne _ _ (by omega),Ch.upd_ne _ _ (by omega),Ch.upd_ne _ _ (by omega),<-hq]; exact dC_in D x (k:=3) (by omega)) (o.pt c C8.out) fr FOK.out rfl rfl)
  obtain ⟨r,hr⟩:∃ r,Ch.tk (x.ch c).pt lo fr.fi.toNat fr.da.data.toList=r:=⟨_,rfl⟩
  have HR2:=Lib.hid hr
  rw [show (⟨c,false,lo,mi,0,fr.wo,[]⟩:Ch.Av).lo=lo from rfl,hr] at IT
  clear hr
  (refine IT.out.mono ?_)
  rintro e w17 ⟨⟨u,rfl⟩,⟨v17,D17'⟩,E17'⟩
  have D17:=Lib.hid D17'
  have T17:=Lib.hid (T16.out.ey E17' RD.out RA.out FD.out FA.out)
  obtain ⟨sa,sc,hv17⟩:=own_is D17'.row
  subst hv17
  clear D17' E17'
  obtain ⟨v17,hv17⟩:∃ v,Value.slice sa r.2.1.length sc=v:=⟨_,rfl⟩
  have HV17:=Lib.hid hv17
  have O17:=Lib.hid (show v17.oneCell'=true by rw [<-hv17]; rfl)
  rw [show (⟨c,false,lo,mi,r.2.2,fr.wo,r.2.1⟩:Ch.Av).pk=r.2.1 from rfl,hv17] at D17
  clear hv17
  go_wp2_with (first
    | ((with_reducible refine atList ?_); refine wpList_getAll rfl 51 (.tmp 9) rfl A 7 [.int .i64 (c:Nat),.bool false,.int .i64 (lo:Nat),.int .i64 (mi:Nat),v17,.int .i64 (r.2.2:Nat),.int .u32 (fr.wo:Nat)] (aC v17 ⟨c,false,lo,mi,r.2.2,fr.wo,r.2.1⟩) _ D17.out.ac rfl (arC_list v17 ⟨c,false,lo,mi,r.2.2,fr.wo,r.2.1⟩) rfl Tryz.underlying51 rfl info_ar ?_)
    | ((with_reducible refine atList ?_); refine wpList_setAllT rfl 51 (.tmp 4) (.tmp 83) rfl R 7 [.int .i64 (c:Nat),.bool false,.int .i64 (lo:Nat),.int .i64 (mi:Nat),v17,.int .i64 (r.2.2:Nat),.int .u32 (fr.wo:Nat)] _ (aC v17 ⟨c,false,lo,mi,r.2.2,fr.wo,r.2.1⟩) T17.out.r rfl (arC_list v17 ⟨c,false,lo,mi,r.2.2,fr.wo,r.2.1⟩) rfl rfl info_ar (by simp only [List.all_cons,List.all_nil,O17.out]; rfl) ?_; intro w9 C9 U9 S9 V9))
  have RA:=C9.out.rangeAll [.int .i64 (c:Nat),.bool false,.int .i64 (lo:Nat),.int .i64 (mi:Nat),v17,.int .i64 (r.2.2:Nat),.int .u32 (fr.wo:Nat)] rfl (arC_list v17 ⟨c,false,lo,mi,r.2.2,fr.wo,r.2.1⟩)
  have RR:=fun tmps hp=>results_cell_t1 (P:=Tryz.prog) Tryz.results22 tmps w9 R [.int .i64 (c:Nat),.bool false,.int .i64 (lo:Nat),.int .i64 (mi:Nat),v17,.int .i64 (r.2.2:Nat),.int .u32 (fr.wo:Nat)] _ hp RA Tryz.underlying51 rfl info_ar
  refine bodyPost_ret (RR _ rfl) rfl ?_
  have ACC:=(show x.acc b fr=(⟨c,false,lo,mi,r.2.2,fr.wo,r.2.1⟩,{ x with mb:=true,ml:=ma,ch:=Ch.upd x.ch c ⟨b,true,ct,r.1⟩ }) by
    unfold Ch.Dx.acc
    simp only
    rw [show fr.ch.toNat=c by rw [HCH.out]; rfl,show fr.ct.toNat=ct by rw [HCT.out]; rfl,show fr.ma.toNat=ma by rw [HMA.out]; rfl,LO.out,MI.out,HR2.out])
  unfold Fd
  rw [FE.out,ACC]
  have DR:D ≠ R:=Ne.symm RD.out
  have hRn:w.heap.size<=R:=Nat.le_of_eq HR.out
  refine ⟨v17,rfl,own_but D17.out.row U9.out (fun e=>ty_ne (own_ty D17.out.row e).2 T17.out.rt (by decide) rfl),⟨h.dl,D17.out.dt.but U9.out DR,(D17.out.dc.but U9.out DR).congr (fun j hj=>?_)⟩,⟨(D17.out.fr.below.trans (U9.out.below.mono (Nat.le_trans (Nat.le_of_lt h.dt.lt) hRn))).mono h.dl,fun k hk hn=>(U9.out.rest k (Nat.lt_of_lt_of_le hk D17.out.size) (fun e=>by omega)).trans (D17.out.fr.rest k hk hn),fun k hk=>.inl hk⟩⟩
  have:=dC_acc D x c ma ct b r.1 C8.out j hj
  rw [HQ.out] at this
  exact this
end Go.Proofs.YtchfkncbemjepaaGreat

/- Layer 11, the landed demux: NewDemux; Feed. -/
namespace Go.Proofs.YtchfkncbemjepaaGreat
open Go.RowKit

theorem dFeed_any {w:World} {n0 D:Nat} {x:Ch.Dx} (h:PD w n0 D x) (o:x.Ok) (hn0:n0<=w.heap.size) (b:ByteArray) (hb:b.size<=1000000):
    Calls Tryz.prog 22 #[.pointer (some ⟨D,0,none⟩),.string b] w (Fd w n0 D b x):=by
  by_cases he:(Tm.get b.data.toList).2=0
  · by_cases hc:(Tm.get b.data.toList).1.cr ≠ x.craft\/(Tm.get b.data.toList).1.da.size ≠ x.n
    · exact dFeed_a h hn0 b hb he hc
    exact dFeed_ok h o hn0 b hb he hc
  exact dFeed_e h hn0 b hb he
def NdOk (craft size:Int):Prop:=(0<=craft/\craft<=255)/\(32<=size/\size<=200)
def NdP (n0:Nat) (craft size:Int) (e:Ending) (w':World):Prop:=(¬ NdOk craft size/\e=.returned (.tuple #[.pointer none,.int .i64 2]))\/(NdOk craft size/\∃ D,e=.returned (.tuple #[.pointer (some ⟨D,0,none⟩),.int .i64 0])/\PD w' n0 D (Ch.Dx.new size.toNat craft.toNat))
theorem dC_start (D n craft:Nat):∀ j,j < 37->(if j=0 then (.pointer (some ⟨D,0,none⟩):Value) else (#[.pointer none,.int .i64 (craft:Nat),.int .i64 (n:Nat),.bool false,.int .i64 0,.string ⟨#[]⟩,.bool false,.int .i64 0,.string ⟨#[]⟩,.string ⟨#[]⟩,.bool false,.int .i64 0,.string ⟨#[]⟩,.string ⟨#[]⟩,.bool false,.int .i64 0,.string ⟨#[]⟩,.string ⟨#[]⟩,.bool false,.int .i64 0,.string ⟨#[]⟩,.string ⟨#[]⟩,.bool false,.int .i64 0,.string ⟨#[]⟩,.string ⟨#[]⟩,.bool false,.int .i64 0,.string ⟨#[]⟩,.string ⟨#[]⟩,.bool false,.int .i64 0,.string ⟨#[]⟩,.string ⟨#[]⟩,.bool false,.int .i64 0,.string ⟨#[]⟩]:Array Value).getD j undef)=dC D (Ch.Dx.new n craft) j:=fun j hj=>by
  match j,hj with
  | 0,_=>rfl
  | 1,_=>rfl
  | 2,_=>rfl
  | 3,_=>rfl
  | 4,_=>rfl
  | 5,_=>rfl
  | 6,_=>rfl
  | 7,_=>rfl
  | 8,_=>rfl
  | 9,_=>rfl
  | 10,_=>rfl
  | 11,_=>rfl
  | 12,_=>rfl
  | 13,_=>rfl
  | 14,_=>rfl
  | 15,_=>rfl
  | 16,_=>rfl
  | 17,_=>rfl
  | 18,_=>rfl
  | 19,_=>rfl
  | 20,_=>rfl
  | 21,_=>rfl
  | 22,_=>rfl
  | 23,_=>rfl
  | 24,_=>rfl
  | 25,_=>rfl
  | 26,_=>rfl
  | 27,_=>rfl
  | 28,_=>rfl
  | 29,_=>rfl
  | 30,_=>rfl
  | 31,_=>rfl
  | 32,_=>rfl
  | 33,_=>rfl
  | 34,_=>rfl
  | 35,_=>rfl
  | 36,_=>rfl
  | j + 37,h=>exact absurd h (by omega)
theorem dC_zero (n craft:Nat):∀ j,j < 37->(#[.pointer none,.int .i64 (craft:Nat),.int .i64 (n:Nat),.bool false,.int .i64 0,.string ⟨#[]⟩,.bool false,.int .i64 0,.string ⟨#[]⟩,.string ⟨#[]⟩,.bool false,.int .i64 0,.string ⟨#[]⟩,.string ⟨#[]⟩,.bool false,.int .i64 0,.string ⟨#[]⟩,.string ⟨#[]⟩,.bool false,.int .i64 0,.string ⟨#[]⟩,.string ⟨#[]⟩,.bool false,.int .i64 0,.string ⟨#[]⟩,.string ⟨#[]⟩,.bool false,.int .i64 0,.string ⟨#[]⟩,.string ⟨#[]⟩,.bool false,.int .i64 0,.string ⟨#[]⟩,.string ⟨#[]⟩,.bool false,.int .i64 0,.string ⟨#[]⟩]:Array Value)[j]?=some ((#[.pointer none,.int .i64 (craft:Nat),.int .i64 (n:Nat),.bool false,.int .i64 0,.string ⟨#[]⟩,.bool false,.int .i64 0,.string ⟨#[]⟩,.string ⟨#[]⟩,.bool false,.int .i64 0,.string ⟨#[]⟩,.string ⟨#[]⟩,.bool false,.int .i64 0,.string ⟨#[]⟩,.string ⟨#[]⟩,.bool false,.int .i64 0,.string ⟨#[]⟩,.string ⟨#[]⟩,.bool false,.int .i64 0,.string ⟨#[]⟩,.string ⟨#[]⟩,.bool false,.int .i64 0,.string ⟨#[]⟩,.string ⟨#[]⟩,.bool false,.int .i64 0,.string ⟨#[]⟩,.string ⟨#[]⟩,.bool false,.int .i64 0,.string ⟨#[]⟩]:Array Value).getD j undef):=fun j hj=>by
  match j,hj with
  | 0,_=>rfl
  | 1,_=>rfl
  | 2,_=>rfl
  | 3,_=>rfl
  | 4,_=>rfl
  | 5,_=>rfl
  | 6,_=>rfl
  | 7,_=>rfl
  | 8,_=>rfl
  | 9,_=>rfl
  | 10,_=>rfl
  | 11,_=>rfl
  | 12,_=>rfl
  | 13,_=>rfl
  | 14,_=>rfl
  | 15,_=>rfl
  | 16,_=>rfl
  | 17,_=>rfl
  | 18,_=>rfl
  | 19,_=>rfl
  | 20,_=>rfl
  | 21,_=>rfl
  | 22,_=>rfl
  | 23,_=>rfl
  | 24,_=>rfl
  | 25,_=>rfl
  | 26,_=>rfl
  | 27,_=>rfl
  | 28,_=>rfl
  | 29,_=>rfl
  | 30,_=>rfl
  | 31,_=>rfl
  | 32,_=>rfl
  | 33,_=>rfl
  | 34,_=>rfl
  | 35,_=>rfl
  | 36,_=>rfl
  | j + 37,h=>exact absurd h (by omega)
theorem box_d37 {ev:Operand->Value} {o:Oper} {w:World} {x:Operand} {n craft:Nat} (h:o.op=.box 68 x) (hx:ev x=.agg #[.pointer none,.int .i64 (craft:Nat),.int .i64 (n:Nat),.bool false,.int .i64 0,.string ⟨#[]⟩,.bool false,.int .i64 0,.string ⟨#[]⟩,.string ⟨#[]⟩,.bool false,.int .i64 0,.string ⟨#[]⟩,.string ⟨#[]⟩,.bool false,.int .i64 0,.string ⟨#[]⟩,.string ⟨#[]⟩,.bool false,.int .i64 0,.string ⟨#[]⟩,.string ⟨#[]⟩,.bool false,.int .i64 0,.string ⟨#[]⟩,.string ⟨#[]⟩,.bool false,.int .i64 0,.string ⟨#[]⟩,.string ⟨#[]⟩,.bool false,.int .i64 0,.string ⟨#[]⟩,.string ⟨#[]⟩,.bool false,.int .i64 0,.string ⟨#[]⟩]):(execOp ev o).run Tryz.prog w=.ok (.value (.pointer (some ⟨w.heap.size,0,none⟩))) (w.alloc (.cells #[.pointer none,.int .i64 (craft:Nat),.int .i64 (n:Nat),.bool false,.int .i64 0,.string ⟨#[]⟩,.bool false,.int .i64 0,.string ⟨#[]⟩,.string ⟨#[]⟩,.bool false,.int .i64 0,.string ⟨#[]⟩,.string ⟨#[]⟩,.bool false,.int .i64 0,.string ⟨#[]⟩,.string ⟨#[]⟩,.bool false,.int .i64 0,.string ⟨#[]⟩,.string ⟨#[]⟩,.bool false,.int .i64 0,.string ⟨#[]⟩,.string ⟨#[]⟩,.bool false,.int .i64 0,.string ⟨#[]⟩,.string ⟨#[]⟩,.bool false,.int .i64 0,.string ⟨#[]⟩,.string ⟨#[]⟩,.bool false,.int .i64 0,.string ⟨#[]⟩] 68)):=by
  simp only [execOp,h,hx]; go_simp
theorem store_pdx {ev:Operand->Value} {o:Oper} {w:World} {x y:Operand} {X i:Nat} {u:Value} {a:Option Addr} (h:o.op=.store 44 x y) (hx:ev x=.pointer (some ⟨X,i,none⟩)) (hy:ev y=.pointer a) (hc:w.cell? ⟨X,i,none⟩=some u) (hf:w.frozen? ⟨X,i,none⟩=false):(execOp ev o).run Tryz.prog w=.ok .skip (w.setCell ⟨X,i,none⟩ (.pointer a)):=by
  simp only [execOp,h,hx,hy]; go_simp
theorem newDemux_any (craft size:Int) (w:World):Calls Tryz.prog 20 #[.int .i64 craft,.int .i64 size] w fun e w'=>Below w.heap.size w w'/\NdP w.heap.size craft size e w':=by
  have CC:=Lib.hid (fun w=>ccraft_any craft w)
  have CS:=Lib.hid (fun w=>csize_any size w)
  have B0:=Lib.hid (Below.refl w.heap.size w)
  go_enter Tryz.func20,Tryz.ntmps20
  go_wp2_with fail
  (with_reducible refine (CC.out _).mono ?_)
  rintro e w' ⟨rfl,rfl⟩
  by_cases c1:0<=craft/\craft<=255
  · rw [decide_eq_true c1]
    go_wp2_with fail
    (with_reducible refine (CS.out _).mono ?_)
    rintro e w' ⟨rfl,rfl⟩
    by_cases c2:32<=size/\size<=200
    · rw [decide_eq_true c2]
      obtain ⟨cr,rfl⟩:∃ z:Nat,craft=z:=⟨craft.toNat,by omega⟩
      obtain ⟨n,rfl⟩:∃ z:Nat,size=z:=⟨size.toNat,by omega⟩
      have OKK:=Lib.hid (show NdOk cr n from ⟨c1,c2⟩)
      clear c1 c2
      go_wp2_with (first
        | ((with_reducible refine atList ?_); refine wpList_newT rfl (.box 68 (.tmp 17)) rfl (some 18) rfl #[.pointer none,.int .i64 (cr:Nat),.int .i64 (n:Nat),.bool false,.int .i64 0,.string ⟨#[]⟩,.bool false,.int .i64 0,.string ⟨#[]⟩,.string ⟨#[]⟩,.bool false,.int .i64 0,.string ⟨#[]⟩,.string ⟨#[]⟩,.bool false,.int .i64 0,.string ⟨#[]⟩,.string ⟨#[]⟩,.bool false,.int .i64 0,.string ⟨#[]⟩,.string ⟨#[]⟩,.bool false,.int .i64 0,.string ⟨#[]⟩,.string ⟨#[]⟩,.bool false,.int .i64 0,.string ⟨#[]⟩,.string ⟨#[]⟩,.bool false,.int .i64 0,.string ⟨#[]⟩,.string ⟨#[]⟩,.bool false,.int .i64 0,.string ⟨#[]⟩] 68 (fun X=>.pointer (some ⟨X,0,none⟩)) 37 (fun j=>(#[.pointer none,.int .i64 (cr:Nat),.int .i64 (n:Nat),.bool false,.int .i64 0,.string ⟨#[]⟩,.bool false,.int .i64 0,.string ⟨#[]⟩,.string ⟨#[]⟩,.bool false,.int .i64 0,.string ⟨#[]⟩,.string ⟨#[]⟩,.bool false,.int .i64 0,.string ⟨#[]⟩,.string ⟨#[]⟩,.bool false,.int .i64 0,.string ⟨#[]⟩,.string ⟨#[]⟩,.bool false,.int .i64 0,.string ⟨#[]⟩,.string ⟨#[]⟩,.bool false,.int .i64 0,.string ⟨#[]⟩,.string ⟨#[]⟩,.bool false,.int .i64 0,.string ⟨#[]⟩,.string ⟨#[]⟩,.bool false,.int .i64 0,.string ⟨#[]⟩]:Array Value).getD j undef) (dC_zero n cr) (box_d37 rfl rfl) ?_; intro D w3 HD SD CD BD TD)
        | ((with_reducible refine atList ?_); refine wpList_setT rfl (.store 44 (.tmp 22) (.tmp 20)) rfl D 0 37 (.pointer (some ⟨D,0,none⟩)) _ (dC D (Ch.Dx.new n cr)) CD.out (by omega) (dC_start D n cr) (store_pdx rfl rfl rfl (CD.out.cell (j:=0) (by omega)) (CD.out.frozen (j:=0) (by omega))) ?_; intro w4 C4 U4 S4 V4))
      go_ret2
      refine ⟨But.under BD.out U4.out (Nat.le_of_eq HD.out),.inr ⟨OKK.out,D,rfl,?_⟩⟩
      rw [Int.toNat_natCast,Int.toNat_natCast]
      exact ⟨Nat.le_of_eq HD.out,V4.out _ TD.out,C4.out⟩
    rw [decide_eq_false c2]
    have BAD:=Lib.hid (show ¬ NdOk craft size from fun h=>c2 h.2)
    clear c1 c2
    go_wp2_with fail
    go_ret2
    exact ⟨B0.out,.inl ⟨BAD.out,rfl⟩⟩
  rw [decide_eq_false c1]
  have BAD:=Lib.hid (show ¬ NdOk craft size from fun h=>c1 h.1)
  clear c1
  go_wp2_with fail
  go_ret2
  exact ⟨B0.out,.inl ⟨BAD.out,rfl⟩⟩
end Go.Proofs.YtchfkncbemjepaaGreat
