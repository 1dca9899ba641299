/- RcFeed -/
import Derived.Test.YtchfkncbemjepaaGreatRcField
import Derived.Test.YtchfkncbemjepaaGreatChDNew
import Derived.Test.YtchfkncbemjepaaGreatTmBack
set_option linter.unusedVariables false
set_option maxRecDepth 100000
set_option maxHeartbeats 8000000
/- Layer 11, the reference: Feed of its demux: drawn regions. -/
namespace Go.Proofs.YtchfkncbemjepaaGreat
open Go.RowKit

structure RdRegion12 (D q F E c y m:Nat) (A:Act) (w0:World) (s:Nat->Bool) (a:Act) (w:World):Prop where
  off:Off [66,67,68,69,70,71,72,73,74,75,76] a A
  before:Below w0.heap.size w0 w
  t0:s 0=true->a.eval (.tmp 66)=.pointer (some ⟨F,2,none⟩)
  t1:s 1=true->a.eval (.tmp 67)=.int .i64 (c:Nat)
  t2:s 2=true->a.eval (.tmp 68)=.pointer (some ⟨D,0,none⟩)
  t3:s 3=true->a.eval (.tmp 69)=.pointer (some ⟨D,0,none⟩)
  t4:s 4=true->a.eval (.tmp 70)=.pointer (some ⟨D,3,none⟩)
  t5:s 5=true->a.eval (.tmp 71)=.int .i64 (y:Nat)
  t6:s 6=true->a.eval (.tmp 72)=.int .i64 ((c:Int) - (y:Int))
  t7:s 7=true->a.eval (.tmp 73)=.int .i64 ((c:Int) - (y:Int) - 1)
  t8:s 8=true->a.eval (.tmp 74)=.int .i64 ((c:Int) - (y:Int) - 1 + 512)
  t9:s 9=true->a.eval (.tmp 75)=.int .i64 (m:Nat)
  t10:s 10=true->a.eval (.tmp 76)=.pointer (some ⟨E,3,none⟩)
theorem rdRegion12 {id:Nat} {l:List Oper} {A:Act} {w:World} {Q:Exit->Act->World->Prop} (D q F E c y m:Nat)
    (lD:D < w.heap.size) (lF:F < w.heap.size) (kL:w.cell? ⟨D,3,none⟩=some (.int .i64 (y:Nat))) (kC:w.cell? ⟨F,2,none⟩=some (.int .i64 (c:Nat))) (hc:c<=255) (hl:y<=255) (hm:(c + 255 - y) % 256=m)
    (hB:tableH l.toArray 11 (fun i=>match i with | 0=>[] | 1=>[0] | 2=>[] | 3=>[2] | 4=>[3] | 5=>[4] | 6=>[1,5] | 7=>[6] | 8=>[7] | 9=>[8] | 10=>[] | _=>[]) (fun _=>[])=true)
    (h0:pick l 0=some (.fieldAddr 100 (.tmp 6) 2,some 66))
    (h1:pick l 1=some (.load 3 (.tmp 66),some 67))
    (h2:pick l 2=some (.move (.tmp 0),some 68))
    (h3:pick l 3=some (.nilCheck (.tmp 68),some 69))
    (h4:pick l 4=some (.fieldAddr 108 (.tmp 69) 3,some 70))
    (h5:pick l 5=some (.load 3 (.tmp 70),some 71))
    (h6:pick l 6=some (.binOp .sub 3 (.tmp 67) (.tmp 71) 3,some 72))
    (h7:pick l 7=some (.binOp .sub 3 (.tmp 72) (.const (.int .i64 1)) 3,some 73))
    (h8:pick l 8=some (.binOp .add 3 (.tmp 73) (.const (.int .i64 512)) 3,some 74))
    (h9:pick l 9=some (.binOp .rem 3 (.tmp 74) (.const (.int .i64 256)) 3,some 75))
    (h10:pick l 10=some (.fieldAddr 51 (.tmp 8) 3,some 76))
    (hs:A.tmps.size=139)
    (x0:A.eval (.tmp 0)=.pointer (some ⟨D,0,none⟩))
    (x6:A.eval (.tmp 6)=.pointer (some ⟨F,0,none⟩))
    (x8:A.eval (.tmp 8)=.pointer (some ⟨E,0,none⟩))
    (h:∀ w1,Below w.heap.size w w1->wpList Tryz.prog l.toArray Q (l.drop 11) (((((((((((A.put (some 66) (.pointer (some ⟨F,2,none⟩))).put (some 67) (.int .i64 (c:Nat))).put (some 68) (.pointer (some ⟨D,0,none⟩))).put (some 69) (.pointer (some ⟨D,0,none⟩))).put (some 70) (.pointer (some ⟨D,3,none⟩))).put (some 71) (.int .i64 (y:Nat))).put (some 72) (.int .i64 ((c:Int) - (y:Int)))).put (some 73) (.int .i64 ((c:Int) - (y:Int) - 1))).put (some 74) (.int .i64 ((c:Int) - (y:Int) - 1 + 512))).put (some 75) (.int .i64 (m:Nat))).put (some 76) (.pointer (some ⟨E,3,none⟩))) w1):
    (Code.region id l.toArray true).wp Tryz.prog Q A w:=by
  refine wp_region_head (by kernel_rfl) _ _ _ hB (RdRegion12 D q F E c y m A w) ⟨Off.refl _ _,(Below.refl _ _).drew,by simp,by simp,by simp,by simp,by simp,by simp,by simp,by simp,by simp,by simp,by simp⟩ ?_ ?_
  · intro s a w' S i' o il ho hsi hT K hK
    have sz:a.tmps.size=139:=by rw [S.off.2.1]; exact hs
    have y0:a.eval (.tmp 0)=.pointer (some ⟨D,0,none⟩):=by rw [S.off.eval (by decide)]; exact x0
    have y6:a.eval (.tmp 6)=.pointer (some ⟨F,0,none⟩):=by rw [S.off.eval (by decide)]; exact x6
    have y8:a.eval (.tmp 8)=.pointer (some ⟨E,0,none⟩):=by rw [S.off.eval (by decide)]; exact x8
    match i',il,ho,hsi,hT with
    | 0,_,ho,hsi,hT=>
      obtain ⟨e1,e2⟩:=pick_of h0 ho
      refine step_val (v:=.pointer (some ⟨F,2,none⟩)) (by simp only [execOp,e1,y6]; go_simp) (hK _ _ ?_)
      rw [e2]
      exact ⟨ofp S.off,S.before,ev_ (by omega),kp S.t1,kp S.t2,kp S.t3,kp S.t4,kp S.t5,kp S.t6,kp S.t7,kp S.t8,kp S.t9,kp S.t10⟩
    | 1,_,ho,hsi,hT=>
      obtain ⟨e1,e2⟩:=pick_of h1 ho
      have D0:s 0=true:=list_pos hT (d:=0) (by decide)
      have BW:=S.before
      have dc:=(BW.cell (p:=⟨F,2,none⟩) lF).trans kC
      refine step_val (v:=.int .i64 (c:Nat)) (by simp only [execOp,e1,S.t0 D0]; go_simp) (hK _ _ ?_)
      rw [e2]
      exact ⟨ofp S.off,S.before,kp S.t0,ev_ (by omega),kp S.t2,kp S.t3,kp S.t4,kp S.t5,kp S.t6,kp S.t7,kp S.t8,kp S.t9,kp S.t10⟩
    | 2,_,ho,hsi,hT=>
      obtain ⟨e1,e2⟩:=pick_of h2 ho
      refine step_val (v:=.pointer (some ⟨D,0,none⟩)) (by simp only [execOp,e1,y0]; go_simp) (hK _ _ ?_)
      rw [e2]
      exact ⟨ofp S.off,S.before,kp S.t0,kp S.t1,ev_ (by omega),kp S.t3,kp S.t4,kp S.t5,kp S.t6,kp S.t7,kp S.t8,kp S.t9,kp S.t10⟩
    | 3,_,ho,hsi,hT=>
      obtain ⟨e1,e2⟩:=pick_of h3 ho
      have D2:s 2=true:=list_pos hT (d:=2) (by decide)
      refine step_val (v:=.pointer (some ⟨D,0,none⟩)) (by simp only [execOp,e1,S.t2 D2]; go_simp) (hK _ _ ?_)
      rw [e2]
      exact ⟨ofp S.off,S.before,kp S.t0,kp S.t1,kp S.t2,ev_ (by omega),kp S.t4,kp S.t5,kp S.t6,kp S.t7,kp S.t8,kp S.t9,kp S.t10⟩
    | 4,_,ho,hsi,hT=>
      obtain ⟨e1,e2⟩:=pick_of h4 ho
      have D3:s 3=true:=list_pos hT (d:=3) (by decide)
      refine step_val (v:=.pointer (some ⟨D,3,none⟩)) (by simp only [execOp,e1,S.t3 D3]; go_simp) (hK _ _ ?_)
      rw [e2]
      exact ⟨ofp S.off,S.before,kp S.t0,kp S.t1,kp S.t2,kp S.t3,ev_ (by omega),kp S.t5,kp S.t6,kp S.t7,kp S.t8,kp S.t9,kp S.t10⟩
    | 5,_,ho,hsi,hT=>
      obtain ⟨e1,e2⟩:=pick_of h5 ho
      have D4:s 4=true:=list_pos hT (d:=4) (by decide)
      have BW:=S.before
      have dl:=(BW.cell (p:=⟨D,3,none⟩) lD).trans kL
      refine step_val (v:=.int .i64 (y:Nat)) (by simp only [execOp,e1,S.t4 D4]; go_simp) (hK _ _ ?_)
      rw [e2]
      exact ⟨ofp S.off,S.before,kp S.t0,kp S.t1,kp S.t2,kp S.t3,kp S.t4,ev_ (by omega),kp S.t6,kp S.t7,kp S.t8,kp S.t9,kp S.t10⟩
    | 6,_,ho,hsi,hT=>
      obtain ⟨e1,e2⟩:=pick_of h6 ho
      have D1:s 1=true:=list_pos hT (d:=1) (by decide)
      have D5:s 5=true:=list_pos hT (d:=5) (by decide)
      refine step_val (v:=.int .i64 ((c:Int) - (y:Int))) (by simp only [execOp,e1,S.t1 D1,S.t5 D5]; have z:IntKind.i64.wrap ((c:Int) - (y:Int))=(c:Int) - (y:Int):=(by rw [IntKind.wrap_i64]; omega); first | (go_simp; done) | (go_simp; rw [z]) | (go_simp; omega)) (hK _ _ ?_)
      rw [e2]
      exact ⟨ofp S.off,S.before,kp S.t0,kp S.t1,kp S.t2,kp S.t3,kp S.t4,kp S.t5,ev_ (by omega),kp S.t7,kp S.t8,kp S.t9,kp S.t10⟩
    | 7,_,ho,hsi,hT=>
      obtain ⟨e1,e2⟩:=pick_of h7 ho
      have D6:s 6=true:=list_pos hT (d:=6) (by decide)
      refine step_val (v:=.int .i64 ((c:Int) - (y:Int) - 1)) (by simp only [execOp,e1,S.t6 D6]; have z:IntKind.i64.wrap ((c:Int) - (y:Int) - 1)=(c:Int) - (y:Int) - 1:=(by rw [IntKind.wrap_i64]; omega); first | (go_simp; done) | (go_simp; rw [z]) | (go_simp; omega)) (hK _ _ ?_)
      rw [e2]
      exact ⟨ofp S.off,S.before,kp S.t0,kp S.t1,kp S.t2,kp S.t3,kp S.t4,kp S.t5,kp S.t6,ev_ (by omega),kp S.t8,kp S.t9,kp S.t10⟩
    | 8,_,ho,hsi,hT=>
      obtain ⟨e1,e2⟩:=pick_of h8 ho
      have D7:s 7=true:=list_pos hT (d:=7) (by decide)
      refine step_val (v:=.int .i64 ((c:Int) - (y:Int) - 1 + 512)) (by simp only [execOp,e1,S.t7 D7]; have z:IntKind.i64.wrap ((c:Int) - (y:Int) - 1 + 512)=(c:Int) - (y:Int) - 1 + 512:=(by rw [IntKind.wrap_i64]; omega); first | (go_simp; done) | (go_simp; rw [z]) | (go_simp; omega)) (hK _ _ ?_)
      rw [e2]
      exact ⟨ofp S.off,S.before,kp S.t0,kp S.t1,kp S.t2,kp S.t3,kp S.t4,kp S.t5,kp S.t6,kp S.t7,ev_ (by omega),kp S.t9,kp S.t10⟩
    | 9,_,ho,hsi,hT=>
      obtain ⟨e1,e2⟩:=pick_of h9 ho
      have D8:s 8=true:=list_pos hT (d:=8) (by decide)
      refine step_val (v:=.int .i64 (m:Nat)) (by simp only [execOp,e1,S.t8 D8]; have z:((c:Int) - (y:Int) - 1 + 512).tmod 256=(m:Int):=(by rw [Int.tmod_eq_emod_of_nonneg (by omega)]; omega); first | (go_simp; done) | (go_simp; exact z) | (go_simp; rw [z]) | (go_simp; omega)) (hK _ _ ?_)
      rw [e2]
      exact ⟨ofp S.off,S.before,kp S.t0,kp S.t1,kp S.t2,kp S.t3,kp S.t4,kp S.t5,kp S.t6,kp S.t7,kp S.t8,ev_ (by omega),kp S.t10⟩
    | 10,_,ho,hsi,hT=>
      obtain ⟨e1,e2⟩:=pick_of h10 ho
      refine step_val (v:=.pointer (some ⟨E,3,none⟩)) (by simp only [execOp,e1,y8]; go_simp) (hK _ _ ?_)
      rw [e2]
      exact ⟨ofp S.off,S.before,kp S.t0,kp S.t1,kp S.t2,kp S.t3,kp S.t4,kp S.t5,kp S.t6,kp S.t7,kp S.t8,kp S.t9,ev_ (by omega)⟩
    | _ + 11,il,_,_,_=>exact absurd il (by omega)
  intro s a w' S hall
  have a0:=hall 0 (by omega)
  have a1:=hall 1 (by omega)
  have a2:=hall 2 (by omega)
  have a3:=hall 3 (by omega)
  have a4:=hall 4 (by omega)
  have a5:=hall 5 (by omega)
  have a6:=hall 6 (by omega)
  have a7:=hall 7 (by omega)
  have a8:=hall 8 (by omega)
  have a9:=hall 9 (by omega)
  have a10:=hall 10 (by omega)
  have e:=off_norm _ (by intro d hd; simp at hd; omega) S.off
  simp only [List.foldl,S.t0 a0,S.t1 a1,S.t2 a2,S.t3 a3,S.t4 a4,S.t5 a5,S.t6 a6,S.t7 a7,S.t8 a8,S.t9 a9,S.t10 a10] at e
  rw [e]
  exact h _ S.before
structure RdRegion14 (D q F E c y m:Nat) (A:Act) (w0:World) (s:Nat->Bool) (a:Act) (w:World):Prop where
  off:Off [81,82,83,84,85,86,87,88,89,90,91] a A
  before:Below w0.heap.size w0 w
  t0:s 0=true->a.eval (.tmp 81)=.pointer (some ⟨F,3,none⟩)
  t1:s 1=true->a.eval (.tmp 82)=.int .i64 (c:Nat)
  t2:s 2=true->a.eval (.tmp 83)=.pointer (some ⟨D,q,none⟩)
  t3:s 3=true->a.eval (.tmp 84)=.pointer (some ⟨D,q,none⟩)
  t4:s 4=true->a.eval (.tmp 85)=.pointer (some ⟨D,q + 2,none⟩)
  t5:s 5=true->a.eval (.tmp 86)=.int .i64 (y:Nat)
  t6:s 6=true->a.eval (.tmp 87)=.int .i64 ((c:Int) - (y:Int))
  t7:s 7=true->a.eval (.tmp 88)=.int .i64 ((c:Int) - (y:Int) - 1)
  t8:s 8=true->a.eval (.tmp 89)=.int .i64 ((c:Int) - (y:Int) - 1 + 512)
  t9:s 9=true->a.eval (.tmp 90)=.int .i64 (m:Nat)
  t10:s 10=true->a.eval (.tmp 91)=.pointer (some ⟨E,2,none⟩)
theorem rdRegion14 {id:Nat} {l:List Oper} {A:Act} {w:World} {Q:Exit->Act->World->Prop} (D q F E c y m:Nat)
    (lD:D < w.heap.size) (lF:F < w.heap.size) (kL:w.cell? ⟨D,q + 2,none⟩=some (.int .i64 (y:Nat))) (kC:w.cell? ⟨F,3,none⟩=some (.int .i64 (c:Nat))) (hc:c<=255) (hl:y<=255) (hm:(c + 255 - y) % 256=m)
    (hB:tableH l.toArray 11 (fun i=>match i with | 0=>[] | 1=>[0] | 2=>[] | 3=>[2] | 4=>[3] | 5=>[4] | 6=>[1,5] | 7=>[6] | 8=>[7] | 9=>[8] | 10=>[] | _=>[]) (fun _=>[])=true)
    (h0:pick l 0=some (.fieldAddr 100 (.tmp 6) 3,some 81))
    (h1:pick l 1=some (.load 3 (.tmp 81),some 82))
    (h2:pick l 2=some (.move (.tmp 9),some 83))
    (h3:pick l 3=some (.nilCheck (.tmp 83),some 84))
    (h4:pick l 4=some (.fieldAddr 105 (.tmp 84) 2,some 85))
    (h5:pick l 5=some (.load 3 (.tmp 85),some 86))
    (h6:pick l 6=some (.binOp .sub 3 (.tmp 82) (.tmp 86) 3,some 87))
    (h7:pick l 7=some (.binOp .sub 3 (.tmp 87) (.const (.int .i64 1)) 3,some 88))
    (h8:pick l 8=some (.binOp .add 3 (.tmp 88) (.const (.int .i64 512)) 3,some 89))
    (h9:pick l 9=some (.binOp .rem 3 (.tmp 89) (.const (.int .i64 256)) 3,some 90))
    (h10:pick l 10=some (.fieldAddr 51 (.tmp 8) 2,some 91))
    (hs:A.tmps.size=139)
    (x9:A.eval (.tmp 9)=.pointer (some ⟨D,q,none⟩))
    (x6:A.eval (.tmp 6)=.pointer (some ⟨F,0,none⟩))
    (x8:A.eval (.tmp 8)=.pointer (some ⟨E,0,none⟩))
    (h:∀ w1,Below w.heap.size w w1->wpList Tryz.prog l.toArray Q (l.drop 11) (((((((((((A.put (some 81) (.pointer (some ⟨F,3,none⟩))).put (some 82) (.int .i64 (c:Nat))).put (some 83) (.pointer (some ⟨D,q,none⟩))).put (some 84) (.pointer (some ⟨D,q,none⟩))).put (some 85) (.pointer (some ⟨D,q + 2,none⟩))).put (some 86) (.int .i64 (y:Nat))).put (some 87) (.int .i64 ((c:Int) - (y:Int)))).put (some 88) (.int .i64 ((c:Int) - (y:Int) - 1))).put (some 89) (.int .i64 ((c:Int) - (y:Int) - 1 + 512))).put (some 90) (.int .i64 (m:Nat))).put (some 91) (.pointer (some ⟨E,2,none⟩))) w1):
    (Code.region id l.toArray true).wp Tryz.prog Q A w:=by
  refine wp_region_head (by kernel_rfl) _ _ _ hB (RdRegion14 D q F E c y m A w) ⟨Off.refl _ _,(Below.refl _ _).drew,by simp,by simp,by simp,by simp,by simp,by simp,by simp,by simp,by simp,by simp,by simp⟩ ?_ ?_
  · intro s a w' S i' o il ho hsi hT K hK
    have sz:a.tmps.size=139:=by rw [S.off.2.1]; exact hs
    have y9:a.eval (.tmp 9)=.pointer (some ⟨D,q,none⟩):=by rw [S.off.eval (by decide)]; exact x9
    have y6:a.eval (.tmp 6)=.pointer (some ⟨F,0,none⟩):=by rw [S.off.eval (by decide)]; exact x6
    have y8:a.eval (.tmp 8)=.pointer (some ⟨E,0,none⟩):=by rw [S.off.eval (by decide)]; exact x8
    match i',il,ho,hsi,hT with
    | 0,_,ho,hsi,hT=>
      obtain ⟨e1,e2⟩:=pick_of h0 ho
      refine step_val (v:=.pointer (some ⟨F,3,none⟩)) (by simp only [execOp,e1,y6]; go_simp) (hK _ _ ?_)
      rw [e2]
      exact ⟨ofp S.off,S.before,ev_ (by omega),kp S.t1,kp S.t2,kp S.t3,kp S.t4,kp S.t5,kp S.t6,kp S.t7,kp S.t8,kp S.t9,kp S.t10⟩
    | 1,_,ho,hsi,hT=>
      obtain ⟨e1,e2⟩:=pick_of h1 ho
      have D0:s 0=true:=list_pos hT (d:=0) (by decide)
      have BW:=S.before
      have dc:=(BW.cell (p:=⟨F,3,none⟩) lF).trans kC
      refine step_val (v:=.int .i64 (c:Nat)) (by simp only [execOp,e1,S.t0 D0]; go_simp) (hK _ _ ?_)
      rw [e2]
      exact ⟨ofp S.off,S.before,kp S.t0,ev_ (by omega),kp S.t2,kp S.t3,kp S.t4,kp S.t5,kp S.t6,kp S.t7,kp S.t8,kp S.t9,kp S.t10⟩
    | 2,_,ho,hsi,hT=>
      obtain ⟨e1,e2⟩:=pick_of h2 ho
      refine step_val (v:=.pointer (some ⟨D,q,none⟩)) (by simp only [execOp,e1,y9]; go_simp) (hK _ _ ?_)
      rw [e2]
      exact ⟨ofp S.off,S.before,kp S.t0,kp S.t1,ev_ (by omega),kp S.t3,kp S.t4,kp S.t5,kp S.t6,kp S.t7,kp S.t8,kp S.t9,kp S.t10⟩
    | 3,_,ho,hsi,hT=>
      obtain ⟨e1,e2⟩:=pick_of h3 ho
      have D2:s 2=true:=list_pos hT (d:=2) (by decide)
      refine step_val (v:=.pointer (some ⟨D,q,none⟩)) (by simp only [execOp,e1,S.t2 D2]; go_simp) (hK _ _ ?_)
      rw [e2]
      exact ⟨ofp S.off,S.before,kp S.t0,kp S.t1,kp S.t2,ev_ (by omega),kp S.t4,kp S.t5,kp S.t6,kp S.t7,kp S.t8,kp S.t9,kp S.t10⟩
    | 4,_,ho,hsi,hT=>
      obtain ⟨e1,e2⟩:=pick_of h4 ho
      have D3:s 3=true:=list_pos hT (d:=3) (by decide)
      refine step_val (v:=.pointer (some ⟨D,q + 2,none⟩)) (by simp only [execOp,e1,S.t3 D3]; go_simp) (hK _ _ ?_)
      rw [e2]
      exact ⟨ofp S.off,S.before,kp S.t0,kp S.t1,kp S.t2,kp S.t3,ev_ (by omega),kp S.t5,kp S.t6,kp S.t7,kp S.t8,kp S.t9,kp S.t10⟩
    | 5,_,ho,hsi,hT=>
      obtain ⟨e1,e2⟩:=pick_of h5 ho
      have D4:s 4=true:=list_pos hT (d:=4) (by decide)
      have BW:=S.before
      have dl:=(BW.cell (p:=⟨D,q + 2,none⟩) lD).trans kL
      refine step_val (v:=.int .i64 (y:Nat)) (by simp only [execOp,e1,S.t4 D4]; go_simp) (hK _ _ ?_)
      rw [e2]
      exact ⟨ofp S.off,S.before,kp S.t0,kp S.t1,kp S.t2,kp S.t3,kp S.t4,ev_ (by omega),kp S.t6,kp S.t7,kp S.t8,kp S.t9,kp S.t10⟩
    | 6,_,ho,hsi,hT=>
      obtain ⟨e1,e2⟩:=pick_of h6 ho
      have D1:s 1=true:=list_pos hT (d:=1) (by decide)
      have D5:s 5=true:=list_pos hT (d:=5) (by decide)
      refine step_val (v:=.int .i64 ((c:Int) - (y:Int))) (by simp only [execOp,e1,S.t1 D1,S.t5 D5]; have z:IntKind.i64.wrap ((c:Int) - (y:Int))=(c:Int) - (y:Int):=(by rw [IntKind.wrap_i64]; omega); first | (go_simp; done) | (go_simp; rw [z]) | (go_simp; omega)) (hK _ _ ?_)
      rw [e2]
      exact ⟨ofp S.off,S.before,kp S.t0,kp S.t1,kp S.t2,kp S.t3,kp S.t4,kp S.t5,ev_ (by omega),kp S.t7,kp S.t8,kp S.t9,kp S.t10⟩
    | 7,_,ho,hsi,hT=>
      obtain ⟨e1,e2⟩:=pick_of h7 ho
      have D6:s 6=true:=list_pos hT (d:=6) (by decide)
      refine step_val (v:=.int .i64 ((c:Int) - (y:Int) - 1)) (by simp only [execOp,e1,S.t6 D6]; have z:IntKind.i64.wrap ((c:Int) - (y:Int) - 1)=(c:Int) - (y:Int) - 1:=(by rw [IntKind.wrap_i64]; omega); first | (go_simp; done) | (go_simp; rw [z]) | (go_simp; omega)) (hK _ _ ?_)
      rw [e2]
      exact ⟨ofp S.off,S.before,kp S.t0,kp S.t1,kp S.t2,kp S.t3,kp S.t4,kp S.t5,kp S.t6,ev_ (by omega),kp S.t8,kp S.t9,kp S.t10⟩
    | 8,_,ho,hsi,hT=>
      obtain ⟨e1,e2⟩:=pick_of h8 ho
      have D7:s 7=true:=list_pos hT (d:=7) (by decide)
      refine step_val (v:=.int .i64 ((c:Int) - (y:Int) - 1 + 512)) (by simp only [execOp,e1,S.t7 D7]; have z:IntKind.i64.wrap ((c:Int) - (y:Int) - 1 + 512)=(c:Int) - (y:Int) - 1 + 512:=(by rw [IntKind.wrap_i64]; omega); first | (go_simp; done) | (go_simp; rw [z]) | (go_simp; omega)) (hK _ _ ?_)
      rw [e2]
      exact ⟨ofp S.off,S.before,kp S.t0,kp S.t1,kp S.t2,kp S.t3,kp S.t4,kp S.t5,kp S.t6,kp S.t7,ev_ (by omega),kp S.t9,kp S.t10⟩
    | 9,_,ho,hsi,hT=>
      obtain ⟨e1,e2⟩:=pick_of h9 ho
      have D8:s 8=true:=list_pos hT (d:=8) (by decide)
      refine step_val (v:=.int .i64 (m:Nat)) (by simp only [execOp,e1,S.t8 D8]; have z:((c:Int) - (y:Int) - 1 + 512).tmod 256=(m:Int):=(by rw [Int.tmod_eq_emod_of_nonneg (by omega)]; omega); first | (go_simp; done) | (go_simp; exact z) | (go_simp; rw [z]) | (go_simp; omega)) (hK _ _ ?_)
      rw [e2]
      exact ⟨ofp S.off,S.before,kp S.t0,kp S.t1,kp S.t2,kp S.t3,kp S.t4,kp S.t5,kp S.t6,kp S.t7,kp S.t8,ev_ (by omega),kp S.t10⟩
    | 10,_,ho,hsi,hT=>
      obtain ⟨e1,e2⟩:=pick_of h10 ho
      refine step_val (v:=.pointer (some ⟨E,2,none⟩)) (by simp only [execOp,e1,y8]; go_simp) (hK _ _ ?_)
      rw [e2]
      exact ⟨ofp S.off,S.before,kp S.t0,kp S.t1,kp S.t2,kp S.t3,kp S.t4,kp S.t5,kp S.t6,kp S.t7,kp S.t8,kp S.t9,ev_ (by omega)⟩
    | _ + 11,il,_,_,_=>exact absurd il (by omega)
  intro s a w' S hall
  have a0:=hall 0 (by omega)
  have a1:=hall 1 (by omega)
  have a2:=hall 2 (by omega)
  have a3:=hall 3 (by omega)
  have a4:=hall 4 (by omega)
  have a5:=hall 5 (by omega)
  have a6:=hall 6 (by omega)
  have a7:=hall 7 (by omega)
  have a8:=hall 8 (by omega)
  have a9:=hall 9 (by omega)
  have a10:=hall 10 (by omega)
  have e:=off_norm _ (by intro d hd; simp at hd; omega) S.off
  simp only [List.foldl,S.t0 a0,S.t1 a1,S.t2 a2,S.t3 a3,S.t4 a4,S.t5 a5,S.t6 a6,S.t7 a7,S.t8 a8,S.t9 a9,S.t10 a10] at e
  rw [e]
  exact h _ S.before
structure RdRegion15 (D F c:Nat) (W:Bool->World->Prop) (A:Act) (w0:World) (s:Nat->Bool) (a:Act) (w:World):Prop where
  off:Off [92,93,94,95,96,97,98,99] a A
  before:W (s 6) w
  t0:s 0=true->a.eval (.tmp 92)=.pointer (some ⟨D,0,none⟩)
  t1:s 1=true->a.eval (.tmp 93)=.pointer (some ⟨D,0,none⟩)
  t2:s 2=true->a.eval (.tmp 94)=.pointer (some ⟨F,2,none⟩)
  t3:s 3=true->a.eval (.tmp 95)=.int .i64 (c:Nat)
  t4:s 4=true->a.eval (.tmp 96)=.pointer (some ⟨D,0,none⟩)
  t5:s 5=true->a.eval (.tmp 97)=.pointer (some ⟨D,2,none⟩)
  t7:s 7=true->a.eval (.tmp 98)=.pointer (some ⟨D,0,none⟩)
  t8:s 8=true->a.eval (.tmp 99)=.pointer (some ⟨D,3,none⟩)
theorem rdRegion15 {id:Nat} {l:List Oper} {A:Act} {w:World} {Q:Exit->Act->World->Prop} (D F c:Nat) (W:Bool->World->Prop)
    (hW0:W false w.drew) (hV:∀ b w',W b w'->w'.cell? ⟨F,2,none⟩=some (.int .i64 (c:Nat)))
    (hS:∀ w',W false w'->∃ u,w'.cell? ⟨D,2,none⟩=some u/\w'.frozen? ⟨D,2,none⟩=false/\W true (w'.setCell ⟨D,2,none⟩ (.bool true)))
    (hB:tableH l.toArray 9 (fun i=>match i with | 0=>[] | 1=>[] | 2=>[] | 3=>[2] | 4=>[0] | 5=>[4] | 6=>[5] | 7=>[1] | 8=>[7] | _=>[]) (fun _=>[])=true)
    (h0:pick l 0=some (.move (.tmp 0),some 92))
    (h1:pick l 1=some (.move (.tmp 0),some 93))
    (h2:pick l 2=some (.fieldAddr 100 (.tmp 6) 2,some 94))
    (h3:pick l 3=some (.load 3 (.tmp 94),some 95))
    (h4:pick l 4=some (.nilCheck (.tmp 92),some 96))
    (h5:pick l 5=some (.fieldAddr 108 (.tmp 96) 2,some 97))
    (h6:pick l 6=some (.store 4 (.tmp 97) (.const (.bool true)),none))
    (h7:pick l 7=some (.nilCheck (.tmp 93),some 98))
    (h8:pick l 8=some (.fieldAddr 108 (.tmp 98) 3,some 99))
    (hs:A.tmps.size=139)
    (x0:A.eval (.tmp 0)=.pointer (some ⟨D,0,none⟩))
    (x6:A.eval (.tmp 6)=.pointer (some ⟨F,0,none⟩))
    (h:∀ w1,W true w1->wpList Tryz.prog l.toArray Q (l.drop 9) ((((((((A.put (some 92) (.pointer (some ⟨D,0,none⟩))).put (some 93) (.pointer (some ⟨D,0,none⟩))).put (some 94) (.pointer (some ⟨F,2,none⟩))).put (some 95) (.int .i64 (c:Nat))).put (some 96) (.pointer (some ⟨D,0,none⟩))).put (some 97) (.pointer (some ⟨D,2,none⟩))).put (some 98) (.pointer (some ⟨D,0,none⟩))).put (some 99) (.pointer (some ⟨D,3,none⟩))) w1):
    (Code.region id l.toArray true).wp Tryz.prog Q A w:=by
  refine wp_region_head (by kernel_rfl) _ _ _ hB (RdRegion15 D F c W A w) ⟨Off.refl _ _,hW0,by simp,by simp,by simp,by simp,by simp,by simp,by simp,by simp⟩ ?_ ?_
  · intro s a w' S i' o il ho hsi hT K hK
    have sz:a.tmps.size=139:=by rw [S.off.2.1]; exact hs
    have y0:a.eval (.tmp 0)=.pointer (some ⟨D,0,none⟩):=by rw [S.off.eval (by decide)]; exact x0
    have y6:a.eval (.tmp 6)=.pointer (some ⟨F,0,none⟩):=by rw [S.off.eval (by decide)]; exact x6
    match i',il,ho,hsi,hT with
    | 0,_,ho,hsi,hT=>
      obtain ⟨e1,e2⟩:=pick_of h0 ho
      refine step_val (v:=.pointer (some ⟨D,0,none⟩)) (by simp only [execOp,e1,y0]; go_simp) (hK _ _ ?_)
      rw [e2]
      exact ⟨ofp S.off,by simpa using S.before,ev_ (by omega),kp S.t1,kp S.t2,kp S.t3,kp S.t4,kp S.t5,kp S.t7,kp S.t8⟩
    | 1,_,ho,hsi,hT=>
      obtain ⟨e1,e2⟩:=pick_of h1 ho
      refine step_val (v:=.pointer (some ⟨D,0,none⟩)) (by simp only [execOp,e1,y0]; go_simp) (hK _ _ ?_)
      rw [e2]
      exact ⟨ofp S.off,by simpa using S.before,kp S.t0,ev_ (by omega),kp S.t2,kp S.t3,kp S.t4,kp S.t5,kp S.t7,kp S.t8⟩
    | 2,_,ho,hsi,hT=>
      obtain ⟨e1,e2⟩:=pick_of h2 ho
      refine step_val (v:=.pointer (some ⟨F,2,none⟩)) (by simp only [execOp,e1,y6]; go_simp) (hK _ _ ?_)
      rw [e2]
      exact ⟨ofp S.off,by simpa using S.before,kp S.t0,kp S.t1,ev_ (by omega),kp S.t3,kp S.t4,kp S.t5,kp S.t7,kp S.t8⟩
    | 3,_,ho,hsi,hT=>
      obtain ⟨e1,e2⟩:=pick_of h3 ho
      have D2:s 2=true:=list_pos hT (d:=2) (by decide)
      have BW:=S.before
      have dd:=hV _ _ BW
      refine step_val (v:=.int .i64 (c:Nat)) (by simp only [execOp,e1,S.t2 D2]; go_simp) (hK _ _ ?_)
      rw [e2]
      exact ⟨ofp S.off,by simpa using S.before,kp S.t0,kp S.t1,kp S.t2,ev_ (by omega),kp S.t4,kp S.t5,kp S.t7,kp S.t8⟩
    | 4,_,ho,hsi,hT=>
      obtain ⟨e1,e2⟩:=pick_of h4 ho
      have D0:s 0=true:=list_pos hT (d:=0) (by decide)
      refine step_val (v:=.pointer (some ⟨D,0,none⟩)) (by simp only [execOp,e1,S.t0 D0]; go_simp) (hK _ _ ?_)
      rw [e2]
      exact ⟨ofp S.off,by simpa using S.before,kp S.t0,kp S.t1,kp S.t2,kp S.t3,ev_ (by omega),kp S.t5,kp S.t7,kp S.t8⟩
    | 5,_,ho,hsi,hT=>
      obtain ⟨e1,e2⟩:=pick_of h5 ho
      have D4:s 4=true:=list_pos hT (d:=4) (by decide)
      refine step_val (v:=.pointer (some ⟨D,2,none⟩)) (by simp only [execOp,e1,S.t4 D4]; go_simp) (hK _ _ ?_)
      rw [e2]
      exact ⟨ofp S.off,by simpa using S.before,kp S.t0,kp S.t1,kp S.t2,kp S.t3,kp S.t4,ev_ (by omega),kp S.t7,kp S.t8⟩
    | 6,_,ho,hsi,hT=>
      obtain ⟨e1,e2⟩:=pick_of h6 ho
      have D5:s 5=true:=list_pos hT (d:=5) (by decide)
      have BW:=S.before
      rw [hsi] at BW
      obtain ⟨u,hc,hf,WW0⟩:=hS w' BW
      refine step_to (store_bool e1 (S.t5 D5) rfl hc hf) (hK _ _ ?_)
      have WW:W (if 6=6 then true else s 6) (w'.setCell ⟨D,2,none⟩ (.bool true)):=by simpa using WW0
      rw [e2]
      exact ⟨S.off.put_none _,WW,fun g=>S.t0 (by simpa using g),fun g=>S.t1 (by simpa using g),fun g=>S.t2 (by simpa using g),fun g=>S.t3 (by simpa using g),fun g=>S.t4 (by simpa using g),fun g=>S.t5 (by simpa using g),fun g=>S.t7 (by simpa using g),fun g=>S.t8 (by simpa using g)⟩
    | 7,_,ho,hsi,hT=>
      obtain ⟨e1,e2⟩:=pick_of h7 ho
      have D1:s 1=true:=list_pos hT (d:=1) (by decide)
      refine step_val (v:=.pointer (some ⟨D,0,none⟩)) (by simp only [execOp,e1,S.t1 D1]; go_simp) (hK _ _ ?_)
      rw [e2]
      exact ⟨ofp S.off,by simpa using S.before,kp S.t0,kp S.t1,kp S.t2,kp S.t3,kp S.t4,kp S.t5,ev_ (by omega),kp S.t8⟩
    | 8,_,ho,hsi,hT=>
      obtain ⟨e1,e2⟩:=pick_of h8 ho
      have D7:s 7=true:=list_pos hT (d:=7) (by decide)
      refine step_val (v:=.pointer (some ⟨D,3,none⟩)) (by simp only [execOp,e1,S.t7 D7]; go_simp) (hK _ _ ?_)
      rw [e2]
      exact ⟨ofp S.off,by simpa using S.before,kp S.t0,kp S.t1,kp S.t2,kp S.t3,kp S.t4,kp S.t5,kp S.t7,ev_ (by omega)⟩
    | _ + 9,il,_,_,_=>exact absurd il (by omega)
  intro s a w' S hall
  have a0:=hall 0 (by omega)
  have a1:=hall 1 (by omega)
  have a2:=hall 2 (by omega)
  have a3:=hall 3 (by omega)
  have a4:=hall 4 (by omega)
  have a5:=hall 5 (by omega)
  have a6:=hall 6 (by omega)
  have a7:=hall 7 (by omega)
  have a8:=hall 8 (by omega)
  have e:=off_norm _ (by intro d hd; simp at hd; omega) S.off
  simp only [List.foldl,S.t0 a0,S.t1 a1,S.t2 a2,S.t3 a3,S.t4 a4,S.t5 a5,S.t7 a7,S.t8 a8] at e
  have BW:=S.before
  rw [a6] at BW
  rw [e]
  exact h _ BW
structure RdRegion16 (D q F c:Nat) (b:ByteArray) (W:Bool->Bool->World->Prop) (A:Act) (w0:World) (s:Nat->Bool) (a:Act) (w:World):Prop where
  off:Off [100,101,102,103,104,105,106,107,108,109,110,111] a A
  before:W (s 8) (s 11) w
  t0:s 0=true->a.eval (.tmp 100)=.pointer (some ⟨D,q,none⟩)
  t1:s 1=true->a.eval (.tmp 101)=.pointer (some ⟨D,q,none⟩)
  t2:s 2=true->a.eval (.tmp 102)=.pointer (some ⟨D,q,none⟩)
  t3:s 3=true->a.eval (.tmp 103)=.string b
  t4:s 4=true->a.eval (.tmp 104)=.pointer (some ⟨F,3,none⟩)
  t5:s 5=true->a.eval (.tmp 105)=.int .i64 (c:Nat)
  t6:s 6=true->a.eval (.tmp 106)=.pointer (some ⟨D,q,none⟩)
  t7:s 7=true->a.eval (.tmp 107)=.pointer (some ⟨D,q,none⟩)
  t9:s 9=true->a.eval (.tmp 108)=.pointer (some ⟨D,q,none⟩)
  t10:s 10=true->a.eval (.tmp 109)=.pointer (some ⟨D,q + 1,none⟩)
  t12:s 12=true->a.eval (.tmp 110)=.pointer (some ⟨D,q,none⟩)
  t13:s 13=true->a.eval (.tmp 111)=.pointer (some ⟨D,q + 2,none⟩)
theorem rdRegion16 {id:Nat} {l:List Oper} {A:Act} {w:World} {Q:Exit->Act->World->Prop} (D q F c:Nat) (b:ByteArray) (W:Bool->Bool->World->Prop)
    (hW0:W false false w.drew) (hV:∀ e f w',W e f w'->w'.cell? ⟨F,3,none⟩=some (.int .i64 (c:Nat)))
    (hS1:∀ f w',W false f w'->∃ u,w'.cell? ⟨D,q,none⟩=some u/\w'.frozen? ⟨D,q,none⟩=false/\W true f (w'.setCell ⟨D,q,none⟩ (.bool true)))
    (hS2:∀ e w',W e false w'->∃ u,w'.cell? ⟨D,q + 1,none⟩=some u/\w'.frozen? ⟨D,q + 1,none⟩=false/\W e true (w'.setCell ⟨D,q + 1,none⟩ (.string b)))
    (hB:tableH l.toArray 14 (fun i=>match i with | 0=>[] | 1=>[] | 2=>[] | 3=>[] | 4=>[] | 5=>[4] | 6=>[0] | 7=>[6] | 8=>[7] | 9=>[1] | 10=>[9] | 11=>[10,3] | 12=>[2] | 13=>[12] | _=>[]) (fun _=>[])=true)
    (h0:pick l 0=some (.move (.tmp 9),some 100))
    (h1:pick l 1=some (.move (.tmp 9),some 101))
    (h2:pick l 2=some (.move (.tmp 9),some 102))
    (h3:pick l 3=some (.move (.tmp 1),some 103))
    (h4:pick l 4=some (.fieldAddr 100 (.tmp 6) 3,some 104))
    (h5:pick l 5=some (.load 3 (.tmp 104),some 105))
    (h6:pick l 6=some (.nilCheck (.tmp 100),some 106))
    (h7:pick l 7=some (.fieldAddr 105 (.tmp 106) 0,some 107))
    (h8:pick l 8=some (.store 4 (.tmp 107) (.const (.bool true)),none))
    (h9:pick l 9=some (.nilCheck (.tmp 101),some 108))
    (h10:pick l 10=some (.fieldAddr 105 (.tmp 108) 1,some 109))
    (h11:pick l 11=some (.store 9 (.tmp 109) (.tmp 103),none))
    (h12:pick l 12=some (.nilCheck (.tmp 102),some 110))
    (h13:pick l 13=some (.fieldAddr 105 (.tmp 110) 2,some 111))
    (hs:A.tmps.size=139)
    (x9:A.eval (.tmp 9)=.pointer (some ⟨D,q,none⟩))
    (x1:A.eval (.tmp 1)=.string b)
    (x6:A.eval (.tmp 6)=.pointer (some ⟨F,0,none⟩))
    (h:∀ w1,W true true w1->wpList Tryz.prog l.toArray Q (l.drop 14) ((((((((((((A.put (some 100) (.pointer (some ⟨D,q,none⟩))).put (some 101) (.pointer (some ⟨D,q,none⟩))).put (some 102) (.pointer (some ⟨D,q,none⟩))).put (some 103) (.string b)).put (some 104) (.pointer (some ⟨F,3,none⟩))).put (some 105) (.int .i64 (c:Nat))).put (some 106) (.pointer (some ⟨D,q,none⟩))).put (some 107) (.pointer (some ⟨D,q,none⟩))).put (some 108) (.pointer (some ⟨D,q,none⟩))).put (some 109) (.pointer (some ⟨D,q + 1,none⟩))).put (some 110) (.pointer (some ⟨D,q,none⟩))).put (some 111) (.pointer (some ⟨D,q + 2,none⟩))) w1):
    (Code.region id l.toArray true).wp Tryz.prog Q A w:=by
  refine wp_region_head (by kernel_rfl) _ _ _ hB (RdRegion16 D q F c b W A w) ⟨Off.refl _ _,hW0,by simp,by simp,by simp,by simp,by simp,by simp,by simp,by simp,by simp,by simp,by simp,by simp⟩ ?_ ?_
  · intro s a w' S i' o il ho hsi hT K hK
    have sz:a.tmps.size=139:=by rw [S.off.2.1]; exact hs
    have y9:a.eval (.tmp 9)=.pointer (some ⟨D,q,none⟩):=by rw [S.off.eval (by decide)]; exact x9
    have y1:a.eval (.tmp 1)=.string b:=by rw [S.off.eval (by decide)]; exact x1
    have y6:a.eval (.tmp 6)=.pointer (some ⟨F,0,none⟩):=by rw [S.off.eval (by decide)]; exact x6
    match i',il,ho,hsi,hT with
    | 0,_,ho,hsi,hT=>
      obtain ⟨e1,e2⟩:=pick_of h0 ho
      refine step_val (v:=.pointer (some ⟨D,q,none⟩)) (by simp only [execOp,e1,y9]; go_simp) (hK _ _ ?_)
      rw [e2]
      exact ⟨ofp S.off,by simpa using S.before,ev_ (by omega),kp S.t1,kp S.t2,kp S.t3,kp S.t4,kp S.t5,kp S.t6,kp S.t7,kp S.t9,kp S.t10,kp S.t12,kp S.t13⟩
    | 1,_,ho,hsi,hT=>
      obtain ⟨e1,e2⟩:=pick_of h1 ho
      refine step_val (v:=.pointer (some ⟨D,q,none⟩)) (by simp only [execOp,e1,y9]; go_simp) (hK _ _ ?_)
      rw [e2]
      exact ⟨ofp S.off,by simpa using S.before,kp S.t0,ev_ (by omega),kp S.t2,kp S.t3,kp S.t4,kp S.t5,kp S.t6,kp S.t7,kp S.t9,kp S.t10,kp S.t12,kp S.t13⟩
    | 2,_,ho,hsi,hT=>
      obtain ⟨e1,e2⟩:=pick_of h2 ho
      refine step_val (v:=.pointer (some ⟨D,q,none⟩)) (by simp only [execOp,e1,y9]; go_simp) (hK _ _ ?_)
      rw [e2]
      exact ⟨ofp S.off,by simpa using S.before,kp S.t0,kp S.t1,ev_ (by omega),kp S.t3,kp S.t4,kp S.t5,kp S.t6,kp S.t7,kp S.t9,kp S.t10,kp S.t12,kp S.t13⟩
    | 3,_,ho,hsi,hT=>
      obtain ⟨e1,e2⟩:=pick_of h3 ho
      refine step_val (v:=.string b) (by simp only [execOp,e1,y1]; go_simp) (hK _ _ ?_)
      rw [e2]
      exact ⟨ofp S.off,by simpa using S.before,kp S.t0,kp S.t1,kp S.t2,ev_ (by omega),kp S.t4,kp S.t5,kp S.t6,kp S.t7,kp S.t9,kp S.t10,kp S.t12,kp S.t13⟩
    | 4,_,ho,hsi,hT=>
      obtain ⟨e1,e2⟩:=pick_of h4 ho
      refine step_val (v:=.pointer (some ⟨F,3,none⟩)) (by simp only [execOp,e1,y6]; go_simp) (hK _ _ ?_)
      rw [e2]
      exact ⟨ofp S.off,by simpa using S.before,kp S.t0,kp S.t1,kp S.t2,kp S.t3,ev_ (by omega),kp S.t5,kp S.t6,kp S.t7,kp S.t9,kp S.t10,kp S.t12,kp S.t13⟩
    | 5,_,ho,hsi,hT=>
      obtain ⟨e1,e2⟩:=pick_of h5 ho
      have D4:s 4=true:=list_pos hT (d:=4) (by decide)
      have BW:=S.before
      have dd:=hV _ _ _ BW
      refine step_val (v:=.int .i64 (c:Nat)) (by simp only [execOp,e1,S.t4 D4]; go_simp) (hK _ _ ?_)
      rw [e2]
      exact ⟨ofp S.off,by simpa using S.before,kp S.t0,kp S.t1,kp S.t2,kp S.t3,kp S.t4,ev_ (by omega),kp S.t6,kp S.t7,kp S.t9,kp S.t10,kp S.t12,kp S.t13⟩
    | 6,_,ho,hsi,hT=>
      obtain ⟨e1,e2⟩:=pick_of h6 ho
      have D0:s 0=true:=list_pos hT (d:=0) (by decide)
      refine step_val (v:=.pointer (some ⟨D,q,none⟩)) (by simp only [execOp,e1,S.t0 D0]; go_simp) (hK _ _ ?_)
      rw [e2]
      exact ⟨ofp S.off,by simpa using S.before,kp S.t0,kp S.t1,kp S.t2,kp S.t3,kp S.t4,kp S.t5,ev_ (by omega),kp S.t7,kp S.t9,kp S.t10,kp S.t12,kp S.t13⟩
    | 7,_,ho,hsi,hT=>
      obtain ⟨e1,e2⟩:=pick_of h7 ho
      have D6:s 6=true:=list_pos hT (d:=6) (by decide)
      refine step_val (v:=.pointer (some ⟨D,q,none⟩)) (by simp only [execOp,e1,S.t6 D6]; go_simp) (hK _ _ ?_)
      rw [e2]
      exact ⟨ofp S.off,by simpa using S.before,kp S.t0,kp S.t1,kp S.t2,kp S.t3,kp S.t4,kp S.t5,kp S.t6,ev_ (by omega),kp S.t9,kp S.t10,kp S.t12,kp S.t13⟩
    | 8,_,ho,hsi,hT=>
      obtain ⟨e1,e2⟩:=pick_of h8 ho
      have D7:s 7=true:=list_pos hT (d:=7) (by decide)
      have BW:=S.before
      rw [hsi] at BW
      obtain ⟨u,hc,hf,WW0⟩:=hS1 _ w' BW
      refine step_to (store_bool e1 (S.t7 D7) rfl hc hf) (hK _ _ ?_)
      have WW:W (if 8=8 then true else s 8) (if 11=8 then true else s 11) (w'.setCell ⟨D,q,none⟩ (.bool true)):=by simpa using WW0
      rw [e2]
      exact ⟨S.off.put_none _,WW,fun g=>S.t0 (by simpa using g),fun g=>S.t1 (by simpa using g),fun g=>S.t2 (by simpa using g),fun g=>S.t3 (by simpa using g),fun g=>S.t4 (by simpa using g),fun g=>S.t5 (by simpa using g),fun g=>S.t6 (by simpa using g),fun g=>S.t7 (by simpa using g),fun g=>S.t9 (by simpa using g),fun g=>S.t10 (by simpa using g),fun g=>S.t12 (by simpa using g),fun g=>S.t13 (by simpa using g)⟩
    | 9,_,ho,hsi,hT=>
      obtain ⟨e1,e2⟩:=pick_of h9 ho
      have D1:s 1=true:=list_pos hT (d:=1) (by decide)
      refine step_val (v:=.pointer (some ⟨D,q,none⟩)) (by simp only [execOp,e1,S.t1 D1]; go_simp) (hK _ _ ?_)
      rw [e2]
      exact ⟨ofp S.off,by simpa using S.before,kp S.t0,kp S.t1,kp S.t2,kp S.t3,kp S.t4,kp S.t5,kp S.t6,kp S.t7,ev_ (by omega),kp S.t10,kp S.t12,kp S.t13⟩
    | 10,_,ho,hsi,hT=>
      obtain ⟨e1,e2⟩:=pick_of h10 ho
      have D9:s 9=true:=list_pos hT (d:=9) (by decide)
      refine step_val (v:=.pointer (some ⟨D,q + 1,none⟩)) (by simp only [execOp,e1,S.t9 D9]; go_simp) (hK _ _ ?_)
      rw [e2]
      exact ⟨ofp S.off,by simpa using S.before,kp S.t0,kp S.t1,kp S.t2,kp S.t3,kp S.t4,kp S.t5,kp S.t6,kp S.t7,kp S.t9,ev_ (by omega),kp S.t12,kp S.t13⟩
    | 11,_,ho,hsi,hT=>
      obtain ⟨e1,e2⟩:=pick_of h11 ho
      have D10:s 10=true:=list_pos hT (d:=10) (by decide)
      have D3:s 3=true:=list_pos hT (d:=3) (by decide)
      have BW:=S.before
      rw [hsi] at BW
      obtain ⟨u,hc,hf,WW0⟩:=hS2 _ w' BW
      refine step_to (store_str e1 (S.t10 D10) (S.t3 D3) hc hf) (hK _ _ ?_)
      have WW:W (if 8=11 then true else s 8) (if 11=11 then true else s 11) (w'.setCell ⟨D,q + 1,none⟩ (.string b)):=by simpa using WW0
      rw [e2]
      exact ⟨S.off.put_none _,WW,fun g=>S.t0 (by simpa using g),fun g=>S.t1 (by simpa using g),fun g=>S.t2 (by simpa using g),fun g=>S.t3 (by simpa using g),fun g=>S.t4 (by simpa using g),fun g=>S.t5 (by simpa using g),fun g=>S.t6 (by simpa using g),fun g=>S.t7 (by simpa using g),fun g=>S.t9 (by simpa using g),fun g=>S.t10 (by simpa using g),fun g=>S.t12 (by simpa using g),fun g=>S.t13 (by simpa using g)⟩
    | 12,_,ho,hsi,hT=>
      obtain ⟨e1,e2⟩:=pick_of h12 ho
      have D2:s 2=true:=list_pos hT (d:=2) (by decide)
      refine step_val (v:=.pointer (some ⟨D,q,none⟩)) (by simp only [execOp,e1,S.t2 D2]; go_simp) (hK _ _ ?_)
      rw [e2]
      exact ⟨ofp S.off,by simpa using S.before,kp S.t0,kp S.t1,kp S.t2,kp S.t3,kp S.t4,kp S.t5,kp S.t6,kp S.t7,kp S.t9,kp S.t10,ev_ (by omega),kp S.t13⟩
    | 13,_,ho,hsi,hT=>
      obtain ⟨e1,e2⟩:=pick_of h13 ho
      have D12:s 12=true:=list_pos hT (d:=12) (by decide)
      refine step_val (v:=.pointer (some ⟨D,q + 2,none⟩)) (by simp only [execOp,e1,S.t12 D12]; go_simp) (hK _ _ ?_)
      rw [e2]
      exact ⟨ofp S.off,by simpa using S.before,kp S.t0,kp S.t1,kp S.t2,kp S.t3,kp S.t4,kp S.t5,kp S.t6,kp S.t7,kp S.t9,kp S.t10,kp S.t12,ev_ (by omega)⟩
    | _ + 14,il,_,_,_=>exact absurd il (by omega)
  intro s a w' S hall
  have a0:=hall 0 (by omega)
  have a1:=hall 1 (by omega)
  have a2:=hall 2 (by omega)
  have a3:=hall 3 (by omega)
  have a4:=hall 4 (by omega)
  have a5:=hall 5 (by omega)
  have a6:=hall 6 (by omega)
  have a7:=hall 7 (by omega)
  have a8:=hall 8 (by omega)
  have a9:=hall 9 (by omega)
  have a10:=hall 10 (by omega)
  have a11:=hall 11 (by omega)
  have a12:=hall 12 (by omega)
  have a13:=hall 13 (by omega)
  have e:=off_norm _ (by intro d hd; simp at hd; omega) S.off
  simp only [List.foldl,S.t0 a0,S.t1 a1,S.t2 a2,S.t3 a3,S.t4 a4,S.t5 a5,S.t6 a6,S.t7 a7,S.t9 a9,S.t10 a10,S.t12 a12,S.t13 a13] at e
  have BW:=S.before
  rw [a8,a11] at BW
  rw [e]
  exact h _ BW
end Go.Proofs.YtchfkncbemjepaaGreat

/- Layer 11, the reference: Feed of its demux. -/
namespace Go.Proofs.YtchfkncbemjepaaGreat
open Go.RowKit

def Fq (w:World) (n0 D:Nat) (b:ByteArray) (x:Ch.Dx) (e:Ending) (w':World):Prop:=∃ v,e=.returned (.tuple #[avVal v (x.feed b).1,.int .i64 (x.feed b).2.1])/\w'.ownsRow w.heap.size 9 1 v (x.feed b).1.pk.length (bsVs (x.feed b).1.pk)/\QD w' n0 D (x.feed b).2.2/\KF n0 (·=D) (·=D) w w'
theorem Fq.err {w w':World} {n0 D:Nat} {b:ByteArray} {x:Ch.Dx} {k:Int} (h:QD w n0 D x) (hn0:n0<=w.heap.size) (e:x.feed b=(Ch.av0,k,x)) (hb:Below w.heap.size w w'):Fq w n0 D b x (.returned (.tuple #[avVal (.slice none 0 0) Ch.av0,.int .i64 k])) w':=by
  unfold Fq
  rw [e]
  exact ⟨_,rfl,World.ownsRow_nil _ _ _ _,h.below hb,KF.of_below hb hn0⟩
theorem fq_fin {w w5 w9 w10:World} {n0 D A R:Nat} {x y:Ch.Dx} {v:Value} {a:Ch.Av} (h:QD w n0 D x) (hn0:n0<=w.heap.size) (b:Below w.heap.size w w5) (d:DR w5 D A (dY y) v a w9) (u:But R w9 w10) (hR:w.heap.size<=R) (tR:TyB w9 R 51):
    w10.ownsRow w.heap.size 9 1 v a.pk.length (bsVs a.pk)/\QD w10 n0 D y/\KF n0 (·=D) (·=D) w w10:=by
  have nD:D ≠ R:=ty_ne d.dt tR (by decide)
  have hD:=h.dl
  refine ⟨own_but (own_mono d.row b.size) u (fun e=>ty_ne (own_ty d.row e).2 tR (by decide) rfl),⟨hD,d.dt.but u nD,d.dc.but u nD⟩,⟨((b.mono hn0).trans (d.fr.below.mono hD)).trans (u.below.mono (Nat.le_trans hn0 hR)),fun g hg hn=>?_,fun g hg=>.inl hg⟩⟩
  have g5:=Nat.lt_of_lt_of_le hg b.size
  rw [u.rest g (Nat.lt_of_lt_of_le g5 d.fr.below.size) (by omega),d.fr.rest g g5 hn,b.block g hg]
theorem QD.craft {w:World} {n0 D:Nat} {x:Ch.Dx} (h:QD w n0 D x):w.cell? ⟨D,0,none⟩=some (.int .i64 (x.craft:Nat)):=h.c.cell (j:=0) (by omega)
theorem QD.sz {w:World} {n0 D:Nat} {x:Ch.Dx} (h:QD w n0 D x):w.cell? ⟨D,1,none⟩=some (.int .i64 (x.n:Nat)):=h.c.cell (j:=1) (by omega)
theorem QD.hmb {w:World} {n0 D:Nat} {x:Ch.Dx} (h:QD w n0 D x):w.cell? ⟨D,2,none⟩=some (.bool x.mb):=h.c.cell (j:=2) (by omega)
theorem rFeed_e {w:World} {n0 D:Nat} {x:Ch.Dx} (h:QD w n0 D x) (hn0:n0<=w.heap.size) (b:ByteArray) (hb:b.size<=1000000) (he:(Tm.get b.data.toList).2 ≠ 0):Calls Tryz.prog 23 #[.pointer (some ⟨D,0,none⟩),.string b] w (Fq w n0 D b x):=by
  have GT:=Lib.hid (fun w=>rtget_any b (by unfold maxLen; omega) w)
  obtain ⟨fr,hfr⟩:∃ z,(Tm.get b.data.toList).1=z:=⟨_,rfl⟩
  obtain ⟨k,hk⟩:∃ z,(Tm.get b.data.toList).2=z:=⟨_,rfl⟩
  rw [hfr,hk] at GT
  have RES:=Lib.hid (show x.feed b=(Ch.av0,k,x) by rw [<-hk]; exact if_pos he)
  rw [hk] at he
  have p1:(k != (0:Int))=true:=by rw [bne_iff_ne]; exact he
  clear hfr hk he hb
  go_enter Tryz.func23,Tryz.ntmps23
  go_wp2_with ((with_reducible refine atList ?_); refine wpList_newT rfl (.alloc 51) rfl (some 4) rfl #[.int .i64 0,.bool false,.int .i64 0,.int .i64 0,.slice none 0 0,.int .i64 0,.int .u32 0] 51 (fun X=>.pointer (some ⟨X,0,none⟩)) 7 (aC (.slice none 0 0) Ch.av0) (arC_cells (.slice none 0 0) Ch.av0) (alloc_ar rfl) ?_; intro R w1 HR SR CR BR TR)
  (refine (GT.out w1).mono ?_)
  rintro e w2 ⟨rfl,b2⟩
  have B2:=Lib.hid (bt BR.out b2)
  have CR2:=Lib.hid (CR.out.below b2)
  have TR2:=Lib.hid (TR.out.below b2)
  clear b2
  go_upto_region 2 with (first
    | ((with_reducible refine atList ?_); refine wpList_newT rfl (.alloc 100) rfl (some 6) rfl #[.int .i64 0,.int .i64 0,.int .i64 0,.int .i64 0,.int .i64 0,.string ⟨#[]⟩,.int .u32 0] 100 (fun X=>.pointer (some ⟨X,0,none⟩)) 7 (tmCel tm0) (tm_cells tm0) (alloc_tm rfl) ?_; intro F w3 HF SF CF BF TF0)
    | ((with_reducible refine atList ?_); refine wpList_setAllT rfl 100 (.tmp 6) (.tmp 13) rfl F 7 [.int .i64 fr.cr,.int .i64 fr.ch,.int .i64 fr.ma,.int .i64 fr.ct,.int .i64 fr.fi,.string fr.da,.int .u32 (fr.wo:Nat)] _ (tmCel fr) CF.out rfl (tm_list fr) rfl rfl tm_info (by simp [Value.oneCell']) ?_; intro w4 C4 U4 S4 V4))
  have B4:=Lib.hid (show Below w.heap.size w w4 from But.under (bt B2.out BF.out) U4.out (by have:=HF.out; have:=B2.out.size; omega))
  have nFR:=Lib.hid (show R ≠ F from fun e=>by have:=TR2.out.lt; have:=HF.out; omega)
  have CR4:=Lib.hid ((CR2.out.below BF.out).but U4.out nFR.out)
  have TR4:=Lib.hid ((TR2.out.below BF.out).but U4.out nFR.out)
  have TF4:=Lib.hid (V4.out _ TF0.out)
  have H4:=Lib.hid (h.below B4.out)
  have RW:=Lib.hid (show w.heap.size<=R by have:=HR.out; omega)
  have FW:=Lib.hid (show w.heap.size<=F by have:=HF.out; have:=B2.out.size; omega)
  clear B2 CR2 TR2 HF SF CF BF TF0 HR SR CR BR TR U4 S4 V4
  go_wp2_with ((with_reducible refine atList ?_); refine wpList_setAllT rfl 51 (.tmp 4) (.tmp 17) rfl R 7 [.int .i64 0,.bool false,.int .i64 0,.int .i64 0,.slice none 0 0,.int .i64 0,.int .u32 0] _ (aC (.slice none 0 0) Ch.av0) CR4.out rfl (arC_list (.slice none 0 0) Ch.av0) rfl rfl info_ar (by simp [Value.oneCell']) ?_; intro w9 Cw9 Uw9 Sw9 Vw9)
  have RA:=Cw9.out.rangeAll [.int .i64 0,.bool false,.int .i64 0,.int .i64 0,.slice none 0 0,.int .i64 0,.int .u32 0] rfl (arC_list (.slice none 0 0) Ch.av0)
  have RR:=fun tmps hp=>results_cell_t1 (P:=Tryz.prog) Tryz.results23 tmps w9 R [.int .i64 0,.bool false,.int .i64 0,.int .i64 0,.slice none 0 0,.int .i64 0,.int .u32 0] _ hp RA Tryz.underlying51 rfl info_ar
  refine bodyPost_ret (RR _ rfl) rfl ?_
  exact Fq.err h hn0 RES.out (But.under B4.out Uw9.out RW.out)
theorem rFeed_a {w:World} {n0 D:Nat} {x:Ch.Dx} (h:QD w n0 D x) (hn0:n0<=w.heap.size) (b:ByteArray) (hb:b.size<=1000000) (he:(Tm.get b.data.toList).2=0) (hc:(Tm.get b.data.toList).1.cr ≠ x.craft\/(Tm.get b.data.toList).1.da.size ≠ x.n):Calls Tryz.prog 23 #[.pointer (some ⟨D,0,none⟩),.string b] w (Fq w n0 D b x):=by
  have GT:=Lib.hid (fun w=>rtget_any b (by unfold maxLen; omega) w)
  obtain ⟨fr,hfr⟩:∃ z,(Tm.get b.data.toList).1=z:=⟨_,rfl⟩
  obtain ⟨k,hk⟩:∃ z,(Tm.get b.data.toList).2=z:=⟨_,rfl⟩
  rw [hfr,hk] at GT
  have RES:=Lib.hid (show x.feed b=(Ch.av0,2,x) by unfold Ch.Dx.feed; rw [if_neg (by rw [he]; simp),if_pos hc])
  rw [hfr] at hc
  rw [hk] at he
  subst he
  clear hfr hk hb
  go_enter Tryz.func23,Tryz.ntmps23
  go_wp2_with ((with_reducible refine atList ?_); refine wpList_newT rfl (.alloc 51) rfl (some 4) rfl #[.int .i64 0,.bool false,.int .i64 0,.int .i64 0,.slice none 0 0,.int .i64 0,.int .u32 0] 51 (fun X=>.pointer (some ⟨X,0,none⟩)) 7 (aC (.slice none 0 0) Ch.av0) (arC_cells (.slice none 0 0) Ch.av0) (alloc_ar rfl) ?_; intro R w1 HR SR CR BR TR)
  (refine (GT.out w1).mono ?_)
  rintro e w2 ⟨rfl,b2⟩
  have B2:=Lib.hid (bt BR.out b2)
  have CR2:=Lib.hid (CR.out.below b2)
  have TR2:=Lib.hid (TR.out.below b2)
  clear b2
  go_upto_region 2 with (first
    | ((with_reducible refine atList ?_); refine wpList_newT rfl (.alloc 100) rfl (some 6) rfl #[.int .i64 0,.int .i64 0,.int .i64 0,.int .i64 0,.int .i64 0,.string ⟨#[]⟩,.int .u32 0] 100 (fun X=>.pointer (some ⟨X,0,none⟩)) 7 (tmCel tm0) (tm_cells tm0) (alloc_tm rfl) ?_; intro F w3 HF SF CF BF TF0)
    | ((with_reducible refine atList ?_); refine wpList_setAllT rfl 100 (.tmp 6) (.tmp 13) rfl F 7 [.int .i64 fr.cr,.int .i64 fr.ch,.int .i64 fr.ma,.int .i64 fr.ct,.int .i64 fr.fi,.string fr.da,.int .u32 (fr.wo:Nat)] _ (tmCel fr) CF.out rfl (tm_list fr) rfl rfl tm_info (by simp [Value.oneCell']) ?_; intro w4 C4 U4 S4 V4))
  have B4:=Lib.hid (show Below w.heap.size w w4 from But.under (bt B2.out BF.out) U4.out (by have:=HF.out; have:=B2.out.size; omega))
  have nFR:=Lib.hid (show R ≠ F from fun e=>by have:=TR2.out.lt; have:=HF.out; omega)
  have CR4:=Lib.hid ((CR2.out.below BF.out).but U4.out nFR.out)
  have TR4:=Lib.hid ((TR2.out.below BF.out).but U4.out nFR.out)
  have TF4:=Lib.hid (V4.out _ TF0.out)
  have H4:=Lib.hid (h.below B4.out)
  have RW:=Lib.hid (show w.heap.size<=R by have:=HR.out; omega)
  have FW:=Lib.hid (show w.heap.size<=F by have:=HF.out; have:=B2.out.size; omega)
  clear B2 CR2 TR2 HF SF CF BF TF0 HR SR CR BR TR U4 S4 V4
  have k0:w4.cell? ⟨F,0,none⟩=some (.int .i64 fr.cr):=C4.out.cell (j:=0) (by omega)
  have k5:w4.cell? ⟨F,5,none⟩=some (.string fr.da):=C4.out.cell (j:=5) (by omega)
  have d0:=H4.out.craft
  have d1:=H4.out.sz
  by_cases g:fr.cr=(x.craft:Int)
  · have p1:(fr.cr != ((x.craft:Nat):Int))=false:=by rw [bne_eq_false_iff_eq]; exact g
    have g2:fr.da.size ≠ x.n:=by rcases hc with h | h; exact absurd g h; exact h
    have p2:(((fr.da.size:Nat):Int) != ((x.n:Nat):Int))=true:=by rw [bne_iff_ne]; omega
    have p2n:(fr.da.size != x.n)=true:=by rw [bne_iff_ne]; exact g2
    clear hc g2
    go_wp2_with fail
    go_quiet (fail)
    go_wp2_with ((with_reducible refine atList ?_); refine wpList_setAllT rfl 51 (.tmp 4) (.tmp 36) rfl R 7 [.int .i64 0,.bool false,.int .i64 0,.int .i64 0,.slice none 0 0,.int .i64 0,.int .u32 0] _ (aC (.slice none 0 0) Ch.av0) (CR4.out.below (below_drewN (Below.refl _ _) _)) rfl (arC_list (.slice none 0 0) Ch.av0) rfl rfl info_ar (by simp [Value.oneCell']) ?_; intro w9 Cw9 Uw9 Sw9 Vw9)
    have RA:=Cw9.out.rangeAll [.int .i64 0,.bool false,.int .i64 0,.int .i64 0,.slice none 0 0,.int .i64 0,.int .u32 0] rfl (arC_list (.slice none 0 0) Ch.av0)
    have RR:=fun tmps hp=>results_cell_t1 (P:=Tryz.prog) Tryz.results23 tmps w9 R [.int .i64 0,.bool false,.int .i64 0,.int .i64 0,.slice none 0 0,.int .i64 0,.int .u32 0] _ hp RA Tryz.underlying51 rfl info_ar
    refine bodyPost_ret (RR _ rfl) rfl ?_
    exact Fq.err h hn0 RES.out (But.under (bt B4.out (below_drewN (Below.refl _ _) _)) Uw9.out RW.out)
  have p1:(fr.cr != ((x.craft:Nat):Int))=true:=by rw [bne_iff_ne]; exact g
  clear hc g
  go_wp2_with fail
  go_quiet (fail)
  go_wp2_with ((with_reducible refine atList ?_); refine wpList_setAllT rfl 51 (.tmp 4) (.tmp 36) rfl R 7 [.int .i64 0,.bool false,.int .i64 0,.int .i64 0,.slice none 0 0,.int .i64 0,.int .u32 0] _ (aC (.slice none 0 0) Ch.av0) (CR4.out.below (below_drewN (Below.refl _ _) _)) rfl (arC_list (.slice none 0 0) Ch.av0) rfl rfl info_ar (by simp [Value.oneCell']) ?_; intro w9 Cw9 Uw9 Sw9 Vw9)
  have RA:=Cw9.out.rangeAll [.int .i64 0,.bool false,.int .i64 0,.int .i64 0,.slice none 0 0,.int .i64 0,.int .u32 0] rfl (arC_list (.slice none 0 0) Ch.av0)
  have RR:=fun tmps hp=>results_cell_t1 (P:=Tryz.prog) Tryz.results23 tmps w9 R [.int .i64 0,.bool false,.int .i64 0,.int .i64 0,.slice none 0 0,.int .i64 0,.int .u32 0] _ hp RA Tryz.underlying51 rfl info_ar
  refine bodyPost_ret (RR _ rfl) rfl ?_
  exact Fq.err h hn0 RES.out (But.under (bt B4.out (below_drewN (Below.refl _ _) _)) Uw9.out RW.out)
theorem rFeed_d {w:World} {n0 D:Nat} {x:Ch.Dx} (h:QD w n0 D x) (hn0:n0<=w.heap.size) (b:ByteArray) (hb:b.size<=1000000) (he:(Tm.get b.data.toList).2=0) (hc:¬ ((Tm.get b.data.toList).1.cr ≠ x.craft\/(Tm.get b.data.toList).1.da.size ≠ x.n)) (hi:∀ i,i < 8->(x.ch i).bg=false->(x.ch i).fr=⟨#[]⟩) (hd:(x.ch (Tm.get b.data.toList).1.ch.toNat).fr=b):Calls Tryz.prog 23 #[.pointer (some ⟨D,0,none⟩),.string b] w (Fq w n0 D b x):=by
  have GT:=Lib.hid (fun w=>rtget_any b (by unfold maxLen; omega) w)
  obtain ⟨fr,hfr⟩:∃ z,(Tm.get b.data.toList).1=z:=⟨_,rfl⟩
  obtain ⟨k,hk⟩:∃ z,(Tm.get b.data.toList).2=z:=⟨_,rfl⟩
  rw [hfr,hk] at GT
  have FE:=Lib.hid (show x.feed b=(⟨fr.ch.toNat,true,0,0,0,fr.wo,[]⟩,0,x) by
    unfold Ch.Dx.feed; rw [if_neg (by rw [he]; simp),if_neg hc,if_pos hd,hfr])
  have he0:=he
  have hok:Tm.Ok fr:=by rw [<-hfr]; exact (Tm.get_ok he).1
  have FOK:=Lib.hid hok
  obtain ⟨c,ma,ct,hch,hma,hct,c8,ma8,ct8⟩:=frm_nums hok
  rw [hfr] at hc
  rw [hk] at he
  subst he
  have hcr:fr.cr=(x.craft:Int):=Classical.byContradiction (fun e=>hc (.inl e))
  have hN:fr.da.size=x.n:=Classical.byContradiction (fun e=>hc (.inr e))
  have p1:(fr.cr != ((x.craft:Nat):Int))=false:=by rw [hcr]; simp
  have p2:(((fr.da.size:Nat):Int) != ((x.n:Nat):Int))=false:=by rw [hN]; simp
  have p2n:(fr.da.size != x.n)=false:=by rw [hN]; simp
  have HNN:=Lib.hid hN
  have HCH:=Lib.hid hch
  have HMA:=Lib.hid hma
  have HCT:=Lib.hid hct
  have C8:=Lib.hid c8
  have N8:=Lib.hid (And.intro ma8 ct8)
  have i0:(0:Int)<=(c:Int):=by omega
  have i1:(c:Int) < 8:=by omega
  obtain ⟨q,hq⟩:∃ q,4 + c * 5=q:=⟨_,rfl⟩
  have HQ:=Lib.hid hq
  have HDD:=Lib.hid h
  have HBZ:=Lib.hid hb
  rw [hfr,show fr.ch.toNat=c by rw [hch]; rfl] at hd
  have hbg:(x.ch c).bg=true:=by
    cases e:(x.ch c).bg with
    | true=>rfl
    | false=>
      have z:=hi c c8 e
      rw [hd] at z
      rw [z] at he0
      exact absurd he0 (by decide +kernel)
  rw [show fr.ch.toNat=c by rw [hch]; rfl] at FE
  clear he0 hi hfr hk hb hc hch hma hct hcr hN c8 ma8 ct8 hok hq
  go_enter Tryz.func23,Tryz.ntmps23
  go_wp2_with ((with_reducible refine atList ?_); refine wpList_newT rfl (.alloc 51) rfl (some 4) rfl #[.int .i64 0,.bool false,.int .i64 0,.int .i64 0,.slice none 0 0,.int .i64 0,.int .u32 0] 51 (fun X=>.pointer (some ⟨X,0,none⟩)) 7 (aC (.slice none 0 0) Ch.av0) (arC_cells (.slice none 0 0) Ch.av0) (alloc_ar rfl) ?_; intro R w1 HR SR CR BR TR)
  (refine (GT.out w1).mono ?_)
  rintro e w2 ⟨rfl,b2⟩
  have B2:=Lib.hid (bt BR.out b2)
  have CR2:=Lib.hid (CR.out.below b2)
  have TR2:=Lib.hid (TR.out.below b2)
  clear b2
  go_upto_region 2 with (first
    | ((with_reducible refine atList ?_); refine wpList_newT rfl (.alloc 100) rfl (some 6) rfl #[.int .i64 0,.int .i64 0,.int .i64 0,.int .i64 0,.int .i64 0,.string ⟨#[]⟩,.int .u32 0] 100 (fun X=>.pointer (some ⟨X,0,none⟩)) 7 (tmCel tm0) (tm_cells tm0) (alloc_tm rfl) ?_; intro F w3 HF SF CF BF TF0)
    | ((with_reducible refine atList ?_); refine wpList_setAllT rfl 100 (.tmp 6) (.tmp 13) rfl F 7 [.int .i64 fr.cr,.int .i64 fr.ch,.int .i64 fr.ma,.int .i64 fr.ct,.int .i64 fr.fi,.string fr.da,.int .u32 (fr.wo:Nat)] _ (tmCel fr) CF.out rfl (tm_list fr) rfl rfl tm_info (by simp [Value.oneCell']) ?_; intro w4 C4 U4 S4 V4))
  have B4:=Lib.hid (show Below w.heap.size w w4 from But.under (bt B2.out BF.out) U4.out (by have:=HF.out; have:=B2.out.size; omega))
  have nFR:=Lib.hid (show R ≠ F from fun e=>by have:=TR2.out.lt; have:=HF.out; omega)
  have CR4:=Lib.hid ((CR2.out.below BF.out).but U4.out nFR.out)
  have TR4:=Lib.hid ((TR2.out.below BF.out).but U4.out nFR.out)
  have TF4:=Lib.hid (V4.out _ TF0.out)
  have H4:=Lib.hid (h.below B4.out)
  have RW:=Lib.hid (show w.heap.size<=R by have:=HR.out; omega)
  have FW:=Lib.hid (show w.heap.size<=F by have:=HF.out; have:=B2.out.size; omega)
  clear B2 CR2 TR2 HF SF CF BF TF0 HR SR CR BR TR U4 S4 V4
  have k0:w4.cell? ⟨F,0,none⟩=some (.int .i64 fr.cr):=C4.out.cell (j:=0) (by omega)
  have k1:w4.cell? ⟨F,1,none⟩=some (.int .i64 (c:Nat)):=by rw [<-HCH.out]; exact C4.out.cell (j:=1) (by omega)
  have k5:w4.cell? ⟨F,5,none⟩=some (.string fr.da):=C4.out.cell (j:=5) (by omega)
  have k6:w4.cell? ⟨F,6,none⟩=some (.int .u32 (fr.wo:Nat)):=C4.out.cell (j:=6) (by omega)
  have d0:=H4.out.craft
  have d1:=H4.out.sz
  go_wp2_with fail
  go_quiet (fail)
  rename Nat=>nq0
  obtain ⟨w5,hw5⟩:∃ z,w4.drewN nq0=z:=⟨_,rfl⟩
  have b45:=Lib.hid (show Below w4.heap.size w4 w5 by rw [<-hw5]; exact below_drewN (Below.refl _ _) _)
  rw [hw5]
  have B5:=Lib.hid (bt B4.out b45.out)
  have H5:=Lib.hid (H4.out.below b45.out)
  have C5:=Lib.hid (C4.out.below b45.out)
  have CR5:=Lib.hid (CR4.out.below b45.out)
  have TR5:=Lib.hid (TR4.out.below b45.out)
  have TF5:=Lib.hid (TF4.out.below b45.out)
  have k1':w5.cell? ⟨F,1,none⟩=some (.int .i64 (c:Nat)):=by rw [<-HCH.out]; exact C5.out.cell (j:=1) (by omega)
  have k6':w5.cell? ⟨F,6,none⟩=some (.int .u32 (fr.wo:Nat)):=C5.out.cell (j:=6) (by omega)
  clear hw5 b45 B4 H4 C4 CR4 TR4 TF4 k0 k1 k5 k6 d0 d1 p1 p2 p2n
  go_upto_region 7 with (first
    | ((with_reducible refine atList ?_); refine wpList_newT rfl (.alloc 51) rfl (some 8) rfl #[.int .i64 0,.bool false,.int .i64 0,.int .i64 0,.slice none 0 0,.int .i64 0,.int .u32 0] 51 (fun X=>.pointer (some ⟨X,0,none⟩)) 7 (aC (.slice none 0 0) Ch.av0) (arC_cells (.slice none 0 0) Ch.av0) (alloc_ar rfl) ?_; intro A w6 HA SA CA BA TA)
    | ((with_reducible refine atList ?_); refine wpList_setAllT rfl 51 (.tmp 8) (.tmp 41) rfl A 7 [.int .i64 (c:Nat),.bool false,.int .i64 0,.int .i64 0,.slice none 0 0,.int .i64 0,.int .u32 (fr.wo:Nat)] _ (aC (.slice none 0 0) ⟨c,false,0,0,0,fr.wo,[]⟩) CA.out rfl (arC_list (.slice none 0 0) ⟨c,false,0,0,0,fr.wo,[]⟩) rfl rfl info_ar (by simp [Value.oneCell']) ?_; intro w7 Cw7 Uw7 Sw7 Vw7))
  have DR7:=Lib.hid (show DR w5 D A (dY x) (.slice none 0 0) ⟨c,false,0,0,0,fr.wo,[]⟩ w7 from by
    have bz:Below w5.heap.size w5 w7:=But.under BA.out Uw7.out (by have:=HA.out; omega)
    exact ⟨H5.out.dt.lt,H5.out.dt.below bz,H5.out.c.below bz,by have:=HA.out; omega,Vw7.out _ TA.out,Cw7.out,World.ownsRow_nil _ _ _ _,KF.of_below bz (Nat.le_of_lt H5.out.dt.lt)⟩)
  have B7:=Lib.hid (show Below w5.heap.size w5 w7 from But.under BA.out Uw7.out (by have:=HA.out; omega))
  have k1:w7.cell? ⟨F,1,none⟩=some (.int .i64 (c:Nat)):=(B7.out.cell (p:=⟨F,1,none⟩) TF5.out.lt).trans k1'
  clear HA SA CA BA TA Cw7 Uw7 Sw7 Vw7 k1' k6'
  go_quiet (fail)
  rename Nat=>nq1
  obtain ⟨w8,hw8⟩:∃ z,w7.drewN nq1=z:=⟨_,rfl⟩
  have b78:=Lib.hid (show Below w7.heap.size w7 w8 by rw [<-hw8]; exact below_drewN (Below.refl _ _) _)
  rw [hw8]
  have D8':=Lib.hid (DR7.out.below b78.out)
  clear hw8 b78 DR7 B7 k1
  rw [HQ.out]
  have q0:w8.cell? ⟨D,q + 0,none⟩=some (.bool (x.ch c).bg):=by have:=D8'.out.dc.cell (j:=4 + c * 5 + 0) (by have:=C8.out; omega); rw [dY_in x (by omega),HQ.out] at this; exact this
  have q1:w8.cell? ⟨D,q + 1,none⟩=some (.string (x.ch c).fr):=by have:=D8'.out.dc.cell (j:=4 + c * 5 + 1) (by have:=C8.out; omega); rw [dY_in x (by omega),HQ.out] at this; exact this
  rw [hbg] at q0
  rw [hd] at q1
  have q0':w8.cell? ⟨D,q,none⟩=some (.bool true):=q0
  have s1:(b == b)=true:=beqC _
  have s2:(b.toList == b.toList)=true:=by simp
  have nRD:=Lib.hid (show R ≠ D from fun e=>by have:=RW.out; have:=HDD.out.dt.lt; omega)
  have kR:=D8'.out.fr.rest R TR5.out.lt nRD.out
  have CR8:=Lib.hid (CR5.out.of_block kR)
  have TR8:=Lib.hid (TR5.out.of_block kR)
  have nRA:=Lib.hid (show R ≠ A from fun e=>by have:=D8'.out.al; have:=TR5.out.lt; omega)
  have a1:w8.cell? ⟨A,1,none⟩=some (.bool false):=D8'.out.ac.cell (j:=1) (by omega)
  clear kR hbg hd
  go_wp2_with (first
    | ((with_reducible refine atList ?_); refine wpList_setT rfl (.store 4 (.tmp 60) (.const (.bool true))) rfl A 1 7 (.bool true) _ (aC (.slice none 0 0) ⟨c,true,0,0,0,fr.wo,[]⟩) D8'.out.ac (by omega) (fun j hj=>by match j,hj with | 0,_=>rfl | 1,_=>rfl | 2,_=>rfl | 3,_=>rfl | 4,_=>rfl | 5,_=>rfl | 6,_=>rfl) (store_bool rfl rfl rfl (D8'.out.ac.cell (j:=1) (by omega)) (D8'.out.ac.frozen (j:=1) (by omega))) ?_; intro w9 C9 U9 S9 V9)
    | ((with_reducible refine atList ?_); refine wpList_getAll rfl 51 (.tmp 8) rfl A 7 [.int .i64 (c:Nat),.bool true,.int .i64 0,.int .i64 0,.slice none 0 0,.int .i64 0,.int .u32 (fr.wo:Nat)] (aC (.slice none 0 0) ⟨c,true,0,0,0,fr.wo,[]⟩) _ C9.out rfl (arC_list (.slice none 0 0) ⟨c,true,0,0,0,fr.wo,[]⟩) rfl Tryz.underlying51 rfl info_ar ?_)
    | ((with_reducible refine atList ?_); refine wpList_setAllT rfl 51 (.tmp 4) (.tmp 61) rfl R 7 [.int .i64 (c:Nat),.bool true,.int .i64 0,.int .i64 0,.slice none 0 0,.int .i64 0,.int .u32 (fr.wo:Nat)] _ (aC (.slice none 0 0) ⟨c,true,0,0,0,fr.wo,[]⟩) (CR8.out.but U9.out nRA.out) rfl (arC_list (.slice none 0 0) ⟨c,true,0,0,0,fr.wo,[]⟩) rfl rfl info_ar (by simp [Value.oneCell']) ?_; intro w10 Cw10 Uw10 Sw10 Vw10))
  have RA:=Cw10.out.rangeAll [.int .i64 (c:Nat),.bool true,.int .i64 0,.int .i64 0,.slice none 0 0,.int .i64 0,.int .u32 (fr.wo:Nat)] rfl (arC_list (.slice none 0 0) ⟨c,true,0,0,0,fr.wo,[]⟩)
  have RR:=fun tmps hp=>results_cell_t1 (P:=Tryz.prog) Tryz.results23 tmps w10 R [.int .i64 (c:Nat),.bool true,.int .i64 0,.int .i64 0,.slice none 0 0,.int .i64 0,.int .u32 (fr.wo:Nat)] _ hp RA Tryz.underlying51 rfl info_ar
  refine bodyPost_ret (RR _ rfl) rfl ?_
  have D9:=D8'.out.setA (a':=⟨c,true,0,0,0,fr.wo,[]⟩) U9.out C9.out (V9.out _ D8'.out.at') (World.ownsRow_nil _ _ _ _)
  have Z:=fq_fin HDD.out hn0 B5.out D9 Uw10.out RW.out (TR8.out.but U9.out nRA.out)
  unfold Fq
  rw [FE.out]
  exact ⟨_,rfl,Z.1,Z.2.1,Z.2.2⟩
end Go.Proofs.YtchfkncbemjepaaGreat
