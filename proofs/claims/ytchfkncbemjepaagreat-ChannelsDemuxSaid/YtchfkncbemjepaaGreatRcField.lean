/- RcField -/
import Derived.Test.YtchfkncbemjepaaGreatRcDem
import Derived.Test.YtchfkncbemjepaaGreatChTake
set_option linter.unusedVariables false
set_option maxRecDepth 100000
set_option maxHeartbeats 16000000
/- Layer 11, the reference: the data of a frame: drawn regions. -/
namespace Go.Proofs.YtchfkncbemjepaaGreat
open Go.RowKit

structure RfRegion3 (D q F t:Nat) (pt da s1 s2:ByteArray) (A:Act) (w0:World) (s:Nat->Bool) (a:Act) (w:World):Prop where
  off:Off [26,27,28,29,30,31,32,33,34,35,36,37] a A
  before:Below w0.heap.size w0 w
  t0:s 0=true->a.eval (.tmp 26)=.pointer (some ⟨D,q,none⟩)
  t1:s 1=true->a.eval (.tmp 27)=.pointer (some ⟨D,q,none⟩)
  t2:s 2=true->a.eval (.tmp 28)=.pointer (some ⟨D,q,none⟩)
  t3:s 3=true->a.eval (.tmp 29)=.pointer (some ⟨D,q + 4,none⟩)
  t4:s 4=true->a.eval (.tmp 30)=.string pt
  t5:s 5=true->a.eval (.tmp 31)=.pointer (some ⟨F,5,none⟩)
  t6:s 6=true->a.eval (.tmp 32)=.string da
  t7:s 7=true->a.eval (.tmp 33)=.int .i64 (t:Nat)
  t8:s 8=true->a.eval (.tmp 34)=.string s1
  t9:s 9=true->a.eval (.tmp 35)=.string s2
  t10:s 10=true->a.eval (.tmp 36)=.pointer (some ⟨D,q,none⟩)
  t11:s 11=true->a.eval (.tmp 37)=.pointer (some ⟨D,q + 4,none⟩)
theorem rfRegion3 {id:Nat} {l:List Oper} {A:Act} {w:World} {Q:Exit->Act->World->Prop} (D q F t:Nat) (pt da s1 s2:ByteArray)
    (lD:D < w.heap.size) (lF:F < w.heap.size) (kP:w.cell? ⟨D,q + 4,none⟩=some (.string pt)) (kD:w.cell? ⟨F,5,none⟩=some (.string da)) (ht:t<=da.size) (hS:da.extract 0 t=s1) (hS2:pt ++ s1=s2) (hz:pt.size + s1.size<=9223372036854775807)
    (hB:tableH l.toArray 12 (fun i=>match i with | 0=>[] | 1=>[] | 2=>[1] | 3=>[2] | 4=>[3] | 5=>[] | 6=>[5] | 7=>[] | 8=>[6,7] | 9=>[4,8] | 10=>[0] | 11=>[10] | _=>[]) (fun _=>[])=true)
    (h0:pick l 0=some (.move (.tmp 1),some 26))
    (h1:pick l 1=some (.move (.tmp 1),some 27))
    (h2:pick l 2=some (.nilCheck (.tmp 27),some 28))
    (h3:pick l 3=some (.fieldAddr 105 (.tmp 28) 4,some 29))
    (h4:pick l 4=some (.load 9 (.tmp 29),some 30))
    (h5:pick l 5=some (.fieldAddr 100 (.tmp 7) 5,some 31))
    (h6:pick l 6=some (.load 9 (.tmp 31),some 32))
    (h7:pick l 7=some (.move (.tmp 8),some 33))
    (h8:pick l 8=some (.slice 9 (.tmp 32) none (some (.tmp 33)) none,some 34))
    (h9:pick l 9=some (.binOp .add 9 (.tmp 30) (.tmp 34) 9,some 35))
    (h10:pick l 10=some (.nilCheck (.tmp 26),some 36))
    (h11:pick l 11=some (.fieldAddr 105 (.tmp 36) 4,some 37))
    (hs:A.tmps.size=138)
    (x1:A.eval (.tmp 1)=.pointer (some ⟨D,q,none⟩))
    (x7:A.eval (.tmp 7)=.pointer (some ⟨F,0,none⟩))
    (x8:A.eval (.tmp 8)=.int .i64 (t:Nat))
    (h:∀ w1,Below w.heap.size w w1->wpList Tryz.prog l.toArray Q (l.drop 12) ((((((((((((A.put (some 26) (.pointer (some ⟨D,q,none⟩))).put (some 27) (.pointer (some ⟨D,q,none⟩))).put (some 28) (.pointer (some ⟨D,q,none⟩))).put (some 29) (.pointer (some ⟨D,q + 4,none⟩))).put (some 30) (.string pt)).put (some 31) (.pointer (some ⟨F,5,none⟩))).put (some 32) (.string da)).put (some 33) (.int .i64 (t:Nat))).put (some 34) (.string s1)).put (some 35) (.string s2)).put (some 36) (.pointer (some ⟨D,q,none⟩))).put (some 37) (.pointer (some ⟨D,q + 4,none⟩))) w1):
    (Code.region id l.toArray true).wp Tryz.prog Q A w:=by
  refine wp_region_head (by kernel_rfl) _ _ _ hB (RfRegion3 D q F t pt da s1 s2 A w) ⟨Off.refl _ _,(Below.refl _ _).drew,by simp,by simp,by simp,by simp,by simp,by simp,by simp,by simp,by simp,by simp,by simp,by simp⟩ ?_ ?_
  · intro s a w' S i' o il ho hsi hT K hK
    have sz:a.tmps.size=138:=by rw [S.off.2.1]; exact hs
    have y1:a.eval (.tmp 1)=.pointer (some ⟨D,q,none⟩):=by rw [S.off.eval (by decide)]; exact x1
    have y7:a.eval (.tmp 7)=.pointer (some ⟨F,0,none⟩):=by rw [S.off.eval (by decide)]; exact x7
    have y8:a.eval (.tmp 8)=.int .i64 (t:Nat):=by rw [S.off.eval (by decide)]; exact x8
    match i',il,ho,hsi,hT with
    | 0,_,ho,hsi,hT=>
      obtain ⟨e1,e2⟩:=pick_of h0 ho
      refine step_val (v:=.pointer (some ⟨D,q,none⟩)) (by simp only [execOp,e1,y1]; go_simp) (hK _ _ ?_)
      rw [e2]
      exact ⟨ofp S.off,S.before,ev_ (by omega),kp S.t1,kp S.t2,kp S.t3,kp S.t4,kp S.t5,kp S.t6,kp S.t7,kp S.t8,kp S.t9,kp S.t10,kp S.t11⟩
    | 1,_,ho,hsi,hT=>
      obtain ⟨e1,e2⟩:=pick_of h1 ho
      refine step_val (v:=.pointer (some ⟨D,q,none⟩)) (by simp only [execOp,e1,y1]; go_simp) (hK _ _ ?_)
      rw [e2]
      exact ⟨ofp S.off,S.before,kp S.t0,ev_ (by omega),kp S.t2,kp S.t3,kp S.t4,kp S.t5,kp S.t6,kp S.t7,kp S.t8,kp S.t9,kp S.t10,kp S.t11⟩
    | 2,_,ho,hsi,hT=>
      obtain ⟨e1,e2⟩:=pick_of h2 ho
      have D1:s 1=true:=list_pos hT (d:=1) (by decide)
      refine step_val (v:=.pointer (some ⟨D,q,none⟩)) (by simp only [execOp,e1,S.t1 D1]; go_simp) (hK _ _ ?_)
      rw [e2]
      exact ⟨ofp S.off,S.before,kp S.t0,kp S.t1,ev_ (by omega),kp S.t3,kp S.t4,kp S.t5,kp S.t6,kp S.t7,kp S.t8,kp S.t9,kp S.t10,kp S.t11⟩
    | 3,_,ho,hsi,hT=>
      obtain ⟨e1,e2⟩:=pick_of h3 ho
      have D2:s 2=true:=list_pos hT (d:=2) (by decide)
      refine step_val (v:=.pointer (some ⟨D,q + 4,none⟩)) (by simp only [execOp,e1,S.t2 D2]; go_simp) (hK _ _ ?_)
      rw [e2]
      exact ⟨ofp S.off,S.before,kp S.t0,kp S.t1,kp S.t2,ev_ (by omega),kp S.t4,kp S.t5,kp S.t6,kp S.t7,kp S.t8,kp S.t9,kp S.t10,kp S.t11⟩
    | 4,_,ho,hsi,hT=>
      obtain ⟨e1,e2⟩:=pick_of h4 ho
      have D3:s 3=true:=list_pos hT (d:=3) (by decide)
      have BW:=S.before
      have dp:=(BW.cell (p:=⟨D,q + 4,none⟩) lD).trans kP
      refine step_val (v:=.string pt) (by simp only [execOp,e1,S.t3 D3]; go_simp) (hK _ _ ?_)
      rw [e2]
      exact ⟨ofp S.off,S.before,kp S.t0,kp S.t1,kp S.t2,kp S.t3,ev_ (by omega),kp S.t5,kp S.t6,kp S.t7,kp S.t8,kp S.t9,kp S.t10,kp S.t11⟩
    | 5,_,ho,hsi,hT=>
      obtain ⟨e1,e2⟩:=pick_of h5 ho
      refine step_val (v:=.pointer (some ⟨F,5,none⟩)) (by simp only [execOp,e1,y7]; go_simp) (hK _ _ ?_)
      rw [e2]
      exact ⟨ofp S.off,S.before,kp S.t0,kp S.t1,kp S.t2,kp S.t3,kp S.t4,ev_ (by omega),kp S.t6,kp S.t7,kp S.t8,kp S.t9,kp S.t10,kp S.t11⟩
    | 6,_,ho,hsi,hT=>
      obtain ⟨e1,e2⟩:=pick_of h6 ho
      have D5:s 5=true:=list_pos hT (d:=5) (by decide)
      have BW:=S.before
      have dd:=(BW.cell (p:=⟨F,5,none⟩) lF).trans kD
      refine step_val (v:=.string da) (by simp only [execOp,e1,S.t5 D5]; go_simp) (hK _ _ ?_)
      rw [e2]
      exact ⟨ofp S.off,S.before,kp S.t0,kp S.t1,kp S.t2,kp S.t3,kp S.t4,kp S.t5,ev_ (by omega),kp S.t7,kp S.t8,kp S.t9,kp S.t10,kp S.t11⟩
    | 7,_,ho,hsi,hT=>
      obtain ⟨e1,e2⟩:=pick_of h7 ho
      refine step_val (v:=.int .i64 (t:Nat)) (by simp only [execOp,e1,y8]; go_simp) (hK _ _ ?_)
      rw [e2]
      exact ⟨ofp S.off,S.before,kp S.t0,kp S.t1,kp S.t2,kp S.t3,kp S.t4,kp S.t5,kp S.t6,ev_ (by omega),kp S.t8,kp S.t9,kp S.t10,kp S.t11⟩
    | 8,_,ho,hsi,hT=>
      obtain ⟨e1,e2⟩:=pick_of h8 ho
      have D6:s 6=true:=list_pos hT (d:=6) (by decide)
      have D7:s 7=true:=list_pos hT (d:=7) (by decide)
      have q33:a.tmps[33]'(by omega)=.int .i64 (t:Nat):=by have:=S.t7 D7; simpa [Act.eval,sz] using this
      refine step_val (v:=.string s1) (by simp only [execOp,e1,Option.map_none,Option.map_some,S.t6 D6]; first | (go_simp; done) | (go_simp; simp [hS]; done) | (go_simp; omega) | (go_simp; rw [run_slice_string (P:=Tryz.prog) (w:=w') 9 da .i64 .i64 0 (t:Nat) Tryz.underlying9]; first | done | (go_simp; done) | (simp [hS]; omega) | (simp [hS]))) (hK _ _ ?_)
      rw [e2]
      exact ⟨ofp S.off,S.before,kp S.t0,kp S.t1,kp S.t2,kp S.t3,kp S.t4,kp S.t5,kp S.t6,kp S.t7,ev_ (by omega),kp S.t9,kp S.t10,kp S.t11⟩
    | 9,_,ho,hsi,hT=>
      obtain ⟨e1,e2⟩:=pick_of h9 ho
      have D4:s 4=true:=list_pos hT (d:=4) (by decide)
      have D8:s 8=true:=list_pos hT (d:=8) (by decide)
      refine step_val (v:=.string s2) (by simp only [execOp,e1,S.t4 D4,S.t8 D8]; first | (go_simp; done) | (go_simp; rw [hS2]; done) | (go_simp; rw [hS2]; omega) | (go_simp; omega) | (rw [<-hS2]; go_simp; omega) | (go_simp; rw [<-hS2]; omega)) (hK _ _ ?_)
      rw [e2]
      exact ⟨ofp S.off,S.before,kp S.t0,kp S.t1,kp S.t2,kp S.t3,kp S.t4,kp S.t5,kp S.t6,kp S.t7,kp S.t8,ev_ (by omega),kp S.t10,kp S.t11⟩
    | 10,_,ho,hsi,hT=>
      obtain ⟨e1,e2⟩:=pick_of h10 ho
      have D0:s 0=true:=list_pos hT (d:=0) (by decide)
      refine step_val (v:=.pointer (some ⟨D,q,none⟩)) (by simp only [execOp,e1,S.t0 D0]; go_simp) (hK _ _ ?_)
      rw [e2]
      exact ⟨ofp S.off,S.before,kp S.t0,kp S.t1,kp S.t2,kp S.t3,kp S.t4,kp S.t5,kp S.t6,kp S.t7,kp S.t8,kp S.t9,ev_ (by omega),kp S.t11⟩
    | 11,_,ho,hsi,hT=>
      obtain ⟨e1,e2⟩:=pick_of h11 ho
      have D10:s 10=true:=list_pos hT (d:=10) (by decide)
      refine step_val (v:=.pointer (some ⟨D,q + 4,none⟩)) (by simp only [execOp,e1,S.t10 D10]; go_simp) (hK _ _ ?_)
      rw [e2]
      exact ⟨ofp S.off,S.before,kp S.t0,kp S.t1,kp S.t2,kp S.t3,kp S.t4,kp S.t5,kp S.t6,kp S.t7,kp S.t8,kp S.t9,kp S.t10,ev_ (by omega)⟩
    | _ + 12,il,_,_,_=>exact absurd il (by omega)
  intro s a w' S hall
  have a0:=hall 0 (by omega)
  have a1:=hall 1 (by omega)
  have a2:=hall 2 (by omega)
  have a3:=hall 3 (by omega)
  have a4:=hall 4 (by omega)
  have a5:=hall 5 (by omega)
  have a6:=hall 6 (by omega)
  have a7:=hall 7 (by omega)
  have a8:=hall 8 (by omega)
  have a9:=hall 9 (by omega)
  have a10:=hall 10 (by omega)
  have a11:=hall 11 (by omega)
  have e:=off_norm _ (by intro d hd; simp at hd; omega) S.off
  simp only [List.foldl,S.t0 a0,S.t1 a1,S.t2 a2,S.t3 a3,S.t4 a4,S.t5 a5,S.t6 a6,S.t7 a7,S.t8 a8,S.t9 a9,S.t10 a10,S.t11 a11] at e
  rw [e]
  exact h _ S.before
structure RfRegion16 (D q F t:Nat) (da s1:ByteArray) (W:Bool->World->Prop) (A:Act) (w0:World) (s:Nat->Bool) (a:Act) (w:World):Prop where
  off:Off [107,108,109,110,111,112,113,114,115,116] a A
  before:W (s 8) w
  t0:s 0=true->a.eval (.tmp 107)=.pointer (some ⟨D,q,none⟩)
  t1:s 1=true->a.eval (.tmp 108)=.pointer (some ⟨D,q,none⟩)
  t2:s 2=true->a.eval (.tmp 109)=.pointer (some ⟨F,5,none⟩)
  t3:s 3=true->a.eval (.tmp 110)=.string da
  t4:s 4=true->a.eval (.tmp 111)=.int .i64 (t:Nat)
  t5:s 5=true->a.eval (.tmp 112)=.string s1
  t6:s 6=true->a.eval (.tmp 113)=.pointer (some ⟨D,q,none⟩)
  t7:s 7=true->a.eval (.tmp 114)=.pointer (some ⟨D,q + 3,none⟩)
  t9:s 9=true->a.eval (.tmp 115)=.pointer (some ⟨D,q,none⟩)
  t10:s 10=true->a.eval (.tmp 116)=.pointer (some ⟨D,q + 4,none⟩)
theorem rfRegion16 {id:Nat} {l:List Oper} {A:Act} {w:World} {Q:Exit->Act->World->Prop} (D q F t:Nat) (da s1:ByteArray) (W:Bool->World->Prop)
    (hW0:W false w.drew) (hV:∀ b w',W b w'->w'.cell? ⟨F,5,none⟩=some (.string da)) (ht:t<=da.size) (hS1:da.extract t da.size=s1)
    (hS:∀ w',W false w'->∃ u,w'.cell? ⟨D,q + 3,none⟩=some u/\w'.frozen? ⟨D,q + 3,none⟩=false/\W true (w'.setCell ⟨D,q + 3,none⟩ (.bool true)))
    (hB:tableH l.toArray 11 (fun i=>match i with | 0=>[] | 1=>[] | 2=>[] | 3=>[2] | 4=>[] | 5=>[3,4] | 6=>[0] | 7=>[6] | 8=>[7] | 9=>[1] | 10=>[9] | _=>[]) (fun _=>[])=true)
    (h0:pick l 0=some (.move (.tmp 1),some 107))
    (h1:pick l 1=some (.move (.tmp 1),some 108))
    (h2:pick l 2=some (.fieldAddr 100 (.tmp 7) 5,some 109))
    (h3:pick l 3=some (.load 9 (.tmp 109),some 110))
    (h4:pick l 4=some (.move (.tmp 8),some 111))
    (h5:pick l 5=some (.slice 9 (.tmp 110) (some (.tmp 111)) none none,some 112))
    (h6:pick l 6=some (.nilCheck (.tmp 107),some 113))
    (h7:pick l 7=some (.fieldAddr 105 (.tmp 113) 3,some 114))
    (h8:pick l 8=some (.store 4 (.tmp 114) (.const (.bool true)),none))
    (h9:pick l 9=some (.nilCheck (.tmp 108),some 115))
    (h10:pick l 10=some (.fieldAddr 105 (.tmp 115) 4,some 116))
    (hs:A.tmps.size=138)
    (x1:A.eval (.tmp 1)=.pointer (some ⟨D,q,none⟩))
    (x7:A.eval (.tmp 7)=.pointer (some ⟨F,0,none⟩))
    (x8:A.eval (.tmp 8)=.int .i64 (t:Nat))
    (h:∀ w1,W true w1->wpList Tryz.prog l.toArray Q (l.drop 11) ((((((((((A.put (some 107) (.pointer (some ⟨D,q,none⟩))).put (some 108) (.pointer (some ⟨D,q,none⟩))).put (some 109) (.pointer (some ⟨F,5,none⟩))).put (some 110) (.string da)).put (some 111) (.int .i64 (t:Nat))).put (some 112) (.string s1)).put (some 113) (.pointer (some ⟨D,q,none⟩))).put (some 114) (.pointer (some ⟨D,q + 3,none⟩))).put (some 115) (.pointer (some ⟨D,q,none⟩))).put (some 116) (.pointer (some ⟨D,q + 4,none⟩))) w1):
    (Code.region id l.toArray true).wp Tryz.prog Q A w:=by
  refine wp_region_head (by kernel_rfl) _ _ _ hB (RfRegion16 D q F t da s1 W A w) ⟨Off.refl _ _,hW0,by simp,by simp,by simp,by simp,by simp,by simp,by simp,by simp,by simp,by simp⟩ ?_ ?_
  · intro s a w' S i' o il ho hsi hT K hK
    have sz:a.tmps.size=138:=by rw [S.off.2.1]; exact hs
    have y1:a.eval (.tmp 1)=.pointer (some ⟨D,q,none⟩):=by rw [S.off.eval (by decide)]; exact x1
    have y7:a.eval (.tmp 7)=.pointer (some ⟨F,0,none⟩):=by rw [S.off.eval (by decide)]; exact x7
    have y8:a.eval (.tmp 8)=.int .i64 (t:Nat):=by rw [S.off.eval (by decide)]; exact x8
    match i',il,ho,hsi,hT with
    | 0,_,ho,hsi,hT=>
      obtain ⟨e1,e2⟩:=pick_of h0 ho
      refine step_val (v:=.pointer (some ⟨D,q,none⟩)) (by simp only [execOp,e1,y1]; go_simp) (hK _ _ ?_)
      rw [e2]
      exact ⟨ofp S.off,by simpa using S.before,ev_ (by omega),kp S.t1,kp S.t2,kp S.t3,kp S.t4,kp S.t5,kp S.t6,kp S.t7,kp S.t9,kp S.t10⟩
    | 1,_,ho,hsi,hT=>
      obtain ⟨e1,e2⟩:=pick_of h1 ho
      refine step_val (v:=.pointer (some ⟨D,q,none⟩)) (by simp only [execOp,e1,y1]; go_simp) (hK _ _ ?_)
      rw [e2]
      exact ⟨ofp S.off,by simpa using S.before,kp S.t0,ev_ (by omega),kp S.t2,kp S.t3,kp S.t4,kp S.t5,kp S.t6,kp S.t7,kp S.t9,kp S.t10⟩
    | 2,_,ho,hsi,hT=>
      obtain ⟨e1,e2⟩:=pick_of h2 ho
      refine step_val (v:=.pointer (some ⟨F,5,none⟩)) (by simp only [execOp,e1,y7]; go_simp) (hK _ _ ?_)
      rw [e2]
      exact ⟨ofp S.off,by simpa using S.before,kp S.t0,kp S.t1,ev_ (by omega),kp S.t3,kp S.t4,kp S.t5,kp S.t6,kp S.t7,kp S.t9,kp S.t10⟩
    | 3,_,ho,hsi,hT=>
      obtain ⟨e1,e2⟩:=pick_of h3 ho
      have D2:s 2=true:=list_pos hT (d:=2) (by decide)
      have BW:=S.before
      have dd:=hV _ _ BW
      refine step_val (v:=.string da) (by simp only [execOp,e1,S.t2 D2]; go_simp) (hK _ _ ?_)
      rw [e2]
      exact ⟨ofp S.off,by simpa using S.before,kp S.t0,kp S.t1,kp S.t2,ev_ (by omega),kp S.t4,kp S.t5,kp S.t6,kp S.t7,kp S.t9,kp S.t10⟩
    | 4,_,ho,hsi,hT=>
      obtain ⟨e1,e2⟩:=pick_of h4 ho
      refine step_val (v:=.int .i64 (t:Nat)) (by simp only [execOp,e1,y8]; go_simp) (hK _ _ ?_)
      rw [e2]
      exact ⟨ofp S.off,by simpa using S.before,kp S.t0,kp S.t1,kp S.t2,kp S.t3,ev_ (by omega),kp S.t5,kp S.t6,kp S.t7,kp S.t9,kp S.t10⟩
    | 5,_,ho,hsi,hT=>
      obtain ⟨e1,e2⟩:=pick_of h5 ho
      have D3:s 3=true:=list_pos hT (d:=3) (by decide)
      have D4:s 4=true:=list_pos hT (d:=4) (by decide)
      have q111:a.tmps[111]'(by omega)=.int .i64 (t:Nat):=by have:=S.t4 D4; simpa [Act.eval,sz] using this
      refine step_val (v:=.string s1) (by simp only [execOp,e1,Option.map_none,Option.map_some,S.t3 D3]; first | (go_simp; done) | (go_simp; simp [hS1]; done) | (go_simp; omega) | (go_simp; rw [run_slice_string (P:=Tryz.prog) (w:=w') 9 da .i64 .i64 (t:Nat) (da.size:Nat) Tryz.underlying9]; first | done | (go_simp; done) | (simp [hS1]; omega) | (simp [hS1]))) (hK _ _ ?_)
      rw [e2]
      exact ⟨ofp S.off,by simpa using S.before,kp S.t0,kp S.t1,kp S.t2,kp S.t3,kp S.t4,ev_ (by omega),kp S.t6,kp S.t7,kp S.t9,kp S.t10⟩
    | 6,_,ho,hsi,hT=>
      obtain ⟨e1,e2⟩:=pick_of h6 ho
      have D0:s 0=true:=list_pos hT (d:=0) (by decide)
      refine step_val (v:=.pointer (some ⟨D,q,none⟩)) (by simp only [execOp,e1,S.t0 D0]; go_simp) (hK _ _ ?_)
      rw [e2]
      exact ⟨ofp S.off,by simpa using S.before,kp S.t0,kp S.t1,kp S.t2,kp S.t3,kp S.t4,kp S.t5,ev_ (by omega),kp S.t7,kp S.t9,kp S.t10⟩
    | 7,_,ho,hsi,hT=>
      obtain ⟨e1,e2⟩:=pick_of h7 ho
      have D6:s 6=true:=list_pos hT (d:=6) (by decide)
      refine step_val (v:=.pointer (some ⟨D,q + 3,none⟩)) (by simp only [execOp,e1,S.t6 D6]; go_simp) (hK _ _ ?_)
      rw [e2]
      exact ⟨ofp S.off,by simpa using S.before,kp S.t0,kp S.t1,kp S.t2,kp S.t3,kp S.t4,kp S.t5,kp S.t6,ev_ (by omega),kp S.t9,kp S.t10⟩
    | 8,_,ho,hsi,hT=>
      obtain ⟨e1,e2⟩:=pick_of h8 ho
      have D7:s 7=true:=list_pos hT (d:=7) (by decide)
      have BW:=S.before
      rw [hsi] at BW
      obtain ⟨u,hc,hf,WW0⟩:=hS w' BW
      refine step_to (store_bool e1 (S.t7 D7) rfl hc hf) (hK _ _ ?_)
      have WW:W (if 8=8 then true else s 8) (w'.setCell ⟨D,q + 3,none⟩ (.bool true)):=by simpa using WW0
      rw [e2]
      exact ⟨S.off.put_none _,WW,fun g=>S.t0 (by simpa using g),fun g=>S.t1 (by simpa using g),fun g=>S.t2 (by simpa using g),fun g=>S.t3 (by simpa using g),fun g=>S.t4 (by simpa using g),fun g=>S.t5 (by simpa using g),fun g=>S.t6 (by simpa using g),fun g=>S.t7 (by simpa using g),fun g=>S.t9 (by simpa using g),fun g=>S.t10 (by simpa using g)⟩
    | 9,_,ho,hsi,hT=>
      obtain ⟨e1,e2⟩:=pick_of h9 ho
      have D1:s 1=true:=list_pos hT (d:=1) (by decide)
      refine step_val (v:=.pointer (some ⟨D,q,none⟩)) (by simp only [execOp,e1,S.t1 D1]; go_simp) (hK _ _ ?_)
      rw [e2]
      exact ⟨ofp S.off,by simpa using S.before,kp S.t0,kp S.t1,kp S.t2,kp S.t3,kp S.t4,kp S.t5,kp S.t6,kp S.t7,ev_ (by omega),kp S.t10⟩
    | 10,_,ho,hsi,hT=>
      obtain ⟨e1,e2⟩:=pick_of h10 ho
      have D9:s 9=true:=list_pos hT (d:=9) (by decide)
      refine step_val (v:=.pointer (some ⟨D,q + 4,none⟩)) (by simp only [execOp,e1,S.t9 D9]; go_simp) (hK _ _ ?_)
      rw [e2]
      exact ⟨ofp S.off,by simpa using S.before,kp S.t0,kp S.t1,kp S.t2,kp S.t3,kp S.t4,kp S.t5,kp S.t6,kp S.t7,kp S.t9,ev_ (by omega)⟩
    | _ + 11,il,_,_,_=>exact absurd il (by omega)
  intro s a w' S hall
  have a0:=hall 0 (by omega)
  have a1:=hall 1 (by omega)
  have a2:=hall 2 (by omega)
  have a3:=hall 3 (by omega)
  have a4:=hall 4 (by omega)
  have a5:=hall 5 (by omega)
  have a6:=hall 6 (by omega)
  have a7:=hall 7 (by omega)
  have a8:=hall 8 (by omega)
  have a9:=hall 9 (by omega)
  have a10:=hall 10 (by omega)
  have e:=off_norm _ (by intro d hd; simp at hd; omega) S.off
  simp only [List.foldl,S.t0 a0,S.t1 a1,S.t2 a2,S.t3 a3,S.t4 a4,S.t5 a5,S.t6 a6,S.t7 a7,S.t9 a9,S.t10 a10] at e
  have BW:=S.before
  rw [a8] at BW
  rw [e]
  exact h _ BW
end Go.Proofs.YtchfkncbemjepaaGreat

/- Layer 11, the reference: the data of a frame. -/
namespace Go.Proofs.YtchfkncbemjepaaGreat
open Go.RowKit

theorem cutL (s:ByteArray) (k:Nat):(s.extract 0 k).data.toList=s.data.toList.take k:=by
  rw [ext_list _ _ _ (Nat.zero_le _),List.drop_zero]
theorem restL (s:ByteArray) (k:Nat) (h:k<=s.size):(s.extract k s.size).data.toList=s.data.toList.drop k:=by
  rw [ext_list _ _ _ h,List.take_of_length_le (by rw [ls]; exact Nat.le_refl _)]
theorem appL (a b:ByteArray):(a ++ b).data.toList=a.data.toList ++ b.data.toList:=by simp
theorem kept_cons (y:Pkt × List UInt8) (L:List (Pkt × List UInt8)):Ch.kept (y :: L)=Ch.kept [y] ++ Ch.kept L:=Ch.kept_app [y] L
theorem begin_ok {l:List UInt8} {p:Pkt} {k:Nat} (h:Pk.take l=.ok p k):Ch.begin l=((Ch.begin (l.drop k)).1,Ch.kept [(p,l.take k)] ++ (Ch.begin (l.drop k)).2.1,(Ch.begin (l.drop k)).2.2):=by
  obtain ⟨k7,kl,_⟩:=Ch.take_pos h
  obtain ⟨f,hf⟩:∃ f,l.length=f + 1:=⟨l.length - 1,by omega⟩
  have e:Ch.pks l.length l=((p,l.take k) :: (Ch.pks (l.drop k).length (l.drop k)).1,(Ch.pks (l.drop k).length (l.drop k)).2):=by
    rw [hf,Ch.pks_ok h,Ch.pks_more f (l.drop k).length (l.drop k) (by rw [List.length_drop]; omega) (Nat.le_refl _)]
  unfold Ch.begin
  rw [e]
  dsimp only
  split
  · rw [kept_cons]
  rw [kept_cons]
theorem begin_none {l:List UInt8} (h:Pk.take l=.none):Ch.begin l=(l,[],0):=by
  have e:Ch.pks l.length l=([],l):=Ch.pks_no (fun p k=>by rw [h]; simp)
  unfold Ch.begin
  rw [e]
  dsimp only
  rw [h]
  rfl
theorem begin_form {l:List UInt8} (h:Pk.take l=.form):Ch.begin l=([],[],1):=by
  have e:Ch.pks l.length l=([],l):=Ch.pks_no (fun p k=>by rw [h]; simp)
  unfold Ch.begin
  rw [e]
  dsimp only
  rw [h]
  rfl
theorem gt_take {l:List UInt8} {p:Pkt} {k:Nat} (h:Pk.take l=.ok p k):Pk.gt (l.take k)=(p,0):=by
  obtain ⟨_,_,_,e,o⟩:=Ch.take_pos h
  have t:=Pk.take_enc o []
  rw [List.append_nil] at t
  unfold Pk.gt
  rw [e,t]
  simp
theorem arr_kept {l:List UInt8} {p:Pkt} {k:Nat} (h:Pk.take l=.ok p k):(if (Pk.gt (l.take k)).1.ap=2047 then [] else [l.take k])=Ch.kept [(p,l.take k)]:=by
  rw [gt_take h,Ch.kept_one]
theorem goOn_ok {pt more:List UInt8} {op:Bool} {p:Pkt} {k:Nat} (h0:pt ≠ []) (h:Pk.take (pt ++ more)=.ok p k) (hk:k=(pt ++ more).length):Ch.goOn pt more op=([],Ch.kept [(p,pt ++ more)],0):=by
  unfold Ch.goOn
  rw [if_neg h0,h]
  dsimp only
  rw [if_pos hk]
theorem goOn_short {pt more:List UInt8} {op:Bool} {p:Pkt} {k:Nat} (h0:pt ≠ []) (h:Pk.take (pt ++ more)=.ok p k) (hk:¬ k=(pt ++ more).length):Ch.goOn pt more op=([],[],1):=by
  unfold Ch.goOn
  rw [if_neg h0,h]
  dsimp only
  rw [if_neg hk]
theorem goOn_stay {pt more:List UInt8} (h0:pt ≠ []) (h:Pk.take (pt ++ more)=.none):Ch.goOn pt more true=(pt ++ more,[],0):=by
  unfold Ch.goOn
  rw [if_neg h0,h]
  rfl
theorem goOn_cut {pt more:List UInt8} (h0:pt ≠ []) (h:Pk.take (pt ++ more)=.none):Ch.goOn pt more false=([],[],1):=by
  unfold Ch.goOn
  rw [if_neg h0,h]
  rfl
theorem goOn_form {pt more:List UInt8} {op:Bool} (h0:pt ≠ []) (h:Pk.take (pt ++ more)=.form):Ch.goOn pt more op=([],[],1):=by
  unfold Ch.goOn
  rw [if_neg h0,h]
theorem goOn_nil {more:List UInt8} {op:Bool}:Ch.goOn [] more op=([],[],0):=by
  unfold Ch.goOn
  rw [if_pos rfl]
theorem tk_whole (pt d:List UInt8) (hd:d.length<=2047):Ch.tk pt 0 2047 d=Ch.goOn pt (d.take 2047) true:=by
  rw [tk_cases pt 0 2047 d (pt,0) (by rw [if_neg (by simp)]),if_neg (by omega),if_pos rfl,List.take_of_length_le hd]
  simp
theorem tk_begin (pt d:List UInt8) (fi:Nat) (h1:fi ≠ 2046) (h2:fi ≠ 2047):Ch.tk pt 0 fi d=((Ch.begin (d.drop fi)).1,(Ch.goOn pt (d.take fi) false).2.1 ++ (Ch.begin (d.drop fi)).2.1,(Ch.goOn pt (d.take fi) false).2.2 + (Ch.begin (d.drop fi)).2.2):=by
  rw [tk_cases pt 0 fi d (pt,0) (by rw [if_neg (by simp)]),if_neg h1,if_neg h2]
  simp
theorem DR.brk {W0 w w':World} {D A:Nat} {f:Nat->Value} {v:Value} {a:Ch.Av} {n:Nat} (h:DR W0 D A f v a w) (u:But A w w') (c:Cel w' A 7 (aC v { a with br:=n })) (t:TyB w' A 51):DR W0 D A f v { a with br:=n } w':=
  h.setA u c t (own_but h.row u (fun e=>ty_ne (own_ty h.row e).2 h.at' (by decide) rfl))
theorem sub_list (s:ByteArray) (k n:Nat) (h:k + n<=s.size):s.extract k (k + n)=bs ((s.data.toList.drop k).take n):=by
  apply ByteArray.ext
  apply Array.toList_inj.1
  rw [bs_list,ByteArray.data_extract,Array.toList_extract]
  simp
structure FdI (W0 w:World) (D A F:Nat) (x:Ch.Dx) (q:Nat) (z:Zs) (v:Value) (a:Ch.Av) (fr:Tmf) (wr:World):Prop where
  d:DR W0 D A (dZ x q z) v a wr
  c:Cel wr F 7 (tmCel fr)
  t:TyB wr F 100
theorem rfield_any {W0 w:World} {D A:Nat} {x:Ch.Dx} {q:Nat} {z:Zs} {v:Value} {a:Ch.Av} (h:DR W0 D A (dZ x q z) v a w) (hq4:4<=q) (hq:q + 5<=44) (pt:List UInt8) (hpt:z.pt=bs pt) (hbn:z.bn=decide (pt ≠ [])) (lpt:pt.length<=1030)
    (fr:Tmf) (fi:Nat) (hfi:fr.fi=(fi:Nat)) (h47:fi<=2047) (h46:fi ≠ 2046) (hda:fr.da.size<=200) (hpk:a.pk.length<=100000) (hbr:a.br<=1000):
    Calls Tryz.prog 56 #[.pointer (some ⟨D,0,none⟩),.pointer (some ⟨D,q,none⟩),.pointer (some ⟨A,0,none⟩),tmVal fr] w fun e w'=>(∃ u,e=.returned u)/\∃ v',DR W0 D A (dZ x q { z with bn:=decide ((Ch.tk pt 0 fi fr.da.data.toList).1 ≠ []),pt:=bs (Ch.tk pt 0 fi fr.da.data.toList).1 }) v' { a with pk:=a.pk ++ (Ch.tk pt 0 fi fr.da.data.toList).2.1,br:=a.br + (Ch.tk pt 0 fi fr.da.data.toList).2.2 } w':=by
  have HQ4:=Lib.hid hq4
  have HQ:=Lib.hid hq
  have HD:=Lib.hid h
  have HFI:=Lib.hid hfi
  have HPT:=Lib.hid hpt
  have HBN:=Lib.hid hbn
  have LPT:=Lib.hid lpt
  have HPK:=Lib.hid hpk
  have HBRB:=Lib.hid hbr
  have H47:=Lib.hid h47
  have H46:=Lib.hid h46
  obtain ⟨da,hdae⟩:∃ z,fr.da=z:=⟨_,rfl⟩
  have HDA:=Lib.hid hdae
  rw [hdae] at hda ⊢
  obtain ⟨d,hd⟩:∃ z,da.data.toList=z:=⟨_,rfl⟩
  have HDD:=Lib.hid hd
  rw [hd]
  have LD:=Lib.hid (show d.length=da.size by rw [<-hd]; exact ls da)
  obtain ⟨t,ht⟩:∃ z,min fi da.size=z:=⟨_,rfl⟩
  have HT:=Lib.hid (show t<=da.size/\d.take t=d.take fi/\d.drop t=d.drop fi from ⟨by omega,by
    have:=LD.out
    by_cases g:fi<=da.size
    · rw [show t=fi by omega]
    · rw [List.take_of_length_le (by omega),List.take_of_length_le (by omega)],by
    have:=LD.out
    by_cases g:fi<=da.size
    · rw [show t=fi by omega]
    rw [List.drop_of_length_le (by omega),List.drop_of_length_le (by omega)]⟩)
  have e1:min (fi:Int) (da.size:Int)=(t:Int):=by omega
  have SM:=Lib.hid hda
  obtain ⟨op,hop⟩:∃ z,decide (fi=2047)=z:=⟨_,rfl⟩
  have HOP:=Lib.hid hop
  obtain ⟨G,hG⟩:∃ z,Ch.goOn pt (d.take t) op=z:=⟨_,rfl⟩
  have GO:=Lib.hid hG
  clear h hq4 hq hfi hpt hbn lpt h47 h46 hdae hd ht hop hG hpk hbr
  go_enter Tryz.func56,Tryz.ntmps56
  go_upto_region 1 with (((with_reducible refine atList ?_); refine wpList_newT rfl (.box 100 (.tmp 3)) rfl (some 7) rfl #[.int .i64 fr.cr,.int .i64 fr.ch,.int .i64 fr.ma,.int .i64 fr.ct,.int .i64 fr.fi,.string fr.da,.int .u32 (fr.wo:Nat)] 100 (fun X=>.pointer (some ⟨X,0,none⟩)) 7 (tmCel fr) (tm_cells fr) (box_tmC rfl rfl) ?_; intro F w1 HF SF CF BF TF0))
  have D1:=Lib.hid (HD.out.below BF.out)
  have f4:w1.cell? ⟨F,4,none⟩=some (.int .i64 (fi:Nat)):=by rw [<-HFI.out]; exact CF.out.cell (j:=4) (by omega)
  have f5:w1.cell? ⟨F,5,none⟩=some (.string da):=by rw [<-HDA.out]; exact CF.out.cell (j:=5) (by omega)
  have p3:w1.cell? ⟨D,q + 3,none⟩=some (.bool z.bn):=by have:=D1.out.dc.cell (j:=q + 3) (by have:=HQ.out; omega); rw [this,dZ_at_bn x HQ4.out]
  go_upto_if 25 with fail
  have W1:=Lib.hid (show W0.heap.size<=w1.heap.size from D1.out.size)
  go_cut [12] (fun a12 wx=>∃ v',FdI W0 wx D A F x q { z with bn:=decide (G.1 ≠ []),pt:=bs G.1 } v' { a with pk:=a.pk ++ G.2.1,br:=a.br + G.2.2 } fr wx)
  case first=>
    by_cases hp:pt=[]
    · have EZ:({ z with bn:=decide (G.1 ≠ []),pt:=bs G.1 }:Zs)=z:=by
        have e1:=HBN.out
        have e2:=HPT.out
        rw [<-GO.out,hp,goOn_nil]
        rw [hp] at e1 e2
        cases z
        simp only at e1 e2
        subst e1 e2
        rfl
      have EA:({ a with pk:=a.pk ++ G.2.1,br:=a.br + G.2.2 }:Ch.Av)=a:=by
        rw [<-GO.out,hp,goOn_nil]
        simp
      have b0:z.bn=false:=by rw [HBN.out,hp]; rfl
      have R:=Lib.hid (show FdI W0 w1 D A F x q { z with bn:=decide (G.1 ≠ []),pt:=bs G.1 } v { a with pk:=a.pk ++ G.2.1,br:=a.br + G.2.2 } fr w1 by rw [EZ,EA]; exact ⟨D1.out,CF.out,TF0.out⟩)
      rw [b0] at p3 ⊢
      clear hp EZ EA b0
      go_wp2_with fail
      go_meet
      case rel=>exact ⟨_,R.out⟩
    have b0:z.bn=true:=by rw [HBN.out]; exact decide_eq_true hp
    rw [b0] at p3 ⊢
    have HPN:=Lib.hid hp
    obtain ⟨al,hal⟩:∃ l,pt ++ d.take t=l:=⟨_,rfl⟩
    have HAL:=Lib.hid hal
    have LAL:=Lib.hid (show al.length<=2000 by
      rw [<-hal,List.length_append,List.length_take]
      have:=LPT.out
      have:=LD.out
      have:=SM.out
      omega)
    have k4:w1.cell? ⟨D,q + 4,none⟩=some (.string (bs pt)):=by have:=D1.out.dc.cell (j:=q + 4) (by have:=HQ.out; omega); rw [this,dZ_at_pt x HQ4.out,HPT.out]
    have S1:da.extract 0 t=bs (d.take t):=by
      apply ByteArray.ext
      apply Array.toList_inj.1
      rw [cutL,bs_list,HDD.out]
    have S2:bs pt ++ bs (d.take t)=bs al:=by
      apply ByteArray.ext
      apply Array.toList_inj.1
      rw [appL,bs_list,bs_list,bs_list,HAL.out]
    have TK:=Lib.hid (fun w=>rtake_any (bs al) (by rw [bs_size]; have:=LAL.out; omega) w)
    rw [bs_list] at TK
    clear hp hal b0 p3
    go_upto_region 3 with fail
    refine rfRegion3 D q F t (bs pt) da (bs (d.take t)) (bs al) D1.out.dt.lt TF0.out.lt k4 f5 HT.out.1 S1 S2 (by rw [bs_size,bs_size,List.length_take]; have:=LPT.out; have:=LD.out; have:=SM.out; omega) (by kernel_rfl) rfl rfl rfl rfl rfl rfl rfl rfl rfl rfl rfl rfl rfl rfl rfl rfl ?_
    intro wr br0
    have DR1:=Lib.hid (D1.out.below br0)
    have FR1:=Lib.hid (CF.out.below br0)
    have TR1:=Lib.hid (TF0.out.below br0)
    clear br0 k4 S1 S2 f4 f5
    simp only [Act.put,List.setIfInBounds_toArray,List.set_cons_succ,List.set_cons_zero,List.drop_succ_cons,List.drop_zero]
    go_wp2_with ((with_reducible refine atList ?_); refine wpList_setT rfl (.store 9 (.tmp 37) (.tmp 35)) rfl D (q + 4) 44 (.string (bs al)) _ (dZ x q { z with pt:=bs al }) DR1.out.dc (by have:=HQ.out; omega) (dZ_pt x HQ4.out (z) _) (store_str rfl rfl rfl (DR1.out.dc.cell (by have:=HQ.out; omega)) (DR1.out.dc.frozen (by have:=HQ.out; omega))) ?_; intro wu Cwu Uwu Swu Vwu; have Dwu:=Lib.hid (DR1.out.setD Uwu.out Cwu.out (Vwu.out _ DR1.out.dt)); clear Cwu Swu Vwu; have p4:wu.cell? ⟨D,q + 4,none⟩=some (.string (bs al)):=by have:=Dwu.out.dc.cell (j:=q + 4) (by have:=HQ.out; omega); rw [this,dZ_at_pt x HQ4.out])
    have F2u:=Lib.hid (FR1.out.but Uwu.out (fun e=>ty_ne TR1.out DR1.out.dt (by decide) e))
    have A0:=Lib.hid (show Ch.goOn pt (d.take t) op=G from GO.out)
    (refine (TK.out _).mono ?_)
    rintro e w2 ⟨rfl,h2⟩
    have D2:=Lib.hid (Dwu.out.below h2)
    have F2:=Lib.hid (F2u.out.below h2)
    have TF2:=Lib.hid ((TR1.out.but Uwu.out (fun e=>ty_ne TR1.out DR1.out.dt (by decide) e)).below h2)
    clear h2 p4 TK Uwu Dwu F2u DR1 FR1 TR1 D1 CF TF0 BF HF SF
    obtain ⟨br,hbr⟩:∃ y,a.br=y:=⟨_,rfl⟩
    have HBR:=Lib.hid hbr
    obtain ⟨b1,hb1⟩:∃ y,br + 1=y:=⟨_,rfl⟩
    have HB1:=Lib.hid hb1
    have EB:IntKind.i64.wrap ((br:Int) + 1)=(b1:Int):=by have:=HBRB.out; rw [hbr] at this; rw [IntKind.wrap_i64]; omega
    have ASZ:(bs al).size=al.length:=bs_size al
    have alm:al.length<=2000:=LAL.out
    clear hbr hb1
    rcases hr:Pk.take al with ⟨p,k⟩ | _ | _
    · rw [show tkV (.ok p k)=.tuple #[pkVal p,.int .i64 (k:Nat),.int .i64 0] from rfl]
      have HR:=Lib.hid hr
      obtain ⟨L,hL⟩:∃ y,al.length=y:=⟨_,rfl⟩
      have HL:=Lib.hid hL
      rw [hL] at ASZ alm
      by_cases hk:k=L
      · have GE:=Lib.hid (show G=([],Ch.kept [(p,al)],0) by rw [<-A0.out,<-HAL.out]; exact goOn_ok HPN.out (by rw [HAL.out]; exact HR.out) (by rw [HAL.out,HL.out]; exact hk))
        have kk:((k:Int) == (L:Int))=true:=by rw [beq_iff_eq]; omega
        have kkn:(k == L)=true:=by rw [beq_iff_eq]; exact hk
        have AK:=Lib.hid (arr_kept HR.out)
        rw [show al.take k=al from List.take_of_length_le (by rw [HL.out]; omega)] at AK
        clear hr hL hk
        go_upto_region 5 with (first
          | ((with_reducible refine atList ?_); refine wpList_newT rfl (.alloc 125) rfl (some 9) rfl #[.bool false,.int .i64 0,.int .i64 0,.int .i64 0,.string ⟨#[]⟩] 125 (fun X=>.pointer (some ⟨X,0,none⟩)) 5 (pkCel ⟨false,0,0,0,⟨#[]⟩⟩) (pkc_cells ⟨false,0,0,0,⟨#[]⟩⟩) (alloc_pk rfl) ?_; intro X w3a HX SX CX LX TX)
          | ((with_reducible refine atList ?_); refine wpList_setAllT rfl 125 (.tmp 9) (.tmp 44) rfl X 5 [.bool (p).cmd,.int .i64 (p).ap,.int .i64 (p).fl,.int .i64 (p).ct,.string (p).da] _ (pkCel (p)) CX.out rfl (pkc_list (p)) rfl rfl pkc_info (by simp [Value.oneCell']) ?_; intro w3 C3 U3 S3 V3))
        have BX:=Lib.hid (show Below w2.heap.size w2 w3 from But.under LX.out U3.out (by have:=HX.out; omega))
        clear HX SX CX LX TX C3 U3 S3 V3
        have D3:=Lib.hid (D2.out.below BX.out)
        have F3:=Lib.hid (F2.out.below BX.out)
        have T3:=Lib.hid (TF2.out.below BX.out)
        have f4:w3.cell? ⟨F,4,none⟩=some (.int .i64 (fi:Nat)):=by rw [<-HFI.out]; exact F3.out.cell (j:=4) (by omega)
        have p4:w3.cell? ⟨D,q + 4,none⟩=some (.string (bs al)):=by have:=D3.out.dc.cell (j:=q + 4) (by have:=HQ.out; omega); rw [this,dZ_at_pt x HQ4.out]
        have b5:w3.cell? ⟨A,5,none⟩=some (.int .i64 (br:Nat)):=by rw [<-HBR.out]; exact D3.out.ac.cell (j:=5) (by omega)
        clear D2 F2 TF2 BX
        have RA:=Lib.hid (rarr_any D3.out al (by have:=LAL.out; omega) (by have:=HPK.out; omega))
        by_cases g:fi=2047
        · have g1:((fi:Int) == 2047)=true:=by rw [beq_iff_eq]; omega
          have g1n:(fi == 2047)=true:=by rw [beq_iff_eq]; exact g
          clear g
          go_wp2_with fail
          (with_reducible refine RA.out.mono ?_)
          rintro e w4 ⟨⟨u4,rfl⟩,⟨v4,hD4⟩,hX4⟩
          rw [AK.out] at hD4
          have D4:=Lib.hid hD4
          have kb:=hX4.rest F T3.out.lt (fun e=>ty_ne T3.out D3.out.at' (by decide) e) (fun e=>ty_ne T3.out (own_ty D3.out.row e.symm).2 (by decide) rfl)
          have F4:=Lib.hid (F3.out.of_block kb)
          have T4:=Lib.hid (T3.out.of_block kb)
          clear hD4 hX4 kb
          go_wp2_with (first
            | ((with_reducible refine atList ?_); refine wpList_setT rfl (.store 4 (.tmp 85) (.const (.bool false))) rfl D (q + 3) 44 (.bool false) _ (dZ x q { { z with pt:=bs al } with bn:=false }) D4.out.dc (by have:=HQ.out; omega) (dZ_bn x HQ4.out ({ z with pt:=bs al }) _) (store_bool rfl rfl rfl (D4.out.dc.cell (by have:=HQ.out; omega)) (D4.out.dc.frozen (by have:=HQ.out; omega))) ?_; intro w5 Cw5 Uw5 Sw5 Vw5; have Dw5:=Lib.hid (D4.out.setD Uw5.out Cw5.out (Vw5.out _ D4.out.dt)); clear Cw5 Sw5 Vw5)
            | ((with_reducible refine atList ?_); refine wpList_setT rfl (.store 9 (.tmp 87) (.const (.string ⟨#[]⟩))) rfl D (q + 4) 44 (.string ⟨#[]⟩) _ (dZ x q { { z with pt:=bs al,bn:=false } with pt:=⟨#[]⟩ }) Dw5.out.dc (by have:=HQ.out; omega) (dZ_pt x HQ4.out ({ z with pt:=bs al,bn:=false }) _) (store_str rfl rfl rfl (Dw5.out.dc.cell (by have:=HQ.out; omega)) (Dw5.out.dc.frozen (by have:=HQ.out; omega))) ?_; intro w6 Cw6 Uw6 Sw6 Vw6; have Dw6:=Lib.hid (Dw5.out.setD Uw6.out Cw6.out (Vw6.out _ Dw5.out.dt)); clear Cw6 Sw6 Vw6))
          have nF:=Lib.hid (fun e=>ty_ne T4.out D4.out.dt (by decide) e)
          go_meet
          case rel=>
            refine ⟨v4,?_,(F4.out.but Uw5.out nF.out).but Uw6.out nF.out,(T4.out.but Uw5.out nF.out).but Uw6.out nF.out⟩
            rw [GE.out]
            exact Dw6.out
        have g1:((fi:Int) == 2047)=false:=by rw [beq_eq_false_iff_ne]; omega
        have g1n:(fi == 2047)=false:=by rw [beq_eq_false_iff_ne]; exact g
        clear g
        go_wp2_with fail
        (with_reducible refine RA.out.mono ?_)
        rintro e w4 ⟨⟨u4,rfl⟩,⟨v4,hD4⟩,hX4⟩
        rw [AK.out] at hD4
        have D4:=Lib.hid hD4
        have kb:=hX4.rest F T3.out.lt (fun e=>ty_ne T3.out D3.out.at' (by decide) e) (fun e=>ty_ne T3.out (own_ty D3.out.row e.symm).2 (by decide) rfl)
        have F4:=Lib.hid (F3.out.of_block kb)
        have T4:=Lib.hid (T3.out.of_block kb)
        clear hD4 hX4 kb
        go_wp2_with (first
          | ((with_reducible refine atList ?_); refine wpList_setT rfl (.store 4 (.tmp 85) (.const (.bool false))) rfl D (q + 3) 44 (.bool false) _ (dZ x q { { z with pt:=bs al } with bn:=false }) D4.out.dc (by have:=HQ.out; omega) (dZ_bn x HQ4.out ({ z with pt:=bs al }) _) (store_bool rfl rfl rfl (D4.out.dc.cell (by have:=HQ.out; omega)) (D4.out.dc.frozen (by have:=HQ.out; omega))) ?_; intro w5 Cw5 Uw5 Sw5 Vw5; have Dw5:=Lib.hid (D4.out.setD Uw5.out Cw5.out (Vw5.out _ D4.out.dt)); clear Cw5 Sw5 Vw5)
          | ((with_reducible refine atList ?_); refine wpList_setT rfl (.store 9 (.tmp 87) (.const (.string ⟨#[]⟩))) rfl D (q + 4) 44 (.string ⟨#[]⟩) _ (dZ x q { { z with pt:=bs al,bn:=false } with pt:=⟨#[]⟩ }) Dw5.out.dc (by have:=HQ.out; omega) (dZ_pt x HQ4.out ({ z with pt:=bs al,bn:=false }) _) (store_str rfl rfl rfl (Dw5.out.dc.cell (by have:=HQ.out; omega)) (Dw5.out.dc.frozen (by have:=HQ.out; omega))) ?_; intro w6 Cw6 Uw6 Sw6 Vw6; have Dw6:=Lib.hid (Dw5.out.setD Uw6.out Cw6.out (Vw6.out _ Dw5.out.dt)); clear Cw6 Sw6 Vw6))
        have nF:=Lib.hid (fun e=>ty_ne T4.out D4.out.dt (by decide) e)
        go_meet
        case rel=>
          refine ⟨v4,?_,(F4.out.but Uw5.out nF.out).but Uw6.out nF.out,(T4.out.but Uw5.out nF.out).but Uw6.out nF.out⟩
          rw [GE.out]
          exact Dw6.out
      have GE:=Lib.hid (show G=([],[],1) by rw [<-A0.out]; exact goOn_short HPN.out (by rw [HAL.out]; exact HR.out) (by rw [HAL.out,HL.out]; exact hk))
      have kk:((k:Int) == (L:Int))=false:=by rw [beq_eq_false_iff_ne]; omega
      have kkn:(k == L)=false:=by rw [beq_eq_false_iff_ne]; exact hk
      clear hr hL hk
      go_upto_region 5 with (first
        | ((with_reducible refine atList ?_); refine wpList_newT rfl (.alloc 125) rfl (some 9) rfl #[.bool false,.int .i64 0,.int .i64 0,.int .i64 0,.string ⟨#[]⟩] 125 (fun X=>.pointer (some ⟨X,0,none⟩)) 5 (pkCel ⟨false,0,0,0,⟨#[]⟩⟩) (pkc_cells ⟨false,0,0,0,⟨#[]⟩⟩) (alloc_pk rfl) ?_; intro X w3a HX SX CX LX TX)
        | ((with_reducible refine atList ?_); refine wpList_setAllT rfl 125 (.tmp 9) (.tmp 44) rfl X 5 [.bool (p).cmd,.int .i64 (p).ap,.int .i64 (p).fl,.int .i64 (p).ct,.string (p).da] _ (pkCel (p)) CX.out rfl (pkc_list (p)) rfl rfl pkc_info (by simp [Value.oneCell']) ?_; intro w3 C3 U3 S3 V3))
      have BX:=Lib.hid (show Below w2.heap.size w2 w3 from But.under LX.out U3.out (by have:=HX.out; omega))
      clear HX SX CX LX TX C3 U3 S3 V3
      have D3:=Lib.hid (D2.out.below BX.out)
      have F3:=Lib.hid (F2.out.below BX.out)
      have T3:=Lib.hid (TF2.out.below BX.out)
      have f4:w3.cell? ⟨F,4,none⟩=some (.int .i64 (fi:Nat)):=by rw [<-HFI.out]; exact F3.out.cell (j:=4) (by omega)
      have p4:w3.cell? ⟨D,q + 4,none⟩=some (.string (bs al)):=by have:=D3.out.dc.cell (j:=q + 4) (by have:=HQ.out; omega); rw [this,dZ_at_pt x HQ4.out]
      have b5:w3.cell? ⟨A,5,none⟩=some (.int .i64 (br:Nat)):=by rw [<-HBR.out]; exact D3.out.ac.cell (j:=5) (by omega)
      clear D2 F2 TF2 BX
      by_cases g:fi=2047
      · have g1:((fi:Int) == 2047)=true:=by rw [beq_iff_eq]; omega
        have g1n:(fi == 2047)=true:=by rw [beq_iff_eq]; exact g
        clear g
        go_wp2_with (first
          | ((with_reducible refine atList ?_); refine wpList_setT rfl (.store 3 (.tmp 79) (.tmp 77)) rfl A 5 7 (.int .i64 (b1:Nat)) _ (aC _ { a with br:=b1 }) D3.out.ac (by omega) (fun j hj=>by match j,hj with | 0,_=>rfl | 1,_=>rfl | 2,_=>rfl | 3,_=>rfl | 4,_=>rfl | 5,_=>rfl | 6,_=>rfl) (store_int rfl rfl rfl (D3.out.ac.cell (j:=5) (by omega)) (D3.out.ac.frozen (j:=5) (by omega))) ?_; intro w4 Cw4 Uw4 Sw4 Vw4; have Dw4:=Lib.hid (D3.out.brk Uw4.out Cw4.out (Vw4.out _ D3.out.at')); clear Cw4 Sw4 Vw4)
          | ((with_reducible refine atList ?_); refine wpList_setT rfl (.store 4 (.tmp 85) (.const (.bool false))) rfl D (q + 3) 44 (.bool false) _ (dZ x q { { z with pt:=bs al } with bn:=false }) Dw4.out.dc (by have:=HQ.out; omega) (dZ_bn x HQ4.out ({ z with pt:=bs al }) _) (store_bool rfl rfl rfl (Dw4.out.dc.cell (by have:=HQ.out; omega)) (Dw4.out.dc.frozen (by have:=HQ.out; omega))) ?_; intro w5 Cw5 Uw5 Sw5 Vw5; have Dw5:=Lib.hid (Dw4.out.setD Uw5.out Cw5.out (Vw5.out _ Dw4.out.dt)); clear Cw5 Sw5 Vw5)
          | ((with_reducible refine atList ?_); refine wpList_setT rfl (.store 9 (.tmp 87) (.const (.string ⟨#[]⟩))) rfl D (q + 4) 44 (.string ⟨#[]⟩) _ (dZ x q { { z with pt:=bs al,bn:=false } with pt:=⟨#[]⟩ }) Dw5.out.dc (by have:=HQ.out; omega) (dZ_pt x HQ4.out ({ z with pt:=bs al,bn:=false }) _) (store_str rfl rfl rfl (Dw5.out.dc.cell (by have:=HQ.out; omega)) (Dw5.out.dc.frozen (by have:=HQ.out; omega))) ?_; intro w6 Cw6 Uw6 Sw6 Vw6; have Dw6:=Lib.hid (Dw5.out.setD Uw6.out Cw6.out (Vw6.out _ Dw5.out.dt)); clear Cw6 Sw6 Vw6))
        have nF:=Lib.hid (fun e=>ty_ne T3.out D3.out.dt (by decide) e)
        have nA:=Lib.hid (fun e=>ty_ne T3.out D3.out.at' (by decide) e)
        go_meet
        case rel=>
          refine ⟨v,?_,((F3.out.but Uw4.out nA.out).but Uw5.out nF.out).but Uw6.out nF.out,((T3.out.but Uw4.out nA.out).but Uw5.out nF.out).but Uw6.out nF.out⟩
          rw [GE.out]
          dsimp only
          rw [List.append_nil,show a.br + 1=b1 by rw [HBR.out]; exact HB1.out]
          exact Dw6.out
      have g1:((fi:Int) == 2047)=false:=by rw [beq_eq_false_iff_ne]; omega
      have g1n:(fi == 2047)=false:=by rw [beq_eq_false_iff_ne]; exact g
      clear g
      go_wp2_with (first
        | ((with_reducible refine atList ?_); refine wpList_setT rfl (.store 3 (.tmp 79) (.tmp 77)) rfl A 5 7 (.int .i64 (b1:Nat)) _ (aC _ { a with br:=b1 }) D3.out.ac (by omega) (fun j hj=>by match j,hj with | 0,_=>rfl | 1,_=>rfl | 2,_=>rfl | 3,_=>rfl | 4,_=>rfl | 5,_=>rfl | 6,_=>rfl) (store_int rfl rfl rfl (D3.out.ac.cell (j:=5) (by omega)) (D3.out.ac.frozen (j:=5) (by omega))) ?_; intro w4 Cw4 Uw4 Sw4 Vw4; have Dw4:=Lib.hid (D3.out.brk Uw4.out Cw4.out (Vw4.out _ D3.out.at')); clear Cw4 Sw4 Vw4)
        | ((with_reducible refine atList ?_); refine wpList_setT rfl (.store 4 (.tmp 85) (.const (.bool false))) rfl D (q + 3) 44 (.bool false) _ (dZ x q { { z with pt:=bs al } with bn:=false }) Dw4.out.dc (by have:=HQ.out; omega) (dZ_bn x HQ4.out ({ z with pt:=bs al }) _) (store_bool rfl rfl rfl (Dw4.out.dc.cell (by have:=HQ.out; omega)) (Dw4.out.dc.frozen (by have:=HQ.out; omega))) ?_; intro w5 Cw5 Uw5 Sw5 Vw5; have Dw5:=Lib.hid (Dw4.out.setD Uw5.out Cw5.out (Vw5.out _ Dw4.out.dt)); clear Cw5 Sw5 Vw5)
        | ((with_reducible refine atList ?_); refine wpList_setT rfl (.store 9 (.tmp 87) (.const (.string ⟨#[]⟩))) rfl D (q + 4) 44 (.string ⟨#[]⟩) _ (dZ x q { { z with pt:=bs al,bn:=false } with pt:=⟨#[]⟩ }) Dw5.out.dc (by have:=HQ.out; omega) (dZ_pt x HQ4.out ({ z with pt:=bs al,bn:=false }) _) (store_str rfl rfl rfl (Dw5.out.dc.cell (by have:=HQ.out; omega)) (Dw5.out.dc.frozen (by have:=HQ.out; omega))) ?_; intro w6 Cw6 Uw6 Sw6 Vw6; have Dw6:=Lib.hid (Dw5.out.setD Uw6.out Cw6.out (Vw6.out _ Dw5.out.dt)); clear Cw6 Sw6 Vw6))
      have nF:=Lib.hid (fun e=>ty_ne T3.out D3.out.dt (by decide) e)
      have nA:=Lib.hid (fun e=>ty_ne T3.out D3.out.at' (by decide) e)
      go_meet
      case rel=>
        refine ⟨v,?_,((F3.out.but Uw4.out nA.out).but Uw5.out nF.out).but Uw6.out nF.out,((T3.out.but Uw4.out nA.out).but Uw5.out nF.out).but Uw6.out nF.out⟩
        rw [GE.out]
        dsimp only
        rw [List.append_nil,show a.br + 1=b1 by rw [HBR.out]; exact HB1.out]
        exact Dw6.out
    · rw [show tkV .none=.tuple #[pkVal pk0,.int .i64 0,.int .i64 4] from rfl]
      have HR:=Lib.hid hr
      clear hr
      go_upto_region 5 with (first
        | ((with_reducible refine atList ?_); refine wpList_newT rfl (.alloc 125) rfl (some 9) rfl #[.bool false,.int .i64 0,.int .i64 0,.int .i64 0,.string ⟨#[]⟩] 125 (fun X=>.pointer (some ⟨X,0,none⟩)) 5 (pkCel ⟨false,0,0,0,⟨#[]⟩⟩) (pkc_cells ⟨false,0,0,0,⟨#[]⟩⟩) (alloc_pk rfl) ?_; intro X w3a HX SX CX LX TX)
        | ((with_reducible refine atList ?_); refine wpList_setAllT rfl 125 (.tmp 9) (.tmp 44) rfl X 5 [.bool (pk0).cmd,.int .i64 (pk0).ap,.int .i64 (pk0).fl,.int .i64 (pk0).ct,.string (pk0).da] _ (pkCel (pk0)) CX.out rfl (pkc_list (pk0)) rfl rfl pkc_info (by simp [Value.oneCell']) ?_; intro w3 C3 U3 S3 V3))
      have BX:=Lib.hid (show Below w2.heap.size w2 w3 from But.under LX.out U3.out (by have:=HX.out; omega))
      clear HX SX CX LX TX C3 U3 S3 V3
      have D3:=Lib.hid (D2.out.below BX.out)
      have F3:=Lib.hid (F2.out.below BX.out)
      have T3:=Lib.hid (TF2.out.below BX.out)
      have f4:w3.cell? ⟨F,4,none⟩=some (.int .i64 (fi:Nat)):=by rw [<-HFI.out]; exact F3.out.cell (j:=4) (by omega)
      have p4:w3.cell? ⟨D,q + 4,none⟩=some (.string (bs al)):=by have:=D3.out.dc.cell (j:=q + 4) (by have:=HQ.out; omega); rw [this,dZ_at_pt x HQ4.out]
      have b5:w3.cell? ⟨A,5,none⟩=some (.int .i64 (br:Nat)):=by rw [<-HBR.out]; exact D3.out.ac.cell (j:=5) (by omega)
      clear D2 F2 TF2 BX
      by_cases g:fi=2047
      · have g1:((fi:Int) == 2047)=true:=by rw [beq_iff_eq]; omega
        have g1n:(fi == 2047)=true:=by rw [beq_iff_eq]; exact g
        obtain rfl:true=op:=by rw [<-HOP.out]; exact (decide_eq_true g).symm
        have GE:=Lib.hid (show G=(al,[],0) by rw [<-A0.out,<-HAL.out]; exact goOn_stay HPN.out (by rw [HAL.out]; exact HR.out))
        have AN:=Lib.hid (show decide (al ≠ [])=z.bn by rw [HBN.out,decide_eq_true HPN.out]; exact decide_eq_true (by rw [<-HAL.out]; intro e; exact HPN.out (List.append_eq_nil_iff.1 e).1))
        clear g
        go_wp2_with fail
        go_meet
        case rel=>
          refine ⟨v,?_,F3.out,T3.out⟩
          rw [GE.out]
          dsimp only
          rw [List.append_nil,AN.out]
          exact D3.out
      have g1:((fi:Int) == 2047)=false:=by rw [beq_eq_false_iff_ne]; omega
      have g1n:(fi == 2047)=false:=by rw [beq_eq_false_iff_ne]; exact g
      obtain rfl:false=op:=by rw [<-HOP.out]; exact (decide_eq_false g).symm
      have GE:=Lib.hid (show G=([],[],1) by rw [<-A0.out]; exact goOn_cut HPN.out (by rw [HAL.out]; exact HR.out))
      clear g
      go_wp2_with (first
        | ((with_reducible refine atList ?_); refine wpList_setT rfl (.store 3 (.tmp 79) (.tmp 77)) rfl A 5 7 (.int .i64 (b1:Nat)) _ (aC _ { a with br:=b1 }) D3.out.ac (by omega) (fun j hj=>by match j,hj with | 0,_=>rfl | 1,_=>rfl | 2,_=>rfl | 3,_=>rfl | 4,_=>rfl | 5,_=>rfl | 6,_=>rfl) (store_int rfl rfl rfl (D3.out.ac.cell (j:=5) (by omega)) (D3.out.ac.frozen (j:=5) (by omega))) ?_; intro w4 Cw4 Uw4 Sw4 Vw4; have Dw4:=Lib.hid (D3.out.brk Uw4.out Cw4.out (Vw4.out _ D3.out.at')); clear Cw4 Sw4 Vw4)
        | ((with_reducible refine atList ?_); refine wpList_setT rfl (.store 4 (.tmp 85) (.const (.bool false))) rfl D (q + 3) 44 (.bool false) _ (dZ x q { { z with pt:=bs al } with bn:=false }) Dw4.out.dc (by have:=HQ.out; omega) (dZ_bn x HQ4.out ({ z with pt:=bs al }) _) (store_bool rfl rfl rfl (Dw4.out.dc.cell (by have:=HQ.out; omega)) (Dw4.out.dc.frozen (by have:=HQ.out; omega))) ?_; intro w5 Cw5 Uw5 Sw5 Vw5; have Dw5:=Lib.hid (Dw4.out.setD Uw5.out Cw5.out (Vw5.out _ Dw4.out.dt)); clear Cw5 Sw5 Vw5)
        | ((with_reducible refine atList ?_); refine wpList_setT rfl (.store 9 (.tmp 87) (.const (.string ⟨#[]⟩))) rfl D (q + 4) 44 (.string ⟨#[]⟩) _ (dZ x q { { z with pt:=bs al,bn:=false } with pt:=⟨#[]⟩ }) Dw5.out.dc (by have:=HQ.out; omega) (dZ_pt x HQ4.out ({ z with pt:=bs al,bn:=false }) _) (store_str rfl rfl rfl (Dw5.out.dc.cell (by have:=HQ.out; omega)) (Dw5.out.dc.frozen (by have:=HQ.out; omega))) ?_; intro w6 Cw6 Uw6 Sw6 Vw6; have Dw6:=Lib.hid (Dw5.out.setD Uw6.out Cw6.out (Vw6.out _ Dw5.out.dt)); clear Cw6 Sw6 Vw6))
      have nF:=Lib.hid (fun e=>ty_ne T3.out D3.out.dt (by decide) e)
      have nA:=Lib.hid (fun e=>ty_ne T3.out D3.out.at' (by decide) e)
      go_meet
      case rel=>
        refine ⟨v,?_,((F3.out.but Uw4.out nA.out).but Uw5.out nF.out).but Uw6.out nF.out,((T3.out.but Uw4.out nA.out).but Uw5.out nF.out).but Uw6.out nF.out⟩
        rw [GE.out]
        dsimp only
        rw [List.append_nil,show a.br + 1=b1 by rw [HBR.out]; exact HB1.out]
        exact Dw6.out
    rw [show tkV .form=.tuple #[pkVal pk0,.int .i64 0,.int .i64 6] from rfl]
    have HR:=Lib.hid hr
    have GE:=Lib.hid (show G=([],[],1) by rw [<-A0.out]; exact goOn_form HPN.out (by rw [HAL.out]; exact HR.out))
    clear hr
    go_upto_region 5 with (first
      | ((with_reducible refine atList ?_); refine wpList_newT rfl (.alloc 125) rfl (some 9) rfl #[.bool false,.int .i64 0,.int .i64 0,.int .i64 0,.string ⟨#[]⟩] 125 (fun X=>.pointer (some ⟨X,0,none⟩)) 5 (pkCel ⟨false,0,0,0,⟨#[]⟩⟩) (pkc_cells ⟨false,0,0,0,⟨#[]⟩⟩) (alloc_pk rfl) ?_; intro X w3a HX SX CX LX TX)
      | ((with_reducible refine atList ?_); refine wpList_setAllT rfl 125 (.tmp 9) (.tmp 44) rfl X 5 [.bool (pk0).cmd,.int .i64 (pk0).ap,.int .i64 (pk0).fl,.int .i64 (pk0).ct,.string (pk0).da] _ (pkCel (pk0)) CX.out rfl (pkc_list (pk0)) rfl rfl pkc_info (by simp [Value.oneCell']) ?_; intro w3 C3 U3 S3 V3))
    have BX:=Lib.hid (show Below w2.heap.size w2 w3 from But.under LX.out U3.out (by have:=HX.out; omega))
    clear HX SX CX LX TX C3 U3 S3 V3
    have D3:=Lib.hid (D2.out.below BX.out)
    have F3:=Lib.hid (F2.out.below BX.out)
    have T3:=Lib.hid (TF2.out.below BX.out)
    have f4:w3.cell? ⟨F,4,none⟩=some (.int .i64 (fi:Nat)):=by rw [<-HFI.out]; exact F3.out.cell (j:=4) (by omega)
    have p4:w3.cell? ⟨D,q + 4,none⟩=some (.string (bs al)):=by have:=D3.out.dc.cell (j:=q + 4) (by have:=HQ.out; omega); rw [this,dZ_at_pt x HQ4.out]
    have b5:w3.cell? ⟨A,5,none⟩=some (.int .i64 (br:Nat)):=by rw [<-HBR.out]; exact D3.out.ac.cell (j:=5) (by omega)
    clear D2 F2 TF2 BX
    by_cases g:fi=2047
    · have g1:((fi:Int) == 2047)=true:=by rw [beq_iff_eq]; omega
      have g1n:(fi == 2047)=true:=by rw [beq_iff_eq]; exact g
      clear g
      go_wp2_with (first
        | ((with_reducible refine atList ?_); refine wpList_setT rfl (.store 3 (.tmp 79) (.tmp 77)) rfl A 5 7 (.int .i64 (b1:Nat)) _ (aC _ { a with br:=b1 }) D3.out.ac (by omega) (fun j hj=>by match j,hj with | 0,_=>rfl | 1,_=>rfl | 2,_=>rfl | 3,_=>rfl | 4,_=>rfl | 5,_=>rfl | 6,_=>rfl) (store_int rfl rfl rfl (D3.out.ac.cell (j:=5) (by omega)) (D3.out.ac.frozen (j:=5) (by omega))) ?_; intro w4 Cw4 Uw4 Sw4 Vw4; have Dw4:=Lib.hid (D3.out.brk Uw4.out Cw4.out (Vw4.out _ D3.out.at')); clear Cw4 Sw4 Vw4)
        | ((with_reducible refine atList ?_); refine wpList_setT rfl (.store 4 (.tmp 85) (.const (.bool false))) rfl D (q + 3) 44 (.bool false) _ (dZ x q { { z with pt:=bs al } with bn:=false }) Dw4.out.dc (by have:=HQ.out; omega) (dZ_bn x HQ4.out ({ z with pt:=bs al }) _) (store_bool rfl rfl rfl (Dw4.out.dc.cell (by have:=HQ.out; omega)) (Dw4.out.dc.frozen (by have:=HQ.out; omega))) ?_; intro w5 Cw5 Uw5 Sw5 Vw5; have Dw5:=Lib.hid (Dw4.out.setD Uw5.out Cw5.out (Vw5.out _ Dw4.out.dt)); clear Cw5 Sw5 Vw5)
        | ((with_reducible refine atList ?_); refine wpList_setT rfl (.store 9 (.tmp 87) (.const (.string ⟨#[]⟩))) rfl D (q + 4) 44 (.string ⟨#[]⟩) _ (dZ x q { { z with pt:=bs al,bn:=false } with pt:=⟨#[]⟩ }) Dw5.out.dc (by have:=HQ.out; omega) (dZ_pt x HQ4.out ({ z with pt:=bs al,bn:=false }) _) (store_str rfl rfl rfl (Dw5.out.dc.cell (by have:=HQ.out; omega)) (Dw5.out.dc.frozen (by have:=HQ.out; omega))) ?_; intro w6 Cw6 Uw6 Sw6 Vw6; have Dw6:=Lib.hid (Dw5.out.setD Uw6.out Cw6.out (Vw6.out _ Dw5.out.dt)); clear Cw6 Sw6 Vw6))
      have nF:=Lib.hid (fun e=>ty_ne T3.out D3.out.dt (by decide) e)
      have nA:=Lib.hid (fun e=>ty_ne T3.out D3.out.at' (by decide) e)
      go_meet
      case rel=>
        refine ⟨v,?_,((F3.out.but Uw4.out nA.out).but Uw5.out nF.out).but Uw6.out nF.out,((T3.out.but Uw4.out nA.out).but Uw5.out nF.out).but Uw6.out nF.out⟩
        rw [GE.out]
        dsimp only
        rw [List.append_nil,show a.br + 1=b1 by rw [HBR.out]; exact HB1.out]
        exact Dw6.out
    have g1:((fi:Int) == 2047)=false:=by rw [beq_eq_false_iff_ne]; omega
    have g1n:(fi == 2047)=false:=by rw [beq_eq_false_iff_ne]; exact g
    clear g
    go_wp2_with (first
      | ((with_reducible refine atList ?_); refine wpList_setT rfl (.store 3 (.tmp 79) (.tmp 77)) rfl A 5 7 (.int .i64 (b1:Nat)) _ (aC _ { a with br:=b1 }) D3.out.ac (by omega) (fun j hj=>by match j,hj with | 0,_=>rfl | 1,_=>rfl | 2,_=>rfl | 3,_=>rfl | 4,_=>rfl | 5,_=>rfl | 6,_=>rfl) (store_int rfl rfl rfl (D3.out.ac.cell (j:=5) (by omega)) (D3.out.ac.frozen (j:=5) (by omega))) ?_; intro w4 Cw4 Uw4 Sw4 Vw4; have Dw4:=Lib.hid (D3.out.brk Uw4.out Cw4.out (Vw4.out _ D3.out.at')); clear Cw4 Sw4 Vw4)
      | ((with_reducible refine atList ?_); refine wpList_setT rfl (.store 4 (.tmp 85) (.const (.bool false))) rfl D (q + 3) 44 (.bool false) _ (dZ x q { { z with pt:=bs al } with bn:=false }) Dw4.out.dc (by have:=HQ.out; omega) (dZ_bn x HQ4.out ({ z with pt:=bs al }) _) (store_bool rfl rfl rfl (Dw4.out.dc.cell (by have:=HQ.out; omega)) (Dw4.out.dc.frozen (by have:=HQ.out; omega))) ?_; intro w5 Cw5 Uw5 Sw5 Vw5; have Dw5:=Lib.hid (Dw4.out.setD Uw5.out Cw5.out (Vw5.out _ Dw4.out.dt)); clear Cw5 Sw5 Vw5)
      | ((with_reducible refine atList ?_); refine wpList_setT rfl (.store 9 (.tmp 87) (.const (.string ⟨#[]⟩))) rfl D (q + 4) 44 (.string ⟨#[]⟩) _ (dZ x q { { z with pt:=bs al,bn:=false } with pt:=⟨#[]⟩ }) Dw5.out.dc (by have:=HQ.out; omega) (dZ_pt x HQ4.out ({ z with pt:=bs al,bn:=false }) _) (store_str rfl rfl rfl (Dw5.out.dc.cell (by have:=HQ.out; omega)) (Dw5.out.dc.frozen (by have:=HQ.out; omega))) ?_; intro w6 Cw6 Uw6 Sw6 Vw6; have Dw6:=Lib.hid (Dw5.out.setD Uw6.out Cw6.out (Vw6.out _ Dw5.out.dt)); clear Cw6 Sw6 Vw6))
    have nF:=Lib.hid (fun e=>ty_ne T3.out D3.out.dt (by decide) e)
    have nA:=Lib.hid (fun e=>ty_ne T3.out D3.out.at' (by decide) e)
    go_meet
    case rel=>
      refine ⟨v,?_,((F3.out.but Uw4.out nA.out).but Uw5.out nF.out).but Uw6.out nF.out,((T3.out.but Uw4.out nA.out).but Uw5.out nF.out).but Uw6.out nF.out⟩
      rw [GE.out]
      dsimp only
      rw [List.append_nil,show a.br + 1=b1 by rw [HBR.out]; exact HB1.out]
      exact Dw6.out
  case rest=>
    obtain ⟨v1,hI⟩:=hcut
    rename World=>w4
    have HI:=Lib.hid hI
    have T4:=Lib.hid hI.t
    have f4:w4.cell? ⟨F,4,none⟩=some (.int .i64 (fi:Nat)):=by rw [<-HFI.out]; exact hI.c.cell (j:=4) (by omega)
    have f5:w4.cell? ⟨F,5,none⟩=some (.string da):=by rw [<-HDA.out]; exact hI.c.cell (j:=5) (by omega)
    clear hI D1 CF TF0 BF HF SF p3 HPT HBN LPT
    by_cases g:fi=2047
    · have g1:((fi:Int) == 2047)=true:=by rw [beq_iff_eq]; omega
      have g1n:(fi == 2047)=true:=by rw [beq_iff_eq]; exact g
      have TG:=Lib.hid (show Ch.tk pt 0 fi d=G by
        rw [g,tk_whole pt d (by have:=LD.out; have:=SM.out; omega),<-GO.out,HT.out.2.1,g]
        rw [show op=true by rw [<-HOP.out]; exact decide_eq_true g])
      clear g
      go_wp2_with fail
      first | go_ret | go_end0 | refine bodyPost_end (results_none rfl _ _ _) rfl ?_ | refine bodyPost_ret (results_none rfl _ _ _) rfl ?_
      refine ⟨⟨_,rfl⟩,v1,?_⟩
      rw [TG.out]
      exact HI.out.d
    have g1:((fi:Int) == 2047)=false:=by rw [beq_eq_false_iff_ne]; omega
    have g1n:(fi == 2047)=false:=by rw [beq_eq_false_iff_ne]; exact g
    have TG:=Lib.hid (tk_begin pt d fi H46.out g)
    have OPF:op=false:=by rw [<-HOP.out]; exact decide_eq_false g
    have GS:=Lib.hid (show G.1=[] by rw [<-GO.out,OPF]; exact Ch.goOn_shut _ _)
    have GF:=Lib.hid (show Ch.goOn pt (d.take fi) false=G by rw [<-GO.out,OPF,HT.out.2.1])
    have G2:=Lib.hid (show G.2.1.length<=1 by rw [<-GF.out]; exact goOn_few _ _ _)
    have G3:=Lib.hid (show G.2.2<=1 by rw [<-GF.out]; exact (Ch.goOn_le _ _ _).1)
    rw [GF.out] at TG
    rw [show ({ z with bn:=decide (G.1 ≠ []),pt:=bs G.1 }:Zs)={ z with bn:=false,pt:=⟨#[]⟩ } by rw [GS.out]; rfl] at HI
    obtain ⟨z1,hz1⟩:∃ y,({ z with bn:=false,pt:=⟨#[]⟩ }:Zs)=y:=⟨_,rfl⟩
    have HZ1:=Lib.hid hz1
    rw [hz1] at HI
    obtain ⟨pk,hpk0⟩:∃ y,a.pk ++ G.2.1=y:=⟨_,rfl⟩
    have HPK2:=Lib.hid hpk0
    have PKL:=Lib.hid (show pk.length<=100001 by rw [<-hpk0,List.length_append]; have:=G2.out; have:=HPK.out; omega)
    obtain ⟨br,hbr⟩:∃ y,a.br + G.2.2=y:=⟨_,rfl⟩
    have HBR:=Lib.hid hbr
    have BRL:=Lib.hid (show br<=1001 by rw [<-hbr]; have:=G3.out; have:=HBRB.out; omega)
    rw [hpk0,hbr] at HI
    obtain ⟨b1,hb1⟩:∃ y,br + 1=y:=⟨_,rfl⟩
    have HB1:=Lib.hid hb1
    have EB:IntKind.i64.wrap ((br:Int) + 1)=(b1:Int):=by have:=BRL.out; rw [IntKind.wrap_i64]; omega
    have I0:=Lib.hid (show Ch.begin (d.drop fi)=((Ch.begin (d.drop t)).1,[] ++ (Ch.begin (d.drop t)).2.1,(Ch.begin (d.drop t)).2.2) by rw [HT.out.2.2]; rfl)
    have ht:=HT.out.1
    clear g OPF hz1 hpk0 hbr hb1 HOP GO GS GF G2 G3
    go_wp2_with fail
    go_loopw [8] (fun x8 wr=>∃ (k:Nat) (dn:List (List UInt8)) (v2:Value),k<=da.size/\x8=.int .i64 k/\dn.length<=k/\DR W0 D A (dZ x q z1) v2 { a with pk:=pk ++ dn,br:=br } wr/\Cel wr F 7 (tmCel fr)/\TyB wr F 100/\Ch.begin (d.drop fi)=((Ch.begin (d.drop k)).1,dn ++ (Ch.begin (d.drop k)).2.1,(Ch.begin (d.drop k)).2.2)) (fun x8 _=>da.size - (intOf x8).toNat)
    case atStart=>exact ⟨t,[],v1,ht,rfl,Nat.zero_le _,by rw [List.append_nil]; exact HI.out.d,HI.out.c,HI.out.t,I0.out⟩
    case round=>
      obtain ⟨k,dn,v2,hk,rfl,hdn,hD,hC,hTy,hI⟩:=hrel
      have HDr:=Lib.hid hD
      have HC:=Lib.hid hC
      have HTy:=Lib.hid hTy
      have HIn:=Lib.hid hI
      have HDN:=Lib.hid hdn
      have e5:wr.cell? ⟨F,5,none⟩=some (.string da):=by rw [<-HDA.out]; exact hC.cell (j:=5) (by omega)
      clear hD hC hTy hI hdn HI f4 f5 I0
      by_cases hlt:k < da.size
      · have k0:(0:Int)<=(k:Int):=by omega
        have k1:(k:Int) < (da.size:Int):=by omega
        have k1d:decide ((k:Int) < (da.size:Int))=true:=decide_eq_true k1
        have k1n:decide (k < da.size)=true:=decide_eq_true hlt
        have k2:(k:Int) < 200:=by have:=SM.out; omega
        have RL:=restL da k hk
        rw [HDD.out] at RL
        have TK:=Lib.hid (fun w=>rtake_any (da.extract k da.size) (by rw [ByteArray.size_extract]; have:=SM.out; omega) w)
        rw [RL] at TK
        obtain ⟨s1,hs1⟩:∃ y,da.extract k da.size=y:=⟨_,rfl⟩
        have HS1:=Lib.hid hs1
        have BS1:=Lib.hid (show s1=bs (d.drop k) by rw [<-hs1]; apply ByteArray.ext; apply Array.toList_inj.1; rw [RL,bs_list])
        rw [hs1] at TK
        have HLT:=Lib.hid hlt
        clear RL hlt hk
        go_wp2_with fail
        (refine (TK.out _).mono ?_)
        rintro e w5 ⟨rfl,h5⟩
        have D5:=Lib.hid (HDr.out.below h5)
        have C5:=Lib.hid (HC.out.below h5)
        have T5:=Lib.hid (HTy.out.below h5)
        clear h5 TK HDr HC HTy e5
        rcases hr:Pk.take (d.drop k) with ⟨p,n⟩ | _ | _
        · rw [show tkV (.ok p n)=.tuple #[pkVal p,.int .i64 (n:Nat),.int .i64 0] from rfl]
          have BO:=Lib.hid (begin_ok hr)
          have AK:=Lib.hid (arr_kept hr)
          obtain ⟨n7,nl,n1030,_⟩:=Ch.take_pos hr
          rw [List.length_drop,LD.out] at nl
          obtain ⟨m,hm⟩:∃ y,k + n=y:=⟨_,rfl⟩
          have HM:=Lib.hid hm
          have ML:=Lib.hid (show m<=da.size/\k < m by have:=HLT.out; omega)
          have kn:(k:Int) + (n:Int)=(m:Int):=by omega
          have knw:IntKind.i64.wrap ((k:Int) + (n:Int))=(m:Int):=by have:=SM.out; have:=ML.out; rw [IntKind.wrap_i64]; omega
          have km:(k:Int)<=(m:Int):=by omega
          have ml:(m:Int)<=(da.size:Int):=by have:=ML.out; omega
          have SB:=sub_list da k n (by have:=ML.out; omega)
          rw [HDD.out,hm] at SB
          obtain ⟨s2,hs2⟩:∃ y,da.extract k m=y:=⟨_,rfl⟩
          rw [hs2] at SB
          have HS2:=Lib.hid SB
          have KL:=Lib.hid (show (Ch.kept [(p,(d.drop k).take n)]).length<=1 by unfold Ch.kept; rw [List.length_map]; exact List.length_filter_le _ _)
          clear hr nl SB hm
          go_upto_region 15 with (first
            | ((with_reducible refine atList ?_); refine wpList_newT rfl (.alloc 125) rfl (some 13) rfl #[.bool false,.int .i64 0,.int .i64 0,.int .i64 0,.string ⟨#[]⟩] 125 (fun X=>.pointer (some ⟨X,0,none⟩)) 5 (pkCel ⟨false,0,0,0,⟨#[]⟩⟩) (pkc_cells ⟨false,0,0,0,⟨#[]⟩⟩) (alloc_pk rfl) ?_; intro X w6a HX SX CX LX TX)
            | ((with_reducible refine atList ?_); refine wpList_setAllT rfl 125 (.tmp 13) (.tmp 102) rfl X 5 [.bool (p).cmd,.int .i64 (p).ap,.int .i64 (p).fl,.int .i64 (p).ct,.string (p).da] _ (pkCel (p)) CX.out rfl (pkc_list (p)) rfl rfl pkc_info (by simp [Value.oneCell']) ?_; intro w6 C3 U3 S3 V3))
          have B6:=Lib.hid (show Below w5.heap.size w5 w6 from But.under LX.out U3.out (by have:=HX.out; omega))
          clear HX SX CX LX TX C3 U3 S3 V3
          have D6:=Lib.hid (D5.out.below B6.out)
          have C6:=Lib.hid (C5.out.below B6.out)
          have T6:=Lib.hid (T5.out.below B6.out)
          have e6:w6.cell? ⟨F,5,none⟩=some (.string da):=by rw [<-HDA.out]; exact C6.out.cell (j:=5) (by omega)
          clear D5 C5 T5 B6
          have RA:=Lib.hid (rarr_any D6.out ((d.drop k).take n) (by rw [List.length_take,List.length_drop,LD.out]; have:=SM.out; omega) (by rw [show ({ a with pk:=pk ++ dn,br:=br }:Ch.Av).pk=pk ++ dn from rfl,List.length_append]; have:=PKL.out; have:=HDN.out; have:=SM.out; have:=ML.out; omega))
          rw [AK.out,<-HS2.out] at RA
          go_wp2_with fail
          (with_reducible refine RA.out.mono ?_)
          rintro e w7 ⟨⟨u7,rfl⟩,⟨v7,hD7⟩,hX7⟩
          have D7:=Lib.hid hD7
          have kb:=hX7.rest F T6.out.lt (fun e=>ty_ne T6.out D6.out.at' (by decide) e) (fun e=>ty_ne T6.out (own_ty D6.out.row e.symm).2 (by decide) rfl)
          have C7:=Lib.hid (C6.out.of_block kb)
          have T7:=Lib.hid (T6.out.of_block kb)
          clear hD7 hX7 kb RA
          go_wp2_with fail
          go_roundw
          case rel=>exact ⟨m,dn ++ Ch.kept [(p,(d.drop k).take n)],v7,ML.out.1,by first | rfl | (congr 1; omega),by rw [List.length_append]; have:=HDN.out; have:=KL.out; have:=ML.out; omega,by rw [<-List.append_assoc]; exact D7.out,C7.out,T7.out,by
            rw [HIn.out,BO.out,List.drop_drop,HM.out]
            simp⟩
          case measure=>simp [intOf]; have:=ML.out; omega
        · rw [show tkV .none=.tuple #[pkVal pk0,.int .i64 0,.int .i64 4] from rfl]
          have DNE:=Lib.hid (show decide (d.drop k ≠ [])=true from decide_eq_true (fun e=>by have:=congrArg List.length e; rw [List.length_drop,LD.out,List.length_nil] at this; have:=HLT.out; omega))
          have FIN:=Lib.hid (show Ch.tk pt 0 fi d=(d.drop k,G.2.1 ++ dn,G.2.2) by rw [TG.out,HIn.out,begin_none hr]; simp)
          clear hr
          go_upto_region 15 with (first
            | ((with_reducible refine atList ?_); refine wpList_newT rfl (.alloc 125) rfl (some 13) rfl #[.bool false,.int .i64 0,.int .i64 0,.int .i64 0,.string ⟨#[]⟩] 125 (fun X=>.pointer (some ⟨X,0,none⟩)) 5 (pkCel ⟨false,0,0,0,⟨#[]⟩⟩) (pkc_cells ⟨false,0,0,0,⟨#[]⟩⟩) (alloc_pk rfl) ?_; intro X w6a HX SX CX LX TX)
            | ((with_reducible refine atList ?_); refine wpList_setAllT rfl 125 (.tmp 13) (.tmp 102) rfl X 5 [.bool (pk0).cmd,.int .i64 (pk0).ap,.int .i64 (pk0).fl,.int .i64 (pk0).ct,.string (pk0).da] _ (pkCel (pk0)) CX.out rfl (pkc_list (pk0)) rfl rfl pkc_info (by simp [Value.oneCell']) ?_; intro w6 C3 U3 S3 V3))
          have B6:=Lib.hid (show Below w5.heap.size w5 w6 from But.under LX.out U3.out (by have:=HX.out; omega))
          clear HX SX CX LX TX C3 U3 S3 V3
          have D6:=Lib.hid (D5.out.below B6.out)
          have C6:=Lib.hid (C5.out.below B6.out)
          have T6:=Lib.hid (T5.out.below B6.out)
          have e6:w6.cell? ⟨F,5,none⟩=some (.string da):=by rw [<-HDA.out]; exact C6.out.cell (j:=5) (by omega)
          clear D5 C5 T5 B6
          go_upto_region 16 with fail
          refine rfRegion16 D q F k da s1 (fun b w'=>DR W0 D A (dZ x q (cond b { z1 with bn:=true } z1)) v2 { a with pk:=pk ++ dn,br:=br } w'/\Cel w' F 7 (tmCel fr)/\TyB w' F 100) (by
            have hb:Below w6.heap.size w6 w6.drew:=(Below.refl _ _).drew
            exact ⟨D6.out.below hb,C6.out.below hb,T6.out.below hb⟩) (fun b w' h=>by rw [<-HDA.out]; exact h.2.1.cell (j:=5) (by omega)) (by have:=HLT.out; omega) HS1.out (fun w' h=>by
            have hd:DR W0 D A (dZ x q z1) v2 { a with pk:=pk ++ dn,br:=br } w':=h.1
            have U:But D w' (w'.setCell ⟨D,q + 3,none⟩ (.bool true)):=(But.refl D w').setCell (q + 3) _
            have nF:F ≠ D:=fun e=>ty_ne h.2.2 hd.dt (by decide) e
            refine ⟨_,hd.dc.cell (by have:=HQ.out; omega),hd.dc.frozen (by have:=HQ.out; omega),hd.setD U ((hd.dc.set (q + 3) (.bool true)).congr (dZ_bn x HQ4.out z1 true)) ?_,h.2.1.but U nF,h.2.2.but U nF⟩
            obtain ⟨cur,fe,hh⟩:=hd.dt
            obtain ⟨c',hc'⟩:=cells_setCell (i:=q + 3) (u:=.bool true) hh
            exact ⟨c',fe,hc'⟩) (by kernel_rfl) rfl rfl rfl rfl rfl rfl rfl rfl rfl rfl rfl rfl rfl rfl rfl ?_
          intro w8 hw8
          have Dw8:=Lib.hid (show DR W0 D A (dZ x q { z1 with bn:=true }) v2 { a with pk:=pk ++ dn,br:=br } w8 from hw8.1)
          clear hw8 e6
          simp only [Act.put,List.setIfInBounds_toArray,List.set_cons_succ,List.set_cons_zero,List.drop_succ_cons,List.drop_zero]
          go_wp2_with ((with_reducible refine atList ?_); refine wpList_setT rfl (.store 9 (.tmp 116) (.tmp 112)) rfl D (q + 4) 44 (.string s1) _ (dZ x q { { z1 with bn:=true } with pt:=s1 }) Dw8.out.dc (by have:=HQ.out; omega) (dZ_pt x HQ4.out ({ z1 with bn:=true }) _) (store_str rfl rfl rfl (Dw8.out.dc.cell (by have:=HQ.out; omega)) (Dw8.out.dc.frozen (by have:=HQ.out; omega))) ?_; intro w9 Cw9 Uw9 Sw9 Vw9; have Dw9:=Lib.hid (Dw8.out.setD Uw9.out Cw9.out (Vw9.out _ Dw8.out.dt)); clear Cw9 Sw9 Vw9)
          first | go_ret | go_end0 | refine bodyPost_end (results_none rfl _ _ _) rfl ?_ | refine bodyPost_ret (results_none rfl _ _ _) rfl ?_
          refine ⟨⟨_,rfl⟩,v2,?_⟩
          rw [FIN.out]
          dsimp only
          have DN2:(!decide (d.drop k=[]))=true:=by have:=DNE.out; simpa using this
          rw [<-List.append_assoc,HPK2.out,HBR.out,<-BS1.out]
          first | rw [DN2] | rw [DNE.out]
          have:=Dw9.out
          rw [<-HZ1.out] at this
          exact this
        rw [show tkV .form=.tuple #[pkVal pk0,.int .i64 0,.int .i64 6] from rfl]
        have FIN:=Lib.hid (show Ch.tk pt 0 fi d=([],G.2.1 ++ dn,G.2.2 + 1) by rw [TG.out,HIn.out,begin_form hr]; simp)
        clear hr
        go_upto_region 15 with (first
          | ((with_reducible refine atList ?_); refine wpList_newT rfl (.alloc 125) rfl (some 13) rfl #[.bool false,.int .i64 0,.int .i64 0,.int .i64 0,.string ⟨#[]⟩] 125 (fun X=>.pointer (some ⟨X,0,none⟩)) 5 (pkCel ⟨false,0,0,0,⟨#[]⟩⟩) (pkc_cells ⟨false,0,0,0,⟨#[]⟩⟩) (alloc_pk rfl) ?_; intro X w6a HX SX CX LX TX)
          | ((with_reducible refine atList ?_); refine wpList_setAllT rfl 125 (.tmp 13) (.tmp 102) rfl X 5 [.bool (pk0).cmd,.int .i64 (pk0).ap,.int .i64 (pk0).fl,.int .i64 (pk0).ct,.string (pk0).da] _ (pkCel (pk0)) CX.out rfl (pkc_list (pk0)) rfl rfl pkc_info (by simp [Value.oneCell']) ?_; intro w6 C3 U3 S3 V3))
        have B6:=Lib.hid (show Below w5.heap.size w5 w6 from But.under LX.out U3.out (by have:=HX.out; omega))
        clear HX SX CX LX TX C3 U3 S3 V3
        have D6:=Lib.hid (D5.out.below B6.out)
        have C6:=Lib.hid (C5.out.below B6.out)
        have T6:=Lib.hid (T5.out.below B6.out)
        have e6:w6.cell? ⟨F,5,none⟩=some (.string da):=by rw [<-HDA.out]; exact C6.out.cell (j:=5) (by omega)
        clear D5 C5 T5 B6
        have b5:w6.cell? ⟨A,5,none⟩=some (.int .i64 (br:Nat)):=D6.out.ac.cell (j:=5) (by omega)
        go_wp2_with ((with_reducible refine atList ?_); refine wpList_setT rfl (.store 3 (.tmp 125) (.tmp 123)) rfl A 5 7 (.int .i64 (b1:Nat)) _ (aC _ { a with pk:=pk ++ dn,br:=b1 }) D6.out.ac (by omega) (fun j hj=>by match j,hj with | 0,_=>rfl | 1,_=>rfl | 2,_=>rfl | 3,_=>rfl | 4,_=>rfl | 5,_=>rfl | 6,_=>rfl) (store_int rfl rfl rfl (D6.out.ac.cell (j:=5) (by omega)) (D6.out.ac.frozen (j:=5) (by omega))) ?_; intro w7 Cw7 Uw7 Sw7 Vw7; have Dw7:=Lib.hid (D6.out.brk Uw7.out Cw7.out (Vw7.out _ D6.out.at')); clear Cw7 Sw7 Vw7)
        first | go_ret | go_end0 | refine bodyPost_end (results_none rfl _ _ _) rfl ?_ | refine bodyPost_ret (results_none rfl _ _ _) rfl ?_
        refine ⟨⟨_,rfl⟩,v2,?_⟩
        rw [FIN.out]
        show DR W0 D A (dZ x q { z with bn:=decide (([]:List UInt8) ≠ []),pt:=bs [] }) v2 { a with pk:=a.pk ++ (G.2.1 ++ dn),br:=a.br + (G.2.2 + 1) } w7
        rw [<-List.append_assoc,HPK2.out,<-Nat.add_assoc,HBR.out,HB1.out]
        have:=Dw7.out
        rw [<-HZ1.out] at this
        exact this
      obtain rfl:k=da.size:=by omega
      have k1d:decide ((da.size:Int) < (da.size:Int))=false:=decide_eq_false (by omega)
      have k1n:decide (da.size < da.size)=false:=decide_eq_false (by omega)
      have NIL:=Lib.hid (show Ch.tk pt 0 fi d=([],G.2.1 ++ dn,G.2.2) by
        rw [TG.out,HIn.out,List.drop_of_length_le (by have:=LD.out; omega),begin_none Ch.take_nil]
        simp)
      clear hlt hk
      go_wp2_with fail
      first | go_ret | go_end0 | refine bodyPost_end (results_none rfl _ _ _) rfl ?_ | refine bodyPost_ret (results_none rfl _ _ _) rfl ?_
      refine ⟨⟨_,rfl⟩,v2,?_⟩
      rw [NIL.out]
      dsimp only
      rw [<-List.append_assoc,HPK2.out,HBR.out,show ({ z with bn:=decide (([]:List UInt8) ≠ []),pt:=bs [] }:Zs)=z1 from HZ1.out]
      exact HDr.out
end Go.Proofs.YtchfkncbemjepaaGreat
