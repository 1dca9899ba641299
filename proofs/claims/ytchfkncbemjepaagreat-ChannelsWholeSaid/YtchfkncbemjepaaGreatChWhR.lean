/- ChWhR -/
import Derived.Test.YtchfkncbemjepaaGreatChWhS
set_option linter.unusedVariables false
set_option maxRecDepth 100000
set_option maxHeartbeats 4000000
/- Layer 11's laws: drawn regions of the sending of ChannelsWhole. -/
namespace Go.Proofs.YtchfkncbemjepaaGreat
open Go.RowKit
set_option linter.unusedSimpArgs false

def Wn (n5 S M:Nat) (T:Nat->Prop) (w0:World) (z:Sz) (F C:List Value) (f c:Value) (R:List Rw) (b1:Nat) (v1:Value) (b2:Nat) (v2:Value) (m7 m8 m14 m15 m18 m21:Bool) (w:World):Prop:=
  SW n5 S T w0 ([⟨cond m8 v1 z.v1,9,cond m8 (F ++ [f]) F⟩,⟨cond m15 v2 z.v2,3,cond m15 (C ++ [c]) C⟩,
    ⟨cond m7 (.slice (some ⟨b1,0,none⟩) 1 1) (.slice none 0 0),9,cond m7 [f] []⟩,⟨cond m14 (.slice (some ⟨b2,0,none⟩) 1 1) (.slice none 0 0),3,cond m14 [c] []⟩] ++ R)
    (sC M { z with v1:=cond m18 v1 z.v1,v2:=cond m21 v2 z.v2 }) w
theorem sC_v1 (M:Nat) (z:Sz) (v:Value) (j:Nat):(if j=1 then v else sC M z j)=sC M { z with v1:=v } j:=by
  by_cases h:j=1
  · subst h; rfl
  rw [if_neg h]
  unfold sC
  split <;> first | rfl | exact absurd rfl h
theorem sC_v2 (M:Nat) (z:Sz) (v:Value) (j:Nat):(if j=2 then v else sC M z j)=sC M { z with v2:=v } j:=by
  by_cases h:j=2
  · subst h; rfl
  rw [if_neg h]
  unfold sC
  split <;> first | rfl | exact absurd rfl h
theorem info_in:(Tryz.prog.info? 3).map (fun i=>(i.zero,i.size,i.bytes))=some (some (.int .i64 0),1,8):=by kernel_rfl
section
variable {n5 G M:Nat} {T:Nat->Prop} {W0 w':World} {z:Sz} {F C:List Value} {f:ByteArray} {c:Nat} {R:List Rw} {b1 b2:Nat} {v1 v2:Value} {m7 m8 m14 m15 m18 m21:Bool} {ev:Operand->Value} {oo:Oper}
theorem app1 (h5:ev (.tmp 165)=z.v1) (h7:ev (.tmp 167)=.slice (some ⟨b1,0,none⟩) 1 1) (e1:oo.op=.call { callee:=.builtin .append,args:=#[.tmp 165,.tmp 167],argTypes:=#[43,43] }) (hF:F.length<=1000000) (d7:m7=true) (n18:m18=false)
    (h:Wn n5 G M T W0 z F C (.string f) (.int .i64 (c:Nat)) R b1 v1 b2 v2 m7 false m14 m15 m18 m21 w'):∃ v' w2,(execOp ev oo).run Tryz.prog w'=.ok (.value v') w2/\Wn n5 G M T W0 z F C (.string f) (.int .i64 (c:Nat)) R b1 v' b2 v2 m7 true m14 m15 m18 m21 w2:=by
  subst d7 n18
  obtain ⟨ti,hi,hz,hs,hy⟩:=info_parts info_str
  obtain ⟨v',w2,hr,k⟩:=SW.app h (i:=0) (k:=2) rfl rfl rfl 43 oo.type Tryz.underlying43 hi hz hs hy rfl hF (by omega)
  exact ⟨v',w2,exec_append e1 h5 h7 hr,k⟩
theorem app2 (h5:ev (.tmp 172)=z.v2) (h7:ev (.tmp 174)=.slice (some ⟨b2,0,none⟩) 1 1) (e1:oo.op=.call { callee:=.builtin .append,args:=#[.tmp 172,.tmp 174],argTypes:=#[72,72] }) (hC:C.length<=1000000) (d14:m14=true) (n21:m21=false)
    (h:Wn n5 G M T W0 z F C (.string f) (.int .i64 (c:Nat)) R b1 v1 b2 v2 m7 m8 m14 false m18 m21 w'):∃ v' w2,(execOp ev oo).run Tryz.prog w'=.ok (.value v') w2/\Wn n5 G M T W0 z F C (.string f) (.int .i64 (c:Nat)) R b1 v1 b2 v' m7 m8 m14 true m18 m21 w2:=by
  subst d14 n21
  obtain ⟨ti,hi,hz,hs,hy⟩:=info_parts info_in
  obtain ⟨v',w2,hr,k⟩:=SW.app h (i:=1) (k:=3) rfl rfl rfl 72 oo.type Tryz.underlying72 hi hz hs hy rfl hC (by omega)
  exact ⟨v',w2,exec_append e1 h5 h7 hr,k⟩
theorem sl1 (d8:m8=true) (h:Wn n5 G M T W0 z F C (.string f) (.int .i64 (c:Nat)) R b1 v1 b2 v2 m7 m8 m14 m15 false m21 w'):∃ a n c,v1=.slice a n c:=by
  subst d8
  exact SW.is h (i:=0) rfl
theorem sl2 (d15:m15=true) (h:Wn n5 G M T W0 z F C (.string f) (.int .i64 (c:Nat)) R b1 v1 b2 v2 m7 m8 m14 m15 m18 false w'):∃ a n c,v2=.slice a n c:=by
  subst d15
  exact SW.is h (i:=1) rfl
theorem put1 (d8:m8=true) (h:Wn n5 G M T W0 z F C (.string f) (.int .i64 (c:Nat)) R b1 v1 b2 v2 m7 m8 m14 m15 false m21 w'):∃ u,w'.cell? ⟨G,1,none⟩=some u/\w'.frozen? ⟨G,1,none⟩=false/\Wn n5 G M T W0 z F C (.string f) (.int .i64 (c:Nat)) R b1 v1 b2 v2 m7 m8 m14 m15 true m21 (w'.setCell ⟨G,1,none⟩ v1):=
  ⟨_,h.cel.cell (by omega),h.cel.frozen (by omega),(SW.put h 1 v1).congr (fun j _=>sC_v1 M _ v1 j)⟩
theorem put2 (d15:m15=true) (h:Wn n5 G M T W0 z F C (.string f) (.int .i64 (c:Nat)) R b1 v1 b2 v2 m7 m8 m14 m15 m18 false w'):∃ u,w'.cell? ⟨G,2,none⟩=some u/\w'.frozen? ⟨G,2,none⟩=false/\Wn n5 G M T W0 z F C (.string f) (.int .i64 (c:Nat)) R b1 v1 b2 v2 m7 m8 m14 m15 m18 true (w'.setCell ⟨G,2,none⟩ v2):=
  ⟨_,h.cel.cell (by omega),h.cel.frozen (by omega),(SW.put h 2 v2).congr (fun j _=>sC_v2 M _ v2 j)⟩
end
structure SwRegion22 (n5 G M:Nat) (T:Nat->Prop) (W0:World) (z:Sz) (F C:List Value) (f:ByteArray) (c:Nat) (R:List Rw) (b1:Nat) (v1:Value) (b2:Nat) (v2:Value) (A:Act) (w0:World) (s:Nat->Bool) (a:Act) (w:World):Prop where
  off:Off [160,161,162,163,164,165,166,167,168,169,170,171,172,173,174,175,176,177,178,179] a A
  before:Wn n5 G M T W0 z F C (.string f) (.int .i64 (c:Nat)) R b1 v1 b2 v2 (s 7) (s 8) (s 14) (s 15) (s 18) false w
  t0:s 0=true->a.eval (.tmp 160)=.pointer (some ⟨G,1,none⟩)
  t1:s 1=true->a.eval (.tmp 161)=.pointer (some ⟨G,1,none⟩)
  t2:s 2=true->a.eval (.tmp 162)=.pointer (some ⟨G,1,none⟩)
  t3:s 3=true->a.eval (.tmp 163)=.pointer (some ⟨G,1,none⟩)
  t4:s 4=true->a.eval (.tmp 164)=.pointer (some ⟨G,1,none⟩)
  t5:s 5=true->a.eval (.tmp 165)=z.v1
  t6:s 6=true->a.eval (.tmp 166)=.string f
  t7:s 7=true->a.eval (.tmp 167)=.slice (some ⟨b1,0,none⟩) 1 1
  t8:s 8=true->a.eval (.tmp 168)=v1
  t9:s 9=true->a.eval (.tmp 169)=.pointer (some ⟨G,1,none⟩)
  t10:s 10=true->a.eval (.tmp 170)=.pointer (some ⟨G,1,none⟩)
  t11:s 11=true->a.eval (.tmp 171)=.pointer (some ⟨G,2,none⟩)
  t12:s 12=true->a.eval (.tmp 172)=z.v2
  t13:s 13=true->a.eval (.tmp 173)=.int .i64 (c:Nat)
  t14:s 14=true->a.eval (.tmp 174)=.slice (some ⟨b2,0,none⟩) 1 1
  t15:s 15=true->a.eval (.tmp 175)=v2
  t16:s 16=true->a.eval (.tmp 176)=.pointer (some ⟨G,1,none⟩)
  t17:s 17=true->a.eval (.tmp 177)=.pointer (some ⟨G,1,none⟩)
  t19:s 19=true->a.eval (.tmp 178)=.pointer (some ⟨G,1,none⟩)
  t20:s 20=true->a.eval (.tmp 179)=.pointer (some ⟨G,2,none⟩)
theorem swRegion22 {id:Nat} {l:List Oper} {A:Act} {w:World} {Q:Exit->Act->World->Prop} (n5 G M:Nat) (T:Nat->Prop) (W0:World) (z:Sz) (F C:List Value) (f:ByteArray) (c:Nat) (R:List Rw)
    (hW0:Wn n5 G M T W0 z F C (.string f) (.int .i64 (c:Nat)) R 0 z.v1 0 z.v2 false false false false false false w.drew) (hz1:∃ a n c,z.v1=.slice a n c) (hz2:∃ a n c,z.v2=.slice a n c) (hF:F.length<=1000000) (hC:C.length<=1000000)
    (hB:tableH l.toArray 21 (fun i=>match i with | 0=>[] | 1=>[] | 2=>[] | 3=>[2] | 4=>[3] | 5=>[4] | 6=>[] | 7=>[6] | 8=>[5,7] | 9=>[] | 10=>[9] | 11=>[10] | 12=>[11] | 13=>[] | 14=>[13] | 15=>[12,14] | 16=>[0] | 17=>[16] | 18=>[17,8] | 19=>[1] | 20=>[19] | _=>[]) (fun i=>match i with | 5=>[18] | 7=>[8] | 8=>[18] | 14=>[15] | _=>[])=true)
    (h0:pick l 0=some (.move (.tmp 10),some 160))
    (h1:pick l 1=some (.move (.tmp 10),some 161))
    (h2:pick l 2=some (.move (.tmp 10),some 162))
    (h3:pick l 3=some (.nilCheck (.tmp 162),some 163))
    (h4:pick l 4=some (.fieldAddr 74 (.tmp 163) 0,some 164))
    (h5:pick l 5=some (.load 43 (.tmp 164),some 165))
    (h6:pick l 6=some (.move (.tmp 6),some 166))
    (h7:pick l 7=some (.buildSlice 43 1 #[(0,.tmp 166)],some 167))
    (h8:pick l 8=some (.call { callee:=.builtin .append,args:=#[.tmp 165,.tmp 167],argTypes:=#[43,43] },some 168))
    (h9:pick l 9=some (.move (.tmp 10),some 169))
    (h10:pick l 10=some (.nilCheck (.tmp 169),some 170))
    (h11:pick l 11=some (.fieldAddr 74 (.tmp 170) 1,some 171))
    (h12:pick l 12=some (.load 72 (.tmp 171),some 172))
    (h13:pick l 13=some (.move (.tmp 8),some 173))
    (h14:pick l 14=some (.buildSlice 72 1 #[(0,.tmp 173)],some 174))
    (h15:pick l 15=some (.call { callee:=.builtin .append,args:=#[.tmp 172,.tmp 174],argTypes:=#[72,72] },some 175))
    (h16:pick l 16=some (.nilCheck (.tmp 160),some 176))
    (h17:pick l 17=some (.fieldAddr 74 (.tmp 176) 0,some 177))
    (h18:pick l 18=some (.store 43 (.tmp 177) (.tmp 168),none))
    (h19:pick l 19=some (.nilCheck (.tmp 161),some 178))
    (h20:pick l 20=some (.fieldAddr 74 (.tmp 178) 1,some 179))
    (hs:A.tmps.size=191)
    (x10:A.eval (.tmp 10)=.pointer (some ⟨G,1,none⟩))
    (x6:A.eval (.tmp 6)=.string f)
    (x8:A.eval (.tmp 8)=.int .i64 (c:Nat))
    (h:∀ (b1:Nat) (v1:Value) (b2:Nat) (v2:Value) (w1:World),Wn n5 G M T W0 z F C (.string f) (.int .i64 (c:Nat)) R b1 v1 b2 v2 true true true true true false w1->wpList Tryz.prog l.toArray Q (l.drop 21) ((((((((((((((((((((A.put (some 160) (.pointer (some ⟨G,1,none⟩))).put (some 161) (.pointer (some ⟨G,1,none⟩))).put (some 162) (.pointer (some ⟨G,1,none⟩))).put (some 163) (.pointer (some ⟨G,1,none⟩))).put (some 164) (.pointer (some ⟨G,1,none⟩))).put (some 165) (z.v1)).put (some 166) (.string f)).put (some 167) (.slice (some ⟨b1,0,none⟩) 1 1)).put (some 168) (v1)).put (some 169) (.pointer (some ⟨G,1,none⟩))).put (some 170) (.pointer (some ⟨G,1,none⟩))).put (some 171) (.pointer (some ⟨G,2,none⟩))).put (some 172) (z.v2)).put (some 173) (.int .i64 (c:Nat))).put (some 174) (.slice (some ⟨b2,0,none⟩) 1 1)).put (some 175) (v2)).put (some 176) (.pointer (some ⟨G,1,none⟩))).put (some 177) (.pointer (some ⟨G,1,none⟩))).put (some 178) (.pointer (some ⟨G,1,none⟩))).put (some 179) (.pointer (some ⟨G,2,none⟩))) w1):
    (Code.region id l.toArray true).wp Tryz.prog Q A w:=by
  refine wp_region_head (by kernel_rfl) _ _ _ hB (fun s a w'=>∃ (b1:Nat) (v1:Value) (b2:Nat) (v2:Value),SwRegion22 n5 G M T W0 z F C f c R b1 v1 b2 v2 A w s a w') ⟨0,z.v1,0,z.v2,Off.refl _ _,hW0,by simp,by simp,by simp,by simp,by simp,by simp,by simp,by simp,by simp,by simp,by simp,by simp,by simp,by simp,by simp,by simp,by simp,by simp,by simp,by simp⟩ ?_ ?_
  · intro s a w' ⟨b1,v1,b2,v2,S⟩ i' o il ho hsi hT K hK
    have sz:a.tmps.size=191:=by rw [S.off.2.1]; exact hs
    have y10:a.eval (.tmp 10)=.pointer (some ⟨G,1,none⟩):=by rw [S.off.eval (by decide)]; exact x10
    have y6:a.eval (.tmp 6)=.string f:=by rw [S.off.eval (by decide)]; exact x6
    have y8:a.eval (.tmp 8)=.int .i64 (c:Nat):=by rw [S.off.eval (by decide)]; exact x8
    match i',il,ho,hsi,hT with
    | 0,_,ho,hsi,hT=>
      obtain ⟨e1,e2⟩:=pick_of h0 ho
      refine step_val (v:=.pointer (some ⟨G,1,none⟩)) (by simp only [execOp,e1,y10]; go_simp) (hK _ _ ?_)
      rw [e2]
      exact ⟨_,_,_,_,ofp S.off,by simpa using S.before,ev_ (by omega),kp S.t1,kp S.t2,kp S.t3,kp S.t4,kp S.t5,kp S.t6,kp S.t7,kp S.t8,kp S.t9,kp S.t10,kp S.t11,kp S.t12,kp S.t13,kp S.t14,kp S.t15,kp S.t16,kp S.t17,kp S.t19,kp S.t20⟩
    | 1,_,ho,hsi,hT=>
      obtain ⟨e1,e2⟩:=pick_of h1 ho
      refine step_val (v:=.pointer (some ⟨G,1,none⟩)) (by simp only [execOp,e1,y10]; go_simp) (hK _ _ ?_)
      rw [e2]
      exact ⟨_,_,_,_,ofp S.off,by simpa using S.before,kp S.t0,ev_ (by omega),kp S.t2,kp S.t3,kp S.t4,kp S.t5,kp S.t6,kp S.t7,kp S.t8,kp S.t9,kp S.t10,kp S.t11,kp S.t12,kp S.t13,kp S.t14,kp S.t15,kp S.t16,kp S.t17,kp S.t19,kp S.t20⟩
    | 2,_,ho,hsi,hT=>
      obtain ⟨e1,e2⟩:=pick_of h2 ho
      refine step_val (v:=.pointer (some ⟨G,1,none⟩)) (by simp only [execOp,e1,y10]; go_simp) (hK _ _ ?_)
      rw [e2]
      exact ⟨_,_,_,_,ofp S.off,by simpa using S.before,kp S.t0,kp S.t1,ev_ (by omega),kp S.t3,kp S.t4,kp S.t5,kp S.t6,kp S.t7,kp S.t8,kp S.t9,kp S.t10,kp S.t11,kp S.t12,kp S.t13,kp S.t14,kp S.t15,kp S.t16,kp S.t17,kp S.t19,kp S.t20⟩
    | 3,_,ho,hsi,hT=>
      obtain ⟨e1,e2⟩:=pick_of h3 ho
      have D2:s 2=true:=list_pos hT (d:=2) (by decide)
      refine step_val (v:=.pointer (some ⟨G,1,none⟩)) (by simp only [execOp,e1,S.t2 D2]; go_simp) (hK _ _ ?_)
      rw [e2]
      exact ⟨_,_,_,_,ofp S.off,by simpa using S.before,kp S.t0,kp S.t1,kp S.t2,ev_ (by omega),kp S.t4,kp S.t5,kp S.t6,kp S.t7,kp S.t8,kp S.t9,kp S.t10,kp S.t11,kp S.t12,kp S.t13,kp S.t14,kp S.t15,kp S.t16,kp S.t17,kp S.t19,kp S.t20⟩
    | 4,_,ho,hsi,hT=>
      obtain ⟨e1,e2⟩:=pick_of h4 ho
      have D3:s 3=true:=list_pos hT (d:=3) (by decide)
      refine step_val (v:=.pointer (some ⟨G,1,none⟩)) (by simp only [execOp,e1,S.t3 D3]; go_simp) (hK _ _ ?_)
      rw [e2]
      exact ⟨_,_,_,_,ofp S.off,by simpa using S.before,kp S.t0,kp S.t1,kp S.t2,kp S.t3,ev_ (by omega),kp S.t5,kp S.t6,kp S.t7,kp S.t8,kp S.t9,kp S.t10,kp S.t11,kp S.t12,kp S.t13,kp S.t14,kp S.t15,kp S.t16,kp S.t17,kp S.t19,kp S.t20⟩
    | 5,_,ho,hsi,hT=>
      obtain ⟨e1,e2⟩:=pick_of h5 ho
      have D4:s 4=true:=list_pos hT (d:=4) (by decide)
      have N18:s 18=false:=list_neg hT (k:=18) (by decide)
      have BW:=S.before
      rw [N18] at BW
      have cc:w'.cell? ⟨G,1,none⟩=some z.v1:=BW.cel.cell (j:=1) (by omega)
      obtain ⟨q1,q2,q3,hq⟩:=hz1
      rw [hq] at cc
      refine step_val (v:=z.v1) (by simp only [execOp,e1,S.t4 D4]; rw [hq]; go_simp) (hK _ _ ?_)
      rw [e2]
      exact ⟨_,_,_,_,ofp S.off,by simpa using S.before,kp S.t0,kp S.t1,kp S.t2,kp S.t3,kp S.t4,ev_ (by omega),kp S.t6,kp S.t7,kp S.t8,kp S.t9,kp S.t10,kp S.t11,kp S.t12,kp S.t13,kp S.t14,kp S.t15,kp S.t16,kp S.t17,kp S.t19,kp S.t20⟩
    | 6,_,ho,hsi,hT=>
      obtain ⟨e1,e2⟩:=pick_of h6 ho
      refine step_val (v:=.string f) (by simp only [execOp,e1,y6]; go_simp) (hK _ _ ?_)
      rw [e2]
      exact ⟨_,_,_,_,ofp S.off,by simpa using S.before,kp S.t0,kp S.t1,kp S.t2,kp S.t3,kp S.t4,kp S.t5,ev_ (by omega),kp S.t7,kp S.t8,kp S.t9,kp S.t10,kp S.t11,kp S.t12,kp S.t13,kp S.t14,kp S.t15,kp S.t16,kp S.t17,kp S.t19,kp S.t20⟩
    | 7,_,ho,hsi,hT=>
      obtain ⟨e1,e2⟩:=pick_of h7 ho
      have D6:s 6=true:=list_pos hT (d:=6) (by decide)
      have N8:s 8=false:=list_neg hT (k:=8) (by decide)
      have BW:=S.before
      have q166:a.tmps[166]'(by omega)=.string f:=by have:=S.t6 D6; simpa [Act.eval,sz] using this
      rw [hsi] at BW
      obtain ⟨gh,w2,hr,WW0⟩:=(⟨w'.heap.size,w'.alloc (.cells #[.string f] 9),by simp only [execOp,e1]; go_simp,SW.build (i:=2) BW rfl⟩:∃ gh w2,(execOp a.eval o).run Tryz.prog w'=.ok (.value (.slice (some ⟨gh,0,none⟩) 1 1)) w2/\Wn n5 G M T W0 z F C (.string f) (.int .i64 (c:Nat)) R gh v1 b2 v2 true (s 8) (s 14) (s 15) (s 18) false w2)
      refine step_to1 hr (hK _ _ ?_)
      have WW:Wn n5 G M T W0 z F C (.string f) (.int .i64 (c:Nat)) R gh v1 b2 v2 (if 7=7 then true else s 7) (if 8=7 then true else s 8) (if 14=7 then true else s 14) (if 15=7 then true else s 15) (if 18=7 then true else s 18) false w2:=by simpa using WW0
      rw [e2]
      exact ⟨_,_,_,_,ofp S.off,WW,kp S.t0,kp S.t1,kp S.t2,kp S.t3,kp S.t4,kp S.t5,kp S.t6,ev_ (by omega),kp S.t8,kp S.t9,kp S.t10,kp S.t11,kp S.t12,kp S.t13,kp S.t14,kp S.t15,kp S.t16,kp S.t17,kp S.t19,kp S.t20⟩
    | 8,_,ho,hsi,hT=>
      obtain ⟨e1,e2⟩:=pick_of h8 ho
      have D5:s 5=true:=list_pos hT (d:=5) (by decide)
      have D7:s 7=true:=list_pos hT (d:=7) (by decide)
      have N18:s 18=false:=list_neg hT (k:=18) (by decide)
      have BW:=S.before
      rw [hsi] at BW
      obtain ⟨gh,w2,hr,WW0⟩:=app1 (S.t5 D5) (S.t7 D7) e1 hF D7 N18 BW
      refine step_to1 hr (hK _ _ ?_)
      have WW:Wn n5 G M T W0 z F C (.string f) (.int .i64 (c:Nat)) R b1 gh b2 v2 (if 7=8 then true else s 7) (if 8=8 then true else s 8) (if 14=8 then true else s 14) (if 15=8 then true else s 15) (if 18=8 then true else s 18) false w2:=by simpa using WW0
      rw [e2]
      exact ⟨_,_,_,_,ofp S.off,WW,kp S.t0,kp S.t1,kp S.t2,kp S.t3,kp S.t4,kp S.t5,kp S.t6,kp S.t7,ev_ (by omega),kp S.t9,kp S.t10,kp S.t11,kp S.t12,kp S.t13,kp S.t14,kp S.t15,kp S.t16,kp S.t17,kp S.t19,kp S.t20⟩
    | 9,_,ho,hsi,hT=>
      obtain ⟨e1,e2⟩:=pick_of h9 ho
      refine step_val (v:=.pointer (some ⟨G,1,none⟩)) (by simp only [execOp,e1,y10]; go_simp) (hK _ _ ?_)
      rw [e2]
      exact ⟨_,_,_,_,ofp S.off,by simpa using S.before,kp S.t0,kp S.t1,kp S.t2,kp S.t3,kp S.t4,kp S.t5,kp S.t6,kp S.t7,kp S.t8,ev_ (by omega),kp S.t10,kp S.t11,kp S.t12,kp S.t13,kp S.t14,kp S.t15,kp S.t16,kp S.t17,kp S.t19,kp S.t20⟩
    | 10,_,ho,hsi,hT=>
      obtain ⟨e1,e2⟩:=pick_of h10 ho
      have D9:s 9=true:=list_pos hT (d:=9) (by decide)
      refine step_val (v:=.pointer (some ⟨G,1,none⟩)) (by simp only [execOp,e1,S.t9 D9]; go_simp) (hK _ _ ?_)
      rw [e2]
      exact ⟨_,_,_,_,ofp S.off,by simpa using S.before,kp S.t0,kp S.t1,kp S.t2,kp S.t3,kp S.t4,kp S.t5,kp S.t6,kp S.t7,kp S.t8,kp S.t9,ev_ (by omega),kp S.t11,kp S.t12,kp S.t13,kp S.t14,kp S.t15,kp S.t16,kp S.t17,kp S.t19,kp S.t20⟩
    | 11,_,ho,hsi,hT=>
      obtain ⟨e1,e2⟩:=pick_of h11 ho
      have D10:s 10=true:=list_pos hT (d:=10) (by decide)
      refine step_val (v:=.pointer (some ⟨G,2,none⟩)) (by simp only [execOp,e1,S.t10 D10]; go_simp) (hK _ _ ?_)
      rw [e2]
      exact ⟨_,_,_,_,ofp S.off,by simpa using S.before,kp S.t0,kp S.t1,kp S.t2,kp S.t3,kp S.t4,kp S.t5,kp S.t6,kp S.t7,kp S.t8,kp S.t9,kp S.t10,ev_ (by omega),kp S.t12,kp S.t13,kp S.t14,kp S.t15,kp S.t16,kp S.t17,kp S.t19,kp S.t20⟩
    | 12,_,ho,hsi,hT=>
      obtain ⟨e1,e2⟩:=pick_of h12 ho
      have D11:s 11=true:=list_pos hT (d:=11) (by decide)
      have BW:=S.before
      have cc:w'.cell? ⟨G,2,none⟩=some z.v2:=BW.cel.cell (j:=2) (by omega)
      obtain ⟨q1,q2,q3,hq⟩:=hz2
      rw [hq] at cc
      refine step_val (v:=z.v2) (by simp only [execOp,e1,S.t11 D11]; rw [hq]; go_simp) (hK _ _ ?_)
      rw [e2]
      exact ⟨_,_,_,_,ofp S.off,by simpa using S.before,kp S.t0,kp S.t1,kp S.t2,kp S.t3,kp S.t4,kp S.t5,kp S.t6,kp S.t7,kp S.t8,kp S.t9,kp S.t10,kp S.t11,ev_ (by omega),kp S.t13,kp S.t14,kp S.t15,kp S.t16,kp S.t17,kp S.t19,kp S.t20⟩
    | 13,_,ho,hsi,hT=>
      obtain ⟨e1,e2⟩:=pick_of h13 ho
      refine step_val (v:=.int .i64 (c:Nat)) (by simp only [execOp,e1,y8]; go_simp) (hK _ _ ?_)
      rw [e2]
      exact ⟨_,_,_,_,ofp S.off,by simpa using S.before,kp S.t0,kp S.t1,kp S.t2,kp S.t3,kp S.t4,kp S.t5,kp S.t6,kp S.t7,kp S.t8,kp S.t9,kp S.t10,kp S.t11,kp S.t12,ev_ (by omega),kp S.t14,kp S.t15,kp S.t16,kp S.t17,kp S.t19,kp S.t20⟩
    | 14,_,ho,hsi,hT=>
      obtain ⟨e1,e2⟩:=pick_of h14 ho
      have D13:s 13=true:=list_pos hT (d:=13) (by decide)
      have N15:s 15=false:=list_neg hT (k:=15) (by decide)
      have BW:=S.before
      have q173:a.tmps[173]'(by omega)=.int .i64 (c:Nat):=by have:=S.t13 D13; simpa [Act.eval,sz] using this
      rw [hsi] at BW
      obtain ⟨gh,w2,hr,WW0⟩:=(⟨w'.heap.size,w'.alloc (.cells #[.int .i64 (c:Nat)] 3),by simp only [execOp,e1]; go_simp,SW.build (i:=3) BW rfl⟩:∃ gh w2,(execOp a.eval o).run Tryz.prog w'=.ok (.value (.slice (some ⟨gh,0,none⟩) 1 1)) w2/\Wn n5 G M T W0 z F C (.string f) (.int .i64 (c:Nat)) R b1 v1 gh v2 (s 7) (s 8) true (s 15) (s 18) false w2)
      refine step_to1 hr (hK _ _ ?_)
      have WW:Wn n5 G M T W0 z F C (.string f) (.int .i64 (c:Nat)) R b1 v1 gh v2 (if 7=14 then true else s 7) (if 8=14 then true else s 8) (if 14=14 then true else s 14) (if 15=14 then true else s 15) (if 18=14 then true else s 18) false w2:=by simpa using WW0
      rw [e2]
      exact ⟨_,_,_,_,ofp S.off,WW,kp S.t0,kp S.t1,kp S.t2,kp S.t3,kp S.t4,kp S.t5,kp S.t6,kp S.t7,kp S.t8,kp S.t9,kp S.t10,kp S.t11,kp S.t12,kp S.t13,ev_ (by omega),kp S.t15,kp S.t16,kp S.t17,kp S.t19,kp S.t20⟩
    | 15,_,ho,hsi,hT=>
      obtain ⟨e1,e2⟩:=pick_of h15 ho
      have D12:s 12=true:=list_pos hT (d:=12) (by decide)
      have D14:s 14=true:=list_pos hT (d:=14) (by decide)
      have BW:=S.before
      rw [hsi] at BW
      obtain ⟨gh,w2,hr,WW0⟩:=app2 (S.t12 D12) (S.t14 D14) e1 hC D14 rfl BW
      refine step_to1 hr (hK _ _ ?_)
      have WW:Wn n5 G M T W0 z F C (.string f) (.int .i64 (c:Nat)) R b1 v1 b2 gh (if 7=15 then true else s 7) (if 8=15 then true else s 8) (if 14=15 then true else s 14) (if 15=15 then true else s 15) (if 18=15 then true else s 18) false w2:=by simpa using WW0
      rw [e2]
      exact ⟨_,_,_,_,ofp S.off,WW,kp S.t0,kp S.t1,kp S.t2,kp S.t3,kp S.t4,kp S.t5,kp S.t6,kp S.t7,kp S.t8,kp S.t9,kp S.t10,kp S.t11,kp S.t12,kp S.t13,kp S.t14,ev_ (by omega),kp S.t16,kp S.t17,kp S.t19,kp S.t20⟩
    | 16,_,ho,hsi,hT=>
      obtain ⟨e1,e2⟩:=pick_of h16 ho
      have D0:s 0=true:=list_pos hT (d:=0) (by decide)
      refine step_val (v:=.pointer (some ⟨G,1,none⟩)) (by simp only [execOp,e1,S.t0 D0]; go_simp) (hK _ _ ?_)
      rw [e2]
      exact ⟨_,_,_,_,ofp S.off,by simpa using S.before,kp S.t0,kp S.t1,kp S.t2,kp S.t3,kp S.t4,kp S.t5,kp S.t6,kp S.t7,kp S.t8,kp S.t9,kp S.t10,kp S.t11,kp S.t12,kp S.t13,kp S.t14,kp S.t15,ev_ (by omega),kp S.t17,kp S.t19,kp S.t20⟩
    | 17,_,ho,hsi,hT=>
      obtain ⟨e1,e2⟩:=pick_of h17 ho
      have D16:s 16=true:=list_pos hT (d:=16) (by decide)
      refine step_val (v:=.pointer (some ⟨G,1,none⟩)) (by simp only [execOp,e1,S.t16 D16]; go_simp) (hK _ _ ?_)
      rw [e2]
      exact ⟨_,_,_,_,ofp S.off,by simpa using S.before,kp S.t0,kp S.t1,kp S.t2,kp S.t3,kp S.t4,kp S.t5,kp S.t6,kp S.t7,kp S.t8,kp S.t9,kp S.t10,kp S.t11,kp S.t12,kp S.t13,kp S.t14,kp S.t15,kp S.t16,ev_ (by omega),kp S.t19,kp S.t20⟩
    | 18,_,ho,hsi,hT=>
      obtain ⟨e1,e2⟩:=pick_of h18 ho
      have D17:s 17=true:=list_pos hT (d:=17) (by decide)
      have D8:s 8=true:=list_pos hT (d:=8) (by decide)
      have BW:=S.before
      rw [hsi] at BW
      obtain ⟨u,hc,hf,WW0⟩:=put1 D8 BW
      refine step_to (store_strsV e1 (S.t17 D17) (S.t8 D8) (sl1 D8 BW) hc hf) (hK _ _ ?_)
      have WW:Wn n5 G M T W0 z F C (.string f) (.int .i64 (c:Nat)) R b1 v1 b2 v2 (if 7=18 then true else s 7) (if 8=18 then true else s 8) (if 14=18 then true else s 14) (if 15=18 then true else s 15) (if 18=18 then true else s 18) false (w'.setCell ⟨G,1,none⟩ v1):=by simpa using WW0
      rw [e2]
      exact ⟨_,_,_,_,S.off.put_none _,WW,fun g=>S.t0 (by simpa using g),fun g=>S.t1 (by simpa using g),fun g=>S.t2 (by simpa using g),fun g=>S.t3 (by simpa using g),fun g=>S.t4 (by simpa using g),fun g=>S.t5 (by simpa using g),fun g=>S.t6 (by simpa using g),fun g=>S.t7 (by simpa using g),fun g=>S.t8 (by simpa using g),fun g=>S.t9 (by simpa using g),fun g=>S.t10 (by simpa using g),fun g=>S.t11 (by simpa using g),fun g=>S.t12 (by simpa using g),fun g=>S.t13 (by simpa using g),fun g=>S.t14 (by simpa using g),fun g=>S.t15 (by simpa using g),fun g=>S.t16 (by simpa using g),fun g=>S.t17 (by simpa using g),fun g=>S.t19 (by simpa using g),fun g=>S.t20 (by simpa using g)⟩
    | 19,_,ho,hsi,hT=>
      obtain ⟨e1,e2⟩:=pick_of h19 ho
      have D1:s 1=true:=list_pos hT (d:=1) (by decide)
      refine step_val (v:=.pointer (some ⟨G,1,none⟩)) (by simp only [execOp,e1,S.t1 D1]; go_simp) (hK _ _ ?_)
      rw [e2]
      exact ⟨_,_,_,_,ofp S.off,by simpa using S.before,kp S.t0,kp S.t1,kp S.t2,kp S.t3,kp S.t4,kp S.t5,kp S.t6,kp S.t7,kp S.t8,kp S.t9,kp S.t10,kp S.t11,kp S.t12,kp S.t13,kp S.t14,kp S.t15,kp S.t16,kp S.t17,ev_ (by omega),kp S.t20⟩
    | 20,_,ho,hsi,hT=>
      obtain ⟨e1,e2⟩:=pick_of h20 ho
      have D19:s 19=true:=list_pos hT (d:=19) (by decide)
      refine step_val (v:=.pointer (some ⟨G,2,none⟩)) (by simp only [execOp,e1,S.t19 D19]; go_simp) (hK _ _ ?_)
      rw [e2]
      exact ⟨_,_,_,_,ofp S.off,by simpa using S.before,kp S.t0,kp S.t1,kp S.t2,kp S.t3,kp S.t4,kp S.t5,kp S.t6,kp S.t7,kp S.t8,kp S.t9,kp S.t10,kp S.t11,kp S.t12,kp S.t13,kp S.t14,kp S.t15,kp S.t16,kp S.t17,kp S.t19,ev_ (by omega)⟩
    | _ + 21,il,_,_,_=>exact absurd il (by omega)
  intro s a w' ⟨b1,v1,b2,v2,S⟩ hall
  have a0:=hall 0 (by omega)
  have a1:=hall 1 (by omega)
  have a2:=hall 2 (by omega)
  have a3:=hall 3 (by omega)
  have a4:=hall 4 (by omega)
  have a5:=hall 5 (by omega)
  have a6:=hall 6 (by omega)
  have a7:=hall 7 (by omega)
  have a8:=hall 8 (by omega)
  have a9:=hall 9 (by omega)
  have a10:=hall 10 (by omega)
  have a11:=hall 11 (by omega)
  have a12:=hall 12 (by omega)
  have a13:=hall 13 (by omega)
  have a14:=hall 14 (by omega)
  have a15:=hall 15 (by omega)
  have a16:=hall 16 (by omega)
  have a17:=hall 17 (by omega)
  have a18:=hall 18 (by omega)
  have a19:=hall 19 (by omega)
  have a20:=hall 20 (by omega)
  have e:=off_norm _ (by intro d hd; simp at hd; omega) S.off
  simp only [List.foldl,S.t0 a0,S.t1 a1,S.t2 a2,S.t3 a3,S.t4 a4,S.t5 a5,S.t6 a6,S.t7 a7,S.t8 a8,S.t9 a9,S.t10 a10,S.t11 a11,S.t12 a12,S.t13 a13,S.t14 a14,S.t15 a15,S.t16 a16,S.t17 a17,S.t19 a19,S.t20 a20] at e
  have BW:=S.before
  rw [a7,a8,a14,a15,a18] at BW
  rw [e]
  exact h _ _ _ _ _ BW
def Wst (n5 G:Nat) (T:Nat->Prop) (W0:World) (L:List Rw) (c:Nat->Value) (i:Nat) (r:Rw) (p:Nat) (x:Value) (m:Bool) (w:World):Prop:=SW n5 G T W0 (L.set i ⟨r.v,r.t,cond m (r.xs.set p x) r.xs⟩) c w
theorem Wst.put {n5 G B n cp:Nat} {T:Nat->Prop} {W0 w:World} {L:List Rw} {c:Nat->Value} {i:Nat} {r:Rw} {p:Nat} {x:Value} (h:Wst n5 G T W0 L c i r p x false w) (hi:i < L.length) (hv:r.v=.slice (some ⟨B,0,none⟩) n cp) (hp:p < r.xs.length):
    ∃ u,w.cell? ⟨B,p,none⟩=some u/\w.frozen? ⟨B,p,none⟩=false/\Wst n5 G T W0 L c i r p x true (w.setCell ⟨B,p,none⟩ x):=by
  obtain ⟨u,h1,h2,h3⟩:=SW.store (x:=x) h (i:=i) (r:=⟨r.v,r.t,r.xs⟩) (by rw [List.getElem?_set_self hi]; rfl) hv hp
  refine ⟨u,h1,h2,?_⟩
  rw [List.set_set] at h3
  exact h3
structure SwRegion19 (n5 G M:Nat) (T:Nat->Prop) (W0:World) (z:Sz) (L:List Rw) (i:Nat) (xs:List Value) (p B n cp N fc:Nat) (fa:Option Addr) (A:Act) (w0:World) (s:Nat->Bool) (a:Act) (w:World):Prop where
  off:Off [132,133,134,135,136,137,138,139,140,141,142] a A
  before:Wst n5 G T W0 L (sC M z) i ⟨z.v5,3,xs⟩ p (.int .i64 (N:Nat))  false w
  t0:s 0=true->a.eval (.tmp 132)=.pointer (some ⟨G,1,none⟩)
  t1:s 1=true->a.eval (.tmp 133)=.pointer (some ⟨G,1,none⟩)
  t2:s 2=true->a.eval (.tmp 134)=.pointer (some ⟨G,5,none⟩)
  t3:s 3=true->a.eval (.tmp 135)=.slice (some ⟨B,0,none⟩) n cp
  t4:s 4=true->a.eval (.tmp 136)=.int .i64 (p:Nat)
  t5:s 5=true->a.eval (.tmp 137)=.pointer (some ⟨G,1,none⟩)
  t6:s 6=true->a.eval (.tmp 138)=.pointer (some ⟨G,1,none⟩)
  t7:s 7=true->a.eval (.tmp 139)=.pointer (some ⟨G,1,none⟩)
  t8:s 8=true->a.eval (.tmp 140)=.slice fa N fc
  t9:s 9=true->a.eval (.tmp 141)=.int .i64 (N:Nat)
  t10:s 10=true->a.eval (.tmp 142)=.pointer (some ⟨B,p,none⟩)
theorem swRegion19 {id:Nat} {l:List Oper} {A:Act} {w:World} {Q:Exit->Act->World->Prop} (n5 G M:Nat) (T:Nat->Prop) (W0:World) (z:Sz) (L:List Rw) (i:Nat) (xs:List Value) (p B n cp N fc:Nat) (fa:Option Addr)
    (hW0:Wst n5 G T W0 L (sC M z) i ⟨z.v5,3,xs⟩ p (.int .i64 (N:Nat)) false w.drew) (hi:i < L.length) (hv:z.v5=.slice (some ⟨B,0,none⟩) n cp) (hf1:z.v1=.slice fa N fc) (hp:p < n) (hrl:xs.length=n)
    (hB:tableH l.toArray 11 (fun i=>match i with | 0=>[] | 1=>[0] | 2=>[1] | 3=>[2] | 4=>[] | 5=>[] | 6=>[5] | 7=>[6] | 8=>[7] | 9=>[8] | 10=>[3,4] | _=>[]) (fun _=>[])=true)
    (h0:pick l 0=some (.move (.tmp 10),some 132))
    (h1:pick l 1=some (.nilCheck (.tmp 132),some 133))
    (h2:pick l 2=some (.fieldAddr 74 (.tmp 133) 4,some 134))
    (h3:pick l 3=some (.load 72 (.tmp 134),some 135))
    (h4:pick l 4=some (.move (.tmp 12),some 136))
    (h5:pick l 5=some (.move (.tmp 10),some 137))
    (h6:pick l 6=some (.nilCheck (.tmp 137),some 138))
    (h7:pick l 7=some (.fieldAddr 74 (.tmp 138) 0,some 139))
    (h8:pick l 8=some (.load 43 (.tmp 139),some 140))
    (h9:pick l 9=some (.call { callee:=.builtin .len,args:=#[.tmp 140],argTypes:=#[43] },some 141))
    (h10:pick l 10=some (.indexAddr 72 (.tmp 135) (.tmp 136),some 142))
    (hs:A.tmps.size=191)
    (x10:A.eval (.tmp 10)=.pointer (some ⟨G,1,none⟩))
    (x12:A.eval (.tmp 12)=.int .i64 (p:Nat))
    (h:∀ w1,Wst n5 G T W0 L (sC M z) i ⟨z.v5,3,xs⟩ p (.int .i64 (N:Nat))  false w1->wpList Tryz.prog l.toArray Q (l.drop 11) (((((((((((A.put (some 132) (.pointer (some ⟨G,1,none⟩))).put (some 133) (.pointer (some ⟨G,1,none⟩))).put (some 134) (.pointer (some ⟨G,5,none⟩))).put (some 135) (.slice (some ⟨B,0,none⟩) n cp)).put (some 136) (.int .i64 (p:Nat))).put (some 137) (.pointer (some ⟨G,1,none⟩))).put (some 138) (.pointer (some ⟨G,1,none⟩))).put (some 139) (.pointer (some ⟨G,1,none⟩))).put (some 140) (.slice fa N fc)).put (some 141) (.int .i64 (N:Nat))).put (some 142) (.pointer (some ⟨B,p,none⟩))) w1):
    (Code.region id l.toArray true).wp Tryz.prog Q A w:=by
  refine wp_region_head (by kernel_rfl) _ _ _ hB (SwRegion19 n5 G M T W0 z L i xs p B n cp N fc fa A w) ⟨Off.refl _ _,hW0,by simp,by simp,by simp,by simp,by simp,by simp,by simp,by simp,by simp,by simp,by simp⟩ ?_ ?_
  · intro s a w' S i' o il ho hsi hT K hK
    have sz:a.tmps.size=191:=by rw [S.off.2.1]; exact hs
    have y10:a.eval (.tmp 10)=.pointer (some ⟨G,1,none⟩):=by rw [S.off.eval (by decide)]; exact x10
    have y12:a.eval (.tmp 12)=.int .i64 (p:Nat):=by rw [S.off.eval (by decide)]; exact x12
    match i',il,ho,hsi,hT with
    | 0,_,ho,hsi,hT=>
      obtain ⟨e1,e2⟩:=pick_of h0 ho
      refine step_val (v:=.pointer (some ⟨G,1,none⟩)) (by simp only [execOp,e1,y10]; go_simp) (hK _ _ ?_)
      rw [e2]
      exact ⟨ofp S.off,by simpa using S.before,ev_ (by omega),kp S.t1,kp S.t2,kp S.t3,kp S.t4,kp S.t5,kp S.t6,kp S.t7,kp S.t8,kp S.t9,kp S.t10⟩
    | 1,_,ho,hsi,hT=>
      obtain ⟨e1,e2⟩:=pick_of h1 ho
      have D0:s 0=true:=list_pos hT (d:=0) (by decide)
      refine step_val (v:=.pointer (some ⟨G,1,none⟩)) (by simp only [execOp,e1,S.t0 D0]; go_simp) (hK _ _ ?_)
      rw [e2]
      exact ⟨ofp S.off,by simpa using S.before,kp S.t0,ev_ (by omega),kp S.t2,kp S.t3,kp S.t4,kp S.t5,kp S.t6,kp S.t7,kp S.t8,kp S.t9,kp S.t10⟩
    | 2,_,ho,hsi,hT=>
      obtain ⟨e1,e2⟩:=pick_of h2 ho
      have D1:s 1=true:=list_pos hT (d:=1) (by decide)
      refine step_val (v:=.pointer (some ⟨G,5,none⟩)) (by simp only [execOp,e1,S.t1 D1]; go_simp) (hK _ _ ?_)
      rw [e2]
      exact ⟨ofp S.off,by simpa using S.before,kp S.t0,kp S.t1,ev_ (by omega),kp S.t3,kp S.t4,kp S.t5,kp S.t6,kp S.t7,kp S.t8,kp S.t9,kp S.t10⟩
    | 3,_,ho,hsi,hT=>
      obtain ⟨e1,e2⟩:=pick_of h3 ho
      have D2:s 2=true:=list_pos hT (d:=2) (by decide)
      have BW:=S.before
      have cc:w'.cell? ⟨G,5,none⟩=some (.slice (some ⟨B,0,none⟩) n cp):=(BW.cel.cell (j:=5) (by omega)).trans (congrArg some hv)
      refine step_val (v:=.slice (some ⟨B,0,none⟩) n cp) (by simp only [execOp,e1,S.t2 D2]; go_simp) (hK _ _ ?_)
      rw [e2]
      exact ⟨ofp S.off,by simpa using S.before,kp S.t0,kp S.t1,kp S.t2,ev_ (by omega),kp S.t4,kp S.t5,kp S.t6,kp S.t7,kp S.t8,kp S.t9,kp S.t10⟩
    | 4,_,ho,hsi,hT=>
      obtain ⟨e1,e2⟩:=pick_of h4 ho
      refine step_val (v:=.int .i64 (p:Nat)) (by simp only [execOp,e1,y12]; go_simp) (hK _ _ ?_)
      rw [e2]
      exact ⟨ofp S.off,by simpa using S.before,kp S.t0,kp S.t1,kp S.t2,kp S.t3,ev_ (by omega),kp S.t5,kp S.t6,kp S.t7,kp S.t8,kp S.t9,kp S.t10⟩
    | 5,_,ho,hsi,hT=>
      obtain ⟨e1,e2⟩:=pick_of h5 ho
      refine step_val (v:=.pointer (some ⟨G,1,none⟩)) (by simp only [execOp,e1,y10]; go_simp) (hK _ _ ?_)
      rw [e2]
      exact ⟨ofp S.off,by simpa using S.before,kp S.t0,kp S.t1,kp S.t2,kp S.t3,kp S.t4,ev_ (by omega),kp S.t6,kp S.t7,kp S.t8,kp S.t9,kp S.t10⟩
    | 6,_,ho,hsi,hT=>
      obtain ⟨e1,e2⟩:=pick_of h6 ho
      have D5:s 5=true:=list_pos hT (d:=5) (by decide)
      refine step_val (v:=.pointer (some ⟨G,1,none⟩)) (by simp only [execOp,e1,S.t5 D5]; go_simp) (hK _ _ ?_)
      rw [e2]
      exact ⟨ofp S.off,by simpa using S.before,kp S.t0,kp S.t1,kp S.t2,kp S.t3,kp S.t4,kp S.t5,ev_ (by omega),kp S.t7,kp S.t8,kp S.t9,kp S.t10⟩
    | 7,_,ho,hsi,hT=>
      obtain ⟨e1,e2⟩:=pick_of h7 ho
      have D6:s 6=true:=list_pos hT (d:=6) (by decide)
      refine step_val (v:=.pointer (some ⟨G,1,none⟩)) (by simp only [execOp,e1,S.t6 D6]; go_simp) (hK _ _ ?_)
      rw [e2]
      exact ⟨ofp S.off,by simpa using S.before,kp S.t0,kp S.t1,kp S.t2,kp S.t3,kp S.t4,kp S.t5,kp S.t6,ev_ (by omega),kp S.t8,kp S.t9,kp S.t10⟩
    | 8,_,ho,hsi,hT=>
      obtain ⟨e1,e2⟩:=pick_of h8 ho
      have D7:s 7=true:=list_pos hT (d:=7) (by decide)
      have BW:=S.before
      have cc:w'.cell? ⟨G,1,none⟩=some (.slice fa N fc):=(BW.cel.cell (j:=1) (by omega)).trans (congrArg some hf1)
      refine step_val (v:=.slice fa N fc) (by simp only [execOp,e1,S.t7 D7]; go_simp) (hK _ _ ?_)
      rw [e2]
      exact ⟨ofp S.off,by simpa using S.before,kp S.t0,kp S.t1,kp S.t2,kp S.t3,kp S.t4,kp S.t5,kp S.t6,kp S.t7,ev_ (by omega),kp S.t9,kp S.t10⟩
    | 9,_,ho,hsi,hT=>
      obtain ⟨e1,e2⟩:=pick_of h9 ho
      have D8:s 8=true:=list_pos hT (d:=8) (by decide)
      have q8:a.tmps[140]'(by omega)=.slice fa N fc:=by have:=S.t8 D8; simpa [Act.eval,sz] using this
      refine step_val (v:=.int .i64 (N:Nat)) (by simp only [execOp,e1,S.t8 D8]; go_simp) (hK _ _ ?_)
      rw [e2]
      exact ⟨ofp S.off,by simpa using S.before,kp S.t0,kp S.t1,kp S.t2,kp S.t3,kp S.t4,kp S.t5,kp S.t6,kp S.t7,kp S.t8,ev_ (by omega),kp S.t10⟩
    | 10,_,ho,hsi,hT=>
      obtain ⟨e1,e2⟩:=pick_of h10 ho
      have D3:s 3=true:=list_pos hT (d:=3) (by decide)
      have D4:s 4=true:=list_pos hT (d:=4) (by decide)
      have hpn:=hp
      have hrn:=hrl
      refine step_val (v:=.pointer (some ⟨B,p,none⟩)) (by simp only [execOp,e1,S.t3 D3,S.t4 D4]; go_simp) (hK _ _ ?_)
      rw [e2]
      exact ⟨ofp S.off,by simpa using S.before,kp S.t0,kp S.t1,kp S.t2,kp S.t3,kp S.t4,kp S.t5,kp S.t6,kp S.t7,kp S.t8,kp S.t9,ev_ (by omega)⟩
    | _ + 11,il,_,_,_=>exact absurd il (by omega)
  intro s a w' S hall
  have a0:=hall 0 (by omega)
  have a1:=hall 1 (by omega)
  have a2:=hall 2 (by omega)
  have a3:=hall 3 (by omega)
  have a4:=hall 4 (by omega)
  have a5:=hall 5 (by omega)
  have a6:=hall 6 (by omega)
  have a7:=hall 7 (by omega)
  have a8:=hall 8 (by omega)
  have a9:=hall 9 (by omega)
  have a10:=hall 10 (by omega)
  have e:=off_norm _ (by intro d hd; simp at hd; omega) S.off
  simp only [List.foldl,S.t0 a0,S.t1 a1,S.t2 a2,S.t3 a3,S.t4 a4,S.t5 a5,S.t6 a6,S.t7 a7,S.t8 a8,S.t9 a9,S.t10 a10] at e
  have BW:=S.before
  rw [e]
  exact h _ BW
structure SwRegion20 (n5 G M:Nat) (T:Nat->Prop) (W0:World) (z:Sz) (L:List Rw) (i:Nat) (xs:List Value) (p B n cp N fc:Nat) (fa:Option Addr) (A:Act) (w0:World) (s:Nat->Bool) (a:Act) (w:World):Prop where
  off:Off [143,144,145,146,147,148,149,150,151,152,153] a A
  before:Wst n5 G T W0 L (sC M z) i ⟨z.v6,3,xs⟩ p (.int .i64 (N:Nat))  false w
  t0:s 0=true->a.eval (.tmp 143)=.pointer (some ⟨G,1,none⟩)
  t1:s 1=true->a.eval (.tmp 144)=.pointer (some ⟨G,1,none⟩)
  t2:s 2=true->a.eval (.tmp 145)=.pointer (some ⟨G,6,none⟩)
  t3:s 3=true->a.eval (.tmp 146)=.slice (some ⟨B,0,none⟩) n cp
  t4:s 4=true->a.eval (.tmp 147)=.int .i64 (p:Nat)
  t5:s 5=true->a.eval (.tmp 148)=.pointer (some ⟨G,1,none⟩)
  t6:s 6=true->a.eval (.tmp 149)=.pointer (some ⟨G,1,none⟩)
  t7:s 7=true->a.eval (.tmp 150)=.pointer (some ⟨G,1,none⟩)
  t8:s 8=true->a.eval (.tmp 151)=.slice fa N fc
  t9:s 9=true->a.eval (.tmp 152)=.int .i64 (N:Nat)
  t10:s 10=true->a.eval (.tmp 153)=.pointer (some ⟨B,p,none⟩)
theorem swRegion20 {id:Nat} {l:List Oper} {A:Act} {w:World} {Q:Exit->Act->World->Prop} (n5 G M:Nat) (T:Nat->Prop) (W0:World) (z:Sz) (L:List Rw) (i:Nat) (xs:List Value) (p B n cp N fc:Nat) (fa:Option Addr)
    (hW0:Wst n5 G T W0 L (sC M z) i ⟨z.v6,3,xs⟩ p (.int .i64 (N:Nat)) false w.drew) (hi:i < L.length) (hv:z.v6=.slice (some ⟨B,0,none⟩) n cp) (hf1:z.v1=.slice fa N fc) (hp:p < n) (hrl:xs.length=n)
    (hB:tableH l.toArray 11 (fun i=>match i with | 0=>[] | 1=>[0] | 2=>[1] | 3=>[2] | 4=>[] | 5=>[] | 6=>[5] | 7=>[6] | 8=>[7] | 9=>[8] | 10=>[3,4] | _=>[]) (fun _=>[])=true)
    (h0:pick l 0=some (.move (.tmp 10),some 143))
    (h1:pick l 1=some (.nilCheck (.tmp 143),some 144))
    (h2:pick l 2=some (.fieldAddr 74 (.tmp 144) 5,some 145))
    (h3:pick l 3=some (.load 72 (.tmp 145),some 146))
    (h4:pick l 4=some (.move (.tmp 12),some 147))
    (h5:pick l 5=some (.move (.tmp 10),some 148))
    (h6:pick l 6=some (.nilCheck (.tmp 148),some 149))
    (h7:pick l 7=some (.fieldAddr 74 (.tmp 149) 0,some 150))
    (h8:pick l 8=some (.load 43 (.tmp 150),some 151))
    (h9:pick l 9=some (.call { callee:=.builtin .len,args:=#[.tmp 151],argTypes:=#[43] },some 152))
    (h10:pick l 10=some (.indexAddr 72 (.tmp 146) (.tmp 147),some 153))
    (hs:A.tmps.size=191)
    (x10:A.eval (.tmp 10)=.pointer (some ⟨G,1,none⟩))
    (x12:A.eval (.tmp 12)=.int .i64 (p:Nat))
    (h:∀ w1,Wst n5 G T W0 L (sC M z) i ⟨z.v6,3,xs⟩ p (.int .i64 (N:Nat))  false w1->wpList Tryz.prog l.toArray Q (l.drop 11) (((((((((((A.put (some 143) (.pointer (some ⟨G,1,none⟩))).put (some 144) (.pointer (some ⟨G,1,none⟩))).put (some 145) (.pointer (some ⟨G,6,none⟩))).put (some 146) (.slice (some ⟨B,0,none⟩) n cp)).put (some 147) (.int .i64 (p:Nat))).put (some 148) (.pointer (some ⟨G,1,none⟩))).put (some 149) (.pointer (some ⟨G,1,none⟩))).put (some 150) (.pointer (some ⟨G,1,none⟩))).put (some 151) (.slice fa N fc)).put (some 152) (.int .i64 (N:Nat))).put (some 153) (.pointer (some ⟨B,p,none⟩))) w1):
    (Code.region id l.toArray true).wp Tryz.prog Q A w:=by
  refine wp_region_head (by kernel_rfl) _ _ _ hB (SwRegion20 n5 G M T W0 z L i xs p B n cp N fc fa A w) ⟨Off.refl _ _,hW0,by simp,by simp,by simp,by simp,by simp,by simp,by simp,by simp,by simp,by simp,by simp⟩ ?_ ?_
  · intro s a w' S i' o il ho hsi hT K hK
    have sz:a.tmps.size=191:=by rw [S.off.2.1]; exact hs
    have y10:a.eval (.tmp 10)=.pointer (some ⟨G,1,none⟩):=by rw [S.off.eval (by decide)]; exact x10
    have y12:a.eval (.tmp 12)=.int .i64 (p:Nat):=by rw [S.off.eval (by decide)]; exact x12
    match i',il,ho,hsi,hT with
    | 0,_,ho,hsi,hT=>
      obtain ⟨e1,e2⟩:=pick_of h0 ho
      refine step_val (v:=.pointer (some ⟨G,1,none⟩)) (by simp only [execOp,e1,y10]; go_simp) (hK _ _ ?_)
      rw [e2]
      exact ⟨ofp S.off,by simpa using S.before,ev_ (by omega),kp S.t1,kp S.t2,kp S.t3,kp S.t4,kp S.t5,kp S.t6,kp S.t7,kp S.t8,kp S.t9,kp S.t10⟩
    | 1,_,ho,hsi,hT=>
      obtain ⟨e1,e2⟩:=pick_of h1 ho
      have D0:s 0=true:=list_pos hT (d:=0) (by decide)
      refine step_val (v:=.pointer (some ⟨G,1,none⟩)) (by simp only [execOp,e1,S.t0 D0]; go_simp) (hK _ _ ?_)
      rw [e2]
      exact ⟨ofp S.off,by simpa using S.before,kp S.t0,ev_ (by omega),kp S.t2,kp S.t3,kp S.t4,kp S.t5,kp S.t6,kp S.t7,kp S.t8,kp S.t9,kp S.t10⟩
    | 2,_,ho,hsi,hT=>
      obtain ⟨e1,e2⟩:=pick_of h2 ho
      have D1:s 1=true:=list_pos hT (d:=1) (by decide)
      refine step_val (v:=.pointer (some ⟨G,6,none⟩)) (by simp only [execOp,e1,S.t1 D1]; go_simp) (hK _ _ ?_)
      rw [e2]
      exact ⟨ofp S.off,by simpa using S.before,kp S.t0,kp S.t1,ev_ (by omega),kp S.t3,kp S.t4,kp S.t5,kp S.t6,kp S.t7,kp S.t8,kp S.t9,kp S.t10⟩
    | 3,_,ho,hsi,hT=>
      obtain ⟨e1,e2⟩:=pick_of h3 ho
      have D2:s 2=true:=list_pos hT (d:=2) (by decide)
      have BW:=S.before
      have cc:w'.cell? ⟨G,6,none⟩=some (.slice (some ⟨B,0,none⟩) n cp):=(BW.cel.cell (j:=6) (by omega)).trans (congrArg some hv)
      refine step_val (v:=.slice (some ⟨B,0,none⟩) n cp) (by simp only [execOp,e1,S.t2 D2]; go_simp) (hK _ _ ?_)
      rw [e2]
      exact ⟨ofp S.off,by simpa using S.before,kp S.t0,kp S.t1,kp S.t2,ev_ (by omega),kp S.t4,kp S.t5,kp S.t6,kp S.t7,kp S.t8,kp S.t9,kp S.t10⟩
    | 4,_,ho,hsi,hT=>
      obtain ⟨e1,e2⟩:=pick_of h4 ho
      refine step_val (v:=.int .i64 (p:Nat)) (by simp only [execOp,e1,y12]; go_simp) (hK _ _ ?_)
      rw [e2]
      exact ⟨ofp S.off,by simpa using S.before,kp S.t0,kp S.t1,kp S.t2,kp S.t3,ev_ (by omega),kp S.t5,kp S.t6,kp S.t7,kp S.t8,kp S.t9,kp S.t10⟩
    | 5,_,ho,hsi,hT=>
      obtain ⟨e1,e2⟩:=pick_of h5 ho
      refine step_val (v:=.pointer (some ⟨G,1,none⟩)) (by simp only [execOp,e1,y10]; go_simp) (hK _ _ ?_)
      rw [e2]
      exact ⟨ofp S.off,by simpa using S.before,kp S.t0,kp S.t1,kp S.t2,kp S.t3,kp S.t4,ev_ (by omega),kp S.t6,kp S.t7,kp S.t8,kp S.t9,kp S.t10⟩
    | 6,_,ho,hsi,hT=>
      obtain ⟨e1,e2⟩:=pick_of h6 ho
      have D5:s 5=true:=list_pos hT (d:=5) (by decide)
      refine step_val (v:=.pointer (some ⟨G,1,none⟩)) (by simp only [execOp,e1,S.t5 D5]; go_simp) (hK _ _ ?_)
      rw [e2]
      exact ⟨ofp S.off,by simpa using S.before,kp S.t0,kp S.t1,kp S.t2,kp S.t3,kp S.t4,kp S.t5,ev_ (by omega),kp S.t7,kp S.t8,kp S.t9,kp S.t10⟩
    | 7,_,ho,hsi,hT=>
      obtain ⟨e1,e2⟩:=pick_of h7 ho
      have D6:s 6=true:=list_pos hT (d:=6) (by decide)
      refine step_val (v:=.pointer (some ⟨G,1,none⟩)) (by simp only [execOp,e1,S.t6 D6]; go_simp) (hK _ _ ?_)
      rw [e2]
      exact ⟨ofp S.off,by simpa using S.before,kp S.t0,kp S.t1,kp S.t2,kp S.t3,kp S.t4,kp S.t5,kp S.t6,ev_ (by omega),kp S.t8,kp S.t9,kp S.t10⟩
    | 8,_,ho,hsi,hT=>
      obtain ⟨e1,e2⟩:=pick_of h8 ho
      have D7:s 7=true:=list_pos hT (d:=7) (by decide)
      have BW:=S.before
      have cc:w'.cell? ⟨G,1,none⟩=some (.slice fa N fc):=(BW.cel.cell (j:=1) (by omega)).trans (congrArg some hf1)
      refine step_val (v:=.slice fa N fc) (by simp only [execOp,e1,S.t7 D7]; go_simp) (hK _ _ ?_)
      rw [e2]
      exact ⟨ofp S.off,by simpa using S.before,kp S.t0,kp S.t1,kp S.t2,kp S.t3,kp S.t4,kp S.t5,kp S.t6,kp S.t7,ev_ (by omega),kp S.t9,kp S.t10⟩
    | 9,_,ho,hsi,hT=>
      obtain ⟨e1,e2⟩:=pick_of h9 ho
      have D8:s 8=true:=list_pos hT (d:=8) (by decide)
      have q8:a.tmps[151]'(by omega)=.slice fa N fc:=by have:=S.t8 D8; simpa [Act.eval,sz] using this
      refine step_val (v:=.int .i64 (N:Nat)) (by simp only [execOp,e1,S.t8 D8]; go_simp) (hK _ _ ?_)
      rw [e2]
      exact ⟨ofp S.off,by simpa using S.before,kp S.t0,kp S.t1,kp S.t2,kp S.t3,kp S.t4,kp S.t5,kp S.t6,kp S.t7,kp S.t8,ev_ (by omega),kp S.t10⟩
    | 10,_,ho,hsi,hT=>
      obtain ⟨e1,e2⟩:=pick_of h10 ho
      have D3:s 3=true:=list_pos hT (d:=3) (by decide)
      have D4:s 4=true:=list_pos hT (d:=4) (by decide)
      have hpn:=hp
      have hrn:=hrl
      refine step_val (v:=.pointer (some ⟨B,p,none⟩)) (by simp only [execOp,e1,S.t3 D3,S.t4 D4]; go_simp) (hK _ _ ?_)
      rw [e2]
      exact ⟨ofp S.off,by simpa using S.before,kp S.t0,kp S.t1,kp S.t2,kp S.t3,kp S.t4,kp S.t5,kp S.t6,kp S.t7,kp S.t8,kp S.t9,ev_ (by omega)⟩
    | _ + 11,il,_,_,_=>exact absurd il (by omega)
  intro s a w' S hall
  have a0:=hall 0 (by omega)
  have a1:=hall 1 (by omega)
  have a2:=hall 2 (by omega)
  have a3:=hall 3 (by omega)
  have a4:=hall 4 (by omega)
  have a5:=hall 5 (by omega)
  have a6:=hall 6 (by omega)
  have a7:=hall 7 (by omega)
  have a8:=hall 8 (by omega)
  have a9:=hall 9 (by omega)
  have a10:=hall 10 (by omega)
  have e:=off_norm _ (by intro d hd; simp at hd; omega) S.off
  simp only [List.foldl,S.t0 a0,S.t1 a1,S.t2 a2,S.t3 a3,S.t4 a4,S.t5 a5,S.t6 a6,S.t7 a7,S.t8 a8,S.t9 a9,S.t10 a10] at e
  have BW:=S.before
  rw [e]
  exact h _ BW
end Go.Proofs.YtchfkncbemjepaaGreat
