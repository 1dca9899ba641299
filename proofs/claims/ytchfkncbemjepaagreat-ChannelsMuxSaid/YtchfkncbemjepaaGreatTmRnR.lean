/- TmRnR -/
import Derived.Test.YtchfkncbemjepaaGreatTmRnP
set_option linter.unusedVariables false
set_option maxRecDepth 100000
set_option maxHeartbeats 2000000
/- Layer 10: the reference's filler: Next's drawing regions. -/
namespace Go.Proofs.YtchfkncbemjepaaGreat
open Go.RowKit

structure RnmRegion (r G N cap n y f q k:Nat) (u F:ByteArray) (A:Act) (w0:World) (s:Nat->Bool) (a:Act) (w:World):Prop where
  off:Off [47,48,49,50,51,52,53,54,55,56,57,58,59,60,61] a A
  before:Below w0.heap.size w0 w
  t0:s 0=true->a.eval (.tmp 47)=.pointer (some ⟨r,0,none⟩)
  t1:s 1=true->a.eval (.tmp 48)=.pointer (some ⟨r,0,none⟩)
  t2:s 2=true->a.eval (.tmp 49)=.pointer (some ⟨r,1,none⟩)
  t3:s 3=true->a.eval (.tmp 50)=.slice (some ⟨G,0,none⟩) N cap
  t4:s 4=true->a.eval (.tmp 51)=.pointer (some ⟨G,0,none⟩)
  t5:s 5=true->a.eval (.tmp 52)=.string u
  t6:s 6=true->a.eval (.tmp 53)=.int .i64 (y:Nat)
  t7:s 7=true->a.eval (.tmp 54)=.pointer (some ⟨r,0,none⟩)
  t8:s 8=true->a.eval (.tmp 55)=.pointer (some ⟨r,0,none⟩)
  t9:s 9=true->a.eval (.tmp 56)=.pointer (some ⟨r,0,none⟩)
  t10:s 10=true->a.eval (.tmp 57)=.int .i64 (n:Nat)
  t11:s 11=true->a.eval (.tmp 58)=.string F
  t12:s 12=true->a.eval (.tmp 59)=.int .i64 (f:Nat)
  t13:s 13=true->a.eval (.tmp 60)=.int .i64 (q:Nat)
  t14:s 14=true->a.eval (.tmp 61)=.int .i64 (k:Nat)
theorem rnmRegion {id:Nat} {l:List Oper} {A:Act} {w:World} {Q:Exit->Act->World->Prop} (r G N cap n y f q k:Nat) (u F:ByteArray)
    (lr:r < w.heap.size) (c0:w.cell? ⟨r,0,none⟩=some (.int .i64 (n:Nat))) (c1:w.cell? ⟨r,1,none⟩=some (.slice (some ⟨G,0,none⟩) N cap)) (lG:G < w.heap.size) (cG:w.cell? ⟨G,0,none⟩=some (.string u))
    (hN:0 < N) (hy:u.size=y) (hf:F.size=f) (hq:IntKind.i64.wrap ((n:Int) - (f:Int))=(q:Int)) (hk:min y q=k)
    (hB:tableH l.toArray 15 (fun i=>match i with | 0=>[] | 1=>[0] | 2=>[1] | 3=>[2] | 4=>[3] | 5=>[4] | 6=>[5] | 7=>[] | 8=>[7] | 9=>[8] | 10=>[9] | 11=>[] | 12=>[11] | 13=>[10,12] | 14=>[6,13] | _=>[]) (fun _=>[])=true)
    (h0:pick l 0=some (.move (.tmp 0),some 47))
    (h1:pick l 1=some (.nilCheck (.tmp 47),some 48))
    (h2:pick l 2=some (.fieldAddr 131 (.tmp 48) 1,some 49))
    (h3:pick l 3=some (.load 43 (.tmp 49),some 50))
    (h4:pick l 4=some (.indexAddr 43 (.tmp 50) (.const (.int .i64 0)),some 51))
    (h5:pick l 5=some (.load 9 (.tmp 51),some 52))
    (h6:pick l 6=some (.call { callee:=.builtin .len,args:=#[.tmp 52],argTypes:=#[9] },some 53))
    (h7:pick l 7=some (.move (.tmp 0),some 54))
    (h8:pick l 8=some (.nilCheck (.tmp 54),some 55))
    (h9:pick l 9=some (.fieldAddr 131 (.tmp 55) 0,some 56))
    (h10:pick l 10=some (.load 3 (.tmp 56),some 57))
    (h11:pick l 11=some (.move (.tmp 5),some 58))
    (h12:pick l 12=some (.call { callee:=.builtin .len,args:=#[.tmp 58],argTypes:=#[9] },some 59))
    (h13:pick l 13=some (.binOp .sub 3 (.tmp 57) (.tmp 59) 3,some 60))
    (h14:pick l 14=some (.call { callee:=.builtin .min,args:=#[.tmp 53,.tmp 60],argTypes:=#[3,3] },some 61))
    (hs:A.tmps.size=147)
    (x0:A.eval (.tmp 0)=.pointer (some ⟨r,0,none⟩))
    (x5:A.eval (.tmp 5)=.string F)
    (h:∀ w1,Below w.heap.size w w1->wpList Tryz.prog l.toArray Q (l.drop 15) (((((((((((((((A.put (some 47) (.pointer (some ⟨r,0,none⟩))).put (some 48) (.pointer (some ⟨r,0,none⟩))).put (some 49) (.pointer (some ⟨r,1,none⟩))).put (some 50) (.slice (some ⟨G,0,none⟩) N cap)).put (some 51) (.pointer (some ⟨G,0,none⟩))).put (some 52) (.string u)).put (some 53) (.int .i64 (y:Nat))).put (some 54) (.pointer (some ⟨r,0,none⟩))).put (some 55) (.pointer (some ⟨r,0,none⟩))).put (some 56) (.pointer (some ⟨r,0,none⟩))).put (some 57) (.int .i64 (n:Nat))).put (some 58) (.string F)).put (some 59) (.int .i64 (f:Nat))).put (some 60) (.int .i64 (q:Nat))).put (some 61) (.int .i64 (k:Nat))) w1):
    (Code.region id l.toArray true).wp Tryz.prog Q A w:=by
  refine wp_region_head (by kernel_rfl) _ _ _ hB (RnmRegion r G N cap n y f q k u F A w) ⟨Off.refl _ _,(Below.refl _ _).drew,by simp,by simp,by simp,by simp,by simp,by simp,by simp,by simp,by simp,by simp,by simp,by simp,by simp,by simp,by simp⟩ ?_ ?_
  · intro s a w' S i' o il ho hsi hT K hK
    have sz:a.tmps.size=147:=by rw [S.off.2.1]; exact hs
    have y0:a.eval (.tmp 0)=.pointer (some ⟨r,0,none⟩):=by rw [S.off.eval (by decide)]; exact x0
    have y5:a.eval (.tmp 5)=.string F:=by rw [S.off.eval (by decide)]; exact x5
    match i',il,ho,hsi,hT with
    | 0,_,ho,hsi,hT=>
      obtain ⟨e1,e2⟩:=pick_of h0 ho
      refine step_val (v:=.pointer (some ⟨r,0,none⟩)) (by simp only [execOp,e1,y0]; go_simp) (hK _ _ ?_)
      rw [e2]
      exact ⟨ofp S.off,S.before,ev_ (by omega),kp S.t1,kp S.t2,kp S.t3,kp S.t4,kp S.t5,kp S.t6,kp S.t7,kp S.t8,kp S.t9,kp S.t10,kp S.t11,kp S.t12,kp S.t13,kp S.t14⟩
    | 1,_,ho,hsi,hT=>
      obtain ⟨e1,e2⟩:=pick_of h1 ho
      have D0:s 0=true:=list_pos hT (d:=0) (by decide)
      refine step_val (v:=.pointer (some ⟨r,0,none⟩)) (by simp only [execOp,e1,S.t0 D0]; go_simp) (hK _ _ ?_)
      rw [e2]
      exact ⟨ofp S.off,S.before,kp S.t0,ev_ (by omega),kp S.t2,kp S.t3,kp S.t4,kp S.t5,kp S.t6,kp S.t7,kp S.t8,kp S.t9,kp S.t10,kp S.t11,kp S.t12,kp S.t13,kp S.t14⟩
    | 2,_,ho,hsi,hT=>
      obtain ⟨e1,e2⟩:=pick_of h2 ho
      have D1:s 1=true:=list_pos hT (d:=1) (by decide)
      refine step_val (v:=.pointer (some ⟨r,1,none⟩)) (by simp only [execOp,e1,S.t1 D1]; go_simp) (hK _ _ ?_)
      rw [e2]
      exact ⟨ofp S.off,S.before,kp S.t0,kp S.t1,ev_ (by omega),kp S.t3,kp S.t4,kp S.t5,kp S.t6,kp S.t7,kp S.t8,kp S.t9,kp S.t10,kp S.t11,kp S.t12,kp S.t13,kp S.t14⟩
    | 3,_,ho,hsi,hT=>
      obtain ⟨e1,e2⟩:=pick_of h3 ho
      have D2:s 2=true:=list_pos hT (d:=2) (by decide)
      have BW:=S.before
      have cl:=(BW.cell (p:=⟨r,1,none⟩) lr).trans c1
      refine step_val (v:=.slice (some ⟨G,0,none⟩) N cap) (by simp only [execOp,e1,S.t2 D2]; go_simp) (hK _ _ ?_)
      rw [e2]
      exact ⟨ofp S.off,S.before,kp S.t0,kp S.t1,kp S.t2,ev_ (by omega),kp S.t4,kp S.t5,kp S.t6,kp S.t7,kp S.t8,kp S.t9,kp S.t10,kp S.t11,kp S.t12,kp S.t13,kp S.t14⟩
    | 4,_,ho,hsi,hT=>
      obtain ⟨e1,e2⟩:=pick_of h4 ho
      have D3:s 3=true:=list_pos hT (d:=3) (by decide)
      refine step_val (v:=.pointer (some ⟨G,0,none⟩)) (by simp only [execOp,e1,S.t3 D3]; have hn:=hN; first | (go_simp; done) | (go_simp; omega) | (go_simp; intro h; omega)) (hK _ _ ?_)
      rw [e2]
      exact ⟨ofp S.off,S.before,kp S.t0,kp S.t1,kp S.t2,kp S.t3,ev_ (by omega),kp S.t5,kp S.t6,kp S.t7,kp S.t8,kp S.t9,kp S.t10,kp S.t11,kp S.t12,kp S.t13,kp S.t14⟩
    | 5,_,ho,hsi,hT=>
      obtain ⟨e1,e2⟩:=pick_of h5 ho
      have D4:s 4=true:=list_pos hT (d:=4) (by decide)
      have BW:=S.before
      have cl:=(BW.cell (p:=⟨G,0,none⟩) lG).trans cG
      refine step_val (v:=.string u) (by simp only [execOp,e1,S.t4 D4]; go_simp) (hK _ _ ?_)
      rw [e2]
      exact ⟨ofp S.off,S.before,kp S.t0,kp S.t1,kp S.t2,kp S.t3,kp S.t4,ev_ (by omega),kp S.t6,kp S.t7,kp S.t8,kp S.t9,kp S.t10,kp S.t11,kp S.t12,kp S.t13,kp S.t14⟩
    | 6,_,ho,hsi,hT=>
      obtain ⟨e1,e2⟩:=pick_of h6 ho
      have D5:s 5=true:=list_pos hT (d:=5) (by decide)
      have q52:a.tmps[52]'(by omega)=.string u:=by have:=S.t5 D5; simpa [Act.eval,sz] using this
      refine step_val (v:=.int .i64 (y:Nat)) (by simp only [execOp,e1]; go_simp; try rw [hy]) (hK _ _ ?_)
      rw [e2]
      exact ⟨ofp S.off,S.before,kp S.t0,kp S.t1,kp S.t2,kp S.t3,kp S.t4,kp S.t5,ev_ (by omega),kp S.t7,kp S.t8,kp S.t9,kp S.t10,kp S.t11,kp S.t12,kp S.t13,kp S.t14⟩
    | 7,_,ho,hsi,hT=>
      obtain ⟨e1,e2⟩:=pick_of h7 ho
      refine step_val (v:=.pointer (some ⟨r,0,none⟩)) (by simp only [execOp,e1,y0]; go_simp) (hK _ _ ?_)
      rw [e2]
      exact ⟨ofp S.off,S.before,kp S.t0,kp S.t1,kp S.t2,kp S.t3,kp S.t4,kp S.t5,kp S.t6,ev_ (by omega),kp S.t8,kp S.t9,kp S.t10,kp S.t11,kp S.t12,kp S.t13,kp S.t14⟩
    | 8,_,ho,hsi,hT=>
      obtain ⟨e1,e2⟩:=pick_of h8 ho
      have D7:s 7=true:=list_pos hT (d:=7) (by decide)
      refine step_val (v:=.pointer (some ⟨r,0,none⟩)) (by simp only [execOp,e1,S.t7 D7]; go_simp) (hK _ _ ?_)
      rw [e2]
      exact ⟨ofp S.off,S.before,kp S.t0,kp S.t1,kp S.t2,kp S.t3,kp S.t4,kp S.t5,kp S.t6,kp S.t7,ev_ (by omega),kp S.t9,kp S.t10,kp S.t11,kp S.t12,kp S.t13,kp S.t14⟩
    | 9,_,ho,hsi,hT=>
      obtain ⟨e1,e2⟩:=pick_of h9 ho
      have D8:s 8=true:=list_pos hT (d:=8) (by decide)
      refine step_val (v:=.pointer (some ⟨r,0,none⟩)) (by simp only [execOp,e1,S.t8 D8]; go_simp) (hK _ _ ?_)
      rw [e2]
      exact ⟨ofp S.off,S.before,kp S.t0,kp S.t1,kp S.t2,kp S.t3,kp S.t4,kp S.t5,kp S.t6,kp S.t7,kp S.t8,ev_ (by omega),kp S.t10,kp S.t11,kp S.t12,kp S.t13,kp S.t14⟩
    | 10,_,ho,hsi,hT=>
      obtain ⟨e1,e2⟩:=pick_of h10 ho
      have D9:s 9=true:=list_pos hT (d:=9) (by decide)
      have BW:=S.before
      have cl:=(BW.cell (p:=⟨r,0,none⟩) lr).trans c0
      refine step_val (v:=.int .i64 (n:Nat)) (by simp only [execOp,e1,S.t9 D9]; go_simp) (hK _ _ ?_)
      rw [e2]
      exact ⟨ofp S.off,S.before,kp S.t0,kp S.t1,kp S.t2,kp S.t3,kp S.t4,kp S.t5,kp S.t6,kp S.t7,kp S.t8,kp S.t9,ev_ (by omega),kp S.t11,kp S.t12,kp S.t13,kp S.t14⟩
    | 11,_,ho,hsi,hT=>
      obtain ⟨e1,e2⟩:=pick_of h11 ho
      refine step_val (v:=.string F) (by simp only [execOp,e1,y5]; go_simp) (hK _ _ ?_)
      rw [e2]
      exact ⟨ofp S.off,S.before,kp S.t0,kp S.t1,kp S.t2,kp S.t3,kp S.t4,kp S.t5,kp S.t6,kp S.t7,kp S.t8,kp S.t9,kp S.t10,ev_ (by omega),kp S.t12,kp S.t13,kp S.t14⟩
    | 12,_,ho,hsi,hT=>
      obtain ⟨e1,e2⟩:=pick_of h12 ho
      have D11:s 11=true:=list_pos hT (d:=11) (by decide)
      have q58:a.tmps[58]'(by omega)=.string F:=by have:=S.t11 D11; simpa [Act.eval,sz] using this
      refine step_val (v:=.int .i64 (f:Nat)) (by simp only [execOp,e1]; go_simp; try rw [hf]) (hK _ _ ?_)
      rw [e2]
      exact ⟨ofp S.off,S.before,kp S.t0,kp S.t1,kp S.t2,kp S.t3,kp S.t4,kp S.t5,kp S.t6,kp S.t7,kp S.t8,kp S.t9,kp S.t10,kp S.t11,ev_ (by omega),kp S.t13,kp S.t14⟩
    | 13,_,ho,hsi,hT=>
      obtain ⟨e1,e2⟩:=pick_of h13 ho
      have D10:s 10=true:=list_pos hT (d:=10) (by decide)
      have D12:s 12=true:=list_pos hT (d:=12) (by decide)
      refine step_val (v:=.int .i64 (q:Nat)) (by simp only [execOp,e1,S.t10 D10,S.t12 D12]; have hw:=hq; first | (go_simp; done) | (go_simp; rw [hw]; done) | (go_simp; rw [hw]; rfl) | (go_simp; omega)) (hK _ _ ?_)
      rw [e2]
      exact ⟨ofp S.off,S.before,kp S.t0,kp S.t1,kp S.t2,kp S.t3,kp S.t4,kp S.t5,kp S.t6,kp S.t7,kp S.t8,kp S.t9,kp S.t10,kp S.t11,kp S.t12,ev_ (by omega),kp S.t14⟩
    | 14,_,ho,hsi,hT=>
      obtain ⟨e1,e2⟩:=pick_of h14 ho
      have D6:s 6=true:=list_pos hT (d:=6) (by decide)
      have D13:s 13=true:=list_pos hT (d:=13) (by decide)
      have q53:a.tmps[53]'(by omega)=.int .i64 (y:Nat):=by have:=S.t6 D6; simpa [Act.eval,sz] using this
      have q60:a.tmps[60]'(by omega)=.int .i64 (q:Nat):=by have:=S.t13 D13; simpa [Act.eval,sz] using this
      refine step_val (v:=.int .i64 (k:Nat)) (by simp only [execOp,e1]; have hm:=hk; go_simp; omega) (hK _ _ ?_)
      rw [e2]
      exact ⟨ofp S.off,S.before,kp S.t0,kp S.t1,kp S.t2,kp S.t3,kp S.t4,kp S.t5,kp S.t6,kp S.t7,kp S.t8,kp S.t9,kp S.t10,kp S.t11,kp S.t12,kp S.t13,ev_ (by omega)⟩
    | _ + 15,il,_,_,_=>exact absurd il (by omega)
  intro s a w' S hall
  have a0:=hall 0 (by omega)
  have a1:=hall 1 (by omega)
  have a2:=hall 2 (by omega)
  have a3:=hall 3 (by omega)
  have a4:=hall 4 (by omega)
  have a5:=hall 5 (by omega)
  have a6:=hall 6 (by omega)
  have a7:=hall 7 (by omega)
  have a8:=hall 8 (by omega)
  have a9:=hall 9 (by omega)
  have a10:=hall 10 (by omega)
  have a11:=hall 11 (by omega)
  have a12:=hall 12 (by omega)
  have a13:=hall 13 (by omega)
  have a14:=hall 14 (by omega)
  have e:=off_norm _ (by intro d hd; simp at hd; omega) S.off
  simp only [List.foldl,S.t0 a0,S.t1 a1,S.t2 a2,S.t3 a3,S.t4 a4,S.t5 a5,S.t6 a6,S.t7 a7,S.t8 a8,S.t9 a9,S.t10 a10,S.t11 a11,S.t12 a12,S.t13 a13,S.t14 a14] at e
  rw [e]
  exact h _ S.before
theorem step_valR {P:Program} {Q:Exit->Act->World->Prop} {o:Oper} {a:Act} {w:World} {v:Value} {K:Act->World->Prop} (hv:(execOp a.eval o).run P w=.ok (.value v) w) (h:K (a.put o.dst v) w):o.wp P a w K Q:=step_val hv h
structure RnaRegion (r G N cap k O1 M C1:Nat) (u t:ByteArray) (FA:Value->World->Prop) (A:Act) (w0:World) (s:Nat->Bool) (a:Act) (w:World):Prop where
  off:Off [81,82,83,84,85,86,87,88,89,90,91,92,93,94,95,96] a A
  before:s 15=false->Below w0.heap.size w0 w
  t0:s 0=true->a.eval (.tmp 81)=.pointer (some ⟨r,0,none⟩)
  t1:s 1=true->a.eval (.tmp 82)=.pointer (some ⟨r,0,none⟩)
  t2:s 2=true->a.eval (.tmp 83)=.pointer (some ⟨r,0,none⟩)
  t3:s 3=true->a.eval (.tmp 84)=.pointer (some ⟨r,1,none⟩)
  t4:s 4=true->a.eval (.tmp 85)=.slice (some ⟨G,0,none⟩) N cap
  t5:s 5=true->a.eval (.tmp 86)=.pointer (some ⟨G,0,none⟩)
  t6:s 6=true->a.eval (.tmp 87)=.string u
  t7:s 7=true->a.eval (.tmp 88)=.int .i64 (k:Nat)
  t8:s 8=true->a.eval (.tmp 89)=.string t
  t9:s 9=true->∃ v9,a.eval (.tmp 90)=v9/\(s 15=false->OneS w0.heap.size t v9 w)
  t10:s 10=true->a.eval (.tmp 91)=.pointer (some ⟨r,0,none⟩)
  t11:s 11=true->a.eval (.tmp 92)=.pointer (some ⟨r,0,none⟩)
  t12:s 12=true->a.eval (.tmp 93)=.pointer (some ⟨r,1,none⟩)
  t13:s 13=true->a.eval (.tmp 94)=.slice (some ⟨G,0,none⟩) N cap
  t14:s 14=true->a.eval (.tmp 95)=.slice (some ⟨G,O1,none⟩) M C1
  t15:s 15=true->∃ v15,a.eval (.tmp 96)=v15/\FA v15 w
theorem rnaRegion {id:Nat} {l:List Oper} {A:Act} {w:World} {Q:Exit->Act->World->Prop} (r G N cap k O1 M C1:Nat) (u t:ByteArray) (FA:Value->World->Prop)
    (lr:r < w.heap.size) (c1:w.cell? ⟨r,1,none⟩=some (.slice (some ⟨G,0,none⟩) N cap)) (lG:G < w.heap.size) (cG:w.cell? ⟨G,0,none⟩=some (.string u))
    (hN:1<=N) (hNc:N<=cap) (hO:O1=if cap=1 then 0 else 1) (hM:M=N - 1) (hC:C1=cap - 1) (hku:k<=u.size) (ht:u.extract k u.size=t)
    (hA:∀ ty w',Below w.heap.size w w'->∀ gb,w.heap.size<=gb->w'.ownsRow w.heap.size 9 1 (.slice (some ⟨gb,0,none⟩) 1 1) 1 [.string t]->∃ v' w2,(Builtin.append_ #[43,43] ty #[.slice (some ⟨gb,0,none⟩) 1 1,.slice (some ⟨G,O1,none⟩) M C1]).run Tryz.prog w'=.ok v' w2/\FA v' w2)
    (hB:tableH l.toArray 16 (fun i=>match i with | 0=>[] | 1=>[] | 2=>[1] | 3=>[2] | 4=>[3] | 5=>[4] | 6=>[5] | 7=>[] | 8=>[6,7] | 9=>[8] | 10=>[] | 11=>[10] | 12=>[11] | 13=>[12] | 14=>[13] | 15=>[9,14] | _=>[]) (fun i=>match i with | 4=>[15] | 6=>[15] | 9=>[15] | 13=>[15] | _=>[])=true)
    (h0:pick l 0=some (.move (.tmp 0),some 81))
    (h1:pick l 1=some (.move (.tmp 0),some 82))
    (h2:pick l 2=some (.nilCheck (.tmp 82),some 83))
    (h3:pick l 3=some (.fieldAddr 131 (.tmp 83) 1,some 84))
    (h4:pick l 4=some (.load 43 (.tmp 84),some 85))
    (h5:pick l 5=some (.indexAddr 43 (.tmp 85) (.const (.int .i64 0)),some 86))
    (h6:pick l 6=some (.load 9 (.tmp 86),some 87))
    (h7:pick l 7=some (.move (.tmp 7),some 88))
    (h8:pick l 8=some (.slice 9 (.tmp 87) (some (.tmp 88)) none none,some 89))
    (h9:pick l 9=some (.buildSlice 43 1 #[(0,.tmp 89)],some 90))
    (h10:pick l 10=some (.move (.tmp 0),some 91))
    (h11:pick l 11=some (.nilCheck (.tmp 91),some 92))
    (h12:pick l 12=some (.fieldAddr 131 (.tmp 92) 1,some 93))
    (h13:pick l 13=some (.load 43 (.tmp 93),some 94))
    (h14:pick l 14=some (.slice 43 (.tmp 94) (some (.const (.int .i64 1))) none none,some 95))
    (h15:pick l 15=some (.call { callee:=.builtin .append,args:=#[.tmp 90,.tmp 95],argTypes:=#[43,43] },some 96))
    (hs:A.tmps.size=147)
    (x0:A.eval (.tmp 0)=.pointer (some ⟨r,0,none⟩))
    (x7:A.eval (.tmp 7)=.int .i64 (k:Nat))
    (h:∀ v9 v15 w1,FA v15 w1->wpList Tryz.prog l.toArray Q (l.drop 16) ((((((((((((((((A.put (some 81) (.pointer (some ⟨r,0,none⟩))).put (some 82) (.pointer (some ⟨r,0,none⟩))).put (some 83) (.pointer (some ⟨r,0,none⟩))).put (some 84) (.pointer (some ⟨r,1,none⟩))).put (some 85) (.slice (some ⟨G,0,none⟩) N cap)).put (some 86) (.pointer (some ⟨G,0,none⟩))).put (some 87) (.string u)).put (some 88) (.int .i64 (k:Nat))).put (some 89) (.string t)).put (some 90) (v9)).put (some 91) (.pointer (some ⟨r,0,none⟩))).put (some 92) (.pointer (some ⟨r,0,none⟩))).put (some 93) (.pointer (some ⟨r,1,none⟩))).put (some 94) (.slice (some ⟨G,0,none⟩) N cap)).put (some 95) (.slice (some ⟨G,O1,none⟩) M C1)).put (some 96) (v15)) w1):
    (Code.region id l.toArray true).wp Tryz.prog Q A w:=by
  refine wp_region_head (by kernel_rfl) _ _ _ hB (RnaRegion r G N cap k O1 M C1 u t FA A w) ⟨Off.refl _ _,fun _=>(Below.refl _ _).drew,by simp,by simp,by simp,by simp,by simp,by simp,by simp,by simp,by simp,by simp,by simp,by simp,by simp,by simp,by simp,by simp⟩ ?_ ?_
  · intro s a w' S i' o il ho hsi hT K hK
    have sz:a.tmps.size=147:=by rw [S.off.2.1]; exact hs
    have y0:a.eval (.tmp 0)=.pointer (some ⟨r,0,none⟩):=by rw [S.off.eval (by decide)]; exact x0
    have y7:a.eval (.tmp 7)=.int .i64 (k:Nat):=by rw [S.off.eval (by decide)]; exact x7
    match i',il,ho,hsi,hT with
    | 0,_,ho,hsi,hT=>
      obtain ⟨e1,e2⟩:=pick_of h0 ho
      refine step_val (v:=.pointer (some ⟨r,0,none⟩)) (by simp only [execOp,e1,y0]; go_simp) (hK _ _ ?_)
      rw [e2]
      exact ⟨ofp S.off,fun g=>S.before (by simpa using g),ev_ (by omega),kp S.t1,kp S.t2,kp S.t3,kp S.t4,kp S.t5,kp S.t6,kp S.t7,kp S.t8,fun g=>(S.t9 (by simpa using g)).imp fun b hb=>⟨by rw [eval_put_ne _ _ _ _ (by decide)]; exact hb.1,fun q=>hb.2 (by simpa using q)⟩,kp S.t10,kp S.t11,kp S.t12,kp S.t13,kp S.t14,fun g=>(S.t15 (by simpa using g)).imp fun b hb=>⟨by rw [eval_put_ne _ _ _ _ (by decide)]; exact hb.1,hb.2⟩⟩
    | 1,_,ho,hsi,hT=>
      obtain ⟨e1,e2⟩:=pick_of h1 ho
      refine step_val (v:=.pointer (some ⟨r,0,none⟩)) (by simp only [execOp,e1,y0]; go_simp) (hK _ _ ?_)
      rw [e2]
      exact ⟨ofp S.off,fun g=>S.before (by simpa using g),kp S.t0,ev_ (by omega),kp S.t2,kp S.t3,kp S.t4,kp S.t5,kp S.t6,kp S.t7,kp S.t8,fun g=>(S.t9 (by simpa using g)).imp fun b hb=>⟨by rw [eval_put_ne _ _ _ _ (by decide)]; exact hb.1,fun q=>hb.2 (by simpa using q)⟩,kp S.t10,kp S.t11,kp S.t12,kp S.t13,kp S.t14,fun g=>(S.t15 (by simpa using g)).imp fun b hb=>⟨by rw [eval_put_ne _ _ _ _ (by decide)]; exact hb.1,hb.2⟩⟩
    | 2,_,ho,hsi,hT=>
      obtain ⟨e1,e2⟩:=pick_of h2 ho
      have D1:s 1=true:=list_pos hT (d:=1) (by decide)
      refine step_val (v:=.pointer (some ⟨r,0,none⟩)) (by simp only [execOp,e1,S.t1 D1]; go_simp) (hK _ _ ?_)
      rw [e2]
      exact ⟨ofp S.off,fun g=>S.before (by simpa using g),kp S.t0,kp S.t1,ev_ (by omega),kp S.t3,kp S.t4,kp S.t5,kp S.t6,kp S.t7,kp S.t8,fun g=>(S.t9 (by simpa using g)).imp fun b hb=>⟨by rw [eval_put_ne _ _ _ _ (by decide)]; exact hb.1,fun q=>hb.2 (by simpa using q)⟩,kp S.t10,kp S.t11,kp S.t12,kp S.t13,kp S.t14,fun g=>(S.t15 (by simpa using g)).imp fun b hb=>⟨by rw [eval_put_ne _ _ _ _ (by decide)]; exact hb.1,hb.2⟩⟩
    | 3,_,ho,hsi,hT=>
      obtain ⟨e1,e2⟩:=pick_of h3 ho
      have D2:s 2=true:=list_pos hT (d:=2) (by decide)
      refine step_val (v:=.pointer (some ⟨r,1,none⟩)) (by simp only [execOp,e1,S.t2 D2]; go_simp) (hK _ _ ?_)
      rw [e2]
      exact ⟨ofp S.off,fun g=>S.before (by simpa using g),kp S.t0,kp S.t1,kp S.t2,ev_ (by omega),kp S.t4,kp S.t5,kp S.t6,kp S.t7,kp S.t8,fun g=>(S.t9 (by simpa using g)).imp fun b hb=>⟨by rw [eval_put_ne _ _ _ _ (by decide)]; exact hb.1,fun q=>hb.2 (by simpa using q)⟩,kp S.t10,kp S.t11,kp S.t12,kp S.t13,kp S.t14,fun g=>(S.t15 (by simpa using g)).imp fun b hb=>⟨by rw [eval_put_ne _ _ _ _ (by decide)]; exact hb.1,hb.2⟩⟩
    | 4,_,ho,hsi,hT=>
      obtain ⟨e1,e2⟩:=pick_of h4 ho
      have D3:s 3=true:=list_pos hT (d:=3) (by decide)
      have NL:s 15=false:=list_neg hT (k:=15) (by decide)
      have BW:=S.before NL
      have cl:=(BW.cell (p:=⟨r,1,none⟩) lr).trans c1
      refine step_val (v:=.slice (some ⟨G,0,none⟩) N cap) (by simp only [execOp,e1,S.t3 D3]; go_simp) (hK _ _ ?_)
      rw [e2]
      exact ⟨ofp S.off,fun g=>S.before (by simpa using g),kp S.t0,kp S.t1,kp S.t2,kp S.t3,ev_ (by omega),kp S.t5,kp S.t6,kp S.t7,kp S.t8,fun g=>(S.t9 (by simpa using g)).imp fun b hb=>⟨by rw [eval_put_ne _ _ _ _ (by decide)]; exact hb.1,fun q=>hb.2 (by simpa using q)⟩,kp S.t10,kp S.t11,kp S.t12,kp S.t13,kp S.t14,fun g=>(S.t15 (by simpa using g)).imp fun b hb=>⟨by rw [eval_put_ne _ _ _ _ (by decide)]; exact hb.1,hb.2⟩⟩
    | 5,_,ho,hsi,hT=>
      obtain ⟨e1,e2⟩:=pick_of h5 ho
      have D4:s 4=true:=list_pos hT (d:=4) (by decide)
      refine step_val (v:=.pointer (some ⟨G,0,none⟩)) (by simp only [execOp,e1,S.t4 D4]; have hn:=hN; first | (go_simp; done) | (go_simp; omega) | (go_simp; intro h; omega)) (hK _ _ ?_)
      rw [e2]
      exact ⟨ofp S.off,fun g=>S.before (by simpa using g),kp S.t0,kp S.t1,kp S.t2,kp S.t3,kp S.t4,ev_ (by omega),kp S.t6,kp S.t7,kp S.t8,fun g=>(S.t9 (by simpa using g)).imp fun b hb=>⟨by rw [eval_put_ne _ _ _ _ (by decide)]; exact hb.1,fun q=>hb.2 (by simpa using q)⟩,kp S.t10,kp S.t11,kp S.t12,kp S.t13,kp S.t14,fun g=>(S.t15 (by simpa using g)).imp fun b hb=>⟨by rw [eval_put_ne _ _ _ _ (by decide)]; exact hb.1,hb.2⟩⟩
    | 6,_,ho,hsi,hT=>
      obtain ⟨e1,e2⟩:=pick_of h6 ho
      have D5:s 5=true:=list_pos hT (d:=5) (by decide)
      have NL:s 15=false:=list_neg hT (k:=15) (by decide)
      have BW:=S.before NL
      have cl:=(BW.cell (p:=⟨G,0,none⟩) lG).trans cG
      refine step_val (v:=.string u) (by simp only [execOp,e1,S.t5 D5]; go_simp) (hK _ _ ?_)
      rw [e2]
      exact ⟨ofp S.off,fun g=>S.before (by simpa using g),kp S.t0,kp S.t1,kp S.t2,kp S.t3,kp S.t4,kp S.t5,ev_ (by omega),kp S.t7,kp S.t8,fun g=>(S.t9 (by simpa using g)).imp fun b hb=>⟨by rw [eval_put_ne _ _ _ _ (by decide)]; exact hb.1,fun q=>hb.2 (by simpa using q)⟩,kp S.t10,kp S.t11,kp S.t12,kp S.t13,kp S.t14,fun g=>(S.t15 (by simpa using g)).imp fun b hb=>⟨by rw [eval_put_ne _ _ _ _ (by decide)]; exact hb.1,hb.2⟩⟩
    | 7,_,ho,hsi,hT=>
      obtain ⟨e1,e2⟩:=pick_of h7 ho
      refine step_val (v:=.int .i64 (k:Nat)) (by simp only [execOp,e1,y7]; go_simp) (hK _ _ ?_)
      rw [e2]
      exact ⟨ofp S.off,fun g=>S.before (by simpa using g),kp S.t0,kp S.t1,kp S.t2,kp S.t3,kp S.t4,kp S.t5,kp S.t6,ev_ (by omega),kp S.t8,fun g=>(S.t9 (by simpa using g)).imp fun b hb=>⟨by rw [eval_put_ne _ _ _ _ (by decide)]; exact hb.1,fun q=>hb.2 (by simpa using q)⟩,kp S.t10,kp S.t11,kp S.t12,kp S.t13,kp S.t14,fun g=>(S.t15 (by simpa using g)).imp fun b hb=>⟨by rw [eval_put_ne _ _ _ _ (by decide)]; exact hb.1,hb.2⟩⟩
    | 8,_,ho,hsi,hT=>
      obtain ⟨e1,e2⟩:=pick_of h8 ho
      have D6:s 6=true:=list_pos hT (d:=6) (by decide)
      have D7:s 7=true:=list_pos hT (d:=7) (by decide)
      have q87:a.tmps[87]'(by omega)=.string u:=by have:=S.t6 D6; simpa [Act.eval,sz] using this
      have q88:a.tmps[88]'(by omega)=.int .i64 (k:Nat):=by have:=S.t7 D7; simpa [Act.eval,sz] using this
      refine step_val (v:=.string t) (by simp only [execOp,e1]; have g1:=hku; have g2:=ht; first | (go_simp; done) | (go_simp; rw [g2]; done) | (go_simp; simp [g2])) (hK _ _ ?_)
      rw [e2]
      exact ⟨ofp S.off,fun g=>S.before (by simpa using g),kp S.t0,kp S.t1,kp S.t2,kp S.t3,kp S.t4,kp S.t5,kp S.t6,kp S.t7,ev_ (by omega),fun g=>(S.t9 (by simpa using g)).imp fun b hb=>⟨by rw [eval_put_ne _ _ _ _ (by decide)]; exact hb.1,fun q=>hb.2 (by simpa using q)⟩,kp S.t10,kp S.t11,kp S.t12,kp S.t13,kp S.t14,fun g=>(S.t15 (by simpa using g)).imp fun b hb=>⟨by rw [eval_put_ne _ _ _ _ (by decide)]; exact hb.1,hb.2⟩⟩
    | 9,_,ho,hsi,hT=>
      obtain ⟨e1,e2⟩:=pick_of h9 ho
      have D8:s 8=true:=list_pos hT (d:=8) (by decide)
      have NL:s 15=false:=list_neg hT (k:=15) (by decide)
      have BW:=S.before NL
      have q89:a.tmps[89]'(by omega)=.string t:=by have:=S.t8 D8; simpa [Act.eval,sz] using this
      refine step_to1 (w2:=w'.alloc (.cells #[.string t] 9)) (v:=.slice (some ⟨w'.heap.size,0,none⟩) 1 1) (by simp only [execOp,e1]; go_simp) (hK _ _ ?_)
      have BB:=ba (Below.refl w'.heap.size w') (.cells #[.string t] 9)
      have FF:=OneS.new _ t w' BW.size
      rw [e2]
      exact ⟨ofp S.off,fun g=>bt BW BB,kp S.t0,kp S.t1,kp S.t2,kp S.t3,kp S.t4,kp S.t5,kp S.t6,kp S.t7,kp S.t8,fun _=>⟨_,(eval_put _ _ _ (by omega)).trans rfl,fun _=>FF⟩,kp S.t10,kp S.t11,kp S.t12,kp S.t13,kp S.t14,fun g=>absurd (show s 15=true by simpa using g) (by simp [NL])⟩
    | 10,_,ho,hsi,hT=>
      obtain ⟨e1,e2⟩:=pick_of h10 ho
      refine step_val (v:=.pointer (some ⟨r,0,none⟩)) (by simp only [execOp,e1,y0]; go_simp) (hK _ _ ?_)
      rw [e2]
      exact ⟨ofp S.off,fun g=>S.before (by simpa using g),kp S.t0,kp S.t1,kp S.t2,kp S.t3,kp S.t4,kp S.t5,kp S.t6,kp S.t7,kp S.t8,fun g=>(S.t9 (by simpa using g)).imp fun b hb=>⟨by rw [eval_put_ne _ _ _ _ (by decide)]; exact hb.1,fun q=>hb.2 (by simpa using q)⟩,ev_ (by omega),kp S.t11,kp S.t12,kp S.t13,kp S.t14,fun g=>(S.t15 (by simpa using g)).imp fun b hb=>⟨by rw [eval_put_ne _ _ _ _ (by decide)]; exact hb.1,hb.2⟩⟩
    | 11,_,ho,hsi,hT=>
      obtain ⟨e1,e2⟩:=pick_of h11 ho
      have D10:s 10=true:=list_pos hT (d:=10) (by decide)
      refine step_val (v:=.pointer (some ⟨r,0,none⟩)) (by simp only [execOp,e1,S.t10 D10]; go_simp) (hK _ _ ?_)
      rw [e2]
      exact ⟨ofp S.off,fun g=>S.before (by simpa using g),kp S.t0,kp S.t1,kp S.t2,kp S.t3,kp S.t4,kp S.t5,kp S.t6,kp S.t7,kp S.t8,fun g=>(S.t9 (by simpa using g)).imp fun b hb=>⟨by rw [eval_put_ne _ _ _ _ (by decide)]; exact hb.1,fun q=>hb.2 (by simpa using q)⟩,kp S.t10,ev_ (by omega),kp S.t12,kp S.t13,kp S.t14,fun g=>(S.t15 (by simpa using g)).imp fun b hb=>⟨by rw [eval_put_ne _ _ _ _ (by decide)]; exact hb.1,hb.2⟩⟩
    | 12,_,ho,hsi,hT=>
      obtain ⟨e1,e2⟩:=pick_of h12 ho
      have D11:s 11=true:=list_pos hT (d:=11) (by decide)
      refine step_val (v:=.pointer (some ⟨r,1,none⟩)) (by simp only [execOp,e1,S.t11 D11]; go_simp) (hK _ _ ?_)
      rw [e2]
      exact ⟨ofp S.off,fun g=>S.before (by simpa using g),kp S.t0,kp S.t1,kp S.t2,kp S.t3,kp S.t4,kp S.t5,kp S.t6,kp S.t7,kp S.t8,fun g=>(S.t9 (by simpa using g)).imp fun b hb=>⟨by rw [eval_put_ne _ _ _ _ (by decide)]; exact hb.1,fun q=>hb.2 (by simpa using q)⟩,kp S.t10,kp S.t11,ev_ (by omega),kp S.t13,kp S.t14,fun g=>(S.t15 (by simpa using g)).imp fun b hb=>⟨by rw [eval_put_ne _ _ _ _ (by decide)]; exact hb.1,hb.2⟩⟩
    | 13,_,ho,hsi,hT=>
      obtain ⟨e1,e2⟩:=pick_of h13 ho
      have D12:s 12=true:=list_pos hT (d:=12) (by decide)
      have NL:s 15=false:=list_neg hT (k:=15) (by decide)
      have BW:=S.before NL
      have cl:=(BW.cell (p:=⟨r,1,none⟩) lr).trans c1
      refine step_val (v:=.slice (some ⟨G,0,none⟩) N cap) (by simp only [execOp,e1,S.t12 D12]; go_simp) (hK _ _ ?_)
      rw [e2]
      exact ⟨ofp S.off,fun g=>S.before (by simpa using g),kp S.t0,kp S.t1,kp S.t2,kp S.t3,kp S.t4,kp S.t5,kp S.t6,kp S.t7,kp S.t8,fun g=>(S.t9 (by simpa using g)).imp fun b hb=>⟨by rw [eval_put_ne _ _ _ _ (by decide)]; exact hb.1,fun q=>hb.2 (by simpa using q)⟩,kp S.t10,kp S.t11,kp S.t12,ev_ (by omega),kp S.t14,fun g=>(S.t15 (by simpa using g)).imp fun b hb=>⟨by rw [eval_put_ne _ _ _ _ (by decide)]; exact hb.1,hb.2⟩⟩
    | 14,_,ho,hsi,hT=>
      obtain ⟨e1,e2⟩:=pick_of h14 ho
      have D13:s 13=true:=list_pos hT (d:=13) (by decide)
      refine step_valR (slice_lo_strs (ev:=a.eval) e1 (S.t13 D13) rfl hN hNc hO hM hC) (hK _ _ ?_)
      rw [e2]
      exact ⟨ofp S.off,fun g=>S.before (by simpa using g),kp S.t0,kp S.t1,kp S.t2,kp S.t3,kp S.t4,kp S.t5,kp S.t6,kp S.t7,kp S.t8,fun g=>(S.t9 (by simpa using g)).imp fun b hb=>⟨by rw [eval_put_ne _ _ _ _ (by decide)]; exact hb.1,fun q=>hb.2 (by simpa using q)⟩,kp S.t10,kp S.t11,kp S.t12,kp S.t13,ev_ (by omega),fun g=>(S.t15 (by simpa using g)).imp fun b hb=>⟨by rw [eval_put_ne _ _ _ _ (by decide)]; exact hb.1,hb.2⟩⟩
    | 15,_,ho,hsi,hT=>
      obtain ⟨e1,e2⟩:=pick_of h15 ho
      have D9:s 9=true:=list_pos hT (d:=9) (by decide)
      have D14:s 14=true:=list_pos hT (d:=14) (by decide)
      have BW:=S.before hsi
      obtain ⟨v9,M9,F9⟩:=S.t9 D9
      have F9:=F9 hsi
      obtain ⟨gb,rfl,G1,G2⟩:=F9
      refine step_append (.tmp 90) (.tmp 95) 43 43 e1 (.slice (some ⟨gb,0,none⟩) 1 1) (.slice (some ⟨G,O1,none⟩) M C1) M9 (S.t14 D14) (hA _ w' BW gb G1 G2) (fun v w2 FF=>hK _ _ ?_)
      rw [e2]
      exact ⟨ofp S.off,fun g=>absurd g (by simp),kp S.t0,kp S.t1,kp S.t2,kp S.t3,kp S.t4,kp S.t5,kp S.t6,kp S.t7,kp S.t8,fun g=>(S.t9 (by simpa using g)).imp fun b hb=>⟨by rw [eval_put_ne _ _ _ _ (by decide)]; exact hb.1,fun q=>absurd q (by simp)⟩,kp S.t10,kp S.t11,kp S.t12,kp S.t13,kp S.t14,fun _=>⟨_,(eval_put _ _ _ (by omega)).trans rfl,FF⟩⟩
    | _ + 16,il,_,_,_=>exact absurd il (by omega)
  intro s a w' S hall
  have a0:=hall 0 (by omega)
  have a1:=hall 1 (by omega)
  have a2:=hall 2 (by omega)
  have a3:=hall 3 (by omega)
  have a4:=hall 4 (by omega)
  have a5:=hall 5 (by omega)
  have a6:=hall 6 (by omega)
  have a7:=hall 7 (by omega)
  have a8:=hall 8 (by omega)
  have a9:=hall 9 (by omega)
  have a10:=hall 10 (by omega)
  have a11:=hall 11 (by omega)
  have a12:=hall 12 (by omega)
  have a13:=hall 13 (by omega)
  have a14:=hall 14 (by omega)
  have a15:=hall 15 (by omega)
  have e:=off_norm _ (by intro d hd; simp at hd; omega) S.off
  obtain ⟨v9,M9,F9⟩:=S.t9 a9
  obtain ⟨v15,M15,F15⟩:=S.t15 a15
  simp only [List.foldl,S.t0 a0,S.t1 a1,S.t2 a2,S.t3 a3,S.t4 a4,S.t5 a5,S.t6 a6,S.t7 a7,S.t8 a8,M9,S.t10 a10,S.t11 a11,S.t12 a12,S.t13 a13,S.t14 a14,M15] at e
  rw [e]
  exact h _ _ _ F15
end Go.Proofs.YtchfkncbemjepaaGreat
