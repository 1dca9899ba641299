/- ChNew -/
import Derived.Test.YtchfkncbemjepaaGreatChAll
import Derived.Test.YtchfkncbemjepaaGreatChSmall
set_option linter.unusedVariables false
set_option maxRecDepth 100000
set_option maxHeartbeats 16000000
/- Layer 11, the landed program: NewMux and Clear: what they need. -/
namespace Go.Proofs.YtchfkncbemjepaaGreat
open Go.RowKit

theorem build_ol {ev:Operand->Value} {w:World} {o:Oper} {x0 x1 x2 x3:Operand} {v0:Option Addr} {v1 v2 v3:Int} (h:o.op=.build 58 #[(0,x0),(1,x1),(2,x2),(3,x3)])
    (h0:ev x0=.pointer v0) (h1:ev x1=.int .i64 v1) (h2:ev x2=.int .i64 v2) (h3:ev x3=.int .i64 v3):
    (execOp ev o).run Tryz.prog w=.ok (.value (.agg #[.pointer v0,.int .i64 v1,.int .i64 v2,.int .i64 v3,.int .i64 0,.int .i64 0])) w:=by
  simp only [execOp,h,List.map_toArray,List.map_cons,List.map_nil,h0,h1,h2,h3]; go_simp
theorem info_ol:(Tryz.prog.info? 58).map (·.size)=some 6:=by kernel_rfl
def nC (M:Nat) (x:Ch.Mx) (X:Nat->Nat) (i j:Nat):Value:=
  if 4<=j then (if (j - 4) / 6 < i then oC x X ((j - 4) / 6) ((j - 4) % 6) else if (j - 4) % 6=0 then .pointer none else .int .i64 0) else
  match j with
  | 0=>.pointer (some ⟨M,0,none⟩)
  | 1=>.int .i64 (x.craft:Nat)
  | 2=>.int .i64 (x.n:Nat)
  | _=>.int .i64 0
theorem nC_start (M n craft:Nat) (pr sh:Nat->Nat) (X:Nat->Nat):∀ j,j < 52->(if j=0 then .pointer (some ⟨M,0,none⟩) else (#[.pointer none,.int .i64 (craft:Nat),.int .i64 (n:Nat),.int .i64 0,.pointer none,.int .i64 0,.int .i64 0,.int .i64 0,.int .i64 0,.int .i64 0,.pointer none,.int .i64 0,.int .i64 0,.int .i64 0,.int .i64 0,.int .i64 0,.pointer none,.int .i64 0,.int .i64 0,.int .i64 0,.int .i64 0,.int .i64 0,.pointer none,.int .i64 0,.int .i64 0,.int .i64 0,.int .i64 0,.int .i64 0,.pointer none,.int .i64 0,.int .i64 0,.int .i64 0,.int .i64 0,.int .i64 0,.pointer none,.int .i64 0,.int .i64 0,.int .i64 0,.int .i64 0,.int .i64 0,.pointer none,.int .i64 0,.int .i64 0,.int .i64 0,.int .i64 0,.int .i64 0,.pointer none,.int .i64 0,.int .i64 0,.int .i64 0,.int .i64 0,.int .i64 0]:Array Value).getD j undef)=nC M (Ch.Mx.new n craft pr sh) X 0 j:=fun j hj=>by
  match j,hj with
  | 0,_=>rfl
  | 1,_=>rfl
  | 2,_=>rfl
  | 3,_=>rfl
  | 4,_=>rfl
  | 5,_=>rfl
  | 6,_=>rfl
  | 7,_=>rfl
  | 8,_=>rfl
  | 9,_=>rfl
  | 10,_=>rfl
  | 11,_=>rfl
  | 12,_=>rfl
  | 13,_=>rfl
  | 14,_=>rfl
  | 15,_=>rfl
  | 16,_=>rfl
  | 17,_=>rfl
  | 18,_=>rfl
  | 19,_=>rfl
  | 20,_=>rfl
  | 21,_=>rfl
  | 22,_=>rfl
  | 23,_=>rfl
  | 24,_=>rfl
  | 25,_=>rfl
  | 26,_=>rfl
  | 27,_=>rfl
  | 28,_=>rfl
  | 29,_=>rfl
  | 30,_=>rfl
  | 31,_=>rfl
  | 32,_=>rfl
  | 33,_=>rfl
  | 34,_=>rfl
  | 35,_=>rfl
  | 36,_=>rfl
  | 37,_=>rfl
  | 38,_=>rfl
  | 39,_=>rfl
  | 40,_=>rfl
  | 41,_=>rfl
  | 42,_=>rfl
  | 43,_=>rfl
  | 44,_=>rfl
  | 45,_=>rfl
  | 46,_=>rfl
  | 47,_=>rfl
  | 48,_=>rfl
  | 49,_=>rfl
  | 50,_=>rfl
  | 51,_=>rfl
  | j + 52,h=>exact absurd h (by omega)
theorem nC_zero (n craft:Nat):∀ j,j < 52->(#[.pointer none,.int .i64 (craft:Nat),.int .i64 (n:Nat),.int .i64 0,.pointer none,.int .i64 0,.int .i64 0,.int .i64 0,.int .i64 0,.int .i64 0,.pointer none,.int .i64 0,.int .i64 0,.int .i64 0,.int .i64 0,.int .i64 0,.pointer none,.int .i64 0,.int .i64 0,.int .i64 0,.int .i64 0,.int .i64 0,.pointer none,.int .i64 0,.int .i64 0,.int .i64 0,.int .i64 0,.int .i64 0,.pointer none,.int .i64 0,.int .i64 0,.int .i64 0,.int .i64 0,.int .i64 0,.pointer none,.int .i64 0,.int .i64 0,.int .i64 0,.int .i64 0,.int .i64 0,.pointer none,.int .i64 0,.int .i64 0,.int .i64 0,.int .i64 0,.int .i64 0,.pointer none,.int .i64 0,.int .i64 0,.int .i64 0,.int .i64 0,.int .i64 0]:Array Value)[j]?=some ((#[.pointer none,.int .i64 (craft:Nat),.int .i64 (n:Nat),.int .i64 0,.pointer none,.int .i64 0,.int .i64 0,.int .i64 0,.int .i64 0,.int .i64 0,.pointer none,.int .i64 0,.int .i64 0,.int .i64 0,.int .i64 0,.int .i64 0,.pointer none,.int .i64 0,.int .i64 0,.int .i64 0,.int .i64 0,.int .i64 0,.pointer none,.int .i64 0,.int .i64 0,.int .i64 0,.int .i64 0,.int .i64 0,.pointer none,.int .i64 0,.int .i64 0,.int .i64 0,.int .i64 0,.int .i64 0,.pointer none,.int .i64 0,.int .i64 0,.int .i64 0,.int .i64 0,.int .i64 0,.pointer none,.int .i64 0,.int .i64 0,.int .i64 0,.int .i64 0,.int .i64 0,.pointer none,.int .i64 0,.int .i64 0,.int .i64 0,.int .i64 0,.int .i64 0]:Array Value).getD j undef):=fun j hj=>by
  match j,hj with
  | 0,_=>rfl
  | 1,_=>rfl
  | 2,_=>rfl
  | 3,_=>rfl
  | 4,_=>rfl
  | 5,_=>rfl
  | 6,_=>rfl
  | 7,_=>rfl
  | 8,_=>rfl
  | 9,_=>rfl
  | 10,_=>rfl
  | 11,_=>rfl
  | 12,_=>rfl
  | 13,_=>rfl
  | 14,_=>rfl
  | 15,_=>rfl
  | 16,_=>rfl
  | 17,_=>rfl
  | 18,_=>rfl
  | 19,_=>rfl
  | 20,_=>rfl
  | 21,_=>rfl
  | 22,_=>rfl
  | 23,_=>rfl
  | 24,_=>rfl
  | 25,_=>rfl
  | 26,_=>rfl
  | 27,_=>rfl
  | 28,_=>rfl
  | 29,_=>rfl
  | 30,_=>rfl
  | 31,_=>rfl
  | 32,_=>rfl
  | 33,_=>rfl
  | 34,_=>rfl
  | 35,_=>rfl
  | 36,_=>rfl
  | 37,_=>rfl
  | 38,_=>rfl
  | 39,_=>rfl
  | 40,_=>rfl
  | 41,_=>rfl
  | 42,_=>rfl
  | 43,_=>rfl
  | 44,_=>rfl
  | 45,_=>rfl
  | 46,_=>rfl
  | 47,_=>rfl
  | 48,_=>rfl
  | 49,_=>rfl
  | 50,_=>rfl
  | 51,_=>rfl
  | j + 52,h=>exact absurd h (by omega)
theorem nC_end (M n craft:Nat) (pr sh:Nat->Nat) (X:Nat->Nat):∀ j,j < 52->nC M (Ch.Mx.new n craft pr sh) X 8 j=mC M (Ch.Mx.new n craft pr sh) X j:=fun j hj=>by
  unfold nC mC
  by_cases h:4<=j
  · rw [if_pos h,if_pos h,if_pos (by omega)]
  rw [if_neg h,if_neg h]
  match j,h with
  | 0,_=>rfl
  | 1,_=>rfl
  | 2,_=>rfl
  | 3,_=>rfl
  | j + 4,h=>exact absurd (by omega) h
theorem nC_step (M n craft:Nat) (pr sh:Nat->Nat) (X:Nat->Nat) (i Y:Nat) (p r:Int) (hi:i < 8) (hp:p=(pr i:Nat)) (hr:r=(sh i:Nat)):∀ j,j < 52 →
    (if 4 + i * 6<=j/\j < 4 + i * 6 + 6 then ([.pointer (some ⟨Y,0,none⟩),.int .i64 (i:Nat),.int .i64 p,.int .i64 r,.int .i64 0,.int .i64 0]:List Value).getD (j - (4 + i * 6)) undef else nC M (Ch.Mx.new n craft pr sh) X i j)=nC M (Ch.Mx.new n craft pr sh) (Ch.upd X i Y) (i + 1) j:=fun j hj=>by
  subst hp hr
  by_cases h:4 + i * 6<=j/\j < 4 + i * 6 + 6
  · rw [if_pos h]
    unfold nC
    obtain ⟨k,hk,rfl⟩:∃ k,k < 6/\j=4 + i * 6 + k:=⟨j - (4 + i * 6),by omega,by omega⟩
    rw [if_pos (by omega),show (4 + i * 6 + k - 4) / 6=i by omega,show (4 + i * 6 + k - 4) % 6=k by omega,if_pos (by omega),show 4 + i * 6 + k - (4 + i * 6)=k by omega]
    match k,hk with
    | 0,_=>exact congrArg (fun z:Nat=>Value.pointer (some ⟨z,0,none⟩)) (Ch.upd_same X i Y).symm
    | 1,_=>rfl
    | 2,_=>rfl
    | 3,_=>rfl
    | 4,_=>rfl
    | 5,_=>rfl
  rw [if_neg h]
  unfold nC
  by_cases h4:4<=j
  · rw [if_pos h4,if_pos h4]
    by_cases g:(j - 4) / 6 < i
    · rw [if_pos g,if_pos (by omega)]
      have hk:(j - 4) % 6 < 6:=by omega
      match (j - 4) % 6,hk with
      | 0,_=>exact congrArg (fun z:Nat=>Value.pointer (some ⟨z,0,none⟩)) (Ch.upd_ne X Y (by omega)).symm
      | 1,_=>rfl
      | 2,_=>rfl
      | 3,_=>rfl
      | 4,_=>rfl
      | 5,_=>rfl
    rw [if_neg g,if_neg (show ¬ (j - 4) / 6 < i + 1 by omega)]
  rw [if_neg h4,if_neg h4]
structure NwRegion (M G J Y i:Nat) (p r:Int) (A:Act) (w0:World) (s:Nat->Bool) (a:Act) (w:World):Prop where
  off:Off [50,51,52,53,54,55,56,57,58,59,60,61,62,63] a A
  before:Below w0.heap.size w0 w
  t0:s 0=true->a.eval (.tmp 50)=.pointer (some ⟨M,0,none⟩)
  t1:s 1=true->a.eval (.tmp 51)=.int .i64 (i:Nat)
  t2:s 2=true->a.eval (.tmp 52)=.pointer (some ⟨Y,0,none⟩)
  t3:s 3=true->a.eval (.tmp 53)=.int .i64 (i:Nat)
  t4:s 4=true->a.eval (.tmp 54)=.int .i64 (i:Nat)
  t5:s 5=true->a.eval (.tmp 55)=.pointer (some ⟨G,i,none⟩)
  t6:s 6=true->a.eval (.tmp 56)=.int .i64 p
  t7:s 7=true->a.eval (.tmp 57)=.int .i64 (i:Nat)
  t8:s 8=true->a.eval (.tmp 58)=.pointer (some ⟨J,i,none⟩)
  t9:s 9=true->a.eval (.tmp 59)=.int .i64 r
  t10:s 10=true->a.eval (.tmp 60)=.agg #[.pointer (some ⟨Y,0,none⟩),.int .i64 (i:Nat),.int .i64 p,.int .i64 r,.int .i64 0,.int .i64 0]
  t11:s 11=true->a.eval (.tmp 61)=.pointer (some ⟨M,0,none⟩)
  t12:s 12=true->a.eval (.tmp 62)=.pointer (some ⟨M,4,none⟩)
  t13:s 13=true->a.eval (.tmp 63)=.pointer (some ⟨M,4 + i * 6,none⟩)
theorem nwRegion {id:Nat} {l:List Oper} {A:Act} {w:World} {Q:Exit->Act->World->Prop} (M G J Y i:Nat) (p r:Int)
    (lG:G < w.heap.size) (lJ:J < w.heap.size) (hI:(0:Int)<=(i:Int)) (hI2:(i:Int) < 8) (cG:w.cell? ⟨G,i,none⟩=some (.int .i64 p)) (cJ:w.cell? ⟨J,i,none⟩=some (.int .i64 r))
    (hB:tableH l.toArray 14 (fun i=>match i with | 0=>[] | 1=>[] | 2=>[] | 3=>[] | 4=>[] | 5=>[4] | 6=>[5] | 7=>[] | 8=>[7] | 9=>[8] | 10=>[2,3,6,9] | 11=>[0] | 12=>[11] | 13=>[1,12] | _=>[]) (fun _=>[])=true)
    (h0:pick l 0=some (.move (.tmp 10),some 50))
    (h1:pick l 1=some (.move (.tmp 11),some 51))
    (h2:pick l 2=some (.move (.tmp 12),some 52))
    (h3:pick l 3=some (.move (.tmp 11),some 53))
    (h4:pick l 4=some (.move (.tmp 11),some 54))
    (h5:pick l 5=some (.indexAddr 22 (.tmp 6) (.tmp 54),some 55))
    (h6:pick l 6=some (.load 3 (.tmp 55),some 56))
    (h7:pick l 7=some (.move (.tmp 11),some 57))
    (h8:pick l 8=some (.indexAddr 22 (.tmp 7) (.tmp 57),some 58))
    (h9:pick l 9=some (.load 3 (.tmp 58),some 59))
    (h10:pick l 10=some (.build 58 #[(0,.tmp 52),(1,.tmp 53),(2,.tmp 56),(3,.tmp 59)],some 60))
    (h11:pick l 11=some (.nilCheck (.tmp 50),some 61))
    (h12:pick l 12=some (.fieldAddr 61 (.tmp 61) 4,some 62))
    (h13:pick l 13=some (.indexAddr 59 (.tmp 62) (.tmp 51),some 63))
    (hs:A.tmps.size=66)
    (x10:A.eval (.tmp 10)=.pointer (some ⟨M,0,none⟩))
    (x11:A.eval (.tmp 11)=.int .i64 (i:Nat))
    (x12:A.eval (.tmp 12)=.pointer (some ⟨Y,0,none⟩))
    (x6:A.eval (.tmp 6)=.pointer (some ⟨G,0,none⟩))
    (x7:A.eval (.tmp 7)=.pointer (some ⟨J,0,none⟩))
    (h:∀ w1,Below w.heap.size w w1->wpList Tryz.prog l.toArray Q (l.drop 14) ((((((((((((((A.put (some 50) (.pointer (some ⟨M,0,none⟩))).put (some 51) (.int .i64 (i:Nat))).put (some 52) (.pointer (some ⟨Y,0,none⟩))).put (some 53) (.int .i64 (i:Nat))).put (some 54) (.int .i64 (i:Nat))).put (some 55) (.pointer (some ⟨G,i,none⟩))).put (some 56) (.int .i64 p)).put (some 57) (.int .i64 (i:Nat))).put (some 58) (.pointer (some ⟨J,i,none⟩))).put (some 59) (.int .i64 r)).put (some 60) (.agg #[.pointer (some ⟨Y,0,none⟩),.int .i64 (i:Nat),.int .i64 p,.int .i64 r,.int .i64 0,.int .i64 0])).put (some 61) (.pointer (some ⟨M,0,none⟩))).put (some 62) (.pointer (some ⟨M,4,none⟩))).put (some 63) (.pointer (some ⟨M,4 + i * 6,none⟩))) w1):
    (Code.region id l.toArray true).wp Tryz.prog Q A w:=by
  refine wp_region_head (by kernel_rfl) _ _ _ hB (NwRegion M G J Y i p r A w) ⟨Off.refl _ _,(Below.refl _ _).drew,by simp,by simp,by simp,by simp,by simp,by simp,by simp,by simp,by simp,by simp,by simp,by simp,by simp,by simp⟩ ?_ ?_
  · intro s a w' S i' o il ho hsi hT K hK
    have sz:a.tmps.size=66:=by rw [S.off.2.1]; exact hs
    have y10:a.eval (.tmp 10)=.pointer (some ⟨M,0,none⟩):=by rw [S.off.eval (by decide)]; exact x10
    have y11:a.eval (.tmp 11)=.int .i64 (i:Nat):=by rw [S.off.eval (by decide)]; exact x11
    have y12:a.eval (.tmp 12)=.pointer (some ⟨Y,0,none⟩):=by rw [S.off.eval (by decide)]; exact x12
    have y6:a.eval (.tmp 6)=.pointer (some ⟨G,0,none⟩):=by rw [S.off.eval (by decide)]; exact x6
    have y7:a.eval (.tmp 7)=.pointer (some ⟨J,0,none⟩):=by rw [S.off.eval (by decide)]; exact x7
    match i',il,ho,hsi,hT with
    | 0,_,ho,hsi,hT=>
      obtain ⟨e1,e2⟩:=pick_of h0 ho
      refine step_val (v:=.pointer (some ⟨M,0,none⟩)) (by simp only [execOp,e1,y10]; go_simp) (hK _ _ ?_)
      rw [e2]
      exact ⟨ofp S.off,S.before,ev_ (by omega),kp S.t1,kp S.t2,kp S.t3,kp S.t4,kp S.t5,kp S.t6,kp S.t7,kp S.t8,kp S.t9,kp S.t10,kp S.t11,kp S.t12,kp S.t13⟩
    | 1,_,ho,hsi,hT=>
      obtain ⟨e1,e2⟩:=pick_of h1 ho
      refine step_val (v:=.int .i64 (i:Nat)) (by simp only [execOp,e1,y11]; go_simp) (hK _ _ ?_)
      rw [e2]
      exact ⟨ofp S.off,S.before,kp S.t0,ev_ (by omega),kp S.t2,kp S.t3,kp S.t4,kp S.t5,kp S.t6,kp S.t7,kp S.t8,kp S.t9,kp S.t10,kp S.t11,kp S.t12,kp S.t13⟩
    | 2,_,ho,hsi,hT=>
      obtain ⟨e1,e2⟩:=pick_of h2 ho
      refine step_val (v:=.pointer (some ⟨Y,0,none⟩)) (by simp only [execOp,e1,y12]; go_simp) (hK _ _ ?_)
      rw [e2]
      exact ⟨ofp S.off,S.before,kp S.t0,kp S.t1,ev_ (by omega),kp S.t3,kp S.t4,kp S.t5,kp S.t6,kp S.t7,kp S.t8,kp S.t9,kp S.t10,kp S.t11,kp S.t12,kp S.t13⟩
    | 3,_,ho,hsi,hT=>
      obtain ⟨e1,e2⟩:=pick_of h3 ho
      refine step_val (v:=.int .i64 (i:Nat)) (by simp only [execOp,e1,y11]; go_simp) (hK _ _ ?_)
      rw [e2]
      exact ⟨ofp S.off,S.before,kp S.t0,kp S.t1,kp S.t2,ev_ (by omega),kp S.t4,kp S.t5,kp S.t6,kp S.t7,kp S.t8,kp S.t9,kp S.t10,kp S.t11,kp S.t12,kp S.t13⟩
    | 4,_,ho,hsi,hT=>
      obtain ⟨e1,e2⟩:=pick_of h4 ho
      refine step_val (v:=.int .i64 (i:Nat)) (by simp only [execOp,e1,y11]; go_simp) (hK _ _ ?_)
      rw [e2]
      exact ⟨ofp S.off,S.before,kp S.t0,kp S.t1,kp S.t2,kp S.t3,ev_ (by omega),kp S.t5,kp S.t6,kp S.t7,kp S.t8,kp S.t9,kp S.t10,kp S.t11,kp S.t12,kp S.t13⟩
    | 5,_,ho,hsi,hT=>
      obtain ⟨e1,e2⟩:=pick_of h5 ho
      have D4:s 4=true:=list_pos hT (d:=4) (by decide)
      refine step_val (v:=.pointer (some ⟨G,i,none⟩)) (by simp only [execOp,e1,y6,S.t4 D4]; have hn:=hI; have hm:=hI2; first | (go_simp; done) | (go_simp; omega) | (go_simp; intro h; omega)) (hK _ _ ?_)
      rw [e2]
      exact ⟨ofp S.off,S.before,kp S.t0,kp S.t1,kp S.t2,kp S.t3,kp S.t4,ev_ (by omega),kp S.t6,kp S.t7,kp S.t8,kp S.t9,kp S.t10,kp S.t11,kp S.t12,kp S.t13⟩
    | 6,_,ho,hsi,hT=>
      obtain ⟨e1,e2⟩:=pick_of h6 ho
      have D5:s 5=true:=list_pos hT (d:=5) (by decide)
      have BW:=S.before
      have dp:=(BW.cell (p:=⟨G,i,none⟩) lG).trans cG
      refine step_val (v:=.int .i64 p) (by simp only [execOp,e1,S.t5 D5]; go_simp) (hK _ _ ?_)
      rw [e2]
      exact ⟨ofp S.off,S.before,kp S.t0,kp S.t1,kp S.t2,kp S.t3,kp S.t4,kp S.t5,ev_ (by omega),kp S.t7,kp S.t8,kp S.t9,kp S.t10,kp S.t11,kp S.t12,kp S.t13⟩
    | 7,_,ho,hsi,hT=>
      obtain ⟨e1,e2⟩:=pick_of h7 ho
      refine step_val (v:=.int .i64 (i:Nat)) (by simp only [execOp,e1,y11]; go_simp) (hK _ _ ?_)
      rw [e2]
      exact ⟨ofp S.off,S.before,kp S.t0,kp S.t1,kp S.t2,kp S.t3,kp S.t4,kp S.t5,kp S.t6,ev_ (by omega),kp S.t8,kp S.t9,kp S.t10,kp S.t11,kp S.t12,kp S.t13⟩
    | 8,_,ho,hsi,hT=>
      obtain ⟨e1,e2⟩:=pick_of h8 ho
      have D7:s 7=true:=list_pos hT (d:=7) (by decide)
      refine step_val (v:=.pointer (some ⟨J,i,none⟩)) (by simp only [execOp,e1,y7,S.t7 D7]; have hn:=hI; have hm:=hI2; first | (go_simp; done) | (go_simp; omega) | (go_simp; intro h; omega)) (hK _ _ ?_)
      rw [e2]
      exact ⟨ofp S.off,S.before,kp S.t0,kp S.t1,kp S.t2,kp S.t3,kp S.t4,kp S.t5,kp S.t6,kp S.t7,ev_ (by omega),kp S.t9,kp S.t10,kp S.t11,kp S.t12,kp S.t13⟩
    | 9,_,ho,hsi,hT=>
      obtain ⟨e1,e2⟩:=pick_of h9 ho
      have D8:s 8=true:=list_pos hT (d:=8) (by decide)
      have BW:=S.before
      have dr:=(BW.cell (p:=⟨J,i,none⟩) lJ).trans cJ
      refine step_val (v:=.int .i64 r) (by simp only [execOp,e1,S.t8 D8]; go_simp) (hK _ _ ?_)
      rw [e2]
      exact ⟨ofp S.off,S.before,kp S.t0,kp S.t1,kp S.t2,kp S.t3,kp S.t4,kp S.t5,kp S.t6,kp S.t7,kp S.t8,ev_ (by omega),kp S.t10,kp S.t11,kp S.t12,kp S.t13⟩
    | 10,_,ho,hsi,hT=>
      obtain ⟨e1,e2⟩:=pick_of h10 ho
      have D2:s 2=true:=list_pos hT (d:=2) (by decide)
      have D3:s 3=true:=list_pos hT (d:=3) (by decide)
      have D6:s 6=true:=list_pos hT (d:=6) (by decide)
      have D9:s 9=true:=list_pos hT (d:=9) (by decide)
      refine step_val (build_ol e1 (S.t2 D2) (S.t3 D3) (S.t6 D6) (S.t9 D9)) (hK _ _ ?_)
      rw [e2]
      exact ⟨ofp S.off,S.before,kp S.t0,kp S.t1,kp S.t2,kp S.t3,kp S.t4,kp S.t5,kp S.t6,kp S.t7,kp S.t8,kp S.t9,ev_ (by omega),kp S.t11,kp S.t12,kp S.t13⟩
    | 11,_,ho,hsi,hT=>
      obtain ⟨e1,e2⟩:=pick_of h11 ho
      have D0:s 0=true:=list_pos hT (d:=0) (by decide)
      refine step_val (v:=.pointer (some ⟨M,0,none⟩)) (by simp only [execOp,e1,S.t0 D0]; go_simp) (hK _ _ ?_)
      rw [e2]
      exact ⟨ofp S.off,S.before,kp S.t0,kp S.t1,kp S.t2,kp S.t3,kp S.t4,kp S.t5,kp S.t6,kp S.t7,kp S.t8,kp S.t9,kp S.t10,ev_ (by omega),kp S.t12,kp S.t13⟩
    | 12,_,ho,hsi,hT=>
      obtain ⟨e1,e2⟩:=pick_of h12 ho
      have D11:s 11=true:=list_pos hT (d:=11) (by decide)
      refine step_val (v:=.pointer (some ⟨M,4,none⟩)) (by simp only [execOp,e1,S.t11 D11]; go_simp) (hK _ _ ?_)
      rw [e2]
      exact ⟨ofp S.off,S.before,kp S.t0,kp S.t1,kp S.t2,kp S.t3,kp S.t4,kp S.t5,kp S.t6,kp S.t7,kp S.t8,kp S.t9,kp S.t10,kp S.t11,ev_ (by omega),kp S.t13⟩
    | 13,_,ho,hsi,hT=>
      obtain ⟨e1,e2⟩:=pick_of h13 ho
      have D1:s 1=true:=list_pos hT (d:=1) (by decide)
      have D12:s 12=true:=list_pos hT (d:=12) (by decide)
      refine step_val (v:=.pointer (some ⟨M,4 + i * 6,none⟩)) (by simp only [execOp,e1,S.t1 D1,S.t12 D12]; have hn:=hI; have hm:=hI2; first | (go_simp; done) | (go_simp; omega) | (go_simp; intro h; omega)) (hK _ _ ?_)
      rw [e2]
      exact ⟨ofp S.off,S.before,kp S.t0,kp S.t1,kp S.t2,kp S.t3,kp S.t4,kp S.t5,kp S.t6,kp S.t7,kp S.t8,kp S.t9,kp S.t10,kp S.t11,kp S.t12,ev_ (by omega)⟩
    | _ + 14,il,_,_,_=>exact absurd il (by omega)
  intro s a w' S hall
  have a0:=hall 0 (by omega)
  have a1:=hall 1 (by omega)
  have a2:=hall 2 (by omega)
  have a3:=hall 3 (by omega)
  have a4:=hall 4 (by omega)
  have a5:=hall 5 (by omega)
  have a6:=hall 6 (by omega)
  have a7:=hall 7 (by omega)
  have a8:=hall 8 (by omega)
  have a9:=hall 9 (by omega)
  have a10:=hall 10 (by omega)
  have a11:=hall 11 (by omega)
  have a12:=hall 12 (by omega)
  have a13:=hall 13 (by omega)
  have e:=off_norm _ (by intro d hd; simp at hd; omega) S.off
  simp only [List.foldl,S.t0 a0,S.t1 a1,S.t2 a2,S.t3 a3,S.t4 a4,S.t5 a5,S.t6 a6,S.t7 a7,S.t8 a8,S.t9 a9,S.t10 a10,S.t11 a11,S.t12 a12,S.t13 a13] at e
  rw [e]
  exact h _ S.before
end Go.Proofs.YtchfkncbemjepaaGreat

/- Layer 11, the landed program: NewMux. -/
namespace Go.Proofs.YtchfkncbemjepaaGreat
open Go.RowKit

abbrev arr8 (f:Nat->Int):Value:=.agg #[.int .i64 (f 0),.int .i64 (f 1),.int .i64 (f 2),.int .i64 (f 3),.int .i64 (f 4),.int .i64 (f 5),.int .i64 (f 6),.int .i64 (f 7)]
def NmOk (craft size:Int) (pr sh:Nat->Int):Prop:=(0<=craft/\craft<=255)/\(32<=size/\size<=200)/\∀ i,i < 8->(0<=pr i/\pr i<=7)/\(1<=sh i/\sh i<=100)
def NmP (n0:Nat) (craft size:Int) (pr sh:Nat->Int) (e:Ending) (w':World):Prop:=(¬ NmOk craft size pr sh/\e=.returned (.tuple #[.pointer none,.int .i64 2]))\/(NmOk craft size pr sh/\∃ M X va vb,e=.returned (.tuple #[.pointer (some ⟨M,0,none⟩),.int .i64 0])/\PM w' n0 M (Ch.Mx.new size.toNat craft.toNat (fun i=>(pr i).toNat) (fun i=>(sh i).toNat)) X va vb)
theorem a8_cells (f:Nat->Int):∀ j,j < 8->(#[.int .i64 (f 0),.int .i64 (f 1),.int .i64 (f 2),.int .i64 (f 3),.int .i64 (f 4),.int .i64 (f 5),.int .i64 (f 6),.int .i64 (f 7)]:Array Value)[j]?=some (.int .i64 (f j)):=fun j hj=>by
  match j,hj with
  | 0,_=>rfl
  | 1,_=>rfl
  | 2,_=>rfl
  | 3,_=>rfl
  | 4,_=>rfl
  | 5,_=>rfl
  | 6,_=>rfl
  | 7,_=>rfl
theorem box_a8 {ev:Operand->Value} {o:Oper} {w:World} {x:Operand} {f:Nat->Int} (h:o.op=.box 22 x) (hx:ev x=arr8 f):(execOp ev o).run Tryz.prog w=.ok (.value (.pointer (some ⟨w.heap.size,0,none⟩))) (w.alloc (.cells #[.int .i64 (f 0),.int .i64 (f 1),.int .i64 (f 2),.int .i64 (f 3),.int .i64 (f 4),.int .i64 (f 5),.int .i64 (f 6),.int .i64 (f 7)] 22)):=by
  simp only [execOp,h,hx]; go_simp
theorem box_m52 {ev:Operand->Value} {o:Oper} {w:World} {x:Operand} {n craft:Nat} (h:o.op=.box 61 x) (hx:ev x=.agg #[.pointer none,.int .i64 (craft:Nat),.int .i64 (n:Nat),.int .i64 0,.pointer none,.int .i64 0,.int .i64 0,.int .i64 0,.int .i64 0,.int .i64 0,.pointer none,.int .i64 0,.int .i64 0,.int .i64 0,.int .i64 0,.int .i64 0,.pointer none,.int .i64 0,.int .i64 0,.int .i64 0,.int .i64 0,.int .i64 0,.pointer none,.int .i64 0,.int .i64 0,.int .i64 0,.int .i64 0,.int .i64 0,.pointer none,.int .i64 0,.int .i64 0,.int .i64 0,.int .i64 0,.int .i64 0,.pointer none,.int .i64 0,.int .i64 0,.int .i64 0,.int .i64 0,.int .i64 0,.pointer none,.int .i64 0,.int .i64 0,.int .i64 0,.int .i64 0,.int .i64 0,.pointer none,.int .i64 0,.int .i64 0,.int .i64 0,.int .i64 0,.int .i64 0]):(execOp ev o).run Tryz.prog w=.ok (.value (.pointer (some ⟨w.heap.size,0,none⟩))) (w.alloc (.cells #[.pointer none,.int .i64 (craft:Nat),.int .i64 (n:Nat),.int .i64 0,.pointer none,.int .i64 0,.int .i64 0,.int .i64 0,.int .i64 0,.int .i64 0,.pointer none,.int .i64 0,.int .i64 0,.int .i64 0,.int .i64 0,.int .i64 0,.pointer none,.int .i64 0,.int .i64 0,.int .i64 0,.int .i64 0,.int .i64 0,.pointer none,.int .i64 0,.int .i64 0,.int .i64 0,.int .i64 0,.int .i64 0,.pointer none,.int .i64 0,.int .i64 0,.int .i64 0,.int .i64 0,.int .i64 0,.pointer none,.int .i64 0,.int .i64 0,.int .i64 0,.int .i64 0,.int .i64 0,.pointer none,.int .i64 0,.int .i64 0,.int .i64 0,.int .i64 0,.int .i64 0,.pointer none,.int .i64 0,.int .i64 0,.int .i64 0,.int .i64 0,.int .i64 0] 61)):=by
  simp only [execOp,h,hx]; go_simp
theorem store_pmx {ev:Operand->Value} {o:Oper} {w:World} {x y:Operand} {X i:Nat} {u:Value} {a:Option Addr} (h:o.op=.store 27 x y) (hx:ev x=.pointer (some ⟨X,i,none⟩)) (hy:ev y=.pointer a) (hc:w.cell? ⟨X,i,none⟩=some u) (hf:w.frozen? ⟨X,i,none⟩=false):(execOp ev o).run Tryz.prog w=.ok .skip (w.setCell ⟨X,i,none⟩ (.pointer a)):=by
  simp only [execOp,h,hx,hy]; go_simp
structure LQ (w0 w:World) (n0 G J M n craft:Nat) (pr sh:Nat->Int) (X:Nat->Nat) (va vb:Nat->Value) (i:Nat):Prop where
  ml:n0<=M
  mt:TyB w M 61
  mc:Cel w M 52 (nC M (Ch.Mx.new n craft (fun i=>(pr i).toNat) (fun i=>(sh i).toNat)) X i)
  gt:TyB w G 22
  gc:Cel w G 8 (fun j=>.int .i64 (pr j))
  jt:TyB w J 22
  jc:Cel w J 8 (fun j=>.int .i64 (sh j))
  f:∀ k,k < i->PV w n0 (X k) n s0 (va k) (vb k)
  ap:∀ k l,k < i->l < i->k ≠ l->∀ g,SX (X k) (va k) (vb k) g->¬ SX (X l) (va l) (vb l) g
  bl:Below n0 w0 w
  ok:∀ k,k < i->(0<=pr k/\pr k<=7)/\(1<=sh k/\sh k<=100)
theorem LQ.step {w0 w w1 w2:World} {n0 G J M n craft:Nat} {pr sh:Nat->Int} {X:Nat->Nat} {va vb:Nat->Value} {i F:Nat} (h:LQ w0 w n0 G J M n craft pr sh X va vb i) (p:PFl w1 w.heap.size F n 0 (.slice none 0 0) (.slice none 0 0) [] []) (b:Below w.heap.size w w1)
    (u:But M w1 w2) (c:Cel w2 M 52 (nC M (Ch.Mx.new n craft (fun i=>(pr i).toNat) (fun i=>(sh i).toNat)) (Ch.upd X i F) (i + 1))) (t:TyB w2 M 61) (o:(0<=pr i/\pr i<=7)/\(1<=sh i/\sh i<=100)):
    LQ w0 w2 n0 G J M n craft pr sh (Ch.upd X i F) (Ch.upd va i (.slice none 0 0)) (Ch.upd vb i (.slice none 0 0)) (i + 1):=by
  have hs:=h.bl.size
  have sz:=b.size
  have n0s:n0<=w.heap.size:=Nat.le_trans h.ml (Nat.le_of_lt h.mt.lt)
  have gM:G ≠ M:=ty_ne h.gt h.mt (by decide)
  have jM:J ≠ M:=ty_ne h.jt h.mt (by decide)
  have FM:F ≠ M:=fun e=>by have:=p.xl; have:=h.mt.lt; omega
  have sk:∀ g,g < w.heap.size->g ≠ M->w2.heap[g]?=w.heap[g]?:=fun g hg hn=>(u.rest g (Nat.lt_of_lt_of_le hg sz) hn).trans (b.block g hg)
  have fs:∀ g,SX F (.slice none 0 0) (.slice none 0 0) g->g=F:=fun g hg=>by
    rcases hg with rfl | hg | hg
    · rfl
    · cases hg
    cases hg
  refine ⟨h.ml,t,c,h.gt.of_block (sk G h.gt.lt gM),h.gc.of_block (sk G h.gt.lt gM),h.jt.of_block (sk J h.jt.lt jM),h.jc.of_block (sk J h.jt.lt jM),fun k hk=>?_,fun k l hk hl hkl g hg=>?_,But.under (h.bl.trans (b.mono n0s)) u h.ml,fun k hk=>?_⟩
  · by_cases e:k=i
    · subst e
      rw [Ch.upd_same,Ch.upd_same,Ch.upd_same]
      have q:=p.keep (w':=w2) (fun g hg=>by
        obtain rfl:=fs g hg
        exact u.rest g p.ty.lt FM)
      exact ⟨[],[],0,⟨Nat.le_trans n0s q.xl,q.ty,q.cx,RowAt.nil _ _ _,RowAt.nil _ _ _⟩,Tm.Rel.start⟩
    rw [Ch.upd_ne _ _ e,Ch.upd_ne _ _ e,Ch.upd_ne _ _ e]
    have pk:=h.f k (by omega)
    exact pk.keep (fun g hg=>sk g (pk.lt hg) (fun q=>by
      obtain ⟨t2,h2,T2⟩:=pk.ty hg
      subst q
      exact ty_ne T2 h.mt (fun e=>by subst e; exact absurd h2 (by decide)) rfl))
  · by_cases e:k=i
    · subst e
      rw [Ch.upd_same,Ch.upd_same,Ch.upd_same] at hg
      obtain rfl:=fs g hg
      rw [Ch.upd_ne _ _ (fun q=>hkl q.symm),Ch.upd_ne _ _ (fun q=>hkl q.symm),Ch.upd_ne _ _ (fun q=>hkl q.symm)]
      intro z
      have:=(h.f l (by omega)).lt z
      have:=p.xl
      omega
    rw [Ch.upd_ne _ _ e,Ch.upd_ne _ _ e,Ch.upd_ne _ _ e] at hg
    by_cases e2:l=i
    · subst e2
      rw [Ch.upd_same,Ch.upd_same,Ch.upd_same]
      intro z
      obtain rfl:=fs g z
      have:=(h.f k (by omega)).lt hg
      have:=p.xl
      omega
    rw [Ch.upd_ne _ _ e2,Ch.upd_ne _ _ e2,Ch.upd_ne _ _ e2]
    exact h.ap k l (by omega) (by omega) hkl g hg
  by_cases e:k=i
  · subst e; exact o
  exact h.ok k (by omega)
theorem newMux_any (craft size:Int) (pr sh:Nat->Int) (w:World):Calls Tryz.prog 9 #[.int .i64 craft,.int .i64 size,arr8 pr,arr8 sh] w
    fun e w'=>Below w.heap.size w w'/\NmP w.heap.size craft size pr sh e w':=by
  have CC:=Lib.hid (fun w=>ccraft_any craft w)
  have CS:=Lib.hid (fun w=>csize_any size w)
  have CP:=Lib.hid (fun x w=>cprio_any x w)
  have CH:=Lib.hid (fun x w=>cshare_any x w)
  go_enter Tryz.func9,Tryz.ntmps9
  go_wp2_with (first
    | ((with_reducible refine atList ?_); refine wpList_newT rfl (.box 22 (.tmp 2)) rfl (some 6) rfl #[.int .i64 (pr 0),.int .i64 (pr 1),.int .i64 (pr 2),.int .i64 (pr 3),.int .i64 (pr 4),.int .i64 (pr 5),.int .i64 (pr 6),.int .i64 (pr 7)] 22 (fun X=>.pointer (some ⟨X,0,none⟩)) 8 (fun j=>.int .i64 (pr j)) (a8_cells pr) (box_a8 rfl rfl) ?_; intro G w1 HG SG CG BG TG)
    | ((with_reducible refine atList ?_); refine wpList_newT rfl (.box 22 (.tmp 3)) rfl (some 7) rfl #[.int .i64 (sh 0),.int .i64 (sh 1),.int .i64 (sh 2),.int .i64 (sh 3),.int .i64 (sh 4),.int .i64 (sh 5),.int .i64 (sh 6),.int .i64 (sh 7)] 22 (fun X=>.pointer (some ⟨X,0,none⟩)) 8 (fun j=>.int .i64 (sh j)) (a8_cells sh) (box_a8 rfl rfl) ?_; intro J w2 HJ SJ CJ BJ TJ))
  have B2:=Lib.hid (bt BG.out BJ.out)
  have CG2:=Lib.hid (CG.out.below BJ.out)
  have TG2:=Lib.hid (TG.out.below BJ.out)
  (with_reducible refine (CC.out _).mono ?_)
  rintro e w' ⟨rfl,rfl⟩
  by_cases c1:0<=craft/\craft<=255
  · rw [decide_eq_true c1]
    go_wp2_with fail
    (with_reducible refine (CS.out _).mono ?_)
    rintro e w' ⟨rfl,rfl⟩
    by_cases c2:32<=size/\size<=200
    · rw [decide_eq_true c2]
      obtain ⟨cr,rfl⟩:∃ z:Nat,craft=z:=⟨craft.toNat,by omega⟩
      obtain ⟨n,rfl⟩:∃ z:Nat,size=z:=⟨size.toNat,by omega⟩
      have N1:=Lib.hid (show 32<=n/\n<=200 by omega)
      have C1:=Lib.hid c1
      have C2:=Lib.hid c2
      clear c1 c2
      go_wp2_with (first
        | ((with_reducible refine atList ?_); refine wpList_newT rfl (.box 61 (.tmp 24)) rfl (some 25) rfl #[.pointer none,.int .i64 (cr:Nat),.int .i64 (n:Nat),.int .i64 0,.pointer none,.int .i64 0,.int .i64 0,.int .i64 0,.int .i64 0,.int .i64 0,.pointer none,.int .i64 0,.int .i64 0,.int .i64 0,.int .i64 0,.int .i64 0,.pointer none,.int .i64 0,.int .i64 0,.int .i64 0,.int .i64 0,.int .i64 0,.pointer none,.int .i64 0,.int .i64 0,.int .i64 0,.int .i64 0,.int .i64 0,.pointer none,.int .i64 0,.int .i64 0,.int .i64 0,.int .i64 0,.int .i64 0,.pointer none,.int .i64 0,.int .i64 0,.int .i64 0,.int .i64 0,.int .i64 0,.pointer none,.int .i64 0,.int .i64 0,.int .i64 0,.int .i64 0,.int .i64 0,.pointer none,.int .i64 0,.int .i64 0,.int .i64 0,.int .i64 0,.int .i64 0] 61 (fun X=>.pointer (some ⟨X,0,none⟩)) 52 (fun j=>(#[.pointer none,.int .i64 (cr:Nat),.int .i64 (n:Nat),.int .i64 0,.pointer none,.int .i64 0,.int .i64 0,.int .i64 0,.int .i64 0,.int .i64 0,.pointer none,.int .i64 0,.int .i64 0,.int .i64 0,.int .i64 0,.int .i64 0,.pointer none,.int .i64 0,.int .i64 0,.int .i64 0,.int .i64 0,.int .i64 0,.pointer none,.int .i64 0,.int .i64 0,.int .i64 0,.int .i64 0,.int .i64 0,.pointer none,.int .i64 0,.int .i64 0,.int .i64 0,.int .i64 0,.int .i64 0,.pointer none,.int .i64 0,.int .i64 0,.int .i64 0,.int .i64 0,.int .i64 0,.pointer none,.int .i64 0,.int .i64 0,.int .i64 0,.int .i64 0,.int .i64 0,.pointer none,.int .i64 0,.int .i64 0,.int .i64 0,.int .i64 0,.int .i64 0]:Array Value).getD j undef) (nC_zero n cr) (box_m52 rfl rfl) ?_; intro M w3 HM SM3 CM BM TM)
        | ((with_reducible refine atList ?_); refine wpList_setT rfl (.store 27 (.tmp 29) (.tmp 27)) rfl M 0 52 (.pointer (some ⟨M,0,none⟩)) _ (nC M (Ch.Mx.new n cr (fun i=>(pr i).toNat) (fun i=>(sh i).toNat)) (fun _=>0) 0) CM.out (by omega) (nC_start M n cr _ _ _) (store_pmx rfl rfl rfl (CM.out.cell (j:=0) (by omega)) (CM.out.frozen (j:=0) (by omega))) ?_; intro w4 C4 U4 S4 V4))
      have GM:=Lib.hid (show G ≠ M from fun e=>by have:=TG2.out.lt; have:=HM.out; omega)
      have JM:=Lib.hid (show J ≠ M from fun e=>by have:=TJ.out.lt; have:=HM.out; omega)
      have L4:=Lib.hid (show LQ w w4 w.heap.size G J M n cr pr sh (fun _=>0) (fun _=>.slice none 0 0) (fun _=>.slice none 0 0) 0 from
        ⟨by have:=HM.out; have:=B2.out.size; omega,V4.out _ TM.out,C4.out,(TG2.out.below BM.out).but U4.out GM.out,(CG2.out.below BM.out).but U4.out GM.out,(TJ.out.below BM.out).but U4.out JM.out,(CJ.out.below BM.out).but U4.out JM.out,
          fun k hk=>absurd hk (Nat.not_lt_zero _),fun k l hk=>absurd hk (Nat.not_lt_zero _),But.under (bt B2.out BM.out) U4.out (by have:=HM.out; have:=B2.out.size; omega),fun k hk=>absurd hk (Nat.not_lt_zero _)⟩)
      have NW:=Lib.hid (fun w=>tnew_any n N1.out.1 N1.out.2 w)
      go_loopw [30] (fun x30 wr=>∃ (i:Nat) (X:Nat->Nat) (va vb:Nat->Value),i<=8/\x30=.int .i64 i/\LQ w wr w.heap.size G J M n cr pr sh X va vb i) (fun x30 _=>8 - (intOf x30).toNat)
      case atStart=>exact ⟨0,_,_,_,Nat.zero_le _,rfl,L4.out⟩
      case round=>
        obtain ⟨i,X,va,vb,hi,rfl,hL⟩:=hrel
        have LR:=Lib.hid hL
        clear hL
        by_cases hlt:i < 8
        · have i1:(i:Int) < 8:=by omega
          have i0:(0:Int)<=(i:Int):=by omega
          have cG:wr.cell? ⟨G,i,none⟩=some (.int .i64 (pr i)):=LR.out.gc.cell hlt
          have cJ:wr.cell? ⟨J,i,none⟩=some (.int .i64 (sh i)):=LR.out.jc.cell hlt
          go_wp2_with fail
          (with_reducible refine (CP.out _ _).mono ?_)
          rintro e w' ⟨rfl,rfl⟩
          by_cases cp:0<=pr i/\pr i<=7
          · rw [decide_eq_true cp]
            go_wp2_with fail
            (with_reducible refine (CH.out _ _).mono ?_)
            rintro e w' ⟨rfl,rfl⟩
            by_cases ch:1<=sh i/\sh i<=100
            · rw [decide_eq_true ch]
              have VO:=Lib.hid (And.intro cp ch)
              clear cp ch
              go_wp2_with fail
              (refine (NW.out _).mono ?_)
              rintro e w5 ⟨F,rfl,PF,b5⟩
              have HPF:=Lib.hid PF
              have B5:=Lib.hid b5
              clear PF b5
              go_wp2_with fail
              refine nwRegion M G J F i (pr i) (sh i) (Nat.lt_of_lt_of_le LR.out.gt.lt B5.out.size) (Nat.lt_of_lt_of_le LR.out.jt.lt B5.out.size) i0 i1 ((B5.out.cell (p:=⟨G,i,none⟩) LR.out.gt.lt).trans cG) ((B5.out.cell (p:=⟨J,i,none⟩) LR.out.jt.lt).trans cJ) (by kernel_rfl) rfl rfl rfl rfl rfl rfl rfl rfl rfl rfl rfl rfl rfl rfl rfl rfl rfl rfl rfl rfl ?_
              intro w6 b6
              have B6:=Lib.hid (bt B5.out b6)
              have PF6:=Lib.hid (HPF.out.below b6)
              have CM6:=Lib.hid (LR.out.mc.below B6.out)
              have TM6:=Lib.hid (LR.out.mt.below B6.out)
              have ST:=Lib.hid (nC_step M n cr (fun i=>(pr i).toNat) (fun i=>(sh i).toNat) X i F (pr i) (sh i) hlt (by have:=VO.out; omega) (by have:=VO.out; omega))
              have Q1:=Lib.hid (show 4 + i * 6 + 6<=52 by omega)
              clear b6 cG cJ
              simp only [Act.put,List.setIfInBounds_toArray,List.set_cons_succ,List.set_cons_zero,List.drop_succ_cons,List.drop_zero]
              go_wp2_with (((with_reducible refine atList ?_); refine wpList_setMidT rfl 58 (.tmp 63) (.tmp 60) rfl M (4 + i * 6) 52 6 [.pointer (some ⟨F,0,none⟩),.int .i64 (i:Nat),.int .i64 (pr i),.int .i64 (sh i),.int .i64 0,.int .i64 0] _ (nC M (Ch.Mx.new n cr (fun i=>(pr i).toNat) (fun i=>(sh i).toNat)) (Ch.upd X i F) (i + 1)) CM6.out rfl Q1.out ST.out rfl rfl info_ol (by simp [Value.oneCell']) ?_; intro w7 C7 U7 S7 V7))
              have L7:=Lib.hid (LR.out.step PF6.out B6.out U7.out C7.out (V7.out _ TM6.out) VO.out)
              go_roundw
              case rel=>exact ⟨i + 1,_,_,_,by omega,by go_num,L7.out⟩
              case measure=>simp [intOf]; omega
            rw [decide_eq_false ch]
            have BAD:=Lib.hid (show ¬ NmOk cr n pr sh from fun h=>ch (h.2.2 i hlt).2)
            clear cp ch
            go_wp2_with fail
            go_ret2
            exact ⟨LR.out.bl,.inl ⟨BAD.out,rfl⟩⟩
          rw [decide_eq_false cp]
          have BAD:=Lib.hid (show ¬ NmOk cr n pr sh from fun h=>cp (h.2.2 i hlt).1)
          clear cp
          go_wp2_with fail
          go_ret2
          exact ⟨LR.out.bl,.inl ⟨BAD.out,rfl⟩⟩
        obtain rfl:8=i:=by omega
        go_wp2_with fail
        go_ret2
        refine ⟨LR.out.bl,.inr ⟨⟨C1.out,C2.out,LR.out.ok⟩,M,X,va,vb,rfl,?_⟩⟩
        rw [Int.toNat_natCast,Int.toNat_natCast]
        exact ⟨LR.out.ml,LR.out.mt,LR.out.mc.congr (nC_end M n cr _ _ X),LR.out.f,LR.out.ap⟩
    rw [decide_eq_false c2]
    have BAD:=Lib.hid (show ¬ NmOk craft size pr sh from fun h=>c2 h.2.1)
    clear c1 c2
    go_wp2_with fail
    go_ret2
    exact ⟨B2.out,.inl ⟨BAD.out,rfl⟩⟩
  rw [decide_eq_false c1]
  have BAD:=Lib.hid (show ¬ NmOk craft size pr sh from fun h=>c1 h.1)
  clear c1
  go_wp2_with fail
  go_ret2
  exact ⟨B2.out,.inl ⟨BAD.out,rfl⟩⟩
end Go.Proofs.YtchfkncbemjepaaGreat
