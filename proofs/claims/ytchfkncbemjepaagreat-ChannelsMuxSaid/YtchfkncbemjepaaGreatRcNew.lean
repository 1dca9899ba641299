/- RcNew -/
import Derived.Test.YtchfkncbemjepaaGreatRcNext
import Derived.Test.YtchfkncbemjepaaGreatChShown
set_option linter.unusedVariables false
set_option maxRecDepth 100000
set_option maxHeartbeats 16000000
/- Layer 11, the reference: NewMux. -/
namespace Go.Proofs.YtchfkncbemjepaaGreat
open Go.RowKit

def yR (craft:Int) (n:Nat) (pr sh:Nat->Int) (Y:Nat->Nat) (i j:Nat):Value:=
  if j < 1 then .int .i64 craft else
  if j < 2 then .int .i64 (n:Nat) else
  if j < 10 then .int .i64 (pr (j - 2)) else
  if j < 18 then .int .i64 (sh (j - 10)) else
  if j < 18 + i then .pointer (some ⟨Y (j - 18),0,none⟩) else
  if j < 26 then .pointer none else .int .i64 0
theorem yR_start (craft:Int) (n:Nat) (pr sh:Nat->Int) (Y:Nat->Nat):∀ j,j < 43->(#[.int .i64 craft,.int .i64 (n:Nat),.int .i64 (pr 0),.int .i64 (pr 1),.int .i64 (pr 2),.int .i64 (pr 3),.int .i64 (pr 4),.int .i64 (pr 5),.int .i64 (pr 6),.int .i64 (pr 7),.int .i64 (sh 0),.int .i64 (sh 1),.int .i64 (sh 2),.int .i64 (sh 3),.int .i64 (sh 4),.int .i64 (sh 5),.int .i64 (sh 6),.int .i64 (sh 7),.pointer none,.pointer none,.pointer none,.pointer none,.pointer none,.pointer none,.pointer none,.pointer none,.int .i64 0,.int .i64 0,.int .i64 0,.int .i64 0,.int .i64 0,.int .i64 0,.int .i64 0,.int .i64 0,.int .i64 0,.int .i64 0,.int .i64 0,.int .i64 0,.int .i64 0,.int .i64 0,.int .i64 0,.int .i64 0,.int .i64 0]:Array Value)[j]?=some (yR craft n pr sh Y 0 j):=fun j hj=>by
  match j,hj with
  | 0,_=>rfl
  | 1,_=>rfl
  | 2,_=>rfl
  | 3,_=>rfl
  | 4,_=>rfl
  | 5,_=>rfl
  | 6,_=>rfl
  | 7,_=>rfl
  | 8,_=>rfl
  | 9,_=>rfl
  | 10,_=>rfl
  | 11,_=>rfl
  | 12,_=>rfl
  | 13,_=>rfl
  | 14,_=>rfl
  | 15,_=>rfl
  | 16,_=>rfl
  | 17,_=>rfl
  | 18,_=>rfl
  | 19,_=>rfl
  | 20,_=>rfl
  | 21,_=>rfl
  | 22,_=>rfl
  | 23,_=>rfl
  | 24,_=>rfl
  | 25,_=>rfl
  | 26,_=>rfl
  | 27,_=>rfl
  | 28,_=>rfl
  | 29,_=>rfl
  | 30,_=>rfl
  | 31,_=>rfl
  | 32,_=>rfl
  | 33,_=>rfl
  | 34,_=>rfl
  | 35,_=>rfl
  | 36,_=>rfl
  | 37,_=>rfl
  | 38,_=>rfl
  | 39,_=>rfl
  | 40,_=>rfl
  | 41,_=>rfl
  | 42,_=>rfl
  | j + 43,h=>exact absurd h (by omega)
theorem yR_step (craft:Int) (n:Nat) (pr sh:Nat->Int) (Y:Nat->Nat) {i r:Nat} (hi:i < 8):∀ j,j < 43->(if j=18 + i then .pointer (some ⟨r,0,none⟩) else yR craft n pr sh Y i j)=yR craft n pr sh (Ch.upd Y i r) (i + 1) j:=fun j hj=>by
  unfold yR
  by_cases e:j=18 + i
  · subst e
    rw [if_pos rfl,if_neg (by omega),if_neg (by omega),if_neg (by omega),if_neg (by omega),if_pos (by omega),Nat.add_sub_cancel_left,Ch.upd_same]
  rw [if_neg e]
  by_cases q1:j < 1
  · rw [if_pos q1,if_pos q1]
  rw [if_neg q1,if_neg q1]
  by_cases q2:j < 2
  · rw [if_pos q2,if_pos q2]
  rw [if_neg q2,if_neg q2]
  by_cases q3:j < 10
  · rw [if_pos q3,if_pos q3]
  rw [if_neg q3,if_neg q3]
  by_cases q4:j < 18
  · rw [if_pos q4,if_pos q4]
  rw [if_neg q4,if_neg q4]
  by_cases q5:j < 18 + i
  · rw [if_pos q5,if_pos (by omega),Ch.upd_ne _ _ (by omega)]
  rw [if_neg q5,if_neg (show ¬ j < 18 + (i + 1) by omega)]
theorem yR_end (c n:Nat) (pr sh:Nat->Int) (Y:Nat->Nat) (h:∀ i,i < 8->(0<=pr i/\pr i<=7)/\(1<=sh i/\sh i<=100)):∀ j,j < 43->yR (c:Nat) n pr sh Y 8 j=yC (Ch.Mx.new n c (fun i=>(pr i).toNat) (fun i=>(sh i).toNat)) Y j:=fun j hj=>by
  unfold yR yC
  by_cases q1:j < 1
  · rw [if_pos q1,if_pos q1]; rfl
  rw [if_neg q1,if_neg q1]
  by_cases q2:j < 2
  · rw [if_pos q2,if_pos q2]; rfl
  rw [if_neg q2,if_neg q2]
  by_cases q3:j < 10
  · rw [if_pos q3,if_pos q3]
    have:=h (j - 2) (by omega)
    show Value.int .i64 _=Value.int .i64 (((pr (j - 2)).toNat:Nat):Int)
    rw [Int.toNat_of_nonneg (by omega)]
  rw [if_neg q3,if_neg q3]
  by_cases q4:j < 18
  · rw [if_pos q4,if_pos q4]
    have:=h (j - 10) (by omega)
    show Value.int .i64 _=Value.int .i64 (((sh (j - 10)).toNat:Nat):Int)
    rw [Int.toNat_of_nonneg (by omega)]
  rw [if_neg q4,if_neg q4]
  by_cases q5:j < 26
  · rw [if_pos (by omega),if_pos q5]
  rw [if_neg (by omega),if_neg q5,if_neg q5]
  by_cases q6:j < 27
  · rw [if_pos q6]; rfl
  rw [if_neg q6]
  by_cases q7:j < 35
  · rw [if_pos q7]; rfl
  rw [if_neg q7]; rfl
theorem box_y43 {ev:Operand->Value} {o:Oper} {w:World} {x:Operand} {craft size:Int} {pr sh:Nat->Int} (h:o.op=.box 90 x) (hx:ev x=.agg #[.int .i64 craft,.int .i64 size,.int .i64 (pr 0),.int .i64 (pr 1),.int .i64 (pr 2),.int .i64 (pr 3),.int .i64 (pr 4),.int .i64 (pr 5),.int .i64 (pr 6),.int .i64 (pr 7),.int .i64 (sh 0),.int .i64 (sh 1),.int .i64 (sh 2),.int .i64 (sh 3),.int .i64 (sh 4),.int .i64 (sh 5),.int .i64 (sh 6),.int .i64 (sh 7),.pointer none,.pointer none,.pointer none,.pointer none,.pointer none,.pointer none,.pointer none,.pointer none,.int .i64 0,.int .i64 0,.int .i64 0,.int .i64 0,.int .i64 0,.int .i64 0,.int .i64 0,.int .i64 0,.int .i64 0,.int .i64 0,.int .i64 0,.int .i64 0,.int .i64 0,.int .i64 0,.int .i64 0,.int .i64 0,.int .i64 0]):(execOp ev o).run Tryz.prog w=.ok (.value (.pointer (some ⟨w.heap.size,0,none⟩))) (w.alloc (.cells #[.int .i64 craft,.int .i64 size,.int .i64 (pr 0),.int .i64 (pr 1),.int .i64 (pr 2),.int .i64 (pr 3),.int .i64 (pr 4),.int .i64 (pr 5),.int .i64 (pr 6),.int .i64 (pr 7),.int .i64 (sh 0),.int .i64 (sh 1),.int .i64 (sh 2),.int .i64 (sh 3),.int .i64 (sh 4),.int .i64 (sh 5),.int .i64 (sh 6),.int .i64 (sh 7),.pointer none,.pointer none,.pointer none,.pointer none,.pointer none,.pointer none,.pointer none,.pointer none,.int .i64 0,.int .i64 0,.int .i64 0,.int .i64 0,.int .i64 0,.int .i64 0,.int .i64 0,.int .i64 0,.int .i64 0,.int .i64 0,.int .i64 0,.int .i64 0,.int .i64 0,.int .i64 0,.int .i64 0,.int .i64 0,.int .i64 0] 90)):=by
  simp only [execOp,h,hx]; go_simp
theorem store_pfl {ev:Operand->Value} {o:Oper} {w:World} {x y:Operand} {X i:Nat} {u:Value} {a:Option Addr} (h:o.op=.store 87 x y) (hx:ev x=.pointer (some ⟨X,i,none⟩)) (hy:ev y=.pointer a) (hc:w.cell? ⟨X,i,none⟩=some u) (hf:w.frozen? ⟨X,i,none⟩=false):(execOp ev o).run Tryz.prog w=.ok .skip (w.setCell ⟨X,i,none⟩ (.pointer a)):=by
  simp only [execOp,h,hx,hy]; go_simp
def NyP (n0:Nat) (craft size:Int) (pr sh:Nat->Int) (e:Ending) (w':World):Prop:=(¬ NmOk craft size pr sh/\e=.returned (.tuple #[.pointer none,.int .i64 2]))\/(NmOk craft size pr sh/\∃ M Y,e=.returned (.tuple #[.pointer (some ⟨M,0,none⟩),.int .i64 0])/\MY w' n0 M (Ch.Mx.new size.toNat craft.toNat (fun i=>(pr i).toNat) (fun i=>(sh i).toNat)) Y)
structure LY (w0 w:World) (G J M n:Nat) (craft:Int) (pr sh:Nat->Int) (Y:Nat->Nat) (i:Nat):Prop where
  ml:w0.heap.size<=M
  mt:TyB w M 90
  mc:Cel w M 43 (yR craft n pr sh Y i)
  gt:TyB w G 22
  gc:Cel w G 8 (fun j=>.int .i64 (pr j))
  jt:TyB w J 22
  jc:Cel w J 8 (fun j=>.int .i64 (sh j))
  f:∀ k,k < i->PY w w0.heap.size (Y k) n s0
  yl:∀ k,k < i->w0.heap.size<=Y k
  ne:∀ k l,k < i->l < i->k ≠ l->Y k ≠ Y l
  bl:Below w0.heap.size w0 w
  oc:0 < i->0<=craft/\craft<=255
  ok:∀ k,k < i->(0<=pr k/\pr k<=7)/\(1<=sh k/\sh k<=100)
theorem LY.step {w0 w w1 w2:World} {G J M n:Nat} {craft:Int} {pr sh:Nat->Int} {Y:Nat->Nat} {i r:Nat} (h:LY w0 w G J M n craft pr sh Y i) (p:RFl w1 w.heap.size r n (.slice none 0 0) [] false ⟨#[]⟩) (b:Below w.heap.size w w1)
    (u:But M w1 w2) (c:Cel w2 M 43 (yR craft n pr sh (Ch.upd Y i r) (i + 1))) (t:TyB w2 M 90) (oc:0<=craft/\craft<=255) (o:(0<=pr i/\pr i<=7)/\(1<=sh i/\sh i<=100)):
    LY w0 w2 G J M n craft pr sh (Ch.upd Y i r) (i + 1):=by
  have hs:=h.bl.size
  have T1:=h.mt.below b
  have K:=Kp.of_but (base:=w0.heap.size) u T1 h.ml
  have gM:G ≠ M:=ty_ne h.gt h.mt (by decide)
  have jM:J ≠ M:=ty_ne h.jt h.mt (by decide)
  have lY:∀ k,k < i->Y k < w.heap.size:=fun k hk=>(h.f k hk).ty.lt
  refine ⟨h.ml,t,c,(h.gt.below b).but u gM,(h.gc.below b).but u gM,(h.jt.below b).but u jM,(h.jc.below b).but u jM,fun k hk=>?_,fun k hk=>?_,fun k l hk hl hkl=>?_,But.under (h.bl.trans (b.mono hs)) u h.ml,fun _=>oc,fun k hk=>?_⟩
  · by_cases e:k=i
    · subst e
      rw [Ch.upd_same]
      exact (show PY w1 w0.heap.size r n s0 from ⟨.slice none 0 0,[],⟨Nat.le_trans hs p.rl,p.ty,p.cr,World.ownsRow_nil _ _ _ _⟩,rfl⟩).kp K (by decide) (by decide)
    rw [Ch.upd_ne _ _ e]
    exact ((h.f k (by omega)).below b).kp K (by decide) (by decide)
  · by_cases e:k=i
    · subst e
      rw [Ch.upd_same]
      exact Nat.le_trans hs p.rl
    rw [Ch.upd_ne _ _ e]
    exact h.yl k (by omega)
  · have rl:=p.rl
    by_cases e:k=i
    · subst e
      rw [Ch.upd_same,Ch.upd_ne _ _ (fun q=>hkl q.symm)]
      have:=lY l (by omega)
      omega
    rw [Ch.upd_ne _ _ e]
    by_cases e2:l=i
    · subst e2
      rw [Ch.upd_same]
      have:=lY k (by omega)
      omega
    rw [Ch.upd_ne _ _ e2]
    exact h.ne k l (by omega) (by omega) hkl
  by_cases e:k=i
  · subst e; exact o
  exact h.ok k (by omega)
theorem rnewMux_any (craft size:Int) (pr sh:Nat->Int) (w:World):Calls Tryz.prog 10 #[.int .i64 craft,.int .i64 size,arr8 pr,arr8 sh] w
    fun e w'=>Below w.heap.size w w'/\NyP w.heap.size craft size pr sh e w':=by
  go_enter Tryz.func10,Tryz.ntmps10
  go_wp2_with (first
    | ((with_reducible refine atList ?_); refine wpList_newT rfl (.box 22 (.tmp 2)) rfl (some 6) rfl #[.int .i64 (pr 0),.int .i64 (pr 1),.int .i64 (pr 2),.int .i64 (pr 3),.int .i64 (pr 4),.int .i64 (pr 5),.int .i64 (pr 6),.int .i64 (pr 7)] 22 (fun X=>.pointer (some ⟨X,0,none⟩)) 8 (fun j=>.int .i64 (pr j)) (a8_cells pr) (box_a8 rfl rfl) ?_; intro G w1 HG SG CG BG TG)
    | ((with_reducible refine atList ?_); refine wpList_newT rfl (.box 22 (.tmp 3)) rfl (some 7) rfl #[.int .i64 (sh 0),.int .i64 (sh 1),.int .i64 (sh 2),.int .i64 (sh 3),.int .i64 (sh 4),.int .i64 (sh 5),.int .i64 (sh 6),.int .i64 (sh 7)] 22 (fun X=>.pointer (some ⟨X,0,none⟩)) 8 (fun j=>.int .i64 (sh j)) (a8_cells sh) (box_a8 rfl rfl) ?_; intro J w2 HJ SJ CJ BJ TJ; have CG2:=Lib.hid (CG.out.below BJ.out))
    | ((with_reducible refine atList ?_); refine wpList_load_mid rfl 22 (.tmp 6) rfl G 0 rfl [.int .i64 (pr 0),.int .i64 (pr 1),.int .i64 (pr 2),.int .i64 (pr 3),.int .i64 (pr 4),.int .i64 (pr 5),.int .i64 (pr 6),.int .i64 (pr 7)] _ (show w2.rangeAt G 0 [.int .i64 (pr 0),.int .i64 (pr 1),.int .i64 (pr 2),.int .i64 (pr 3),.int .i64 (pr 4),.int .i64 (pr 5),.int .i64 (pr 6),.int .i64 (pr 7)] from cel8_range CG2.out) Tryz.underlying22 rfl info_a8 ?_)
    | ((with_reducible refine atList ?_); refine wpList_load_mid rfl 22 (.tmp 7) rfl J 0 rfl [.int .i64 (sh 0),.int .i64 (sh 1),.int .i64 (sh 2),.int .i64 (sh 3),.int .i64 (sh 4),.int .i64 (sh 5),.int .i64 (sh 6),.int .i64 (sh 7)] _ (show w2.rangeAt J 0 [.int .i64 (sh 0),.int .i64 (sh 1),.int .i64 (sh 2),.int .i64 (sh 3),.int .i64 (sh 4),.int .i64 (sh 5),.int .i64 (sh 6),.int .i64 (sh 7)] from cel8_range CJ.out) Tryz.underlying22 rfl info_a8 ?_)
    | ((with_reducible refine atList ?_); refine wpList_newT rfl (.box 90 (.tmp 18)) rfl (some 19) rfl #[.int .i64 craft,.int .i64 size,.int .i64 (pr 0),.int .i64 (pr 1),.int .i64 (pr 2),.int .i64 (pr 3),.int .i64 (pr 4),.int .i64 (pr 5),.int .i64 (pr 6),.int .i64 (pr 7),.int .i64 (sh 0),.int .i64 (sh 1),.int .i64 (sh 2),.int .i64 (sh 3),.int .i64 (sh 4),.int .i64 (sh 5),.int .i64 (sh 6),.int .i64 (sh 7),.pointer none,.pointer none,.pointer none,.pointer none,.pointer none,.pointer none,.pointer none,.pointer none,.int .i64 0,.int .i64 0,.int .i64 0,.int .i64 0,.int .i64 0,.int .i64 0,.int .i64 0,.int .i64 0,.int .i64 0,.int .i64 0,.int .i64 0,.int .i64 0,.int .i64 0,.int .i64 0,.int .i64 0,.int .i64 0,.int .i64 0] 90 (fun X=>.pointer (some ⟨X,0,none⟩)) 43 (fun j=>(#[.int .i64 craft,.int .i64 size,.int .i64 (pr 0),.int .i64 (pr 1),.int .i64 (pr 2),.int .i64 (pr 3),.int .i64 (pr 4),.int .i64 (pr 5),.int .i64 (pr 6),.int .i64 (pr 7),.int .i64 (sh 0),.int .i64 (sh 1),.int .i64 (sh 2),.int .i64 (sh 3),.int .i64 (sh 4),.int .i64 (sh 5),.int .i64 (sh 6),.int .i64 (sh 7),.pointer none,.pointer none,.pointer none,.pointer none,.pointer none,.pointer none,.pointer none,.pointer none,.int .i64 0,.int .i64 0,.int .i64 0,.int .i64 0,.int .i64 0,.int .i64 0,.int .i64 0,.int .i64 0,.int .i64 0,.int .i64 0,.int .i64 0,.int .i64 0,.int .i64 0,.int .i64 0,.int .i64 0,.int .i64 0,.int .i64 0]:Array Value).getD j undef) (fun j hj=>by rw [Array.getD_eq_getD_getElem?,Array.getElem?_eq_getElem hj]; rfl) (box_y43 rfl rfl) ?_; intro M w3 HM SM CM BM TM))
  have B3:=Lib.hid (bt (bt BG.out BJ.out) BM.out)
  have CG3:=Lib.hid (CG2.out.below BM.out)
  have CJ3:=Lib.hid (CJ.out.below BM.out)
  have TG3:=Lib.hid ((TG.out.below BJ.out).below BM.out)
  have TJ3:=Lib.hid (TJ.out.below BM.out)
  have ML:=Lib.hid (show w.heap.size<=M by have:=HM.out; have:=(bt BG.out BJ.out).size; omega)
  clear HG SG CG BG TG HJ SJ CJ BJ TJ CG2 HM SM BM
  by_cases c2:32<=size/\size<=200
  · obtain ⟨n,rfl⟩:∃ z:Nat,size=z:=⟨size.toNat,by omega⟩
    have L0:Hid (LY w w3 G J M n craft pr sh (fun _=>0) 0):=Lib.hid ⟨ML.out,TM.out,CM.out.congr (fun j hj=>by
        have:=yR_start craft n pr sh (fun _=>0) j hj
        rw [Array.getD_eq_getD_getElem?,this]
        rfl),TG3.out,CG3.out,TJ3.out,CJ3.out,fun k hk=>absurd hk (Nat.not_lt_zero _),fun k hk=>absurd hk (Nat.not_lt_zero _),fun k l hk=>absurd hk (Nat.not_lt_zero _),B3.out,fun h=>absurd h (Nat.lt_irrefl _),fun k hk=>absurd hk (Nat.not_lt_zero _)⟩
    have NW:=Lib.hid (fun w=>rtnew_any n (by omega) (by omega) w)
    have C2:=Lib.hid c2
    clear c2 CM TM CG3 CJ3 TG3 TJ3 B3 ML
    go_loopw [11] (fun x11 wr=>∃ (i:Nat) (Y:Nat->Nat),i<=8/\x11=.int .i64 i/\LY w wr G J M n craft pr sh Y i) (fun x11 _=>8 - (intOf x11).toNat)
    case atStart=>exact ⟨0,_,Nat.zero_le _,rfl,L0.out⟩
    case round=>
      obtain ⟨i,Y,hi,rfl,hL⟩:=hrel
      have LR:=Lib.hid hL
      clear hL L0
      by_cases hlt:i < 8
      · have i1:(i:Int) < 8:=by omega
        have i0:(0:Int)<=(i:Int):=by omega
        have HLT:=Lib.hid hlt
        clear hlt hi
        go_wp2_with fail
        (refine (NW.out _).mono ?_)
        rintro e w5 ⟨r,rfl,PF,b5⟩
        have HPF:=Lib.hid PF
        have B5:=Lib.hid (show Below w.heap.size wr w5 from b5.mono LR.out.bl.size)
        have B5':=Lib.hid b5
        have cG:w5.cell? ⟨G,i,none⟩=some (.int .i64 (pr i)):=(LR.out.gc.below b5).cell HLT.out
        have cJ:w5.cell? ⟨J,i,none⟩=some (.int .i64 (sh i)):=(LR.out.jc.below b5).cell HLT.out
        clear PF b5
        obtain ⟨p,hp⟩:∃ z,pr i=z:=⟨_,rfl⟩
        obtain ⟨q,hq⟩:∃ z,sh i=z:=⟨_,rfl⟩
        rw [hp] at cG
        rw [hq] at cJ
        have HP:=Lib.hid hp
        have HQ:=Lib.hid hq
        have NB:Hid (¬ ((0<=craft/\craft<=255)/\(0<=p/\p<=7)/\(1<=q/\q<=100))->¬ NmOk craft n pr sh):=Lib.hid (fun g h=>g ⟨h.1,by have:=(h.2.2 i HLT.out).1; rw [hp] at this; exact this,by have:=(h.2.2 i HLT.out).2; rw [hq] at this; exact this⟩)
        clear hp hq
        by_cases a1:craft < 0
        · have BAD:=Lib.hid (NB.out (fun g=>by omega))
          go_wp2_with fail
          go_ret2
          exact ⟨LR.out.bl.trans B5.out,.inl ⟨BAD.out,rfl⟩⟩
        have a1':decide (craft < 0)=false:=decide_eq_false a1
        by_cases a2:255 < craft
        · have BAD:=Lib.hid (NB.out (fun g=>by omega))
          go_wp2_with fail
          go_ret2
          exact ⟨LR.out.bl.trans B5.out,.inl ⟨BAD.out,rfl⟩⟩
        have a2':decide (255 < craft)=false:=decide_eq_false a2
        by_cases a3:p < 0
        · have BAD:=Lib.hid (NB.out (fun g=>by omega))
          go_wp2_with fail
          go_ret2
          exact ⟨LR.out.bl.trans B5.out,.inl ⟨BAD.out,rfl⟩⟩
        have a3':decide (p < 0)=false:=decide_eq_false a3
        by_cases a4:7 < p
        · have BAD:=Lib.hid (NB.out (fun g=>by omega))
          go_wp2_with fail
          go_ret2
          exact ⟨LR.out.bl.trans B5.out,.inl ⟨BAD.out,rfl⟩⟩
        have a4':decide (7 < p)=false:=decide_eq_false a4
        by_cases a5:q < 1
        · have BAD:=Lib.hid (NB.out (fun g=>by omega))
          go_wp2_with fail
          go_ret2
          exact ⟨LR.out.bl.trans B5.out,.inl ⟨BAD.out,rfl⟩⟩
        have a5':decide (q < 1)=false:=decide_eq_false a5
        by_cases a6:100 < q
        · have BAD:=Lib.hid (NB.out (fun g=>by omega))
          go_wp2_with fail
          go_ret2
          exact ⟨LR.out.bl.trans B5.out,.inl ⟨BAD.out,rfl⟩⟩
        have a6':decide (100 < q)=false:=decide_eq_false a6
        have OC:=Lib.hid (show (0<=craft/\craft<=255)/\((0<=pr i/\pr i<=7)/\(1<=sh i/\sh i<=100)) by rw [HP.out,HQ.out]; omega)
        have CM5:=Lib.hid (LR.out.mc.below B5'.out)
        have TM5:=Lib.hid (LR.out.mt.below B5'.out)
        clear NB
        go_wp2_with (((with_reducible refine atList ?_); refine wpList_setT rfl (.store 87 (.tmp 68) (.tmp 65)) rfl M (18 + i) 43 (.pointer (some ⟨r,0,none⟩)) _ _ CM5.out (by have:=HLT.out; omega) (yR_step craft n pr sh Y HLT.out) (store_pfl rfl rfl rfl (CM5.out.cell (by have:=HLT.out; omega)) (CM5.out.frozen (by have:=HLT.out; omega))) ?_; intro w6 C6 U6 S6 V6))
        have L6:=Lib.hid (LR.out.step HPF.out B5'.out U6.out C6.out (V6.out _ TM5.out) OC.out.1 OC.out.2)
        go_roundw
        case rel=>exact ⟨i + 1,_,HLT.out,by have:=HLT.out; go_num,L6.out⟩
        case measure=>have:=HLT.out; simp [intOf]; omega
      obtain rfl:i=8:=by omega
      clear hlt hi
      go_wp2_with fail
      go_ret2
      refine ⟨LR.out.bl,.inr ⟨⟨LR.out.oc (by omega),C2.out,LR.out.ok⟩,M,Y,rfl,?_⟩⟩
      obtain ⟨c,rfl⟩:∃ z:Nat,craft=z:=⟨craft.toNat,by have:=LR.out.oc (by omega); omega⟩
      rw [Int.toNat_natCast,Int.toNat_natCast]
      exact ⟨LR.out.ml,LR.out.mt,LR.out.mc.congr (yR_end c n pr sh Y LR.out.ok),LR.out.f,LR.out.yl,LR.out.ne⟩
  have BAD:=Lib.hid (show ¬ NmOk craft size pr sh from fun h=>c2 h.2.1)
  have NW:=Lib.hid (fun w=>rtnew_no size (by omega) w)
  clear c2 CM TM CG3 CJ3 TG3 TJ3 ML
  go_wp2_with fail
  refine wp_loop_rounds 1 ?_
  rw [rounds_succ]
  go_wp2_with fail
  (refine (NW.out _).mono ?_)
  rintro e w5 ⟨rfl,rfl⟩
  go_wp2_with fail
  go_ret2
  exact ⟨B3.out,.inl ⟨BAD.out,rfl⟩⟩
end Go.Proofs.YtchfkncbemjepaaGreat
