/- ChStC -/
import Derived.OpenShut
import Derived.ChangeKeysEq
import Derived.Laws.StructEq
import Derived.Test.YtchfkncbemjepaaGreatChShown
import Derived.Lib.SmallJoins
import Derived.Carry
import Derived.Test.YtchfkncbemjepaaGreatChNew
set_option linter.unusedVariables false
set_option maxRecDepth 100000
/- Layer 11's laws: an argument that is an array of eight ints; such arrays compared. -/
namespace Go.Proofs.YtchfkncbemjepaaGreat
open Go.ChangeShapes Go.WideShapes Go.ChangeAt Go.RowKit Go.Deep

section
variable {H:Type} {enc:TypeId × Value->H}
theorem cells_a8:Tryz.prog.cellsOf 22=8:=by kernel_rfl
theorem cells_i1:Tryz.prog.cellsOf 3=1:=by kernel_rfl
theorem a8_open {w:World} {n:Nat} {cs:List Value} {y:DataW H × List MemPlace} (h:DataW.trod enc Tryz.prog w 0 (fun _=>true) true n 22 cs=some y):∃ f:Nat->Int,cs=list8 f/\∀ i,i < 8->(Lit.int .i64 (f i)).wf=true:=by
  obtain ⟨xs,m,_,rfl,hl,hlen,hf⟩:=DataW.trod_array Tryz.underlying22 h
  rw [cells_a8] at hl
  have hc1:=cells_i1
  match xs,hlen with
  | [y0,y1,y2,y3,y4,y5,y6,y7],_=>
    match cs,hl with
    | [v0,v1,v2,v3,v4,v5,v6,v7],_=>
      have g0:=hf 0 (by omega)
      rw [hc1] at g0
      simp only [Nat.mul_one,List.drop_zero,List.take_succ_cons,List.take_zero] at g0
      have g1:=hf 1 (by omega)
      rw [hc1] at g1
      simp only [Nat.mul_one,List.drop_zero,List.drop_succ_cons,List.take_succ_cons,List.take_zero] at g1
      have g2:=hf 2 (by omega)
      rw [hc1] at g2
      simp only [Nat.mul_one,List.drop_zero,List.drop_succ_cons,List.take_succ_cons,List.take_zero] at g2
      have g3:=hf 3 (by omega)
      rw [hc1] at g3
      simp only [Nat.mul_one,List.drop_zero,List.drop_succ_cons,List.take_succ_cons,List.take_zero] at g3
      have g4:=hf 4 (by omega)
      rw [hc1] at g4
      simp only [Nat.mul_one,List.drop_zero,List.drop_succ_cons,List.take_succ_cons,List.take_zero] at g4
      have g5:=hf 5 (by omega)
      rw [hc1] at g5
      simp only [Nat.mul_one,List.drop_zero,List.drop_succ_cons,List.take_succ_cons,List.take_zero] at g5
      have g6:=hf 6 (by omega)
      rw [hc1] at g6
      simp only [Nat.mul_one,List.drop_zero,List.drop_succ_cons,List.take_succ_cons,List.take_zero] at g6
      have g7:=hf 7 (by omega)
      rw [hc1] at g7
      simp only [Nat.mul_one,List.drop_zero,List.drop_succ_cons,List.take_succ_cons,List.take_zero] at g7
      obtain ⟨i0,c0,_,w0⟩:=DataW.trod_int Tryz.underlying3 (g0.trans rfl)
      simp only [List.cons.injEq,and_true] at c0
      subst c0
      obtain ⟨i1,c1,_,w1⟩:=DataW.trod_int Tryz.underlying3 (g1.trans rfl)
      simp only [List.cons.injEq,and_true] at c1
      subst c1
      obtain ⟨i2,c2,_,w2⟩:=DataW.trod_int Tryz.underlying3 (g2.trans rfl)
      simp only [List.cons.injEq,and_true] at c2
      subst c2
      obtain ⟨i3,c3,_,w3⟩:=DataW.trod_int Tryz.underlying3 (g3.trans rfl)
      simp only [List.cons.injEq,and_true] at c3
      subst c3
      obtain ⟨i4,c4,_,w4⟩:=DataW.trod_int Tryz.underlying3 (g4.trans rfl)
      simp only [List.cons.injEq,and_true] at c4
      subst c4
      obtain ⟨i5,c5,_,w5⟩:=DataW.trod_int Tryz.underlying3 (g5.trans rfl)
      simp only [List.cons.injEq,and_true] at c5
      subst c5
      obtain ⟨i6,c6,_,w6⟩:=DataW.trod_int Tryz.underlying3 (g6.trans rfl)
      simp only [List.cons.injEq,and_true] at c6
      subst c6
      obtain ⟨i7,c7,_,w7⟩:=DataW.trod_int Tryz.underlying3 (g7.trans rfl)
      simp only [List.cons.injEq,and_true] at c7
      subst c7
      refine ⟨fun j=>match j with | 0=>i0 | 1=>i1 | 2=>i2 | 3=>i3 | 4=>i4 | 5=>i5 | 6=>i6 | _=>i7,rfl,fun i hi=>?_⟩
      match i,hi with
      | 0,_=>exact w0
      | 1,_=>exact w1
      | 2,_=>exact w2
      | 3,_=>exact w3
      | 4,_=>exact w4
      | 5,_=>exact w5
      | 6,_=>exact w6
      | 7,_=>exact w7
theorem a8_stay {t:TypeId} (hr:Tryz.prog.readableRec t=true) (ht:t < Tryz.prog.types.size) {w W':World} {v:Value} {d:DataW H} {p:List MemPlace} (h:DataW.Trod enc Tryz.prog w 0 (fun _=>true) true t v d p) (hb:Below w.heap.size w W') {sp:Nat->Bool} (hs:∀ q ∈ p,sp q.block=true):
    DataW.Trod enc Tryz.prog W' 0 sp true t v d p:=by
  refine WideElems.Trod_stays (by kernel_rfl) hr ht h (fun x hx=>hb.same ?_) hs
  obtain ⟨n,hn⟩:=h
  exact DataW.trod_lt n _ _ _ hn x hx
end
end Go.Proofs.YtchfkncbemjepaaGreat

/- Layer 11's laws: an argument that is a setting, and one that is a list of calls of a mux: opened, and shut again. -/
namespace Go.Proofs.YtchfkncbemjepaaGreat
open Go.ChangeShapes Go.WideShapes Go.ChangeAt Go.RowKit Go.Deep

structure StA where
  c:Int
  n:Int
  pr:Nat->Int
  sh:Nat->Int
def stCells (q:StA):List Value:=.int .i64 q.c :: .int .i64 q.n :: (list8 q.pr ++ list8 q.sh)
def StWf (q:StA):Prop:=(Lit.int .i64 q.c).wf=true/\(Lit.int .i64 q.n).wf=true/\(∀ i,i < 8->(Lit.int .i64 (q.pr i)).wf=true)/\∀ i,i < 8->(Lit.int .i64 (q.sh i)).wf=true
abbrev stVal (q:StA):Value:=.agg #[.int .i64 q.c,.int .i64 q.n,.int .i64 (q.pr 0),.int .i64 (q.pr 1),.int .i64 (q.pr 2),.int .i64 (q.pr 3),.int .i64 (q.pr 4),.int .i64 (q.pr 5),.int .i64 (q.pr 6),.int .i64 (q.pr 7),.int .i64 (q.sh 0),.int .i64 (q.sh 1),.int .i64 (q.sh 2),.int .i64 (q.sh 3),.int .i64 (q.sh 4),.int .i64 (q.sh 5),.int .i64 (q.sh 6),.int .i64 (q.sh 7)]
structure OpB where
  k:Int
  c:Int
  p:ByteArray
  wd:Nat
instance opbInh:Inhabited OpB:=⟨⟨0,0,⟨#[]⟩,0⟩⟩
section
variable {H:Type} {enc:TypeId × Value->H}
theorem under_st:∃ f0 f1 f2 f3:Field,Tryz.prog.underlying 24=some (.struct #[f0,f1,f2,f3])/\(f0.type=3/\f0.offset=0)/\(f1.type=3/\f1.offset=1)/\(f2.type=22/\f2.offset=2)/\f3.type=22/\f3.offset=10:=
  ⟨_,_,_,_,Tryz.underlying24,⟨rfl,rfl⟩,⟨rfl,rfl⟩,⟨rfl,rfl⟩,rfl,rfl⟩
theorem cells_st:Tryz.prog.cellsOf 24=18:=by kernel_rfl
theorem st_cells {w:World} {n:Nat} {cs:List Value} {y:DataW H × List MemPlace} (h:DataW.trod enc Tryz.prog w 0 (fun _=>true) true n 24 cs=some y):∃ q:StA,cs=stCells q/\StWf q:=by
  obtain ⟨f0,f1,f2,f3,uS,⟨e0,o0⟩,⟨e1,o1⟩,⟨e2,o2⟩,e3,o3⟩:=under_st
  obtain ⟨xs,m,_,rfl,hl,hlen,hf⟩:=DataW.trod_struct uS h
  rw [cells_st] at hl
  match xs,hlen with
  | [y0,y1,y2,y3],_=>
    have h0:=hf 0 f0 rfl
    have h1:=hf 1 f1 rfl
    have h2:=hf 2 f2 rfl
    have h3:=hf 3 f3 rfl
    rw [o0,e0,cells_i1] at h0
    rw [o1,e1,cells_i1] at h1
    rw [o2,e2,cells_a8] at h2
    rw [o3,e3,cells_a8] at h3
    match cs,hl with
    | [v0,v1,v2,v3,v4,v5,v6,v7,v8,v9,v10,v11,v12,v13,v14,v15,v16,v17],_=>
      simp only [List.drop_zero,List.drop_succ_cons,List.take_succ_cons,List.take_zero] at h0 h1 h2 h3
      obtain ⟨i0,c0,_,g0⟩:=DataW.trod_int Tryz.underlying3 h0
      obtain ⟨i1,c1,_,g1⟩:=DataW.trod_int Tryz.underlying3 h1
      obtain ⟨pr,c2,g2⟩:=a8_open h2
      obtain ⟨sh,c3,g3⟩:=a8_open h3
      simp only [List.cons.injEq,and_true] at c0 c1
      subst c0 c1
      refine ⟨⟨i0,i1,pr,sh⟩,?_,g0,g1,g2,g3⟩
      unfold stCells
      rw [show list8 (StA.mk i0 i1 pr sh).pr=_ from c2.symm,show list8 (StA.mk i0 i1 pr sh).sh=_ from c3.symm]
      rfl
theorem st_arg {r:Reach} {b0:Nat} {w:World} {v:Value} {d:DataW H} {p:List MemPlace} (hv:Value.okWide Tryz.prog w r b0 24 v) (hd:DataW.Trod enc Tryz.prog w 0 (fun _=>true) true 24 v d p):
    ∃ q:StA,v=stVal q/\StWf q/\∀ W',Below w.heap.size w W'->∀ sp:Nat->Bool,(∀ x ∈ p,sp x.block=true)->DataW.Trod enc Tryz.prog W' 0 sp true 24 v d p:=by
  have ST:=fun W' (hb:Below w.heap.size w W') (sp:Nat->Bool) (hs:∀ q ∈ p,sp q.block=true)=>a8_stay (t:=24) (by kernel_rfl) (of_decide_eq_true (by kernel_rfl)) hd hb (sp:=sp) hs
  obtain ⟨f0,f1,f2,f3,uS,_⟩:=under_st
  obtain ⟨cs,rfl,hsz⟩:=okWide_struct uS hv
  obtain ⟨fuel,hf⟩:=hd
  obtain ⟨q,hq,hw⟩:=st_cells hf
  refine ⟨q,?_,hw,ST⟩
  have e:cs.toList=stCells q:=hq
  have:cs=(stCells q).toArray:=by rw [<-e,Array.toArray_toList]
  rw [this]
  rfl
end
end Go.Proofs.YtchfkncbemjepaaGreat

/- Layer 11's laws: a setting as eighteen cells. -/
namespace Go.Proofs.YtchfkncbemjepaaGreat
open Go.RowKit

def stC (q:StA) (j:Nat):Value:=if j < 1 then .int .i64 q.c else if j < 2 then .int .i64 q.n else if j < 10 then .int .i64 (q.pr (j - 2)) else .int .i64 (q.sh (j - 10))
theorem st_cells' (q:StA):∀ j,j < 18->(#[.int .i64 q.c,.int .i64 q.n,.int .i64 (q.pr 0),.int .i64 (q.pr 1),.int .i64 (q.pr 2),.int .i64 (q.pr 3),.int .i64 (q.pr 4),.int .i64 (q.pr 5),.int .i64 (q.pr 6),.int .i64 (q.pr 7),.int .i64 (q.sh 0),.int .i64 (q.sh 1),.int .i64 (q.sh 2),.int .i64 (q.sh 3),.int .i64 (q.sh 4),.int .i64 (q.sh 5),.int .i64 (q.sh 6),.int .i64 (q.sh 7)]:Array Value)[j]?=some (stC q j):=fun j hj=>by
  match j,hj with
  | 0,_=>rfl
  | 1,_=>rfl
  | 2,_=>rfl
  | 3,_=>rfl
  | 4,_=>rfl
  | 5,_=>rfl
  | 6,_=>rfl
  | 7,_=>rfl
  | 8,_=>rfl
  | 9,_=>rfl
  | 10,_=>rfl
  | 11,_=>rfl
  | 12,_=>rfl
  | 13,_=>rfl
  | 14,_=>rfl
  | 15,_=>rfl
  | 16,_=>rfl
  | 17,_=>rfl
  | j + 18,h=>exact absurd h (by omega)
theorem box_st {ev:Operand->Value} {o:Oper} {w:World} {x:Operand} {q:StA} (h:o.op=.box 24 x) (hx:ev x=.agg #[.int .i64 q.c,.int .i64 q.n,.int .i64 (q.pr 0),.int .i64 (q.pr 1),.int .i64 (q.pr 2),.int .i64 (q.pr 3),.int .i64 (q.pr 4),.int .i64 (q.pr 5),.int .i64 (q.pr 6),.int .i64 (q.pr 7),.int .i64 (q.sh 0),.int .i64 (q.sh 1),.int .i64 (q.sh 2),.int .i64 (q.sh 3),.int .i64 (q.sh 4),.int .i64 (q.sh 5),.int .i64 (q.sh 6),.int .i64 (q.sh 7)]):(execOp ev o).run Tryz.prog w=.ok (.value (.pointer (some ⟨w.heap.size,0,none⟩))) (w.alloc (.cells #[.int .i64 q.c,.int .i64 q.n,.int .i64 (q.pr 0),.int .i64 (q.pr 1),.int .i64 (q.pr 2),.int .i64 (q.pr 3),.int .i64 (q.pr 4),.int .i64 (q.pr 5),.int .i64 (q.pr 6),.int .i64 (q.pr 7),.int .i64 (q.sh 0),.int .i64 (q.sh 1),.int .i64 (q.sh 2),.int .i64 (q.sh 3),.int .i64 (q.sh 4),.int .i64 (q.sh 5),.int .i64 (q.sh 6),.int .i64 (q.sh 7)] 24)):=by
  simp only [execOp,h,hx]; go_simp
theorem st_range {w:World} {Z:Nat} {q:StA} (h:Cel w Z 18 (stC q)):w.rangeAt Z 2 (list8 q.pr)/\w.rangeAt Z 10 (list8 q.sh):=by
  constructor
  · refine h.range 2 (list8 q.pr) (fun j v hv=>?_)
    have hj:j < 8:=(List.getElem?_eq_some_iff.1 hv).1
    rw [list8_at q.pr j hj] at hv
    refine ⟨by omega,?_⟩
    unfold stC
    rw [if_neg (by omega),if_neg (by omega),if_pos (by omega),Nat.add_sub_cancel_left]
    exact Option.some.inj hv
  refine h.range 10 (list8 q.sh) (fun j v hv=>?_)
  have hj:j < 8:=(List.getElem?_eq_some_iff.1 hv).1
  rw [list8_at q.sh j hj] at hv
  refine ⟨by omega,?_⟩
  unfold stC
  rw [if_neg (by omega),if_neg (by omega),if_neg (by omega),Nat.add_sub_cancel_left]
  exact Option.some.inj hv
end Go.Proofs.YtchfkncbemjepaaGreat
