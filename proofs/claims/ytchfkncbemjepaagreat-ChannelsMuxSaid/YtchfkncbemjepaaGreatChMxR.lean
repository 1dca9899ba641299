/- ChMxR -/
import Derived.Test.YtchfkncbemjepaaGreatRcNew
import Derived.Test.YtchfkncbemjepaaGreatChShown
import Derived.Test.YtchfkncbemjepaaGreatChClear
import Derived.OpenShut
import Derived.ChangeKeysEq
import Derived.Laws.StructEq
import Derived.Lib.SmallJoins
import Derived.Carry
set_option linter.unusedVariables false
set_option maxRecDepth 100000
set_option maxHeartbeats 2000000
/- Layer 11's laws: the landed mux and the reference's side by side. -/
namespace Go.Proofs.YtchfkncbemjepaaGreat
open Go.RowKit

theorem MY.ko {w w':World} {n0 M:Nat} {x:Ch.Mx} {Y:Nat->Nat} (h:MY w n0 M x Y) (k:∀ Z t,TyB w Z t->t ∉ MTs->w'.heap[Z]?=w.heap[Z]?):MY w' n0 M x Y:=
  ⟨h.xl,h.ty.of_block (k _ _ h.ty (by decide)),h.c.of_block (k _ _ h.ty (by decide)),fun i hi=>by
    obtain ⟨sv,L,r,e⟩:=h.f i hi
    exact ⟨sv,L,r.keep (k _ _ r.ty (by decide)) (fun g hg=>k g _ (own_ty r.row hg).2 (by decide)),e⟩,h.yl,h.ne⟩
theorem PM.kpR {w w':World} {n0 M n1:Nat} {x:Ch.Mx} {X:Nat->Nat} {va vb:Nat->Value} (h:PM w n0 M x X va vb) (k:Kp n1 RTs false w w'):PM w' n0 M x X va vb:=
  h.keep (fun g hg=>by
    obtain ⟨t,ht,T⟩:=h.tyS hg
    exact T.keep k (fun q=>by
      have:∀ s ∈ MTs,s ∉ RTs:=by decide
      exact this t ht q))
def KW (w w':World):Prop:=w.heap.size<=w'.heap.size/\∀ Z t,TyB w Z t->t ∉ MTs->t ∉ RTs->w'.heap[Z]?=w.heap[Z]?
theorem KW.of_below {w w':World} (h:Below w.heap.size w w'):KW w w':=⟨h.size,fun Z t T _ _=>h.block Z T.lt⟩
theorem KW.of_kf {w w':World} {n0 M:Nat} {x:Ch.Mx} {X:Nat->Nat} {va vb:Nat->Value} {S':Nat->Prop} (p:PM w n0 M x X va vb) (k:KF n0 (SM M X va vb) S' w w'):KW w w':=⟨k.below.size,fun Z t T h1 _=>p.kfO T h1 k⟩
theorem KW.of_kp {w w':World} {n1:Nat} (k:Kp n1 RTs false w w'):KW w w':=⟨k.below.size,fun Z t T _ h2=>T.keep k h2⟩
structure MM (B:Nat) (w0 wr:World) (n5 n6 M D:Nat) (X Y:Nat->Nat) (x y:Ch.Mx):Prop where
  pm:∃ va vb,PM wr n5 M x X va vb
  my:MY wr n6 D y Y
  ox:x.Ok
  oy:y.Ok
  b:Below B w0 wr
  s5:n5<=wr.heap.size
  s6:n6<=wr.heap.size
  h5:B<=n5
  h6:B<=n6
def adV (x:Ch.Mx) (c:Int) (p:ByteArray):Int:=if 0<=c/\c < 8 then acV (x.fl c.toNat) p else 2
def adS (x:Ch.Mx) (c:Int) (p:ByteArray):Ch.Mx:=if 0<=c/\c < 8 then x.add c.toNat p else x
def wtV (x:Ch.Mx) (c:Int):Nat:=if 0<=c/\c < 8 then x.wt c.toNat else 0
namespace MM
variable {B n5 n6 M D:Nat} {w0 wr w':World} {X Y:Nat->Nat} {x y:Ch.Mx}
theorem below (h:MM B w0 wr n5 n6 M D X Y x y) (hb:Below wr.heap.size wr w'):MM B w0 w' n5 n6 M D X Y x y:=by
  obtain ⟨⟨va,vb,p⟩,q,okx,oky,b,s5,s6,h5,h6⟩:=h
  exact ⟨⟨va,vb,p.below hb⟩,q.below hb,okx,oky,b.trans (hb.mono (Nat.le_trans h5 s5)),Nat.le_trans s5 hb.size,Nat.le_trans s6 hb.size,h5,h6⟩
theorem kx (q:MY wr n6 D y Y) {va vb:Nat->Value} {S':Nat->Prop} (p:PM wr n5 M x X va vb) (k:KF n5 (SM M X va vb) S' wr w'):MY w' n6 D y Y:=q.ko (fun Z t T ht=>p.kfO T ht k)
theorem xadd (h:MM B w0 wr n5 n6 M D X Y x y) (c:Int) (s:ByteArray) (hs:s.size<=2000):
    Calls Tryz.prog 12 #[.pointer (some ⟨M,0,none⟩),.int .i64 c,.string s] wr fun e w'=>e=.returned (.int .i64 (adV x c s))/\MM B w0 w' n5 n6 M D X Y (adS x c s) y/\KW wr w':=by
  obtain ⟨⟨va,vb,p⟩,q,okx,oky,b,s5,s6,h5,h6⟩:=h
  by_cases hc:0<=c/\c < 8
  · unfold adV adS
    rw [if_pos hc,if_pos hc]
    obtain ⟨k,rfl⟩:∃ k:Nat,c=k:=⟨c.toNat,by omega⟩
    rw [Int.toNat_natCast]
    refine (mAdd_any p okx s5 k (by omega) s hs).mono ?_
    rintro e w1 ⟨rfl,va1,vb1,p1,k1⟩
    exact ⟨rfl,⟨⟨va1,vb1,p1⟩,kx q p k1,okx.add k (by omega) _,oky,b.trans (k1.below.mono h5),Nat.le_trans s5 k1.below.size,Nat.le_trans s6 k1.below.size,h5,h6⟩,KW.of_kf p k1⟩
  unfold adV adS
  rw [if_neg hc,if_neg hc]
  refine (mAdd_no p c hc s).mono ?_
  rintro e w1 ⟨rfl,rfl⟩
  exact ⟨rfl,⟨⟨va,vb,p⟩,q,okx,oky,b,s5,s6,h5,h6⟩,KW.of_below (Below.refl _ _)⟩
theorem yadd (h:MM B w0 wr n5 n6 M D X Y x y) (c:Int) (s:ByteArray) (hs:s.size<=2000):
    Calls Tryz.prog 13 #[.pointer (some ⟨D,0,none⟩),.int .i64 c,.string s] wr fun e w'=>e=.returned (.int .i64 (adV y c s))/\MM B w0 w' n5 n6 M D X Y x (adS y c s)/\KW wr w':=by
  obtain ⟨⟨va,vb,p⟩,q,okx,oky,b,s5,s6,h5,h6⟩:=h
  by_cases hc:0<=c/\c < 8
  · unfold adV adS
    rw [if_pos hc,if_pos hc]
    obtain ⟨k,rfl⟩:∃ k:Nat,c=k:=⟨c.toNat,by omega⟩
    rw [Int.toNat_natCast]
    refine (rmAdd_any q oky s6 k (by omega) s hs).mono ?_
    rintro e w1 ⟨rfl,q1,k1⟩
    exact ⟨rfl,⟨⟨va,vb,p.kpR k1⟩,q1,okx,oky.add k (by omega) _,b.trans (k1.below.mono h6),Nat.le_trans s5 k1.below.size,Nat.le_trans s6 k1.below.size,h5,h6⟩,KW.of_kp k1⟩
  unfold adV adS
  rw [if_neg hc,if_neg hc]
  refine (rmAdd_no c hc s).mono ?_
  rintro e w1 ⟨rfl,rfl⟩
  exact ⟨rfl,⟨⟨va,vb,p⟩,q,okx,oky,b,s5,s6,h5,h6⟩,KW.of_below (Below.refl _ _)⟩
theorem xwait (h:MM B w0 wr n5 n6 M D X Y x y) (c:Int):
    Calls Tryz.prog 18 #[.pointer (some ⟨M,0,none⟩),.int .i64 c] wr fun e w'=>e=.returned (.int .i64 (wtV x c:Nat))/\MM B w0 w' n5 n6 M D X Y x y/\KW wr w':=by
  obtain ⟨⟨va,vb,p⟩,q,okx,oky,b,s5,s6,h5,h6⟩:=h
  by_cases hc:0<=c/\c < 8
  · unfold wtV
    rw [if_pos hc]
    obtain ⟨k,rfl⟩:∃ k:Nat,c=k:=⟨c.toNat,by omega⟩
    rw [Int.toNat_natCast]
    refine (mWaiting_any p okx k (by omega)).mono ?_
    rintro e w1 ⟨rfl,m,rfl⟩
    have hb:=below_drewN (Below.refl wr.heap.size wr) m
    exact ⟨rfl,below ⟨⟨va,vb,p⟩,q,okx,oky,b,s5,s6,h5,h6⟩ hb,KW.of_below hb⟩
  unfold wtV
  rw [if_neg hc]
  refine (mWaiting_no p c hc).mono ?_
  rintro e w1 ⟨rfl,rfl⟩
  exact ⟨rfl,⟨⟨va,vb,p⟩,q,okx,oky,b,s5,s6,h5,h6⟩,KW.of_below (Below.refl _ _)⟩
theorem ywait (h:MM B w0 wr n5 n6 M D X Y x y) (c:Int):
    Calls Tryz.prog 19 #[.pointer (some ⟨D,0,none⟩),.int .i64 c] wr fun e w'=>e=.returned (.int .i64 (wtV y c:Nat))/\MM B w0 w' n5 n6 M D X Y x y/\KW wr w':=by
  obtain ⟨⟨va,vb,p⟩,q,okx,oky,b,s5,s6,h5,h6⟩:=h
  by_cases hc:0<=c/\c < 8
  · unfold wtV
    rw [if_pos hc]
    obtain ⟨k,rfl⟩:∃ k:Nat,c=k:=⟨c.toNat,by omega⟩
    rw [Int.toNat_natCast]
    refine (rmWait_any q oky k (by omega)).mono ?_
    rintro e w1 ⟨rfl,rfl⟩
    exact ⟨rfl,⟨⟨va,vb,p⟩,q,okx,oky,b,s5,s6,h5,h6⟩,KW.of_below (Below.refl _ _)⟩
  unfold wtV
  rw [if_neg hc]
  refine (rmWait_no c hc).mono ?_
  rintro e w1 ⟨rfl,rfl⟩
  exact ⟨rfl,⟨⟨va,vb,p⟩,q,okx,oky,b,s5,s6,h5,h6⟩,KW.of_below (Below.refl _ _)⟩
theorem xnext (h:MM B w0 wr n5 n6 M D X Y x y) (word:Nat) (hw:word < 4294967296):
    Calls Tryz.prog 16 #[.pointer (some ⟨M,0,none⟩),.int .u32 (word:Nat)] wr fun e w'=>e=.returned (.tuple #[.string (bs (Tm.enc (x.frm word))),.int .i64 0])/\MM B w0 w' n5 n6 M D X Y x.nxt y/\KW wr w':=by
  obtain ⟨⟨va,vb,p⟩,q,okx,oky,b,s5,s6,h5,h6⟩:=h
  refine (mNext_any p okx s5 word hw).mono ?_
  rintro e w1 ⟨rfl,va1,vb1,p1,k1⟩
  exact ⟨rfl,⟨⟨va1,vb1,p1⟩,kx q p k1,okx.nxt,oky,b.trans (k1.below.mono h5),Nat.le_trans s5 k1.below.size,Nat.le_trans s6 k1.below.size,h5,h6⟩,KW.of_kf p k1⟩
theorem ynext (h:MM B w0 wr n5 n6 M D X Y x y) (word:Nat) (hw:word < 4294967296):
    Calls Tryz.prog 17 #[.pointer (some ⟨D,0,none⟩),.int .u32 (word:Nat)] wr fun e w'=>e=.returned (.tuple #[.string (bs (Tm.enc (y.frm word))),.int .i64 0])/\MM B w0 w' n5 n6 M D X Y x y.nxt/\KW wr w':=by
  obtain ⟨⟨va,vb,p⟩,q,okx,oky,b,s5,s6,h5,h6⟩:=h
  refine (rmNext_any q oky s6 word hw).mono ?_
  rintro e w1 ⟨rfl,q1,k1⟩
  exact ⟨rfl,⟨⟨va,vb,p.kpR k1⟩,q1,okx,oky.nxt,b.trans (k1.below.mono h6),Nat.le_trans s5 k1.below.size,Nat.le_trans s6 k1.below.size,h5,h6⟩,KW.of_kp k1⟩
theorem xclear (h:MM B w0 wr n5 n6 M D X Y x y):
    Calls Tryz.prog 14 #[.pointer (some ⟨M,0,none⟩)] wr fun e w'=>(∃ v,e=.returned v)/\MM B w0 w' n5 n6 M D X Y x.clr y/\KW wr w':=by
  obtain ⟨⟨va,vb,p⟩,q,okx,oky,b,s5,s6,h5,h6⟩:=h
  refine (mClear_any p s5).mono ?_
  rintro e w1 ⟨e1,va1,vb1,p1,k1⟩
  exact ⟨e1,⟨⟨va1,vb1,p1⟩,kx q p k1,okx.clr,oky,b.trans (k1.below.mono h5),Nat.le_trans s5 k1.below.size,Nat.le_trans s6 k1.below.size,h5,h6⟩,KW.of_kf p k1⟩
theorem yclear (h:MM B w0 wr n5 n6 M D X Y x y):
    Calls Tryz.prog 15 #[.pointer (some ⟨D,0,none⟩)] wr fun e w'=>(∃ v,e=.returned v)/\MM B w0 w' n5 n6 M D X Y x y.clr/\KW wr w':=by
  obtain ⟨⟨va,vb,p⟩,q,okx,oky,b,s5,s6,h5,h6⟩:=h
  refine (rmClear_any q).mono ?_
  rintro e w1 ⟨e1,q1,k1⟩
  exact ⟨e1,⟨⟨va,vb,p.kpR k1⟩,q1,okx,oky.clr,b.trans (k1.below.mono h6),Nat.le_trans s5 k1.below.size,Nat.le_trans s6 k1.below.size,h5,h6⟩,KW.of_kp k1⟩
end MM
end Go.Proofs.YtchfkncbemjepaaGreat

/- Layer 11's laws: an argument that is an array of eight ints; such arrays compared. -/
namespace Go.Proofs.YtchfkncbemjepaaGreat
open Go.ChangeShapes Go.WideShapes Go.ChangeAt Go.RowKit Go.Deep

section
variable {H:Type} {enc:TypeId × Value->H}
theorem cells_a8:Tryz.prog.cellsOf 22=8:=by kernel_rfl
theorem cells_i1:Tryz.prog.cellsOf 3=1:=by kernel_rfl
theorem a8_open {w:World} {n:Nat} {cs:List Value} {y:DataW H × List MemPlace} (h:DataW.trod enc Tryz.prog w 0 (fun _=>true) true n 22 cs=some y):∃ f:Nat->Int,cs=list8 f/\∀ i,i < 8->(Lit.int .i64 (f i)).wf=true:=by
  obtain ⟨xs,m,_,rfl,hl,hlen,hf⟩:=DataW.trod_array Tryz.underlying22 h
  rw [cells_a8] at hl
  have hc1:=cells_i1
  match xs,hlen with
  | [y0,y1,y2,y3,y4,y5,y6,y7],_=>
    match cs,hl with
    | [v0,v1,v2,v3,v4,v5,v6,v7],_=>
      have g0:=hf 0 (by omega)
      rw [hc1] at g0
      simp only [Nat.mul_one,List.drop_zero,List.take_succ_cons,List.take_zero] at g0
      have g1:=hf 1 (by omega)
      rw [hc1] at g1
      simp only [Nat.mul_one,List.drop_zero,List.drop_succ_cons,List.take_succ_cons,List.take_zero] at g1
      have g2:=hf 2 (by omega)
      rw [hc1] at g2
      simp only [Nat.mul_one,List.drop_zero,List.drop_succ_cons,List.take_succ_cons,List.take_zero] at g2
      have g3:=hf 3 (by omega)
      rw [hc1] at g3
      simp only [Nat.mul_one,List.drop_zero,List.drop_succ_cons,List.take_succ_cons,List.take_zero] at g3
      have g4:=hf 4 (by omega)
      rw [hc1] at g4
      simp only [Nat.mul_one,List.drop_zero,List.drop_succ_cons,List.take_succ_cons,List.take_zero] at g4
      have g5:=hf 5 (by omega)
      rw [hc1] at g5
      simp only [Nat.mul_one,List.drop_zero,List.drop_succ_cons,List.take_succ_cons,List.take_zero] at g5
      have g6:=hf 6 (by omega)
      rw [hc1] at g6
      simp only [Nat.mul_one,List.drop_zero,List.drop_succ_cons,List.take_succ_cons,List.take_zero] at g6
      have g7:=hf 7 (by omega)
      rw [hc1] at g7
      simp only [Nat.mul_one,List.drop_zero,List.drop_succ_cons,List.take_succ_cons,List.take_zero] at g7
      obtain ⟨i0,c0,_,w0⟩:=DataW.trod_int Tryz.underlying3 (g0.trans rfl)
      simp only [List.cons.injEq,and_true] at c0
      subst c0
      obtain ⟨i1,c1,_,w1⟩:=DataW.trod_int Tryz.underlying3 (g1.trans rfl)
      simp only [List.cons.injEq,and_true] at c1
      subst c1
      obtain ⟨i2,c2,_,w2⟩:=DataW.trod_int Tryz.underlying3 (g2.trans rfl)
      simp only [List.cons.injEq,and_true] at c2
      subst c2
      obtain ⟨i3,c3,_,w3⟩:=DataW.trod_int Tryz.underlying3 (g3.trans rfl)
      simp only [List.cons.injEq,and_true] at c3
      subst c3
      obtain ⟨i4,c4,_,w4⟩:=DataW.trod_int Tryz.underlying3 (g4.trans rfl)
      simp only [List.cons.injEq,and_true] at c4
      subst c4
      obtain ⟨i5,c5,_,w5⟩:=DataW.trod_int Tryz.underlying3 (g5.trans rfl)
      simp only [List.cons.injEq,and_true] at c5
      subst c5
      obtain ⟨i6,c6,_,w6⟩:=DataW.trod_int Tryz.underlying3 (g6.trans rfl)
      simp only [List.cons.injEq,and_true] at c6
      subst c6
      obtain ⟨i7,c7,_,w7⟩:=DataW.trod_int Tryz.underlying3 (g7.trans rfl)
      simp only [List.cons.injEq,and_true] at c7
      subst c7
      refine ⟨fun j=>match j with | 0=>i0 | 1=>i1 | 2=>i2 | 3=>i3 | 4=>i4 | 5=>i5 | 6=>i6 | _=>i7,rfl,fun i hi=>?_⟩
      match i,hi with
      | 0,_=>exact w0
      | 1,_=>exact w1
      | 2,_=>exact w2
      | 3,_=>exact w3
      | 4,_=>exact w4
      | 5,_=>exact w5
      | 6,_=>exact w6
      | 7,_=>exact w7
theorem a8_stay {t:TypeId} (hr:Tryz.prog.readableRec t=true) (ht:t < Tryz.prog.types.size) {w W':World} {v:Value} {d:DataW H} {p:List MemPlace} (h:DataW.Trod enc Tryz.prog w 0 (fun _=>true) true t v d p) (hb:Below w.heap.size w W') {sp:Nat->Bool} (hs:∀ q ∈ p,sp q.block=true):
    DataW.Trod enc Tryz.prog W' 0 sp true t v d p:=by
  refine WideElems.Trod_stays (by kernel_rfl) hr ht h (fun x hx=>hb.same ?_) hs
  obtain ⟨n,hn⟩:=h
  exact DataW.trod_lt n _ _ _ hn x hx
end
end Go.Proofs.YtchfkncbemjepaaGreat

/- Layer 11's laws: an argument that is a setting, and one that is a list of calls of a mux: opened, and shut again. -/
namespace Go.Proofs.YtchfkncbemjepaaGreat
open Go.ChangeShapes Go.WideShapes Go.ChangeAt Go.RowKit Go.Deep

structure StA where
  c:Int
  n:Int
  pr:Nat->Int
  sh:Nat->Int
def stCells (q:StA):List Value:=.int .i64 q.c :: .int .i64 q.n :: (list8 q.pr ++ list8 q.sh)
def StWf (q:StA):Prop:=(Lit.int .i64 q.c).wf=true/\(Lit.int .i64 q.n).wf=true/\(∀ i,i < 8->(Lit.int .i64 (q.pr i)).wf=true)/\∀ i,i < 8->(Lit.int .i64 (q.sh i)).wf=true
abbrev stVal (q:StA):Value:=.agg #[.int .i64 q.c,.int .i64 q.n,.int .i64 (q.pr 0),.int .i64 (q.pr 1),.int .i64 (q.pr 2),.int .i64 (q.pr 3),.int .i64 (q.pr 4),.int .i64 (q.pr 5),.int .i64 (q.pr 6),.int .i64 (q.pr 7),.int .i64 (q.sh 0),.int .i64 (q.sh 1),.int .i64 (q.sh 2),.int .i64 (q.sh 3),.int .i64 (q.sh 4),.int .i64 (q.sh 5),.int .i64 (q.sh 6),.int .i64 (q.sh 7)]
structure OpB where
  k:Int
  c:Int
  p:ByteArray
  wd:Nat
instance opbInh:Inhabited OpB:=⟨⟨0,0,⟨#[]⟩,0⟩⟩
def obCells (q:OpB):List Value:=[.int .i64 q.k,.int .i64 q.c,.string q.p,.int .u32 (q.wd:Nat)]
def obCel (q:OpB):Nat->Value
  | 0=>.int .i64 q.k
  | 1=>.int .i64 q.c
  | 2=>.string q.p
  | _=>.int .u32 (q.wd:Nat)
def ObWf (q:OpB):Prop:=(Lit.int .i64 q.k).wf=true/\(Lit.int .i64 q.c).wf=true/\q.p.size<=maxLen/\q.wd < 4294967296
def Obs (w:World) (a:Option Addr) (l:List OpB):Prop:=l=[]\/∃ B off,a=some ⟨B,off,none⟩/\B < w.heap.size/\∀ i q,l[i]?=some q->(∀ j u,(obCells q)[j]?=some u->w.cell? ⟨B,off + i * 4 + j,none⟩=some u)/\ObWf q
theorem Obs.below {w w':World} {a:Option Addr} {l:List OpB} (h:Obs w a l) (hb:Below w.heap.size w w'):Obs w' a l:=by
  rcases h with h | ⟨B,off,e,hl,hc⟩
  · exact .inl h
  exact .inr ⟨B,off,e,Nat.lt_of_lt_of_le hl hb.size,fun i x hx=>⟨fun j u hu=>(hb.cell (p:=⟨B,off + i * 4 + j,none⟩) hl).trans ((hc i x hx).1 j u hu),(hc i x hx).2⟩⟩
section
variable {H:Type} {enc:TypeId × Value->H}
theorem under_ob:∃ f0 f1 f2 f3:Field,Tryz.prog.underlying 36=some (.struct #[f0,f1,f2,f3])/\oneCellFields Tryz.prog #[f0,f1,f2,f3]=true/\f0.type=3/\f1.type=3/\f2.type=9/\f3.type=34:=
  ⟨_,_,_,_,Tryz.underlying36,by kernel_rfl,rfl,rfl,rfl,rfl⟩
theorem cells_ob:Tryz.prog.cellsOf 36=4:=by kernel_rfl
theorem ob_cells {w:World} {n:Nat} {cs:List Value} {y:DataW H × List MemPlace} (h:DataW.trod enc Tryz.prog w 0 (fun _=>true) true n 36 cs=some y):∃ q:OpB,cs=obCells q/\ObWf q:=by
  obtain ⟨f0,f1,f2,f3,uS,uO,e0,e1,e2,e3⟩:=under_ob
  obtain ⟨o0,k0⟩:=hone_of uO 0 f0 rfl
  obtain ⟨o1,k1⟩:=hone_of uO 1 f1 rfl
  obtain ⟨o2,k2⟩:=hone_of uO 2 f2 rfl
  obtain ⟨o3,k3⟩:=hone_of uO 3 f3 rfl
  obtain ⟨xs,m,_,rfl,hl,hlen,hf⟩:=DataW.trod_struct uS h
  rw [cells_ob] at hl
  match xs,hlen with
  | [y0,y1,y2,y3],_=>
    have h0:=hf 0 f0 rfl
    have h1:=hf 1 f1 rfl
    have h2:=hf 2 f2 rfl
    have h3:=hf 3 f3 rfl
    match cs,hl with
    | [v0,v1,v2,v3],_=>
      rw [o0,k0,e0] at h0
      rw [o1,k1,e1] at h1
      rw [o2,k2,e2] at h2
      rw [o3,k3,e3] at h3
      simp only [List.drop_zero,List.drop_succ_cons,List.take_succ_cons,List.take_zero] at h0 h1 h2 h3
      obtain ⟨i0,c0,_,g0⟩:=DataW.trod_int Tryz.underlying3 h0
      obtain ⟨i1,c1,_,g1⟩:=DataW.trod_int Tryz.underlying3 h1
      obtain ⟨s,c2,_,g2⟩:=DataW.trod_string Tryz.underlying9 h2
      obtain ⟨i3,c3,_,g3⟩:=DataW.trod_int Tryz.underlying34 h3
      simp only [List.cons.injEq,and_true] at c0 c1 c2 c3
      subst c0 c1 c2 c3
      have b3:0<=i3/\i3 < 4294967296:=by
        simp only [Lit.wf,IntKind.min,IntKind.max,IntKind.signed,IntKind.bits,Bool.and_eq_true] at g3
        simp at g3
        omega
      obtain ⟨n3,rfl⟩:=Int.eq_ofNat_of_zero_le b3.1
      exact ⟨⟨i0,i1,s,n3⟩,rfl,g0,g1,g2,by show n3 < _; omega⟩
theorem obs_arg {w:World} {v:Value} {d:DataW H} {p:List MemPlace} (hv:v.cells.toList=[v]) (hd:DataW.Trod enc Tryz.prog w 0 (fun _=>true) true 25 v d p):
    ∃ a l cap,v=.slice a l.length cap/\l.length<=cap/\cap<=maxLen/\Obs w a l/\∀ W',Below w.heap.size w W'->∀ sp:Nat->Bool,(∀ q ∈ p,sp q.block=true)->DataW.Trod enc Tryz.prog W' 0 sp true 25 v d p:=by
  have ST:=fun W' (hb:Below w.heap.size w W') (sp:Nat->Bool) (hs:∀ q ∈ p,sp q.block=true)=>a8_stay (t:=25) (by kernel_rfl) (of_decide_eq_true (by kernel_rfl)) hd hb (sp:=sp) hs
  obtain ⟨fuel,hf⟩:=hd
  rw [hv] at hf
  rcases open_slice Tryz.underlying25 hf with ⟨h1,h2⟩ | ⟨a,len,cap,m,n,D,Pl,h1,hb,hl,hm,hmm,hx,hel⟩
  · simp only [List.cons.injEq,and_true] at h1
    subst h1
    exact ⟨none,[],0,rfl,Nat.le_refl _,by unfold maxLen; omega,.inl rfl,ST⟩
  simp only [List.cons.injEq,and_true] at h1
  subst h1
  obtain rfl:m=cap:=by simpa using hmm
  rw [cells_ob] at hel
  obtain ⟨q,hq⟩:=choose_lt (α:=OpB) (p:=fun i q=>w.cells? 0 (a.add (i * 4)) 4=some (obCells q)/\ObWf q) (fun i hi=>by
    obtain ⟨cs',g1,g2⟩:=hel i hi
    obtain ⟨x,rfl,hr⟩:=ob_cells g2
    exact ⟨x,g1,hr⟩)
  refine ⟨some a,(List.range len).map q,m,by simp,by simpa using hl,hm,?_,ST⟩
  rcases Nat.eq_zero_or_pos len with h0 | h0
  · exact .inl (by rw [h0]; rfl)
  have base:a.block < w.heap.size/\a.spot=none:=by
    obtain ⟨_,_,hat⟩:=World.cells?_some (hq 0 (by omega)).1
    have h0':=hat 0 (by omega)
    rw [Go.Deep.add_add] at h0'
    have h5:=World.block_lt_of_cell? w _ (show w.cell? (a.add (0 * 4 + 0))=some (.int .i64 (q 0).k) from h0')
    rw [ChangeShapes.block_add] at h5
    exact ⟨h5,World.cell?_spot (a:=a) (show w.cell? (a.add 0)=some (.int .i64 (q 0).k) from h0')⟩
  refine .inr ⟨a.block,a.off,congrArg some (addr_eta a base.2),base.1,fun i x hx=>?_⟩
  have hi:i < len:=by
    have:=(List.getElem?_eq_some_iff.1 hx).1
    simpa using this
  rw [List.getElem?_map,List.getElem?_range hi] at hx
  simp only [Option.map_some,Option.some.injEq] at hx
  subst hx
  obtain ⟨g1,g2⟩:=hq i (by omega)
  refine ⟨fun j u hu=>?_,g2⟩
  obtain ⟨_,_,hat⟩:=World.cells?_some g1
  have hj:j < 4:=by
    have:=(List.getElem?_eq_some_iff.1 hu).1
    exact this
  have hj':=hat j hj
  rw [Go.Deep.add_add,hu] at hj'
  rw [<-hj']
  have e:=addr_eta a base.2
  rw [show a.add (i * 4 + j)=(⟨a.block,a.off,none⟩:Addr).add (i * 4 + j) by rw [<-e],add_off,Nat.add_assoc]
theorem under_st:∃ f0 f1 f2 f3:Field,Tryz.prog.underlying 24=some (.struct #[f0,f1,f2,f3])/\(f0.type=3/\f0.offset=0)/\(f1.type=3/\f1.offset=1)/\(f2.type=22/\f2.offset=2)/\f3.type=22/\f3.offset=10:=
  ⟨_,_,_,_,Tryz.underlying24,⟨rfl,rfl⟩,⟨rfl,rfl⟩,⟨rfl,rfl⟩,rfl,rfl⟩
theorem cells_st:Tryz.prog.cellsOf 24=18:=by kernel_rfl
theorem st_cells {w:World} {n:Nat} {cs:List Value} {y:DataW H × List MemPlace} (h:DataW.trod enc Tryz.prog w 0 (fun _=>true) true n 24 cs=some y):∃ q:StA,cs=stCells q/\StWf q:=by
  obtain ⟨f0,f1,f2,f3,uS,⟨e0,o0⟩,⟨e1,o1⟩,⟨e2,o2⟩,e3,o3⟩:=under_st
  obtain ⟨xs,m,_,rfl,hl,hlen,hf⟩:=DataW.trod_struct uS h
  rw [cells_st] at hl
  match xs,hlen with
  | [y0,y1,y2,y3],_=>
    have h0:=hf 0 f0 rfl
    have h1:=hf 1 f1 rfl
    have h2:=hf 2 f2 rfl
    have h3:=hf 3 f3 rfl
    rw [o0,e0,cells_i1] at h0
    rw [o1,e1,cells_i1] at h1
    rw [o2,e2,cells_a8] at h2
    rw [o3,e3,cells_a8] at h3
    match cs,hl with
    | [v0,v1,v2,v3,v4,v5,v6,v7,v8,v9,v10,v11,v12,v13,v14,v15,v16,v17],_=>
      simp only [List.drop_zero,List.drop_succ_cons,List.take_succ_cons,List.take_zero] at h0 h1 h2 h3
      obtain ⟨i0,c0,_,g0⟩:=DataW.trod_int Tryz.underlying3 h0
      obtain ⟨i1,c1,_,g1⟩:=DataW.trod_int Tryz.underlying3 h1
      obtain ⟨pr,c2,g2⟩:=a8_open h2
      obtain ⟨sh,c3,g3⟩:=a8_open h3
      simp only [List.cons.injEq,and_true] at c0 c1
      subst c0 c1
      refine ⟨⟨i0,i1,pr,sh⟩,?_,g0,g1,g2,g3⟩
      unfold stCells
      rw [show list8 (StA.mk i0 i1 pr sh).pr=_ from c2.symm,show list8 (StA.mk i0 i1 pr sh).sh=_ from c3.symm]
      rfl
theorem st_arg {r:Reach} {b0:Nat} {w:World} {v:Value} {d:DataW H} {p:List MemPlace} (hv:Value.okWide Tryz.prog w r b0 24 v) (hd:DataW.Trod enc Tryz.prog w 0 (fun _=>true) true 24 v d p):
    ∃ q:StA,v=stVal q/\StWf q/\∀ W',Below w.heap.size w W'->∀ sp:Nat->Bool,(∀ x ∈ p,sp x.block=true)->DataW.Trod enc Tryz.prog W' 0 sp true 24 v d p:=by
  have ST:=fun W' (hb:Below w.heap.size w W') (sp:Nat->Bool) (hs:∀ q ∈ p,sp q.block=true)=>a8_stay (t:=24) (by kernel_rfl) (of_decide_eq_true (by kernel_rfl)) hd hb (sp:=sp) hs
  obtain ⟨f0,f1,f2,f3,uS,_⟩:=under_st
  obtain ⟨cs,rfl,hsz⟩:=okWide_struct uS hv
  obtain ⟨fuel,hf⟩:=hd
  obtain ⟨q,hq,hw⟩:=st_cells hf
  refine ⟨q,?_,hw,ST⟩
  have e:cs.toList=stCells q:=hq
  have:cs=(stCells q).toArray:=by rw [<-e,Array.toArray_toList]
  rw [this]
  rfl
end
end Go.Proofs.YtchfkncbemjepaaGreat

/- ChannelsMux's region in which both muxes are given a packet, in any order. -/
namespace Go.Proofs.YtchfkncbemjepaaGreat
open Go.RowKit

structure CmRegion (M D V:Nat) (c r:Int) (p:ByteArray) (W:Bool->Bool->World->Prop) (A:Act) (w0:World) (s:Nat->Bool) (a:Act) (w:World):Prop where
  off:Off [102,103,104,105,106,107,108,109,110,111,112,113] a A
  before:W (s 5) (s 11) w
  t0:s 0=true->a.eval (.tmp 102)=.pointer (some ⟨M,0,none⟩)
  t1:s 1=true->a.eval (.tmp 103)=.pointer (some ⟨V,1,none⟩)
  t2:s 2=true->a.eval (.tmp 104)=.int .i64 c
  t3:s 3=true->a.eval (.tmp 105)=.pointer (some ⟨V,2,none⟩)
  t4:s 4=true->a.eval (.tmp 106)=.string p
  t5:s 5=true->a.eval (.tmp 107)=.int .i64 r
  t6:s 6=true->a.eval (.tmp 108)=.pointer (some ⟨D,0,none⟩)
  t7:s 7=true->a.eval (.tmp 109)=.pointer (some ⟨V,1,none⟩)
  t8:s 8=true->a.eval (.tmp 110)=.int .i64 c
  t9:s 9=true->a.eval (.tmp 111)=.pointer (some ⟨V,2,none⟩)
  t10:s 10=true->a.eval (.tmp 112)=.string p
  t11:s 11=true->a.eval (.tmp 113)=.int .i64 r
theorem cmRegion {id:Nat} {l:List Oper} {A:Act} {w:World} {Q:Exit->Act->World->Prop} (M D V:Nat) (c r:Int) (p:ByteArray) (W:Bool->Bool->World->Prop)
    (hW0:W false false w.drew)
    (hV:∀ a b w',W a b w'->w'.cell? ⟨V,1,none⟩=some (.int .i64 c)/\w'.cell? ⟨V,2,none⟩=some (.string p))
    (hX:∀ b w',W false b w'->Calls Tryz.prog 12 #[.pointer (some ⟨M,0,none⟩),.int .i64 c,.string p] w' fun e w2=>e=.returned (.int .i64 r)/\W true b w2)
    (hY:∀ b w',W b false w'->Calls Tryz.prog 13 #[.pointer (some ⟨D,0,none⟩),.int .i64 c,.string p] w' fun e w2=>e=.returned (.int .i64 r)/\W b true w2)
    (hB:tableH l.toArray 12 (fun i=>match i with | 0=>[] | 1=>[] | 2=>[1] | 3=>[] | 4=>[3] | 5=>[0,2,4] | 6=>[] | 7=>[] | 8=>[7] | 9=>[] | 10=>[9] | 11=>[6,8,10] | _=>[]) (fun _=>[])=true)
    (h0:pick l 0=some (.move (.tmp 5),some 102))
    (h1:pick l 1=some (.fieldAddr 36 (.tmp 10) 1,some 103))
    (h2:pick l 2=some (.load 3 (.tmp 103),some 104))
    (h3:pick l 3=some (.fieldAddr 36 (.tmp 10) 2,some 105))
    (h4:pick l 4=some (.load 9 (.tmp 105),some 106))
    (h5:pick l 5=some (.call { callee:=.value (.func 12),args:=#[.tmp 102,.tmp 104,.tmp 106],argTypes:=#[27,3,9] },some 107))
    (h6:pick l 6=some (.move (.tmp 7),some 108))
    (h7:pick l 7=some (.fieldAddr 36 (.tmp 10) 1,some 109))
    (h8:pick l 8=some (.load 3 (.tmp 109),some 110))
    (h9:pick l 9=some (.fieldAddr 36 (.tmp 10) 2,some 111))
    (h10:pick l 10=some (.load 9 (.tmp 111),some 112))
    (h11:pick l 11=some (.call { callee:=.value (.func 13),args:=#[.tmp 108,.tmp 110,.tmp 112],argTypes:=#[31,3,9] },some 113))
    (hs:A.tmps.size=135)
    (x5:A.eval (.tmp 5)=.pointer (some ⟨M,0,none⟩))
    (x7:A.eval (.tmp 7)=.pointer (some ⟨D,0,none⟩))
    (x10:A.eval (.tmp 10)=.pointer (some ⟨V,0,none⟩))
    (h:∀ w1,W true true w1->wpList Tryz.prog l.toArray Q (l.drop 12) ((((((((((((A.put (some 102) (.pointer (some ⟨M,0,none⟩))).put (some 103) (.pointer (some ⟨V,1,none⟩))).put (some 104) (.int .i64 c)).put (some 105) (.pointer (some ⟨V,2,none⟩))).put (some 106) (.string p)).put (some 107) (.int .i64 r)).put (some 108) (.pointer (some ⟨D,0,none⟩))).put (some 109) (.pointer (some ⟨V,1,none⟩))).put (some 110) (.int .i64 c)).put (some 111) (.pointer (some ⟨V,2,none⟩))).put (some 112) (.string p)).put (some 113) (.int .i64 r)) w1):
    (Code.region id l.toArray true).wp Tryz.prog Q A w:=by
  refine wp_region_head (by kernel_rfl) _ _ _ hB (CmRegion M D V c r p W A w) ⟨Off.refl _ _,hW0,by simp,by simp,by simp,by simp,by simp,by simp,by simp,by simp,by simp,by simp,by simp,by simp⟩ ?_ ?_
  · intro s a w' S i' o il ho hsi hT K hK
    have sz:a.tmps.size=135:=by rw [S.off.2.1]; exact hs
    have y5:a.eval (.tmp 5)=.pointer (some ⟨M,0,none⟩):=by rw [S.off.eval (by decide)]; exact x5
    have y7:a.eval (.tmp 7)=.pointer (some ⟨D,0,none⟩):=by rw [S.off.eval (by decide)]; exact x7
    have y10:a.eval (.tmp 10)=.pointer (some ⟨V,0,none⟩):=by rw [S.off.eval (by decide)]; exact x10
    match i',il,ho,hsi,hT with
    | 0,_,ho,hsi,hT=>
      obtain ⟨e1,e2⟩:=pick_of h0 ho
      refine step_val (v:=.pointer (some ⟨M,0,none⟩)) (by simp only [execOp,e1,y5]; go_simp) (hK _ _ ?_)
      rw [e2]
      exact ⟨ofp S.off,by simpa using S.before,ev_ (by omega),kp S.t1,kp S.t2,kp S.t3,kp S.t4,kp S.t5,kp S.t6,kp S.t7,kp S.t8,kp S.t9,kp S.t10,kp S.t11⟩
    | 1,_,ho,hsi,hT=>
      obtain ⟨e1,e2⟩:=pick_of h1 ho
      refine step_val (v:=.pointer (some ⟨V,1,none⟩)) (by simp only [execOp,e1,y10]; go_simp) (hK _ _ ?_)
      rw [e2]
      exact ⟨ofp S.off,by simpa using S.before,kp S.t0,ev_ (by omega),kp S.t2,kp S.t3,kp S.t4,kp S.t5,kp S.t6,kp S.t7,kp S.t8,kp S.t9,kp S.t10,kp S.t11⟩
    | 2,_,ho,hsi,hT=>
      obtain ⟨e1,e2⟩:=pick_of h2 ho
      have D1:s 1=true:=list_pos hT (d:=1) (by decide)
      have BW:=S.before
      have cl:=(hV _ _ _ BW).1
      refine step_val (v:=.int .i64 c) (by simp only [execOp,e1,S.t1 D1]; go_simp) (hK _ _ ?_)
      rw [e2]
      exact ⟨ofp S.off,by simpa using S.before,kp S.t0,kp S.t1,ev_ (by omega),kp S.t3,kp S.t4,kp S.t5,kp S.t6,kp S.t7,kp S.t8,kp S.t9,kp S.t10,kp S.t11⟩
    | 3,_,ho,hsi,hT=>
      obtain ⟨e1,e2⟩:=pick_of h3 ho
      refine step_val (v:=.pointer (some ⟨V,2,none⟩)) (by simp only [execOp,e1,y10]; go_simp) (hK _ _ ?_)
      rw [e2]
      exact ⟨ofp S.off,by simpa using S.before,kp S.t0,kp S.t1,kp S.t2,ev_ (by omega),kp S.t4,kp S.t5,kp S.t6,kp S.t7,kp S.t8,kp S.t9,kp S.t10,kp S.t11⟩
    | 4,_,ho,hsi,hT=>
      obtain ⟨e1,e2⟩:=pick_of h4 ho
      have D3:s 3=true:=list_pos hT (d:=3) (by decide)
      have BW:=S.before
      have cl:=(hV _ _ _ BW).2
      refine step_val (v:=.string p) (by simp only [execOp,e1,S.t3 D3]; go_simp) (hK _ _ ?_)
      rw [e2]
      exact ⟨ofp S.off,by simpa using S.before,kp S.t0,kp S.t1,kp S.t2,kp S.t3,ev_ (by omega),kp S.t5,kp S.t6,kp S.t7,kp S.t8,kp S.t9,kp S.t10,kp S.t11⟩
    | 5,_,ho,hsi,hT=>
      obtain ⟨e1,e2⟩:=pick_of h5 ho
      have D0:s 0=true:=list_pos hT (d:=0) (by decide)
      have D2:s 2=true:=list_pos hT (d:=2) (by decide)
      have D4:s 4=true:=list_pos hT (d:=4) (by decide)
      have BW:=S.before
      rw [hsi] at BW
      refine step_call 12 (fun args w=>by go_simp) _ _ e1 #[.pointer (some ⟨M,0,none⟩),.int .i64 c,.string p] (by simp only [List.map_toArray,List.map_cons,List.map_nil,S.t0 D0,S.t2 D2,S.t4 D4] <;> rfl) ((hX _ w' BW).mono ?_)
      rintro e w2 ⟨rfl,WW0⟩
      have WW:W (if 5=5 then true else s 5) (if 11=5 then true else s 11) w2:=by simpa using WW0
      refine ⟨_,rfl,hK _ _ ?_⟩
      rw [e2]
      exact ⟨ofp S.off,WW,kp S.t0,kp S.t1,kp S.t2,kp S.t3,kp S.t4,ev_ (by omega),kp S.t6,kp S.t7,kp S.t8,kp S.t9,kp S.t10,kp S.t11⟩
    | 6,_,ho,hsi,hT=>
      obtain ⟨e1,e2⟩:=pick_of h6 ho
      refine step_val (v:=.pointer (some ⟨D,0,none⟩)) (by simp only [execOp,e1,y7]; go_simp) (hK _ _ ?_)
      rw [e2]
      exact ⟨ofp S.off,by simpa using S.before,kp S.t0,kp S.t1,kp S.t2,kp S.t3,kp S.t4,kp S.t5,ev_ (by omega),kp S.t7,kp S.t8,kp S.t9,kp S.t10,kp S.t11⟩
    | 7,_,ho,hsi,hT=>
      obtain ⟨e1,e2⟩:=pick_of h7 ho
      refine step_val (v:=.pointer (some ⟨V,1,none⟩)) (by simp only [execOp,e1,y10]; go_simp) (hK _ _ ?_)
      rw [e2]
      exact ⟨ofp S.off,by simpa using S.before,kp S.t0,kp S.t1,kp S.t2,kp S.t3,kp S.t4,kp S.t5,kp S.t6,ev_ (by omega),kp S.t8,kp S.t9,kp S.t10,kp S.t11⟩
    | 8,_,ho,hsi,hT=>
      obtain ⟨e1,e2⟩:=pick_of h8 ho
      have D7:s 7=true:=list_pos hT (d:=7) (by decide)
      have BW:=S.before
      have cl:=(hV _ _ _ BW).1
      refine step_val (v:=.int .i64 c) (by simp only [execOp,e1,S.t7 D7]; go_simp) (hK _ _ ?_)
      rw [e2]
      exact ⟨ofp S.off,by simpa using S.before,kp S.t0,kp S.t1,kp S.t2,kp S.t3,kp S.t4,kp S.t5,kp S.t6,kp S.t7,ev_ (by omega),kp S.t9,kp S.t10,kp S.t11⟩
    | 9,_,ho,hsi,hT=>
      obtain ⟨e1,e2⟩:=pick_of h9 ho
      refine step_val (v:=.pointer (some ⟨V,2,none⟩)) (by simp only [execOp,e1,y10]; go_simp) (hK _ _ ?_)
      rw [e2]
      exact ⟨ofp S.off,by simpa using S.before,kp S.t0,kp S.t1,kp S.t2,kp S.t3,kp S.t4,kp S.t5,kp S.t6,kp S.t7,kp S.t8,ev_ (by omega),kp S.t10,kp S.t11⟩
    | 10,_,ho,hsi,hT=>
      obtain ⟨e1,e2⟩:=pick_of h10 ho
      have D9:s 9=true:=list_pos hT (d:=9) (by decide)
      have BW:=S.before
      have cl:=(hV _ _ _ BW).2
      refine step_val (v:=.string p) (by simp only [execOp,e1,S.t9 D9]; go_simp) (hK _ _ ?_)
      rw [e2]
      exact ⟨ofp S.off,by simpa using S.before,kp S.t0,kp S.t1,kp S.t2,kp S.t3,kp S.t4,kp S.t5,kp S.t6,kp S.t7,kp S.t8,kp S.t9,ev_ (by omega),kp S.t11⟩
    | 11,_,ho,hsi,hT=>
      obtain ⟨e1,e2⟩:=pick_of h11 ho
      have D6:s 6=true:=list_pos hT (d:=6) (by decide)
      have D8:s 8=true:=list_pos hT (d:=8) (by decide)
      have D10:s 10=true:=list_pos hT (d:=10) (by decide)
      have BW:=S.before
      rw [hsi] at BW
      refine step_call 13 (fun args w=>by go_simp) _ _ e1 #[.pointer (some ⟨D,0,none⟩),.int .i64 c,.string p] (by simp only [List.map_toArray,List.map_cons,List.map_nil,S.t6 D6,S.t8 D8,S.t10 D10] <;> rfl) ((hY _ w' BW).mono ?_)
      rintro e w2 ⟨rfl,WW0⟩
      have WW:W (if 5=11 then true else s 5) (if 11=11 then true else s 11) w2:=by simpa using WW0
      refine ⟨_,rfl,hK _ _ ?_⟩
      rw [e2]
      exact ⟨ofp S.off,WW,kp S.t0,kp S.t1,kp S.t2,kp S.t3,kp S.t4,kp S.t5,kp S.t6,kp S.t7,kp S.t8,kp S.t9,kp S.t10,ev_ (by omega)⟩
    | _ + 12,il,_,_,_=>exact absurd il (by omega)
  intro s a w' S hall
  have a0:=hall 0 (by omega)
  have a1:=hall 1 (by omega)
  have a2:=hall 2 (by omega)
  have a3:=hall 3 (by omega)
  have a4:=hall 4 (by omega)
  have a5:=hall 5 (by omega)
  have a6:=hall 6 (by omega)
  have a7:=hall 7 (by omega)
  have a8:=hall 8 (by omega)
  have a9:=hall 9 (by omega)
  have a10:=hall 10 (by omega)
  have a11:=hall 11 (by omega)
  have e:=off_norm _ (by intro d hd; simp at hd; omega) S.off
  simp only [List.foldl,S.t0 a0,S.t1 a1,S.t2 a2,S.t3 a3,S.t4 a4,S.t5 a5,S.t6 a6,S.t7 a7,S.t8 a8,S.t9 a9,S.t10 a10,S.t11 a11] at e
  have BW:=S.before
  rw [a5,a11] at BW
  rw [e]
  exact h _ BW
end Go.Proofs.YtchfkncbemjepaaGreat
