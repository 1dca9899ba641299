/- ChDm -/
import Derived.Test.YtchfkncbemjepaaGreatChBase
import Derived.Test.YtchfkncbemjepaaGreatChShP
import Derived.Test.YtchfkncbemjepaaGreatChAll
set_option linter.unusedVariables false
set_option maxRecDepth 100000
/- Layer 11, the landed program: its demux in memory, with the arrival that is being made. -/
namespace Go.Proofs.YtchfkncbemjepaaGreat
open Go.RowKit

def iC (i:Ch.In):Nat->Value
  | 0=>.string i.fr
  | 1=>.bool i.bg
  | 2=>.int .i64 (i.la:Nat)
  | _=>.string (bs i.pt)
def dC (D:Nat) (x:Ch.Dx) (j:Nat):Value:=
  if 5<=j then iC (x.ch ((j - 5) / 4)) ((j - 5) % 4) else
  match j with
  | 0=>.pointer (some ⟨D,0,none⟩)
  | 1=>.int .i64 (x.craft:Nat)
  | 2=>.int .i64 (x.n:Nat)
  | 3=>.bool x.mb
  | _=>.int .i64 (x.ml:Nat)
theorem dC_in (D:Nat) (x:Ch.Dx) {i k:Nat} (hk:k < 4):dC D x (5 + i * 4 + k)=iC (x.ch i) k:=by
  unfold dC
  rw [if_pos (by omega),show (5 + i * 4 + k - 5) / 4=i by omega,show (5 + i * 4 + k - 5) % 4=k by omega]
structure PD (w:World) (n0 D:Nat) (x:Ch.Dx):Prop where
  dl:n0<=D
  dt:TyB w D 68
  c:Cel w D 37 (dC D x)
theorem PD.keep {w w':World} {n0 D:Nat} {x:Ch.Dx} (h:PD w n0 D x) (hs:w'.heap[D]?=w.heap[D]?):PD w' n0 D x:=⟨h.dl,h.dt.of_block hs,h.c.of_block hs⟩
theorem PD.below {w w':World} {n0 D:Nat} {x:Ch.Dx} (h:PD w n0 D x) (hb:Below w.heap.size w w'):PD w' n0 D x:=h.keep (hb.block D h.dt.lt)
theorem PD.at {w:World} {n0 D:Nat} {x:Ch.Dx} (h:PD w n0 D x) {i k:Nat} (hi:i < 8) (hk:k < 4):w.cell? ⟨D,5 + i * 4 + k,none⟩=some (iC (x.ch i) k):=by
  rw [<-dC_in D x hk]
  exact h.c.cell (by omega)
def aC (v:Value) (a:Ch.Av):Nat->Value
  | 0=>.int .i64 (a.ch:Nat)
  | 1=>.bool a.db
  | 2=>.int .i64 (a.lo:Nat)
  | 3=>.int .i64 (a.mi:Nat)
  | 4=>v
  | 5=>.int .i64 (a.br:Nat)
  | _=>.int .u32 (a.wo:Nat)
def bsVs (l:List (List UInt8)):List Value:=l.map fun s=>.string (bs s)
theorem bsVs_add (l:List (List UInt8)) (s:List UInt8):bsVs l ++ [.string (bs s)]=bsVs (l ++ [s]):=by unfold bsVs; rw [List.map_append]; rfl
structure DS (W0:World) (D A:Nat) (f:Nat->Value) (v:Value) (a:Ch.Av) (w:World):Prop where
  dl:D < W0.heap.size
  dt:TyB w D 68
  dc:Cel w D 37 f
  al:W0.heap.size<=A
  at':TyB w A 51
  ac:Cel w A 7 (aC v a)
  row:w.ownsRow W0.heap.size 9 1 v a.pk.length (bsVs a.pk)
  fr:KF D (·=D) (·=D) W0 w
namespace DS
variable {W0 w w':World} {D A:Nat} {f g:Nat->Value} {v:Value} {a:Ch.Av}
theorem size (h:DS W0 D A f v a w):W0.heap.size<=w.heap.size:=h.fr.below.size
theorem below (h:DS W0 D A f v a w) (hb:Below w.heap.size w w'):DS W0 D A f v a w':=
  ⟨h.dl,h.dt.below hb,h.dc.below hb,h.al,h.at'.below hb,h.ac.below hb,own_below h.row hb,h.fr.trans (KF.of_below hb (Nat.le_trans (Nat.le_of_lt h.dl) h.size))⟩
theorem da (h:DS W0 D A f v a w):D ≠ A:=fun e=>by have:=h.dl; have:=h.al; omega
theorem congr (h:DS W0 D A f v a w) (e:∀ j,j < 37->f j=g j):DS W0 D A g v a w:=⟨h.dl,h.dt,h.dc.congr e,h.al,h.at',h.ac,h.row,h.fr⟩
theorem setD (h:DS W0 D A f v a w) (u:But D w w') (c:Cel w' D 37 g) (t:TyB w' D 68):DS W0 D A g v a w':=
  ⟨h.dl,t,c,h.al,h.at'.but u (Ne.symm h.da),h.ac.but u (Ne.symm h.da),own_but h.row u (fun e=>by have:=(own_ty h.row e).1; have:=h.dl; omega),
    ⟨h.fr.below.trans u.below,fun k hk hn=>(u.rest k (Nat.lt_of_lt_of_le hk h.size) hn).trans (h.fr.rest k hk hn),fun k hk=>.inl hk⟩⟩
theorem setA {v':Value} {a':Ch.Av} (h:DS W0 D A f v a w) (u:But A w w') (c:Cel w' A 7 (aC v' a')) (t:TyB w' A 51) (r:w'.ownsRow W0.heap.size 9 1 v' a'.pk.length (bsVs a'.pk)):DS W0 D A f v' a' w':=
  ⟨h.dl,h.dt.but u h.da,h.dc.but u h.da,h.al,t,c,r,⟨h.fr.below.trans (u.below.mono (Nat.le_trans (Nat.le_of_lt h.dl) h.al)),fun k hk hn=>(u.rest k (Nat.lt_of_lt_of_le hk h.size) (fun e=>by have:=h.al; omega)).trans (h.fr.rest k hk hn),fun k hk=>.inl hk⟩⟩
theorem app {w1 w2 w3:World} {v':Value} {s:List UInt8} (h:DS W0 D A f v a w) (b:Below w.heap.size w w1) (g:w1.grownBy w2 v.ownBlock) (o:w2.ownsRow W0.heap.size 9 1 v' (a.pk.length + 1) (bsVs a.pk ++ [.string (bs s)])) (u:But A w2 w3) (c:Cel w3 A 7 (aC v' { a with pk:=a.pk ++ [s] })) (t:TyB w3 A 51) (hk:v'.ownBlock=v.ownBlock\/v'.ownBlock=some w1.heap.size):
    DS W0 D A f v' { a with pk:=a.pk ++ [s] } w3:=by
  have h1:=h.below b
  have nD:some D ≠ v.ownBlock:=fun e=>by have:=(own_ty h.row e.symm).1; have:=h.dl; omega
  have s1:=h1.size
  have s2:=g.size
  have kD:w3.heap[D]?=w1.heap[D]?:=(u.rest D (Nat.lt_of_lt_of_le h1.dt.lt s2) h.da).trans (g.block D h1.dt.lt nD)
  have hA:v'.ownBlock ≠ some A:=fun e=>ty_ne (own_ty o e).2 (TyB.of_block (w:=w3) t (by
    rcases hk with q | q
    · exact absurd rfl (ty_ne (own_ty h1.row (q.symm.trans e)).2 h1.at' (by decide))
    rw [q] at e
    have:=h1.at'.lt
    cases e
    omega)) (by decide) rfl
  refine ⟨h.dl,h1.dt.of_block kD,h1.dc.of_block kD,h.al,t,c,?_,⟨?_,fun k hk hn=>?_,fun k hk=>.inl hk⟩⟩
  · show w3.ownsRow _ _ _ _ (a.pk ++ [s]).length (bsVs (a.pk ++ [s]))
    rw [List.length_append,<-bsVs_add]
    exact own_but o u hA
  · exact (h1.fr.below.grown g (Nat.le_trans (Nat.le_of_lt h.dl) s1) (fun k e=>Nat.le_trans (Nat.le_of_lt h.dl) (own_ty h1.row e).1)).trans (u.below.mono (Nat.le_trans (Nat.le_of_lt h.dl) h.al))
  have k1:k < w1.heap.size:=Nat.lt_of_lt_of_le hk s1
  have kA:k ≠ A:=fun e=>by have:=h.al; omega
  have kv:some k ≠ v.ownBlock:=fun e=>by have:=(own_ty h.row e.symm).1; omega
  exact (u.rest k (Nat.lt_of_lt_of_le k1 s2) kA).trans ((g.block k k1 kv).trans (h1.fr.rest k hk hn))
end DS
end Go.Proofs.YtchfkncbemjepaaGreat
