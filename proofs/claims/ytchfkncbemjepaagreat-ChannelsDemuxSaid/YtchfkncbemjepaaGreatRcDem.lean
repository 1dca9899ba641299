/- RcDem -/
import Derived.Test.YtchfkncbemjepaaGreatChDm
import Derived.Test.YtchfkncbemjepaaGreatChArr
import Derived.Test.YtchfkncbemjepaaGreatTmRadd
set_option linter.unusedVariables false
set_option maxRecDepth 100000
set_option maxHeartbeats 4000000
/- Layer 11, the reference: its demux in memory, with the arrival that is being made; arrived. -/
namespace Go.Proofs.YtchfkncbemjepaaGreat
open Go.RowKit

def iY (i:Ch.In):Nat->Value
  | 0=>.bool i.bg
  | 1=>.string i.fr
  | 2=>.int .i64 (i.la:Nat)
  | 3=>.bool (decide (i.pt ≠ []))
  | _=>.string (bs i.pt)
def dY (x:Ch.Dx) (j:Nat):Value:=
  if 4<=j then iY (x.ch ((j - 4) / 5)) ((j - 4) % 5) else
  match j with
  | 0=>.int .i64 (x.craft:Nat)
  | 1=>.int .i64 (x.n:Nat)
  | 2=>.bool x.mb
  | _=>.int .i64 (x.ml:Nat)
theorem dY_in (x:Ch.Dx) {i k:Nat} (hk:k < 5):dY x (4 + i * 5 + k)=iY (x.ch i) k:=by
  unfold dY
  rw [if_pos (by omega),show (4 + i * 5 + k - 4) / 5=i by omega,show (4 + i * 5 + k - 4) % 5=k by omega]
structure QD (w:World) (n0 D:Nat) (x:Ch.Dx):Prop where
  dl:n0<=D
  dt:TyB w D 108
  c:Cel w D 44 (dY x)
theorem QD.keep {w w':World} {n0 D:Nat} {x:Ch.Dx} (h:QD w n0 D x) (hs:w'.heap[D]?=w.heap[D]?):QD w' n0 D x:=⟨h.dl,h.dt.of_block hs,h.c.of_block hs⟩
theorem QD.below {w w':World} {n0 D:Nat} {x:Ch.Dx} (h:QD w n0 D x) (hb:Below w.heap.size w w'):QD w' n0 D x:=h.keep (hb.block D h.dt.lt)
theorem QD.at {w:World} {n0 D:Nat} {x:Ch.Dx} (h:QD w n0 D x) {i k:Nat} (hi:i < 8) (hk:k < 5):w.cell? ⟨D,4 + i * 5 + k,none⟩=some (iY (x.ch i) k):=by
  rw [<-dY_in x hk]
  exact h.c.cell (by omega)
structure Zs where
  mb:Bool
  ml:Nat
  hs:Bool
  fr:ByteArray
  la:Nat
  bn:Bool
  pt:ByteArray
def dZ (x:Ch.Dx) (q:Nat) (z:Zs) (j:Nat):Value:=
  if j=q then .bool z.hs else if j=q + 1 then .string z.fr else if j=q + 2 then .int .i64 (z.la:Nat) else if j=q + 3 then .bool z.bn else if j=q + 4 then .string z.pt else
  if j=2 then .bool z.mb else if j=3 then .int .i64 (z.ml:Nat) else dY x j
theorem dZ_start (x:Ch.Dx) (c:Nat):∀ j,dY x j=dZ x (4 + c * 5) ⟨x.mb,x.ml,(x.ch c).bg,(x.ch c).fr,(x.ch c).la,decide ((x.ch c).pt ≠ []),bs (x.ch c).pt⟩ j:=fun j=>by
  unfold dZ
  split
  · rename_i e; subst e; exact dY_in x (k:=0) (by omega)
  split
  · rename_i e; subst e; exact dY_in x (k:=1) (by omega)
  split
  · rename_i e; subst e; exact dY_in x (k:=2) (by omega)
  split
  · rename_i e; subst e; exact dY_in x (k:=3) (by omega)
  split
  · rename_i e; subst e; exact dY_in x (k:=4) (by omega)
  split
  · rename_i e; subst e; rfl
  split
  · rename_i e; subst e; rfl
  rfl
theorem dZ_end (x:Ch.Dx) (c:Nat) (b:ByteArray) (ml la:Nat) (pt:List UInt8):∀ j,dZ x (4 + c * 5) ⟨true,ml,true,b,la,decide (pt ≠ []),bs pt⟩ j=dY { x with mb:=true,ml:=ml,ch:=Ch.upd x.ch c ⟨b,true,la,pt⟩ } j:=fun j=>by
  have H:∀ k,k < 5->dY { x with mb:=true,ml:=ml,ch:=Ch.upd x.ch c ⟨b,true,la,pt⟩ } (4 + c * 5 + k)=iY ⟨b,true,la,pt⟩ k:=fun k hk=>by
    rw [dY_in _ hk]
    show iY (Ch.upd x.ch c _ c) k=_
    rw [Ch.upd_same]
  unfold dZ
  split
  · rename_i e; subst e; exact (H 0 (by omega)).symm
  split
  · rename_i e; subst e; exact (H 1 (by omega)).symm
  split
  · rename_i e; subst e; exact (H 2 (by omega)).symm
  split
  · rename_i e; subst e; exact (H 3 (by omega)).symm
  split
  · rename_i e; subst e; exact (H 4 (by omega)).symm
  split
  · rename_i e; subst e; rfl
  split
  · rename_i e; subst e; rfl
  unfold dY
  split
  · rename_i g
    show _=iY (Ch.upd x.ch c _ ((j - 4) / 5)) _
    rw [Ch.upd_ne _ _ (by omega)]
  rename_i g1 g2 g3 g4 g5 g6 g7 g8
  match j with
  | 0=>rfl
  | 1=>rfl
  | 2=>exact absurd rfl g6
  | 3=>exact absurd rfl g7
  | j + 4=>exact absurd (by omega) g8
theorem dZ_hs (x:Ch.Dx) {q:Nat} (hq:4<=q) (z:Zs) (v:Bool):∀ j,j < 44->(if j=q then .bool v else dZ x q z j)=dZ x q { z with hs:=v } j:=fun j _=>by
  unfold dZ
  by_cases e:j=q
  · subst e
    rw [if_pos rfl]
    repeat (first | rw [if_neg (by omega)] | (rw [if_pos rfl]))
  rw [if_neg e]
  all_goals by_cases e0:j=q
  all_goals try (exfalso; omega)
  all_goals try (rw [if_pos e0,if_pos e0])
  all_goals try (rw [if_neg e0,if_neg e0])
  all_goals by_cases e1:j=q + 1
  all_goals try (exfalso; omega)
  all_goals try (rw [if_pos e1,if_pos e1])
  all_goals try (rw [if_neg e1,if_neg e1])
  all_goals by_cases e2:j=q + 2
  all_goals try (exfalso; omega)
  all_goals try (rw [if_pos e2,if_pos e2])
  all_goals try (rw [if_neg e2,if_neg e2])
  all_goals by_cases e3:j=q + 3
  all_goals try (exfalso; omega)
  all_goals try (rw [if_pos e3,if_pos e3])
  all_goals try (rw [if_neg e3,if_neg e3])
  all_goals by_cases e4:j=q + 4
  all_goals try (exfalso; omega)
  all_goals try (rw [if_pos e4,if_pos e4])
  all_goals try (rw [if_neg e4,if_neg e4])
  all_goals by_cases e5:j=2
  all_goals try (exfalso; omega)
  all_goals try (rw [if_pos e5,if_pos e5])
  all_goals try (rw [if_neg e5,if_neg e5])
  all_goals by_cases e6:j=3
  all_goals try (exfalso; omega)
  all_goals try (rw [if_pos e6,if_pos e6])
  all_goals try (rw [if_neg e6,if_neg e6])
theorem dZ_at_hs (x:Ch.Dx) {q:Nat} (hq:4<=q) (z:Zs):dZ x q z (q)=.bool z.hs:=by
  unfold dZ
  rw [if_pos rfl]
theorem dZ_fr (x:Ch.Dx) {q:Nat} (hq:4<=q) (z:Zs) (v:ByteArray):∀ j,j < 44->(if j=q + 1 then .string v else dZ x q z j)=dZ x q { z with fr:=v } j:=fun j _=>by
  unfold dZ
  by_cases e:j=q + 1
  · subst e
    rw [if_pos rfl]
    repeat (first | rw [if_neg (by omega)] | (rw [if_pos rfl]))
  rw [if_neg e]
  all_goals by_cases e0:j=q
  all_goals try (exfalso; omega)
  all_goals try (rw [if_pos e0,if_pos e0])
  all_goals try (rw [if_neg e0,if_neg e0])
  all_goals by_cases e1:j=q + 1
  all_goals try (exfalso; omega)
  all_goals try (rw [if_pos e1,if_pos e1])
  all_goals try (rw [if_neg e1,if_neg e1])
  all_goals by_cases e2:j=q + 2
  all_goals try (exfalso; omega)
  all_goals try (rw [if_pos e2,if_pos e2])
  all_goals try (rw [if_neg e2,if_neg e2])
  all_goals by_cases e3:j=q + 3
  all_goals try (exfalso; omega)
  all_goals try (rw [if_pos e3,if_pos e3])
  all_goals try (rw [if_neg e3,if_neg e3])
  all_goals by_cases e4:j=q + 4
  all_goals try (exfalso; omega)
  all_goals try (rw [if_pos e4,if_pos e4])
  all_goals try (rw [if_neg e4,if_neg e4])
  all_goals by_cases e5:j=2
  all_goals try (exfalso; omega)
  all_goals try (rw [if_pos e5,if_pos e5])
  all_goals try (rw [if_neg e5,if_neg e5])
  all_goals by_cases e6:j=3
  all_goals try (exfalso; omega)
  all_goals try (rw [if_pos e6,if_pos e6])
  all_goals try (rw [if_neg e6,if_neg e6])
theorem dZ_la (x:Ch.Dx) {q:Nat} (hq:4<=q) (z:Zs) (v:Nat):∀ j,j < 44->(if j=q + 2 then .int .i64 (v:Nat) else dZ x q z j)=dZ x q { z with la:=v } j:=fun j _=>by
  unfold dZ
  by_cases e:j=q + 2
  · subst e
    rw [if_pos rfl]
    repeat (first | rw [if_neg (by omega)] | (rw [if_pos rfl]))
  rw [if_neg e]
  all_goals by_cases e0:j=q
  all_goals try (exfalso; omega)
  all_goals try (rw [if_pos e0,if_pos e0])
  all_goals try (rw [if_neg e0,if_neg e0])
  all_goals by_cases e1:j=q + 1
  all_goals try (exfalso; omega)
  all_goals try (rw [if_pos e1,if_pos e1])
  all_goals try (rw [if_neg e1,if_neg e1])
  all_goals by_cases e2:j=q + 2
  all_goals try (exfalso; omega)
  all_goals try (rw [if_pos e2,if_pos e2])
  all_goals try (rw [if_neg e2,if_neg e2])
  all_goals by_cases e3:j=q + 3
  all_goals try (exfalso; omega)
  all_goals try (rw [if_pos e3,if_pos e3])
  all_goals try (rw [if_neg e3,if_neg e3])
  all_goals by_cases e4:j=q + 4
  all_goals try (exfalso; omega)
  all_goals try (rw [if_pos e4,if_pos e4])
  all_goals try (rw [if_neg e4,if_neg e4])
  all_goals by_cases e5:j=2
  all_goals try (exfalso; omega)
  all_goals try (rw [if_pos e5,if_pos e5])
  all_goals try (rw [if_neg e5,if_neg e5])
  all_goals by_cases e6:j=3
  all_goals try (exfalso; omega)
  all_goals try (rw [if_pos e6,if_pos e6])
  all_goals try (rw [if_neg e6,if_neg e6])
theorem dZ_at_la (x:Ch.Dx) {q:Nat} (hq:4<=q) (z:Zs):dZ x q z (q + 2)=.int .i64 (z.la:Nat):=by
  unfold dZ
  rw [if_neg (by omega),if_neg (by omega),if_pos rfl]
theorem dZ_bn (x:Ch.Dx) {q:Nat} (hq:4<=q) (z:Zs) (v:Bool):∀ j,j < 44->(if j=q + 3 then .bool v else dZ x q z j)=dZ x q { z with bn:=v } j:=fun j _=>by
  unfold dZ
  by_cases e:j=q + 3
  · subst e
    rw [if_pos rfl]
    repeat (first | rw [if_neg (by omega)] | (rw [if_pos rfl]))
  rw [if_neg e]
  all_goals by_cases e0:j=q
  all_goals try (exfalso; omega)
  all_goals try (rw [if_pos e0,if_pos e0])
  all_goals try (rw [if_neg e0,if_neg e0])
  all_goals by_cases e1:j=q + 1
  all_goals try (exfalso; omega)
  all_goals try (rw [if_pos e1,if_pos e1])
  all_goals try (rw [if_neg e1,if_neg e1])
  all_goals by_cases e2:j=q + 2
  all_goals try (exfalso; omega)
  all_goals try (rw [if_pos e2,if_pos e2])
  all_goals try (rw [if_neg e2,if_neg e2])
  all_goals by_cases e3:j=q + 3
  all_goals try (exfalso; omega)
  all_goals try (rw [if_pos e3,if_pos e3])
  all_goals try (rw [if_neg e3,if_neg e3])
  all_goals by_cases e4:j=q + 4
  all_goals try (exfalso; omega)
  all_goals try (rw [if_pos e4,if_pos e4])
  all_goals try (rw [if_neg e4,if_neg e4])
  all_goals by_cases e5:j=2
  all_goals try (exfalso; omega)
  all_goals try (rw [if_pos e5,if_pos e5])
  all_goals try (rw [if_neg e5,if_neg e5])
  all_goals by_cases e6:j=3
  all_goals try (exfalso; omega)
  all_goals try (rw [if_pos e6,if_pos e6])
  all_goals try (rw [if_neg e6,if_neg e6])
theorem dZ_at_bn (x:Ch.Dx) {q:Nat} (hq:4<=q) (z:Zs):dZ x q z (q + 3)=.bool z.bn:=by
  unfold dZ
  rw [if_neg (by omega),if_neg (by omega),if_neg (by omega),if_pos rfl]
theorem dZ_pt (x:Ch.Dx) {q:Nat} (hq:4<=q) (z:Zs) (v:ByteArray):∀ j,j < 44->(if j=q + 4 then .string v else dZ x q z j)=dZ x q { z with pt:=v } j:=fun j _=>by
  unfold dZ
  by_cases e:j=q + 4
  · subst e
    rw [if_pos rfl]
    repeat (first | rw [if_neg (by omega)] | (rw [if_pos rfl]))
  rw [if_neg e]
  all_goals by_cases e0:j=q
  all_goals try (exfalso; omega)
  all_goals try (rw [if_pos e0,if_pos e0])
  all_goals try (rw [if_neg e0,if_neg e0])
  all_goals by_cases e1:j=q + 1
  all_goals try (exfalso; omega)
  all_goals try (rw [if_pos e1,if_pos e1])
  all_goals try (rw [if_neg e1,if_neg e1])
  all_goals by_cases e2:j=q + 2
  all_goals try (exfalso; omega)
  all_goals try (rw [if_pos e2,if_pos e2])
  all_goals try (rw [if_neg e2,if_neg e2])
  all_goals by_cases e3:j=q + 3
  all_goals try (exfalso; omega)
  all_goals try (rw [if_pos e3,if_pos e3])
  all_goals try (rw [if_neg e3,if_neg e3])
  all_goals by_cases e4:j=q + 4
  all_goals try (exfalso; omega)
  all_goals try (rw [if_pos e4,if_pos e4])
  all_goals try (rw [if_neg e4,if_neg e4])
  all_goals by_cases e5:j=2
  all_goals try (exfalso; omega)
  all_goals try (rw [if_pos e5,if_pos e5])
  all_goals try (rw [if_neg e5,if_neg e5])
  all_goals by_cases e6:j=3
  all_goals try (exfalso; omega)
  all_goals try (rw [if_pos e6,if_pos e6])
  all_goals try (rw [if_neg e6,if_neg e6])
theorem dZ_at_pt (x:Ch.Dx) {q:Nat} (hq:4<=q) (z:Zs):dZ x q z (q + 4)=.string z.pt:=by
  unfold dZ
  rw [if_neg (by omega),if_neg (by omega),if_neg (by omega),if_neg (by omega),if_pos rfl]
theorem dZ_mb (x:Ch.Dx) {q:Nat} (hq:4<=q) (z:Zs) (v:Bool):∀ j,j < 44->(if j=2 then .bool v else dZ x q z j)=dZ x q { z with mb:=v } j:=fun j _=>by
  unfold dZ
  by_cases e:j=2
  · subst e
    rw [if_pos rfl]
    repeat (first | rw [if_neg (by omega)] | (rw [if_pos rfl]))
  rw [if_neg e]
  all_goals by_cases e0:j=q
  all_goals try (exfalso; omega)
  all_goals try (rw [if_pos e0,if_pos e0])
  all_goals try (rw [if_neg e0,if_neg e0])
  all_goals by_cases e1:j=q + 1
  all_goals try (exfalso; omega)
  all_goals try (rw [if_pos e1,if_pos e1])
  all_goals try (rw [if_neg e1,if_neg e1])
  all_goals by_cases e2:j=q + 2
  all_goals try (exfalso; omega)
  all_goals try (rw [if_pos e2,if_pos e2])
  all_goals try (rw [if_neg e2,if_neg e2])
  all_goals by_cases e3:j=q + 3
  all_goals try (exfalso; omega)
  all_goals try (rw [if_pos e3,if_pos e3])
  all_goals try (rw [if_neg e3,if_neg e3])
  all_goals by_cases e4:j=q + 4
  all_goals try (exfalso; omega)
  all_goals try (rw [if_pos e4,if_pos e4])
  all_goals try (rw [if_neg e4,if_neg e4])
  all_goals by_cases e5:j=2
  all_goals try (exfalso; omega)
  all_goals try (rw [if_pos e5,if_pos e5])
  all_goals try (rw [if_neg e5,if_neg e5])
  all_goals by_cases e6:j=3
  all_goals try (exfalso; omega)
  all_goals try (rw [if_pos e6,if_pos e6])
  all_goals try (rw [if_neg e6,if_neg e6])
theorem dZ_at_mb (x:Ch.Dx) {q:Nat} (hq:4<=q) (z:Zs):dZ x q z (2)=.bool z.mb:=by
  unfold dZ
  rw [if_neg (by omega),if_neg (by omega),if_neg (by omega),if_neg (by omega),if_neg (by omega),if_pos rfl]
theorem dZ_ml (x:Ch.Dx) {q:Nat} (hq:4<=q) (z:Zs) (v:Nat):∀ j,j < 44->(if j=3 then .int .i64 (v:Nat) else dZ x q z j)=dZ x q { z with ml:=v } j:=fun j _=>by
  unfold dZ
  by_cases e:j=3
  · subst e
    rw [if_pos rfl]
    repeat (first | rw [if_neg (by omega)] | (rw [if_pos rfl]))
  rw [if_neg e]
  all_goals by_cases e0:j=q
  all_goals try (exfalso; omega)
  all_goals try (rw [if_pos e0,if_pos e0])
  all_goals try (rw [if_neg e0,if_neg e0])
  all_goals by_cases e1:j=q + 1
  all_goals try (exfalso; omega)
  all_goals try (rw [if_pos e1,if_pos e1])
  all_goals try (rw [if_neg e1,if_neg e1])
  all_goals by_cases e2:j=q + 2
  all_goals try (exfalso; omega)
  all_goals try (rw [if_pos e2,if_pos e2])
  all_goals try (rw [if_neg e2,if_neg e2])
  all_goals by_cases e3:j=q + 3
  all_goals try (exfalso; omega)
  all_goals try (rw [if_pos e3,if_pos e3])
  all_goals try (rw [if_neg e3,if_neg e3])
  all_goals by_cases e4:j=q + 4
  all_goals try (exfalso; omega)
  all_goals try (rw [if_pos e4,if_pos e4])
  all_goals try (rw [if_neg e4,if_neg e4])
  all_goals by_cases e5:j=2
  all_goals try (exfalso; omega)
  all_goals try (rw [if_pos e5,if_pos e5])
  all_goals try (rw [if_neg e5,if_neg e5])
  all_goals by_cases e6:j=3
  all_goals try (exfalso; omega)
  all_goals try (rw [if_pos e6,if_pos e6])
  all_goals try (rw [if_neg e6,if_neg e6])
theorem dZ_at_ml (x:Ch.Dx) {q:Nat} (hq:4<=q) (z:Zs):dZ x q z (3)=.int .i64 (z.ml:Nat):=by
  unfold dZ
  rw [if_neg (by omega),if_neg (by omega),if_neg (by omega),if_neg (by omega),if_neg (by omega),if_neg (by omega),if_pos rfl]
structure DR (W0:World) (D A:Nat) (f:Nat->Value) (v:Value) (a:Ch.Av) (w:World):Prop where
  dl:D < W0.heap.size
  dt:TyB w D 108
  dc:Cel w D 44 f
  al:W0.heap.size<=A
  at':TyB w A 51
  ac:Cel w A 7 (aC v a)
  row:w.ownsRow W0.heap.size 9 1 v a.pk.length (bsVs a.pk)
  fr:KF D (·=D) (·=D) W0 w
namespace DR
variable {W0 w w':World} {D A:Nat} {f g:Nat->Value} {v:Value} {a:Ch.Av}
theorem size (h:DR W0 D A f v a w):W0.heap.size<=w.heap.size:=h.fr.below.size
theorem below (h:DR W0 D A f v a w) (hb:Below w.heap.size w w'):DR W0 D A f v a w':=
  ⟨h.dl,h.dt.below hb,h.dc.below hb,h.al,h.at'.below hb,h.ac.below hb,own_below h.row hb,h.fr.trans (KF.of_below hb (Nat.le_trans (Nat.le_of_lt h.dl) h.size))⟩
theorem da (h:DR W0 D A f v a w):D ≠ A:=fun e=>by have:=h.dl; have:=h.al; omega
theorem congr (h:DR W0 D A f v a w) (e:∀ j,j < 44->f j=g j):DR W0 D A g v a w:=⟨h.dl,h.dt,h.dc.congr e,h.al,h.at',h.ac,h.row,h.fr⟩
theorem setD (h:DR W0 D A f v a w) (u:But D w w') (c:Cel w' D 44 g) (t:TyB w' D 108):DR W0 D A g v a w':=
  ⟨h.dl,t,c,h.al,h.at'.but u (Ne.symm h.da),h.ac.but u (Ne.symm h.da),own_but h.row u (fun e=>by have:=(own_ty h.row e).1; have:=h.dl; omega),
    ⟨h.fr.below.trans u.below,fun k hk hn=>(u.rest k (Nat.lt_of_lt_of_le hk h.size) hn).trans (h.fr.rest k hk hn),fun k hk=>.inl hk⟩⟩
theorem setA {v':Value} {a':Ch.Av} (h:DR W0 D A f v a w) (u:But A w w') (c:Cel w' A 7 (aC v' a')) (t:TyB w' A 51) (r:w'.ownsRow W0.heap.size 9 1 v' a'.pk.length (bsVs a'.pk)):DR W0 D A f v' a' w':=
  ⟨h.dl,h.dt.but u h.da,h.dc.but u h.da,h.al,t,c,r,⟨h.fr.below.trans (u.below.mono (Nat.le_trans (Nat.le_of_lt h.dl) h.al)),fun k hk hn=>(u.rest k (Nat.lt_of_lt_of_le hk h.size) (fun e=>by have:=h.al; omega)).trans (h.fr.rest k hk hn),fun k hk=>.inl hk⟩⟩
theorem app {w1 w2 w3:World} {v':Value} {s:List UInt8} (h:DR W0 D A f v a w) (b:Below w.heap.size w w1) (g:w1.grownBy w2 v.ownBlock) (o:w2.ownsRow W0.heap.size 9 1 v' (a.pk.length + 1) (bsVs a.pk ++ [.string (bs s)])) (u:But A w2 w3) (c:Cel w3 A 7 (aC v' { a with pk:=a.pk ++ [s] })) (t:TyB w3 A 51) (hk:v'.ownBlock=v.ownBlock\/v'.ownBlock=some w1.heap.size):
    DR W0 D A f v' { a with pk:=a.pk ++ [s] } w3:=by
  have h1:=h.below b
  have nD:some D ≠ v.ownBlock:=fun e=>by have:=(own_ty h.row e.symm).1; have:=h.dl; omega
  have s1:=h1.size
  have s2:=g.size
  have kD:w3.heap[D]?=w1.heap[D]?:=(u.rest D (Nat.lt_of_lt_of_le h1.dt.lt s2) h.da).trans (g.block D h1.dt.lt nD)
  have hA:v'.ownBlock ≠ some A:=fun e=>ty_ne (own_ty o e).2 (TyB.of_block (w:=w3) t (by
    rcases hk with q | q
    · exact absurd rfl (ty_ne (own_ty h1.row (q.symm.trans e)).2 h1.at' (by decide))
    rw [q] at e
    have:=h1.at'.lt
    cases e
    omega)) (by decide) rfl
  refine ⟨h.dl,h1.dt.of_block kD,h1.dc.of_block kD,h.al,t,c,?_,⟨?_,fun k hk hn=>?_,fun k hk=>.inl hk⟩⟩
  · show w3.ownsRow _ _ _ _ (a.pk ++ [s]).length (bsVs (a.pk ++ [s]))
    rw [List.length_append,<-bsVs_add]
    exact own_but o u hA
  · exact (h1.fr.below.grown g (Nat.le_trans (Nat.le_of_lt h.dl) s1) (fun k e=>Nat.le_trans (Nat.le_of_lt h.dl) (own_ty h1.row e).1)).trans (u.below.mono (Nat.le_trans (Nat.le_of_lt h.dl) h.al))
  have k1:k < w1.heap.size:=Nat.lt_of_lt_of_le hk s1
  have kA:k ≠ A:=fun e=>by have:=h.al; omega
  have kv:some k ≠ v.ownBlock:=fun e=>by have:=(own_ty h.row e.symm).1; omega
  exact (u.rest k (Nat.lt_of_lt_of_le k1 s2) kA).trans ((g.block k k1 kv).trans (h1.fr.rest k hk hn))
end DR
theorem rarr_any {W0 w:World} {D A:Nat} {f:Nat->Value} {v:Value} {a:Ch.Av} (h:DR W0 D A f v a w) (s:List UInt8) (hl:s.length<=100000) (hn:a.pk.length<=1000000):
    Calls Tryz.prog 97 #[.pointer (some ⟨A,0,none⟩),.string (bs s)] w fun e w'=>(∃ u,e=.returned u)/\(∃ v',DR W0 D A f v' { a with pk:=a.pk ++ (if (Pk.gt s).1.ap=2047 then [] else [s]) } w')/\Ex A v w w':=by
  obtain ⟨i0,hi,hz0,hz1,hz2⟩:=info_parts info_str
  have HD:=Lib.hid h
  have GE:=Lib.hid (fun w=>rget_any (bs s) (by rw [bs_size]; omega) w)
  rw [bs_list,getV_gt] at GE
  obtain ⟨q,hq⟩:∃ q,(Pk.gt s).1=q:=⟨_,rfl⟩
  obtain ⟨c,hc⟩:∃ c,(Pk.gt s).2=c:=⟨_,rfl⟩
  rw [hq,hc] at GE
  rw [hq]
  obtain ⟨z,hz⟩:∃ z,bs s=z:=⟨_,rfl⟩
  rw [hz] at GE
  obtain ⟨sa,sc,hv⟩:=own_is h.row
  have HZ:=Lib.hid hz
  obtain ⟨m,hm⟩:∃ m,a.pk.length=m:=⟨_,rfl⟩
  have HM:=Lib.hid hm
  rw [hm] at hv
  subst hv
  obtain ⟨P2,hP2⟩:∃ z,a.pk ++ (if q.ap=2047 then [] else [s])=z:=⟨_,rfl⟩
  have HP2:=Lib.hid hP2
  rw [hP2]
  have hm6:m<=1000000:=by omega
  rw [hz]
  have NB:=Lib.hid h.size
  clear h hl hn hz hq hc hP2 hm
  go_enter Tryz.func97,Tryz.ntmps97
  go_wp2_with fail
  (refine (GE.out _).mono ?_)
  rintro e w1 ⟨rfl,h1⟩
  have B1:=Lib.hid h1
  clear h1
  have c31:∀ w3 X,Cel w3 X 5 (pkCel q)->w3.cell? ⟨X,1,none⟩=some (.int .i64 q.ap):=fun w3 X C=>C.cell (j:=1) (by omega)
  have C31:=Lib.hid c31
  clear c31
  by_cases g:q.ap=2047
  · have t1:(q.ap != (2047:Int))=false:=by simp [g]
    have E:=Lib.hid (show P2=a.pk by rw [<-HP2.out,if_pos g,List.append_nil])
    clear g
    go_wp2_with (first
      | ((with_reducible refine atList ?_); refine wpList_newT rfl (.alloc 125) rfl (some 4) rfl #[.bool false,.int .i64 0,.int .i64 0,.int .i64 0,.string ⟨#[]⟩] 125 (fun X=>.pointer (some ⟨X,0,none⟩)) 5 (pkCel ⟨false,0,0,0,⟨#[]⟩⟩) (pkc_cells ⟨false,0,0,0,⟨#[]⟩⟩) (alloc_pk rfl) ?_; intro X w2 HX SX CX LX TX)
      | ((with_reducible refine atList ?_); refine wpList_setAllT rfl 125 (.tmp 4) (.tmp 9) rfl X 5 [.bool q.cmd,.int .i64 q.ap,.int .i64 q.fl,.int .i64 q.ct,.string q.da] _ (pkCel q) CX.out rfl (pkc_list q) rfl rfl pkc_info (by simp [Value.oneCell']) ?_; intro w3 C3 U3 S3 V3; have c1:w3.cell? ⟨X,1,none⟩=some (.int .i64 q.ap):=C31.out w3 X C3.out))
    have B3:=Lib.hid (But.under (bt B1.out LX.out) U3.out (by have:=HX.out; have:=B1.out.size; omega))
    first | go_ret | go_end0 | refine bodyPost_end (results_none rfl _ _ _) rfl ?_ | refine bodyPost_ret (results_none rfl _ _ _) rfl ?_
    exact ⟨⟨_,rfl⟩,⟨_,by rw [E.out]; exact HD.out.below B3.out⟩,Ex.of_below B3.out⟩
  have t1:(q.ap != (2047:Int))=true:=by simpa using g
  have E:=Lib.hid (show P2=a.pk ++ [s] by rw [<-HP2.out,if_neg g])
  clear g
  go_wp2_with (first
    | ((with_reducible refine atList ?_); refine wpList_newT rfl (.alloc 125) rfl (some 4) rfl #[.bool false,.int .i64 0,.int .i64 0,.int .i64 0,.string ⟨#[]⟩] 125 (fun X=>.pointer (some ⟨X,0,none⟩)) 5 (pkCel ⟨false,0,0,0,⟨#[]⟩⟩) (pkc_cells ⟨false,0,0,0,⟨#[]⟩⟩) (alloc_pk rfl) ?_; intro X w2 HX SX CX LX TX)
    | ((with_reducible refine atList ?_); refine wpList_setAllT rfl 125 (.tmp 4) (.tmp 9) rfl X 5 [.bool q.cmd,.int .i64 q.ap,.int .i64 q.fl,.int .i64 q.ct,.string q.da] _ (pkCel q) CX.out rfl (pkc_list q) rfl rfl pkc_info (by simp [Value.oneCell']) ?_; intro w3 C3 U3 S3 V3; have c1:w3.cell? ⟨X,1,none⟩=some (.int .i64 q.ap):=C31.out w3 X C3.out; have B3:=Lib.hid (But.under (bt B1.out LX.out) U3.out (by have:=HX.out; have:=B1.out.size; omega)); have D3:=Lib.hid (HD.out.below B3.out); have c4:w3.cell? ⟨A,4,none⟩=some (.slice sa m sc):=D3.out.ac.cell (j:=4) (by omega))
    | ((with_reducible refine atList ?_); refine wpList_newOwn rfl (.buildSlice 43 1 #[(0,.tmp 19)]) rfl [.string z] 9 1 W0.heap.size rfl (by unfold maxLen; omega) (Nat.le_trans NB.out B3.out.size) (build_strs1 rfl rfl) ?_; intro A5 w5 HA5 OA5 LA5; have RW5:=Lib.hid (show w5.ownsRow W0.heap.size 9 1 (.slice sa m sc) m (bsVs a.pk) by have:=own_below D3.out.row LA5.out; rwa [HM.out] at this))
    | (at_builtin; (with_reducible refine atList ?_); refine wpList_append_own2 rfl (.tmp 18) (.tmp 20) 43 rfl W0.heap.size 9 i0 (.string ⟨#[]⟩) 1 16 Tryz.underlying43 hi hz0 hz1 hz2 rfl (by decide) _ m _ rfl RW5.out ⟨A5,0,none⟩ 1 1 [.string z] rfl rfl (own_cells OA5.out ⟨A5,0,none⟩ rfl) (by simp [Value.oneCell']) (by unfold maxLen; omega) (by omega) (Nat.le_trans NB.out (Nat.le_trans B3.out.size LA5.out.size)) ?_; intro v6 w6 O6 g6 k6; have HO6:=Lib.hid O6; have G6:=Lib.hid g6; have K6:=Lib.hid k6; obtain ⟨a6,p6,hv6⟩:=own_is O6; have D6a:=Lib.hid (show Cel w6 A 7 (aC (.slice sa m sc) a) from (D3.out.below LA5.out).ac.of_block (g6.block A (D3.out.below LA5.out).at'.lt (fun e=>ty_ne (own_ty RW5.out e.symm).2 (D3.out.below LA5.out).at' (by decide) rfl))); subst hv6; clear O6 g6 k6)
    | ((with_reducible refine atList ?_); refine wpList_setT rfl (.store 43 (.tmp 23) (.tmp 21)) rfl A 4 7 (.slice a6 (m + 1) p6) _ (aC (.slice a6 (m + 1) p6) { a with pk:=a.pk ++ [s] }) D6a.out (by omega) (fun j hj=>by match j,hj with | 0,_=>rfl | 1,_=>rfl | 2,_=>rfl | 3,_=>rfl | 4,_=>rfl | 5,_=>rfl | 6,_=>rfl) (store_strs rfl rfl rfl (D6a.out.cell (j:=4) (by omega)) (D6a.out.frozen (j:=4) (by omega))) ?_; intro w7 C7 U7 S7 V7))
  first | go_ret | go_end0 | refine bodyPost_end (results_none rfl _ _ _) rfl ?_ | refine bodyPost_ret (results_none rfl _ _ _) rfl ?_
  have D5:=D3.out.below LA5.out
  have nA:(some A:Option Nat) ≠ (Value.slice sa m sc).ownBlock:=fun e=>ty_ne (own_ty RW5.out e.symm).2 D5.at' (by decide) rfl
  have T6:TyB w6 A 51:=D5.at'.of_block (G6.out.block A D5.at'.lt nA)
  have bl:=B3.out
  refine ⟨⟨_,rfl⟩,⟨_,by
    rw [E.out]
    refine D3.out.app LA5.out G6.out ?_ U7.out C7.out (V7.out _ T6) K6.out
    rw [HZ.out,HM.out]
    exact HO6.out⟩,Nat.le_trans bl.size (Nat.le_trans LA5.out.size (Nat.le_trans G6.out.size U7.out.below.size)),fun g hg hn hv=>?_⟩
  have g3:=Nat.lt_of_lt_of_le hg bl.size
  have g5:=Nat.lt_of_lt_of_le g3 LA5.out.size
  rw [U7.out.rest g (Nat.lt_of_lt_of_le g5 G6.out.size) hn,G6.out.block g g5 hv,LA5.out.block g g3,bl.block g hg]
end Go.Proofs.YtchfkncbemjepaaGreat
