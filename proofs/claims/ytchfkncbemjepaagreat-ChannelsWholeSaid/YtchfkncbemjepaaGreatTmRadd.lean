/- TmRadd -/
import Derived.Test.YtchfkncbemjepaaGreatTmFlip
import Derived.Test.YtchfkncbemjepaaGreatTyKit
import Derived.Test.YtchfkncbemjepaaGreatPkJoin
set_option linter.unusedVariables false
set_option maxRecDepth 100000
/- Layer 10: the reference's filler in memory; New, Waiting, Clear. -/
namespace Go.Proofs.YtchfkncbemjepaaGreat
open Go.RowKit

structure RK (base r:Nat) (w w':World):Prop where
  below:Below base w w'
  rest:∀ g,g < w.heap.size->g ≠ r->w'.heap[g]?=w.heap[g]?
namespace RK
variable {base r:Nat} {w w1 w2:World}
theorem refl (base r:Nat) (w:World):RK base r w w:=⟨Below.refl _ _,fun _ _ _=>rfl⟩
theorem trans (h:RK base r w w1) (k:RK base r w1 w2):RK base r w w2:=
  ⟨h.below.trans k.below,fun g hg hn=>(k.rest g (Nat.lt_of_lt_of_le hg h.below.size) hn).trans (h.rest g hg hn)⟩
theorem of_below (h:Below w.heap.size w w1) (hb:base<=w.heap.size):RK base r w w1:=⟨h.mono hb,fun g hg _=>h.block g hg⟩
theorem of_but (k:But r w w1) (hb:base<=r):RK base r w w1:=⟨k.below.mono hb,fun g hg hn=>k.rest g hg hn⟩
theorem kp {t:TypeId} (k:RK base r w w1) (h:TyB w r t):Kp base [t] false w w1:=by
  obtain ⟨cu,fe,he⟩:=h
  refine ⟨k.below,fun b cur s fr e hn=>k.rest b (Array.getElem?_eq_some_iff.1 e).1 (fun q=>?_),fun _ b es c e=>k.rest b (Array.getElem?_eq_some_iff.1 e).1 (fun q=>?_)⟩
  · subst q
    rw [he] at e
    cases e
    simp at hn
  subst q
  rw [he] at e
  cases e
end RK
def flC (n:Nat) (sv:Value) (bg:Bool) (re:ByteArray):Nat->Value
  | 0=>.int .i64 (n:Nat)
  | 1=>sv
  | 2=>.bool bg
  | _=>.string re
structure RFl (w:World) (n0 r n:Nat) (sv:Value) (L:List ByteArray) (bg:Bool) (re:ByteArray):Prop where
  rl:n0<=r
  ty:TyB w r 131
  cr:Cel w r 4 (flC n sv bg re)
  row:w.ownsRow n0 9 1 sv L.length (strVs L)
namespace RFl
variable {w w':World} {n0 r n:Nat} {sv:Value} {L:List ByteArray} {bg:Bool} {re:ByteArray}
theorem keep (h:RFl w n0 r n sv L bg re) (hr:w'.heap[r]?=w.heap[r]?) (hs:∀ g,sv.ownBlock=some g->w'.heap[g]?=w.heap[g]?):RFl w' n0 r n sv L bg re:=
  ⟨h.rl,h.ty.of_block hr,h.cr.of_block hr,own_keep h.row (fun g hg _=>hs g hg)⟩
theorem below (h:RFl w n0 r n sv L bg re) (hb:Below w.heap.size w w'):RFl w' n0 r n sv L bg re:=h.keep (hb.block r h.ty.lt) (fun g hg=>hb.block g (own_block_lt h.row hg))
theorem kp {base:Nat} {ts:List TypeId} {m:Bool} (h:RFl w n0 r n sv L bg re) (k:Kp base ts m w w') (t1:131 ∉ ts) (t2:9 ∉ ts):RFl w' n0 r n sv L bg re:=
  h.keep (h.ty.keep k t1) (fun g hg=>(own_ty h.row hg).2.keep k t2)
theorem apart (h:RFl w n0 r n sv L bg re):sv.ownBlock ≠ some r:=fun e=>ty_ne (own_ty h.row e).2 h.ty (by decide) rfl
end RFl
theorem store_strs {ev:Operand->Value} {w:World} {o:Oper} {x y:Operand} {X i:Nat} {u:Value} {sa:Option Addr} {m sc:Nat} (h:o.op=.store 43 x y) (hx:ev x=.pointer (some ⟨X,i,none⟩)) (hy:ev y=.slice sa m sc) (hc:w.cell? ⟨X,i,none⟩=some u) (hf:w.frozen? ⟨X,i,none⟩=false):(execOp ev o).run Tryz.prog w=.ok .skip (w.setCell ⟨X,i,none⟩ (.slice sa m sc)):=by
  simp only [execOp,h,hx,hy]; go_simp
end Go.Proofs.YtchfkncbemjepaaGreat
/- Layer 10: the reference's filler: Add. -/
namespace Go.Proofs.YtchfkncbemjepaaGreat
open Go.RowKit

section
variable {P:Program} {ops:Array Oper} {rest:List Oper} {op:Oper} {a:Act} {w:World} {Q:Exit->Act->World->Prop}
end
end Go.Proofs.YtchfkncbemjepaaGreat
