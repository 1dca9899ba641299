/- TyKit -/
import Derived.RangeFuncBox
import Derived.Deep.MidRow
import Derived.ProofKit
import Derived.OpenShut
import Derived.Stop.Joined
import Derived.ChangeSame
import Derived.Below
import Derived.Lib.SmallJoins
import Derived.Carry
import Derived.SliceStrings
import Derived.BigQuiet
import Derived.Test.YtchfkncbemjepaaGreatGalRow
import Derived.Test.YtchfkncbemjepaaGreatRegHF
import Derived.Test.YtchfkncbemjepaaGreatRows
set_option linter.unusedVariables false
set_option maxRecDepth 100000
set_option maxHeartbeats 4000000
/- Slices that are appended to: bytes and numbers; strings of bytes made so. -/
namespace Go.Proofs.YtchfkncbemjepaaGreat
open Go.RowKit

theorem ls (s:ByteArray):s.data.toList.length=s.size:=by simp
theorem coefs_size (f:Nat->BitVec 8) (n:Nat):(⟨(Gal.coefs f n).toArray⟩:ByteArray).size=n:=by
  show (Gal.coefs f n).toArray.size=_
  rw [List.size_toArray,Gal.coefs_length]
def vals (f:Nat->BitVec 8) (n:Nat):List Value:=(List.range n).map (fun j=>.int .u8 ((f j).toNat:Nat))
theorem own_keep {w w':World} {base e size n:Nat} {v:Value} {xs:List Value} (h:w.ownsRow base e size v n xs) (hb:∀ g,v.ownBlock=some g->g < w.heap.size->w'.heap[g]?=w.heap[g]?):w'.ownsRow base e size v n xs:=by
  obtain ⟨hl,h⟩:=h
  refine ⟨hl,?_⟩
  rcases h with h | ⟨g,c,cur,rfl,h1,hg,h2⟩
  · exact .inl h
  exact .inr ⟨g,c,cur,rfl,h1,(hb g rfl (Array.getElem?_eq_some_iff.1 hg).1).trans hg,h2⟩
theorem own_below {w w':World} {base e size n:Nat} {v:Value} {xs:List Value} (h:w.ownsRow base e size v n xs) (hb:Below w.heap.size w w'):w'.ownsRow base e size v n xs:=
  own_keep h (fun g _ hg=>hb.block g hg)
theorem own_mono {w:World} {base base' e size n:Nat} {v:Value} {xs:List Value} (h:w.ownsRow base e size v n xs) (hb:base'<=base):w.ownsRow base' e size v n xs:=by
  obtain ⟨hl,h⟩:=h
  refine ⟨hl,?_⟩
  rcases h with h | ⟨g,c,cur,rfl,h1,h2⟩
  · exact .inl h
  exact .inr ⟨g,c,cur,rfl,Nat.le_trans hb h1,h2⟩
theorem add_off (b o j:Nat):(⟨b,o,none⟩:Addr).add j=⟨b,o + j,none⟩:=by unfold Addr.add; split <;> simp_all
end Go.Proofs.YtchfkncbemjepaaGreat
/- Blocks whose cells are known and may be written: stores of one and of several cells, what stays. -/
namespace Go.Proofs.YtchfkncbemjepaaGreat
open Go.RowKit

def Cel (w:World) (b n:Nat) (f:Nat->Value):Prop:=b < w.heap.size/\∀ j,j < n->w.cell? ⟨b,j,none⟩=some (f j)/\w.frozen? ⟨b,j,none⟩=false
theorem heap_setCells_ne (b:Nat):∀ (vs:List Value) (p:Nat) (w:World) (c:Nat),c ≠ b->(w.setCells b p vs).heap[c]?=w.heap[c]?
  | [],_,_,_,_=>rfl
  | v :: r,p,w,c,h=>by
    show ((w.setCell ⟨b,p,none⟩ v).setCells b (p + 1) r).heap[c]?=_
    rw [heap_setCells_ne b r (p + 1) _ c h]
    exact Below.heap_setCell _ _ _ _ h
theorem size_setCells (b:Nat):∀ (vs:List Value) (p:Nat) (w:World),(w.setCells b p vs).heap.size=w.heap.size
  | [],_,_=>rfl
  | v :: r,p,w=>by
    show ((w.setCell ⟨b,p,none⟩ v).setCells b (p + 1) r).heap.size=_
    rw [size_setCells b r (p + 1) _,World.size_setCell]
theorem below_setCells {B b:Nat} {w0:World} (hb:B<=b):∀ (vs:List Value) (p:Nat) (w:World),Below B w0 w->Below B w0 (w.setCells b p vs)
  | [],_,_,h=>h
  | v :: r,p,w,h=>by
    show Below B w0 ((w.setCell ⟨b,p,none⟩ v).setCells b (p + 1) r)
    exact below_setCells hb r (p + 1) _ (h.setCell (p:=⟨b,p,none⟩) hb _)
namespace Cel
variable {w w':World} {b n:Nat} {f g:Nat->Value}
theorem lt (h:Cel w b n f):b < w.heap.size:=h.1
theorem cell (h:Cel w b n f) {j:Nat} (hj:j < n):w.cell? ⟨b,j,none⟩=some (f j):=(h.2 j hj).1
theorem frozen (h:Cel w b n f) {j:Nat} (hj:j < n):w.frozen? ⟨b,j,none⟩=false:=(h.2 j hj).2
theorem congr (h:Cel w b n f) (e:∀ j,j < n->f j=g j):Cel w b n g:=⟨h.1,fun j hj=>by rw [<-e j hj]; exact h.2 j hj⟩
theorem of_block (h:Cel w b n f) (e:w'.heap[b]?=w.heap[b]?):Cel w' b n f:=by
  refine ⟨?_,fun j hj=>?_⟩
  · apply Nat.lt_of_not_le
    intro hh
    rw [Array.getElem?_eq_none hh,Array.getElem?_eq_getElem h.1] at e
    cases e
  obtain ⟨h1,h2⟩:=h.2 j hj
  exact ⟨(World.cell?_of_block (w:=w) (a:=⟨b,j,none⟩) e).trans h1,(World.frozen?_of_block (w:=w) (a:=⟨b,j,none⟩) e).trans h2⟩
theorem below (h:Cel w b n f) (hb:Below w.heap.size w w'):Cel w' b n f:=h.of_block (hb.block b h.1)
theorem alloc (h:Cel w b n f) (o:Obj):Cel (w.alloc o) b n f:=h.of_block (Below.heap_alloc _ _ _ h.1)
theorem but {c:Nat} (h:Cel w b n f) (hb:But c w w') (hc:b ≠ c):Cel w' b n f:=h.of_block (hb.rest b h.1 hc)
theorem set (h:Cel w b n f) (i:Nat) (v:Value):Cel (w.setCell ⟨b,i,none⟩ v) b n (fun j=>if j=i then v else f j):=by
  refine ⟨by rw [World.size_setCell]; exact h.1,fun j hj=>?_⟩
  obtain ⟨h1,h2⟩:=h.2 j hj
  refine ⟨?_,by rw [World.frozen?_setCell]; exact h2⟩
  show _=some (if j=i then v else f j)
  by_cases e:j=i
  · subst e
    rw [World.cell?_setCell_same' _ _ _ (by rw [h1]; rfl),if_pos rfl]
  rw [World.cell?_setCell_other (h:=addr_off (fun x=>e x.symm)),if_neg e]
  exact h1
theorem setOther (h:Cel w b n f) {c i:Nat} (hc:b ≠ c) (v:Value):Cel (w.setCell ⟨c,i,none⟩ v) b n f:=h.of_block (Below.heap_setCell _ _ _ _ hc)
theorem there (h:Cel w b n f) (o m:Nat) (hm:o + m<=n):w.there b o m:=fun j hj=>by
  obtain ⟨h1,h2⟩:=h.2 (o + j) (by omega)
  exact ⟨by rw [h1]; rfl,h2⟩
theorem range (h:Cel w b n f) (o:Nat) (cs:List Value) (hc:∀ j v,cs[j]?=some v->o + j < n/\f (o + j)=v):w.rangeAt b o cs:=fun j v hv=>by
  obtain ⟨h1,h2⟩:=hc j v hv
  rw [h.cell h1,h2]
theorem setMany (h:Cel w b n f) (p:Nat) (vs:List Value) (hp:p + vs.length<=n) (u:Value):Cel (w.setCells b p vs) b n (fun j=>if p<=j/\j < p + vs.length then vs.getD (j - p) u else f j):=by
  refine ⟨by rw [size_setCells]; exact h.1,fun j hj=>?_⟩
  obtain ⟨h1,h2⟩:=h.2 j hj
  refine ⟨?_,by rw [World.frozen?_setCells]; exact h2⟩
  by_cases e:p<=j/\j < p + vs.length
  · have hi:∀ i,i < vs.length->(w.cell? ⟨b,p + i,none⟩).isSome=true:=fun i hi=>by rw [h.cell (by omega)]; rfl
    have:=World.cell?_setCells_in b vs p w hi (j - p) (by omega)
    rw [show p + (j - p)=j by omega] at this
    rw [this]
    show _=some (if p<=j/\j < p + vs.length then vs.getD (j - p) u else f j)
    rw [if_pos e,List.getD_eq_getElem?_getD,List.getElem?_eq_getElem (by omega)]
    rfl
  rw [World.cell?_setCells_out b vs p w ⟨b,j,none⟩ (fun _ _=>by show j < p\/p + vs.length<=j; omega),h1]
  show _=some (if p<=j/\j < p + vs.length then vs.getD (j - p) u else f j)
  rw [if_neg e]
theorem manyOther (h:Cel w b n f) {c p:Nat} (vs:List Value) (hc:b ≠ c):Cel (w.setCells c p vs) b n f:=h.of_block (heap_setCells_ne c vs p w b hc)
theorem new (w:World) (C:Array Value) (t:TypeId) (hf:∀ j,j < n->C[j]?=some (f j)):Cel (w.alloc (.cells C t)) w.heap.size n f:=
  ⟨by rw [World.size_alloc]; omega,fun j hj=>⟨by rw [World.cell?_alloc_new]; exact hf j hj,by
    unfold World.frozen?
    rw [heap_alloc_new]
    simp⟩⟩
end Cel
section
variable {P:Program}
theorem results_cell_t1 {fn:Func} {p u:Tmp} {ty:TypeId} (h:fn.results=#[.cell p ty,.tmp u]) (tmps:Array Value) (w:World) (X:Nat) (cs:List Value) (d:TypeDesc)
    (hp:tmps.getD p undef=.pointer (some ⟨X,0,none⟩)) (hc:w.rangeAt X 0 cs) (hu:P.underlying ty=some d) (hd:d.isRow=true) (hi:(P.info? ty).map (·.size)=some cs.length):
    (results fn tmps).run P w=.ok (.tuple #[.agg cs.toArray,tmps.getD u undef]) w:=by
  have hp':tmps[p]?.getD undef=.pointer (some ⟨X,0,none⟩):=by simpa using hp
  simp [results,h,hp',asAddr,run_loadVar_mid w X 0 ty cs d hc hu hd hi]
theorem results_cell_t2 {fn:Func} {p u v:Tmp} {ty:TypeId} (h:fn.results=#[.cell p ty,.tmp u,.tmp v]) (tmps:Array Value) (w:World) (X:Nat) (cs:List Value) (d:TypeDesc)
    (hp:tmps.getD p undef=.pointer (some ⟨X,0,none⟩)) (hc:w.rangeAt X 0 cs) (hu:P.underlying ty=some d) (hd:d.isRow=true) (hi:(P.info? ty).map (·.size)=some cs.length):
    (results fn tmps).run P w=.ok (.tuple #[.agg cs.toArray,tmps.getD u undef,tmps.getD v undef]) w:=by
  have hp':tmps[p]?.getD undef=.pointer (some ⟨X,0,none⟩):=by simpa using hp
  simp [results,h,hp',asAddr,run_loadVar_mid w X 0 ty cs d hc hu hd hi]
end
end Go.Proofs.YtchfkncbemjepaaGreat
/- Worlds that differ in some blocks; appends that say where the row lies then. -/
namespace Go.Proofs.YtchfkncbemjepaaGreat
open Go.RowKit

structure Buts (S:Nat->Prop) (w w':World):Prop where
  os:w'.os=w.os
  tape:w'.tape=w.tape
  output:w'.output=w.output
  size:w.heap.size<=w'.heap.size
  block:∀ k,k < w.heap.size->¬ S k->w'.heap[k]?=w.heap[k]?
namespace Buts
variable {S T:Nat->Prop} {w w1 w2:World}
theorem refl (S:Nat->Prop) (w:World):Buts S w w:=⟨rfl,rfl,rfl,Nat.le_refl _,fun _ _ _=>rfl⟩
theorem trans (h:Buts S w w1) (k:Buts S w1 w2):Buts S w w2:=⟨k.os.trans h.os,k.tape.trans h.tape,k.output.trans h.output,Nat.le_trans h.size k.size,fun c hc hs=>(k.block c (Nat.lt_of_lt_of_le hc h.size) hs).trans (h.block c hc hs)⟩
theorem mono (h:Buts S w w1) (hs:∀ c,S c->T c):Buts T w w1:=⟨h.os,h.tape,h.output,h.size,fun c hc ht=>h.block c hc (fun q=>ht (hs c q))⟩
theorem of_below (h:Below w.heap.size w w1):Buts S w w1:=⟨h.os,h.tape,h.output,h.size,fun c hc _=>h.block c hc⟩
theorem of_but {c:Nat} (h:But c w w1) (hc:S c):Buts S w w1:=⟨h.below.os,h.below.tape,h.below.output,h.below.size,fun k hk hs=>h.rest k hk (fun e=>hs (e ▸ hc))⟩
theorem below {B:Nat} {w0:World} (h0:Below B w0 w) (h:Buts S w w1) (hs:∀ c,S c->B<=c) (hb:B<=w.heap.size):Below B w0 w1:=h0.trans ⟨h.os,h.tape,h.output,h.size,fun k hk=>h.block k (Nat.lt_of_lt_of_le hk hb) (fun q=>by have:=hs k q; omega)⟩
end Buts
section
variable {P:Program}
theorem run_append_own2 (w:World) (base:Nat) (t ty e:TypeId) (i:TypeInfo) (z:Value) (size bytes:Nat) (ht:P.underlying t=some (.slice e)) (hi:P.info? e=some i) (hz:i.zero=some z)
    (hsize:i.size=size) (hby:i.bytes=bytes) (hzs:z.cells.size=size) (hsz:0 < size)
    (v:Value) (n:Nat) (xs:List Value) (hown:w.ownsRow base e size v n xs)
    (a:Addr) (m c:Nat) (news:List Value) (hl:news.length=m * size) (hnews:∀ j u,news[j]?=some u->w.cell? (a.add j)=some u) (h1:∀ u ∈ news,u.oneCell'=true)
    (h63:n + m<=maxLen) (hbytes:(n + m) * bytes<=140737488355328) (hbase:base<=w.heap.size):
    ∃ v' w',(Builtin.append_ #[t,t] ty #[v,.slice (some a) m c]).run P w=.ok v' w'/\w'.ownsRow base e size v' (n + m) (xs ++ news)/\w.grownBy w' v.ownBlock/\(v'.ownBlock=v.ownBlock\/v'.ownBlock=some w.heap.size):=by
  obtain ⟨v',w',hr,h2,h3,_⟩:=run_append_own (P:=P) w base t ty e i z size bytes ht hi hz hsize hby hzs hsz v n xs hown a m c news hl hnews h1 h63 hbytes hbase
  refine ⟨v',w',hr,h2,h3,?_⟩
  have hsmall:n + m<=9223372036854775807:=by simp only [maxLen] at h63; omega
  subst hsize
  subst hby
  rcases hown.2 with ⟨rfl,rfl⟩ | ⟨g,cap,cur,rfl,hbg,hg,hnc,hcm,hcs,htake⟩
  · by_cases hm:m=0
    · subst hm
      have hn:news=[]:=List.eq_nil_of_length_eq_zero (by simpa using hl)
      subst hn
      have e0:(Builtin.append_ #[t,t] ty #[.slice none 0 0,.slice (some a) 0 c]).run P w=.ok (.slice none 0 0) w:=by
        simp [Builtin.append_,run_underlying ht,sizeOf,typeInfo,hi,Builtin.lenOf,Builtin.firstCells,loadCells,loadCellsFrom]
      rw [e0] at hr
      cases hr
      exact .inl rfl
    have e0:=run_append_nil (P:=P) w t ty e i z ht hi hz a m c news hl hnews (by omega) (by omega) (by have hb:=hbytes; simp only [Nat.zero_add] at hb; omega)
    rw [e0] at hr
    cases hr
    exact .inr rfl
  by_cases hroom:n + m<=cap
  · have hfit:n * i.size + news.length<=cur.size:=by rw [hl,hcs,<-Nat.add_mul]; exact Nat.mul_le_mul_right _ hroom
    have e0:=run_append_room (P:=P) w t ty e i ht hi g n cap cur hg a m c news hl hnews h1 hroom hfit
    rw [e0] at hr
    cases hr
    exact .inl rfl
  have holds:∀ j u,xs[j]?=some u->w.cell? ((⟨g,0,none⟩:Addr).add j)=some u:=hown.cells (g:=g) rfl
  have e0:=run_append_grow (P:=P) w t ty e i z ht hi hz ⟨g,0,none⟩ n cap xs hown.1 holds a m c news hl hnews (by omega) (by omega) (growslice_fits (by omega) hbytes)
  rw [e0] at hr
  cases hr
  exact .inr rfl
theorem wpList_append_own2 {w:World} {ops:Array Oper} {rest:List Oper} {o:Oper} {a:Act} {Q:Exit->Act->World->Prop} (hgd:o.guard=none) (s x:Operand) (t:TypeId)
    (ho:o.op=.call { callee:=.builtin .append,args:=#[s,x],argTypes:=#[t,t] })
    (base:Nat) (e:TypeId) (i:TypeInfo) (z:Value) (size bytes:Nat) (ht:P.underlying t=some (.slice e)) (hi:P.info? e=some i) (hz:i.zero=some z)
    (hsize:i.size=size) (hby:i.bytes=bytes) (hzs:z.cells.size=size) (hsz:0 < size)
    (v:Value) (n:Nat) (xs:List Value) (hs:a.eval s=v) (hown:w.ownsRow base e size v n xs)
    (ad:Addr) (m c:Nat) (news:List Value) (hx:a.eval x=.slice (some ad) m c) (hl:news.length=m * size) (hnews:∀ j u,news[j]?=some u->w.cell? (ad.add j)=some u) (h1:∀ u ∈ news,u.oneCell'=true)
    (h63:n + m<=maxLen) (hbytes:(n + m) * bytes<=140737488355328) (hbase:base<=w.heap.size)
    (h:∀ v' w',w'.ownsRow base e size v' (n + m) (xs ++ news)->w.grownBy w' v.ownBlock->(v'.ownBlock=v.ownBlock\/v'.ownBlock=some w.heap.size)->wpList P ops Q rest (a.put o.dst v') w'):wpList P ops Q (o :: rest) a w:=
  wpList_plain hgd fun K hK=>by
    obtain ⟨v',w',hr,h2,h3,h4⟩:=run_append_own2 (P:=P) w base t o.type e i z size bytes ht hi hz hsize hby hzs hsz v n xs hown ad m c news hl hnews h1 h63 hbytes hbase
    unfold Oper.wp execOp
    simp only [ho,resolve,invoke,builtin,Sem.run_bind,Sem.run_pure,Result.andThen_ok,List.map_toArray,List.map_cons,List.map_nil,hs,hx,hr]
    exact hK _ _ (h v' w' h2 h3 h4)
theorem run_append_owned_nil {w:World} (base:Nat) (t ty e:TypeId) (i:TypeInfo) (size:Nat) (ht:P.underlying t=some (.slice e)) (hi:P.info? e=some i)
    (v:Value) (n:Nat) (xs:List Value) (hown:w.ownsRow base e size v n xs) (c:Nat):
    (Builtin.append_ #[t,t] ty #[v,.slice none 0 c]).run P w=.ok v w:=by
  rcases hown.2 with ⟨rfl,rfl⟩ | ⟨g,cap,cur,rfl,_,_,hnc,_⟩
  · simp [Builtin.append_,run_underlying ht,sizeOf,typeInfo,hi,Builtin.lenOf,Builtin.firstCells]
  simp [Builtin.append_,run_underlying ht,sizeOf,typeInfo,hi,Builtin.lenOf,Builtin.firstCells,hnc,storeCells]
end
theorem own_is {w:World} {base e size n:Nat} {v:Value} {xs:List Value} (h:w.ownsRow base e size v n xs):∃ a cap,v=.slice a n cap:=by
  rcases h.2 with ⟨rfl,rfl⟩ | ⟨g,c,_,rfl,_⟩
  · exact ⟨_,_,rfl⟩
  exact ⟨_,_,rfl⟩
section
variable {P:Program}
end
end Go.Proofs.YtchfkncbemjepaaGreat
/- Operations that make or write memory, met in a walk: the world behind each is a variable, told by what lies in its blocks. -/
namespace Go.Proofs.YtchfkncbemjepaaGreat
open Go.RowKit

section
variable {P:Program} {ops:Array Oper} {rest:List Oper} {op:Oper} {a:Act} {w:World} {Q:Exit->Act->World->Prop}
theorem wpList_new (hgd:op.guard=none) (OP:Op) (ho:op.op=OP) (dn:Option Tmp) (hd:op.dst=dn) (cs:Array Value) (t:TypeId) (mk:Nat->Value) (n:Nat) (f:Nat->Value) (hf:∀ j,j < n->cs[j]?=some (f j))
    (hrun:(execOp a.eval op).run P w=.ok (.value (mk w.heap.size)) (w.alloc (.cells cs t)))
    (K:∀ X w',Hid (w.heap.size=X)->Hid (w'.heap.size=X + 1)->Hid (Cel w' X n f)->Hid (Below w.heap.size w w')->wpList P ops Q rest (a.put op.dst (mk X)) w'):wpList P ops Q (op :: rest) a w:=
  wpList_plain hgd fun _ hK=>by
    unfold Oper.wp
    rw [hrun,Oper.upon_value]
    exact hK _ _ (K w.heap.size _ (Lib.hid rfl) (Lib.hid (by rw [World.size_alloc])) (Lib.hid (Cel.new w cs t hf)) (Lib.hid (ba (Below.refl _ _) _)))
theorem wpList_set (hgd:op.guard=none) (OP:Op) (ho:op.op=OP) (X i n:Nat) (v:Value) (f g:Nat->Value) (C:Cel w X n f) (hi:i < n) (hg:∀ j,j < n->(if j=i then v else f j)=g j)
    (hrun:(execOp a.eval op).run P w=.ok .skip (w.setCell ⟨X,i,none⟩ v))
    (K:∀ w',Hid (Cel w' X n g)->Hid (But X w w')->Hid (w'.heap.size=w.heap.size)->wpList P ops Q rest (a.put op.dst undef) w'):wpList P ops Q (op :: rest) a w:=
  wpList_plain hgd fun _ hK=>by
    unfold Oper.wp
    rw [hrun]
    exact hK _ _ (K _ (Lib.hid ((C.set i v).congr hg)) (Lib.hid ((But.refl X w).setCell i v)) (Lib.hid (by simp [World.setCell])))
theorem But.of_setCells (X:Nat):∀ (vs:List Value) (p:Nat) (w:World),But X w (w.setCells X p vs):=fun vs p w=>
  ⟨below_setCells (Nat.le_refl _) vs p w (Below.refl _ _),fun b _ hb=>heap_setCells_ne X vs p w b hb⟩
theorem wpList_setAll (hgd:op.guard=none) (ty:TypeId) (x y:Operand) (ho:op.op=.store ty x y) (X n:Nat) (vs:List Value) (f g:Nat->Value) (C:Cel w X n f) (hn:vs.length=n) (hg:∀ j,j < n->vs[j]?=some (g j))
    (hx:a.eval x=.pointer (some ⟨X,0,none⟩)) (hy:a.eval y=.agg vs.toArray) (hi:(P.info? ty).map (·.size)=some n) (h1:vs.all (·.oneCell')=true)
    (K:∀ w',Hid (Cel w' X n g)->Hid (But X w w')->Hid (w'.heap.size=w.heap.size)->wpList P ops Q rest (a.put op.dst undef) w'):wpList P ops Q (op :: rest) a w:=by
  have there:w.there X 0 vs.toArray.size:=C.there 0 _ (by simp [hn])
  refine wpList_store_mid hgd ty x y ho X 0 vs.toArray hx hy there (by rw [hi]; simp [hn]) (by simpa using h1) ?_
  refine K _ (Lib.hid ?_) (Lib.hid (But.of_setCells X _ _ _)) (Lib.hid (size_setCells _ _ _ _))
  refine (C.setMany 0 vs (by omega) undef).congr (fun j hj=>?_)
  rw [if_pos (by omega),Nat.sub_zero,List.getD_eq_getElem?_getD,hg j hj]
  rfl
theorem wpList_getAll (hgd:op.guard=none) (ty:TypeId) (x:Operand) (ho:op.op=.load ty x) (X n:Nat) (vs:List Value) (f:Nat->Value) (d:TypeDesc) (C:Cel w X n f) (hn:vs.length=n) (hg:∀ j,j < n->vs[j]?=some (f j))
    (hx:a.eval x=.pointer (some ⟨X,0,none⟩)) (hu:P.underlying ty=some d) (hd:d.isRow=true) (hi:(P.info? ty).map (·.size)=some n)
    (h:wpList P ops Q rest (a.put op.dst (.agg vs.toArray)) w):wpList P ops Q (op :: rest) a w:=
  wpList_load_mid hgd ty x ho X 0 hx vs d (C.range 0 vs (fun j v hv=>by
    have hj:j < n:=by have:=(List.getElem?_eq_some_iff.1 hv).1; omega
    have:=hg j hj
    rw [hv] at this
    exact ⟨by omega,by rw [Nat.zero_add]; exact (Option.some.inj this).symm⟩)) hu hd (by rw [hi,hn]) h
end
theorem Cel.rangeAll {w:World} {X n:Nat} {f:Nat->Value} (C:Cel w X n f) (vs:List Value) (hn:vs.length=n) (hg:∀ j,j < n->vs[j]?=some (f j)):w.rangeAt X 0 vs:=C.range 0 vs (fun j v hv=>by
  have hj:j < n:=by have:=(List.getElem?_eq_some_iff.1 hv).1; omega
  have:=hg j hj
  rw [hv] at this
  exact ⟨by omega,by rw [Nat.zero_add]; exact (Option.some.inj this).symm⟩)
theorem But.under {X B:Nat} {w0 w w':World} (h:Below B w0 w) (k:But X w w') (hB:B<=X):Below B w0 w':=h.trans (k.below.mono hB)
end Go.Proofs.YtchfkncbemjepaaGreat
/- Small facts for the rows' last steps, and how slices of integers and structs of four fields are opened and shut. -/
namespace Go.Proofs.YtchfkncbemjepaaGreat
open Go.ChangeShapes Go.WideShapes Go.ChangeAt Go.RowKit

theorem own:ownKnob Tryz.prog.godebug=none:=by kernel_rfl

section
variable {H:Type} {enc:TypeId × Value->H} {P:Program}
theorem post_of_below {f:Func} {s:ChangeSpec} {apart fresh handsOn again:Bool} {W W':World} {args:Array Value} {v:Value} {ds gs:List (DataW H)} {before pa pv:List MemPlace}
    (hW:DataW.Whole enc P f.params.toList s.vars apart W args.toList ds gs before)
    (hres:∀ (b:Nat) (sp:Nat->Bool) (hd:Bool),DataW.TrodAll enc P W' b sp hd f.resultTypes.toList (v.resultList f.resultTypes.size) (s.fn H (ds ++ gs)).results [])
    (hargs:∀ sp:Nat->Bool,(∀ p ∈ before,sp p.block=true)->DataW.TrodAll enc P W' 0 sp true f.params.toList args.toList (s.fn H (ds ++ gs)).args pa)
    (hvars:∀ sp:Nat->Bool,(∀ p ∈ before,sp p.block=true)->DataW.TrodVars enc P W' sp s.vars (s.fn H (ds ++ gs)).vars pv)
    (hps:before=pa ++ pv) (hb:Below W.heap.size W W')
    (hok:∀ (j:Nat) (t:TypeId) (r:Value),f.resultTypes[j]?=some t->(v.resultList f.resultTypes.size)[j]?=some r->Value.okWide P W' .any 0 t r):
    s.post enc P f apart fresh handsOn again W args v W':=by
  have hlt:∀ p ∈ before,p.block < W.heap.size:=fun p hp=>hW.lt p hp
  have hold:∀ p ∈ before,(fun b=>decide (b < W.heap.size)) p.block=true:=fun p hp=>by simpa using hlt p hp
  refine ⟨ds,gs,before,[],pa,pv,hW,hres _ _ _,hargs _ hold,hvars _ hold,World.keptBut_mono (fun p hp=>⟨hp,?_⟩) (hb.frame (· ∈ before)),fun _=>?_⟩
  · rw [hps,List.mem_append] at hp
    exact Or.inr hp
  obtain ⟨_,_,_,_,_,hz,hn⟩:=hW
  refine ⟨hok,_,_,([] ++ pa) ++ pv,⟨[] ++ pa,pv,trodAll_append (hargs _ (fun _ _=>rfl)) (hres _ _ _),hvars _ (fun _ _=>rfl),rfl,?_,?_⟩,?_⟩
  · intro b off hp
    have hin:MemPlace.cell b off ∈ before:=by rw [hps]; simpa using hp
    rw [hb.frozen (hlt _ hin)]
    exact hz b off hin
  · intro ha
    have:=hn ha
    rw [hps] at this
    simpa using this
  intro p hp _
  rw [hps]
  simpa using hp
end
end Go.Proofs.YtchfkncbemjepaaGreat
/- The contract of the check kit's Pick over this program. -/
namespace Go.Proofs.YtchfkncbemjepaaGreat
open Go.RowKit
theorem pick_any (n:Int) (hn:(Lit.int .i64 n).wf=true) (m:Nat) (h0:0 < m) (h1:m<=4294967296) (w:World):
    Calls Tryz.prog 11 #[.int .i64 n,.int .i64 m] w fun e w'=>e=.returned (.int .i64 ((n % (m:Int)).toNat:Nat))/\w=w':=by
  obtain ⟨b1,b2⟩:=bounds_i64 hn
  have m0:(m:Int) ≠ 0:=by omega
  have e0:=Int.emod_nonneg n m0
  have e1:=Int.emod_lt_of_pos n (show 0 < (m:Int) by omega)
  obtain ⟨t,ht⟩:∃ t,n.tmod (m:Int)=t:=⟨_,rfl⟩
  obtain ⟨q,hq⟩:∃ q:Nat,(n % (m:Int)).toNat=q:=⟨_,rfl⟩
  rw [hq]
  have hs:t=(q:Int)\/(t < 0/\t + m=(q:Int)):=by
    rw [<-ht]
    by_cases g:0<=n
    · left
      rw [Int.tmod_eq_emod_of_nonneg g]
      omega
    have e:=Int.tmod_eq_emod (a:=n) (b:=(m:Int))
    by_cases d:(m:Int) ∣ n
    · left
      rw [if_pos (Or.inr d)] at e
      omega
    right
    rw [if_neg (by intro h; rcases h with h | h; exact g h; exact d h)] at e
    have:n % (m:Int) ≠ 0:=fun h=>d (Int.dvd_of_emod_eq_zero h)
    have na:((m:Int).natAbs:Int)=m:=by simp
    omega
  have tw:IntKind.i64.wrap (n.tmod (m:Int))=t:=by
    rw [ht,IntKind.wrap_i64]
    omega
  rcases hs with hs | ⟨hn,hs⟩
  · subst hs
    clear hq e0 e1
    go_enter Tryz.func11,Tryz.ntmps11
    go_wp2_with fail
    go_ret
    exact ⟨rfl,rfl⟩
  have sw:IntKind.i64.wrap (t + (m:Int))=(q:Int):=by
    rw [hs,IntKind.wrap_i64]
    omega
  clear hq e0 e1 hs
  go_enter Tryz.func11,Tryz.ntmps11
  go_wp2_with fail
  go_ret
  exact ⟨rfl,rfl⟩
end Go.Proofs.YtchfkncbemjepaaGreat
/- What is kept by its type; blocks with their type; rows of strings; arguments that are lists of strings or of bools: free of layer 9's program (the same names as in PpJoin, PpFeed, VarTy, PkShown, PkStrs, PkRj, PkRat: import this one or those, never both). -/
namespace Go.Proofs.YtchfkncbemjepaaGreat
open Go.ChangeShapes Go.WideShapes Go.ChangeAt Go.RowKit Go.Deep

theorem cells_setCell {w:World} {b i:Nat} {cur:Array Value} {t:TypeId} {fr:Nat × Nat} {u:Value} (h:w.heap[b]?=some (.cells cur t fr)):∃ cur',(w.setCell ⟨b,i,none⟩ u).heap[b]?=some (.cells cur' t fr):=by
  unfold World.setCell
  simp [Array.getElem?_modify,h]
structure Kp (base:Nat) (ts:List TypeId) (mp:Bool) (w w':World):Prop where
  below:Below base w w'
  cells:∀ (b:Nat) cur t fr,w.heap[b]?=some (Obj.cells cur t fr)->t ∉ ts->w'.heap[b]?=w.heap[b]?
  maps:mp=false->∀ (b:Nat) es c,w.heap[b]?=some (Obj.map es c)->w'.heap[b]?=w.heap[b]?
namespace Kp
variable {base:Nat} {ts:List TypeId} {mp:Bool} {w w1 w2:World}
theorem of_below (h:Below w.heap.size w w1) (hb:base<=w.heap.size):Kp base ts mp w w1:=
  ⟨h.mono hb,fun b cur t fr e _=>h.block b (Array.getElem?_eq_some_iff.1 e).1,fun _ b es c e=>h.block b (Array.getElem?_eq_some_iff.1 e).1⟩
theorem trans (h:Kp base ts mp w w1) (k:Kp base ts mp w1 w2):Kp base ts mp w w2:=
  ⟨h.below.trans k.below,fun b cur t fr e hn=>(k.cells b cur t fr ((h.cells b cur t fr e hn).trans e) hn).trans (h.cells b cur t fr e hn),fun hm b es c e=>(k.maps hm b es c ((h.maps hm b es c e).trans e)).trans (h.maps hm b es c e)⟩
theorem mono {b2:Nat} (h:Kp base ts mp w w1) (hb:b2<=base):Kp b2 ts mp w w1:=⟨h.below.mono hb,h.cells,h.maps⟩
theorem refl (base:Nat) (ts:List TypeId) (mp:Bool) (w:World):Kp base ts mp w w:=⟨Below.refl _ _,fun _ _ _ _ _ _=>rfl,fun _ _ _ _ _=>rfl⟩
theorem own (k:Kp base ts mp w w1) {n0 e size n:Nat} {v:Value} {xs:List Value} (h:w.ownsRow n0 e size v n xs) (ht:e ∉ ts):w1.ownsRow n0 e size v n xs:=by
  obtain ⟨hl,h⟩:=h
  refine ⟨hl,?_⟩
  rcases h with q | ⟨g,c,cur,q1,q2,q3,q4⟩
  · exact .inl q
  exact .inr ⟨g,c,cur,q1,q2,(k.cells g cur e _ q3 ht).trans q3,q4⟩
end Kp
theorem own_but {w w':World} {base e size n X:Nat} {v:Value} {xs:List Value} (h:w.ownsRow base e size v n xs) (u:But X w w') (hX:v.ownBlock ≠ some X):w'.ownsRow base e size v n xs:=own_keep h (fun k hk hl=>u.rest k hl (fun e=>hX (by rw [hk,e])))
theorem own_block_lt {w:World} {base e size n k:Nat} {v:Value} {xs:List Value} (h:w.ownsRow base e size v n xs) (hk:v.ownBlock=some k):k < w.heap.size:=by
  obtain ⟨_,h⟩:=h
  rcases h with ⟨rfl,_⟩ | ⟨g,c,cur,rfl,_,hb,_⟩
  · cases hk
  cases hk
  exact (Array.getElem?_eq_some_iff.1 hb).1
def TyB (w:World) (X:Nat) (t:TypeId):Prop:=∃ cur fr,w.heap[X]?=some (Obj.cells cur t fr)
theorem TyB.lt {w:World} {X:Nat} {t:TypeId} (h:TyB w X t):X < w.heap.size:=by
  obtain ⟨cur,fr,e⟩:=h
  exact (Array.getElem?_eq_some_iff.1 e).1
theorem TyB.of_block {w w':World} {X:Nat} {t:TypeId} (h:TyB w X t) (e:w'.heap[X]?=w.heap[X]?):TyB w' X t:=by
  obtain ⟨cur,fr,h⟩:=h
  exact ⟨cur,fr,e.trans h⟩
theorem TyB.below {w w':World} {X:Nat} {t:TypeId} (h:TyB w X t) (hb:Below w.heap.size w w'):TyB w' X t:=h.of_block (hb.block X h.lt)
theorem TyB.but {w w':World} {X Y:Nat} {t:TypeId} (h:TyB w X t) (hb:But Y w w') (hn:X ≠ Y):TyB w' X t:=h.of_block (hb.rest X h.lt hn)
theorem TyB.keep {base:Nat} {ts:List TypeId} {mp:Bool} {w w':World} {X:Nat} {t:TypeId} (h:TyB w X t) (k:Kp base ts mp w w') (ht:t ∉ ts):w'.heap[X]?=w.heap[X]?:=by
  obtain ⟨cur,fr,e⟩:=h
  exact k.cells X cur t fr e ht
theorem tyB_setCells (X:Nat) (t:TypeId):∀ (vs:List Value) (p:Nat) (w:World),TyB w X t->TyB (w.setCells X p vs) X t
  | [],_,_,h=>h
  | v :: vs,p,w,⟨cur,fr,h⟩=>tyB_setCells X t vs (p + 1) _ (by obtain ⟨c,hc⟩:=cells_setCell (i:=p) (u:=v) h; exact ⟨c,fr,hc⟩)
section
variable {P:Program} {ops:Array Oper} {rest:List Oper} {op:Oper} {a:Act} {w:World} {Q:Exit->Act->World->Prop}
theorem wpList_newT (hgd:op.guard=none) (OP:Op) (ho:op.op=OP) (dn:Option Tmp) (hd:op.dst=dn) (cs:Array Value) (t:TypeId) (mk:Nat->Value) (n:Nat) (f:Nat->Value) (hf:∀ j,j < n->cs[j]?=some (f j))
    (hrun:(execOp a.eval op).run P w=.ok (.value (mk w.heap.size)) (w.alloc (.cells cs t)))
    (K:∀ X w',Hid (w.heap.size=X)->Hid (w'.heap.size=X + 1)->Hid (Cel w' X n f)->Hid (Below w.heap.size w w')->Hid (TyB w' X t)->wpList P ops Q rest (a.put op.dst (mk X)) w'):wpList P ops Q (op :: rest) a w:=
  wpList_plain hgd fun _ hK=>by
    unfold Oper.wp
    rw [hrun,Oper.upon_value]
    exact hK _ _ (K w.heap.size _ (Lib.hid rfl) (Lib.hid (by rw [World.size_alloc])) (Lib.hid (Cel.new w cs t hf)) (Lib.hid (ba (Below.refl _ _) _)) (Lib.hid ⟨cs,_,heap_alloc_last w _⟩))
theorem wpList_setAllT (hgd:op.guard=none) (ty:TypeId) (x y:Operand) (ho:op.op=.store ty x y) (X n:Nat) (vs:List Value) (f g:Nat->Value) (C:Cel w X n f) (hn:vs.length=n) (hg:∀ j,j < n->vs[j]?=some (g j))
    (hx:a.eval x=.pointer (some ⟨X,0,none⟩)) (hy:a.eval y=.agg vs.toArray) (hi:(P.info? ty).map (·.size)=some n) (h1:vs.all (·.oneCell')=true)
    (K:∀ w',Hid (Cel w' X n g)->Hid (But X w w')->Hid (w'.heap.size=w.heap.size)->Hid (∀ t,TyB w X t->TyB w' X t)->wpList P ops Q rest (a.put op.dst undef) w'):wpList P ops Q (op :: rest) a w:=by
  have there:w.there X 0 vs.toArray.size:=C.there 0 _ (by simp [hn])
  refine wpList_store_mid hgd ty x y ho X 0 vs.toArray hx hy there (by rw [hi]; simp [hn]) (by simpa using h1) ?_
  refine K _ (Lib.hid ?_) (Lib.hid (But.of_setCells X _ _ _)) (Lib.hid (size_setCells _ _ _ _)) (Lib.hid (fun t h=>tyB_setCells X t _ _ _ h))
  refine (C.setMany 0 vs (by omega) undef).congr (fun j hj=>?_)
  rw [if_pos (by omega),Nat.sub_zero,List.getD_eq_getElem?_getD,hg j hj]
  rfl
end
theorem Kp.of_but {base X:Nat} {t:TypeId} {w w':World} (k:But X w w') (h:TyB w X t) (hb:base<=X):Kp base [t] false w w':=by
  refine ⟨But.under (Below.refl base w) k hb,fun b cur t2 fr e ht=>k.rest b (Array.getElem?_eq_some_iff.1 e).1 (fun q=>?_),fun _ b es c e=>k.rest b (Array.getElem?_eq_some_iff.1 e).1 (fun q=>?_)⟩
  · subst q
    obtain ⟨cur2,fr2,e2⟩:=h
    rw [e2] at e
    cases e
    exact ht (by simp)
  subst q
  obtain ⟨cur2,fr2,e2⟩:=h
  rw [e2] at e
  cases e
theorem row_some {w:World} {base n c:Nat} {sa:Option Addr} {xs:List Value} {t:TypeId} {s:Nat} (h:w.ownsRow base t s (.slice sa n c) n xs) (hn:0 < n):∃ g,sa=some ⟨g,0,none⟩/\base<=g/\TyB w g t:=by
  obtain ⟨_,h⟩:=h
  rcases h with ⟨q,e⟩ | ⟨g,c',cur,q1,q2,q3,_⟩
  · omega
  cases q1
  exact ⟨g,rfl,q2,cur,_,q3⟩
theorem addr_eta (a:Addr) (h:a.spot=none):a=⟨a.block,a.off,none⟩:=by
  obtain ⟨b,o,s⟩:=a
  simp only at h
  subst h
  rfl
section
variable {H:Type} {enc:TypeId × Value->H}
theorem pk_stay {t:TypeId} (hr:Tryz.prog.readableRec t=true) (ht:t < Tryz.prog.types.size) {w W':World} {v:Value} {d:DataW H} {p:List MemPlace} (h:DataW.Trod enc Tryz.prog w 0 (fun _=>true) true t v d p) (hb:Below w.heap.size w W') {sp:Nat->Bool} (hs:∀ q ∈ p,sp q.block=true):
    DataW.Trod enc Tryz.prog W' 0 sp true t v d p:=by
  refine WideElems.Trod_stays (by kernel_rfl) hr ht h (fun x hx=>hb.same ?_) hs
  obtain ⟨n,hn⟩:=h
  exact DataW.trod_lt n _ _ _ hn x hx
end
def Bls (w:World) (a:Option Addr) (l:List Bool):Prop:=l=[]\/∃ B off,a=some ⟨B,off,none⟩/\B < w.heap.size/\∀ (i:Nat) (s:Bool),l[i]?=some s->w.cell? ⟨B,off + i,none⟩=some (.bool s)
theorem Bls.below {w w':World} {a:Option Addr} {l:List Bool} (h:Bls w a l) (hb:Below w.heap.size w w'):Bls w' a l:=by
  rcases h with h | ⟨B,off,e,hl,hc⟩
  · exact .inl h
  exact .inr ⟨B,off,e,Nat.lt_of_lt_of_le hl hb.size,fun i x hx=>(hb.cell (p:=⟨B,off + i,none⟩) hl).trans (hc i x hx)⟩
theorem cells_bool:Tryz.prog.cellsOf 4=1:=by kernel_rfl
section
variable {H:Type} {enc:TypeId × Value->H}
theorem bools_arg {w:World} {v:Value} {d:DataW H} {p:List MemPlace} (hv:v.cells.toList=[v]) (hd:DataW.Trod enc Tryz.prog w 0 (fun _=>true) true 71 v d p):
    ∃ a l cap,v=.slice a l.length cap/\l.length<=cap/\cap<=maxLen/\Bls w a l/\∀ W',Below w.heap.size w W'->∀ sp:Nat->Bool,(∀ q ∈ p,sp q.block=true)->DataW.Trod enc Tryz.prog W' 0 sp true 71 v d p:=by
  have ST:=fun W' (hb:Below w.heap.size w W') (sp:Nat->Bool) (hs:∀ q ∈ p,sp q.block=true)=>pk_stay (t:=71) (by kernel_rfl) (of_decide_eq_true (by kernel_rfl)) hd hb (sp:=sp) hs
  obtain ⟨fuel,hf⟩:=hd
  rw [hv] at hf
  rcases open_slice Tryz.underlying71 hf with ⟨h1,h2⟩ | ⟨a,len,cap,m,n,D,Pl,h1,hb,hl,hm,hmm,hx,hel⟩
  · simp only [List.cons.injEq,and_true] at h1
    subst h1
    exact ⟨none,[],0,rfl,Nat.le_refl _,by unfold maxLen; omega,.inl rfl,ST⟩
  simp only [List.cons.injEq,and_true] at h1
  subst h1
  obtain rfl:m=cap:=by simpa using hmm
  rw [cells_bool] at hel
  obtain ⟨q,hq⟩:=choose_lt (α:=Bool) (p:=fun i q=>w.cells? 0 (a.add (i * 1)) 1=some [.bool q]) (fun i hi=>by
    obtain ⟨cs',g1,g2⟩:=hel i hi
    obtain ⟨x,rfl,hr⟩:=DataW.trod_bool Tryz.underlying4 g2
    exact ⟨x,g1⟩)
  refine ⟨some a,(List.range len).map q,m,by simp,by simpa using hl,hm,?_,ST⟩
  rcases Nat.eq_zero_or_pos len with h0 | h0
  · exact .inl (by rw [h0]; rfl)
  have cl:∀ i,i < len->w.cell? (a.add i)=some (.bool (q i)):=fun i hi=>by
    have:=ChangeShapes.cell_of_cells?_one (hq i (by omega))
    rwa [Nat.mul_one] at this
  have c0:=cl 0 h0
  have h5:=World.block_lt_of_cell? w _ c0
  rw [ChangeShapes.block_add] at h5
  have e:=addr_eta a (World.cell?_spot c0)
  refine .inr ⟨a.block,a.off,congrArg some e,h5,fun i x hx=>?_⟩
  have hi:i < len:=by
    have:=(List.getElem?_eq_some_iff.1 hx).1
    simpa using this
  rw [List.getElem?_map,List.getElem?_range hi] at hx
  simp only [Option.map_some,Option.some.injEq] at hx
  subst hx
  rw [show (⟨a.block,a.off + i,none⟩:Addr)=a.add i by rw [show a.add i=(⟨a.block,a.off,none⟩:Addr).add i by rw [<-e],add_off]]
  exact cl i hi
end
def strVs (l:List ByteArray):List Value:=l.map fun s=>.string s
theorem strVs_len (l:List ByteArray):(strVs l).length=l.length:=List.length_map ..
theorem strVs_add (l:List ByteArray) (s:ByteArray):strVs l ++ [.string s]=strVs (l ++ [s]):=by unfold strVs; rw [List.map_append]; rfl
theorem strVs_at {l:List ByteArray} {k:Nat} {s:ByteArray} (h:l[k]?=some s):(strVs l)[k]?=some (.string s):=by unfold strVs; rw [List.getElem?_map,h]; rfl
theorem row_cell {w:World} {base g n c:Nat} {l:List ByteArray} (h:w.ownsRow base 9 1 (.slice (some ⟨g,0,none⟩) n c) n (strVs l)) {k:Nat} {s:ByteArray} (hk:l[k]?=some s):w.cell? ⟨g,k,none⟩=some (.string s):=by
  have:=h.cells (g:=g) rfl k _ (strVs_at hk)
  rwa [add_off,Nat.zero_add] at this
theorem sameStrings_any (sa sb:Option Addr) (n ca cb b1 b2:Nat) (l:List ByteArray) (hl:l.length=n) (hn:n<=1000000) (w:World) (RA:w.ownsRow b1 9 1 (.slice sa n ca) n (strVs l)) (RB:w.ownsRow b2 9 1 (.slice sb n cb) n (strVs l)):
    Calls Tryz.prog 26 #[.slice sa n ca,.slice sb n cb] w fun e w'=>e=.returned (.bool true)/\Below w.heap.size w w':=by
  have e1:((n:Int) == (n:Int))=true:=by simp
  have e2:((n:Int) != (n:Int))=false:=by simp
  by_cases n0:n=0
  · subst n0
    have B:=Below.refl w.heap.size w
    clear RA RB
    go_enter Tryz.func26,Tryz.ntmps26
    go_wp2_with fail
    refine wp_loop_rounds 1 ?_
    rw [rounds_succ]
    go_wp2_with fail
    go_ret
    exact ⟨rfl,B⟩
  obtain ⟨g1,rfl,_,T1⟩:=row_some RA (by omega)
  obtain ⟨g2,rfl,_,T2⟩:=row_some RB (by omega)
  have l1:=T1.lt
  have l2:=T2.lt
  have CA:=Lib.hid (fun k s (hk:l[k]?=some s)=>row_cell RA hk)
  have CB:=Lib.hid (fun k s (hk:l[k]?=some s)=>row_cell RB hk)
  have HL:=Lib.hid hl
  have B:=Below.refl w.heap.size w
  clear RA RB T1 T2 hl
  go_enter Tryz.func26,Tryz.ntmps26
  go_wp2_with fail
  go_loopw [5] (fun i wr=>∃ k:Nat,k<=n/\i=.int .i64 k/\Below w.heap.size w wr) (fun i _=>n - (intOf i).toNat)
  case atStart=>exact ⟨0,Nat.zero_le _,rfl,B⟩
  case round=>
    obtain ⟨k,hk,rfl,hB⟩:=hrel
    have HB:=Lib.hid hB
    by_cases hlt:k < n
    · obtain ⟨s,hz⟩:∃ z,l[k]?=some z:=⟨l[k]'(by have:=HL.out; omega),List.getElem?_eq_getElem (by have:=HL.out; omega)⟩
      have qa0:wr.cell? ⟨g1,k,none⟩=some (.string s):=(hB.cell (p:=⟨g1,k,none⟩) l1).trans (CA.out k _ hz)
      have qb0:wr.cell? ⟨g2,k,none⟩=some (.string s):=(hB.cell (p:=⟨g2,k,none⟩) l2).trans (CB.out k _ hz)
      have k0:(0:Int)<=(k:Int):=by omega
      have k1:(k:Int) < (n:Int):=by omega
      have z4:(s.toList == s.toList)=true:=by simp
      clear hB hz
      go_wp2_with fail
      go_quiet (fail)
      go_wp2_with fail
      go_roundw
      case rel=>exact ⟨k + 1,by omega,by go_num,below_drewN HB.out _⟩
      case measure=>simp [intOf]; omega
    obtain rfl:n=k:=by omega
    clear hB
    go_wp2_with fail
    go_ret
    exact ⟨rfl,HB.out⟩
theorem info_str:(Tryz.prog.info? 9).map (fun i=>(i.zero,i.size,i.bytes))=some (some (.string ⟨#[]⟩),1,16):=by kernel_rfl
theorem own_ty {w:World} {base e size n k:Nat} {v:Value} {xs:List Value} (h:w.ownsRow base e size v n xs) (hk:v.ownBlock=some k):base<=k/\TyB w k e:=by
  obtain ⟨_,h⟩:=h
  rcases h with ⟨q,_⟩ | ⟨g,c,cur,q1,q2,q3,_⟩
  · rw [q] at hk; cases hk
  rw [q1] at hk
  cases hk
  exact ⟨q2,cur,_,q3⟩
section
variable {P:Program} {ops:Array Oper} {l rest:List Oper} {op:Oper} {a:Act} {w:World} {Q:Exit->Act->World->Prop}
theorem atList (h:wpList P ops Q l a w):wpList P ops Q l a w:=h
theorem wpList_setT (hgd:op.guard=none) (OP:Op) (ho:op.op=OP) (X i n:Nat) (v:Value) (f g:Nat->Value) (C:Cel w X n f) (hi:i < n) (hg:∀ j,j < n->(if j=i then v else f j)=g j)
    (hrun:(execOp a.eval op).run P w=.ok .skip (w.setCell ⟨X,i,none⟩ v))
    (K:∀ w',Hid (Cel w' X n g)->Hid (But X w w')->Hid (w'.heap.size=w.heap.size)->Hid (∀ t,TyB w X t->TyB w' X t)->wpList P ops Q rest (a.put op.dst undef) w'):wpList P ops Q (op :: rest) a w:=
  wpList_plain hgd fun _ hK=>by
    unfold Oper.wp
    rw [hrun]
    exact hK _ _ (K _ (Lib.hid ((C.set i v).congr hg)) (Lib.hid ((But.refl X w).setCell i v)) (Lib.hid (by simp [World.setCell])) (Lib.hid (fun t ⟨cur,fr,h⟩=>by obtain ⟨c,hc⟩:=cells_setCell (i:=i) (u:=v) h; exact ⟨c,fr,hc⟩)))
end
theorem Cel.kp {base n X:Nat} {ts:List TypeId} {m:Bool} {w w':World} {g:Nat->Value} {t:TypeId} (C:Cel w X n g) (h:TyB w X t) (k:Kp base ts m w w') (ht:t ∉ ts):Cel w' X n g:=C.of_block (h.keep k ht)
theorem TyB.kp {base X:Nat} {ts:List TypeId} {m:Bool} {w w':World} {t:TypeId} (h:TyB w X t) (k:Kp base ts m w w') (ht:t ∉ ts):TyB w' X t:=h.of_block (h.keep k ht)
theorem ty_ne {w:World} {a b:Nat} {s t:TypeId} (h:TyB w a s) (k:TyB w b t) (hn:s ≠ t):a ≠ b:=fun e=>by
  subst e
  obtain ⟨c1,f1,e1⟩:=h
  obtain ⟨c2,f2,e2⟩:=k
  rw [e1] at e2
  cases e2
  exact hn rfl
theorem Buts.setCell {S:Nat->Prop} {w w0:World} (h:Buts S w0 w) {b j:Nat} (hb:S b) (u:Value):Buts S w0 (w.setCell ⟨b,j,none⟩ u):=
  h.trans (Buts.of_but ((But.refl b w).setCell j u) hb)
end Go.Proofs.YtchfkncbemjepaaGreat
