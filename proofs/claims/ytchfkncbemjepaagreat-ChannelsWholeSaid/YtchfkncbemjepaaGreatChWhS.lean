/- ChWhS -/
import Derived.Test.YtchfkncbemjepaaGreatTyKit
import Derived.Test.YtchfkncbemjepaaGreatChAll
import Derived.Test.YtchfkncbemjepaaGreatRegHF
set_option linter.unusedVariables false
set_option maxRecDepth 100000
/- Several rows of one's own, each in a block of its own: lists that are appended to and written. -/
namespace Go.Proofs.YtchfkncbemjepaaGreat
open Go.RowKit

structure Rw where
  v:Value
  t:TypeId
  xs:List Value
structure Rws (n0:Nat) (T:Nat->Prop) (l:List Rw) (w:World):Prop where
  own:∀ r ∈ l,w.ownsRow n0 r.t 1 r.v r.xs.length r.xs
  out:∀ r ∈ l,∀ g,r.v.ownBlock=some g->¬ T g
  ap:∀ (i j:Nat) (a b:Rw) (g:Nat),l[i]?=some a->l[j]?=some b->a.v.ownBlock=some g->b.v.ownBlock=some g->i=j
namespace Rws
variable {n0:Nat} {T T':Nat->Prop} {l:List Rw} {w w':World}
theorem at' (h:Rws n0 T l w) {i:Nat} {r:Rw} (e:l[i]?=some r):w.ownsRow n0 r.t 1 r.v r.xs.length r.xs:=h.own r (List.mem_of_getElem? e)
theorem lt (h:Rws n0 T l w) {r:Rw} (e:r ∈ l) {g:Nat} (hg:r.v.ownBlock=some g):g < w.heap.size:=own_block_lt (h.own r e) hg
theorem ty (h:Rws n0 T l w) {r:Rw} (e:r ∈ l) {g:Nat} (hg:r.v.ownBlock=some g):n0<=g/\TyB w g r.t:=own_ty (h.own r e) hg
theorem keep (h:Rws n0 T l w) (k:∀ g,g < w.heap.size->(∃ r ∈ l,r.v.ownBlock=some g)->w'.heap[g]?=w.heap[g]?):Rws n0 T l w':=
  ⟨fun r hr=>own_keep (h.own r hr) (fun g hg hl=>k g hl ⟨r,hr,hg⟩),h.out,h.ap⟩
theorem below (h:Rws n0 T l w) (hb:Below w.heap.size w w'):Rws n0 T l w':=h.keep (fun g hg _=>hb.block g hg)
theorem but (h:Rws n0 T l w) {Z:Nat} {t:TypeId} (hz:TyB w Z t) (ht:∀ r ∈ l,r.t ≠ t) (u:But Z w w'):Rws n0 T l w':=
  h.keep (fun g hg hr=>u.rest g hg (fun e=>by
    obtain ⟨r,h1,h2⟩:=hr
    exact ty_ne (h.ty h1 h2).2 hz (ht r h1) e))
theorem step (h:Rws n0 T l w) (k:∀ g,g < w.heap.size->¬ T g->w'.heap[g]?=w.heap[g]?) (hT:∀ g,T' g->T g\/w.heap.size<=g):Rws n0 T' l w':=by
  have h':=h.keep (w':=w') (fun g hg hr=>k g hg (by
    obtain ⟨r,h1,h2⟩:=hr
    exact h.out r h1 g h2))
  refine ⟨h'.own,fun r hr g hg ht=>?_,h'.ap⟩
  rcases hT g ht with q | q
  · exact h.out r hr g hg q
  have:=h.lt hr hg
  omega
theorem set (h:Rws n0 T l w) {i:Nat} {r r':Rw} (e:l[i]?=some r) (o:w'.ownsRow n0 r'.t 1 r'.v r'.xs.length r'.xs) (b:r'.v.ownBlock=r.v.ownBlock\/r'.v.ownBlock=some w.heap.size) (k:∀ g,g < w.heap.size->r.v.ownBlock ≠ some g->w'.heap[g]?=w.heap[g]?) (hT:∀ g,T g->g < w.heap.size):Rws n0 T (l.set i r') w':=by
  have hi:i < l.length:=(List.getElem?_eq_some_iff.1 e).1
  have mem:=List.mem_of_getElem? e
  have get:∀ j a,(l.set i r')[j]?=some a->(j=i/\a=r')\/(j ≠ i/\l[j]?=some a):=fun j a ha=>by
    by_cases q:j=i
    · subst q
      rw [List.getElem?_set_self hi] at ha
      exact .inl ⟨rfl,(Option.some.inj ha).symm⟩
    rw [List.getElem?_set_ne (fun e=>q e.symm)] at ha
    exact .inr ⟨q,ha⟩
  have other:∀ j a g,j ≠ i->l[j]?=some a->a.v.ownBlock=some g->r'.v.ownBlock ≠ some g:=fun j a g q ha hg hr=>by
    rcases b with b | b
    · exact q (h.ap j i a r g ha e hg (b ▸ hr))
    rw [b] at hr
    have:=h.lt (List.mem_of_getElem? ha) hg
    have:=Option.some.inj hr
    omega
  refine ⟨fun a ha=>?_,fun a ha g hg ht=>?_,fun j m a c g ha hc h1 h2=>?_⟩
  · obtain ⟨j,hj⟩:=List.getElem?_of_mem ha
    rcases get j a hj with ⟨_,rfl⟩ | ⟨q,hj'⟩
    · exact o
    have ma:=List.mem_of_getElem? hj'
    exact own_keep (h.own a ma) (fun g hg hl=>k g hl (fun e2=>q (h.ap j i a r g hj' e hg e2)))
  · obtain ⟨j,hj⟩:=List.getElem?_of_mem ha
    rcases get j a hj with ⟨_,rfl⟩ | ⟨q,hj'⟩
    · rcases b with b | b
      · exact h.out r mem g (b ▸ hg) ht
      rw [b] at hg
      have:=hT g ht
      have:=Option.some.inj hg
      omega
    exact h.out a (List.mem_of_getElem? hj') g hg ht
  rcases get j a ha with ⟨rfl,rfl⟩ | ⟨q,ha'⟩
  · rcases get m c hc with ⟨rfl,rfl⟩ | ⟨q2,hc'⟩
    · rfl
    exact absurd h1 (other m c g q2 hc' h2)
  rcases get m c hc with ⟨rfl,rfl⟩ | ⟨q2,hc'⟩
  · exact absurd h2 (other j a g q ha' h1)
  exact h.ap j m a c g ha' hc' h1 h2
theorem app (h:Rws n0 T l w) {i:Nat} {r:Rw} {v' x:Value} (e:l[i]?=some r) (g:w.grownBy w' r.v.ownBlock) (o:w'.ownsRow n0 r.t 1 v' (r.xs.length + 1) (r.xs ++ [x])) (b:v'.ownBlock=r.v.ownBlock\/v'.ownBlock=some w.heap.size) (hT:∀ g,T g->g < w.heap.size):Rws n0 T (l.set i ⟨v',r.t,r.xs ++ [x]⟩) w':=
  h.set (r':=⟨v',r.t,r.xs ++ [x]⟩) e (by show w'.ownsRow n0 r.t 1 v' (r.xs ++ [x]).length (r.xs ++ [x]); rw [List.length_append]; exact o) b (fun k hk hne=>g.block k hk (fun q=>hne q.symm)) hT
theorem store (h:Rws n0 T l w) {i:Nat} {r:Rw} {x:Value} {B k:Nat} (e:l[i]?=some r) (hB:r.v.ownBlock=some B) (o:w'.ownsRow n0 r.t 1 r.v r.xs.length (r.xs.set k x)) (u:But B w w') (hT:∀ g,T g->g < w.heap.size):Rws n0 T (l.set i ⟨r.v,r.t,r.xs.set k x⟩) w':=
  h.set (r':=⟨r.v,r.t,r.xs.set k x⟩) e (by show w'.ownsRow n0 r.t 1 r.v (r.xs.set k x).length (r.xs.set k x); rw [List.length_set]; exact o) (.inl rfl) (fun g hg hne=>u.rest g hg (fun q=>hne (by rw [hB,q]))) hT
end Rws
theorem own_store {w:World} {base n B c k:Nat} {t:TypeId} {xs:List Value} {x:Value} (h:w.ownsRow base t 1 (.slice (some ⟨B,0,none⟩) n c) n xs) (hk:k < n):(w.setCell ⟨B,k,none⟩ x).ownsRow base t 1 (.slice (some ⟨B,0,none⟩) n c) n (xs.set k x):=by
  obtain ⟨h1,h2⟩:=h
  refine ⟨by rw [List.length_set]; exact h1,?_⟩
  rcases h2 with ⟨q,_⟩ | ⟨g,cap,cur,q,a1,a2,a3,a4,a5,a6⟩
  · cases q
  cases q
  have hg:B < w.heap.size:=(Array.getElem?_eq_some_iff.1 a2).1
  have e:(w.setCell ⟨B,k,none⟩ x).heap[B]?=some (.cells (cur.setIfInBounds k x) t (0,0)):=by
    unfold World.setCell
    simp [Array.getElem?_modify,a2]
  refine .inr ⟨B,c,cur.setIfInBounds k x,rfl,a1,e,a3,a4,by rw [Array.size_setIfInBounds]; exact a5,?_⟩
  rw [Array.toList_setIfInBounds,List.take_set,a6]
end Go.Proofs.YtchfkncbemjepaaGreat

/- Layer 11's laws: the sending of ChannelsWhole in memory: its block and its rows. -/
namespace Go.Proofs.YtchfkncbemjepaaGreat
open Go.RowKit

def iVs (l:List Int):List Value:=l.map fun z=>.int .i64 z
structure Sz where
  v1:Value
  v2:Value
  v3:Value
  v4:Value
  v5:Value
  v6:Value
  ok:Bool
  by':Nat->Int
  so:Nat->Int
  v7:Value
def sC (M:Nat) (z:Sz) (j:Nat):Value:=match j with
  | 0=>.pointer (some ⟨M,0,none⟩)
  | 1=>z.v1
  | 2=>z.v2
  | 3=>z.v3
  | 4=>z.v4
  | 5=>z.v5
  | 6=>z.v6
  | 7=>.bool z.ok
  | 24=>z.v7
  | j=>if j < 16 then .int .i64 (z.by' (j - 8)) else .int .i64 (z.so (j - 16))
theorem sC_by (M:Nat) (z:Sz) {k:Nat} (h:k < 8):sC M z (8 + k)=.int .i64 (z.by' k):=by
  match k,h with
  | 0,_=>rfl
  | 1,_=>rfl
  | 2,_=>rfl
  | 3,_=>rfl
  | 4,_=>rfl
  | 5,_=>rfl
  | 6,_=>rfl
  | 7,_=>rfl
theorem sC_so (M:Nat) (z:Sz) {k:Nat} (h:k < 8):sC M z (16 + k)=.int .i64 (z.so k):=by
  match k,h with
  | 0,_=>rfl
  | 1,_=>rfl
  | 2,_=>rfl
  | 3,_=>rfl
  | 4,_=>rfl
  | 5,_=>rfl
  | 6,_=>rfl
  | 7,_=>rfl
structure SW (n5 S:Nat) (T:Nat->Prop) (w0:World) (l:List Rw) (c:Nat->Value) (w:World):Prop where
  rows:Rws n5 T l w
  cel:Cel w S 25 c
  ty:TyB w S 119
  low:Below n5 w0 w
  keep:∀ g,T g->w.heap[g]?=w0.heap[g]?
  tl:∀ g,T g->g < w0.heap.size
  sl:n5<=S
  st:¬ T S
  rt:∀ r ∈ l,r.t ≠ 119
theorem exec_append {ev:Operand->Value} {o:Oper} {w w2:World} {s x:Operand} {t:TypeId} {v u v':Value} (h:o.op=.call { callee:=.builtin .append,args:=#[s,x],argTypes:=#[t,t] }) (hs:ev s=v) (hx:ev x=u) (hr:(Builtin.append_ #[t,t] o.type #[v,u]).run Tryz.prog w=.ok v' w2):
    (execOp ev o).run Tryz.prog w=.ok (.value v') w2:=by
  unfold execOp
  simp only [h,resolve,invoke,builtin,Sem.run_bind,Sem.run_pure,Result.andThen_ok,List.map_toArray,List.map_cons,List.map_nil,hs,hx,hr]
theorem store_strsV {ev:Operand->Value} {w:World} {o:Oper} {x y:Operand} {X i:Nat} {u v:Value} (h:o.op=.store 43 x y) (hx:ev x=.pointer (some ⟨X,i,none⟩)) (hy:ev y=v) (hv:∃ a n c,v=.slice a n c) (hc:w.cell? ⟨X,i,none⟩=some u) (hf:w.frozen? ⟨X,i,none⟩=false):(execOp ev o).run Tryz.prog w=.ok .skip (w.setCell ⟨X,i,none⟩ v):=by
  obtain ⟨a,n,c,rfl⟩:=hv
  simp only [execOp,h,hx,hy]; go_simp
theorem store_intsV {ev:Operand->Value} {w:World} {o:Oper} {x y:Operand} {X i:Nat} {u v:Value} (h:o.op=.store 72 x y) (hx:ev x=.pointer (some ⟨X,i,none⟩)) (hy:ev y=v) (hv:∃ a n c,v=.slice a n c) (hc:w.cell? ⟨X,i,none⟩=some u) (hf:w.frozen? ⟨X,i,none⟩=false):(execOp ev o).run Tryz.prog w=.ok .skip (w.setCell ⟨X,i,none⟩ v):=by
  obtain ⟨a,n,c,rfl⟩:=hv
  simp only [execOp,h,hx,hy]; go_simp
namespace SW
variable {n5 S:Nat} {T:Nat->Prop} {w0 w w':World} {l:List Rw} {c:Nat->Value}
theorem hT (h:SW n5 S T w0 l c w):∀ g,T g->g < w.heap.size:=fun g hg=>Nat.lt_of_lt_of_le (h.tl g hg) h.low.size
theorem below (h:SW n5 S T w0 l c w) (hb:Below w.heap.size w w'):SW n5 S T w0 l c w':=
  ⟨h.rows.below hb,h.cel.below hb,h.ty.below hb,h.low.trans (hb.mono (Nat.le_of_lt (Nat.lt_of_le_of_lt h.sl h.ty.lt))),fun g hg=>(hb.block g (h.hT g hg)).trans (h.keep g hg),h.tl,h.sl,h.st,h.rt⟩
theorem is (h:SW n5 S T w0 l c w) {i:Nat} {r:Rw} (e:l[i]?=some r):∃ a n c,r.v=.slice a n c:=by
  obtain ⟨a,c,e⟩:=own_is (h.rows.at' e)
  exact ⟨a,_,c,e⟩
theorem build (h:SW n5 S T w0 l c w) {i:Nat} {t:TypeId} {x:Value} (e:l[i]?=some ⟨.slice none 0 0,t,[]⟩):SW n5 S T w0 (l.set i ⟨.slice (some ⟨w.heap.size,0,none⟩) 1 1,t,[x]⟩) c (w.alloc (.cells #[x] t)):=by
  have hb:Below w.heap.size w (w.alloc (.cells #[x] t)):=ba (Below.refl _ _) _
  have n5w:n5<=w.heap.size:=Nat.le_of_lt (Nat.lt_of_le_of_lt h.sl h.ty.lt)
  have h':=h.below hb
  refine ⟨h.rows.set (r':=⟨.slice (some ⟨w.heap.size,0,none⟩) 1 1,t,[x]⟩) e (own_new2 (vs:=[x]) rfl (by decide) n5w) (.inr rfl) (fun g hg _=>hb.block g hg) h.hT,h'.cel,h'.ty,h'.low,h'.keep,h.tl,h.sl,h.st,fun r hr=>?_⟩
  obtain ⟨j,hj⟩:=List.getElem?_of_mem hr
  by_cases q:j=i
  · subst q
    rw [List.getElem?_set_self (List.getElem?_eq_some_iff.1 e).1] at hj
    cases hj
    exact (h.rt ⟨.slice none 0 0,t,[]⟩ (List.mem_of_getElem? e):t ≠ _)
  rw [List.getElem?_set_ne (fun e=>q e.symm)] at hj
  exact h.rt _ (List.mem_of_getElem? hj)
theorem app (h:SW n5 S T w0 l c w) {i k b:Nat} {r:Rw} {x:Value} (e:l[i]?=some r) (ek:l[k]?=some ⟨.slice (some ⟨b,0,none⟩) 1 1,r.t,[x]⟩) (hx:x.oneCell'=true) (ts ty:TypeId) {ti:TypeInfo} {zv:Value} {bytes:Nat}
    (ht:Tryz.prog.underlying ts=some (.slice r.t)) (hi:Tryz.prog.info? r.t=some ti) (hz:ti.zero=some zv) (hs:ti.size=1) (hy:ti.bytes=bytes) (hc:zv.cells.size=1) (h63:r.xs.length<=1000000) (hbb:bytes<=16):
    ∃ v' w2,(Builtin.append_ #[ts,ts] ty #[r.v,.slice (some ⟨b,0,none⟩) 1 1]).run Tryz.prog w=.ok v' w2/\SW n5 S T w0 (l.set i ⟨v',r.t,r.xs ++ [x]⟩) c w2:=by
  have n5w:n5<=w.heap.size:=Nat.le_of_lt (Nat.lt_of_le_of_lt h.sl h.ty.lt)
  have hbt:(r.xs.length + 1) * bytes<=140737488355328:=by
    have:=Nat.mul_le_mul (show r.xs.length + 1<=1000001 by omega) hbb
    omega
  obtain ⟨v',w2,hr,o2,g2,k2⟩:=run_append_own2 (P:=Tryz.prog) w n5 ts ty r.t ti zv 1 bytes ht hi hz hs hy hc (by decide) r.v r.xs.length r.xs (h.rows.at' e) ⟨b,0,none⟩ 1 1 [x] rfl ((h.rows.at' ek).cells (g:=b) rfl) (fun u hu=>by simp at hu; subst hu; exact hx) (by unfold maxLen; omega) hbt n5w
  have mem:=List.mem_of_getElem? e
  have nS:r.v.ownBlock ≠ some S:=fun q=>ty_ne (h.rows.ty mem q).2 h.ty (h.rt r mem) rfl
  have nT:∀ g,T g->r.v.ownBlock ≠ some g:=fun g hg q=>h.rows.out r mem g q hg
  refine ⟨v',w2,hr,⟨h.rows.app e g2 o2 k2 h.hT,h.cel.of_block (g2.block S h.cel.lt (fun q=>nS q.symm)),h.ty.of_block (g2.block S h.ty.lt (fun q=>nS q.symm)),h.low.grown g2 n5w (fun g hg=>(h.rows.ty mem hg).1),fun g hg=>(g2.block g (h.hT g hg) (fun q=>nT g hg q.symm)).trans (h.keep g hg),h.tl,h.sl,h.st,fun a ha=>?_⟩⟩
  obtain ⟨j,hj⟩:=List.getElem?_of_mem ha
  by_cases q:j=i
  · subst q
    rw [List.getElem?_set_self (List.getElem?_eq_some_iff.1 e).1] at hj
    cases hj
    exact h.rt r mem
  rw [List.getElem?_set_ne (fun e=>q e.symm)] at hj
  exact h.rt _ (List.mem_of_getElem? hj)
theorem put (h:SW n5 S T w0 l c w) (j:Nat) (v:Value):SW n5 S T w0 l (fun q=>if q=j then v else c q) (w.setCell ⟨S,j,none⟩ v):=by
  have u:But S w (w.setCell ⟨S,j,none⟩ v):=(But.refl S w).setCell j _
  have hty:TyB (w.setCell ⟨S,j,none⟩ v) S 119:=by
    obtain ⟨cur,fe,hh⟩:=h.ty
    obtain ⟨c',hc'⟩:=cells_setCell (i:=j) (u:=v) hh
    exact ⟨c',fe,hc'⟩
  exact ⟨h.rows.but h.ty h.rt u,h.cel.set j v,hty,h.low.trans (u.below.mono h.sl),fun g hg=>(u.rest g (h.hT g hg) (fun q=>h.st (q ▸ hg))).trans (h.keep g hg),h.tl,h.sl,h.st,h.rt⟩
theorem store (h:SW n5 S T w0 l c w) {i B n cp p:Nat} {r:Rw} {x:Value} (e:l[i]?=some r) (hv:r.v=.slice (some ⟨B,0,none⟩) n cp) (hp:p < r.xs.length):
    ∃ u,w.cell? ⟨B,p,none⟩=some u/\w.frozen? ⟨B,p,none⟩=false/\SW n5 S T w0 (l.set i ⟨r.v,r.t,r.xs.set p x⟩) c (w.setCell ⟨B,p,none⟩ x):=by
  have mem:=List.mem_of_getElem? e
  have o:=h.rows.at' e
  have hB:r.v.ownBlock=some B:=by rw [hv]; rfl
  have oS:(w.setCell ⟨B,p,none⟩ x).ownsRow n5 r.t 1 r.v r.xs.length (r.xs.set p x):=by
    have o':=o
    obtain ⟨a,cap,e2⟩:=own_is o
    rw [e2] at hv
    cases hv
    rw [e2] at o' ⊢
    exact own_store o' hp
  have u:But B w (w.setCell ⟨B,p,none⟩ x):=(But.refl B w).setCell p _
  have nS:B ≠ S:=fun q=>ty_ne (h.rows.ty mem hB).2 h.ty (h.rt r mem) q
  have nT:¬ T B:=h.rows.out r mem B hB
  have n5B:n5<=B:=(h.rows.ty mem hB).1
  obtain ⟨cu,hc⟩:∃ cu,r.xs[p]?=some cu:=⟨_,List.getElem?_eq_getElem hp⟩
  refine ⟨cu,?_,?_,⟨h.rows.store e hB oS u h.hT,h.cel.but u (fun q=>nS q.symm),h.ty.but u (fun q=>nS q.symm),h.low.trans (u.below.mono n5B),fun g hg=>(u.rest g (h.hT g hg) (fun q=>nT (q ▸ hg))).trans (h.keep g hg),h.tl,h.sl,h.st,fun a ha=>?_⟩⟩
  · have:=o.cells (g:=B) hB p cu hc
    rwa [add_off,Nat.zero_add] at this
  · rcases o.2 with ⟨q,_⟩ | ⟨g,cap,cur,q,_,a2,_⟩
    · rw [hv] at q
      cases q
    rw [hv] at q
    cases q
    exact frozen_of_row w B p cur r.t a2
  obtain ⟨j,hj⟩:=List.getElem?_of_mem ha
  by_cases q:j=i
  · subst q
    rw [List.getElem?_set_self (List.getElem?_eq_some_iff.1 e).1] at hj
    cases hj
    exact (h.rt r mem:r.t ≠ _)
  rw [List.getElem?_set_ne (fun e=>q e.symm)] at hj
  exact h.rt _ (List.mem_of_getElem? hj)
theorem congr {c':Nat->Value} (h:SW n5 S T w0 l c w) (e:∀ j,j < 25->c j=c' j):SW n5 S T w0 l c' w:=⟨h.rows,h.cel.congr e,h.ty,h.low,h.keep,h.tl,h.sl,h.st,h.rt⟩
end SW
end Go.Proofs.YtchfkncbemjepaaGreat
