/- ChSharP -/
import Derived.Test.YtchfkncbemjepaaGreatChShP
set_option linter.unusedVariables false
/- Layer 11's laws, pure: the shares. -/
namespace Go.Proofs.YtchfkncbemjepaaGreat.Ch
open Go.Proofs.YtchfkncbemjepaaGreat

def s8 (f:Nat->Nat):Nat:=f 0 + f 1 + f 2 + f 3 + f 4 + f 5 + f 6 + f 7
theorem s8_upd (f:Nat->Nat) (p:Nat) (hp:p < 8):s8 (upd f p (f p + 1))=s8 f + 1:=by
  unfold s8 upd
  match p,hp with
  | 0,_=>simp; omega
  | 1,_=>simp; omega
  | 2,_=>simp; omega
  | 3,_=>simp; omega
  | 4,_=>simp; omega
  | 5,_=>simp; omega
  | 6,_=>simp; omega
  | 7,_=>simp; omega
theorem s8_eq {f g:Nat->Nat} (h:∀ i,i < 8->f i<=g i) (e:s8 f=s8 g):∀ i,i < 8->f i=g i:=by
  unfold s8 at e
  have h0:=h 0 (by omega)
  have h1:=h 1 (by omega)
  have h2:=h 2 (by omega)
  have h3:=h 3 (by omega)
  have h4:=h 4 (by omega)
  have h5:=h 5 (by omega)
  have h6:=h 6 (by omega)
  have h7:=h 7 (by omega)
  intro i hi
  match i,hi with
  | 0,_=>omega
  | 1,_=>omega
  | 2,_=>omega
  | 3,_=>omega
  | 4,_=>omega
  | 5,_=>omega
  | 6,_=>omega
  | 7,_=>omega
theorem top_const {k:Nat->Nat} {c:Nat}:∀ (l:List Nat),l ≠ []->(∀ i ∈ l,k i=c)->top k l=c
  | [],h,_=>absurd rfl h
  | [a],_,h=>by
    unfold top top
    rw [h a (List.mem_cons_self ..)]
    exact Nat.max_zero _
  | a :: b :: l,_,h=>by
    have e:=top_const (b :: l) (by simp) (fun i hi=>h i (List.mem_cons_of_mem _ hi))
    show max (k a) (top k (b :: l))=c
    rw [e,h a (List.mem_cons_self ..),Nat.max_self]
theorem best_const {k:Nat->Nat} {c:Nat} {l:List Nat} (hl:l ≠ []) (h:∀ i ∈ l,k i=c):best k l=l:=by
  unfold best
  rw [top_const l hl h,List.filter_eq_self]
  intro i hi
  rw [h i hi]
  simp
structure Full (x:Mx):Prop where
  w:∀ i,i < 8->x.n<=x.wt i
  p:∀ i,i < 8->x.pr i=0
theorem Full.c1 {x:Mx} (h:Full x):x.c1=allC:=best_const (c:=2) (by decide) (fun i hi=>by
  unfold Mx.back
  rw [if_pos (h.w i (mem_all.1 hi))])
theorem Full.c2 {x:Mx} (h:Full x):x.c2=allC:=by
  unfold Mx.c2
  rw [h.c1]
  exact best_const (c:=0) (by decide) (fun i hi=>h.p i (mem_all.1 hi))
theorem Full.busy {x:Mx} (h:Full x):¬ x.idle:=by
  unfold Mx.idle
  rw [h.c1]
  show ¬ x.back 0=0
  unfold Mx.back
  rw [if_pos (h.w 0 (by omega))]
  omega
structure Run (x:Mx) (sh:Nat->Nat) (many:Nat->Nat) (j:Nat):Prop where
  s:∀ i,i < 8->x.sh i=sh i
  sum:s8 many=j
  le:∀ i,i < 8->many i<=sh i
  st:(j=0/\∀ i,i < 8->x.cr i=0)\/(0 < j/\∀ i,i < 8->many i + x.cr i=sh i)
theorem Run.zero {x:Mx} {sh many:Nat->Nat} (h:Run x sh many 0):∀ i,i < 8->many i=0:=by
  have e:=h.sum
  unfold s8 at e
  intro i hi
  match i,hi with
  | 0,_=>omega
  | 1,_=>omega
  | 2,_=>omega
  | 3,_=>omega
  | 4,_=>omega
  | 5,_=>omega
  | 6,_=>omega
  | 7,_=>omega
theorem Run.cr1 {x:Mx} {sh many:Nat->Nat} {j:Nat} (h:Run x sh many j) (f:Full x) (hj:j < s8 sh):∀ i,i < 8->many i + x.cr1 i=sh i:=by
  have hb:x.cr (hd (best x.cr x.c2))=top x.cr allC:=by
    rw [f.c2]
    exact (mem_best.1 (hd_mem (best_ne (by decide)))).2
  rcases h.st with ⟨e,z⟩ | ⟨e,z⟩
  · subst e
    have t:top x.cr allC=0:=top_const allC (by decide) (fun i hi=>z i (mem_all.1 hi))
    intro i hi
    unfold Mx.cr1
    rw [hb,if_pos t,h.zero i hi,Nat.zero_add]
    have p:x.pr i=x.pr (hd x.c2):=by
      rw [f.c2,f.p i hi]
      exact (f.p 0 (by omega)).symm
    show (if i < 8/\x.pr i=x.pr (hd x.c2) then x.sh i else x.cr i)=sh i
    rw [if_pos ⟨hi,p⟩,h.s i hi]
  have t:top x.cr allC ≠ 0:=fun t0=>by
    have g:∀ i,i < 8->many i=sh i:=fun i hi=>by
      have:=top_ge x.cr allC i (mem_all.2 hi)
      have:=z i hi
      omega
    have e2:s8 many=s8 sh:=by
      unfold s8
      rw [g 0 (by omega),g 1 (by omega),g 2 (by omega),g 3 (by omega),g 4 (by omega),g 5 (by omega),g 6 (by omega),g 7 (by omega)]
    have:=h.sum
    omega
  intro i hi
  unfold Mx.cr1
  rw [hb,if_neg t]
  exact z i hi
theorem Full.ch {x:Mx} (f:Full x):x.ch=x.pick:=by
  unfold Mx.ch
  rw [if_neg f.busy]
theorem Run.next {x:Mx} {sh many:Nat->Nat} {j:Nat} (h:Run x sh many j) (o:x.Ok) (f:Full x) (hj:j < s8 sh):Run x.nxt sh (upd many x.ch (many x.ch + 1)) (j + 1):=by
  have hc:=h.cr1 f hj
  have hp:=x.ch_lt
  have one:1<=x.cr1 x.ch:=by rw [f.ch]; exact o.credit
  have ecr:x.nxt.cr=upd x.cr1 x.ch (x.cr1 x.ch - 1):=by
    show x.chz.cr=_
    unfold Mx.chz
    rw [if_neg f.busy,f.ch]
  have esh:x.nxt.sh=x.sh:=by
    show x.chz.sh=_
    unfold Mx.chz
    rw [if_neg f.busy]
  refine ⟨fun i hi=>by rw [esh]; exact h.s i hi,by rw [s8_upd many _ hp,h.sum],fun i hi=>?_,.inr ⟨by omega,fun i hi=>?_⟩⟩
  · have:=hc i hi
    unfold upd
    split
    · rename_i e
      subst e
      omega
    exact h.le i hi
  have:=hc i hi
  rw [ecr]
  unfold upd
  split
  · rename_i e
    subst e
    omega
  exact this
theorem Run.full {x:Mx} {sh many:Nat->Nat} (h:Run x sh many (s8 sh)):∀ i,i < 8->many i=sh i:=s8_eq h.le h.sum
theorem Run.again {x:Mx} {sh many:Nat->Nat} (h:Run x sh many (s8 sh)) (h1:0 < s8 sh):Run x sh (fun _=>0) 0:=
  ⟨h.s,rfl,fun _ _=>Nat.zero_le _,.inl ⟨rfl,fun i hi=>by
    have:=h.full i hi
    rcases h.st with ⟨e,_⟩ | ⟨_,z⟩
    · omega
    have:=z i hi
    omega⟩⟩
theorem Run.same {x y:Mx} {sh many:Nat->Nat} {j:Nat} (h:Run x sh many j) (es:y.sh=x.sh) (ec:y.cr=x.cr):Run y sh many j:=
  ⟨fun i hi=>by rw [es]; exact h.s i hi,h.sum,h.le,by rw [ec]; exact h.st⟩
end Go.Proofs.YtchfkncbemjepaaGreat.Ch
