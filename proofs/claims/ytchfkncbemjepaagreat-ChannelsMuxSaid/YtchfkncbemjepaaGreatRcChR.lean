/- RcChR -/
import Derived.Test.YtchfkncbemjepaaGreatChAll
import Derived.Test.YtchfkncbemjepaaGreatTmDuo
set_option linter.unusedVariables false
set_option maxRecDepth 100000
set_option maxHeartbeats 4000000
/- Layer 11, the reference: how its mux chooses, pure. -/
namespace Go.Proofs.YtchfkncbemjepaaGreat.Ch
open Go.Proofs.YtchfkncbemjepaaGreat

namespace Mx
def atl (x:Mx) (n:Nat):List Nat:=allC.filter (fun i=>decide (n<=x.wt i))
def cand (x:Mx):List Nat:=if x.atl x.n=[] then x.atl 1 else x.atl x.n
theorem mem_atl {x:Mx} {n i:Nat}:i ∈ x.atl n ↔ i < 8/\n<=x.wt i:=by
  unfold atl
  rw [List.mem_filter,mem_all]
  simp
theorem idle_top (x:Mx):x.idle ↔ top x.back allC=0:=by
  have:x.back (hd x.c1)=top x.back allC:=(mem_best.1 (hd_mem x.c1_ne)).2
  unfold idle
  rw [this]
theorem back_le (x:Mx) (i:Nat):x.back i<=2:=by
  unfold back
  split
  · omega
  split <;> omega
theorem cand_full {x:Mx} (h:x.atl x.n ≠ []):x.cand=x.c1/\¬ x.idle:=by
  obtain ⟨i0,hi0⟩:=List.exists_mem_of_ne_nil _ h
  obtain ⟨h8,hw⟩:=mem_atl.1 hi0
  have b0:x.back i0=2:=by unfold back; rw [if_pos hw]
  have t2:top x.back allC=2:=by
    have g:=top_ge x.back allC i0 (mem_all.2 h8)
    obtain ⟨j,_,hj⟩:=top_mem x.back allC (by decide)
    have:=x.back_le j
    omega
  refine ⟨?_,fun q=>by rw [idle_top,t2] at q; omega⟩
  unfold cand c1 best
  rw [if_neg h,t2]
  unfold atl
  refine List.filter_congr (fun i _=>?_)
  unfold back
  split
  · rename_i q
    rw [decide_eq_true q]
    rfl
  rename_i q
  rw [decide_eq_false q]
  split <;> rfl
theorem cand_some {x:Mx} (h:x.atl x.n=[]) (h1:x.atl 1 ≠ []):x.cand=x.c1/\¬ x.idle:=by
  obtain ⟨i0,hi0⟩:=List.exists_mem_of_ne_nil _ h1
  obtain ⟨h8,hw⟩:=mem_atl.1 hi0
  have no:∀ i,i < 8->¬ x.n<=x.wt i:=fun i hi q=>by
    have:i ∈ x.atl x.n:=mem_atl.2 ⟨hi,q⟩
    rw [h] at this
    cases this
  have b0:x.back i0=1:=by unfold back; rw [if_neg (no i0 h8),if_pos (by omega)]
  have t2:top x.back allC=1:=by
    have g:=top_ge x.back allC i0 (mem_all.2 h8)
    obtain ⟨j,hj0,hj⟩:=top_mem x.back allC (by decide)
    have:x.back j<=1:=by
      unfold back
      rw [if_neg (no j (mem_all.1 hj0))]
      split <;> omega
    omega
  refine ⟨?_,fun q=>by rw [idle_top,t2] at q; omega⟩
  unfold cand c1 best
  rw [if_pos h,t2]
  unfold atl
  refine List.filter_congr (fun i hi=>?_)
  unfold back
  rw [if_neg (no i (mem_all.1 hi))]
  split
  · rename_i q
    rw [decide_eq_true (show 1<=x.wt i by omega)]
    rfl
  rename_i q
  rw [decide_eq_false (show ¬ 1<=x.wt i by omega)]
  rfl
theorem cand_none {x:Mx} (hn:1<=x.n) (h1:x.atl 1=[]):x.idle:=by
  rw [idle_iff x hn]
  intro i hi
  apply Classical.byContradiction
  intro q
  have:i ∈ x.atl 1:=mem_atl.2 ⟨hi,by omega⟩
  rw [h1] at this
  cases this
def spv (x:Mx) (g:Nat) (l:List Nat) (k:Nat):Bool:=decide (∀ a ∈ l.take k,x.pr a=g->x.cr a=0)
theorem spv_zero (x:Mx) (g:Nat) (l:List Nat):x.spv g l 0=true:=by
  unfold spv
  rw [List.take_zero]
  exact decide_eq_true (fun a ha=>by cases ha)
theorem mem_step {l:List Nat} {k a:Nat} (h:l[k]?=some a) {b:Nat}:b ∈ l.take (k + 1) ↔ b ∈ l.take k\/b=a:=by
  rw [List.take_add_one,h,List.mem_append]
  simp
theorem spv_hit {x:Mx} {g:Nat} {l:List Nat} {k a:Nat} (h:l[k]?=some a) (hp:x.pr a=g) (hc:0 < x.cr a):x.spv g l (k + 1)=false:=by
  unfold spv
  refine decide_eq_false (fun q=>?_)
  have:=q a ((mem_step h).2 (.inr rfl)) hp
  omega
theorem spv_miss {x:Mx} {g:Nat} {l:List Nat} {k a:Nat} (h:l[k]?=some a) (hp:¬ (x.pr a=g/\0 < x.cr a)):x.spv g l (k + 1)=x.spv g l k:=by
  unfold spv
  refine decide_eq_decide.2 ⟨fun q b hb=>q b ((mem_step h).2 (.inl hb)),fun q b hb hg=>?_⟩
  rcases (mem_step h).1 hb with hb | rfl
  · exact q b hb hg
  apply Classical.byContradiction
  intro z
  exact hp ⟨hg,by omega⟩
theorem spv_all (x:Mx):x.spv (top x.pr x.c1) x.c1 x.c1.length=decide (x.cr (hd (best x.cr x.c2))=0):=by
  unfold spv
  rw [List.take_length]
  have e:x.cr (hd (best x.cr x.c2))=top x.cr x.c2:=(mem_best.1 (hd_mem (best_ne x.c2_ne))).2
  rw [e]
  refine decide_eq_decide.2 ⟨fun q=>?_,fun q a ha hp=>?_⟩
  · obtain ⟨j,hj,e⟩:=top_mem x.cr x.c2 x.c2_ne
    obtain ⟨h1,h2⟩:=mem_best.1 hj
    rw [<-e]
    exact q j h1 h2
  have:=top_ge x.cr x.c2 a (mem_best.2 ⟨ha,hp⟩)
  omega
theorem c2_top (x:Mx):x.pr (hd x.c2)=top x.pr x.c1:=(mem_best.1 (hd_mem x.c2_ne)).2
theorem cr1_spent {x:Mx} (h:x.spv (top x.pr x.c1) x.c1 x.c1.length=true):x.cr1=rnw x (top x.pr x.c1) 8:=by
  rw [spv_all] at h
  unfold cr1
  rw [if_pos (of_decide_eq_true h),c2_top]
  rfl
theorem cr1_kept {x:Mx} (h:x.spv (top x.pr x.c1) x.c1 x.c1.length=false):x.cr1=x.cr:=by
  rw [spv_all] at h
  unfold cr1
  rw [if_neg (of_decide_eq_false h)]
def pks (x:Mx) (g:Nat) (l:List Nat) (k:Nat):List Nat:=(l.take k).filter (fun i=>x.pr i == g)
theorem pks_yes {x:Mx} {g:Nat} {l:List Nat} {k a:Nat} (h:l[k]?=some a) (hp:x.pr a=g):x.pks g l (k + 1)=x.pks g l k ++ [a]:=by
  unfold pks
  rw [List.take_add_one,h,List.filter_append]
  simp [hp]
theorem pks_no {x:Mx} {g:Nat} {l:List Nat} {k a:Nat} (h:l[k]?=some a) (hp:¬ x.pr a=g):x.pks g l (k + 1)=x.pks g l k:=by
  unfold pks
  rw [List.take_add_one,h,List.filter_append]
  simp [hp]
theorem pks_all (x:Mx):x.pks (top x.pr x.c1) x.c1 x.c1.length=x.c2:=by
  unfold pks c2 best
  rw [List.take_length]
theorem pks_zero (x:Mx) (g:Nat) (l:List Nat):x.pks g l 0=[]:=by
  unfold pks
  rw [List.take_zero]
  rfl
end Mx
theorem best_more {k:Nat->Nat} {m:List Nat} {a:Nat} (h:top k m < k a):best k (m ++ [a])=[a]:=by
  unfold best
  rw [top_app,show max (top k m) (k a)=k a by omega,List.filter_append]
  have:m.filter (fun i=>k i == k a)=[]:=by
    rw [List.filter_eq_nil_iff]
    intro i hi q
    have:=top_ge k m i hi
    rw [beq_iff_eq] at q
    omega
  rw [this]
  simp
theorem best_less {k:Nat->Nat} {m:List Nat} {a:Nat} (hm:m ≠ []) (h:¬ top k m < k a):hd (best k (m ++ [a]))=hd (best k m):=by
  have e:top k (m ++ [a])=top k m:=by rw [top_app]; omega
  have b:best k (m ++ [a])=best k m ++ [a].filter (fun i=>k i == top k m):=by
    unfold best
    rw [e,List.filter_append]
  rw [b]
  have:=best_ne (k:=k) hm
  cases q:best k m with
  | nil=>exact absurd q this
  | cons c l=>rfl
theorem hd_top {k:Nat->Nat} {m:List Nat} (hm:m ≠ []):k (hd (best k m))=top k m:=(mem_best.1 (hd_mem (best_ne hm))).2
def bsv (x:Mx) (g:Nat) (l:List Nat) (k:Nat):Option Nat:=if x.pks g l k=[] then none else some (hd (best x.cr1 (x.pks g l k)))
theorem bsv_zero (x:Mx) (g:Nat) (l:List Nat):bsv x g l 0=none:=by
  unfold bsv
  rw [if_pos (x.pks_zero g l)]
theorem bsv_no {x:Mx} {g:Nat} {l:List Nat} {k a:Nat} (h:l[k]?=some a) (hp:¬ x.pr a=g):bsv x g l (k + 1)=bsv x g l k:=by
  unfold bsv
  rw [Mx.pks_no h hp]
theorem bsv_first {x:Mx} {g:Nat} {l:List Nat} {k a:Nat} (h:l[k]?=some a) (hp:x.pr a=g) (e:bsv x g l k=none):bsv x g l (k + 1)=some a:=by
  unfold bsv at e ⊢
  by_cases q:x.pks g l k=[]
  · rw [Mx.pks_yes h hp,q,if_neg (by simp)]
    show some (hd (best x.cr1 [a]))=some a
    have:=hd_mem (best_ne (k:=x.cr1) (l:=[a]) (by simp))
    have:=(mem_best.1 this).1
    rw [List.mem_singleton.1 this]
  rw [if_neg q] at e
  cases e
theorem bsv_more {x:Mx} {g:Nat} {l:List Nat} {k a b:Nat} (h:l[k]?=some a) (hp:x.pr a=g) (e:bsv x g l k=some b) (hc:x.cr1 b < x.cr1 a):bsv x g l (k + 1)=some a:=by
  unfold bsv at e ⊢
  by_cases q:x.pks g l k=[]
  · rw [if_pos q] at e
    cases e
  rw [if_neg q] at e
  cases e
  rw [hd_top (k:=x.cr1) q] at hc
  rw [Mx.pks_yes h hp,if_neg (by simp),best_more hc]
  rfl
theorem bsv_less {x:Mx} {g:Nat} {l:List Nat} {k a b:Nat} (h:l[k]?=some a) (hp:x.pr a=g) (e:bsv x g l k=some b) (hc:¬ x.cr1 b < x.cr1 a):bsv x g l (k + 1)=some b:=by
  unfold bsv at e ⊢
  by_cases q:x.pks g l k=[]
  · rw [if_pos q] at e
    cases e
  rw [if_neg q] at e
  cases e
  rw [hd_top (k:=x.cr1) q] at hc
  rw [Mx.pks_yes h hp,if_neg (by simp),best_less q hc]
theorem bsv_all (x:Mx):bsv x (top x.pr x.c1) x.c1 x.c1.length=some x.pick:=by
  unfold bsv
  rw [x.pks_all,if_neg x.c2_ne]
  rfl
theorem bsv_mem {x:Mx} {g:Nat} {l:List Nat} {k b:Nat} (e:bsv x g l k=some b):b ∈ l:=by
  unfold bsv at e
  by_cases q:x.pks g l k=[]
  · rw [if_pos q] at e
    cases e
  rw [if_neg q] at e
  cases e
  have:=(mem_best.1 (hd_mem (best_ne (k:=x.cr1) q))).1
  unfold Mx.pks at this
  exact List.mem_of_mem_take (List.mem_filter.1 this).1
end Go.Proofs.YtchfkncbemjepaaGreat.Ch

/- Layer 11, the reference: its mux in memory; Waiting, Add, atLeast. -/
namespace Go.Proofs.YtchfkncbemjepaaGreat
open Go.RowKit

def yC (x:Ch.Mx) (Y:Nat->Nat) (j:Nat):Value:=
  if j < 1 then .int .i64 (x.craft:Nat) else
  if j < 2 then .int .i64 (x.n:Nat) else
  if j < 10 then .int .i64 (x.pr (j - 2):Nat) else
  if j < 18 then .int .i64 (x.sh (j - 10):Nat) else
  if j < 26 then .pointer (some ⟨Y (j - 18),0,none⟩) else
  if j < 27 then .int .i64 (x.ma:Nat) else
  if j < 35 then .int .i64 (x.ct (j - 27):Nat) else .int .i64 (x.cr (j - 35):Nat)
structure MY (w:World) (n0 M:Nat) (x:Ch.Mx) (Y:Nat->Nat):Prop where
  xl:n0<=M
  ty:TyB w M 90
  c:Cel w M 43 (yC x Y)
  f:∀ i,i < 8->PY w n0 (Y i) x.n (x.fl i)
  yl:∀ i,i < 8->n0<=Y i
  ne:∀ i j,i < 8->j < 8->i ≠ j->Y i ≠ Y j
abbrev RTs:List TypeId:=[90,131]
theorem RK.rts {base r:Nat} {w w':World} {t:TypeId} (k:RK base r w w') (h:TyB w r t) (ht:t ∈ RTs):Kp base RTs false w w':=by
  have q:=k.kp h
  exact ⟨q.below,fun b cur s fr e hn=>q.cells b cur s fr e (fun z=>by
    rw [List.mem_singleton] at z
    subst z
    exact hn ht),q.maps⟩
namespace MY
variable {w w':World} {n0 M:Nat} {x:Ch.Mx} {Y:Nat->Nat}
theorem kp {n1:Nat} {ts:List TypeId} {m:Bool} (h:MY w n0 M x Y) (k:Kp n1 ts m w w') (t1:90 ∉ ts) (t2:131 ∉ ts) (t3:9 ∉ ts):MY w' n0 M x Y:=
  ⟨h.xl,h.ty.kp k t1,h.c.kp h.ty k t1,fun i hi=>(h.f i hi).kp k t2 t3,h.yl,h.ne⟩
theorem below (h:MY w n0 M x Y) (hb:Below w.heap.size w w'):MY w' n0 M x Y:=
  ⟨h.xl,h.ty.below hb,h.c.below hb,fun i hi=>(h.f i hi).below hb,h.yl,h.ne⟩
theorem setM {x':Ch.Mx} (h:MY w n0 M x Y) (k:But M w w') (c:Cel w' M 43 (yC x' Y)) (t:TyB w' M 90) (hn:x'.n=x.n) (hf:x'.fl=x.fl):MY w' n0 M x' Y/\Kp n0 RTs false w w':=by
  have K:=(RK.of_but k h.xl).rts h.ty (by decide)
  have k1:=(RK.of_but k h.xl).kp h.ty
  exact ⟨⟨h.xl,t,c,fun i hi=>by
    rw [hn,hf]
    exact (h.f i hi).kp k1 (by decide) (by decide),h.yl,h.ne⟩,K⟩
theorem setF {i:Nat} {s':Tm.Fl} (h:MY w n0 M x Y) (hi:i < 8) (p:PY w' n0 (Y i) x.n s') (k:RK n0 (Y i) w w'):
    MY w' n0 M { x with fl:=Ch.upd x.fl i s' } Y/\Kp n0 RTs false w w':=by
  have K:=k.rts (h.f i hi).ty (by decide)
  have k1:=k.kp (h.f i hi).ty
  refine ⟨⟨h.xl,h.ty.kp k1 (by decide),h.c.kp h.ty k1 (by decide),fun j hj=>?_,h.yl,h.ne⟩,K⟩
  show PY w' n0 (Y j) x.n (Ch.upd x.fl i s' j)
  by_cases e:j=i
  · subst e
    rw [Ch.upd_same]
    exact p
  rw [Ch.upd_ne _ _ e]
  exact (h.f j hj).rk k (h.f i hi).ty (h.ne j i hj hi e)
theorem cell (h:MY w n0 M x Y) {j:Nat} (hj:j < 43):w.cell? ⟨M,j,none⟩=some (yC x Y j):=h.c.cell hj
theorem cpr (h:MY w n0 M x Y) {i:Nat} (hi:i < 8):w.cell? ⟨M,2 + i,none⟩=some (.int .i64 (x.pr i:Nat)):=by
  rw [h.cell (by omega)]
  unfold yC
  rw [if_neg (by omega),if_neg (by omega),if_pos (by omega),Nat.add_sub_cancel_left]
theorem csh (h:MY w n0 M x Y) {i:Nat} (hi:i < 8):w.cell? ⟨M,10 + i,none⟩=some (.int .i64 (x.sh i:Nat)):=by
  rw [h.cell (by omega)]
  unfold yC
  rw [if_neg (by omega),if_neg (by omega),if_neg (by omega),if_pos (by omega),Nat.add_sub_cancel_left]
theorem cfl (h:MY w n0 M x Y) {i:Nat} (hi:i < 8):w.cell? ⟨M,18 + i,none⟩=some (.pointer (some ⟨Y i,0,none⟩)):=by
  rw [h.cell (by omega)]
  unfold yC
  rw [if_neg (by omega),if_neg (by omega),if_neg (by omega),if_neg (by omega),if_pos (by omega),Nat.add_sub_cancel_left]
theorem cct (h:MY w n0 M x Y) {i:Nat} (hi:i < 8):w.cell? ⟨M,27 + i,none⟩=some (.int .i64 (x.ct i:Nat)):=by
  rw [h.cell (by omega)]
  unfold yC
  rw [if_neg (by omega),if_neg (by omega),if_neg (by omega),if_neg (by omega),if_neg (by omega),if_neg (by omega),if_pos (by omega),Nat.add_sub_cancel_left]
theorem ccr (h:MY w n0 M x Y) {i:Nat} (hi:i < 8):w.cell? ⟨M,35 + i,none⟩=some (.int .i64 (x.cr i:Nat)):=by
  rw [h.cell (by omega)]
  unfold yC
  rw [if_neg (by omega),if_neg (by omega),if_neg (by omega),if_neg (by omega),if_neg (by omega),if_neg (by omega),if_neg (by omega),Nat.add_sub_cancel_left]
theorem cma (h:MY w n0 M x Y):w.cell? ⟨M,26,none⟩=some (.int .i64 (x.ma:Nat)):=h.cell (by omega)
theorem ccf (h:MY w n0 M x Y):w.cell? ⟨M,0,none⟩=some (.int .i64 (x.craft:Nat)):=h.cell (by omega)
theorem csz (h:MY w n0 M x Y):w.cell? ⟨M,1,none⟩=some (.int .i64 (x.n:Nat)):=h.cell (by omega)
end MY
theorem yC_cr (x:Ch.Mx) (Y:Nat->Nat) (i v:Nat):∀ j,j < 43->(if j=35 + i then Value.int .i64 (v:Nat) else yC x Y j)=yC { x with cr:=Ch.upd x.cr i v } Y j:=fun j hj=>by
  unfold yC
  by_cases e:j=35 + i
  · subst e
    rw [if_pos rfl,if_neg (by omega),if_neg (by omega),if_neg (by omega),if_neg (by omega),if_neg (by omega),if_neg (by omega),if_neg (by omega),Nat.add_sub_cancel_left]
    exact congrArg (fun z:Nat=>Value.int .i64 z) (Ch.upd_same x.cr i v).symm
  rw [if_neg e]
  by_cases q:j < 35
  · have a:∀ z1 z2:Value,(if j < 35 then Value.int .i64 (x.ct (j - 27):Nat) else z1)=(if j < 35 then Value.int .i64 (x.ct (j - 27):Nat) else z2):=fun z1 z2=>by rw [if_pos q,if_pos q]
    rw [a]
  rw [if_neg (by omega),if_neg (by omega),if_neg (by omega),if_neg (by omega),if_neg (by omega),if_neg (by omega),if_neg q,if_neg (by omega),if_neg (by omega),if_neg (by omega),if_neg (by omega),if_neg (by omega),if_neg (by omega),if_neg q]
  exact congrArg (fun z:Nat=>Value.int .i64 z) (Ch.upd_ne x.cr v (fun z=>e (by omega))).symm
section
variable {w:World} {n0 M:Nat} {x:Ch.Mx} {Y:Nat->Nat}
theorem rmWait_no (c:Int) (hc:¬ (0<=c/\c < 8)):Calls Tryz.prog 19 #[.pointer (some ⟨M,0,none⟩),.int .i64 c] w fun e w'=>e=.returned (.int .i64 0)/\w=w':=by
  by_cases g:c < 0
  · go_enter Tryz.func19,Tryz.ntmps19
    go_wp2_with fail
    go_ret
    exact ⟨rfl,rfl⟩
  have g2:7 < c:=by omega
  clear hc
  go_enter Tryz.func19,Tryz.ntmps19
  go_wp2_with fail
  go_ret
  exact ⟨rfl,rfl⟩
theorem rmWait_any (h:MY w n0 M x Y) (o:x.Ok) (c:Nat) (hc:c < 8):
    Calls Tryz.prog 19 #[.pointer (some ⟨M,0,none⟩),.int .i64 (c:Nat)] w fun e w'=>e=.returned (.int .i64 (x.wt c:Nat))/\w=w':=by
  have c0:=h.cfl hc
  have i0:(0:Int)<=(c:Int):=by omega
  have i1:(c:Int) < 8:=by omega
  have i2:decide (7 < (c:Int))=false:=decide_eq_false (by omega)
  have i3:decide ((c:Int) < 0)=false:=decide_eq_false (by omega)
  have YW:=Lib.hid (ywaitR (h.f c hc) (o.fl c hc))
  clear h o hc
  go_enter Tryz.func19,Tryz.ntmps19
  go_wp2_with fail
  (refine YW.out.mono ?_)
  rintro e w1 ⟨rfl,rfl⟩
  go_wp2_with fail
  go_ret
  exact ⟨rfl,rfl⟩
theorem rmAdd_no (c:Int) (hc:¬ (0<=c/\c < 8)) (p:ByteArray):Calls Tryz.prog 13 #[.pointer (some ⟨M,0,none⟩),.int .i64 c,.string p] w fun e w'=>e=.returned (.int .i64 2)/\w=w':=by
  by_cases g:c < 0
  · go_enter Tryz.func13,Tryz.ntmps13
    go_wp2_with fail
    go_ret
    exact ⟨rfl,rfl⟩
  have g2:7 < c:=by omega
  clear hc
  go_enter Tryz.func13,Tryz.ntmps13
  go_wp2_with fail
  go_ret
  exact ⟨rfl,rfl⟩
theorem rmAdd_any (h:MY w n0 M x Y) (o:x.Ok) (hn0:n0<=w.heap.size) (c:Nat) (hc:c < 8) (p:ByteArray) (hp:p.size<=2000):
    Calls Tryz.prog 13 #[.pointer (some ⟨M,0,none⟩),.int .i64 (c:Nat),.string p] w fun e w'=>e=.returned (.int .i64 (acV (x.fl c) p))/\MY w' n0 M (x.add c p) Y/\Kp n0 RTs false w w':=by
  have c0:=h.cfl hc
  have i0:(0:Int)<=(c:Int):=by omega
  have i1:(c:Int) < 8:=by omega
  have i2:decide (7 < (c:Int))=false:=decide_eq_false (by omega)
  have i3:decide ((c:Int) < 0)=false:=decide_eq_false (by omega)
  have YA:=Lib.hid (yaddR (h.f c hc) (o.fl c hc) hn0 p hp)
  have H:=Lib.hid h
  have HC:=Lib.hid hc
  clear h o hc hn0 hp
  go_enter Tryz.func13,Tryz.ntmps13
  go_wp2_with fail
  (refine YA.out.mono ?_)
  rintro e w1 ⟨rfl,P1,K1⟩
  have R:=Lib.hid (H.out.setF HC.out P1 K1)
  clear P1 K1
  go_wp2_with fail
  go_ret
  exact ⟨rfl,R.out.1,R.out.2⟩
def inVs (l:List Nat):List Value:=l.map fun i=>.int .i64 (i:Nat)
theorem inVs_add (l:List Nat) (i:Nat):inVs l ++ [.int .i64 (i:Nat)]=inVs (l ++ [i]):=by unfold inVs; rw [List.map_append]; rfl
theorem inVs_at {l:List Nat} {k i:Nat} (h:l[k]?=some i):(inVs l)[k]?=some (.int .i64 (i:Nat)):=by unfold inVs; rw [List.getElem?_map,h]; rfl
def Ic (w:World) (b:Nat) (v:Value) (l:List Nat):Prop:=w.ownsRow b 3 1 v l.length (inVs l)
theorem Ic.open {w:World} {b:Nat} {v:Value} {l:List Nat} (h:Ic w b v l) (hl:l ≠ []):∃ B c,v=.slice (some ⟨B,0,none⟩) l.length c/\b<=B/\TyB w B 3/\∀ j i,l[j]?=some i->w.cell? ⟨B,j,none⟩=some (.int .i64 (i:Nat)):=by
  obtain ⟨a,c,rfl⟩:=own_is h
  obtain ⟨g,rfl,h1,h2⟩:=row_some h (List.length_pos_iff.2 hl)
  exact ⟨g,c,rfl,h1,h2,fun j i hj=>by
    have:=own_cells h _ rfl j _ (inVs_at hj)
    rwa [add_off,Nat.zero_add] at this⟩
theorem build_i1 {ev:Operand->Value} {w:World} {o:Oper} {x:Operand} {s:Int} (h:o.op=.buildSlice 72 1 #[(0,x)]) (hx:ev x=.int .i64 s):(execOp ev o).run Tryz.prog w=.ok (.value (.slice (some ⟨w.heap.size,0,none⟩) 1 1)) (w.alloc (.cells ([.int .i64 s]:List Value).toArray 3)):=by
  simp only [execOp,h]; go_simp
theorem atl_take {x:Ch.Mx} {n i:Nat} (h:i < 8):(Ch.allC.take (i + 1)).filter (fun i=>decide (n<=x.wt i))=(Ch.allC.take i).filter (fun i=>decide (n<=x.wt i)) ++ (if n<=x.wt i then [i] else []):=by
  rw [all_take h,List.filter_append]
  congr 1
  split
  · rename_i q
    simp [q]
  rename_i q
  simp [q]
theorem atl_any (h:MY w n0 M x Y) (o:x.Ok) (n:Nat):
    Calls Tryz.prog 84 #[.pointer (some ⟨M,0,none⟩),.int .i64 (n:Nat)] w fun e w'=>∃ v,e=.returned v/\Ic w' w.heap.size v (x.atl n)/\Below w.heap.size w w':=by
  obtain ⟨j0,hj0,hy0,hy1,hy2⟩:=info_parts info_i64
  have B0:=Lib.hid (Below.refl w.heap.size w)
  have H:=Lib.hid h
  have O:=Lib.hid o
  clear h o
  go_enter Tryz.func84,Tryz.ntmps84
  go_wp2_with fail
  go_loopw [5,6] (fun x5 x6 wr=>∃ i:Nat,i<=8/\x6=.int .i64 i/\Ic wr w.heap.size x5 ((Ch.allC.take i).filter (fun i=>decide (n<=x.wt i)))/\Below w.heap.size w wr) (fun _ x6 _=>8 - (intOf x6).toNat)
  case atStart=>exact ⟨0,Nat.zero_le _,rfl,World.ownsRow_nil _ _ _ _,B0.out⟩
  case round=>
    obtain ⟨i,hi,rfl,hO,hB3⟩:=hrel
    have OR:=Lib.hid hO
    have B3:=Lib.hid hB3
    have N3:=Lib.hid hB3.size
    have LF:=Lib.hid (show ((Ch.allC.take i).filter (fun i=>decide (n<=x.wt i))).length<=8 from Nat.le_trans (List.length_filter_le _ _) (by rw [List.length_take]; exact Nat.le_trans (Nat.min_le_left _ _) hi))
    clear hO hB3
    by_cases hlt:i < 8
    · have i1:(i:Int) < 8:=by omega
      have i0:(0:Int)<=(i:Int):=by omega
      have TK:=Lib.hid (atl_take (x:=x) (n:=n) hlt)
      have WT:=Lib.hid (rmWait_any (H.out.below B3.out) O.out i hlt)
      obtain ⟨t,ht⟩:∃ t,x.wt i=t:=⟨_,rfl⟩
      rw [ht] at WT TK
      clear ht
      by_cases g:n<=t
      · have q1:decide ((n:Int)<=(t:Int))=true:=decide_eq_true (by omega)
        have q1n:decide (n<=t)=true:=decide_eq_true g
        rw [if_pos g] at TK
        clear g
        go_wp2_with fail
        (with_reducible refine WT.out.mono ?_)
        rintro e w1 ⟨rfl,rfl⟩
        go_wp2_with (first
          | ((with_reducible refine atList ?_); refine wpList_newOwn rfl (.buildSlice 72 1 #[(0,.tmp 17)]) rfl [.int .i64 (i:Nat)] 3 1 w.heap.size rfl (by unfold maxLen; omega) N3.out (build_i1 rfl rfl) ?_; intro A5 w5 HA5 OA5 LA5)
          | (at_builtin; (with_reducible refine atList ?_); refine wpList_append_own2 rfl (.tmp 16) (.tmp 18) 72 rfl w.heap.size 3 j0 (.int .i64 0) 1 8 Tryz.underlying72 hj0 hy0 hy1 hy2 rfl (by decide) _ _ _ rfl (own_below OR.out LA5.out) ⟨A5,0,none⟩ 1 1 [.int .i64 (i:Nat)] rfl rfl (own_cells OA5.out ⟨A5,0,none⟩ rfl) (by simp [Value.oneCell']) (by unfold maxLen; have:=LF.out; omega) (by have:=LF.out; omega) (Nat.le_trans N3.out LA5.out.size) ?_; intro v6 w6 O6 g6 k6; have B6:=Lib.hid ((bt B3.out LA5.out).grown g6 (Nat.le_trans N3.out LA5.out.size) (fun k e=>(own_ty (own_below OR.out LA5.out) e).1)); have HO6:=Lib.hid O6; clear O6 g6 k6))
        go_roundw
        case rel=>exact ⟨i + 1,by omega,by go_num,by
          show World.ownsRow _ _ _ _ _ _ _
          rw [TK.out,List.length_append,<-inVs_add]
          exact HO6.out,B6.out⟩
        case measure=>simp [intOf]; omega
      have q1:decide ((n:Int)<=(t:Int))=false:=decide_eq_false (by omega)
      have q1n:decide (n<=t)=false:=decide_eq_false g
      rw [if_neg g,List.append_nil] at TK
      clear g
      go_wp2_with fail
      (with_reducible refine WT.out.mono ?_)
      rintro e w1 ⟨rfl,rfl⟩
      go_wp2_with fail
      go_roundw
      case rel=>exact ⟨i + 1,by omega,by go_num,by rw [TK.out]; exact OR.out,B3.out⟩
      case measure=>simp [intOf]; omega
    obtain rfl:8=i:=by omega
    have OR2:=Lib.hid (show Ic wr w.heap.size u5 (x.atl n) from OR.out)
    clear OR
    obtain ⟨sa,sc,hv⟩:=own_is OR2.out
    subst hv
    go_wp2_with fail
    go_ret
    exact ⟨_,rfl,OR2.out,B3.out⟩
end
end Go.Proofs.YtchfkncbemjepaaGreat

/- Layer 11, the reference: choose: its drawn regions. -/
namespace Go.Proofs.YtchfkncbemjepaaGreat
open Go.RowKit

section
structure RcRegion21 (M i u:Nat) (A:Act) (w0:World) (s:Nat->Bool) (a:Act) (w:World):Prop where
  off:Off [86,87,88,89,90,91,92,93,94,95,96] a A
  before:Below w0.heap.size w0 w
  t0:s 0=true->a.eval (.tmp 86)=.pointer (some ⟨M,0,none⟩)
  t1:s 1=true->a.eval (.tmp 87)=.int .i64 (i:Nat)
  t2:s 2=true->a.eval (.tmp 88)=.pointer (some ⟨M,0,none⟩)
  t3:s 3=true->a.eval (.tmp 89)=.int .i64 (i:Nat)
  t4:s 4=true->a.eval (.tmp 90)=.pointer (some ⟨M,0,none⟩)
  t5:s 5=true->a.eval (.tmp 91)=.pointer (some ⟨M,10,none⟩)
  t6:s 6=true->a.eval (.tmp 92)=.pointer (some ⟨M,10 + i,none⟩)
  t7:s 7=true->a.eval (.tmp 93)=.int .i64 (u:Nat)
  t8:s 8=true->a.eval (.tmp 94)=.pointer (some ⟨M,0,none⟩)
  t9:s 9=true->a.eval (.tmp 95)=.pointer (some ⟨M,35,none⟩)
  t10:s 10=true->a.eval (.tmp 96)=.pointer (some ⟨M,35 + i,none⟩)
theorem rcRegion21 {id:Nat} {l:List Oper} {A:Act} {w:World} {Q:Exit->Act->World->Prop} (M i u:Nat)
    (lM:M < w.heap.size) (hi0:(0:Int)<=(i:Int)) (hi1:(i:Int) < 8) (cS:w.cell? ⟨M,10 + i,none⟩=some (.int .i64 (u:Nat)))
    (hB:tableH l.toArray 11 (fun i=>match i with | 0=>[] | 1=>[] | 2=>[] | 3=>[] | 4=>[2] | 5=>[4] | 6=>[5,3] | 7=>[6] | 8=>[0] | 9=>[8] | 10=>[9,1] | _=>[]) (fun _=>[])=true)
    (h0:pick l 0=some (.move (.tmp 0),some 86))
    (h1:pick l 1=some (.move (.tmp 9),some 87))
    (h2:pick l 2=some (.move (.tmp 0),some 88))
    (h3:pick l 3=some (.move (.tmp 9),some 89))
    (h4:pick l 4=some (.nilCheck (.tmp 88),some 90))
    (h5:pick l 5=some (.fieldAddr 90 (.tmp 90) 3,some 91))
    (h6:pick l 6=some (.indexAddr 22 (.tmp 91) (.tmp 89),some 92))
    (h7:pick l 7=some (.load 3 (.tmp 92),some 93))
    (h8:pick l 8=some (.nilCheck (.tmp 86),some 94))
    (h9:pick l 9=some (.fieldAddr 90 (.tmp 94) 7,some 95))
    (h10:pick l 10=some (.indexAddr 22 (.tmp 95) (.tmp 87),some 96))
    (hs:A.tmps.size=151)
    (x0:A.eval (.tmp 0)=.pointer (some ⟨M,0,none⟩))
    (x9:A.eval (.tmp 9)=.int .i64 (i:Nat))
    (h:∀ w1,Below w.heap.size w w1->wpList Tryz.prog l.toArray Q (l.drop 11) (((((((((((A.put (some 86) (.pointer (some ⟨M,0,none⟩))).put (some 87) (.int .i64 (i:Nat))).put (some 88) (.pointer (some ⟨M,0,none⟩))).put (some 89) (.int .i64 (i:Nat))).put (some 90) (.pointer (some ⟨M,0,none⟩))).put (some 91) (.pointer (some ⟨M,10,none⟩))).put (some 92) (.pointer (some ⟨M,10 + i,none⟩))).put (some 93) (.int .i64 (u:Nat))).put (some 94) (.pointer (some ⟨M,0,none⟩))).put (some 95) (.pointer (some ⟨M,35,none⟩))).put (some 96) (.pointer (some ⟨M,35 + i,none⟩))) w1):
    (Code.region id l.toArray true).wp Tryz.prog Q A w:=by
  refine wp_region_head (by kernel_rfl) _ _ _ hB (RcRegion21 M i u A w) ⟨Off.refl _ _,(Below.refl _ _).drew,by simp,by simp,by simp,by simp,by simp,by simp,by simp,by simp,by simp,by simp,by simp⟩ ?_ ?_
  · intro s a w' S i' o il ho hsi hT K hK
    have sz:a.tmps.size=151:=by rw [S.off.2.1]; exact hs
    have y0:a.eval (.tmp 0)=.pointer (some ⟨M,0,none⟩):=by rw [S.off.eval (by decide)]; exact x0
    have y9:a.eval (.tmp 9)=.int .i64 (i:Nat):=by rw [S.off.eval (by decide)]; exact x9
    match i',il,ho,hsi,hT with
    | 0,_,ho,hsi,hT=>
      obtain ⟨e1,e2⟩:=pick_of h0 ho
      refine step_val (v:=.pointer (some ⟨M,0,none⟩)) (by simp only [execOp,e1,y0]; go_simp) (hK _ _ ?_)
      rw [e2]
      exact ⟨ofp S.off,S.before,ev_ (by omega),kp S.t1,kp S.t2,kp S.t3,kp S.t4,kp S.t5,kp S.t6,kp S.t7,kp S.t8,kp S.t9,kp S.t10⟩
    | 1,_,ho,hsi,hT=>
      obtain ⟨e1,e2⟩:=pick_of h1 ho
      refine step_val (v:=.int .i64 (i:Nat)) (by simp only [execOp,e1,y9]; go_simp) (hK _ _ ?_)
      rw [e2]
      exact ⟨ofp S.off,S.before,kp S.t0,ev_ (by omega),kp S.t2,kp S.t3,kp S.t4,kp S.t5,kp S.t6,kp S.t7,kp S.t8,kp S.t9,kp S.t10⟩
    | 2,_,ho,hsi,hT=>
      obtain ⟨e1,e2⟩:=pick_of h2 ho
      refine step_val (v:=.pointer (some ⟨M,0,none⟩)) (by simp only [execOp,e1,y0]; go_simp) (hK _ _ ?_)
      rw [e2]
      exact ⟨ofp S.off,S.before,kp S.t0,kp S.t1,ev_ (by omega),kp S.t3,kp S.t4,kp S.t5,kp S.t6,kp S.t7,kp S.t8,kp S.t9,kp S.t10⟩
    | 3,_,ho,hsi,hT=>
      obtain ⟨e1,e2⟩:=pick_of h3 ho
      refine step_val (v:=.int .i64 (i:Nat)) (by simp only [execOp,e1,y9]; go_simp) (hK _ _ ?_)
      rw [e2]
      exact ⟨ofp S.off,S.before,kp S.t0,kp S.t1,kp S.t2,ev_ (by omega),kp S.t4,kp S.t5,kp S.t6,kp S.t7,kp S.t8,kp S.t9,kp S.t10⟩
    | 4,_,ho,hsi,hT=>
      obtain ⟨e1,e2⟩:=pick_of h4 ho
      have D2:s 2=true:=list_pos hT (d:=2) (by decide)
      refine step_val (v:=.pointer (some ⟨M,0,none⟩)) (by simp only [execOp,e1,S.t2 D2]; go_simp) (hK _ _ ?_)
      rw [e2]
      exact ⟨ofp S.off,S.before,kp S.t0,kp S.t1,kp S.t2,kp S.t3,ev_ (by omega),kp S.t5,kp S.t6,kp S.t7,kp S.t8,kp S.t9,kp S.t10⟩
    | 5,_,ho,hsi,hT=>
      obtain ⟨e1,e2⟩:=pick_of h5 ho
      have D4:s 4=true:=list_pos hT (d:=4) (by decide)
      refine step_val (v:=.pointer (some ⟨M,10,none⟩)) (by simp only [execOp,e1,S.t4 D4]; go_simp) (hK _ _ ?_)
      rw [e2]
      exact ⟨ofp S.off,S.before,kp S.t0,kp S.t1,kp S.t2,kp S.t3,kp S.t4,ev_ (by omega),kp S.t6,kp S.t7,kp S.t8,kp S.t9,kp S.t10⟩
    | 6,_,ho,hsi,hT=>
      obtain ⟨e1,e2⟩:=pick_of h6 ho
      have D5:s 5=true:=list_pos hT (d:=5) (by decide)
      have D3:s 3=true:=list_pos hT (d:=3) (by decide)
      refine step_val (v:=.pointer (some ⟨M,10 + i,none⟩)) (by simp only [execOp,e1,S.t5 D5,S.t3 D3]; have hn:=hi0; have hn1:=hi1; first | (go_simp; done) | (go_simp; omega) | (go_simp; intro h; omega)) (hK _ _ ?_)
      rw [e2]
      exact ⟨ofp S.off,S.before,kp S.t0,kp S.t1,kp S.t2,kp S.t3,kp S.t4,kp S.t5,ev_ (by omega),kp S.t7,kp S.t8,kp S.t9,kp S.t10⟩
    | 7,_,ho,hsi,hT=>
      obtain ⟨e1,e2⟩:=pick_of h7 ho
      have D6:s 6=true:=list_pos hT (d:=6) (by decide)
      have BW:=S.before
      have cs:=(BW.cell (p:=⟨M,10 + i,none⟩) lM).trans cS
      refine step_val (v:=.int .i64 (u:Nat)) (by simp only [execOp,e1,S.t6 D6]; go_simp) (hK _ _ ?_)
      rw [e2]
      exact ⟨ofp S.off,S.before,kp S.t0,kp S.t1,kp S.t2,kp S.t3,kp S.t4,kp S.t5,kp S.t6,ev_ (by omega),kp S.t8,kp S.t9,kp S.t10⟩
    | 8,_,ho,hsi,hT=>
      obtain ⟨e1,e2⟩:=pick_of h8 ho
      have D0:s 0=true:=list_pos hT (d:=0) (by decide)
      refine step_val (v:=.pointer (some ⟨M,0,none⟩)) (by simp only [execOp,e1,S.t0 D0]; go_simp) (hK _ _ ?_)
      rw [e2]
      exact ⟨ofp S.off,S.before,kp S.t0,kp S.t1,kp S.t2,kp S.t3,kp S.t4,kp S.t5,kp S.t6,kp S.t7,ev_ (by omega),kp S.t9,kp S.t10⟩
    | 9,_,ho,hsi,hT=>
      obtain ⟨e1,e2⟩:=pick_of h9 ho
      have D8:s 8=true:=list_pos hT (d:=8) (by decide)
      refine step_val (v:=.pointer (some ⟨M,35,none⟩)) (by simp only [execOp,e1,S.t8 D8]; go_simp) (hK _ _ ?_)
      rw [e2]
      exact ⟨ofp S.off,S.before,kp S.t0,kp S.t1,kp S.t2,kp S.t3,kp S.t4,kp S.t5,kp S.t6,kp S.t7,kp S.t8,ev_ (by omega),kp S.t10⟩
    | 10,_,ho,hsi,hT=>
      obtain ⟨e1,e2⟩:=pick_of h10 ho
      have D9:s 9=true:=list_pos hT (d:=9) (by decide)
      have D1:s 1=true:=list_pos hT (d:=1) (by decide)
      refine step_val (v:=.pointer (some ⟨M,35 + i,none⟩)) (by simp only [execOp,e1,S.t9 D9,S.t1 D1]; have hn:=hi0; have hn1:=hi1; first | (go_simp; done) | (go_simp; omega) | (go_simp; intro h; omega)) (hK _ _ ?_)
      rw [e2]
      exact ⟨ofp S.off,S.before,kp S.t0,kp S.t1,kp S.t2,kp S.t3,kp S.t4,kp S.t5,kp S.t6,kp S.t7,kp S.t8,kp S.t9,ev_ (by omega)⟩
    | _ + 11,il,_,_,_=>exact absurd il (by omega)
  intro s a w' S hall
  have a0:=hall 0 (by omega)
  have a1:=hall 1 (by omega)
  have a2:=hall 2 (by omega)
  have a3:=hall 3 (by omega)
  have a4:=hall 4 (by omega)
  have a5:=hall 5 (by omega)
  have a6:=hall 6 (by omega)
  have a7:=hall 7 (by omega)
  have a8:=hall 8 (by omega)
  have a9:=hall 9 (by omega)
  have a10:=hall 10 (by omega)
  have e:=off_norm _ (by intro d hd; simp at hd; omega) S.off
  simp only [List.foldl,S.t0 a0,S.t1 a1,S.t2 a2,S.t3 a3,S.t4 a4,S.t5 a5,S.t6 a6,S.t7 a7,S.t8 a8,S.t9 a9,S.t10 a10] at e
  rw [e]
  exact h _ S.before
structure RcRegion27 (M i u y:Nat) (A:Act) (w0:World) (s:Nat->Bool) (a:Act) (w:World):Prop where
  off:Off [140,141,142,143,144,145,146,147,148,149] a A
  before:Below w0.heap.size w0 w
  t0:s 0=true->a.eval (.tmp 140)=.pointer (some ⟨M,0,none⟩)
  t1:s 1=true->a.eval (.tmp 141)=.int .i64 (i:Nat)
  t2:s 2=true->a.eval (.tmp 142)=.pointer (some ⟨M,0,none⟩)
  t3:s 3=true->a.eval (.tmp 143)=.pointer (some ⟨M,35,none⟩)
  t4:s 4=true->a.eval (.tmp 144)=.pointer (some ⟨M,35 + i,none⟩)
  t5:s 5=true->a.eval (.tmp 145)=.int .i64 (u:Nat)
  t6:s 6=true->a.eval (.tmp 146)=.int .i64 (y:Nat)
  t7:s 7=true->a.eval (.tmp 147)=.pointer (some ⟨M,0,none⟩)
  t8:s 8=true->a.eval (.tmp 148)=.pointer (some ⟨M,35,none⟩)
  t9:s 9=true->a.eval (.tmp 149)=.pointer (some ⟨M,35 + i,none⟩)
theorem rcRegion27 {id:Nat} {l:List Oper} {A:Act} {w:World} {Q:Exit->Act->World->Prop} (M i u y:Nat)
    (lM:M < w.heap.size) (hi0:(0:Int)<=(i:Int)) (hi1:(i:Int) < 8) (e1:IntKind.i64.wrap ((u:Int) - 1)=((y:Nat):Int)) (cS:w.cell? ⟨M,35 + i,none⟩=some (.int .i64 (u:Nat)))
    (hB:tableH l.toArray 10 (fun i=>match i with | 0=>[] | 1=>[] | 2=>[0] | 3=>[2] | 4=>[3,1] | 5=>[4] | 6=>[5] | 7=>[0] | 8=>[7] | 9=>[8,1] | _=>[]) (fun _=>[])=true)
    (h0:pick l 0=some (.move (.tmp 0),some 140))
    (h1:pick l 1=some (.move (.tmp 6),some 141))
    (h2:pick l 2=some (.nilCheck (.tmp 140),some 142))
    (h3:pick l 3=some (.fieldAddr 90 (.tmp 142) 7,some 143))
    (h4:pick l 4=some (.indexAddr 22 (.tmp 143) (.tmp 141),some 144))
    (h5:pick l 5=some (.load 3 (.tmp 144),some 145))
    (h6:pick l 6=some (.binOp .sub 3 (.tmp 145) (.const (.int .i64 1)) 3,some 146))
    (h7:pick l 7=some (.nilCheck (.tmp 140),some 147))
    (h8:pick l 8=some (.fieldAddr 90 (.tmp 147) 7,some 148))
    (h9:pick l 9=some (.indexAddr 22 (.tmp 148) (.tmp 141),some 149))
    (hs:A.tmps.size=151)
    (x0:A.eval (.tmp 0)=.pointer (some ⟨M,0,none⟩))
    (x6:A.eval (.tmp 6)=.int .i64 (i:Nat))
    (h:∀ w1,Below w.heap.size w w1->wpList Tryz.prog l.toArray Q (l.drop 10) ((((((((((A.put (some 140) (.pointer (some ⟨M,0,none⟩))).put (some 141) (.int .i64 (i:Nat))).put (some 142) (.pointer (some ⟨M,0,none⟩))).put (some 143) (.pointer (some ⟨M,35,none⟩))).put (some 144) (.pointer (some ⟨M,35 + i,none⟩))).put (some 145) (.int .i64 (u:Nat))).put (some 146) (.int .i64 (y:Nat))).put (some 147) (.pointer (some ⟨M,0,none⟩))).put (some 148) (.pointer (some ⟨M,35,none⟩))).put (some 149) (.pointer (some ⟨M,35 + i,none⟩))) w1):
    (Code.region id l.toArray true).wp Tryz.prog Q A w:=by
  refine wp_region_head (by kernel_rfl) _ _ _ hB (RcRegion27 M i u y A w) ⟨Off.refl _ _,(Below.refl _ _).drew,by simp,by simp,by simp,by simp,by simp,by simp,by simp,by simp,by simp,by simp⟩ ?_ ?_
  · intro s a w' S i' o il ho hsi hT K hK
    have sz:a.tmps.size=151:=by rw [S.off.2.1]; exact hs
    have y0:a.eval (.tmp 0)=.pointer (some ⟨M,0,none⟩):=by rw [S.off.eval (by decide)]; exact x0
    have y6:a.eval (.tmp 6)=.int .i64 (i:Nat):=by rw [S.off.eval (by decide)]; exact x6
    match i',il,ho,hsi,hT with
    | 0,_,ho,hsi,hT=>
      obtain ⟨e1,e2⟩:=pick_of h0 ho
      refine step_val (v:=.pointer (some ⟨M,0,none⟩)) (by simp only [execOp,e1,y0]; go_simp) (hK _ _ ?_)
      rw [e2]
      exact ⟨ofp S.off,S.before,ev_ (by omega),kp S.t1,kp S.t2,kp S.t3,kp S.t4,kp S.t5,kp S.t6,kp S.t7,kp S.t8,kp S.t9⟩
    | 1,_,ho,hsi,hT=>
      obtain ⟨e1,e2⟩:=pick_of h1 ho
      refine step_val (v:=.int .i64 (i:Nat)) (by simp only [execOp,e1,y6]; go_simp) (hK _ _ ?_)
      rw [e2]
      exact ⟨ofp S.off,S.before,kp S.t0,ev_ (by omega),kp S.t2,kp S.t3,kp S.t4,kp S.t5,kp S.t6,kp S.t7,kp S.t8,kp S.t9⟩
    | 2,_,ho,hsi,hT=>
      obtain ⟨e1,e2⟩:=pick_of h2 ho
      have D0:s 0=true:=list_pos hT (d:=0) (by decide)
      refine step_val (v:=.pointer (some ⟨M,0,none⟩)) (by simp only [execOp,e1,S.t0 D0]; go_simp) (hK _ _ ?_)
      rw [e2]
      exact ⟨ofp S.off,S.before,kp S.t0,kp S.t1,ev_ (by omega),kp S.t3,kp S.t4,kp S.t5,kp S.t6,kp S.t7,kp S.t8,kp S.t9⟩
    | 3,_,ho,hsi,hT=>
      obtain ⟨e1,e2⟩:=pick_of h3 ho
      have D2:s 2=true:=list_pos hT (d:=2) (by decide)
      refine step_val (v:=.pointer (some ⟨M,35,none⟩)) (by simp only [execOp,e1,S.t2 D2]; go_simp) (hK _ _ ?_)
      rw [e2]
      exact ⟨ofp S.off,S.before,kp S.t0,kp S.t1,kp S.t2,ev_ (by omega),kp S.t4,kp S.t5,kp S.t6,kp S.t7,kp S.t8,kp S.t9⟩
    | 4,_,ho,hsi,hT=>
      obtain ⟨e1,e2⟩:=pick_of h4 ho
      have D3:s 3=true:=list_pos hT (d:=3) (by decide)
      have D1:s 1=true:=list_pos hT (d:=1) (by decide)
      refine step_val (v:=.pointer (some ⟨M,35 + i,none⟩)) (by simp only [execOp,e1,S.t3 D3,S.t1 D1]; have hn:=hi0; have hn1:=hi1; first | (go_simp; done) | (go_simp; omega) | (go_simp; intro h; omega)) (hK _ _ ?_)
      rw [e2]
      exact ⟨ofp S.off,S.before,kp S.t0,kp S.t1,kp S.t2,kp S.t3,ev_ (by omega),kp S.t5,kp S.t6,kp S.t7,kp S.t8,kp S.t9⟩
    | 5,_,ho,hsi,hT=>
      obtain ⟨e1,e2⟩:=pick_of h5 ho
      have D4:s 4=true:=list_pos hT (d:=4) (by decide)
      have BW:=S.before
      have cs:=(BW.cell (p:=⟨M,35 + i,none⟩) lM).trans cS
      refine step_val (v:=.int .i64 (u:Nat)) (by simp only [execOp,e1,S.t4 D4]; go_simp) (hK _ _ ?_)
      rw [e2]
      exact ⟨ofp S.off,S.before,kp S.t0,kp S.t1,kp S.t2,kp S.t3,kp S.t4,ev_ (by omega),kp S.t6,kp S.t7,kp S.t8,kp S.t9⟩
    | 6,_,ho,hsi,hT=>
      obtain ⟨e1,e2⟩:=pick_of h6 ho
      have D5:s 5=true:=list_pos hT (d:=5) (by decide)
      refine step_val (v:=.int .i64 (y:Nat)) (by simp only [execOp,e1,S.t5 D5]; have hy:=e1; first | (go_simp; done) | (go_simp; rw [hy]; done) | (go_simp; rw [hy]) | (go_simp; simp [hy]; done) | (go_simp; omega)) (hK _ _ ?_)
      rw [e2]
      exact ⟨ofp S.off,S.before,kp S.t0,kp S.t1,kp S.t2,kp S.t3,kp S.t4,kp S.t5,ev_ (by omega),kp S.t7,kp S.t8,kp S.t9⟩
    | 7,_,ho,hsi,hT=>
      obtain ⟨e1,e2⟩:=pick_of h7 ho
      have D0:s 0=true:=list_pos hT (d:=0) (by decide)
      refine step_val (v:=.pointer (some ⟨M,0,none⟩)) (by simp only [execOp,e1,S.t0 D0]; go_simp) (hK _ _ ?_)
      rw [e2]
      exact ⟨ofp S.off,S.before,kp S.t0,kp S.t1,kp S.t2,kp S.t3,kp S.t4,kp S.t5,kp S.t6,ev_ (by omega),kp S.t8,kp S.t9⟩
    | 8,_,ho,hsi,hT=>
      obtain ⟨e1,e2⟩:=pick_of h8 ho
      have D7:s 7=true:=list_pos hT (d:=7) (by decide)
      refine step_val (v:=.pointer (some ⟨M,35,none⟩)) (by simp only [execOp,e1,S.t7 D7]; go_simp) (hK _ _ ?_)
      rw [e2]
      exact ⟨ofp S.off,S.before,kp S.t0,kp S.t1,kp S.t2,kp S.t3,kp S.t4,kp S.t5,kp S.t6,kp S.t7,ev_ (by omega),kp S.t9⟩
    | 9,_,ho,hsi,hT=>
      obtain ⟨e1,e2⟩:=pick_of h9 ho
      have D8:s 8=true:=list_pos hT (d:=8) (by decide)
      have D1:s 1=true:=list_pos hT (d:=1) (by decide)
      refine step_val (v:=.pointer (some ⟨M,35 + i,none⟩)) (by simp only [execOp,e1,S.t8 D8,S.t1 D1]; have hn:=hi0; have hn1:=hi1; first | (go_simp; done) | (go_simp; omega) | (go_simp; intro h; omega)) (hK _ _ ?_)
      rw [e2]
      exact ⟨ofp S.off,S.before,kp S.t0,kp S.t1,kp S.t2,kp S.t3,kp S.t4,kp S.t5,kp S.t6,kp S.t7,kp S.t8,ev_ (by omega)⟩
    | _ + 10,il,_,_,_=>exact absurd il (by omega)
  intro s a w' S hall
  have a0:=hall 0 (by omega)
  have a1:=hall 1 (by omega)
  have a2:=hall 2 (by omega)
  have a3:=hall 3 (by omega)
  have a4:=hall 4 (by omega)
  have a5:=hall 5 (by omega)
  have a6:=hall 6 (by omega)
  have a7:=hall 7 (by omega)
  have a8:=hall 8 (by omega)
  have a9:=hall 9 (by omega)
  have e:=off_norm _ (by intro d hd; simp at hd; omega) S.off
  simp only [List.foldl,S.t0 a0,S.t1 a1,S.t2 a2,S.t3 a3,S.t4 a4,S.t5 a5,S.t6 a6,S.t7 a7,S.t8 a8,S.t9 a9] at e
  rw [e]
  exact h _ S.before
end
end Go.Proofs.YtchfkncbemjepaaGreat
