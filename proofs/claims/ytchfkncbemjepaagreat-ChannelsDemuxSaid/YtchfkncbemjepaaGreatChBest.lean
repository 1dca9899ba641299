/- ChBest -/
import Derived.Test.YtchfkncbemjepaaGreatChMux
set_option linter.unusedVariables false
set_option maxRecDepth 100000
set_option maxHeartbeats 8000000
/- Layer 11, the landed program: slices.MaxFunc over channels, best, all. -/
namespace Go.Proofs.YtchfkncbemjepaaGreat
open Go.RowKit

theorem top_take {k:Nat->Nat} {l:List Nat} {i a:Nat} (h:l[i]?=some a):Ch.top k (l.take (i + 1))=max (Ch.top k (l.take i)) (k a):=by
  rw [List.take_add_one,h]
  exact Ch.top_app k _ a
theorem top_one {k:Nat->Nat} {l:List Nat} {a:Nat} (h:l[0]?=some a):Ch.top k (l.take 1)=k a:=by
  cases l with
  | nil=>cases h
  | cons b l=>
    simp only [List.getElem?_cons_zero,Option.some.injEq] at h
    subst h
    show max (k b) (Ch.top k (l.take 0))=k b
    rw [List.take_zero]
    exact Nat.max_zero _
theorem cmpI_gt {a b:Nat} (h:b < a):cmpI (a:Int) (b:Int)=1:=by
  unfold cmpI
  rw [if_neg (by omega),if_pos (by omega)]
theorem cmpI_le {a b:Nat} (h:¬ b < a):cmpI (a:Int) (b:Int)<=0:=by
  unfold cmpI
  split
  · omega
  rw [if_neg (by omega)]
  exact Int.le_refl _
theorem cmpI_eq {a b:Nat}:cmpI (a:Int) (b:Int)=0 ↔ a=b:=by
  unfold cmpI
  split
  · omega
  split <;> omega
theorem maxF_any (fid:FuncId) (cap:Array Value) (k:Nat->Nat) (M B c:Nat) (l:List Nat) (n:Nat) (hl:l.length=n) (h0:0 < n) (h8:n<=8) (w:World)
    (hc:∀ j i,l[j]?=some i->w.cell? ⟨B,j,none⟩=some (opV M i))
    (hfn:∀ args w,(callFunc fid args).run Tryz.prog w=.ok (.enter fid args) w)
    (CF:∀ i j nq,i ∈ l->j ∈ l->Calls Tryz.prog fid (#[opV M i,opV M j] ++ cap) (w.drewN nq) fun e w'=>e=.returned (.int .i64 (cmpI (k i:Nat) (k j:Nat)))/\∃ m,w'=(w.drewN nq).drewN m):
    Calls Tryz.prog 102 #[.slice (some ⟨B,0,none⟩) n c,.func (.func fid) #[] cap] w
      fun e w'=>∃ m,m ∈ l/\k m=Ch.top k l/\e=.returned (opV M m)/\∃ d,w'=w.drewN d:=by
  obtain ⟨a0,ha0⟩:∃ z,l[0]?=some z:=⟨l[0]'(by omega),List.getElem?_eq_getElem (by omega)⟩
  have c0:w.cell? ⟨B,0,none⟩=some (opV M a0):=hc 0 a0 ha0
  have p0:decide ((n:Int) < 1)=false:=decide_eq_false (by omega)
  have p0n:decide (n < 1)=false:=decide_eq_false (by omega)
  have HA:=Lib.hid ha0
  have HL:=Lib.hid hl
  have HC:=Lib.hid hc
  have HF:=Lib.hid CF
  have HN:=Lib.hid hfn
  have H0:=Lib.hid h0
  have H8:=Lib.hid h8
  unfold opV at c0
  obtain ⟨p,hp⟩:∃ p,4 + a0 * 6=p:=⟨_,rfl⟩
  rw [hp] at c0
  have HP:=Lib.hid hp
  clear ha0 hl hc CF h0 hp hfn
  go_enter Tryz.func102,Tryz.ntmps102
  go_wp2_with fail
  go_loopw [5,6] (fun x5 x6 wr=>∃ i m d:Nat,1<=i/\i<=n/\x6=.int .i64 i/\x5=opV M m/\m ∈ l/\k m=Ch.top k (l.take i)/\wr=w.drewN d) (fun _ x6 _=>n - (intOf x6).toNat)
  case atStart=>exact ⟨1,a0,0,Nat.le_refl _,H0.out,rfl,by rw [<-HP.out],List.mem_of_getElem? HA.out,(top_one HA.out).symm,rfl⟩
  case round=>
    obtain ⟨i,m,d,h1,hi,rfl,rfl,hm,hk,hw⟩:=hrel
    by_cases hlt:i < n
    · obtain ⟨a,ha⟩:∃ z,l[i]?=some z:=⟨l[i]'(by have:=HL.out; omega),List.getElem?_eq_getElem (by have:=HL.out; omega)⟩
      have ca:wr.cell? ⟨B,i,none⟩=some (opV M a):=by rw [hw]; exact HC.out i a ha
      have i0:(0:Int)<=(i:Int):=by omega
      have i1:(i:Int) < (n:Int):=by omega
      have TT:=Lib.hid (top_take (k:=k) ha)
      have CA:=HF.out a m d (List.mem_of_getElem? ha) hm
      have AM:=Lib.hid (List.mem_of_getElem? ha)
      have HM:=Lib.hid hm
      have HK:=Lib.hid hk
      have HW:=Lib.hid hw
      have H1:=Lib.hid h1
      obtain ⟨p,hp⟩:∃ p,4 + a * 6=p:=⟨_,rfl⟩
      obtain ⟨q,hq⟩:∃ p,4 + m * 6=p:=⟨_,rfl⟩
      have HP:=Lib.hid hp
      have HQ:=Lib.hid hq
      unfold opV at ca CA ⊢
      rw [hp] at ca CA
      rw [hq] at CA ⊢
      by_cases g:k m < k a
      · rw [cmpI_gt g,<-hw] at CA
        have MX:=Lib.hid (show k a=Ch.top k (l.take (i + 1)) by rw [TT.out,<-HK.out]; omega)
        have CA2:=Lib.hid CA
        clear CA hw hk hm ha hp hq g h1 hi
        go_wp2_with fail
        rw [HN.out,Oper.upon_enter]
        (refine CA2.out.mono ?_)
        rintro e w2 ⟨rfl,d2,rfl⟩
        go_wp2_with fail
        go_roundw
        case rel=>exact ⟨i + 1,a,d + d2,by omega,by omega,by go_num,by rw [<-HP.out],AM.out,MX.out,by rw [HW.out,World.drewN_drewN]⟩
        case measure=>simp [intOf]; omega
      obtain ⟨r,hr⟩:∃ r,cmpI ((k a:Nat):Int) ((k m:Nat):Int)=r:=⟨_,rfl⟩
      have hr0:r<=0:=by rw [<-hr]; exact cmpI_le g
      have pr:decide (0 < r)=false:=decide_eq_false (by omega)
      rw [hr,<-hw] at CA
      have MX:=Lib.hid (show k m=Ch.top k (l.take (i + 1)) by rw [TT.out,<-HK.out]; omega)
      have CA2:=Lib.hid CA
      clear CA hw hk hm ha hp hq g h1 hi hr hr0
      go_wp2_with fail
      rw [HN.out,Oper.upon_enter]
      (refine CA2.out.mono ?_)
      rintro e w2 ⟨rfl,d2,rfl⟩
      go_wp2_with fail
      go_roundw
      case rel=>exact ⟨i + 1,m,d + d2,by omega,by omega,by go_num,by rw [<-HQ.out],HM.out,MX.out,by rw [HW.out,World.drewN_drewN]⟩
      case measure=>simp [intOf]; omega
    obtain rfl:n=i:=by omega
    have TK:=Lib.hid (show l.take n=l from List.take_of_length_le (by have:=HL.out; omega))
    have HM:=Lib.hid hm
    have HK:=Lib.hid hk
    have HW:=Lib.hid hw
    clear hm hk hw
    go_wp2_with fail
    go_ret
    exact ⟨m,HM.out,by rw [HK.out,TK.out],rfl,d,HW.out⟩
theorem wpList_setMidT {P:Program} {ops:Array Oper} {rest:List Oper} {op:Oper} {a:Act} {w:World} {Q:Exit->Act->World->Prop} (hgd:op.guard=none) (ty:TypeId) (x y:Operand) (ho:op.op=.store ty x y) (X p n m:Nat) (vs:List Value) (f g:Nat->Value) (C:Cel w X n f) (hm:vs.length=m) (hp:p + m<=n)
    (hg:∀ j,j < n->(if p<=j/\j < p + m then vs.getD (j - p) undef else f j)=g j)
    (hx:a.eval x=.pointer (some ⟨X,p,none⟩)) (hy:a.eval y=.agg vs.toArray) (hi:(P.info? ty).map (·.size)=some m) (h1:vs.all (·.oneCell')=true)
    (K:∀ w',Hid (Cel w' X n g)->Hid (But X w w')->Hid (w'.heap.size=w.heap.size)->Hid (∀ t,TyB w X t->TyB w' X t)->wpList P ops Q rest (a.put op.dst undef) w'):wpList P ops Q (op :: rest) a w:=by
  have there:w.there X p vs.toArray.size:=C.there p _ (by simp only [List.size_toArray]; omega)
  refine wpList_store_mid hgd ty x y ho X p vs.toArray hx hy there (by rw [hi]; simp [hm]) (by simpa using h1) ?_
  refine K _ (Lib.hid ?_) (Lib.hid (But.of_setCells X _ _ _)) (Lib.hid (size_setCells _ _ _ _)) (Lib.hid (fun t h=>tyB_setCells X t _ _ _ h))
  refine (C.setMany p vs (by omega) undef).congr (fun j hj=>?_)
  rw [hm]
  exact hg j hj
def opVs (M:Nat) (l:List Nat):List Value:=l.map fun i=>opV M i
theorem opVs_add (M:Nat) (l:List Nat) (i:Nat):opVs M l ++ [opV M i]=opVs M (l ++ [i]):=by unfold opVs; rw [List.map_append]; rfl
theorem opVs_at {M:Nat} {l:List Nat} {k i:Nat} (h:l[k]?=some i):(opVs M l)[k]?=some (opV M i):=by unfold opVs; rw [List.getElem?_map,h]; rfl
theorem info_oc:(Tryz.prog.info? 94).map (fun i=>(i.zero,i.size,i.bytes))=some (some (.pointer none),1,8):=by kernel_rfl
theorem build_op1 {ev:Operand->Value} {w:World} {o:Oper} {x:Operand} {a:Option Addr} (h:o.op=.buildSlice 140 1 #[(0,x)]) (hx:ev x=.pointer a):(execOp ev o).run Tryz.prog w=.ok (.value (.slice (some ⟨w.heap.size,0,none⟩) 1 1)) (w.alloc (.cells ([.pointer a]:List Value).toArray 94)):=by
  simp only [execOp,h]; go_simp
theorem wpList_newOwn {P:Program} {ops:Array Oper} {rest:List Oper} {op:Oper} {a:Act} {w:World} {Q:Exit->Act->World->Prop} (hgd:op.guard=none) (OP:Op) (ho:op.op=OP) (vs:List Value) (t:TypeId) (n base:Nat) (hn:vs.length=n) (hm:n<=maxLen) (hb:base<=w.heap.size)
    (hrun:(execOp a.eval op).run P w=.ok (.value (.slice (some ⟨w.heap.size,0,none⟩) n n)) (w.alloc (.cells vs.toArray t)))
    (K:∀ X w',Hid (w.heap.size=X)->Hid (w'.ownsRow base t 1 (.slice (some ⟨X,0,none⟩) n n) n vs)->Hid (Below w.heap.size w w')->wpList P ops Q rest (a.put op.dst (.slice (some ⟨X,0,none⟩) n n)) w'):wpList P ops Q (op :: rest) a w:=
  wpList_plain hgd fun _ hK=>by
    unfold Oper.wp
    rw [hrun,Oper.upon_value]
    exact hK _ _ (K w.heap.size _ (Lib.hid rfl) (Lib.hid (own_new2 vs hn hm hb)) (Lib.hid (ba (Below.refl _ _) _)))
theorem own_cells {w:World} {base n c:Nat} {sa:Option Addr} {xs:List Value} {t:TypeId} (h:w.ownsRow base t 1 (.slice sa n c) n xs):∀ ad,sa=some ad->∀ j u,xs[j]?=some u->w.cell? (ad.add j)=some u:=fun ad e j u hu=>by
  subst e
  have hn:0 < n:=by
    have h1:=h.1
    have:=(List.getElem?_eq_some_iff.1 hu).1
    omega
  obtain ⟨g,e,_,_⟩:=row_some h hn
  cases e
  exact h.cells (g:=g) rfl j u hu
def Oc (w:World) (n0 M:Nat) (v:Value) (l:List Nat):Prop:=w.ownsRow n0 94 1 v l.length (opVs M l)
theorem Oc.below {w w':World} {n0 M:Nat} {v:Value} {l:List Nat} (h:Oc w n0 M v l) (hb:Below w.heap.size w w'):Oc w' n0 M v l:=own_below h hb
theorem Oc.open {w:World} {n0 M:Nat} {v:Value} {l:List Nat} (h:Oc w n0 M v l) (hl:l ≠ []):∃ B c,v=.slice (some ⟨B,0,none⟩) l.length c/\n0<=B/\TyB w B 94/\∀ j i,l[j]?=some i->w.cell? ⟨B,j,none⟩=some (opV M i):=by
  obtain ⟨a,c,rfl⟩:=own_is h
  obtain ⟨g,rfl,h1,h2⟩:=row_some h (List.length_pos_iff.2 hl)
  exact ⟨g,c,rfl,h1,h2,fun j i hj=>by
    have:=own_cells h _ rfl j _ (opVs_at hj)
    rwa [add_off,Nat.zero_add] at this⟩
theorem filter_take {p:Nat->Bool} {l:List Nat} {i a:Nat} (h:l[i]?=some a):(l.take (i + 1)).filter p=(l.take i).filter p ++ (if p a=true then [a] else []):=by
  rw [List.take_add_one,h,List.filter_append]
  congr 1
  simp [List.filter_cons]
theorem best_any (fid:FuncId) (cap:Array Value) (k:Nat->Nat) (M B c:Nat) (l:List Nat) (n:Nat) (hl:l.length=n) (h0:0 < n) (h8:n<=8) (w:World) (hB:B < w.heap.size)
    (hc:∀ j i,l[j]?=some i->w.cell? ⟨B,j,none⟩=some (opV M i))
    (hfn:∀ args w,(callFunc fid args).run Tryz.prog w=.ok (.enter fid args) w)
    (CF:∀ w' i j,Below w.heap.size w w'->i ∈ l->j ∈ l->Calls Tryz.prog fid (#[opV M i,opV M j] ++ cap) w' fun e w2=>e=.returned (.int .i64 (cmpI (k i:Nat) (k j:Nat)))/\∃ m,w2=w'.drewN m):
    Calls Tryz.prog 69 #[.agg #[.func (.func fid) #[] cap],.slice (some ⟨B,0,none⟩) n c] w
      fun e w'=>∃ v,e=.returned v/\Oc w' w.heap.size M v (Ch.best k l)/\Below w.heap.size w w':=by
  obtain ⟨j0,hj0,hy0,hy1,hy2⟩:=info_parts info_oc
  have HL:=Lib.hid hl
  have HC:=Lib.hid hc
  have HF:=Lib.hid CF
  have HN:=Lib.hid hfn
  have HB:=Lib.hid hB
  have H0:=Lib.hid h0
  clear hl hc CF hfn hB h0
  go_enter Tryz.func69,Tryz.ntmps69
  go_wp2_with (((with_reducible refine atList ?_); refine wpList_newT rfl (.box 139 (.tmp 0)) rfl (some 2) rfl #[.func (.func fid) #[] cap] 139 (fun X=>.pointer (some ⟨X,0,none⟩)) 1 (fun _=>.func (.func fid) #[] cap) (fun j hj=>by obtain rfl:j=0:=(by omega); rfl) (by simp only [execOp]; go_simp) ?_; intro X w1 HX Sw1 CX BX TX; have cX:w1.cell? ⟨X,0,none⟩=some (.func (.func fid) #[] cap):=CX.out.cell (j:=0) (by omega)))
  have MF:=Lib.hid (maxF_any fid cap k M B c l n HL.out H0.out h8 w1 (fun j i hj=>(BX.out.cell (p:=⟨B,j,none⟩) HB.out).trans (HC.out j i hj)) HN.out (fun i j nq hi hj=>HF.out _ i j (below_drewN BX.out nq) hi hj))
  go_wp2_with fail
  (refine MF.out.mono ?_)
  rintro e w2 ⟨m,hm,hk,rfl,d,hd⟩
  have B2:=Lib.hid (show Below w.heap.size w w2 by rw [hd]; exact below_drewN BX.out d)
  have C2:=Lib.hid (show Cel w2 X 1 (fun _=>.func (.func fid) #[] cap) from CX.out.below (by rw [hd]; exact below_drewN (Below.refl _ _) d))
  have T2:=Lib.hid (show TyB w2 X 139 from TX.out.below (by rw [hd]; exact below_drewN (Below.refl _ _) d))
  have HM:=Lib.hid hm
  have HK:=Lib.hid hk
  obtain ⟨q,hq⟩:∃ p,4 + m * 6=p:=⟨_,rfl⟩
  have HQ:=Lib.hid hq
  unfold opV
  rw [hq]
  clear hm hk hd MF cX CX TX BX hq
  go_wp2_with fail
  go_loopw [6,15] (fun x6 x15 wr=>∃ i:Nat,i<=n/\x15=.int .i64 i/\Oc wr w.heap.size M x6 ((l.take i).filter (fun i=>k i == Ch.top k l))/\Below w.heap.size w wr/\Cel wr X 1 (fun _=>.func (.func fid) #[] cap)/\TyB wr X 139) (fun _ x15 _=>n - (intOf x15).toNat)
  case atStart=>exact ⟨0,Nat.zero_le _,rfl,World.ownsRow_nil _ _ _ _,B2.out,C2.out,T2.out⟩
  case round=>
    obtain ⟨i,hi,rfl,hO,hB3,hC3,hT3⟩:=hrel
    have OR:=Lib.hid hO
    have B3:=Lib.hid hB3
    have C3:=Lib.hid hC3
    have T3:=Lib.hid hT3
    have LF:=Lib.hid (show ((l.take i).filter (fun i=>k i == Ch.top k l)).length<=8 from Nat.le_trans (List.length_filter_le _ _) (by rw [List.length_take]; omega))
    clear hO hB3 hC3 hT3
    by_cases hlt:i < n
    · obtain ⟨a,ha⟩:∃ z,l[i]?=some z:=⟨l[i]'(by have:=HL.out; omega),List.getElem?_eq_getElem (by have:=HL.out; omega)⟩
      have ca:wr.cell? ⟨B,i,none⟩=some (opV M a):=(B3.out.cell (p:=⟨B,i,none⟩) HB.out).trans (HC.out i a ha)
      have cx:wr.cell? ⟨X,0,none⟩=some (.func (.func fid) #[] cap):=C3.out.cell (j:=0) (by omega)
      have i0:(0:Int)<=(i:Int):=by omega
      have i1:(i:Int) < (n:Int):=by omega
      have FT:=Lib.hid (filter_take (p:=fun i=>k i == Ch.top k l) ha)
      have CA:=HF.out wr a m B3.out (List.mem_of_getElem? ha) HM.out
      obtain ⟨p,hp⟩:∃ p,4 + a * 6=p:=⟨_,rfl⟩
      have HP:=Lib.hid hp
      unfold opV at ca CA
      rw [hp] at ca CA
      rw [HQ.out] at CA
      by_cases g:k a=k m
      · rw [cmpI_eq.2 g] at CA
        have FT2:=Lib.hid (FT.out.trans (by rw [if_pos (by rw [g,HK.out]; simp)]))
        have CA2:=Lib.hid CA
        clear CA ha hp g FT
        go_wp2_with fail
        rw [HN.out,Oper.upon_enter]
        (refine CA2.out.mono ?_)
        rintro e w4 ⟨rfl,d2,hd2⟩
        have b4:Below wr.heap.size wr w4:=by rw [hd2]; exact below_drewN (Below.refl _ _) d2
        have B4:=Lib.hid (bt B3.out b4)
        have C4:=Lib.hid (C3.out.below b4)
        have T4:=Lib.hid (T3.out.below b4)
        have O4:=Lib.hid (OR.out.below b4)
        have N4:=Lib.hid B4.out.size
        clear b4 hd2 ca cx CA2
        go_wp2_with (first
          | ((with_reducible refine atList ?_); refine wpList_newOwn rfl (.buildSlice 140 1 #[(0,.tmp 26)]) rfl [.pointer (some ⟨M,p,none⟩)] 94 1 w.heap.size rfl (by unfold maxLen; omega) N4.out (build_op1 rfl rfl) ?_; intro A5 w5 HA5 OA5 LA5)
          | (at_builtin; (with_reducible refine atList ?_); refine wpList_append_own2 rfl (.tmp 25) (.tmp 27) 140 rfl w.heap.size 94 j0 (.pointer none) 1 8 Tryz.underlying140 hj0 hy0 hy1 hy2 rfl (by decide) _ _ _ rfl (O4.out.below LA5.out) ⟨A5,0,none⟩ 1 1 [.pointer (some ⟨M,p,none⟩)] rfl rfl (own_cells OA5.out ⟨A5,0,none⟩ rfl) (by simp [Value.oneCell']) (by unfold maxLen; have:=LF.out; omega) (by have:=LF.out; omega) (Nat.le_trans N4.out LA5.out.size) ?_; intro v6 w6 O6 g6 k6; have B6:=Lib.hid ((bt B4.out LA5.out).grown g6 (Nat.le_trans N4.out LA5.out.size) (fun k e=>(own_ty (O4.out.below LA5.out) e).1)); have e6:=(T4.out.below LA5.out).of_block (g6.block X (T4.out.below LA5.out).lt (fun e=>ty_ne (T4.out.below LA5.out) (own_ty (O4.out.below LA5.out) e.symm).2 (by decide) rfl)); have f6:=(C4.out.below LA5.out).of_block (g6.block X (T4.out.below LA5.out).lt (fun e=>ty_ne (T4.out.below LA5.out) (own_ty (O4.out.below LA5.out) e.symm).2 (by decide) rfl)); have HO6:=Lib.hid O6; have T6:=Lib.hid e6; have C6:=Lib.hid f6; clear O6 g6 k6 e6 f6))
        go_roundw
        case rel=>exact ⟨i + 1,by omega,by go_num,by
          show World.ownsRow _ _ _ _ _ _ _
          rw [FT2.out,List.length_append,<-opVs_add]
          have:=HO6.out
          rw [<-HP.out] at this
          exact this,B6.out,C6.out,T6.out⟩
        case measure=>simp [intOf]; omega
      obtain ⟨r,hr⟩:∃ r,cmpI ((k a:Nat):Int) ((k m:Nat):Int)=r:=⟨_,rfl⟩
      have pr:(r == (0:Int))=false:=by
        rw [<-hr]
        simpa using fun h=>g (cmpI_eq.1 h)
      rw [hr] at CA
      have FT2:=Lib.hid (FT.out.trans (by rw [if_neg (by rw [<-HK.out]; simpa using g),List.append_nil]))
      have CA2:=Lib.hid CA
      clear CA ha hp g FT hr
      go_wp2_with fail
      rw [HN.out,Oper.upon_enter]
      (refine CA2.out.mono ?_)
      rintro e w4 ⟨rfl,d2,hd2⟩
      have b4:Below wr.heap.size wr w4:=by rw [hd2]; exact below_drewN (Below.refl _ _) d2
      have B4:=Lib.hid (bt B3.out b4)
      have C4:=Lib.hid (C3.out.below b4)
      have T4:=Lib.hid (T3.out.below b4)
      have O4:=Lib.hid (OR.out.below b4)
      clear b4 hd2 ca cx CA2
      go_wp2_with fail
      go_roundw
      case rel=>exact ⟨i + 1,by omega,by go_num,by rw [FT2.out]; exact O4.out,B4.out,C4.out,T4.out⟩
      case measure=>simp [intOf]; omega
    obtain rfl:n=i:=by omega
    have TK:=Lib.hid (show l.take n=l from List.take_of_length_le (by have:=HL.out; omega))
    have OR2:=Lib.hid (show Oc wr w.heap.size M u6 (Ch.best k l) by have:=OR.out; rw [TK.out] at this; exact this)
    clear OR
    obtain ⟨sa,sc,hv⟩:=own_is OR2.out
    subst hv
    go_wp2_with fail
    go_ret
    exact ⟨_,rfl,OR2.out,B3.out⟩
end Go.Proofs.YtchfkncbemjepaaGreat
