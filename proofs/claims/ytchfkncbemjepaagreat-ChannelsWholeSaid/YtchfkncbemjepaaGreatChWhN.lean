/- ChWhN -/
import Derived.Deep.CutRange
import Derived.Deep.CutBlock
import Derived.Test.YtchfkncbemjepaaGreatChWhR
import Derived.Test.YtchfkncbemjepaaGreatChNext
import Derived.Test.YtchfkncbemjepaaGreatChWhQ
import Derived.Test.YtchfkncbemjepaaGreatChShown
set_option linter.unusedVariables false
set_option maxRecDepth 100000
set_option maxHeartbeats 8000000
/- Layer 11's laws: the sending of ChannelsWhole makes a frame. -/
namespace Go.Proofs.YtchfkncbemjepaaGreat
open Go.RowKit
set_option linter.unusedSimpArgs false

def nVs (l:List Nat):List Value:=l.map fun f=>.int .i64 (f:Nat)
theorem nVs_len (l:List Nat):(nVs l).length=l.length:=List.length_map ..
theorem nVs_add (l:List Nat) (f:Nat):nVs l ++ [.int .i64 (f:Nat)]=nVs (l ++ [f]):=by unfold nVs; rw [List.map_append]; rfl
theorem iVs_len (l:List Int):(iVs l).length=l.length:=List.length_map ..
theorem iVs_add (l:List Int) (f:Int):iVs l ++ [.int .i64 f]=iVs (l ++ [f]):=by unfold iVs; rw [List.map_append]; rfl
theorem iVs_set (l:List Int) (k:Nat) (f:Int):(iVs l).set k (.int .i64 f)=iVs (l.set k f):=by unfold iVs; rw [List.map_set]
def pickR (l:List Rw) (o:TypeId ⊕ Nat):Rw:=match o with
  | .inl t=>⟨.slice none 0 0,t,[]⟩
  | .inr j=>l.getD j ⟨.slice none 0 0,0,[]⟩
def Once (fs:List (TypeId ⊕ Nat)):Prop:=fs.Pairwise fun a b=>a.isLeft=true\/a ≠ b
theorem Rws.pick {n0:Nat} {T:Nat->Prop} {l:List Rw} {w:World} (h:Rws n0 T l w) (fs:List (TypeId ⊕ Nat)) (hj:∀ j,.inr j ∈ fs->j < l.length) (nd:Once fs):Rws n0 T (fs.map (pickR l)) w:=by
  have get:∀ j,.inr j ∈ fs->l[j]?=some (pickR l (.inr j)):=fun j hm=>by
    show l[j]?=some (l.getD j _)
    rw [List.getD_eq_getElem?_getD,List.getElem?_eq_getElem (hj j hm)]
    rfl
  refine ⟨fun r hr=>?_,fun r hr g hg=>?_,fun i k a b g ha hb h1 h2=>?_⟩
  · obtain ⟨o,ho,rfl⟩:=List.mem_map.1 hr
    cases o with
    | inl t=>exact World.ownsRow_nil _ _ _ _
    | inr j=>exact h.at' (get j ho)
  · obtain ⟨o,ho,rfl⟩:=List.mem_map.1 hr
    cases o with
    | inl t=>cases hg
    | inr j=>exact h.out _ (List.mem_of_getElem? (get j ho)) g hg
  rw [List.getElem?_map] at ha hb
  obtain ⟨o1,e1,rfl⟩:=Option.map_eq_some_iff.1 ha
  obtain ⟨o2,e2,rfl⟩:=Option.map_eq_some_iff.1 hb
  cases o1 with
  | inl t=>cases h1
  | inr j1=>
    cases o2 with
    | inl t=>cases h2
    | inr j2=>
      obtain rfl:j1=j2:=h.ap j1 j2 _ _ g (get j1 (List.mem_of_getElem? e1)) (get j2 (List.mem_of_getElem? e2)) h1 h2
      obtain ⟨q1,w1⟩:=List.getElem?_eq_some_iff.1 e1
      obtain ⟨q2,w2⟩:=List.getElem?_eq_some_iff.1 e2
      rcases Nat.lt_trichotomy i k with q | q | q
      · have:=List.pairwise_iff_getElem.1 nd i k q1 q2 q
        rw [w1,w2] at this
        rcases this with z | z
        · cases z
        exact absurd rfl z
      · exact q
      have:=List.pairwise_iff_getElem.1 nd k i q2 q1 q
      rw [w1,w2] at this
      rcases this with z | z
      · cases z
      exact absurd rfl z
namespace SW
variable {n5 G:Nat} {T T':Nat->Prop} {w0 w w':World} {l:List Rw} {c:Nat->Value}
theorem pick (h:SW n5 G T w0 l c w) (fs:List (TypeId ⊕ Nat)) (hj:∀ j,.inr j ∈ fs->j < l.length) (nd:Once fs) (ht:∀ t,.inl t ∈ fs->t ≠ 119):SW n5 G T w0 (fs.map (pickR l)) c w:=
  ⟨h.rows.pick fs hj nd,h.cel,h.ty,h.low,h.keep,h.tl,h.sl,h.st,fun r hr=>by
    obtain ⟨o,ho,rfl⟩:=List.mem_map.1 hr
    cases o with
    | inl t=>exact ht t ho
    | inr j=>
      refine h.rt _ (List.mem_of_getElem? (i:=j) ?_)
      show l[j]?=some (l.getD j _)
      rw [List.getD_eq_getElem?_getD,List.getElem?_eq_getElem (hj j ho)]
      rfl⟩
theorem reset (h:SW n5 G T w0 l c w):SW n5 G T w l c w:=⟨h.rows,h.cel,h.ty,Below.refl _ _,fun _ _=>rfl,h.hT,h.sl,h.st,h.rt⟩
theorem mux (h:SW n5 G T w0 l c w) (k:KF n5 T T' w w') (tl:∀ g,T' g->g < w'.heap.size):SW n5 G T' w' l c w':=by
  have e:=k.rest G h.cel.lt h.st
  exact ⟨h.rows.step k.rest k.own,h.cel.of_block e,h.ty.of_block e,Below.refl _ _,fun _ _=>rfl,tl,h.sl,fun q=>by
    rcases k.own G q with z | z
    · exact h.st z
    have:=h.cel.lt
    omega,h.rt⟩
end SW
abbrev snR (z:Sz) (F:List ByteArray) (C:List Nat) (Pp:List ByteArray) (Oo:List Nat) (fr tw bg:List Int):List Rw:=
  [⟨z.v1,9,strVs F⟩,⟨z.v2,3,nVs C⟩,⟨z.v3,9,strVs Pp⟩,⟨z.v4,3,nVs Oo⟩,⟨z.v5,3,iVs fr⟩,⟨z.v6,3,iVs tw⟩,⟨z.v7,3,iVs bg⟩]
structure SN (n5 M G:Nat) (X:Nat->Nat) (x:Ch.Mx) (F:List ByteArray) (C:List Nat) (Pp:List ByteArray) (Oo:List Nat) (va vb:Nat->Value) (z:Sz) (fr tw bg:List Int) (w:World):Prop where
  pm:PM w n5 M x X va vb
  ok:x.Ok
  sw:SW n5 G (SM M X va vb) w (snR z F C Pp Oo fr tw bg) (sC M z) w
  zk:z.ok=true
  lf:fr.length=Pp.length
  lt:tw.length=Pp.length
  lb:bg.length=Pp.length
  lo:Oo.length=Pp.length
  lc:C.length=F.length
  cF:F.length<=10000
  cP:Pp.length<=1000
namespace SN
variable {n5 M G:Nat} {X:Nat->Nat} {x:Ch.Mx} {F:List ByteArray} {C:List Nat} {Pp:List ByteArray} {Oo:List Nat} {va vb:Nat->Value} {z:Sz} {fr tw bg:List Int} {w w':World}
theorem n5w (h:SN n5 M G X x F C Pp Oo va vb z fr tw bg w):n5<=w.heap.size:=Nat.le_of_lt (Nat.lt_of_le_of_lt h.sw.sl h.sw.ty.lt)
theorem below (h:SN n5 M G X x F C Pp Oo va vb z fr tw bg w) (hb:Below w.heap.size w w'):SN n5 M G X x F C Pp Oo va vb z fr tw bg w':=
  ⟨h.pm.below hb,h.ok,(h.sw.below hb).reset,h.zk,h.lf,h.lt,h.lb,h.lo,h.lc,h.cF,h.cP⟩
theorem mux {x':Ch.Mx} {va' vb':Nat->Value} (h:SN n5 M G X x F C Pp Oo va vb z fr tw bg w) (p:PM w' n5 M x' X va' vb') (o:x'.Ok) (k:KF n5 (SM M X va vb) (SM M X va' vb') w w'):SN n5 M G X x' F C Pp Oo va' vb' z fr tw bg w':=
  ⟨p,o,h.sw.mux k (fun g hg=>p.lt hg),h.zk,h.lf,h.lt,h.lb,h.lo,h.lc,h.cF,h.cP⟩
theorem with' {F':List ByteArray} {C':List Nat} {Pp':List ByteArray} {Oo':List Nat} {z':Sz} {fr' tw' bg':List Int} (h:SN n5 M G X x F C Pp Oo va vb z fr tw bg w) (s:SW n5 G (SM M X va vb) w (snR z' F' C' Pp' Oo' fr' tw' bg') (sC M z') w')
    (zk:z'.ok=true) (lf:fr'.length=Pp'.length) (lt:tw'.length=Pp'.length) (lb:bg'.length=Pp'.length) (lo:Oo'.length=Pp'.length) (lc:C'.length=F'.length) (cF:F'.length<=10000) (cP:Pp'.length<=1000):SN n5 M G X x F' C' Pp' Oo' va vb z' fr' tw' bg' w':=
  ⟨h.pm.keep s.keep,h.ok,s.reset,zk,lf,lt,lb,lo,lc,cF,cP⟩
theorem waiting (h:SN n5 M G X x F C Pp Oo va vb z fr tw bg w) {c:Nat} (hc:c < 8):
    Calls Tryz.prog 18 #[.pointer (some ⟨M,0,none⟩),.int .i64 (c:Nat)] w fun e w'=>e=.returned (.int .i64 (x.wt c:Nat))/\∃ m,w'=w.drewN m:=mWaiting_any h.pm h.ok c hc
theorem next (h:SN n5 M G X x F C Pp Oo va vb z fr tw bg w) (word:Nat) (hw:word < 4294967296):
    Calls Tryz.prog 16 #[.pointer (some ⟨M,0,none⟩),.int .u32 (word:Nat)] w fun e w'=>e=.returned (.tuple #[.string (bs (Tm.enc (x.frm word))),.int .i64 0])/\∃ va' vb',SN n5 M G X x.nxt F C Pp Oo va' vb' z fr tw bg w'/\Below n5 w w'/\∀ Z t,TyB w Z t->t ∉ MTs->w'.heap[Z]?=w.heap[Z]?:=by
  refine (mNext_any h.pm h.ok h.n5w word hw).mono ?_
  rintro e w1 ⟨rfl,va1,vb1,p1,k1⟩
  exact ⟨rfl,va1,vb1,h.mux p1 h.ok.nxt k1,k1.below,fun Z t T ht=>h.pm.kfO T ht k1⟩
theorem cell (h:SN n5 M G X x F C Pp Oo va vb z fr tw bg w) {j:Nat} (hj:j < 25):w.cell? ⟨G,j,none⟩=some (sC M z j):=h.sw.cel.cell hj
theorem row (h:SN n5 M G X x F C Pp Oo va vb z fr tw bg w) {i:Nat} {r:Rw} (e:(snR z F C Pp Oo fr tw bg)[i]?=some r) (hr:0 < r.xs.length):∃ B cp,r.v=.slice (some ⟨B,0,none⟩) r.xs.length cp/\∀ k u,r.xs[k]?=some u->w.cell? ⟨B,k,none⟩=some u:=by
  have o:=h.sw.rows.at' e
  obtain ⟨a,cp,e2⟩:=own_is o
  rw [e2] at o
  obtain ⟨B,rfl,_,_⟩:=row_some o hr
  refine ⟨B,cp,e2,fun k u hu=>?_⟩
  have:=o.cells (g:=B) rfl k u hu
  rwa [add_off,Nat.zero_add] at this
theorem m0 (h:SN n5 M G X x F C Pp Oo va vb z fr tw bg w):w.cell? ⟨G,0,none⟩=some (.pointer (some ⟨M,0,none⟩)):=h.cell (j:=0) (by omega)
end SN
namespace SN
variable {n5 M G:Nat} {X:Nat->Nat} {x:Ch.Mx} {F:List ByteArray} {C:List Nat} {Pp:List ByteArray} {Oo:List Nat} {va vb:Nat->Value} {z:Sz} {fr tw bg:List Int} {w w':World}
theorem other (h:SN n5 M G X x F C Pp Oo va vb z fr tw bg w) {Z:Nat} {t:TypeId} (T:TyB w Z t) (h1:t ∉ MTs) (h2:t ≠ 119) (h3:t ≠ 9) (u:But Z w w'):SN n5 M G X x F C Pp Oo va vb z fr tw bg w':=by
  have h4:t ≠ 3:=fun e=>by subst e; exact h1 (by simp)
  have nG:G ≠ Z:=ty_ne h.sw.ty T (fun e=>h2 e.symm)
  have kp:∀ g,SM M X va vb g->w'.heap[g]?=w.heap[g]?:=fun g hg=>u.rest g (h.pm.lt hg) (fun e=>h.pm.apart T h1 (e ▸ hg))
  refine ⟨h.pm.keep kp,h.ok,⟨h.sw.rows.but T (fun r hr=>?_) u,h.sw.cel.but u nG,h.sw.ty.but u nG,Below.refl _ _,fun _ _=>rfl,fun g hg=>Nat.lt_of_lt_of_le (h.pm.lt hg) u.below.size,h.sw.sl,h.sw.st,h.sw.rt⟩,h.zk,h.lf,h.lt,h.lb,h.lo,h.lc,h.cF,h.cP⟩
  simp only [snR,List.mem_cons,List.not_mem_nil,or_false] at hr
  rcases hr with rfl | rfl | rfl | rfl | rfl | rfl | rfl <;> first | exact fun e=>h3 e.symm | exact fun e=>h4 e.symm
end SN
structure N1 (n5 M G:Nat) (X:Nat->Nat) (x:Ch.Mx) (F:List ByteArray) (C:List Nat) (Pp:List ByteArray) (Oo:List Nat) (va vb:Nat->Value) (z:Sz) (fr tw bg:List Int) (w0:World) (Bq:Nat) (f:Nat->Nat) (k:Nat) (w:World):Prop where
  s:SN n5 M G X x F C Pp Oo va vb z fr tw bg w
  c:Cel w Bq 8 (cel8 (fun j=>if j < k then ((f j:Nat):Int) else 0))
  t:TyB w Bq 22
  b:Below n5 w0 w
  l:n5<=Bq
theorem N1.below {n5 M G:Nat} {X:Nat->Nat} {x:Ch.Mx} {F:List ByteArray} {C:List Nat} {Pp:List ByteArray} {Oo:List Nat} {va vb:Nat->Value} {z:Sz} {fr tw bg:List Int} {w0 w w':World} {Bq k:Nat} {f:Nat->Nat} (h:N1 n5 M G X x F C Pp Oo va vb z fr tw bg w0 Bq f k w) (hb:Below w.heap.size w w'):N1 n5 M G X x F C Pp Oo va vb z fr tw bg w0 Bq f k w':=
  ⟨h.s.below hb,h.c.below hb,h.t.below hb,h.b.trans (hb.mono h.s.n5w),h.l⟩
theorem N1.put {n5 M G:Nat} {X:Nat->Nat} {x:Ch.Mx} {F:List ByteArray} {C:List Nat} {Pp:List ByteArray} {Oo:List Nat} {va vb:Nat->Value} {z:Sz} {fr tw bg:List Int} {w0 w:World} {Bq k:Nat} {f:Nat->Nat} (h:N1 n5 M G X x F C Pp Oo va vb z fr tw bg w0 Bq f k w):N1 n5 M G X x F C Pp Oo va vb z fr tw bg w0 Bq f (k + 1) (w.setCell ⟨Bq,k,none⟩ (.int .i64 ((f k:Nat):Int))):=by
  have u:But Bq w (w.setCell ⟨Bq,k,none⟩ (.int .i64 ((f k:Nat):Int))):=(But.refl Bq w).setCell k _
  refine ⟨h.s.other h.t (by decide) (by decide) (by decide) u,(h.c.set k _).congr (fun j hj=>?_),?_,h.b.trans (u.below.mono h.l),h.l⟩
  · show (if j=k then _ else cel8 _ j)=cel8 _ j
    dsimp only [cel8]
    by_cases e:j=k
    · subst e
      rw [if_pos rfl,if_pos (by omega)]
    rw [if_neg e]
    by_cases e2:j < k
    · rw [if_pos e2,if_pos (by omega)]
    rw [if_neg e2,if_neg (by omega)]
  obtain ⟨cur,fe,hh⟩:=h.t
  obtain ⟨c',hc'⟩:=cells_setCell (i:=k) (u:=.int .i64 ((f k:Nat):Int)) hh
  exact ⟨c',fe,hc'⟩
theorem sC_upd2 (M:Nat) (z:Sz) (c:Nat) (y:Int) (hc:c < 8) (j:Nat) (hj:j < 25):(if j=16 + c then .int .i64 y else sC M z j)=sC M { z with so:=Ch.upd z.so c y } j:=by
  by_cases h:j=16 + c
  · subst h
    rw [if_pos rfl,sC_so _ _ hc]
    show _=Value.int .i64 (Ch.upd z.so c y c)
    rw [Ch.upd_same]
  rw [if_neg h]
  by_cases h2:16<=j/\j < 24
  · obtain ⟨k,rfl⟩:∃ k,j=16 + k:=⟨j - 16,by omega⟩
    rw [sC_so _ _ (by omega),sC_so _ _ (by omega)]
    show _=Value.int .i64 (Ch.upd z.so c y k)
    rw [Ch.upd_ne _ _ (by omega)]
  by_cases h3:j < 8
  · match j,h3 with
    | 0,_=>rfl
    | 1,_=>rfl
    | 2,_=>rfl
    | 3,_=>rfl
    | 4,_=>rfl
    | 5,_=>rfl
    | 6,_=>rfl
    | 7,_=>rfl
  by_cases h4:j=24
  · subst h4
    rfl
  obtain ⟨k,rfl⟩:∃ k,j=8 + k:=⟨j - 8,by omega⟩
  rw [sC_by _ _ (by omega),sC_by _ _ (by omega)]
def N3 (n5 M G:Nat) (X:Nat->Nat) (x:Ch.Mx) (F:List ByteArray) (C:List Nat) (Pp:List ByteArray) (Oo:List Nat) (va vb:Nat->Value) (z:Sz) (bg:List Int) (w0 w:World):Prop:=∃ fr tw,SN n5 M G X x F C Pp Oo va vb z fr tw bg w/\Below n5 w0 w
def chv (x:Ch.Mx) (k:Nat):Nat:=if ¬ x.idle/\x.ch < k then x.ch else 7
theorem chv_same {x:Ch.Mx} (o:x.Ok) {k:Nat} (hk:k < 8) (e:x.nxt.wt k=x.wt k):chv x (k + 1)=chv x k:=by
  unfold chv
  rcases Ch.ch_seen o with ⟨i,_,_⟩ | ⟨i,n,_⟩
  · rw [if_neg (fun q=>q.1 i),if_neg (fun q=>q.1 i)]
  by_cases q:x.ch=k
  · exact absurd (by rw [q]; exact e) n
  by_cases q2:x.ch < k
  · rw [if_pos ⟨i,by omega⟩,if_pos ⟨i,q2⟩]
  rw [if_neg (fun z=>by have:=z.2; omega),if_neg (fun z=>q2 z.2)]
theorem chv_new {x:Ch.Mx} (o:x.Ok) {k:Nat} (hk:k < 8) (e:x.nxt.wt k ≠ x.wt k):chv x (k + 1)=k:=by
  unfold chv
  rcases Ch.ch_seen o with ⟨_,_,h⟩ | ⟨i,n,h⟩
  · exact absurd (h k hk) e
  by_cases q:k=x.ch
  · rw [if_pos ⟨i,by omega⟩,q]
  exact absurd (h k hk q) e
theorem chv_0 (x:Ch.Mx):chv x 0=7:=if_neg (fun q=>by have:=q.2; omega)
theorem chv_8 (x:Ch.Mx):chv x 8=x.ch:=by
  unfold chv
  have:=x.ch_lt
  by_cases i:x.idle
  · rw [if_neg (fun q=>q.1 i)]
    exact (if_pos i).symm
  rw [if_pos ⟨i,this⟩]
theorem snext_any {n5 M G:Nat} {X:Nat->Nat} {x:Ch.Mx} {F:List ByteArray} {C:List Nat} {Pp:List ByteArray} {Oo:List Nat} {va vb:Nat->Value} {z:Sz} {fr tw bg:List Int} {w:World} (h:SN n5 M G X x F C Pp Oo va vb z fr tw bg w) (word:Nat) (hw:word < 1000000) (cF:F.length < 10000):
    Calls Tryz.prog 57 #[.pointer (some ⟨G,0,none⟩),.int .i64 (word:Nat)] w fun e w'=>(∃ v,e=.returned v)/\∃ va' vb' z' fr' tw',SN n5 M G X x.nxt (F ++ [bs (Tm.enc (x.frm word))]) (C ++ [x.ch]) Pp Oo va' vb' z' fr' tw' bg w'/\Below n5 w w':=by
  have H:=Lib.hid h
  have CF:=Lib.hid cF
  have HW:=Lib.hid hw
  clear h cF
  go_enter Tryz.func57,Tryz.ntmps57
  go_wp2_with ((with_reducible refine atList ?_); refine wpList_newT rfl (.alloc 22) rfl (some 4) rfl #[.int .i64 0,.int .i64 0,.int .i64 0,.int .i64 0,.int .i64 0,.int .i64 0,.int .i64 0,.int .i64 0] 22 (fun X=>.pointer (some ⟨X,0,none⟩)) 8 (cel8 (fun _=>0)) (a8_cells (fun _=>0)) (alloc_a8 rfl) ?_; intro Bq w1 HB SB CB BB TB)
  have L0:Hid (N1 n5 M G X x F C Pp Oo va vb z fr tw bg w Bq x.wt 0 w1):=Lib.hid ⟨H.out.below BB.out,CB.out.congr (fun j hj=>by show cel8 _ j=cel8 _ j; dsimp only [cel8]; rw [if_neg (by omega)]),TB.out,BB.out.mono H.out.n5w,by have:=HB.out; have:=H.out.n5w; omega⟩
  clear HB SB CB BB TB H
  go_loopw [5] (fun i wr=>∃ k:Nat,k<=8/\i=.int .i64 k/\N1 n5 M G X x F C Pp Oo va vb z fr tw bg w Bq x.wt k wr) (fun i _=>8 - (intOf i).toNat)
  case atStart=>exact ⟨0,by omega,rfl,L0.out⟩
  case round=>
    obtain ⟨k,hk,rfl,hB⟩:=hrel
    have HB:=Lib.hid hB
    clear hB L0
    by_cases hlt:k < 8
    · have k0:(0:Int)<=(k:Int):=by omega
      have k1:(k:Int) < 8:=by omega
      have m0:=HB.out.s.m0
      have WQ:=Lib.hid (HB.out.s.waiting hlt)
      go_wp2_with fail
      (with_reducible refine WQ.out.mono ?_)
      rintro e w2 ⟨rfl,m,rfl⟩
      obtain ⟨w2,hw2⟩:∃ q,wr.drewN m=q:=⟨_,rfl⟩
      rw [hw2]
      have HB2:=Lib.hid (N1.below (w':=w2) HB.out (by rw [<-hw2]; exact below_drewN (Below.refl _ _) _))
      clear hw2 m0 WQ HB
      have c0:w2.cell? ⟨Bq,k,none⟩=some (.int .i64 (if k < k then ((x.wt k:Nat):Int) else 0)):=HB2.out.c.cell hlt
      have c1:w2.frozen? ⟨Bq,k,none⟩=false:=HB2.out.c.frozen hlt
      rw [if_neg (Nat.lt_irrefl k)] at c0
      go_wp2_with fail
      go_roundw
      case rel=>exact ⟨k + 1,by omega,by go_num,HB2.out.put⟩
      case measure=>simp [intOf]; omega
    obtain rfl:k=8:=by omega
    clear hlt hk
    have m0:=HB.out.s.m0
    have NX:=Lib.hid (HB.out.s.next word (by have:=HW.out; omega))
    have ew:IntKind.u32.wrap (word:Int)=((word:Nat):Int):=by rw [IntKind.wrap_u32]; have:=HW.out; omega
    go_wp2_with fail
    (with_reducible refine NX.out.mono ?_)
    rintro e w2 ⟨rfl,va1,vb1,s2,b2,o2⟩
    have HB2:Hid (N1 n5 M G X x.nxt F C Pp Oo va1 vb1 z fr tw bg w Bq x.wt 8 w2):=Lib.hid ⟨s2,HB.out.c.of_block (o2 _ _ HB.out.t (by decide)),HB.out.t.of_block (o2 _ _ HB.out.t (by decide)),HB.out.b.trans b2,HB.out.l⟩
    have OK:=Lib.hid HB.out.s.ok
    clear s2 b2 o2 NX m0 ew HB
    go_wp2_with fail
    go_loopw [8,9] (fun c i wr=>∃ k:Nat,k<=8/\i=.int .i64 k/\c=.int .i64 (chv x k:Nat)/\N1 n5 M G X x.nxt F C Pp Oo va1 vb1 z fr tw bg w Bq x.wt 8 wr) (fun _ i _=>8 - (intOf i).toNat)
    case atStart=>exact ⟨0,by omega,rfl,by rw [chv_0]; rfl,HB2.out⟩
    case round=>
      obtain ⟨k,hk,rfl,rfl,hB⟩:=hrel
      have HC:=Lib.hid hB
      clear hB HB2
      by_cases hlt:k < 8
      · have k0:(0:Int)<=(k:Int):=by omega
        have k1:(k:Int) < 8:=by omega
        have m0:=HC.out.s.m0
        have f0:wr.cell? ⟨Bq,k,none⟩=some (.int .i64 (x.wt k:Nat)):=by have:=HC.out.c.cell hlt; rw [this]; show some (Value.int .i64 (if k < 8 then _ else _))=_; rw [if_pos hlt]
        have WQ:=Lib.hid (fun nq=>(N1.below (w':=wr.drewN nq) HC.out (below_drewN (Below.refl _ _) nq)).s.waiting hlt)
        have SA:=Lib.hid (fun e=>chv_same OK.out hlt e)
        have SB:=Lib.hid (fun e=>chv_new OK.out hlt e)
        obtain ⟨a,ha⟩:∃ a,x.nxt.wt k=a:=⟨_,rfl⟩
        obtain ⟨b,hb⟩:∃ b,x.wt k=b:=⟨_,rfl⟩
        obtain ⟨c,hc⟩:∃ c,chv x k=c:=⟨_,rfl⟩
        rw [hb] at f0
        rw [ha] at WQ
        rw [ha,hb,hc] at SA
        rw [ha,hb] at SB
        rw [hc]
        clear ha hb hc
        by_cases q:a=b
        · have p1:((a:Int) != (b:Int))=false:=by rw [bne_eq_false_iff_eq]; omega
          have p1n:(a != b)=false:=by rw [bne_eq_false_iff_eq]; exact q
          have SE:=Lib.hid (SA.out q)
          clear q SA SB
          go_wp2_with fail
          go_quiet ((go_at_call 18; (with_reducible exact Calls.quiet_of (WQ.out _))))
          go_wp2_with fail
          go_roundw
          case rel=>exact ⟨k + 1,by omega,by go_num,by rw [SE.out],N1.below HC.out (below_drewN (Below.refl _ _) _)⟩
          case measure=>simp [intOf]; omega
        have p1:((a:Int) != (b:Int))=true:=by rw [bne_iff_ne]; omega
        have p1n:(a != b)=true:=by rw [bne_iff_ne]; exact q
        have SE:=Lib.hid (SB.out q)
        clear q SA SB
        go_wp2_with fail
        go_quiet ((go_at_call 18; (with_reducible exact Calls.quiet_of (WQ.out _))))
        go_wp2_with fail
        go_roundw
        case rel=>exact ⟨k + 1,by omega,by go_num,by rw [SE.out],N1.below HC.out (below_drewN (Below.refl _ _) _)⟩
        case measure=>simp [intOf]; omega
      obtain rfl:k=8:=by omega
      clear hlt hk
      rw [chv_8]
      obtain ⟨c,hc⟩:∃ c,x.ch=c:=⟨_,rfl⟩
      have HCC:=Lib.hid hc
      have C8:=Lib.hid (show c < 8 by rw [<-hc]; exact x.ch_lt)
      have k0:(0:Int)<=(c:Int):=by omega
      have k1:(c:Int) < 8:=by have:=C8.out; omega
      have m0:=HC.out.s.m0
      have f0:wr.cell? ⟨Bq,c,none⟩=some (.int .i64 (x.wt c:Nat)):=by have:=HC.out.c.cell C8.out; rw [this]; show some (Value.int .i64 (if c < 8 then _ else _))=_; rw [if_pos C8.out]
      have g0:wr.cell? ⟨G,16 + c,none⟩=some (.int .i64 (z.so c)):=by have:=HC.out.s.cell (j:=16 + c) (by have:=C8.out; omega); rw [this]; exact congrArg some (sC_so M z C8.out)
      have WQ:=Lib.hid (fun nq=>(N1.below (w':=wr.drewN nq) HC.out (below_drewN (Below.refl _ _) nq)).s.waiting C8.out)
      rw [hc]
      clear hc
      go_wp2_with fail
      go_quiet ((go_at_call 18; (with_reducible exact Calls.quiet_of (WQ.out _))))
      rename Nat=>nq
      obtain ⟨w3,hw3⟩:∃ q,wr.drewN nq=q:=⟨_,rfl⟩
      rw [hw3]
      have HD:=Lib.hid (N1.below (w':=w3) HC.out (by rw [<-hw3]; exact below_drewN (Below.refl _ _) _))
      obtain ⟨nw,hnw⟩:∃ q:Int,wrap64 (wrap64 (z.so c + ((x.wt c:Nat):Int)) - ((x.nxt.wt c:Nat):Int))=q:=⟨_,rfl⟩
      rw [hnw]
      clear hw3 hnw m0 f0 g0 WQ HC
      have L0:Hid (N3 n5 M G X x.nxt F C Pp Oo va1 vb1 z bg w w3):=Lib.hid ⟨fr,tw,HD.out.s,HD.out.b⟩
      clear HD
      go_wp2_with fail
      go_loopw [12] (fun i wr=>∃ p:Nat,p<=Pp.length/\i=.int .i64 p/\N3 n5 M G X x.nxt F C Pp Oo va1 vb1 z bg w wr) (fun i _=>Pp.length - (intOf i).toNat)
      case atStart=>exact ⟨0,Nat.zero_le _,rfl,L0.out⟩
      case round=>
        obtain ⟨p,hp,rfl,hB⟩:=hrel
        have H3:=Lib.hid hB
        clear hB L0
        obtain ⟨n,hn⟩:∃ n,Pp.length=n:=⟨_,rfl⟩
        have HN:=Lib.hid hn
        have CP:=Lib.hid (show n<=1000 by obtain ⟨_,_,s,_⟩:=H3.out; have:=s.cP; omega)
        obtain ⟨s3,c3,e3⟩:∃ a cc,z.v3=.slice a n cc:=by
          obtain ⟨_,_,s,_⟩:=H3.out
          obtain ⟨a,cc,e⟩:=own_is (s.sw.rows.at' (i:=2) rfl)
          exact ⟨a,cc,by rw [<-hn,<-strVs_len]; exact e⟩
        have E3:=Lib.hid e3
        have k3:wr.cell? ⟨G,3,none⟩=some (.slice s3 n c3):=by obtain ⟨_,_,s,_⟩:=H3.out; exact (s.cell (j:=3) (by omega)).trans (congrArg some e3)
        rw [hn] at hp
        rw [hn]
        clear e3 hn
        by_cases hlt:p < n
        · have q0:(0:Int)<=(p:Int):=by omega
          have q2:(p:Int) < 1000:=by have:=CP.out; omega
          have q1:(p:Int) < (n:Int):=by omega
          have d1:decide ((p:Int) < (n:Int))=true:=decide_eq_true q1
          have d1n:decide (p < n)=true:=decide_eq_true hlt
          have PN:=Lib.hid hlt
          clear hlt hp
          obtain ⟨fr1,tw1,s1,b1⟩:=H3.out
          have HS:=Lib.hid s1
          have HB1:=Lib.hid b1
          clear s1 b1 H3
          have LN:=Lib.hid (And.intro (HS.out.lf.trans HN.out) (And.intro (HS.out.lt.trans HN.out) (And.intro (HS.out.lb.trans HN.out) (HS.out.lo.trans HN.out))))
          obtain ⟨B3,cc3,e3,g3⟩:=HS.out.row (i:=2) rfl (by show 0 < (strVs Pp).length; rw [strVs_len,HN.out]; omega)
          obtain ⟨B4,c4,e4,g4⟩:=HS.out.row (i:=3) rfl (by show 0 < (nVs Oo).length; rw [nVs_len,LN.out.2.2.2]; omega)
          obtain ⟨B5,c5,e5,g5⟩:=HS.out.row (i:=4) rfl (by show 0 < (iVs fr1).length; rw [iVs_len,LN.out.1]; omega)
          obtain ⟨B6,c6,e6,g6⟩:=HS.out.row (i:=5) rfl (by show 0 < (iVs tw1).length; rw [iVs_len,LN.out.2.1]; omega)
          obtain ⟨B7,c7,e7,g7⟩:=HS.out.row (i:=6) rfl (by show 0 < (iVs bg).length; rw [iVs_len,LN.out.2.2.1]; omega)
          obtain ⟨s1,c1,e1⟩:∃ a cc,z.v1=.slice a F.length cc:=by
            obtain ⟨a,cc,e⟩:=own_is (HS.out.sw.rows.at' (i:=0) rfl)
            exact ⟨a,cc,by rw [<-strVs_len]; exact e⟩
          rw [show (strVs Pp).length=n by rw [strVs_len,HN.out]] at e3
          rw [show (nVs Oo).length=n by rw [nVs_len,LN.out.2.2.2]] at e4
          rw [show (iVs fr1).length=n by rw [iVs_len,LN.out.1]] at e5
          rw [show (iVs tw1).length=n by rw [iVs_len,LN.out.2.1]] at e6
          rw [show (iVs bg).length=n by rw [iVs_len,LN.out.2.2.1]] at e7
          have e3':=E3.out.symm.trans e3
          obtain ⟨rfl,rfl⟩:s3=some ⟨B3,0,none⟩/\c3=cc3:=by cases e3'; exact ⟨rfl,rfl⟩
          clear e3'
          obtain ⟨oc,hoc⟩:∃ q,Oo[p]?=some q:=⟨_,List.getElem?_eq_getElem (by rw [LN.out.2.2.2]; exact PN.out)⟩
          obtain ⟨pk,hpk⟩:∃ q,Pp[p]?=some q:=⟨_,List.getElem?_eq_getElem (by rw [HN.out]; exact PN.out)⟩
          obtain ⟨bp,hbp⟩:∃ q,bg[p]?=some q:=⟨_,List.getElem?_eq_getElem (by rw [LN.out.2.2.1]; exact PN.out)⟩
          obtain ⟨fp,hfp⟩:∃ q,fr1[p]?=some q:=⟨_,List.getElem?_eq_getElem (by rw [LN.out.1]; exact PN.out)⟩
          have j4:wr.cell? ⟨G,4,none⟩=some (.slice (some ⟨B4,0,none⟩) n c4):=(HS.out.cell (j:=4) (by omega)).trans (congrArg some e4)
          have j24:wr.cell? ⟨G,24,none⟩=some (.slice (some ⟨B7,0,none⟩) n c7):=(HS.out.cell (j:=24) (by omega)).trans (congrArg some e7)
          have o4:wr.cell? ⟨B4,p,none⟩=some (.int .i64 (oc:Nat)):=g4 p _ (by show (nVs Oo)[p]?=_; unfold nVs; rw [List.getElem?_map,hoc]; rfl)
          have o3:wr.cell? ⟨B3,p,none⟩=some (.string pk):=g3 p _ (by show (strVs Pp)[p]?=_; unfold strVs; rw [List.getElem?_map,hpk]; rfl)
          have o7:wr.cell? ⟨B7,p,none⟩=some (.int .i64 bp):=g7 p _ (by show (iVs bg)[p]?=_; unfold iVs; rw [List.getElem?_map,hbp]; rfl)
          have j16:wr.cell? ⟨G,16 + c,none⟩=some (.int .i64 (z.so c)):=by have:=HS.out.cell (j:=16 + c) (by have:=C8.out; omega); rw [this]; exact congrArg some (sC_so M z C8.out)
          have FP:=Lib.hid (g5 p _ (by show (iVs fr1)[p]?=_; unfold iVs; rw [List.getElem?_map,hfp]; rfl))
          have E1:=Lib.hid e1
          have E5:=Lib.hid (show z.v5=.slice (some ⟨B5,0,none⟩) n c5 from e5)
          have E6:=Lib.hid (show z.v6=.slice (some ⟨B6,0,none⟩) n c6 from e6)
          clear g3 g4 g5 g6 g7 e1 e3 e4 e5 e6 e7 hoc hpk hbp hfp
          go_upto_region 17 with fail
          go_cut [123] from 79 to 153 (fun a wx=>(∃ q:Bool,a=.bool q)/\Below wr.heap.size wr wx)
          case first=>
            by_cases A:oc=c
            · have p1:((oc:Int) == (c:Int))=true:=by rw [beq_iff_eq]; omega
              have p1n:(oc == c)=true:=by rw [beq_iff_eq]; exact A
              clear A
              by_cases B:bp < nw
              · have p2:decide (bp < nw)=true:=decide_eq_true B
                clear B
                go_wp2_with fail
                go_quiet (fail)
                go_wp2_with fail
                go_meet
                case rel=>exact ⟨⟨_,rfl⟩,below_drewN (Below.refl _ _) _⟩
              have p2:decide (bp < nw)=false:=decide_eq_false B
              clear B
              go_wp2_with fail
              go_quiet (fail)
              go_wp2_with fail
              go_meet
              case rel=>exact ⟨⟨_,rfl⟩,below_drewN (Below.refl _ _) _⟩
            have p1:((oc:Int) == (c:Int))=false:=by rw [beq_eq_false_iff_ne]; omega
            have p1n:(oc == c)=false:=by rw [beq_eq_false_iff_ne]; exact A
            clear A
            go_wp2_with fail
            go_quiet (fail)
            go_wp2_with fail
            go_meet
            case rel=>exact ⟨⟨_,rfl⟩,below_drewN (Below.refl _ _) _⟩
          case rest=>
            obtain ⟨⟨q,rfl⟩,hwx⟩:=hcut
            rename World=>wx
            have HX:=Lib.hid (HS.out.below hwx)
            have BX:=Lib.hid (HB1.out.trans (hwx.mono HS.out.n5w))
            have FX:=Lib.hid ((hwx.cell (p:=⟨B5,p,none⟩) (HS.out.sw.rows.lt (r:=⟨z.v5,3,iVs fr1⟩) (by simp) (by show z.v5.ownBlock=some B5; rw [E5.out]; rfl))).trans FP.out)
            clear hwx HS HB1 FP j4 j24 o3 o4 o7 j16 k3
            cases q with
            | false=>
              go_wp2_with fail
              go_roundw
              case rel=>exact ⟨p + 1,by have:=PN.out; omega,by go_num,fr1,tw1,HX.out,BX.out⟩
              case measure=>simp [intOf]; have:=PN.out; omega
            | true=>
              have j5:wx.cell? ⟨G,5,none⟩=some (.slice (some ⟨B5,0,none⟩) n c5):=(HX.out.cell (j:=5) (by omega)).trans (congrArg some E5.out)
              have o5:=FX.out
              go_upto_if 131 with fail
              obtain ⟨NF,hNF⟩:∃ q,F.length=q:=⟨_,rfl⟩
              have HNF:=Lib.hid hNF
              have E1':=Lib.hid (show z.v1=.slice s1 NF c1 by rw [<-hNF]; exact E1.out)
              clear hNF o5 FX
              go_cut [131] from 132 to 142 (fun a wy=>∃ fr2:List Int,SN n5 M G X x.nxt F C Pp Oo va1 vb1 z fr2 tw1 bg wy/\Below n5 w wy)
              case first=>
                by_cases A:fp < 0
                · have p1:decide (fp < 0)=true:=decide_eq_true A
                  go_upto_region 19 with fail
                  refine swRegion19 n5 G M (SM M X va1 vb1) wx z (snR z F C Pp Oo fr1 tw1 bg) 4 (iVs fr1) p B5 n c5 NF c1 s1 (HX.out.sw.below (Below.refl _ _).drew) (by simp) E5.out E1'.out PN.out (by rw [iVs_len,LN.out.1]) (by kernel_rfl) rfl rfl rfl rfl rfl rfl rfl rfl rfl rfl rfl rfl rfl rfl ?_
                  intro w5a hW
                  obtain ⟨u2,y1,y2,hW5⟩:=Wst.put hW (by simp) E5.out (by show p < (iVs fr1).length; rw [iVs_len,LN.out.1]; exact PN.out)
                  simp only [Act.put,List.setIfInBounds_toArray,List.set_cons_succ,List.set_cons_zero,List.drop_succ_cons,List.drop_zero]
                  have S5:=Lib.hid (show SW n5 G (SM M X va1 vb1) wx (snR z F C Pp Oo (fr1.set p (NF:Nat)) tw1 bg) (sC M z) (w5a.setCell ⟨B5,p,none⟩ (.int .i64 (NF:Nat))) by
                    unfold snR
                    rw [<-iVs_set fr1]
                    exact hW5)
                  go_wp2_with fail
                  go_meet
                  case rel=>exact ⟨_,HX.out.with' S5.out HX.out.zk (by rw [List.length_set]; exact HX.out.lf) HX.out.lt HX.out.lb HX.out.lo HX.out.lc HX.out.cF HX.out.cP,BX.out.trans S5.out.low⟩
                have p1:decide (fp < 0)=false:=decide_eq_false A
                have A2:0<=fp:=by omega
                clear A
                go_wp2_with fail
                go_meet
                case rel=>exact ⟨fr1,HX.out,BX.out⟩
              case rest=>
                obtain ⟨fr2,s2,b2⟩:=hcut
                rename World=>wy
                have HY:=Lib.hid s2
                have BY:=Lib.hid b2
                clear s2 b2 HX BX j5
                go_upto_region 20 with fail
                refine swRegion20 n5 G M (SM M X va1 vb1) wy z (snR z F C Pp Oo fr2 tw1 bg) 5 (iVs tw1) p B6 n c6 NF c1 s1 (HY.out.sw.below (Below.refl _ _).drew) (by simp) E6.out E1'.out PN.out (by rw [iVs_len,LN.out.2.1]) (by kernel_rfl) rfl rfl rfl rfl rfl rfl rfl rfl rfl rfl rfl rfl rfl rfl ?_
                intro w5a hW
                obtain ⟨u2,y1,y2,hW5⟩:=Wst.put hW (by simp) E6.out (by show p < (iVs tw1).length; rw [iVs_len,LN.out.2.1]; exact PN.out)
                simp only [Act.put,List.setIfInBounds_toArray,List.set_cons_succ,List.set_cons_zero,List.drop_succ_cons,List.drop_zero]
                have S5:=Lib.hid (show SW n5 G (SM M X va1 vb1) wy (snR z F C Pp Oo fr2 (tw1.set p (NF:Nat)) bg) (sC M z) (w5a.setCell ⟨B6,p,none⟩ (.int .i64 (NF:Nat))) by
                  unfold snR
                  rw [<-iVs_set tw1]
                  exact hW5)
                go_wp2_with fail
                go_roundw
                case rel=>exact ⟨p + 1,by have:=PN.out; omega,by go_num,fr2,_,HY.out.with' S5.out HY.out.zk HY.out.lf (by rw [List.length_set]; exact HY.out.lt) HY.out.lb HY.out.lo HY.out.lc HY.out.cF HY.out.cP,BY.out.trans S5.out.low⟩
                case measure=>simp [intOf]; have:=PN.out; omega
        obtain rfl:p=n:=by omega
        have d1:decide ((p:Int) < (p:Int))=false:=decide_eq_false (by omega)
        have d1n:decide (p < p)=false:=decide_eq_false (by omega)
        clear hlt hp
        obtain ⟨fr1,tw1,s1,b1⟩:=H3.out
        have HS:=Lib.hid s1
        have HB1:=Lib.hid b1
        clear s1 b1 H3
        have g0:wr.cell? ⟨G,16 + c,none⟩=some (.int .i64 (z.so c)):=by have:=HS.out.cell (j:=16 + c) (by have:=C8.out; omega); rw [this]; exact congrArg some (sC_so M z C8.out)
        have g1:wr.frozen? ⟨G,16 + c,none⟩=false:=HS.out.sw.cel.frozen (by have:=C8.out; omega)
        go_upto_region 22 with fail
        obtain ⟨z2,hz2⟩:∃ z2,({ z with so:=Ch.upd z.so c nw }:Sz)=z2:=⟨_,rfl⟩
        have S4:=Lib.hid (show SW n5 G (SM M X va1 vb1) wr (snR z2 F C Pp Oo fr1 tw1 bg) (sC M z2) (wr.setCell ⟨G,16 + c,none⟩ (.int .i64 nw)) by rw [<-hz2]; exact (HS.out.sw.put (16 + c) (.int .i64 nw)).congr (fun j hj=>sC_upd2 M z c nw C8.out j hj))
        have ZK:=Lib.hid (show z2.ok=true by rw [<-hz2]; exact HS.out.zk)
        obtain ⟨w4,hw4⟩:∃ q,wr.setCell ⟨G,16 + c,none⟩ (.int .i64 nw)=q:=⟨_,rfl⟩
        rw [hw4] at S4 ⊢
        clear hw4 hz2 g0 g1 k3
        have W4:=Lib.hid (show Wn n5 G M (SM M X va1 vb1) wr z2 (strVs F) (nVs C) (.string (bs (Tm.enc (x.frm word)))) (.int .i64 (c:Nat)) [⟨z2.v3,9,strVs Pp⟩,⟨z2.v4,3,nVs Oo⟩,⟨z2.v5,3,iVs fr1⟩,⟨z2.v6,3,iVs tw1⟩,⟨z2.v7,3,iVs bg⟩] 0 z2.v1 0 z2.v2 false false false false false false w4.drew from
          (S4.out.pick [.inr 0,.inr 1,.inl 9,.inl 3,.inr 2,.inr 3,.inr 4,.inr 5,.inr 6] (by intro j hj; simp at hj; simp; omega) (by unfold Once; decide) (by intro t ht; simp at ht; rcases ht with rfl | rfl <;> decide)).below (Below.refl _ _).drew)
        obtain ⟨fm,hfm⟩:∃ q,bs (Tm.enc (x.frm word))=q:=⟨_,rfl⟩
        rw [hfm] at W4 ⊢
        have Z1:=Lib.hid (S4.out.is (i:=0) rfl)
        have Z2:=Lib.hid (S4.out.is (i:=1) rfl)
        refine swRegion22 n5 G M (SM M X va1 vb1) wr z2 (strVs F) (nVs C) fm c _ W4.out Z1.out Z2.out (by rw [strVs_len]; have:=HS.out.cF; omega) (by rw [nVs_len,HS.out.lc]; have:=HS.out.cF; omega) (by kernel_rfl) rfl rfl rfl rfl rfl rfl rfl rfl rfl rfl rfl rfl rfl rfl rfl rfl rfl rfl rfl rfl rfl rfl rfl rfl rfl ?_
        intro b1 v1 b2 v2 w5a hW5a
        obtain ⟨a2,n2,c2,hv2⟩:=sl2 rfl hW5a
        subst hv2
        obtain ⟨u2,y1,y2,hW5⟩:=put2 rfl hW5a
        simp only [Act.put,List.setIfInBounds_toArray,List.set_cons_succ,List.set_cons_zero,List.drop_succ_cons,List.drop_zero]
        go_upto_region 23 with fail
        obtain ⟨w5,hw5⟩:∃ q,w5a.setCell ⟨G,2,none⟩ (.slice a2 n2 c2)=q:=⟨_,rfl⟩
        rw [hw5] at hW5 ⊢
        clear hw5 y1 y2 hW5a
        have S5:=Lib.hid (show SW n5 G (SM M X va1 vb1) wr (snR { z2 with v1:=v1,v2:=.slice a2 n2 c2 } (F ++ [fm]) (C ++ [c]) Pp Oo fr1 tw1 bg) (sC M { z2 with v1:=v1,v2:=.slice a2 n2 c2 }) w5 by
          have q:=SW.pick hW5 [.inr 0,.inr 1,.inr 4,.inr 5,.inr 6,.inr 7,.inr 8] (by intro j hj; simp at hj; simp; omega) (by unfold Once; decide) (by intro t ht; simp at ht)
          unfold snR
          rw [<-strVs_add,<-nVs_add]
          exact q)
        have S6:=Lib.hid (HS.out.with' S5.out ZK.out HS.out.lf HS.out.lt HS.out.lb HS.out.lo (by rw [List.length_append,List.length_append,HS.out.lc]; rfl) (by rw [List.length_append]; have:=CF.out; show F.length + 1<=10000; omega) HS.out.cP)
        have B6:=Lib.hid (HB1.out.trans S5.out.low)
        clear hW5 W4 S4 S5 Z1 Z2 HS HB1
        have k7:w5.cell? ⟨G,7,none⟩=some (.bool true):=(S6.out.cell (j:=7) (by omega)).trans (by show some (Value.bool z2.ok)=_; rw [ZK.out])
        have k7f:w5.frozen? ⟨G,7,none⟩=false:=S6.out.sw.cel.frozen (by omega)
        have S7:=Lib.hid (show SN n5 M G X x.nxt (F ++ [fm]) (C ++ [c]) Pp Oo va1 vb1 { z2 with v1:=v1,v2:=.slice a2 n2 c2 } fr1 tw1 bg (w5.setCell ⟨G,7,none⟩ (.bool true)) from
          S6.out.with' ((S6.out.sw.put 7 (.bool true)).congr (fun j hj=>by
            by_cases e:j=7
            · subst e
              rw [if_pos rfl]
              show _=Value.bool z2.ok
              rw [ZK.out]
            rw [if_neg e])) ZK.out S6.out.lf S6.out.lt S6.out.lb S6.out.lo S6.out.lc S6.out.cF S6.out.cP)
        have B7:=Lib.hid (show Below n5 w (w5.setCell ⟨G,7,none⟩ (.bool true)) from B6.out.setCell (p:=⟨G,7,none⟩) S6.out.sw.sl _)
        clear S6 B6
        go_wp2_with fail
        first | go_ret | go_end0 | refine bodyPost_end (results_none rfl _ _ _) rfl ?_ | refine bodyPost_ret (results_none rfl _ _ _) rfl ?_
        rw [hfm,HCC.out]
        exact ⟨⟨_,rfl⟩,va1,vb1,_,fr1,tw1,S7.out,B7.out⟩
end Go.Proofs.YtchfkncbemjepaaGreat
