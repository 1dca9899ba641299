/- TpAdd2 -/
import Derived.Deep.AppendSrc
import Derived.BigQuiet
import Derived.Test.YtchfkncbemjepaaGreatTyKit
import Derived.Test.YtchfkncbemjepaaGreatTmFlip
import Derived.Test.YtchfkncbemjepaaGreatTpGet
set_option linter.unusedVariables false
set_option maxRecDepth 100000
set_option maxHeartbeats 8000000
/- Slices of one's own that may begin within their block (behind l = l[k:]), and what an append onto one leaves; what an object with memory of its own changes. -/
namespace Go.Proofs.YtchfkncbemjepaaGreat
open Go.RowKit

theorem arr_getD {a:Array Value} {j:Nat} (h:j < a.size):a[j]?=some (a.getD j undef):=by
  rw [Array.getElem?_eq_getElem h]
  simp [Array.getD,h]
def RowAt (w:World) (n0:Nat) (e:TypeId) (v:Value) (xs:List Value):Prop:=
  (v=.slice none 0 0/\xs=[])\/∃ g o cap f,v=.slice (some ⟨g,o,none⟩) xs.length cap/\n0<=g/\TyB w g e/\Cel w g (o + cap) f/\xs.length<=cap/\cap<=maxLen/\∀ j u,xs[j]?=some u->f (o + j)=u
structure Kb (n0:Nat) (v v':Value) (w w':World):Prop where
  below:Below n0 w w'
  rest:∀ g,g < w.heap.size->v.ownBlock ≠ some g->w'.heap[g]?=w.heap[g]?
  own:∀ g,v'.ownBlock=some g->v.ownBlock=some g\/w.heap.size<=g
namespace RowAt
variable {w w':World} {n0:Nat} {e:TypeId} {v:Value} {xs:List Value}
theorem is (h:RowAt w n0 e v xs):∃ a c,v=.slice a xs.length c/\xs.length<=c/\c<=maxLen:=by
  rcases h with ⟨rfl,rfl⟩ | ⟨g,o,cap,f,rfl,_,_,_,h1,h2,_⟩
  · exact ⟨none,0,rfl,Nat.le_refl _,by unfold maxLen; omega⟩
  exact ⟨_,cap,rfl,h1,h2⟩
theorem nil (w:World) (n0:Nat) (e:TypeId):RowAt w n0 e (.slice none 0 0) []:=.inl ⟨rfl,rfl⟩
theorem keep (h:RowAt w n0 e v xs) (hs:∀ g,v.ownBlock=some g->w'.heap[g]?=w.heap[g]?):RowAt w' n0 e v xs:=by
  rcases h with h | ⟨g,o,cap,f,rfl,h1,h2,h3,h4⟩
  · exact .inl h
  have:=hs g rfl
  exact .inr ⟨g,o,cap,f,rfl,h1,h2.of_block this,h3.of_block this,h4⟩
theorem blk (h:RowAt w n0 e v xs) {g:Nat} (hg:v.ownBlock=some g):n0<=g/\TyB w g e:=by
  rcases h with ⟨rfl,_⟩ | ⟨g',o,cap,f,rfl,h1,h2,_⟩
  · cases hg
  cases hg
  exact ⟨h1,h2⟩
theorem lt (h:RowAt w n0 e v xs) {g:Nat} (hg:v.ownBlock=some g):g < w.heap.size:=(h.blk hg).2.lt
theorem below (h:RowAt w n0 e v xs) (hb:Below w.heap.size w w'):RowAt w' n0 e v xs:=h.keep (fun g hg=>hb.block g (h.lt hg))
theorem of_own {n:Nat} (h:w.ownsRow n0 e 1 v n xs):RowAt w n0 e v xs:=by
  have ho:=h
  obtain ⟨hl,h⟩:=h
  rcases h with ⟨h1,h2⟩ | ⟨g,cap,cur,rfl,q2,q3,q4,q5,q6,q7⟩
  · exact .inl ⟨h1,List.length_eq_zero_iff.1 (by omega)⟩
  have ln:n=xs.length:=by omega
  subst ln
  rw [Nat.mul_one] at q6 q7
  refine .inr ⟨g,0,cap,fun j=>cur.getD j undef,rfl,q2,⟨cur,_,q3⟩,⟨(Array.getElem?_eq_some_iff.1 q3).1,fun j hj=>?_⟩,q4,q5,fun j u hu=>?_⟩
  · have hc:cur[j]?=some (cur.getD j undef):=arr_getD (by omega)
    refine ⟨?_,?_⟩
    · unfold World.cell?
      rw [q3]
      exact hc
    unfold World.frozen?
    rw [q3]
    show (decide (0<=j) && decide (j < 0))=false
    simp
  rw [<-q7,List.getElem?_take] at hu
  split at hu
  · rw [Array.getElem?_toList] at hu
    rw [Nat.zero_add]
    simp only [Array.getD_eq_getD_getElem?,hu,Option.getD_some]
  cases hu
theorem at' (h:RowAt w n0 e v xs) (hx:xs ≠ []):∃ g o cap,v=.slice (some ⟨g,o,none⟩) xs.length cap/\xs.length<=cap/\cap<=maxLen/\n0<=g/\TyB w g e/\∀ j u,xs[j]?=some u->w.cell? ⟨g,o + j,none⟩=some u:=by
  rcases h with ⟨_,rfl⟩ | ⟨g,o,cap,f,rfl,h1,h2,h3,h4,h5,h6⟩
  · exact absurd rfl hx
  refine ⟨g,o,cap,rfl,h4,h5,h1,h2,fun j u hu=>?_⟩
  have hj:j < xs.length:=(List.getElem?_eq_some_iff.1 hu).1
  rw [h3.cell (by omega),h6 j u hu]
theorem cut {g o cap:Nat} (h:RowAt w n0 e (.slice (some ⟨g,o,none⟩) xs.length cap) xs) (k:Nat) (hk:k<=xs.length) (o':Nat) (ho:o'=if cap=k then o else o + k):RowAt w n0 e (.slice (some ⟨g,o',none⟩) (xs.length - k) (cap - k)) (xs.drop k):=by
  rcases h with ⟨h,_⟩ | ⟨g',o2,cap',f,h0,h1,h2,h3,h4,h5,h6⟩
  · cases h
  cases h0
  by_cases hc:cap=k
  · rw [if_pos hc] at ho
    subst ho
    have hx:xs.length=k:=by omega
    rw [show xs.drop k=[] from List.drop_of_length_le (by omega)]
    exact .inr ⟨g,o',cap - k,f,by rw [show xs.length - k=0 by omega]; rfl,h1,h2,⟨h3.1,fun j hj=>h3.2 j (by omega)⟩,Nat.zero_le _,by omega,fun j u hu=>by cases hu⟩
  rw [if_neg hc] at ho
  subst ho
  refine .inr ⟨g,o + k,cap - k,f,by rw [List.length_drop],h1,h2,⟨h3.1,fun j hj=>h3.2 j (by omega)⟩,by rw [List.length_drop]; omega,by omega,fun j u hu=>?_⟩
  rw [List.getElem?_drop] at hu
  rw [Nat.add_assoc]
  exact h6 _ u hu
end RowAt
section
variable {P:Program} {w:World}
theorem run_append_at {n0:Nat} {e:TypeId} {v:Value} {xs:List Value} (h:RowAt w n0 e v xs) (t tx ty:TypeId) (i:TypeInfo) (z:Value) (ht:P.underlying t=some (.slice e)) (hi:P.info? e=some i) (hz:i.zero=some z) (h1:i.size=1) (hzs:z.cells.size=1)
    (x:Value) (n:Nat) (news:List Value) (hs:Src P 1 tx x n news w) (hn:0 < n) (h63:xs.length + n<=1000000000) (hby:i.bytes<=1000) (hb:n0<=w.heap.size):
    ∃ v' w',(Builtin.append_ #[t,tx] ty #[v,x]).run P w=.ok v' w'/\RowAt w' n0 e v' (xs ++ news)/\Kb n0 v v' w w':=by
  have nl:=hs.newsLen
  rw [Nat.mul_one] at nl
  have hl:(xs ++ news).length=xs.length + n:=by rw [List.length_append,nl]
  have grow:∀ (base:Option Addr) (cap:Nat),cap < xs.length + n->(Builtin.firstCells 1 xs.length (.slice base xs.length cap)).run P w.drew=.ok xs.toArray w.drew →
      ∃ v' w',(Builtin.append_ #[t,tx] ty #[.slice base xs.length cap,x]).run P w=.ok v' w'/\RowAt w' n0 e v' (xs ++ news)/\Kb n0 (.slice base xs.length cap) v' w w':=by
    intro base cap hc hf
    have hge:=grownCap_ge w (xs.length + n) cap e
    have hle:=grownCap_le_maxLen w (xs.length + n) cap e (by unfold maxLen; omega)
    have hbb:(xs.length + n) * i.bytes<=140737488355328:=Nat.le_trans (Nat.mul_le_mul h63 hby) (by omega)
    refine ⟨_,_,run_append_grow_src (P:=P) w t tx ty e i z ht hi hz base xs.length cap xs (by rw [h1]; exact hf) x n news (by rw [h1]; exact hs) hc (by omega) (growslice_fits hc hbb),.inr ⟨w.heap.size,0,grownCap w (xs.length + n) cap e,fun j=>((xs ++ news).toArray ++ Builtin.zeroCells z.cells (grownCap w (xs.length + n) cap e - (xs.length + n))).getD j undef,by rw [hl],hb,?_,?_,by rw [hl]; exact hge,hle,?_⟩,⟨?_,?_,?_⟩⟩
    · exact ⟨_,_,heap_alloc_last w.drew _⟩
    · refine Cel.new w.drew _ e (fun j hj=>?_)
      have hz2:((xs ++ news).toArray ++ Builtin.zeroCells z.cells (grownCap w (xs.length + n) cap e - (xs.length + n))).size=grownCap w (xs.length + n) cap e:=by
        rw [Array.size_append,List.size_toArray,hl,size_zeroCells,hzs,Nat.mul_one]
        omega
      exact arr_getD (by omega)
    · intro j u hu
      have hj:j < (xs ++ news).length:=(List.getElem?_eq_some_iff.1 hu).1
      rw [Nat.zero_add]
      have:((xs ++ news).toArray ++ Builtin.zeroCells z.cells (grownCap w (xs.length + n) cap e - (xs.length + n)))[j]?=some u:=by
        rw [Array.getElem?_append_left (by simpa using hj),List.getElem?_toArray,hu]
      simp only [Array.getD_eq_getD_getElem?,this,Option.getD_some]
    · exact ((Below.refl n0 w).drew).alloc hb _
    · intro g hg _
      exact Below.heap_alloc w.drew _ g hg
    intro g hg
    cases hg
    exact .inr (Nat.le_refl _)
  rcases h with ⟨rfl,rfl⟩ | ⟨g,o,cap,f,rfl,q1,q2,q3,q4,q5,q6⟩
  · exact grow none 0 (by omega) (run_firstCells_none w.drew 1 0 0 0)
  by_cases hroom:xs.length + n<=cap
  · have hr:=run_append_room_src (P:=P) w t tx ty e i ht hi g o xs.length cap x n news (by rw [h1]; exact hs) hroom (fun j hj=>by rw [h1,Nat.mul_one,Nat.add_assoc,q3.cell (by omega)]; rfl) (fun j hj=>by rw [h1,Nat.mul_one,Nat.add_assoc]; exact q3.frozen (by omega))
    rw [h1,Nat.mul_one] at hr
    refine ⟨_,_,hr,.inr ⟨g,o,cap,_,by rw [hl],q1,tyB_setCells g e news _ w q2,q3.setMany (o + xs.length) news (by omega) undef,by rw [hl]; exact hroom,q5,fun j u hu=>?_⟩,⟨below_setCells q1 news _ w (Below.refl _ _),fun k hk hne=>heap_setCells_ne g news _ w k (fun q=>hne (by rw [q]; rfl)),fun k hk=>.inl hk⟩⟩
    by_cases hj:j < xs.length
    · rw [List.getElem?_append_left hj] at hu
      show (if o + xs.length<=o + j/\_ then _ else f (o + j))=u
      rw [if_neg (by omega)]
      exact q6 j u hu
    rw [List.getElem?_append_right (by omega)] at hu
    have hj2:j - xs.length < news.length:=(List.getElem?_eq_some_iff.1 hu).1
    show (if o + xs.length<=o + j/\o + j < o + xs.length + news.length then news.getD (o + j - (o + xs.length)) undef else f (o + j))=u
    rw [if_pos (by omega),show o + j - (o + xs.length)=j - xs.length by omega,List.getD_eq_getElem?_getD,hu]
    rfl
  refine grow (some ⟨g,o,none⟩) cap (by omega) ?_
  exact run_firstCells_some w.drew 1 xs.length ⟨g,o,none⟩ xs.length cap xs (by omega) (fun j u hu=>by
    have hj:j < xs.length:=(List.getElem?_eq_some_iff.1 hu).1
    rw [add_off]
    have:=q3.cell (j:=o + j) (by omega)
    rw [q6 j u hu] at this
    simpa using this)
theorem wpList_append_at {ops:Array Oper} {rest:List Oper} {o:Oper} {a:Act} {Q:Exit->Act->World->Prop} (hgd:o.guard=none) (s x:Operand) (t tx:TypeId)
    (ho:o.op=.call { callee:=.builtin .append,args:=#[s,x],argTypes:=#[t,tx] })
    {n0:Nat} {e:TypeId} {v:Value} {xs:List Value} (hv:a.eval s=v) (h:RowAt w n0 e v xs) (i:TypeInfo) (z:Value) (ht:P.underlying t=some (.slice e)) (hi:P.info? e=some i) (hz:i.zero=some z) (h1:i.size=1) (hzs:z.cells.size=1)
    (xv:Value) (n:Nat) (news:List Value) (hx:a.eval x=xv) (hs:Src P 1 tx xv n news w) (hn:0 < n) (h63:xs.length + n<=1000000000) (hby:i.bytes<=1000) (hb:n0<=w.heap.size)
    (K:∀ a' c' w',Hid (RowAt w' n0 e (.slice a' (xs.length + n) c') (xs ++ news))->Hid (Kb n0 v (.slice a' (xs.length + n) c') w w')->wpList P ops Q rest (a.put o.dst (.slice a' (xs.length + n) c')) w'):wpList P ops Q (o :: rest) a w:=by
  refine wpList_plain hgd fun _ hK=>?_
  obtain ⟨v',w',hr,h2,h3⟩:=run_append_at (P:=P) h t tx o.type i z ht hi hz h1 hzs xv n news hs hn h63 hby hb
  have nl:=hs.newsLen
  obtain ⟨a',c',rfl,_,_⟩:=h2.is
  rw [List.length_append,nl,Nat.mul_one] at hr h2 h3
  unfold Oper.wp execOp
  simp only [ho,resolve,invoke,builtin,Sem.run_bind,Sem.run_pure,Result.andThen_ok,List.map_toArray,List.map_cons,List.map_nil,hv,hx,hr]
  exact hK _ _ (K _ _ _ (Lib.hid h2) (Lib.hid h3))
end
structure KF (n0:Nat) (S S':Nat->Prop) (w w':World):Prop where
  below:Below n0 w w'
  rest:∀ g,g < w.heap.size->¬ S g->w'.heap[g]?=w.heap[g]?
  own:∀ g,S' g->S g\/w.heap.size<=g
namespace KF
variable {n0:Nat} {S S1 S2:Nat->Prop} {w w1 w2:World}
theorem of_below (h:Below w.heap.size w w1) (hb:n0<=w.heap.size):KF n0 S S w w1:=⟨h.mono hb,fun g hg _=>h.block g hg,fun g hg=>.inl hg⟩
theorem refl (n0:Nat) (S:Nat->Prop) (w:World):KF n0 S S w w:=⟨Below.refl _ _,fun _ _ _=>rfl,fun g hg=>.inl hg⟩
theorem trans (h:KF n0 S S1 w w1) (k:KF n0 S1 S2 w1 w2):KF n0 S S2 w w2:=by
  have hs:=h.below.size
  refine ⟨h.below.trans k.below,fun g hg hn=>?_,fun g hg=>?_⟩
  · refine (k.rest g (by omega) (fun q=>?_)).trans (h.rest g hg hn)
    rcases h.own g q with q | q
    · exact hn q
    omega
  rcases k.own g hg with q | q
  · exact h.own g q
  exact .inr (by omega)
end KF
end Go.Proofs.YtchfkncbemjepaaGreat
/- Layer 10, the landed program: its filler in memory; made, New, Waiting, isBusy. -/
namespace Go.Proofs.YtchfkncbemjepaaGreat
open Go.RowKit

def pfC (X n r:Nat) (va vb:Value):Nat->Value
  | 0=>va
  | 1=>vb
  | 2=>.pointer (some ⟨X,0,none⟩)
  | 3=>.int .i64 (n:Nat)
  | _=>.int .i64 (r:Nat)
def bcs (l:List UInt8):List Value:=l.map fun b=>Value.int .u8 b.toNat
def gcs (l:List Nat):List Value:=l.map fun g=>Value.int .i64 (g:Nat)
theorem bcs_len (l:List UInt8):(bcs l).length=l.length:=List.length_map ..
theorem gcs_len (l:List Nat):(gcs l).length=l.length:=List.length_map ..
theorem bcs_app (l m:List UInt8):bcs (l ++ m)=bcs l ++ bcs m:=List.map_append ..
theorem gcs_app (l m:List Nat):gcs (l ++ m)=gcs l ++ gcs m:=List.map_append ..
structure PFl (w:World) (n0 X n r:Nat) (va vb:Value) (B:List UInt8) (G:List Nat):Prop where
  xl:n0<=X
  ty:TyB w X 129
  cx:Cel w X 5 (pfC X n r va vb)
  ba:RowAt w n0 5 va (bcs B)
  be:RowAt w n0 3 vb (gcs G)
def SX (X:Nat) (va vb:Value) (g:Nat):Prop:=g=X\/va.ownBlock=some g\/vb.ownBlock=some g
namespace PFl
variable {w w':World} {n0 X n r:Nat} {va vb:Value} {B:List UInt8} {G:List Nat}
theorem keep (h:PFl w n0 X n r va vb B G) (hs:∀ g,SX X va vb g->w'.heap[g]?=w.heap[g]?):PFl w' n0 X n r va vb B G:=
  ⟨h.xl,h.ty.of_block (hs X (.inl rfl)),h.cx.of_block (hs X (.inl rfl)),h.ba.keep (fun g hg=>hs g (.inr (.inl hg))),h.be.keep (fun g hg=>hs g (.inr (.inr hg)))⟩
theorem lt (h:PFl w n0 X n r va vb B G) {g:Nat} (hg:SX X va vb g):g < w.heap.size:=by
  rcases hg with rfl | hg | hg
  · exact h.cx.lt
  · exact h.ba.lt hg
  exact h.be.lt hg
theorem below (h:PFl w n0 X n r va vb B G) (hb:Below w.heap.size w w'):PFl w' n0 X n r va vb B G:=h.keep (fun g hg=>hb.block g (h.lt hg))
theorem base (h:PFl w n0 X n r va vb B G) {g:Nat} (hg:SX X va vb g):n0<=g:=by
  rcases hg with rfl | hg | hg
  · exact h.xl
  · exact (h.ba.blk hg).1
  exact (h.be.blk hg).1
theorem ne_a (h:PFl w n0 X n r va vb B G):va.ownBlock ≠ some X:=fun e=>ty_ne (h.ba.blk e).2 h.ty (by decide) rfl
theorem ne_b (h:PFl w n0 X n r va vb B G):vb.ownBlock ≠ some X:=fun e=>ty_ne (h.be.blk e).2 h.ty (by decide) rfl
theorem ne_ab (h:PFl w n0 X n r va vb B G) {g:Nat} (ha:va.ownBlock=some g) (hb:vb.ownBlock=some g):False:=ty_ne (h.ba.blk ha).2 (h.be.blk hb).2 (by decide) rfl
theorem apart (h:PFl w n0 X n r va vb B G) {g:Nat} {t:TypeId} (ht:TyB w g t) (h1:t ≠ 129) (h2:t ≠ 5) (h3:t ≠ 3):¬ SX X va vb g:=by
  rintro (rfl | e | e)
  · exact ty_ne ht h.ty h1 rfl
  · exact ty_ne ht (h.ba.blk e).2 h2 rfl
  exact ty_ne ht (h.be.blk e).2 h3 rfl
end PFl
theorem eqlF_self (O:Addr) (w:World):(binOp .eql 56 (.pointer (some O)) (.pointer (some O))).run Tryz.prog w=.ok (.bool true) w:=by
  obtain ⟨j,hj⟩:=Option.isSome_iff_exists.1 (show (Tryz.prog.info? 129).isSome=true by kernel_rfl)
  exact run_eql_ptr_same w O Tryz.underlying56 hj
theorem neqF_not (O:Addr) (w:World):(binOp .neq 56 (.pointer (some O)) (.pointer none)).run Tryz.prog w=.ok (.bool true) w:=by
  have h:∀ d:Nat,(Op.equalIn (d + 1) 56 (.pointer (some O)) (.pointer none)).run Tryz.prog w=.ok false w:=fun d=>by
    simp [Op.equalIn,run_underlying Tryz.underlying56]
  simp only [binOp]
  simp [Op.equal,Op.maxDepth,h 9999]
theorem tmade_any {w:World} {X:Nat} (c:w.cell? ⟨X,2,none⟩=some (.pointer (some ⟨X,0,none⟩))):Calls Tryz.prog 60 #[.pointer (some ⟨X,0,none⟩)] w fun e w'=>e=.returned (.bool true)/\w=w':=by
  have q1:=eqlF_self ⟨X,0,none⟩ w
  have q2:=neqF_not ⟨X,0,none⟩ w
  go_enter Tryz.func60,Tryz.ntmps60
  go_wp2_with fail
  go_ret
  exact ⟨rfl,rfl⟩
theorem pf_new (n:Nat):∀ j,j < 5->(#[.slice none 0 0,.slice none 0 0,.pointer none,.int .i64 (n:Nat),.int .i64 0]:Array Value)[j]?=some ((fun j=>if j=2 then .pointer none else pfC 0 n 0 (.slice none 0 0) (.slice none 0 0) j) j):=fun j hj=>by
  match j,hj with
  | 0,_=>rfl
  | 1,_=>rfl
  | 2,_=>rfl
  | 3,_=>rfl
  | 4,_=>rfl
theorem box_pf {ev:Operand->Value} {o:Oper} {w:World} {x:Operand} {n:Nat} (h:o.op=.box 129 x) (hx:ev x=.agg #[.slice none 0 0,.slice none 0 0,.pointer none,.int .i64 (n:Nat),.int .i64 0]):(execOp ev o).run Tryz.prog w=.ok (.value (.pointer (some ⟨w.heap.size,0,none⟩))) (w.alloc (.cells #[.slice none 0 0,.slice none 0 0,.pointer none,.int .i64 (n:Nat),.int .i64 0] 129)):=by
  simp only [execOp,h,hx]; go_simp
theorem store_pfp {ev:Operand->Value} {o:Oper} {w:World} {x y:Operand} {X i:Nat} {u:Value} {a:Option Addr} (h:o.op=.store 56 x y) (hx:ev x=.pointer (some ⟨X,i,none⟩)) (hy:ev y=.pointer a) (hc:w.cell? ⟨X,i,none⟩=some u) (hf:w.frozen? ⟨X,i,none⟩=false):(execOp ev o).run Tryz.prog w=.ok .skip (w.setCell ⟨X,i,none⟩ (.pointer a)):=by
  simp only [execOp,h,hx,hy]; go_simp
theorem tnew_any (n:Nat) (h1:32<=n) (h2:n<=200) (w:World):Calls Tryz.prog 33 #[.int .i64 (n:Nat)] w fun e w'=>∃ X,e=.returned (.tuple #[.pointer (some ⟨X,0,none⟩),.int .i64 0])/\PFl w' w.heap.size X n 0 (.slice none 0 0) (.slice none 0 0) [] []/\Below w.heap.size w w':=by
  have SZ:=Lib.hid (fun w=>tsize_any (n:Nat) w)
  rw [decide_eq_true (show (32:Int)<=(n:Int)/\(n:Int)<=200 by omega)] at SZ
  clear h1 h2
  go_enter Tryz.func33,Tryz.ntmps33
  go_wp2_with fail
  (with_reducible refine (SZ.out _).mono ?_)
  rintro e w' ⟨rfl,rfl⟩
  go_wp2_with (first
    | ((with_reducible refine atList ?_); refine wpList_newT rfl (.box 129 (.tmp 9)) rfl (some 10) rfl #[.slice none 0 0,.slice none 0 0,.pointer none,.int .i64 (n:Nat),.int .i64 0] 129 (fun X=>.pointer (some ⟨X,0,none⟩)) 5 _ (pf_new n) (box_pf rfl rfl) ?_; intro X w1 HX Sw1 CX Bw1 TX)
    | ((with_reducible refine atList ?_); refine wpList_setT rfl (.store 56 (.tmp 14) (.tmp 12)) rfl X 2 5 (.pointer (some ⟨X,0,none⟩)) _ (pfC X n 0 (.slice none 0 0) (.slice none 0 0)) CX.out (by omega) (fun j hj=>by match j,hj with | 0,_=>rfl | 1,_=>rfl | 2,_=>rfl | 3,_=>rfl | 4,_=>rfl) (store_pfp rfl rfl rfl (CX.out.cell (j:=2) (by omega)) (CX.out.frozen (j:=2) (by omega))) ?_; intro w2 C2 U2 S2 V2))
  go_ret2
  exact ⟨X,rfl,⟨by have:=HX.out; omega,V2.out _ TX.out,C2.out,RowAt.nil _ _ _,RowAt.nil _ _ _⟩,But.under Bw1.out U2.out (by have:=HX.out; omega)⟩
theorem twaiting_any {w:World} {n0 X n r:Nat} {va vb:Value} {B:List UInt8} {G:List Nat} (h:PFl w n0 X n r va vb B G) (hr:r<=B.length) (hB:B.length<=1000000):Calls Tryz.prog 48 #[.pointer (some ⟨X,0,none⟩)] w fun e w'=>e=.returned (.int .i64 (B.length - r:Nat))/\∃ m,w'=w.drewN m:=by
  obtain ⟨a,c,rfl,_,_⟩:=h.ba.is
  rw [bcs_len] at h
  have c0:w.cell? ⟨X,0,none⟩=some (.slice a B.length c):=h.cx.cell (j:=0) (by omega)
  have c2:w.cell? ⟨X,2,none⟩=some (.pointer (some ⟨X,0,none⟩)):=h.cx.cell (j:=2) (by omega)
  have c4:w.cell? ⟨X,4,none⟩=some (.int .i64 (r:Nat)):=h.cx.cell (j:=4) (by omega)
  have MD:=Lib.hid (tmade_any c2)
  obtain ⟨N,hN⟩:∃ N,B.length=N:=⟨_,rfl⟩
  rw [hN] at c0 hr hB ⊢
  obtain ⟨k,hk⟩:∃ k,N - r=k:=⟨_,rfl⟩
  have e1:IntKind.i64.wrap ((N:Int) - (r:Int))=(k:Int):=by rw [IntKind.wrap_i64]; omega
  have e2:(N:Int) - (r:Int)=(k:Int):=by omega
  have E3:=Lib.hid (show wrap64 (k:Int)=(k:Int) by unfold wrap64; omega)
  rw [hk]
  clear h hN hk hr hB c2
  go_enter Tryz.func48,Tryz.ntmps48
  go_wp2_with fail
  (with_reducible refine MD.out.mono ?_)
  rintro e w' ⟨rfl,rfl⟩
  go_wp2_with fail
  go_quiet (fail)
  go_wp2_with fail
  go_ret
  exact ⟨congrArg (fun z=>Ending.returned (Value.int .i64 z)) E3.out,_,rfl⟩
end Go.Proofs.YtchfkncbemjepaaGreat
/- Layer 10, the landed program: a packet is added at the end of a stream; isBusy, Add, Clear. -/
namespace Go.Proofs.YtchfkncbemjepaaGreat
open Go.RowKit

def OneAt (n0 L:Nat) (v:Value) (w:World):Prop:=∃ g,v=.slice (some ⟨g,0,none⟩) 1 1/\n0<=g/\w.cell? ⟨g,0,none⟩=some (.int .i64 (L:Nat))
theorem OneAt.mono {n0 L:Nat} {v:Value} {w w':World} (h:OneAt n0 L v w) (hb:Below w.heap.size w w'):OneAt n0 L v w':=by
  obtain ⟨g,e,h1,h2⟩:=h
  refine ⟨g,e,h1,(hb.cell (p:=⟨g,0,none⟩) ?_).trans h2⟩
  exact World.block_lt_of_cell? _ _ h2
theorem OneAt.new (n0 L:Nat) (w:World) (h:n0<=w.heap.size):OneAt n0 L (.slice (some ⟨w.heap.size,0,none⟩) 1 1) (w.alloc (.cells #[.int .i64 (L:Nat)] 3)):=⟨_,rfl,h,World.cell?_alloc_new w _ _ 0⟩
theorem step_append {P:Program} {FA:Value->World->Prop} {o:Oper} {a:Act} {w:World} {K:Act->World->Prop} {Q:Exit->Act->World->Prop} (s x:Operand) (t tx:TypeId) (ho:o.op=.call { callee:=.builtin .append,args:=#[s,x],argTypes:=#[t,tx] }) (v xv:Value) (hv:a.eval s=v) (hx:a.eval x=xv)
    (hr:∃ v' w',(Builtin.append_ #[t,tx] o.type #[v,xv]).run P w=.ok v' w'/\FA v' w') (h:∀ v' w',FA v' w'->K (a.put o.dst v') w'):o.wp P a w K Q:=by
  obtain ⟨v',w',hr,F⟩:=hr
  unfold Oper.wp execOp
  simp only [ho,resolve,invoke,builtin,Sem.run_bind,Sem.run_pure,Result.andThen_ok,List.map_toArray,List.map_cons,List.map_nil,hv,hx,hr]
  exact h _ _ F
structure TadRegion (X gn gc L bc:Nat) (ga bo:Option Addr) (FA:Value->World->Prop) (A:Act) (w0:World) (s:Nat->Bool) (a:Act) (w:World):Prop where
  off:Off [4,5,6,7,8,9,10,11,12,13,14,15] a A
  before:s 11=false->Below w0.heap.size w0 w
  t0:s 0=true->a.eval (.tmp 4)=.pointer (some ⟨X,0,none⟩)
  t1:s 1=true->a.eval (.tmp 5)=.pointer (some ⟨X,0,none⟩)
  t2:s 2=true->a.eval (.tmp 6)=.pointer (some ⟨X,0,none⟩)
  t3:s 3=true->a.eval (.tmp 7)=.pointer (some ⟨X,1,none⟩)
  t4:s 4=true->a.eval (.tmp 8)=.slice ga gn gc
  t5:s 5=true->a.eval (.tmp 9)=.pointer (some ⟨X,0,none⟩)
  t6:s 6=true->a.eval (.tmp 10)=.pointer (some ⟨X,0,none⟩)
  t7:s 7=true->a.eval (.tmp 11)=.pointer (some ⟨X,0,none⟩)
  t8:s 8=true->a.eval (.tmp 12)=.slice bo L bc
  t9:s 9=true->a.eval (.tmp 13)=.int .i64 (L:Nat)
  t10:s 10=true->∃ v10,a.eval (.tmp 14)=v10/\(s 11=false->OneAt w0.heap.size L v10 w)
  t11:s 11=true->∃ v11,a.eval (.tmp 15)=v11/\FA v11 w
theorem tadRegion {id:Nat} {l:List Oper} {A:Act} {w:World} {Q:Exit->Act->World->Prop} (X gn gc L bc:Nat) (ga bo:Option Addr) (FA:Value->World->Prop)
    (lX:X < w.heap.size) (c0:w.cell? ⟨X,0,none⟩=some (.slice bo L bc)) (c1:w.cell? ⟨X,1,none⟩=some (.slice ga gn gc))
    (hA:∀ ty w',Below w.heap.size w w'->∀ gb,w.heap.size<=gb->w'.cell? ⟨gb,0,none⟩=some (.int .i64 (L:Nat))->∃ v' w2,(Builtin.append_ #[72,72] ty #[.slice ga gn gc,.slice (some ⟨gb,0,none⟩) 1 1]).run Tryz.prog w'=.ok v' w2/\FA v' w2)
    (hB:tableH l.toArray 12 (fun i=>match i with | 0=>[] | 1=>[] | 2=>[1] | 3=>[2] | 4=>[3] | 5=>[] | 6=>[5] | 7=>[6] | 8=>[7] | 9=>[8] | 10=>[9] | 11=>[4,10] | _=>[]) (fun i=>match i with | 4=>[11] | 8=>[11] | 10=>[11] | _=>[])=true)
    (h0:pick l 0=some (.move (.tmp 0),some 4))
    (h1:pick l 1=some (.move (.tmp 0),some 5))
    (h2:pick l 2=some (.nilCheck (.tmp 5),some 6))
    (h3:pick l 3=some (.fieldAddr 127 (.tmp 6) 1,some 7))
    (h4:pick l 4=some (.load 72 (.tmp 7),some 8))
    (h5:pick l 5=some (.move (.tmp 0),some 9))
    (h6:pick l 6=some (.nilCheck (.tmp 9),some 10))
    (h7:pick l 7=some (.fieldAddr 127 (.tmp 10) 0,some 11))
    (h8:pick l 8=some (.load 103 (.tmp 11),some 12))
    (h9:pick l 9=some (.call { callee:=.builtin .len,args:=#[.tmp 12],argTypes:=#[103] },some 13))
    (h10:pick l 10=some (.buildSlice 72 1 #[(0,.tmp 13)],some 14))
    (h11:pick l 11=some (.call { callee:=.builtin .append,args:=#[.tmp 8,.tmp 14],argTypes:=#[72,72] },some 15))
    (hs:A.tmps.size=27)
    (x0:A.eval (.tmp 0)=.pointer (some ⟨X,0,none⟩))
    (h:∀ v10 v11 w1,FA v11 w1->wpList Tryz.prog l.toArray Q (l.drop 12) ((((((((((((A.put (some 4) (.pointer (some ⟨X,0,none⟩))).put (some 5) (.pointer (some ⟨X,0,none⟩))).put (some 6) (.pointer (some ⟨X,0,none⟩))).put (some 7) (.pointer (some ⟨X,1,none⟩))).put (some 8) (.slice ga gn gc)).put (some 9) (.pointer (some ⟨X,0,none⟩))).put (some 10) (.pointer (some ⟨X,0,none⟩))).put (some 11) (.pointer (some ⟨X,0,none⟩))).put (some 12) (.slice bo L bc)).put (some 13) (.int .i64 (L:Nat))).put (some 14) (v10)).put (some 15) (v11)) w1):
    (Code.region id l.toArray true).wp Tryz.prog Q A w:=by
  refine wp_region_head (by kernel_rfl) _ _ _ hB (TadRegion X gn gc L bc ga bo FA A w) ⟨Off.refl _ _,fun _=>(Below.refl _ _).drew,by simp,by simp,by simp,by simp,by simp,by simp,by simp,by simp,by simp,by simp,by simp,by simp⟩ ?_ ?_
  · intro s a w' S i' o il ho hsi hT K hK
    have sz:a.tmps.size=27:=by rw [S.off.2.1]; exact hs
    have y0:a.eval (.tmp 0)=.pointer (some ⟨X,0,none⟩):=by rw [S.off.eval (by decide)]; exact x0
    match i',il,ho,hsi,hT with
    | 0,_,ho,hsi,hT=>
      obtain ⟨e1,e2⟩:=pick_of h0 ho
      refine step_val (v:=.pointer (some ⟨X,0,none⟩)) (by simp only [execOp,e1,y0]; go_simp) (hK _ _ ?_)
      rw [e2]
      exact ⟨ofp S.off,fun g=>S.before (by simpa using g),ev_ (by omega),kp S.t1,kp S.t2,kp S.t3,kp S.t4,kp S.t5,kp S.t6,kp S.t7,kp S.t8,kp S.t9,fun g=>(S.t10 (by simpa using g)).imp fun b hb=>⟨by rw [eval_put_ne _ _ _ _ (by decide)]; exact hb.1,fun q=>hb.2 (by simpa using q)⟩,fun g=>(S.t11 (by simpa using g)).imp fun b hb=>⟨by rw [eval_put_ne _ _ _ _ (by decide)]; exact hb.1,hb.2⟩⟩
    | 1,_,ho,hsi,hT=>
      obtain ⟨e1,e2⟩:=pick_of h1 ho
      refine step_val (v:=.pointer (some ⟨X,0,none⟩)) (by simp only [execOp,e1,y0]; go_simp) (hK _ _ ?_)
      rw [e2]
      exact ⟨ofp S.off,fun g=>S.before (by simpa using g),kp S.t0,ev_ (by omega),kp S.t2,kp S.t3,kp S.t4,kp S.t5,kp S.t6,kp S.t7,kp S.t8,kp S.t9,fun g=>(S.t10 (by simpa using g)).imp fun b hb=>⟨by rw [eval_put_ne _ _ _ _ (by decide)]; exact hb.1,fun q=>hb.2 (by simpa using q)⟩,fun g=>(S.t11 (by simpa using g)).imp fun b hb=>⟨by rw [eval_put_ne _ _ _ _ (by decide)]; exact hb.1,hb.2⟩⟩
    | 2,_,ho,hsi,hT=>
      obtain ⟨e1,e2⟩:=pick_of h2 ho
      have D1:s 1=true:=list_pos hT (d:=1) (by decide)
      refine step_val (v:=.pointer (some ⟨X,0,none⟩)) (by simp only [execOp,e1,S.t1 D1]; go_simp) (hK _ _ ?_)
      rw [e2]
      exact ⟨ofp S.off,fun g=>S.before (by simpa using g),kp S.t0,kp S.t1,ev_ (by omega),kp S.t3,kp S.t4,kp S.t5,kp S.t6,kp S.t7,kp S.t8,kp S.t9,fun g=>(S.t10 (by simpa using g)).imp fun b hb=>⟨by rw [eval_put_ne _ _ _ _ (by decide)]; exact hb.1,fun q=>hb.2 (by simpa using q)⟩,fun g=>(S.t11 (by simpa using g)).imp fun b hb=>⟨by rw [eval_put_ne _ _ _ _ (by decide)]; exact hb.1,hb.2⟩⟩
    | 3,_,ho,hsi,hT=>
      obtain ⟨e1,e2⟩:=pick_of h3 ho
      have D2:s 2=true:=list_pos hT (d:=2) (by decide)
      refine step_val (v:=.pointer (some ⟨X,1,none⟩)) (by simp only [execOp,e1,S.t2 D2]; go_simp) (hK _ _ ?_)
      rw [e2]
      exact ⟨ofp S.off,fun g=>S.before (by simpa using g),kp S.t0,kp S.t1,kp S.t2,ev_ (by omega),kp S.t4,kp S.t5,kp S.t6,kp S.t7,kp S.t8,kp S.t9,fun g=>(S.t10 (by simpa using g)).imp fun b hb=>⟨by rw [eval_put_ne _ _ _ _ (by decide)]; exact hb.1,fun q=>hb.2 (by simpa using q)⟩,fun g=>(S.t11 (by simpa using g)).imp fun b hb=>⟨by rw [eval_put_ne _ _ _ _ (by decide)]; exact hb.1,hb.2⟩⟩
    | 4,_,ho,hsi,hT=>
      obtain ⟨e1,e2⟩:=pick_of h4 ho
      have D3:s 3=true:=list_pos hT (d:=3) (by decide)
      have NL:s 11=false:=list_neg hT (k:=11) (by decide)
      have BW:=S.before NL
      have cl:=(BW.cell (p:=⟨X,1,none⟩) lX).trans c1
      refine step_val (v:=.slice ga gn gc) (by simp only [execOp,e1,S.t3 D3]; go_simp) (hK _ _ ?_)
      rw [e2]
      exact ⟨ofp S.off,fun g=>S.before (by simpa using g),kp S.t0,kp S.t1,kp S.t2,kp S.t3,ev_ (by omega),kp S.t5,kp S.t6,kp S.t7,kp S.t8,kp S.t9,fun g=>(S.t10 (by simpa using g)).imp fun b hb=>⟨by rw [eval_put_ne _ _ _ _ (by decide)]; exact hb.1,fun q=>hb.2 (by simpa using q)⟩,fun g=>(S.t11 (by simpa using g)).imp fun b hb=>⟨by rw [eval_put_ne _ _ _ _ (by decide)]; exact hb.1,hb.2⟩⟩
    | 5,_,ho,hsi,hT=>
      obtain ⟨e1,e2⟩:=pick_of h5 ho
      refine step_val (v:=.pointer (some ⟨X,0,none⟩)) (by simp only [execOp,e1,y0]; go_simp) (hK _ _ ?_)
      rw [e2]
      exact ⟨ofp S.off,fun g=>S.before (by simpa using g),kp S.t0,kp S.t1,kp S.t2,kp S.t3,kp S.t4,ev_ (by omega),kp S.t6,kp S.t7,kp S.t8,kp S.t9,fun g=>(S.t10 (by simpa using g)).imp fun b hb=>⟨by rw [eval_put_ne _ _ _ _ (by decide)]; exact hb.1,fun q=>hb.2 (by simpa using q)⟩,fun g=>(S.t11 (by simpa using g)).imp fun b hb=>⟨by rw [eval_put_ne _ _ _ _ (by decide)]; exact hb.1,hb.2⟩⟩
    | 6,_,ho,hsi,hT=>
      obtain ⟨e1,e2⟩:=pick_of h6 ho
      have D5:s 5=true:=list_pos hT (d:=5) (by decide)
      refine step_val (v:=.pointer (some ⟨X,0,none⟩)) (by simp only [execOp,e1,S.t5 D5]; go_simp) (hK _ _ ?_)
      rw [e2]
      exact ⟨ofp S.off,fun g=>S.before (by simpa using g),kp S.t0,kp S.t1,kp S.t2,kp S.t3,kp S.t4,kp S.t5,ev_ (by omega),kp S.t7,kp S.t8,kp S.t9,fun g=>(S.t10 (by simpa using g)).imp fun b hb=>⟨by rw [eval_put_ne _ _ _ _ (by decide)]; exact hb.1,fun q=>hb.2 (by simpa using q)⟩,fun g=>(S.t11 (by simpa using g)).imp fun b hb=>⟨by rw [eval_put_ne _ _ _ _ (by decide)]; exact hb.1,hb.2⟩⟩
    | 7,_,ho,hsi,hT=>
      obtain ⟨e1,e2⟩:=pick_of h7 ho
      have D6:s 6=true:=list_pos hT (d:=6) (by decide)
      refine step_val (v:=.pointer (some ⟨X,0,none⟩)) (by simp only [execOp,e1,S.t6 D6]; go_simp) (hK _ _ ?_)
      rw [e2]
      exact ⟨ofp S.off,fun g=>S.before (by simpa using g),kp S.t0,kp S.t1,kp S.t2,kp S.t3,kp S.t4,kp S.t5,kp S.t6,ev_ (by omega),kp S.t8,kp S.t9,fun g=>(S.t10 (by simpa using g)).imp fun b hb=>⟨by rw [eval_put_ne _ _ _ _ (by decide)]; exact hb.1,fun q=>hb.2 (by simpa using q)⟩,fun g=>(S.t11 (by simpa using g)).imp fun b hb=>⟨by rw [eval_put_ne _ _ _ _ (by decide)]; exact hb.1,hb.2⟩⟩
    | 8,_,ho,hsi,hT=>
      obtain ⟨e1,e2⟩:=pick_of h8 ho
      have D7:s 7=true:=list_pos hT (d:=7) (by decide)
      have NL:s 11=false:=list_neg hT (k:=11) (by decide)
      have BW:=S.before NL
      have cl:=(BW.cell (p:=⟨X,0,none⟩) lX).trans c0
      refine step_val (v:=.slice bo L bc) (by simp only [execOp,e1,S.t7 D7]; go_simp) (hK _ _ ?_)
      rw [e2]
      exact ⟨ofp S.off,fun g=>S.before (by simpa using g),kp S.t0,kp S.t1,kp S.t2,kp S.t3,kp S.t4,kp S.t5,kp S.t6,kp S.t7,ev_ (by omega),kp S.t9,fun g=>(S.t10 (by simpa using g)).imp fun b hb=>⟨by rw [eval_put_ne _ _ _ _ (by decide)]; exact hb.1,fun q=>hb.2 (by simpa using q)⟩,fun g=>(S.t11 (by simpa using g)).imp fun b hb=>⟨by rw [eval_put_ne _ _ _ _ (by decide)]; exact hb.1,hb.2⟩⟩
    | 9,_,ho,hsi,hT=>
      obtain ⟨e1,e2⟩:=pick_of h9 ho
      have D8:s 8=true:=list_pos hT (d:=8) (by decide)
      have q12:a.tmps[12]'(by omega)=.slice bo L bc:=by have:=S.t8 D8; simpa [Act.eval,sz] using this
      refine step_val (v:=.int .i64 (L:Nat)) (by simp only [execOp,e1]; go_simp) (hK _ _ ?_)
      rw [e2]
      exact ⟨ofp S.off,fun g=>S.before (by simpa using g),kp S.t0,kp S.t1,kp S.t2,kp S.t3,kp S.t4,kp S.t5,kp S.t6,kp S.t7,kp S.t8,ev_ (by omega),fun g=>(S.t10 (by simpa using g)).imp fun b hb=>⟨by rw [eval_put_ne _ _ _ _ (by decide)]; exact hb.1,fun q=>hb.2 (by simpa using q)⟩,fun g=>(S.t11 (by simpa using g)).imp fun b hb=>⟨by rw [eval_put_ne _ _ _ _ (by decide)]; exact hb.1,hb.2⟩⟩
    | 10,_,ho,hsi,hT=>
      obtain ⟨e1,e2⟩:=pick_of h10 ho
      have D9:s 9=true:=list_pos hT (d:=9) (by decide)
      have NL:s 11=false:=list_neg hT (k:=11) (by decide)
      have BW:=S.before NL
      have q13:a.tmps[13]'(by omega)=.int .i64 (L:Nat):=by have:=S.t9 D9; simpa [Act.eval,sz] using this
      refine step_to1 (w2:=w'.alloc (.cells #[.int .i64 (L:Nat)] 3)) (v:=.slice (some ⟨w'.heap.size,0,none⟩) 1 1) (by simp only [execOp,e1]; go_simp) (hK _ _ ?_)
      have BB:=ba (Below.refl w'.heap.size w') (.cells #[.int .i64 (L:Nat)] 3)
      have FF:=OneAt.new _ L w' BW.size
      rw [e2]
      exact ⟨ofp S.off,fun g=>bt BW BB,kp S.t0,kp S.t1,kp S.t2,kp S.t3,kp S.t4,kp S.t5,kp S.t6,kp S.t7,kp S.t8,kp S.t9,fun _=>⟨_,(eval_put _ _ _ (by omega)).trans rfl,fun _=>FF⟩,fun g=>absurd (show s 11=true by simpa using g) (by simp [NL])⟩
    | 11,_,ho,hsi,hT=>
      obtain ⟨e1,e2⟩:=pick_of h11 ho
      have D4:s 4=true:=list_pos hT (d:=4) (by decide)
      have D10:s 10=true:=list_pos hT (d:=10) (by decide)
      have BW:=S.before hsi
      obtain ⟨v10,M10,F10⟩:=S.t10 D10
      have F10:=F10 hsi
      obtain ⟨gb,rfl,G1,G2⟩:=F10
      refine step_append (.tmp 8) (.tmp 14) 72 72 e1 (.slice ga gn gc) (.slice (some ⟨gb,0,none⟩) 1 1) (S.t4 D4) M10 (hA _ w' BW gb G1 G2) (fun v w2 FF=>hK _ _ ?_)
      rw [e2]
      exact ⟨ofp S.off,fun g=>absurd g (by simp),kp S.t0,kp S.t1,kp S.t2,kp S.t3,kp S.t4,kp S.t5,kp S.t6,kp S.t7,kp S.t8,kp S.t9,fun g=>(S.t10 (by simpa using g)).imp fun b hb=>⟨by rw [eval_put_ne _ _ _ _ (by decide)]; exact hb.1,fun q=>absurd q (by simp)⟩,fun _=>⟨_,(eval_put _ _ _ (by omega)).trans rfl,FF⟩⟩
    | _ + 12,il,_,_,_=>exact absurd il (by omega)
  intro s a w' S hall
  have a0:=hall 0 (by omega)
  have a1:=hall 1 (by omega)
  have a2:=hall 2 (by omega)
  have a3:=hall 3 (by omega)
  have a4:=hall 4 (by omega)
  have a5:=hall 5 (by omega)
  have a6:=hall 6 (by omega)
  have a7:=hall 7 (by omega)
  have a8:=hall 8 (by omega)
  have a9:=hall 9 (by omega)
  have a10:=hall 10 (by omega)
  have a11:=hall 11 (by omega)
  have e:=off_norm _ (by intro d hd; simp at hd; omega) S.off
  obtain ⟨v10,M10,F10⟩:=S.t10 a10
  obtain ⟨v11,M11,F11⟩:=S.t11 a11
  simp only [List.foldl,S.t0 a0,S.t1 a1,S.t2 a2,S.t3 a3,S.t4 a4,S.t5 a5,S.t6 a6,S.t7 a7,S.t8 a8,S.t9 a9,M10,M11] at e
  rw [e]
  exact h _ _ _ F11
theorem store_ints {ev:Operand->Value} {w:World} {o:Oper} {x y:Operand} {X i:Nat} {u:Value} {sa:Option Addr} {m sc:Nat} (h:o.op=.store 72 x y) (hx:ev x=.pointer (some ⟨X,i,none⟩)) (hy:ev y=.slice sa m sc) (hc:w.cell? ⟨X,i,none⟩=some u) (hf:w.frozen? ⟨X,i,none⟩=false):(execOp ev o).run Tryz.prog w=.ok .skip (w.setCell ⟨X,i,none⟩ (.slice sa m sc)):=by
  simp only [execOp,h,hx,hy]; go_simp
theorem bcs_str (s:ByteArray):byteCells s=bcs s.data.toList:=rfl
theorem kb_kf {n0 X:Nat} {w w':World} {va vb vb':Value} (k:Kb n0 vb vb' w w'):KF n0 (SX X va vb) (SX X va vb') w w':=⟨k.below,fun g hg hn=>k.rest g hg (fun e=>hn (.inr (.inr e))),fun g hg=>by
  rcases hg with h | h | h
  · exact .inl (.inl h)
  · exact .inl (.inr (.inl h))
  exact (k.own g h).imp (fun e=>.inr (.inr e)) id⟩
theorem ka_kf {n0 X:Nat} {w w':World} {va vb va':Value} (k:Kb n0 va va' w w'):KF n0 (SX X va vb) (SX X va' vb) w w':=⟨k.below,fun g hg hn=>k.rest g hg (fun e=>hn (.inr (.inl e))),fun g hg=>by
  rcases hg with h | h | h
  · exact .inl (.inl h)
  · exact (k.own g h).imp (fun e=>.inr (.inl e)) id
  exact .inl (.inr (.inr h))⟩
theorem but_kf {n0 X:Nat} {w w':World} {va vb:Value} (k:But X w w') (h:n0<=X):KF n0 (SX X va vb) (SX X va vb) w w':=⟨But.under (Below.refl n0 w) k h,fun g hg hn=>k.rest g hg (fun e=>hn (.inl e)),fun g hg=>.inl hg⟩
theorem Kb.of_below {n0:Nat} {v v':Value} {w w1 w2:World} (h:Below w.heap.size w w1) (k:Kb n0 v v' w1 w2) (hb:n0<=w.heap.size):Kb n0 v v' w w2:=⟨(h.mono hb).trans k.below,fun g hg hn=>(k.rest g (Nat.lt_of_lt_of_le hg h.size) hn).trans (h.block g hg),fun g hg=>(k.own g hg).imp id (fun q=>Nat.le_trans h.size q)⟩
theorem tadd_any {w:World} {n0 X n r:Nat} {va vb:Value} {B:List UInt8} {G:List Nat} (h:PFl w n0 X n r va vb B G) (p:ByteArray) (hp0:0 < p.size) (hp:p.size<=1000000) (hB:B.length<=1000000) (hG:G.length<=1000000) (hn0:n0<=w.heap.size):
    Calls Tryz.prog 62 #[.pointer (some ⟨X,0,none⟩),.string p] w fun e w'=>(∃ v,e=.returned v)/\∃ va' vb',PFl w' n0 X n r va' vb' (B ++ p.data.toList) (G ++ [B.length])/\KF n0 (SX X va vb) (SX X va' vb') w w':=by
  obtain ⟨bo,bc,hva,_,_⟩:=h.ba.is
  obtain ⟨ga,gc,hvb,_,_⟩:=h.be.is
  rw [bcs_len] at hva
  rw [gcs_len] at hvb
  have H:=Lib.hid h
  have lX:=h.cx.lt
  have c0:w.cell? ⟨X,0,none⟩=some va:=h.cx.cell (j:=0) (by omega)
  have c1:w.cell? ⟨X,1,none⟩=some vb:=h.cx.cell (j:=1) (by omega)
  obtain ⟨L,hL⟩:∃ L,B.length=L:=⟨_,rfl⟩
  obtain ⟨gn,hgn⟩:∃ L,G.length=L:=⟨_,rfl⟩
  rw [hL] at hva hB
  rw [hgn] at hvb hG
  obtain ⟨i0,hi,hz0,hz1,hz2⟩:=info_parts info_int
  obtain ⟨i1,hj,hy0,hy1,hy2⟩:=info_parts f2_info_u8
  have NN:=Lib.hid (show L<=1000000/\gn<=1000000/\p.size<=1000000/\0 < p.size/\n0<=w.heap.size from ⟨hB,hG,hp,hp0,hn0⟩)
  have HL:=Lib.hid hL
  have HGN:=Lib.hid hgn
  have HVA:=Lib.hid hva
  have HVB:=Lib.hid hvb
  rw [hva] at c0
  rw [hvb] at c1
  have AP:=Lib.hid (show ∀ ty w',Below w.heap.size w w'->∀ gb,w.heap.size<=gb->w'.cell? ⟨gb,0,none⟩=some (.int .i64 (L:Nat))->∃ v' w2,(Builtin.append_ #[72,72] ty #[.slice ga gn gc,.slice (some ⟨gb,0,none⟩) 1 1]).run Tryz.prog w'=.ok v' w2/\(∃ a2 c2,v'=.slice a2 (gn + 1) c2/\RowAt w2 n0 3 v' (gcs (G ++ [L]))/\Kb n0 vb v' w w2) from fun ty w' hb gb hgb hc=>by
    have h2:=h.be.below hb
    have bs:=hb.size
    have nn:=NN.out
    obtain ⟨v',w2,q1,q2,q3⟩:=run_append_at (P:=Tryz.prog) h2 72 72 ty i0 (.int .i64 0) Tryz.underlying72 hi hz0 hz1 rfl (.slice (some ⟨gb,0,none⟩) 1 1) 1 [.int .i64 (L:Nat)] (Src.ofSlice w' Tryz.underlying72 ⟨gb,0,none⟩ 1 1 [.int .i64 (L:Nat)] rfl (fun j u hu=>by
      have hj:j=0:=by
        have:=(List.getElem?_eq_some_iff.1 hu).1
        simp at this
        exact this
      subst hj
      cases hu
      rw [add_off]
      exact hc) (fun u hu=>by simp at hu; subst hu; rfl)) (by omega) (by rw [gcs_len,HGN.out]; omega) (by rw [hz2]; omega) (by omega)
    rw [hvb] at q1
    rw [show gcs G ++ [.int .i64 (L:Nat)]=gcs (G ++ [L]) by rw [gcs_app]; rfl] at q2
    refine ⟨v',w2,q1,?_⟩
    obtain ⟨a2,c2,e2,_,_⟩:=q2.is
    rw [gcs_len,List.length_append,HGN.out] at e2
    exact ⟨a2,c2,e2,q2,Kb.of_below hb q3 (by omega)⟩)
  clear h hva hvb hL hgn hB hG hp hp0 hn0
  go_enter Tryz.func62,Tryz.ntmps62
  go_upto_region 0 with fail
  refine tadRegion X gn gc L bc ga bo (fun v' w2=>∃ a2 c2,v'=.slice a2 (gn + 1) c2/\RowAt w2 n0 3 v' (gcs (G ++ [L]))/\Kb n0 vb v' w w2) lX c0 c1 AP.out (by kernel_rfl) rfl rfl rfl rfl rfl rfl rfl rfl rfl rfl rfl rfl rfl rfl ?_
  rintro v10 v11 w1 ⟨g2,gc2,rfl,R1,K1⟩
  have KB1:=Lib.hid K1
  have RB1:=Lib.hid R1
  have nn:=NN.out
  have HX1:w1.heap[X]?=w.heap[X]?:=K1.rest X lX H.out.ne_b
  have CX1:=Lib.hid (H.out.cx.of_block HX1)
  have TX1:=Lib.hid (H.out.ty.of_block HX1)
  have RA1:=Lib.hid (H.out.ba.keep (fun g hg=>K1.rest g (H.out.ba.lt hg) (fun e=>H.out.ne_ab hg e)))
  have LX1:=Lib.hid CX1.out.lt
  have S1:=Lib.hid K1.below.size
  clear R1 K1 HX1 AP
  simp only [Act.put,List.setIfInBounds_toArray,List.set_cons_succ,List.set_cons_zero,List.drop_succ_cons,List.drop_zero]
  go_upto_region 1 with ((with_reducible refine atList ?_); refine wpList_setT rfl (.store 72 (.tmp 17) (.tmp 15)) rfl X 1 5 (.slice g2 (gn + 1) gc2) _ (pfC X n r va (.slice g2 (gn + 1) gc2)) CX1.out (by omega) (fun j hj=>by match j,hj with | 0,_=>rfl | 1,_=>rfl | 2,_=>rfl | 3,_=>rfl | 4,_=>rfl) (store_ints rfl rfl rfl (CX1.out.cell (j:=1) (by omega)) (CX1.out.frozen (j:=1) (by omega))) ?_; intro w2 C2 U2 S2 V2)
  have K2:=Lib.hid ((kb_kf (X:=X) (va:=va) KB1.out).trans (but_kf U2.out H.out.xl))
  have TX2:=Lib.hid (V2.out _ TX1.out)
  have RA2:=Lib.hid (RA1.out.keep (fun g hg=>U2.out.rest g (RA1.out.lt hg) (fun e=>H.out.ne_a (by rw [hg,e]))))
  have RB2:=Lib.hid (RB1.out.keep (fun g hg=>U2.out.rest g (RB1.out.lt hg) (fun e=>ty_ne (RB1.out.blk hg).2 TX1.out (by decide) e)))
  have c02:w2.cell? ⟨X,0,none⟩=some (.slice bo L bc):=by
    have:=C2.out.cell (j:=0) (by omega)
    rw [this]
    show some va=_
    rw [HVA.out]
  have S12:=Lib.hid (show w.heap.size<=w2.heap.size by rw [S2.out]; exact S1.out)
  clear c0 c1 KB1 RB1 CX1 TX1 RA1
  go_wp2_with (first
    | (at_builtin; (with_reducible refine atList ?_); (refine wpList_append_at rfl (.tmp 22) (.tmp 23) 103 9 rfl (n0:=n0) (e:=5) (v:=.slice bo L bc) (xs:=bcs B) rfl (by rw [<-HVA.out]; exact RA2.out) i1 (.int .u8 0) Tryz.underlying103 hj hy0 hy1 rfl (.string p) p.size (byteCells p) rfl (Src.ofString _ Tryz.underlying9 p) NN.out.2.2.2.1 (by rw [bcs_len,HL.out]; have:=NN.out; omega) (by rw [hy2]; omega) (Nat.le_trans NN.out.2.2.2.2 S12.out) ?_; rw [bcs_len]; intro b3 bc3 w3 RA3 K3; have CX3:=Lib.hid (C2.out.of_block (K3.out.rest X C2.out.lt (by rw [<-HVA.out]; exact H.out.ne_a)))))
    | ((with_reducible refine atList ?_); refine wpList_setT rfl (.store 103 (.tmp 26) (.tmp 24)) rfl X 0 5 (.slice b3 (B.length + p.size) bc3) _ (pfC X n r (.slice b3 (B.length + p.size) bc3) (.slice g2 (gn + 1) gc2)) CX3.out (by omega) (fun j hj=>by match j,hj with | 0,_=>rfl | 1,_=>rfl | 2,_=>rfl | 3,_=>rfl | 4,_=>rfl) (store_bytes rfl rfl rfl (CX3.out.cell (j:=0) (by omega)) (CX3.out.frozen (j:=0) (by omega))) ?_; intro w4 C4 U4 S4 V4))
  first | go_ret | go_end0 | refine bodyPost_end (results_none rfl _ _ _) rfl ?_ | refine bodyPost_ret (results_none rfl _ _ _) rfl ?_
  have TX3:=TX2.out.of_block (K3.out.rest X C2.out.lt (by rw [<-HVA.out]; exact H.out.ne_a))
  have RB3:=RB2.out.keep (fun g hg=>K3.out.rest g (RB2.out.lt hg) (fun e=>ty_ne (RB2.out.blk hg).2 (RA2.out.blk (by rw [HVA.out]; exact e)).2 (by decide) rfl))
  rw [bcs_str,<-bcs_app] at RA3
  refine ⟨⟨_,rfl⟩,.slice b3 (B.length + p.size) bc3,.slice g2 (gn + 1) gc2,⟨H.out.xl,V4.out _ TX3,C4.out,?_,?_⟩,?_⟩
  · exact RA3.out.keep (fun g hg=>U4.out.rest g (RA3.out.lt hg) (fun e=>ty_ne (RA3.out.blk hg).2 TX3 (by decide) e))
  · rw [HL.out]
    exact RB3.keep (fun g hg=>U4.out.rest g (RB3.lt hg) (fun e=>ty_ne (RB3.blk hg).2 TX3 (by decide) e))
  have k3:=ka_kf (X:=X) (vb:=.slice g2 (gn + 1) gc2) K3.out
  rw [<-HVA.out] at k3
  exact (K2.out.trans k3).trans (but_kf U4.out H.out.xl)
end Go.Proofs.YtchfkncbemjepaaGreat
/- Layer 10, the landed program: isBusy, Add, Clear. -/
namespace Go.Proofs.YtchfkncbemjepaaGreat
open Go.RowKit

def Pk.gt (l:List UInt8):Pkt × Int:=match Pk.take l with
  | .ok p n=>if n=l.length then (p,0) else (pk0,6)
  | _=>(pk0,6)
theorem getV_gt (l:List UInt8):getV l=.tuple #[pkVal (Pk.gt l).1,.int .i64 (Pk.gt l).2]:=by
  unfold getV Pk.gt
  cases Pk.take l with
  | ok p n=>by_cases h:n=l.length <;> simp [h]
  | none=>rfl
  | form=>rfl
def Pk.busy (l:List UInt8):Bool:=decide ((Pk.gt l).2=0/\(Pk.gt l).1.ap ≠ 2047)
theorem tbusy_any (b:ByteArray) (hs:b.size<=1000000) (w:World):Calls Tryz.prog 61 #[.string b] w fun e w'=>e=.returned (.bool (Pk.busy b.data.toList))/\Below w.heap.size w w':=by
  have GE:=Lib.hid (fun w=>pget_any b hs w)
  rw [getV_gt] at GE
  obtain ⟨u,hu⟩:∃ u,Pk.busy b.data.toList=u:=⟨_,rfl⟩
  have HU:=Lib.hid (show u=decide ((Pk.gt b.data.toList).2=0/\(Pk.gt b.data.toList).1.ap ≠ 2047) from hu.symm)
  rw [hu]
  obtain ⟨⟨⟨cmd,ap,fl,ct,da⟩,c⟩,hg⟩:∃ g,Pk.gt b.data.toList=g:=⟨_,rfl⟩
  rw [hg] at GE HU
  unfold pkVal at GE
  simp only at GE HU
  clear hu hg hs
  by_cases g0:c=0
  · subst g0
    by_cases g1:ap=2047
    · have q1:(ap != 2047)=false:=by simp; exact g1
      have E:=Lib.hid (show u=false by rw [HU.out]; exact decide_eq_false (fun h=>h.2 g1))
      clear g1 HU
      go_enter Tryz.func61,Tryz.ntmps61
      go_wp2_with fail
      (with_reducible refine (GE.out _).mono ?_)
      rintro e w2 ⟨rfl,h2⟩
      have B2:=Lib.hid h2
      clear h2
      go_wp2_with (first
    | ((with_reducible refine atList ?_); refine wpList_new rfl (.alloc 125) rfl (some 3) rfl #[.bool false,.int .i64 0,.int .i64 0,.int .i64 0,.string ⟨#[]⟩] 125 (fun X=>.pointer (some ⟨X,0,none⟩)) 5 (pkCel pk0) (pk_cells pk0) (alloc_pk rfl) ?_; intro X w3 HX SX3 CX BX)
    | ((with_reducible refine atList ?_); refine wpList_setAll rfl 125 (.tmp 3) (.tmp 8) rfl X 5 [.bool cmd,.int .i64 ap,.int .i64 fl,.int .i64 ct,.string da] _ (pkCel ⟨cmd,ap,fl,ct,da⟩) CX.out rfl (pk_list ⟨cmd,ap,fl,ct,da⟩) rfl rfl pk_info (by simp [Value.oneCell']) ?_; intro w4 C4 U4 S4; have c1:w4.cell? ⟨X,1,none⟩=some (.int .i64 ap):=C4.out.cell (j:=1) (by omega)))
      go_ret
      exact ⟨by rw [E.out]; rfl,But.under (bt B2.out BX.out) U4.out (by have:=HX.out; have:=B2.out.size; omega)⟩
    · have q1:(ap != 2047)=true:=by simp; exact g1
      have E:=Lib.hid (show u=true by rw [HU.out]; exact decide_eq_true ⟨rfl,g1⟩)
      clear g1 HU
      go_enter Tryz.func61,Tryz.ntmps61
      go_wp2_with fail
      (with_reducible refine (GE.out _).mono ?_)
      rintro e w2 ⟨rfl,h2⟩
      have B2:=Lib.hid h2
      clear h2
      go_wp2_with (first
    | ((with_reducible refine atList ?_); refine wpList_new rfl (.alloc 125) rfl (some 3) rfl #[.bool false,.int .i64 0,.int .i64 0,.int .i64 0,.string ⟨#[]⟩] 125 (fun X=>.pointer (some ⟨X,0,none⟩)) 5 (pkCel pk0) (pk_cells pk0) (alloc_pk rfl) ?_; intro X w3 HX SX3 CX BX)
    | ((with_reducible refine atList ?_); refine wpList_setAll rfl 125 (.tmp 3) (.tmp 8) rfl X 5 [.bool cmd,.int .i64 ap,.int .i64 fl,.int .i64 ct,.string da] _ (pkCel ⟨cmd,ap,fl,ct,da⟩) CX.out rfl (pk_list ⟨cmd,ap,fl,ct,da⟩) rfl rfl pk_info (by simp [Value.oneCell']) ?_; intro w4 C4 U4 S4; have c1:w4.cell? ⟨X,1,none⟩=some (.int .i64 ap):=C4.out.cell (j:=1) (by omega)))
      go_ret
      exact ⟨by rw [E.out]; rfl,But.under (bt B2.out BX.out) U4.out (by have:=HX.out; have:=B2.out.size; omega)⟩
  have q0:(c == 0)=false:=by simp; exact g0
  have E:=Lib.hid (show u=false by rw [HU.out]; exact decide_eq_false (fun h=>g0 h.1))
  clear g0 HU
  go_enter Tryz.func61,Tryz.ntmps61
  go_wp2_with fail
  (with_reducible refine (GE.out _).mono ?_)
  rintro e w2 ⟨rfl,h2⟩
  have B2:=Lib.hid h2
  clear h2
  go_wp2_with (first
  | ((with_reducible refine atList ?_); refine wpList_new rfl (.alloc 125) rfl (some 3) rfl #[.bool false,.int .i64 0,.int .i64 0,.int .i64 0,.string ⟨#[]⟩] 125 (fun X=>.pointer (some ⟨X,0,none⟩)) 5 (pkCel pk0) (pk_cells pk0) (alloc_pk rfl) ?_; intro X w3 HX SX3 CX BX)
  | ((with_reducible refine atList ?_); refine wpList_setAll rfl 125 (.tmp 3) (.tmp 8) rfl X 5 [.bool cmd,.int .i64 ap,.int .i64 fl,.int .i64 ct,.string da] _ (pkCel ⟨cmd,ap,fl,ct,da⟩) CX.out rfl (pk_list ⟨cmd,ap,fl,ct,da⟩) rfl rfl pk_info (by simp [Value.oneCell']) ?_; intro w4 C4 U4 S4; have c1:w4.cell? ⟨X,1,none⟩=some (.int .i64 ap):=C4.out.cell (j:=1) (by omega)))
  go_ret
  exact ⟨by rw [E.out]; rfl,But.under (bt B2.out BX.out) U4.out (by have:=HX.out; have:=B2.out.size; omega)⟩
theorem tAdd_form {w:World} {n0 X n r:Nat} {va vb:Value} {B:List UInt8} {G:List Nat} (h:PFl w n0 X n r va vb B G) (b:ByteArray) (hs:b.size<=1000000) (hb:Pk.busy b.data.toList=false):
    Calls Tryz.prog 37 #[.pointer (some ⟨X,0,none⟩),.string b] w fun e w'=>e=.returned (.int .i64 6)/\Below w.heap.size w w':=by
  have MD:=Lib.hid (tmade_any (h.cx.cell (j:=2) (by omega)))
  have BS:=Lib.hid (fun w=>tbusy_any b hs w)
  rw [hb] at BS
  clear hb hs h
  go_enter Tryz.func37,Tryz.ntmps37
  go_wp2_with fail
  (with_reducible refine MD.out.mono ?_)
  rintro e w' ⟨rfl,rfl⟩
  go_wp2_with fail
  (with_reducible refine (BS.out _).mono ?_)
  rintro e w2 ⟨rfl,h2⟩
  have B2:=Lib.hid h2
  clear h2
  go_wp2_with fail
  go_ret
  exact ⟨rfl,B2.out⟩
theorem tAdd_full {w:World} {n0 X n r:Nat} {va vb:Value} {B:List UInt8} {G:List Nat} (h:PFl w n0 X n r va vb B G) (hr:r<=B.length) (hB:B.length<=1000000) (b:ByteArray) (hs:b.size<=1000000) (hb:Pk.busy b.data.toList=true) (hf:65536 < B.length - r + b.size):
    Calls Tryz.prog 37 #[.pointer (some ⟨X,0,none⟩),.string b] w fun e w'=>e=.returned (.int .i64 5)/\Below w.heap.size w w':=by
  have MD:=Lib.hid (tmade_any (h.cx.cell (j:=2) (by omega)))
  have BS:=Lib.hid (fun w=>tbusy_any b hs w)
  rw [hb] at BS
  have WT:=Lib.hid (fun w2 (hb:Below w.heap.size w w2)=>twaiting_any (h.below hb) hr hB)
  obtain ⟨N,hN⟩:∃ N,b.size=N:=⟨_,rfl⟩
  obtain ⟨k,hk⟩:∃ k,B.length - r=k:=⟨_,rfl⟩
  rw [hk] at WT hf
  rw [hN] at hs hf
  have kb:k<=1000000:=by omega
  have e1:IntKind.i64.wrap ((k:Int) + (N:Int))=((k + N:Nat):Int):=by rw [IntKind.wrap_i64]; omega
  have t1:decide (65536 < ((k + N:Nat):Int))=true:=decide_eq_true (by omega)
  have t1n:decide (65536 < k + N)=true:=decide_eq_true (by omega)
  have t1m:decide ((65536:Int) < (k:Int) + (N:Int))=true:=decide_eq_true (by omega)
  have HN:=Lib.hid hN
  have sn:=HN.out
  clear hb hs h hN hk hr hB hf
  go_enter Tryz.func37,Tryz.ntmps37
  go_wp2_with fail
  (with_reducible refine MD.out.mono ?_)
  rintro e w' ⟨rfl,rfl⟩
  go_wp2_with fail
  (with_reducible refine (BS.out _).mono ?_)
  rintro e w2 ⟨rfl,h2⟩
  have W2:=Lib.hid (WT.out w2 h2)
  have B2:=Lib.hid h2
  clear h2
  go_wp2_with fail
  (with_reducible refine W2.out.mono ?_)
  rintro e w3 ⟨rfl,m,rfl⟩
  go_wp2_with fail
  go_ret
  exact ⟨rfl,below_drewN B2.out _⟩
theorem tAdd_ok {w:World} {n0 X n r:Nat} {va vb:Value} {B:List UInt8} {G:List Nat} (h:PFl w n0 X n r va vb B G) (hr:r<=B.length) (hB:B.length<=1000000) (hG:G.length<=1000000) (hn0:n0<=w.heap.size) (b:ByteArray) (h0:0 < b.size) (hb:Pk.busy b.data.toList=true) (hf:B.length - r + b.size<=65536):
    Calls Tryz.prog 37 #[.pointer (some ⟨X,0,none⟩),.string b] w fun e w'=>e=.returned (.int .i64 0)/\∃ va' vb',PFl w' n0 X n r va' vb' (B ++ b.data.toList) (G ++ [B.length])/\KF n0 (SX X va vb) (SX X va' vb') w w':=by
  have MD:=Lib.hid (tmade_any (h.cx.cell (j:=2) (by omega)))
  have BS:=Lib.hid (fun w=>tbusy_any b (by omega) w)
  rw [hb] at BS
  have WT:=Lib.hid (fun w2 (hb:Below w.heap.size w w2)=>twaiting_any (h.below hb) hr hB)
  have TA:=Lib.hid (fun w2 (hb:Below w.heap.size w w2)=>tadd_any (h.below hb) b h0 (by omega) hB hG (Nat.le_trans hn0 hb.size))
  obtain ⟨N,hN⟩:∃ N,b.size=N:=⟨_,rfl⟩
  obtain ⟨k,hk⟩:∃ k,B.length - r=k:=⟨_,rfl⟩
  rw [hk] at WT hf
  rw [hN] at hf
  have hs:N<=1000000:=by omega
  have kb:k<=1000000:=by omega
  have e1:IntKind.i64.wrap ((k:Int) + (N:Int))=((k + N:Nat):Int):=by rw [IntKind.wrap_i64]; omega
  have t1:decide (65536 < ((k + N:Nat):Int))=false:=decide_eq_false (by omega)
  have t1n:decide (65536 < k + N)=false:=decide_eq_false (by omega)
  have t1m:decide ((65536:Int) < (k:Int) + (N:Int))=false:=decide_eq_false (by omega)
  have HN:=Lib.hid hN
  have H0:=Lib.hid hn0
  have sn:=HN.out
  clear hb h hN hk hr hB hf hG h0 hn0
  go_enter Tryz.func37,Tryz.ntmps37
  go_wp2_with fail
  (with_reducible refine MD.out.mono ?_)
  rintro e w' ⟨rfl,rfl⟩
  go_wp2_with fail
  (with_reducible refine (BS.out _).mono ?_)
  rintro e w2 ⟨rfl,h2⟩
  have W2:=Lib.hid (WT.out w2 h2)
  have B2:=Lib.hid h2
  clear h2
  go_wp2_with fail
  (with_reducible refine W2.out.mono ?_)
  rintro e w3 ⟨rfl,m,rfl⟩
  have B3:=Lib.hid (below_drewN B2.out m)
  have A3:=Lib.hid (TA.out _ B3.out)
  go_wp2_with fail
  (with_reducible refine A3.out.mono ?_)
  rintro e w4 ⟨⟨v,rfl⟩,va',vb',P4,K4⟩
  have PP:=Lib.hid P4
  have KK:=Lib.hid ((KF.of_below B3.out H0.out).trans K4)
  clear P4 K4
  go_wp2_with fail
  go_ret
  exact ⟨rfl,va',vb',PP.out,KK.out⟩
section
variable {P:Program} {ops:Array Oper} {rest:List Oper} {op:Oper} {a:Act} {w:World} {Q:Exit->Act->World->Prop}
end
end Go.Proofs.YtchfkncbemjepaaGreat
