/- TmRadd -/
import Derived.Test.YtchfkncbemjepaaGreatTmFlip
import Derived.Test.YtchfkncbemjepaaGreatTyKit
import Derived.Test.YtchfkncbemjepaaGreatPkJoin
set_option linter.unusedVariables false
set_option maxRecDepth 100000
set_option maxHeartbeats 8000000
/- Layer 10: the reference's filler in memory; New, Waiting, Clear. -/
namespace Go.Proofs.YtchfkncbemjepaaGreat
open Go.RowKit

structure RK (base r:Nat) (w w':World):Prop where
  below:Below base w w'
  rest:∀ g,g < w.heap.size->g ≠ r->w'.heap[g]?=w.heap[g]?
namespace RK
variable {base r:Nat} {w w1 w2:World}
theorem refl (base r:Nat) (w:World):RK base r w w:=⟨Below.refl _ _,fun _ _ _=>rfl⟩
theorem trans (h:RK base r w w1) (k:RK base r w1 w2):RK base r w w2:=
  ⟨h.below.trans k.below,fun g hg hn=>(k.rest g (Nat.lt_of_lt_of_le hg h.below.size) hn).trans (h.rest g hg hn)⟩
theorem of_below (h:Below w.heap.size w w1) (hb:base<=w.heap.size):RK base r w w1:=⟨h.mono hb,fun g hg _=>h.block g hg⟩
theorem of_but (k:But r w w1) (hb:base<=r):RK base r w w1:=⟨k.below.mono hb,fun g hg hn=>k.rest g hg hn⟩
theorem kp {t:TypeId} (k:RK base r w w1) (h:TyB w r t):Kp base [t] false w w1:=by
  obtain ⟨cu,fe,he⟩:=h
  refine ⟨k.below,fun b cur s fr e hn=>k.rest b (Array.getElem?_eq_some_iff.1 e).1 (fun q=>?_),fun _ b es c e=>k.rest b (Array.getElem?_eq_some_iff.1 e).1 (fun q=>?_)⟩
  · subst q
    rw [he] at e
    cases e
    simp at hn
  subst q
  rw [he] at e
  cases e
end RK
def flC (n:Nat) (sv:Value) (bg:Bool) (re:ByteArray):Nat->Value
  | 0=>.int .i64 (n:Nat)
  | 1=>sv
  | 2=>.bool bg
  | _=>.string re
structure RFl (w:World) (n0 r n:Nat) (sv:Value) (L:List ByteArray) (bg:Bool) (re:ByteArray):Prop where
  rl:n0<=r
  ty:TyB w r 131
  cr:Cel w r 4 (flC n sv bg re)
  row:w.ownsRow n0 9 1 sv L.length (strVs L)
namespace RFl
variable {w w':World} {n0 r n:Nat} {sv:Value} {L:List ByteArray} {bg:Bool} {re:ByteArray}
theorem keep (h:RFl w n0 r n sv L bg re) (hr:w'.heap[r]?=w.heap[r]?) (hs:∀ g,sv.ownBlock=some g->w'.heap[g]?=w.heap[g]?):RFl w' n0 r n sv L bg re:=
  ⟨h.rl,h.ty.of_block hr,h.cr.of_block hr,own_keep h.row (fun g hg _=>hs g hg)⟩
theorem below (h:RFl w n0 r n sv L bg re) (hb:Below w.heap.size w w'):RFl w' n0 r n sv L bg re:=h.keep (hb.block r h.ty.lt) (fun g hg=>hb.block g (own_block_lt h.row hg))
theorem kp {base:Nat} {ts:List TypeId} {m:Bool} (h:RFl w n0 r n sv L bg re) (k:Kp base ts m w w') (t1:131 ∉ ts) (t2:9 ∉ ts):RFl w' n0 r n sv L bg re:=
  h.keep (h.ty.keep k t1) (fun g hg=>(own_ty h.row hg).2.keep k t2)
theorem apart (h:RFl w n0 r n sv L bg re):sv.ownBlock ≠ some r:=fun e=>ty_ne (own_ty h.row e).2 h.ty (by decide) rfl
end RFl
def sizes:List ByteArray->Nat
  | []=>0
  | s :: l=>s.size + sizes l
theorem sizes_app (a b:List ByteArray):sizes (a ++ b)=sizes a + sizes b:=by
  induction a with
  | nil=>exact (Nat.zero_add _).symm
  | cons s a ih=>
    show s.size + sizes (a ++ b)=s.size + sizes a + sizes b
    rw [ih,Nat.add_assoc]
theorem sizes_take {l:List ByteArray} {k:Nat} {s:ByteArray} (h:l[k]?=some s):sizes (l.take (k + 1))=sizes (l.take k) + s.size:=by
  obtain ⟨hi,e⟩:=List.getElem?_eq_some_iff.1 h
  rw [List.take_add_one,h,sizes_app]
  rfl
theorem sizes_le (l:List ByteArray) (k:Nat):sizes (l.take k)<=sizes l:=by
  conv=>rhs; rw [<-List.take_append_drop k l]
  rw [sizes_app]
  omega
theorem sizes_flat (l:List ByteArray):sizes l=Tm.wait (l.map fun s=>s.data.toList):=by
  unfold Tm.wait
  induction l with
  | nil=>rfl
  | cons s l ih=>
    show s.size + sizes l=(s.data.toList ++ (l.map fun s=>s.data.toList).flatten).length
    rw [List.length_append,ls,ih]
theorem rwaiting_any {w:World} {n0 r n:Nat} {sv:Value} {L:List ByteArray} {bg:Bool} {re:ByteArray} (h:RFl w n0 r n sv L bg re) (hl:L.length<=100000) (hz:sizes L<=1000000):
    Calls Tryz.prog 49 #[.pointer (some ⟨r,0,none⟩)] w fun e w'=>e=.returned (.int .i64 (sizes L:Nat))/\w=w':=by
  obtain ⟨N,hN⟩:∃ N,L.length=N:=⟨_,rfl⟩
  have hro:=h.row
  obtain ⟨sa,cap,rfl⟩:=own_is hro
  have c1:w.cell? ⟨r,1,none⟩=some (.slice sa L.length cap):=h.cr.cell (j:=1) (by omega)
  rw [hN] at hl
  rw [hN] at hro c1
  have HR:=Lib.hid hro
  have HN:=Lib.hid hN
  have SL:=Lib.hid (fun k=>sizes_le L k)
  have ST:=Lib.hid (fun k s (hk:L[k]?=some s)=>sizes_take hk)
  have EN:=Lib.hid (show sizes (L.take N)=sizes L by rw [<-hN,List.take_length])
  obtain ⟨Z,hZ⟩:∃ Z,sizes L=Z:=⟨_,rfl⟩
  rw [hZ] at SL EN hz ⊢
  clear h hro hN hZ
  go_enter Tryz.func49,Tryz.ntmps49
  go_wp2_with fail
  go_loopw [3,4] (fun x3 x4 wr=>∃ k:Nat,k<=N/\x4=.int .i64 (k:Nat)/\x3=.int .i64 (sizes (L.take k):Nat)/\w=wr) (fun _ x4 _=>N - (intOf x4).toNat)
  case atStart=>exact ⟨0,Nat.zero_le _,rfl,by rw [List.take_zero]; rfl,rfl⟩
  case round=>
    obtain ⟨k,hk,rfl,rfl,rfl⟩:=hrel
    by_cases hlt:k < N
    · obtain ⟨s,hs⟩:∃ z,L[k]?=some z:=⟨L[k]'(by have:=HN.out; omega),List.getElem?_eq_getElem (by have:=HN.out; omega)⟩
      obtain ⟨G,rfl,_,_⟩:=row_some HR.out (by omega)
      have ck:w.cell? ⟨G,k,none⟩=some (.string s):=by
        have:=HR.out.cells (g:=G) rfl k _ (strVs_at hs)
        rwa [add_off,Nat.zero_add] at this
      have e1:=ST.out k s hs
      have b1:=SL.out k
      have b2:=SL.out (k + 1)
      obtain ⟨y,hy⟩:∃ y,sizes (L.take k)=y:=⟨_,rfl⟩
      obtain ⟨m,hm⟩:∃ m,s.size=m:=⟨_,rfl⟩
      rw [hy] at e1 b1 ⊢
      rw [hm] at e1
      have E1:=Lib.hid e1
      have ym:y + m<=1000000:=by omega
      have y1:IntKind.i64.wrap ((y:Int) + (m:Int))=((y + m:Nat):Int):=by rw [IntKind.wrap_i64]; omega
      have k0:(0:Int)<=(k:Int):=by omega
      have k1:(k:Int) < (N:Int):=by omega
      have HL:=Lib.hid hlt
      clear hy e1 b1 b2 hs hlt
      go_wp2_with fail
      go_roundw
      case rel=>exact ⟨k + 1,HL.out,by go_num,by rw [E1.out]; go_num,trivial⟩
      case measure=>simp [intOf]; have:=HL.out; omega
    obtain rfl:N=k:=by omega
    rw [EN.out]
    go_wp2_with fail
    go_ret
    exact ⟨rfl,rfl⟩
theorem fl_cells (n:Nat) (sv:Value) (bg:Bool) (re:ByteArray):∀ j,j < 4->(#[.int .i64 (n:Nat),sv,.bool bg,.string re]:Array Value)[j]?=some (flC n sv bg re j):=fun j hj=>by
  match j,hj with
  | 0,_=>rfl
  | 1,_=>rfl
  | 2,_=>rfl
  | 3,_=>rfl
theorem box_fl {ev:Operand->Value} {o:Oper} {w:World} {x:Operand} {n:Nat} (h:o.op=.box 131 x) (hx:ev x=.agg #[.int .i64 (n:Nat),.slice none 0 0,.bool false,.string ⟨#[]⟩]):(execOp ev o).run Tryz.prog w=.ok (.value (.pointer (some ⟨w.heap.size,0,none⟩))) (w.alloc (.cells #[.int .i64 (n:Nat),.slice none 0 0,.bool false,.string ⟨#[]⟩] 131)):=by
  simp only [execOp,h,hx]; go_simp
theorem store_strs {ev:Operand->Value} {w:World} {o:Oper} {x y:Operand} {X i:Nat} {u:Value} {sa:Option Addr} {m sc:Nat} (h:o.op=.store 43 x y) (hx:ev x=.pointer (some ⟨X,i,none⟩)) (hy:ev y=.slice sa m sc) (hc:w.cell? ⟨X,i,none⟩=some u) (hf:w.frozen? ⟨X,i,none⟩=false):(execOp ev o).run Tryz.prog w=.ok .skip (w.setCell ⟨X,i,none⟩ (.slice sa m sc)):=by
  simp only [execOp,h,hx,hy]; go_simp
theorem rtnew_no (k:Int) (h:k < 32\/200 < k) (w:World):Calls Tryz.prog 34 #[.int .i64 k] w fun e w'=>e=.returned (.tuple #[.pointer none,.int .i64 2])/\w=w':=by
  by_cases h1:k < 32
  · have t1:decide (k < 32)=true:=decide_eq_true h1
    clear h h1
    go_enter Tryz.func34,Tryz.ntmps34
    go_wp2_with fail
    go_ret2
    exact ⟨rfl,rfl⟩
  have t1:decide (k < 32)=false:=decide_eq_false h1
  have t2:decide (200 < k)=true:=decide_eq_true (by omega)
  clear h h1
  go_enter Tryz.func34,Tryz.ntmps34
  go_wp2_with fail
  go_ret2
  exact ⟨rfl,rfl⟩
theorem rtnew_any (n:Nat) (h1:32<=n) (h2:n<=200) (w:World):Calls Tryz.prog 34 #[.int .i64 (n:Nat)] w fun e w'=>∃ r,e=.returned (.tuple #[.pointer (some ⟨r,0,none⟩),.int .i64 0])/\RFl w' w.heap.size r n (.slice none 0 0) [] false ⟨#[]⟩/\Below w.heap.size w w':=by
  have t1:decide ((n:Int) < 32)=false:=decide_eq_false (by omega)
  have t1n:decide (n < 32)=false:=decide_eq_false (by omega)
  have t2:decide (200 < (n:Int))=false:=decide_eq_false (by omega)
  have t2n:decide (200 < n)=false:=decide_eq_false (by omega)
  clear h1 h2
  go_enter Tryz.func34,Tryz.ntmps34
  go_wp2_with ((with_reducible refine atList ?_); refine wpList_newT rfl (.box 131 (.tmp 11)) rfl (some 12) rfl #[.int .i64 (n:Nat),.slice none 0 0,.bool false,.string ⟨#[]⟩] 131 (fun X=>.pointer (some ⟨X,0,none⟩)) 4 (flC n (.slice none 0 0) false ⟨#[]⟩) (fl_cells n (.slice none 0 0) false ⟨#[]⟩) (box_fl rfl rfl) ?_; intro r w1 Hr Sr Cr Lr Tr)
  go_ret2
  exact ⟨r,rfl,⟨by rw [Hr.out]; exact Nat.le_refl _,Tr.out,Cr.out,World.ownsRow_nil _ _ _ _⟩,Lr.out⟩
theorem rtclear_any {w:World} {n0 r n:Nat} {sv:Value} {L:List ByteArray} {bg:Bool} {re:ByteArray} (h:RFl w n0 r n sv L bg re):
    Calls Tryz.prog 40 #[.pointer (some ⟨r,0,none⟩)] w fun e w'=>(∃ v,e=.returned v)/\RFl w' n0 r n (.slice none 0 0) [] false ⟨#[]⟩/\RK n0 r w w':=by
  have H:=Lib.hid h
  have CR:=Lib.hid h.cr
  clear h
  go_enter Tryz.func40,Tryz.ntmps40
  go_wp2_with (first
    | ((with_reducible refine atList ?_); refine wpList_setT rfl (.store 43 (.tmp 6) (.const (.slice none 0 0))) rfl r 1 4 (.slice none 0 0) _ (flC n (.slice none 0 0) bg re) CR.out (by omega) (fun j hj=>by match j,hj with | 0,_=>rfl | 1,_=>rfl | 2,_=>rfl | 3,_=>rfl) (store_strs rfl rfl rfl (CR.out.cell (j:=1) (by omega)) (CR.out.frozen (j:=1) (by omega))) ?_; intro w1 C1 U1 S1 V1)
    | ((with_reducible refine atList ?_); refine wpList_setT rfl (.store 4 (.tmp 8) (.const (.bool false))) rfl r 2 4 (.bool false) _ (flC n (.slice none 0 0) false re) C1.out (by omega) (fun j hj=>by match j,hj with | 0,_=>rfl | 1,_=>rfl | 2,_=>rfl | 3,_=>rfl) (store_bool rfl rfl rfl (C1.out.cell (j:=2) (by omega)) (C1.out.frozen (j:=2) (by omega))) ?_; intro w2 C2 U2 S2 V2)
    | ((with_reducible refine atList ?_); refine wpList_setT rfl (.store 9 (.tmp 10) (.const (.string ⟨#[]⟩))) rfl r 3 4 (.string ⟨#[]⟩) _ (flC n (.slice none 0 0) false ⟨#[]⟩) C2.out (by omega) (fun j hj=>by match j,hj with | 0,_=>rfl | 1,_=>rfl | 2,_=>rfl | 3,_=>rfl) (store_str rfl rfl rfl (C2.out.cell (j:=3) (by omega)) (C2.out.frozen (j:=3) (by omega))) ?_; intro w3 C3 U3 S3 V3))
  first | go_ret | go_end0 | refine bodyPost_end (results_none rfl _ _ _) rfl ?_ | refine bodyPost_ret (results_none rfl _ _ _) rfl ?_
  have T1:=V1.out _ H.out.ty
  have T2:=V2.out _ T1
  exact ⟨⟨_,rfl⟩,⟨H.out.rl,V3.out _ T2,C3.out,World.ownsRow_nil _ _ _ _⟩,((RK.of_but U1.out H.out.rl).trans (RK.of_but U2.out H.out.rl)).trans (RK.of_but U3.out H.out.rl)⟩
end Go.Proofs.YtchfkncbemjepaaGreat
/- Layer 10: the reference's filler: Add. -/
namespace Go.Proofs.YtchfkncbemjepaaGreat
open Go.RowKit

section
variable {P:Program} {ops:Array Oper} {rest:List Oper} {op:Oper} {a:Act} {w:World} {Q:Exit->Act->World->Prop}
theorem wpList_newRow (hgd:op.guard=none) (OP:Op) (ho:op.op=OP) (vs:List Value) (t:TypeId) (n base:Nat) (hn:vs.length=n) (hm:n<=maxLen) (hb:base<=w.heap.size)
    (hrun:(execOp a.eval op).run P w=.ok (.value (.slice (some ⟨w.heap.size,0,none⟩) n n)) (w.alloc (.cells vs.toArray t)))
    (K:∀ X w',Hid (w.heap.size=X)->Hid (w'.ownsRow base t 1 (.slice (some ⟨X,0,none⟩) n n) n vs)->Hid (Below w.heap.size w w')->wpList P ops Q rest (a.put op.dst (.slice (some ⟨X,0,none⟩) n n)) w'):wpList P ops Q (op :: rest) a w:=
  wpList_plain hgd fun _ hK=>by
    unfold Oper.wp
    rw [hrun,Oper.upon_value]
    exact hK _ _ (K w.heap.size _ (Lib.hid rfl) (Lib.hid (own_new2 vs hn hm hb)) (Lib.hid (ba (Below.refl _ _) _)))
end
theorem pkc_cells (p:Pkt):∀ j,j < 5->(#[.bool p.cmd,.int .i64 p.ap,.int .i64 p.fl,.int .i64 p.ct,.string p.da]:Array Value)[j]?=some (pkCel p j):=fun j hj=>by
  match j,hj with
  | 0,_=>rfl
  | 1,_=>rfl
  | 2,_=>rfl
  | 3,_=>rfl
  | 4,_=>rfl
theorem pkc_list (p:Pkt):∀ j,j < 5->([.bool p.cmd,.int .i64 p.ap,.int .i64 p.fl,.int .i64 p.ct,.string p.da]:List Value)[j]?=some (pkCel p j):=fun j hj=>by
  match j,hj with
  | 0,_=>rfl
  | 1,_=>rfl
  | 2,_=>rfl
  | 3,_=>rfl
  | 4,_=>rfl
theorem pkc_info:(Tryz.prog.info? 125).map (·.size)=some 5:=by kernel_rfl
theorem build_strs0 {ev:Operand->Value} {w:World} {o:Oper} (h:o.op=.buildSlice 43 0 #[]):(execOp ev o).run Tryz.prog w=.ok (.value (.slice (some ⟨w.heap.size,0,none⟩) 0 0)) (w.alloc (.cells ([]:List Value).toArray 9)):=by
  simp only [execOp,h]; go_simp
theorem build_strs1 {ev:Operand->Value} {w:World} {o:Oper} {x:Operand} {s:ByteArray} (h:o.op=.buildSlice 43 1 #[(0,x)]) (hx:ev x=.string s):(execOp ev o).run Tryz.prog w=.ok (.value (.slice (some ⟨w.heap.size,0,none⟩) 1 1)) (w.alloc (.cells ([.string s]:List Value).toArray 9)):=by
  simp only [execOp,h]; go_simp
theorem strVs_one (l:List ByteArray):∀ u ∈ strVs l,u.oneCell'=true:=fun u hu=>by
  unfold strVs at hu
  obtain ⟨s,_,rfl⟩:=List.mem_map.1 hu
  rfl
theorem row_cells {w:World} {base n c:Nat} {sa:Option Addr} {xs:List Value} {t:TypeId} (h:w.ownsRow base t 1 (.slice sa n c) n xs):∀ ad,sa=some ad->∀ j u,xs[j]?=some u->w.cell? (ad.add j)=some u:=fun ad e j u hu=>by
  subst e
  have h2:=h.2
  rcases h2 with ⟨q,_⟩ | ⟨g,c',cur,q1,q2,q3,q4,q5,q6,q7⟩
  · cases q
  cases q1
  have hh:w.ownsRow base t 1 (.slice (some ⟨g,0,none⟩) n c) n xs:=h
  exact hh.cells (g:=g) rfl j u hu
theorem row_none {w:World} {base n c:Nat} {sa:Option Addr} {xs:List Value} {t:TypeId} (h:w.ownsRow base t 1 (.slice sa n c) n xs) (e:sa=none):n=0:=by
  subst e
  obtain ⟨_,h2⟩:=h
  rcases h2 with ⟨q,e⟩ | ⟨g,c',cur,q1,_⟩
  · exact e
  cases q1
theorem app_below {w3 w5 w6 w7 w8:World} {A1:Nat} {row:Option Nat} (ha:w3.heap.size=A1) (l5:Below w3.heap.size w3 w5) (g6:w5.grownBy w6 (some A1)) (k6:row=some A1\/row=some w5.heap.size) (l7:Below w6.heap.size w6 w7) (g8:w7.grownBy w8 row):Below w3.heap.size w3 w8:=by
  have b6:=l5.grown g6 l5.size (fun k e=>by cases e; omega)
  have b7:=bt b6 l7
  refine b7.grown g8 b7.size (fun k e=>?_)
  rcases k6 with q | q
  · rw [q] at e
    cases e
    omega
  rw [q] at e
  cases e
  exact l5.size
def AddPre (b:ByteArray) (q:Pkt) (c:Int):Prop:=∀ w,Calls Tryz.prog 63 #[.string b] w fun e w'=>e=.returned (.tuple #[pkVal q,.int .i64 c])/\Below w.heap.size w w'
theorem radd_form {w:World} {r:Nat} (b:ByteArray) (q:Pkt) (c:Int) (hG:AddPre b q c) (hc:c ≠ 0\/q.ap=2047):
    Calls Tryz.prog 38 #[.pointer (some ⟨r,0,none⟩),.string b] w fun e w'=>e=.returned (.int .i64 6)/\Below w.heap.size w w':=by
  have GE:=Lib.hid hG
  clear hG
  by_cases c0:c=0
  · subst c0
    have ap:(q.ap == 2047)=true:=by simpa using hc
    clear hc
    go_enter Tryz.func38,Tryz.ntmps38
    go_wp2_with fail
    (refine (GE.out _).mono ?_)
    rintro e w1 ⟨rfl,h1⟩
    have B1:=Lib.hid h1
    clear h1
    go_wp2_with (first
      | ((with_reducible refine atList ?_); refine wpList_newT rfl (.alloc 125) rfl (some 5) rfl #[.bool false,.int .i64 0,.int .i64 0,.int .i64 0,.string ⟨#[]⟩] 125 (fun X=>.pointer (some ⟨X,0,none⟩)) 5 (pkCel ⟨false,0,0,0,⟨#[]⟩⟩) (pkc_cells ⟨false,0,0,0,⟨#[]⟩⟩) (alloc_pk rfl) ?_; intro X w2 HX SX CX LX TX)
      | ((with_reducible refine atList ?_); refine wpList_setAllT rfl 125 (.tmp 5) (.tmp 10) rfl X 5 [.bool q.cmd,.int .i64 q.ap,.int .i64 q.fl,.int .i64 q.ct,.string q.da] _ (pkCel q) CX.out rfl (pkc_list q) rfl rfl pkc_info (by simp [Value.oneCell']) ?_; intro w3 C3 U3 S3 V3; have c31:w3.cell? ⟨X,1,none⟩=some (.int .i64 q.ap):=C3.out.cell (j:=1) (by omega)))
    go_ret
    exact ⟨rfl,But.under (bt B1.out LX.out) U3.out (by have:=HX.out; have:=B1.out.size; omega)⟩
  have d0:(c != 0)=true:=by simpa using c0
  clear hc c0
  go_enter Tryz.func38,Tryz.ntmps38
  go_wp2_with fail
  (refine (GE.out _).mono ?_)
  rintro e w1 ⟨rfl,h1⟩
  have B1:=Lib.hid h1
  clear h1
  go_wp2_with (first
    | ((with_reducible refine atList ?_); refine wpList_newT rfl (.alloc 125) rfl (some 5) rfl #[.bool false,.int .i64 0,.int .i64 0,.int .i64 0,.string ⟨#[]⟩] 125 (fun X=>.pointer (some ⟨X,0,none⟩)) 5 (pkCel ⟨false,0,0,0,⟨#[]⟩⟩) (pkc_cells ⟨false,0,0,0,⟨#[]⟩⟩) (alloc_pk rfl) ?_; intro X w2 HX SX CX LX TX)
    | ((with_reducible refine atList ?_); refine wpList_setAllT rfl 125 (.tmp 5) (.tmp 10) rfl X 5 [.bool q.cmd,.int .i64 q.ap,.int .i64 q.fl,.int .i64 q.ct,.string q.da] _ (pkCel q) CX.out rfl (pkc_list q) rfl rfl pkc_info (by simp [Value.oneCell']) ?_; intro w3 C3 U3 S3 V3; have c31:w3.cell? ⟨X,1,none⟩=some (.int .i64 q.ap):=C3.out.cell (j:=1) (by omega)))
  go_ret
  exact ⟨rfl,But.under (bt B1.out LX.out) U3.out (by have:=HX.out; have:=B1.out.size; omega)⟩
theorem radd_full {w:World} {n0 r n:Nat} {sv:Value} {L:List ByteArray} {bg:Bool} {re:ByteArray} (h:RFl w n0 r n sv L bg re) (hn0:n0<=w.heap.size) (hl:L.length<=100000) (hz:sizes L<=1000000) (b:ByteArray) (q:Pkt) (hG:AddPre b q 0) (hq:q.ap ≠ 2047) (hb:b.size<=1000000) (hf:65536 < sizes L + b.size):
    Calls Tryz.prog 38 #[.pointer (some ⟨r,0,none⟩),.string b] w fun e w'=>e=.returned (.int .i64 5)/\Below w.heap.size w w':=by
  have GE:=Lib.hid hG
  have H:=Lib.hid h
  have HN0:=Lib.hid hn0
  have ap:(q.ap == 2047)=false:=by simpa using hq
  obtain ⟨Z,hZ⟩:∃ Z,sizes L=Z:=⟨_,rfl⟩
  obtain ⟨m,hm⟩:∃ m,b.size=m:=⟨_,rfl⟩
  rw [hZ,hm] at hf
  have HZ:=Lib.hid hZ
  have HL:=Lib.hid hl
  have zs:Z<=1000000:=by omega
  obtain ⟨M,hM⟩:∃ M,Z + m=M:=⟨_,rfl⟩
  have y0:(Z:Int) + (m:Int)=(M:Int):=by omega
  have y2:IntKind.i64.wrap (M:Int)=(M:Int):=by rw [IntKind.wrap_i64]; omega
  have y1:IntKind.i64.wrap ((Z:Int) + (m:Int))=(M:Int):=by rw [IntKind.wrap_i64]; omega
  have t1:decide (65536 < (M:Int))=true:=decide_eq_true (by omega)
  have t1n:decide (65536 < M)=true:=decide_eq_true (by omega)
  clear hG h hq hf hZ hz
  go_enter Tryz.func38,Tryz.ntmps38
  go_wp2_with fail
  (refine (GE.out _).mono ?_)
  rintro e w1 ⟨rfl,h1⟩
  have B1:=Lib.hid h1
  clear h1
  go_wp2_with (first
    | ((with_reducible refine atList ?_); refine wpList_newT rfl (.alloc 125) rfl (some 5) rfl #[.bool false,.int .i64 0,.int .i64 0,.int .i64 0,.string ⟨#[]⟩] 125 (fun X=>.pointer (some ⟨X,0,none⟩)) 5 (pkCel ⟨false,0,0,0,⟨#[]⟩⟩) (pkc_cells ⟨false,0,0,0,⟨#[]⟩⟩) (alloc_pk rfl) ?_; intro X w2 HX SX CX LX TX)
    | ((with_reducible refine atList ?_); refine wpList_setAllT rfl 125 (.tmp 5) (.tmp 10) rfl X 5 [.bool q.cmd,.int .i64 q.ap,.int .i64 q.fl,.int .i64 q.ct,.string q.da] _ (pkCel q) CX.out rfl (pkc_list q) rfl rfl pkc_info (by simp [Value.oneCell']) ?_; intro w3 C3 U3 S3 V3; have c31:w3.cell? ⟨X,1,none⟩=some (.int .i64 q.ap):=C3.out.cell (j:=1) (by omega)))
  have B3:=Lib.hid (But.under (bt B1.out LX.out) U3.out (by have:=HX.out; have:=B1.out.size; omega))
  have H3:=Lib.hid (H.out.below B3.out)
  (refine (rwaiting_any H3.out HL.out (by rw [HZ.out]; exact zs)).mono ?_)
  rintro e w4 ⟨rfl,rfl⟩
  rw [HZ.out]
  go_wp2_with fail
  go_ret
  exact ⟨rfl,B3.out⟩
theorem radd_ok {w:World} {n0 r n:Nat} {sv:Value} {L:List ByteArray} {bg:Bool} {re:ByteArray} (h:RFl w n0 r n sv L bg re) (hn0:n0<=w.heap.size) (hl:L.length<=100000) (hz:sizes L<=1000000) (b:ByteArray) (q:Pkt) (hG:AddPre b q 0) (hq:q.ap ≠ 2047) (hf:sizes L + b.size<=65536):
    Calls Tryz.prog 38 #[.pointer (some ⟨r,0,none⟩),.string b] w fun e w'=>∃ sv',e=.returned (.int .i64 0)/\RFl w' n0 r n sv' (L ++ [b]) bg re/\RK n0 r w w':=by
  have GE:=Lib.hid hG
  have H:=Lib.hid h
  have HN0:=Lib.hid hn0
  have ap:(q.ap == 2047)=false:=by simpa using hq
  obtain ⟨Z,hZ⟩:∃ Z,sizes L=Z:=⟨_,rfl⟩
  obtain ⟨m,hm⟩:∃ m,b.size=m:=⟨_,rfl⟩
  rw [hZ,hm] at hf
  have HZ:=Lib.hid hZ
  have HL:=Lib.hid hl
  have zs:Z<=1000000:=by omega
  obtain ⟨M,hM⟩:∃ M,Z + m=M:=⟨_,rfl⟩
  have y0:(Z:Int) + (m:Int)=(M:Int):=by omega
  have y2:IntKind.i64.wrap (M:Int)=(M:Int):=by rw [IntKind.wrap_i64]; omega
  have y1:IntKind.i64.wrap ((Z:Int) + (m:Int))=(M:Int):=by rw [IntKind.wrap_i64]; omega
  have t1:decide (65536 < (M:Int))=false:=decide_eq_false (by omega)
  have t1n:decide (65536 < M)=false:=decide_eq_false (by omega)
  clear hG h hq hf hZ hz
  go_enter Tryz.func38,Tryz.ntmps38
  go_wp2_with fail
  (refine (GE.out _).mono ?_)
  rintro e w1 ⟨rfl,h1⟩
  have B1:=Lib.hid h1
  clear h1
  go_wp2_with (first
    | ((with_reducible refine atList ?_); refine wpList_newT rfl (.alloc 125) rfl (some 5) rfl #[.bool false,.int .i64 0,.int .i64 0,.int .i64 0,.string ⟨#[]⟩] 125 (fun X=>.pointer (some ⟨X,0,none⟩)) 5 (pkCel ⟨false,0,0,0,⟨#[]⟩⟩) (pkc_cells ⟨false,0,0,0,⟨#[]⟩⟩) (alloc_pk rfl) ?_; intro X w2 HX SX CX LX TX)
    | ((with_reducible refine atList ?_); refine wpList_setAllT rfl 125 (.tmp 5) (.tmp 10) rfl X 5 [.bool q.cmd,.int .i64 q.ap,.int .i64 q.fl,.int .i64 q.ct,.string q.da] _ (pkCel q) CX.out rfl (pkc_list q) rfl rfl pkc_info (by simp [Value.oneCell']) ?_; intro w3 C3 U3 S3 V3; have c31:w3.cell? ⟨X,1,none⟩=some (.int .i64 q.ap):=C3.out.cell (j:=1) (by omega)))
  have B3:=Lib.hid (But.under (bt B1.out LX.out) U3.out (by have:=HX.out; have:=B1.out.size; omega))
  have H3:=Lib.hid (H.out.below B3.out)
  (refine (rwaiting_any H3.out HL.out (by rw [HZ.out]; exact zs)).mono ?_)
  rintro e w4 ⟨rfl,rfl⟩
  rw [HZ.out]
  obtain ⟨N,hN⟩:∃ N,L.length=N:=⟨_,rfl⟩
  have hr3:=H3.out.row
  obtain ⟨sa,cap,rfl⟩:=own_is hr3
  have c1:w3.cell? ⟨r,1,none⟩=some (.slice sa L.length cap):=H3.out.cr.cell (j:=1) (by omega)
  rw [hN] at hr3 c1
  have R3:=Lib.hid hr3
  have HN:=Lib.hid hN
  have nl:N<=100000:=by rw [<-hN]; exact HL.out
  obtain ⟨i0,hi0,hz0,hz1,hz2⟩:=info_parts info_str
  have hb3:=Lib.hid (Nat.le_trans HN0.out B3.out.size)
  clear hr3 hN
  go_wp2_with (first
    | ((with_reducible refine atList ?_); refine wpList_newRow rfl (.buildSlice 43 0 #[]) rfl [] 9 0 n0 rfl (Nat.zero_le _) hb3.out (build_strs0 rfl) ?_; intro A1 w5 HA OA LA; have c15:w5.cell? ⟨r,1,none⟩=some (.slice sa N cap):=(by have:=(H3.out.below LA.out).cr.cell (j:=1) (by omega); rw [HN.out] at this; exact this))
    | (at_builtin; (with_reducible refine atList ?_); refine wpList_append_own2_any rfl (.tmp 26) (.tmp 30) 43 rfl n0 9 i0 (.string ⟨#[]⟩) 1 16 Tryz.underlying43 hi0 hz0 hz1 hz2 rfl (by decide) _ 0 [] rfl OA.out sa N cap (strVs L) rfl (by rw [strVs_len,HN.out,Nat.mul_one]) (fun e=>row_none (own_below R3.out LA.out) e) (row_cells (own_below R3.out LA.out)) (strVs_one L) (by unfold maxLen; omega) (by omega) (Nat.le_trans hb3.out LA.out.size) ?_; intro v6 w6 O6 g6 k6; obtain ⟨a6,p6,rfl⟩:=own_is O6; have OO6:=Lib.hid (show w6.ownsRow n0 9 1 (.slice a6 N p6) N (strVs L) by rw [Nat.zero_add,List.nil_append] at O6; exact O6); have G6:=Lib.hid (show w5.grownBy w6 (some A1) from g6); have K6:=Lib.hid (show (Value.slice a6 N p6).ownBlock=some A1\/(Value.slice a6 N p6).ownBlock=some w5.heap.size by rw [Nat.zero_add] at k6; exact k6); clear O6 g6 k6)
    | ((with_reducible refine atList ?_); refine wpList_newRow rfl (.buildSlice 43 1 #[(0,.tmp 32)]) rfl [.string b] 9 1 n0 rfl (by unfold maxLen; omega) (Nat.le_trans (Nat.le_trans hb3.out LA.out.size) G6.out.size) (build_strs1 rfl rfl) ?_; intro A7 w7 HA7 OA7 LA7)
    | (at_builtin; (with_reducible refine atList ?_); refine wpList_append_own2 rfl (.tmp 31) (.tmp 33) 43 rfl n0 9 i0 (.string ⟨#[]⟩) 1 16 Tryz.underlying43 hi0 hz0 hz1 hz2 rfl (by decide) _ N _ rfl (own_below OO6.out LA7.out) ⟨A7,0,none⟩ 1 1 [.string b] rfl rfl (row_cells OA7.out ⟨A7,0,none⟩ rfl) (by simp [Value.oneCell']) (by unfold maxLen; omega) (by omega) (Nat.le_trans (Nat.le_trans (Nat.le_trans hb3.out LA.out.size) G6.out.size) LA7.out.size) ?_; intro v8 w8 O8 g8 k8; obtain ⟨a8,p8,rfl⟩:=own_is O8; have OO8:=Lib.hid (show w8.ownsRow n0 9 1 (.slice a8 (N + 1) p8) (N + 1) (strVs (L ++ [b])) by rw [strVs_add] at O8; exact O8); have B38:=Lib.hid (app_below HA.out LA.out G6.out K6.out LA7.out g8); have H8:=Lib.hid (H3.out.below B38.out); clear O8 g8 k8)
    | ((with_reducible refine atList ?_); refine wpList_setT rfl (.store 43 (.tmp 36) (.tmp 34)) rfl r 1 4 (.slice a8 (N + 1) p8) _ (flC n (.slice a8 (N + 1) p8) bg re) H8.out.cr (by omega) (fun j hj=>by match j,hj with | 0,_=>rfl | 1,_=>rfl | 2,_=>rfl | 3,_=>rfl) (store_strs rfl rfl rfl (H8.out.cr.cell (j:=1) (by omega)) (H8.out.cr.frozen (j:=1) (by omega))) ?_; intro w9 C9 U9 S9 V9))
  go_ret
  have BW:=B3.out.trans (B38.out.mono B3.out.size)
  have ne8:(Value.slice a8 (N + 1) p8).ownBlock ≠ some r:=fun e=>ty_ne (own_ty OO8.out e).2 H8.out.ty (by decide) rfl
  have ln:(L ++ [b]).length=N + 1:=by rw [List.length_append,HN.out]; rfl
  refine ⟨_,rfl,⟨H.out.rl,V9.out _ H8.out.ty,C9.out,?_⟩,(RK.of_below BW HN0.out).trans (RK.of_but U9.out H.out.rl)⟩
  rw [ln]
  exact but_row OO8.out U9.out ne8
end Go.Proofs.YtchfkncbemjepaaGreat
