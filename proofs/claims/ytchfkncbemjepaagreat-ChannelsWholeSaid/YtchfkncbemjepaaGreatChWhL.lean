/- ChWhL -/
import Derived.ProofKit
import Derived.Test.YtchfkncbemjepaaGreatChWhW
set_option linter.unusedVariables false
set_option maxRecDepth 100000
set_option maxHeartbeats 16000000
/- ChannelsWhole: without the reference of layer 11: if all frames of a mux arrive, in order, some of them twice, all packets arrive, each once, those of a channel in order; nothing is lost or broken, for every input. -/
namespace Go.Proofs.YtchfkncbemjepaaGreat
open Go.ChangeShapes Go.WideShapes Go.ChangeAt Go.RowKit

namespace channelsWhole
set_option linter.unusedSimpArgs false
theorem n8_cells:∀ j,j < 8->(#[.slice none 0 0,.slice none 0 0,.slice none 0 0,.slice none 0 0,.slice none 0 0,.slice none 0 0,.slice none 0 0,.slice none 0 0]:Array Value)[j]?=some ((fun _=>Value.slice none 0 0:Nat->Value) j):=fun j hj=>by
  match j,hj with
  | 0,_=>rfl
  | 1,_=>rfl
  | 2,_=>rfl
  | 3,_=>rfl
  | 4,_=>rfl
  | 5,_=>rfl
  | 6,_=>rfl
  | 7,_=>rfl
theorem alloc_g8 {ev:Operand->Value} {o:Oper} {w:World} (h:o.op=.alloc 76):(execOp ev o).run Tryz.prog w=.ok (.value (.pointer (some ⟨w.heap.size,0,none⟩))) (w.alloc (.cells #[.slice none 0 0,.slice none 0 0,.slice none 0 0,.slice none 0 0,.slice none 0 0,.slice none 0 0,.slice none 0 0,.slice none 0 0] 76)):=by
  simp only [execOp,h]; go_simp
theorem st_all (q:StA):∀ j,j < 18->([.int .i64 q.c,.int .i64 q.n,.int .i64 (q.pr 0),.int .i64 (q.pr 1),.int .i64 (q.pr 2),.int .i64 (q.pr 3),.int .i64 (q.pr 4),.int .i64 (q.pr 5),.int .i64 (q.pr 6),.int .i64 (q.pr 7),.int .i64 (q.sh 0),.int .i64 (q.sh 1),.int .i64 (q.sh 2),.int .i64 (q.sh 3),.int .i64 (q.sh 4),.int .i64 (q.sh 5),.int .i64 (q.sh 6),.int .i64 (q.sh 7)]:List Value)[j]?=some (stC q j):=fun j hj=>by
  match j,hj with
  | 0,_=>rfl
  | 1,_=>rfl
  | 2,_=>rfl
  | 3,_=>rfl
  | 4,_=>rfl
  | 5,_=>rfl
  | 6,_=>rfl
  | 7,_=>rfl
  | 8,_=>rfl
  | 9,_=>rfl
  | 10,_=>rfl
  | 11,_=>rfl
  | 12,_=>rfl
  | 13,_=>rfl
  | 14,_=>rfl
  | 15,_=>rfl
  | 16,_=>rfl
  | 17,_=>rfl
  | j + 18,h=>exact absurd h (by omega)
theorem info_st:(Tryz.prog.info? 24).map (·.size)=some 18:=by kernel_rfl
theorem walk_long (q:StA) (a:Option Addr) (cap:Nat) (l:List LdB) (a2:Option Addr) (cap2:Nat) (l2:List Bool) (hl:40 < l.length) (w:World):Calls Tryz.prog 6 #[stVal q,.slice a l.length cap,.slice a2 l2.length cap2] w fun e w'=>e=.returned (.bool true)/\Below w.heap.size w w':=by
  have SH:=Lib.hid (fun w=>cshown_any w)
  have t1:decide (40 < (l.length:Int))=true:=decide_eq_true (by omega)
  have t1n:decide (40 < l.length)=true:=decide_eq_true hl
  go_enter Tryz.func6,Tryz.ntmps6
  go_wp2_with ((with_reducible refine atList ?_); refine wpList_newT rfl (.box 24 (.tmp 0)) rfl (some 3) rfl #[.int .i64 q.c,.int .i64 q.n,.int .i64 (q.pr 0),.int .i64 (q.pr 1),.int .i64 (q.pr 2),.int .i64 (q.pr 3),.int .i64 (q.pr 4),.int .i64 (q.pr 5),.int .i64 (q.pr 6),.int .i64 (q.pr 7),.int .i64 (q.sh 0),.int .i64 (q.sh 1),.int .i64 (q.sh 2),.int .i64 (q.sh 3),.int .i64 (q.sh 4),.int .i64 (q.sh 5),.int .i64 (q.sh 6),.int .i64 (q.sh 7)] 24 (fun X=>.pointer (some ⟨X,0,none⟩)) 18 (stC q) (st_cells' q) (box_st rfl rfl) ?_; intro Zs w1 HZ SZ CZ BZ TZ)
  (with_reducible refine (SH.out _).mono ?_)
  rintro e w2 ⟨rfl,h2⟩
  have B2:=Lib.hid (bt BZ.out h2)
  clear h2
  go_wp2_with fail
  go_ret
  exact ⟨rfl,B2.out⟩
theorem walk_bad (q:StA) (a:Option Addr) (cap:Nat) (l:List LdB) (a2:Option Addr) (cap2:Nat) (l2:List Bool) (hl:l.length<=40) (hbad:¬ NmOk q.c q.n q.pr q.sh) (w:World):Calls Tryz.prog 6 #[stVal q,.slice a l.length cap,.slice a2 l2.length cap2] w fun e w'=>e=.returned (.bool true)/\Below w.heap.size w w':=by
  have SH:=Lib.hid (fun w=>cshown_any w)
  have TB:=Lib.hid (fun w=>tbad_any q (.slice a l.length cap) hbad w)
  obtain ⟨N,hN⟩:∃ N,l.length=N:=⟨_,rfl⟩
  rw [hN] at hl TB ⊢
  have t1:decide (40 < (N:Int))=false:=decide_eq_false (by omega)
  have t1n:decide (40 < N)=false:=decide_eq_false (by omega)
  have NW:Hid (∀ w,Calls Tryz.prog 9 #[.int .i64 q.c,.int .i64 q.n,.agg (list8 q.pr).toArray,.agg (list8 q.sh).toArray] w fun e w'=>e=.returned (.tuple #[.pointer none,.int .i64 2])/\Below w.heap.size w w'):=Lib.hid (fun w=>by
    refine (newMux_any q.c q.n q.pr q.sh w).mono ?_
    rintro e w' ⟨hb,⟨_,e1⟩ | ⟨hn,_⟩⟩
    · exact ⟨e1,hb⟩
    exact absurd hn hbad)
  clear hbad hl hN
  go_enter Tryz.func6,Tryz.ntmps6
  go_wp2_with ((with_reducible refine atList ?_); refine wpList_newT rfl (.box 24 (.tmp 0)) rfl (some 3) rfl #[.int .i64 q.c,.int .i64 q.n,.int .i64 (q.pr 0),.int .i64 (q.pr 1),.int .i64 (q.pr 2),.int .i64 (q.pr 3),.int .i64 (q.pr 4),.int .i64 (q.pr 5),.int .i64 (q.pr 6),.int .i64 (q.pr 7),.int .i64 (q.sh 0),.int .i64 (q.sh 1),.int .i64 (q.sh 2),.int .i64 (q.sh 3),.int .i64 (q.sh 4),.int .i64 (q.sh 5),.int .i64 (q.sh 6),.int .i64 (q.sh 7)] 24 (fun X=>.pointer (some ⟨X,0,none⟩)) 18 (stC q) (st_cells' q) (box_st rfl rfl) ?_; intro Zs w1 HZ SZ CZ BZ TZ)
  (with_reducible refine (SH.out _).mono ?_)
  rintro e w2 ⟨rfl,h2⟩
  have B2:=Lib.hid (bt BZ.out h2)
  have CZ2:=Lib.hid (CZ.out.below h2)
  clear h2 HZ SZ CZ BZ TZ
  go_wp2_with ((with_reducible refine atList ?_); refine wpList_getAll rfl 24 (.tmp 3) rfl Zs 18 [.int .i64 q.c,.int .i64 q.n,.int .i64 (q.pr 0),.int .i64 (q.pr 1),.int .i64 (q.pr 2),.int .i64 (q.pr 3),.int .i64 (q.pr 4),.int .i64 (q.pr 5),.int .i64 (q.pr 6),.int .i64 (q.pr 7),.int .i64 (q.sh 0),.int .i64 (q.sh 1),.int .i64 (q.sh 2),.int .i64 (q.sh 3),.int .i64 (q.sh 4),.int .i64 (q.sh 5),.int .i64 (q.sh 6),.int .i64 (q.sh 7)] (stC q) _ CZ2.out rfl (st_all q) rfl Tryz.underlying24 rfl info_st ?_)
  (with_reducible refine (TB.out _).mono ?_)
  rintro e w3 ⟨rfl,h3⟩
  have B3:=Lib.hid (bt B2.out h3)
  have CZ3:=Lib.hid (CZ2.out.below h3)
  clear h3 CZ2
  go_upto_region 6 with (first
    | ((with_reducible refine atList ?_); refine wpList_newT rfl (.alloc 74) rfl (some 7) rfl #[.slice none 0 0,.slice none 0 0,.slice none 0 0,.slice none 0 0,.slice none 0 0,.slice none 0 0,.bool false] 74 (fun X=>.pointer (some ⟨X,0,none⟩)) 7 seZ seZ_cells (alloc_se rfl) ?_; intro Wb w4 HW SW CW BW TW)
    | ((with_reducible refine atList ?_); refine wpList_setAllT rfl 74 (.tmp 7) (.tmp 26) rfl Wb 7 [.slice none 0 0,.slice none 0 0,.slice none 0 0,.slice none 0 0,.slice none 0 0,.slice none 0 0,.bool false] _ seZ CW.out rfl seZ_list rfl rfl info_se (by simp [Value.oneCell']) ?_; intro w5 C5 U5 S5 V5))
  have B5:=Lib.hid (show Below w.heap.size w w5 from But.under (bt B3.out BW.out) U5.out (by have:=HW.out; have:=B3.out.size; omega))
  have CZ5:=Lib.hid ((CZ3.out.below BW.out).but U5.out (by have:=CZ3.out.lt; have:=HW.out; omega))
  have s0:w5.cell? ⟨Wb,0,none⟩=some (.slice none 0 0):=C5.out.cell (j:=0) (by omega)
  have s6:w5.cell? ⟨Wb,6,none⟩=some (.bool false):=C5.out.cell (j:=6) (by omega)
  have z0:w5.cell? ⟨Zs,0,none⟩=some (.int .i64 q.c):=CZ5.out.cell (j:=0) (by omega)
  have z1:w5.cell? ⟨Zs,1,none⟩=some (.int .i64 q.n):=CZ5.out.cell (j:=1) (by omega)
  clear CW BW HW SW TW B2 B3 CZ3 C5 U5 S5 V5
  go_wp2_with (first
    | ((with_reducible refine atList ?_); refine wpList_load_mid rfl 22 (.tmp 41) rfl Zs 2 rfl (list8 q.pr) _ (st_range CZ5.out).1 Tryz.underlying22 rfl info_a8 ?_)
    | ((with_reducible refine atList ?_); refine wpList_load_mid rfl 22 (.tmp 43) rfl Zs 10 rfl (list8 q.sh) _ (st_range CZ5.out).2 Tryz.underlying22 rfl info_a8 ?_))
  (with_reducible refine (NW.out _).mono ?_)
  rintro e w6 ⟨rfl,h6⟩
  have B6:=Lib.hid (bt B5.out h6)
  clear h6
  go_wp2_with fail
  go_ret
  exact ⟨rfl,B6.out⟩
theorem cell_same {w w':World} {b j:Nat} (e:w'.heap[b]?=w.heap[b]?):w'.cell? ⟨b,j,none⟩=w.cell? ⟨b,j,none⟩:=by
  unfold World.cell?
  simp only [e]
structure WI (n3 n6 D Wb Gb:Nat) (w3:World) (wc:Nat->Value) (y:Ch.Dx) (X:Nat->List (List UInt8)) (gv:Nat->Value) (w:World):Prop where
  pd:PD w n6 D y
  yo:y.Ok
  cg:Cel w Gb 8 gv
  tg:TyB w Gb 76
  rows:Rws n6 (fun _=>False) (rws8 gv X) w
  low:Below n3 w3 w
  cw:Cel w Wb 7 wc
  tw:TyB w Wb 74
  l1:n3<=n6
  l2:n3<=Gb
  l3:n3<=Wb
  n6w:n6<=w.heap.size
namespace WI
variable {n3 n6 D Wb Gb:Nat} {w3 w w':World} {wc gv:Nat->Value} {y:Ch.Dx} {X:Nat->List (List UInt8)}
theorem rt {r:Rw} (h:r ∈ rws8 gv X):r.t=9:=by
  simp only [rws8,List.mem_cons,List.not_mem_nil,or_false] at h
  rcases h with rfl | rfl | rfl | rfl | rfl | rfl | rfl | rfl <;> rfl
theorem keep (h:WI n3 n6 D Wb Gb w3 wc y X gv w) (ho:∀ Z t,TyB w Z t->t ≠ 9->t ≠ 51->w'.heap[Z]?=w.heap[Z]?) (hr:Rws n6 (fun _=>False) (rws8 gv X) w') (hb:Below n3 w w'):WI n3 n6 D Wb Gb w3 wc y X gv w':=
  ⟨h.pd.keep (ho D _ h.pd.dt (by decide) (by decide)),h.yo,h.cg.of_block (ho Gb _ h.tg (by decide) (by decide)),h.tg.of_block (ho Gb _ h.tg (by decide) (by decide)),hr,h.low.trans hb,h.cw.of_block (ho Wb _ h.tw (by decide) (by decide)),h.tw.of_block (ho Wb _ h.tw (by decide) (by decide)),h.l1,h.l2,h.l3,Nat.le_trans h.n6w hb.size⟩
theorem n3w (h:WI n3 n6 D Wb Gb w3 wc y X gv w):n3<=w.heap.size:=Nat.le_trans h.l1 h.n6w
theorem below (h:WI n3 n6 D Wb Gb w3 wc y X gv w) (hb:Below w.heap.size w w'):WI n3 n6 D Wb Gb w3 wc y X gv w':=
  h.keep (fun Z t T _ _=>hb.block Z T.lt) (h.rows.below hb) (hb.mono h.n3w)
theorem arr (h:WI n3 n6 D Wb Gb w3 wc y X gv w) {E:Nat} (T:TyB w E 51) (u:But E w w') (hE:n3<=E):WI n3 n6 D Wb Gb w3 wc y X gv w':=
  h.keep (fun Z t TZ _ h2=>u.rest Z TZ.lt (ty_ne TZ T h2)) (h.rows.but T (fun r hr=>by rw [rt hr]; decide) u) (u.below.mono hE)
theorem feed (h:WI n3 n6 D Wb Gb w3 wc y X gv w) (b:ByteArray) (hb:b.size<=1000000) {av:Ch.Av} {y':Ch.Dx} (e:y.feed b=(av,0,y')):
    Calls Tryz.prog 22 #[.pointer (some ⟨D,0,none⟩),.string b] w fun e w'=>∃ v,e=.returned (.tuple #[avVal v av,.int .i64 0])/\w'.ownsRow w.heap.size 9 1 v av.pk.length (bsVs av.pk)/\WI n3 n6 D Wb Gb w3 wc y' X gv w'/\KF n6 (·=D) (·=D) w w':=by
  have F:=dFeed_any h.pd h.yo h.n6w b hb
  unfold Fd at F
  rw [e] at F
  refine F.mono ?_
  rintro e1 w2 ⟨v,rfl,row,q2,k2⟩
  have yo':=h.yo.feed b
  rw [e] at yo'
  have oth:∀ Z t,TyB w Z t->t ≠ 68->w2.heap[Z]?=w.heap[Z]?:=fun Z t T ht=>h.pd.kfO T ht k2
  refine ⟨v,rfl,row,⟨q2,yo',h.cg.of_block (oth Gb _ h.tg (by decide)),h.tg.of_block (oth Gb _ h.tg (by decide)),h.rows.keep (fun g hg hr=>?_),h.low.trans (k2.below.mono h.l1),h.cw.of_block (oth Wb _ h.tw (by decide)),h.tw.of_block (oth Wb _ h.tw (by decide)),h.l1,h.l2,h.l3,Nat.le_trans h.n6w k2.below.size⟩,k2⟩
  obtain ⟨r,h1,h2⟩:=hr
  exact oth g r.t (h.rows.ty h1 h2).2 (by rw [rt h1]; decide)
theorem grown (h:WI n3 n6 D Wb Gb w3 wc y X gv w) {row:Option Nat} {n7:Nat} {v':Value} (g:w.grownBy w' row) (hr:∀ x,row=some x->n7<=x/\TyB w x 9) (h7:n3<=n7) (h7w:n7<=w.heap.size) (k:v'.ownBlock=row\/v'.ownBlock=some w.heap.size) (ap:∀ r ∈ rws8 gv X,∀ x,row=some x->r.v.ownBlock ≠ some x):WI n3 n6 D Wb Gb w3 wc y X gv w':=
  h.keep (fun Z t T ht _=>g.block Z T.lt (fun e=>ty_ne (hr Z e.symm).2 T (fun q=>ht q.symm) rfl)) (h.rows.keep (fun x hx hrw=>g.block x hx (fun e=>by
    obtain ⟨r,h1,h2⟩:=hrw
    exact ap r h1 x e.symm h2))) ((Below.refl n3 w).grown g h.n3w (fun x e=>Nat.le_trans h7 (hr x e).1))
theorem bsVs_app (a b:List (List UInt8)):bsVs (a ++ b)=bsVs a ++ bsVs b:=by unfold bsVs; rw [List.map_append]
theorem app (h:WI n3 n6 D Wb Gb w3 wc y X gv w) {c:Nat} {Q:List (List UInt8)} {pa:Option Addr} {v:Value} (hc:c < 8) (k:Wa n6 gv X c Q pa w v true w'):WI n3 n6 D Wb Gb w3 wc y (Ch.upd X c (X c ++ Q)) (Ch.upd gv c v) (w'.setCell ⟨Gb,c,none⟩ v):=by
  have r1:Rws n6 (fun _=>False) (rws8 (Ch.upd gv c v) (Ch.upd X c (X c ++ Q))) w':=by
    rw [<-rws8_set gv X v _ hc,bsVs_app]
    exact k.rows
  have o:=fun Z t (T:TyB w Z t) ht=>k.oth Z t T ht
  have g1:=h.cg.of_block (o Gb _ h.tg (by decide))
  have t1:=h.tg.of_block (o Gb _ h.tg (by decide))
  have u:But Gb w' (w'.setCell ⟨Gb,c,none⟩ v):=(But.refl Gb w').setCell c _
  have nD:D ≠ Gb:=ty_ne h.pd.dt h.tg (by decide)
  have nW:Wb ≠ Gb:=ty_ne h.tw h.tg (by decide)
  have d1:=h.pd.keep (o D _ h.pd.dt (by decide))
  have w1:=h.cw.of_block (o Wb _ h.tw (by decide))
  have tw1:=h.tw.of_block (o Wb _ h.tw (by decide))
  refine ⟨d1.keep (u.rest D d1.dt.lt nD),h.yo,(g1.set c v).congr (fun j hj=>?_),?_,r1.but t1 (fun r hr=>by rw [rt hr]; decide) u,(h.low.trans (k.low.mono h.l1)).trans (u.below.mono h.l2),w1.but u nW,tw1.but u nW,h.l1,h.l2,h.l3,Nat.le_trans h.n6w (Nat.le_trans k.low.size u.below.size)⟩
  · show (if j=c then v else gv j)=Ch.upd gv c v j
    rfl
  obtain ⟨cur,fe,hh⟩:=t1
  obtain ⟨c',hc'⟩:=cells_setCell (i:=c) (u:=v) hh
  exact ⟨c',fe,hc'⟩
end WI
def sel (P:List ByteArray) (O:List Nat) (c p:Nat):List ByteArray:=(((P.zip O).take p).filter (fun q=>decide (q.2=c))).map Prod.fst
theorem sel_yes {P:List ByteArray} {O:List Nat} {c p:Nat} {pk:ByteArray} (h1:P[p]?=some pk) (h2:O[p]?=some c):sel P O c (p + 1)=sel P O c p ++ [pk]:=by
  have h:(P.zip O)[p]?=some (pk,c):=by rw [List.getElem?_zip_eq_some]; exact ⟨h1,h2⟩
  unfold sel
  rw [List.take_add_one,h,List.filter_append,List.map_append]
  simp
theorem sel_no {P:List ByteArray} {O:List Nat} {c p o:Nat} {pk:ByteArray} (h1:P[p]?=some pk) (h2:O[p]?=some o) (hne:o ≠ c):sel P O c (p + 1)=sel P O c p:=by
  have h:(P.zip O)[p]?=some (pk,o):=by rw [List.getElem?_zip_eq_some]; exact ⟨h1,h2⟩
  unfold sel
  rw [List.take_add_one,h,List.filter_append,List.map_append]
  simp [hne]
theorem sel_all {P:List ByteArray} {O:List Nat} {c n:Nat} (h1:P.length=n):strVs (sel P O c n)=bsVs (pf P O c)/\(sel P O c n).length=(pf P O c).length:=by
  have e:(P.zip O).take n=P.zip O:=List.take_of_length_le (by rw [List.length_zip,h1]; exact Nat.min_le_left _ _)
  unfold sel pf
  rw [e]
  refine ⟨?_,by rw [List.length_map,List.length_map]⟩
  unfold strVs bsVs
  rw [List.map_map,List.map_map]
  refine List.map_congr_left (fun q _=>?_)
  show Value.string q.1=Value.string (bs q.1.data.toList)
  rw [bs_self]
theorem sel_len (P:List ByteArray) (O:List Nat) (c p:Nat):(sel P O c p).length<=P.length:=by
  unfold sel
  rw [List.length_map]
  refine Nat.le_trans (List.length_filter_le _ _) ?_
  rw [List.length_take,List.length_zip]
  omega
theorem build_s1 {ev:Operand->Value} {o:Oper} {w:World} {x:Operand} {s:ByteArray} (h:o.op=.buildSlice 43 1 #[(0,x)]) (hx:ev x=.string s):(execOp ev o).run Tryz.prog w=.ok (.value (.slice (some ⟨w.heap.size,0,none⟩) 1 1)) (w.alloc (.cells [.string s].toArray 9)):=by
  simp only [execOp,h]; simp only [List.map_toArray,List.map_cons,List.map_nil,hx]; go_simp
theorem WI.start {n3 n6 D Wb Gb:Nat} {w3 w:World} {wc:Nat->Value} {y:Ch.Dx} {X:Nat->List (List UInt8)} (pd:PD w n6 D y) (yo:y.Ok) (cg:Cel w Gb 8 (fun _=>.slice none 0 0)) (tg:TyB w Gb 76) (low:Below n3 w3 w) (cw:Cel w Wb 7 wc) (tw:TyB w Wb 74) (l1:n3<=n6) (l2:n3<=Gb) (l3:n3<=Wb) (n6w:n6<=w.heap.size) (h0:∀ c,X c=[]):WI n3 n6 D Wb Gb w3 wc y X (fun _=>.slice none 0 0) w:=by
  refine ⟨pd,yo,cg,tg,⟨fun r hr=>?_,fun r hr g hg=>?_,fun i j a b g ha hb h1 h2=>?_⟩,low,cw,tw,l1,l2,l3,n6w⟩
  · simp only [rws8,List.mem_cons,List.not_mem_nil,or_false] at hr
    rcases hr with rfl | rfl | rfl | rfl | rfl | rfl | rfl | rfl <;> (simp only [h0]; exact World.ownsRow_nil _ _ _ _)
  · simp only [rws8,List.mem_cons,List.not_mem_nil,or_false] at hr
    rcases hr with rfl | rfl | rfl | rfl | rfl | rfl | rfl | rfl <;> cases hg
  have hr:=List.mem_of_getElem? ha
  simp only [rws8,List.mem_cons,List.not_mem_nil,or_false] at hr
  rcases hr with rfl | rfl | rfl | rfl | rfl | rfl | rfl | rfl <;> cases h1
theorem walk_ok (q:StA) (a:Option Addr) (cap:Nat) (l:List LdB) (a2:Option Addr) (cap2:Nat) (l2:List Bool) (hl:l.length<=40) (hok:NmOk q.c q.n q.pr q.sh) (hl2:l2.length<=maxLen) (w:World) (R1:Lds w a l) (R2:Bls w a2 l2):Calls Tryz.prog 6 #[stVal q,.slice a l.length cap,.slice a2 l2.length cap2] w fun e w'=>e=.returned (.bool true)/\Below w.heap.size w w':=by
  have SH:=Lib.hid (fun w=>cshown_any w)
  have TB:=Lib.hid (fun w hr=>tok_any q a cap l hl hok w hr)
  obtain ⟨N,hN⟩:∃ N,l.length=N:=⟨_,rfl⟩
  rw [hN] at hl TB ⊢
  have t1:decide (40 < (N:Int))=false:=decide_eq_false (by omega)
  have t1n:decide (40 < N)=false:=decide_eq_false (by omega)
  have ND:Hid (∀ w,Calls Tryz.prog 20 #[.int .i64 q.c,.int .i64 q.n] w fun e w'=>∃ D,e=.returned (.tuple #[.pointer (some ⟨D,0,none⟩),.int .i64 0])/\PD w' w.heap.size D (Ch.Dx.new q.n.toNat q.c.toNat)/\Below w.heap.size w w'):=Lib.hid (fun w=>by
    refine (newDemux_any q.c q.n w).mono ?_
    rintro e w' ⟨hb,⟨hn,_⟩ | ⟨_,D,e1,p⟩⟩
    · exact absurd ⟨hok.1,hok.2.1⟩ hn
    exact ⟨D,e1,p,hb⟩)
  obtain ⟨N2,hN2⟩:∃ N,l2.length=N:=⟨_,rfl⟩
  have HN2:=Lib.hid hN2
  rw [hN2]
  have HL2:=Lib.hid (show N2<=maxLen by rw [<-hN2]; exact hl2)
  have HR1:=Lib.hid R1
  have HR2:=Lib.hid R2
  clear hok hl hN hN2 hl2 R1 R2
  go_enter Tryz.func6,Tryz.ntmps6
  go_wp2_with ((with_reducible refine atList ?_); refine wpList_newT rfl (.box 24 (.tmp 0)) rfl (some 3) rfl #[.int .i64 q.c,.int .i64 q.n,.int .i64 (q.pr 0),.int .i64 (q.pr 1),.int .i64 (q.pr 2),.int .i64 (q.pr 3),.int .i64 (q.pr 4),.int .i64 (q.pr 5),.int .i64 (q.pr 6),.int .i64 (q.pr 7),.int .i64 (q.sh 0),.int .i64 (q.sh 1),.int .i64 (q.sh 2),.int .i64 (q.sh 3),.int .i64 (q.sh 4),.int .i64 (q.sh 5),.int .i64 (q.sh 6),.int .i64 (q.sh 7)] 24 (fun X=>.pointer (some ⟨X,0,none⟩)) 18 (stC q) (st_cells' q) (box_st rfl rfl) ?_; intro Zs w1 HZ SZ CZ BZ TZ)
  (with_reducible refine (SH.out _).mono ?_)
  rintro e w2 ⟨rfl,h2⟩
  have B2:=Lib.hid (bt BZ.out h2)
  have CZ2:=Lib.hid (CZ.out.below h2)
  clear h2 HZ SZ CZ BZ TZ
  go_wp2_with ((with_reducible refine atList ?_); refine wpList_getAll rfl 24 (.tmp 3) rfl Zs 18 [.int .i64 q.c,.int .i64 q.n,.int .i64 (q.pr 0),.int .i64 (q.pr 1),.int .i64 (q.pr 2),.int .i64 (q.pr 3),.int .i64 (q.pr 4),.int .i64 (q.pr 5),.int .i64 (q.pr 6),.int .i64 (q.pr 7),.int .i64 (q.sh 0),.int .i64 (q.sh 1),.int .i64 (q.sh 2),.int .i64 (q.sh 3),.int .i64 (q.sh 4),.int .i64 (q.sh 5),.int .i64 (q.sh 6),.int .i64 (q.sh 7)] (stC q) _ CZ2.out rfl (st_all q) rfl Tryz.underlying24 rfl info_st ?_)
  (with_reducible refine (TB.out w2 (HR1.out.below B2.out)).mono ?_)
  rintro e w3 ⟨F,C,P,O,f1,f2,f3,f4,f5,f6,k1,k2,m5,m6,k3,k4,k5,k6,Y,Gs,rfl,o1,o2,o3,o4,lc,lo,cF,cP,x,hs,hz,h3⟩
  have HS:=Lib.hid hs
  have HZ:=Lib.hid hz
  have LC:=Lib.hid lc
  have LO:=Lib.hid lo
  have CF:=Lib.hid cF
  have CP:=Lib.hid cP
  have O1:=Lib.hid o1
  have O2:=Lib.hid o2
  have O3:=Lib.hid o3
  have O4:=Lib.hid o4
  have B3:=Lib.hid (bt B2.out h3)
  have CZ3:=Lib.hid (CZ2.out.below h3)
  have HR3:=Lib.hid (HR2.out.below B3.out)
  clear h3 CZ2 hs hz lc lo cF cP o1 o2 o3 o4 TB HR1 HR2 SH t1 t1n
  obtain ⟨nF,hnF⟩:∃ n,F.length=n:=⟨_,rfl⟩
  obtain ⟨nC,hnC⟩:∃ n,C.length=n:=⟨_,rfl⟩
  obtain ⟨nP,hnP⟩:∃ n,P.length=n:=⟨_,rfl⟩
  obtain ⟨nO,hnO⟩:∃ n,O.length=n:=⟨_,rfl⟩
  rw [hnF] at O1
  rw [hnC] at O2
  rw [hnP] at O3
  rw [hnO] at O4
  rw [hnF,hnC,hnP,hnO]
  have NF:=Lib.hid hnF
  have NC:=Lib.hid (show nC=nF by rw [<-hnC,<-hnF]; exact LC.out)
  have NCL:=Lib.hid hnC
  have NP:=Lib.hid hnP
  have NO:=Lib.hid (show nO=nP by rw [<-hnO,<-hnP]; exact LO.out)
  have NOL:=Lib.hid hnO
  clear hnF hnC hnP hnO LC LO
  go_upto_region 6 with (first
    | ((with_reducible refine atList ?_); refine wpList_newT rfl (.alloc 74) rfl (some 7) rfl #[.slice none 0 0,.slice none 0 0,.slice none 0 0,.slice none 0 0,.slice none 0 0,.slice none 0 0,.bool false] 74 (fun X=>.pointer (some ⟨X,0,none⟩)) 7 seZ seZ_cells (alloc_se rfl) ?_; intro Wb w4 HW SW CW BW TW)
    | ((with_reducible refine atList ?_); refine wpList_setAllT rfl 74 (.tmp 7) (.tmp 26) rfl Wb 7 [.slice f1 nF k1,.slice f2 nC k2,.slice f3 nP k3,.slice f4 nO k4,.slice f5 m5 k5,.slice f6 m6 k6,.bool true] _ (seV f1 f2 f3 f4 f5 f6 nF nC nP nO m5 m6 k1 k2 k3 k4 k5 k6) CW.out rfl (seV_list f1 f2 f3 f4 f5 f6 nF nC nP nO m5 m6 k1 k2 k3 k4 k5 k6) rfl rfl info_se (by simp [Value.oneCell']) ?_; intro w5 C5 U5 S5 V5))
  have B5:=Lib.hid (show Below w3.heap.size w3 w5 from But.under BW.out U5.out (by have:=HW.out; omega))
  have W3:=Lib.hid (show w3.heap.size<=Wb by have:=HW.out; omega)
  have T5:=Lib.hid (V5.out _ TW.out)
  have CZ5:=Lib.hid (CZ3.out.below B5.out)
  have s0:w5.cell? ⟨Wb,0,none⟩=some (.slice f1 nF k1):=C5.out.cell (j:=0) (by omega)
  have s6:w5.cell? ⟨Wb,6,none⟩=some (.bool true):=C5.out.cell (j:=6) (by omega)
  have z0:w5.cell? ⟨Zs,0,none⟩=some (.int .i64 q.c):=CZ5.out.cell (j:=0) (by omega)
  have z1:w5.cell? ⟨Zs,1,none⟩=some (.int .i64 q.n):=CZ5.out.cell (j:=1) (by omega)
  clear CW BW HW SW TW U5 S5 V5 CZ3
  simp only [Act.put,List.setIfInBounds_toArray,List.set_cons_succ,List.set_cons_zero,List.drop_succ_cons,List.drop_zero]
  go_cut [35] from 27 to 34 (fun r wx=>r=.bool false/\wx=w5)
  case first=>
    by_cases e0:nF=0
    · have p1:((nF:Int) == 0)=true:=by rw [beq_iff_eq]; omega
      have p1n:(nF == 0)=true:=by rw [beq_iff_eq]; exact e0
      clear e0
      go_wp2_with fail
      go_meet
      case rel=>exact ⟨rfl,rfl⟩
    have p1:((nF:Int) == 0)=false:=by rw [beq_eq_false_iff_ne]; omega
    have p1n:(nF == 0)=false:=by rw [beq_eq_false_iff_ne]; exact e0
    clear e0
    go_wp2_with fail
    go_meet
    case rel=>exact ⟨rfl,rfl⟩
  case rest=>
    obtain ⟨rfl,hwx⟩:=hcut
    subst hwx
    rename World=>w5
    go_wp2_with fail
    (with_reducible refine (ND.out _).mono ?_)
    rintro e w6 ⟨D,rfl,P6,h6⟩
    have HD:=Lib.hid P6
    have B6:=Lib.hid h6
    have s6':w6.cell? ⟨Wb,6,none⟩=some (.bool true):=(C5.out.below h6).cell (j:=6) (by omega)
    clear P6 h6 s0 s6 z0 z1 ND
    go_upto_region 13 with ((with_reducible refine atList ?_); refine wpList_newT rfl (.alloc 76) rfl (some 12) rfl #[.slice none 0 0,.slice none 0 0,.slice none 0 0,.slice none 0 0,.slice none 0 0,.slice none 0 0,.slice none 0 0,.slice none 0 0] 76 (fun X=>.pointer (some ⟨X,0,none⟩)) 8 (fun _=>.slice none 0 0) n8_cells (alloc_g8 rfl) ?_; intro Gb w7 HG SG CG BG TG)
    obtain ⟨n3,hn3⟩:∃ n,w3.heap.size=n:=⟨_,rfl⟩
    obtain ⟨n6,hn6⟩:∃ n,w5.heap.size=n:=⟨_,rfl⟩
    have L0:Hid (WI n3 n6 D Wb Gb w3 (seV f1 f2 f3 f4 f5 f6 nF nC nP nO m5 m6 k1 k2 k3 k4 k5 k6) (Y 0) (Gs 0) (fun _=>.slice none 0 0) w7):=Lib.hid (by
      have d7:=HD.out.below BG.out
      rw [hn6] at d7
      have sz:=B5.out.size
      have sz6:=B6.out.size
      refine WI.start (by rw [HS.out.y0]; exact d7) (HS.out.ok 0 (Nat.zero_le _)).1 CG.out TG.out ?_ ((C5.out.below B6.out).below BG.out) ((T5.out.below B6.out).below BG.out) (by omega) (by have:=HG.out; omega) (by rw [<-hn3]; exact W3.out) (by rw [<-hn6]; exact Nat.le_trans sz6 BG.out.size) HS.out.g0
      rw [<-hn3]
      exact bt (bt B5.out B6.out) BG.out)
    have SL:=Lib.hid (show ∀ k c,k<=nF->c < 8->(Gs k c).length<=40 from fun k c hk hc=>by
      have h1:=HS.out.le k c (by rw [NF.out]; exact hk) hc
      have h2:(pf P O c).length<=P.length:=by
        unfold pf
        rw [List.length_map]
        refine Nat.le_trans (List.length_filter_le _ _) ?_
        rw [List.length_zip]
        exact Nat.min_le_left _ _
      have:=CP.out
      omega)
    have HR6:=Lib.hid (show Bls w3 a2 l2 from HR3.out)
    have B7:=Lib.hid (show Below w.heap.size w w3 from B3.out)
    clear HD B5 B6 HG SG CG BG TG C5 T5 W3 s6' HR3 B3 B2 CZ5
    go_wp2_with fail
    go_loopw [13] (fun i wr=>∃ k:Nat,k<=nF/\i=.int .i64 k/\∃ gv,WI n3 n6 D Wb Gb w3 (seV f1 f2 f3 f4 f5 f6 nF nC nP nO m5 m6 k1 k2 k3 k4 k5 k6) (Y k) (Gs k) gv wr) (fun i _=>nF - (intOf i).toNat)
    case atStart=>exact ⟨0,Nat.zero_le _,rfl,_,L0.out⟩
    case round=>
      obtain ⟨k,hk,rfl,gv,hB⟩:=hrel
      have HB:=Lib.hid hB
      clear hB L0
      have s0':wr.cell? ⟨Wb,0,none⟩=some (.slice f1 nF k1):=HB.out.cw.cell (j:=0) (by omega)
      by_cases hlt:k < nF
      · obtain ⟨fr,hfr⟩:∃ q,F[k]?=some q:=⟨_,List.getElem?_eq_getElem (by rw [NF.out]; exact hlt)⟩
        obtain ⟨c,hcc⟩:∃ q,C[k]?=some q:=⟨_,List.getElem?_eq_getElem (by rw [NCL.out,NC.out]; exact hlt)⟩
        obtain ⟨c8,fs,wo,g,fe1,fe2,ge⟩:=HS.out.st k fr c hfr hcc
        obtain ⟨Bf,ef1,bf1,tf1⟩:=row_some O1.out (by omega)
        obtain ⟨Bc,ef2,bf2,tf2⟩:=row_some O2.out (by rw [NC.out]; omega)
        subst ef1 ef2
        have r1:wr.cell? ⟨Bf,k,none⟩=some (.string fr):=by
          have h1:=O1.out.cells (g:=Bf) rfl k (.string fr) (by unfold strVs; rw [List.getElem?_map,hfr]; rfl)
          rw [add_off,Nat.zero_add] at h1
          exact (HB.out.low.cell (p:=⟨Bf,k,none⟩) (by rw [<-hn3]; exact tf1.lt)).trans h1
        have R2:=Lib.hid (show ∀ w',Below n3 w3 w'->w'.cell? ⟨Bc,k,none⟩=some (.int .i64 (c:Nat)) from fun w' hb=>by
          have h1:=O2.out.cells (g:=Bc) rfl k (.int .i64 (c:Nat)) (by unfold nVs; rw [List.getElem?_map,hcc]; rfl)
          rw [add_off,Nat.zero_add] at h1
          exact (hb.cell (p:=⟨Bc,k,none⟩) (by rw [<-hn3]; exact tf2.lt)).trans h1)
        have R1:=Lib.hid (show ∀ w',Below n3 w3 w'->w'.cell? ⟨Bf,k,none⟩=some (.string fr) from fun w' hb=>by
          have h1:=O1.out.cells (g:=Bf) rfl k (.string fr) (by unfold strVs; rw [List.getElem?_map,hfr]; rfl)
          rw [add_off,Nat.zero_add] at h1
          exact (hb.cell (p:=⟨Bf,k,none⟩) (by rw [<-hn3]; exact tf1.lt)).trans h1)
        have C8:=Lib.hid c8
        have FE2:=Lib.hid fe2
        have GE:=Lib.hid ge
        have FS:=Lib.hid fs
        have FD:=Lib.hid (HB.out.feed fr (by omega) fe1)
        have q0:(0:Int)<=(k:Int):=by omega
        have q1:(k:Int) < (nF:Int):=by omega
        have q1c:(k:Int) < (nC:Int):=by rw [NC.out]; exact q1
        have q2:(k:Int) < 100000:=by have:=CF.out; have:=NF.out; omega
        have KL:=Lib.hid hlt
        clear hlt hk hfr hcc c8 fs fe1 fe2 ge bf1 bf2 tf1 tf2 HB
        go_wp2_with fail
        (with_reducible refine FD.out.mono ?_)
        rintro e w8 ⟨v,rfl,row,H8,kf8⟩
        have G40:=Lib.hid (show g.length<=40 by have:=SL.out (k + 1) c KL.out C8.out; rw [GE.out,Ch.upd_same,List.length_append] at this; omega)
        obtain ⟨pa,pc,hv⟩:=own_is row
        subst hv
        have ROW:=Lib.hid row
        have HH8:=Lib.hid H8
        have S8:=Lib.hid (Nat.le_trans (Nat.le_refl _) kf8.below.size)
        clear row H8 kf8 FD s0' r1
        go_upto_region 17 with (first
          | ((with_reducible refine atList ?_); refine wpList_newT rfl (.alloc 51) rfl (some 14) rfl #[.int .i64 0,.bool false,.int .i64 0,.int .i64 0,.slice none 0 0,.int .i64 0,.int .u32 0] 51 (fun X=>.pointer (some ⟨X,0,none⟩)) 7 (aC (.slice none 0 0) Ch.av0) (arC_cells (.slice none 0 0) Ch.av0) (alloc_ar rfl) ?_; intro Eb w9 HE SE CE BE TE)
          | ((with_reducible refine atList ?_); refine wpList_setAllT rfl 51 (.tmp 14) (.tmp 80) rfl Eb 7 [.int .i64 (c:Nat),.bool false,.int .i64 0,.int .i64 0,.slice pa g.length pc,.int .i64 0,.int .u32 (wo:Nat)] _ (aC (.slice pa g.length pc) ⟨c,false,0,0,0,wo,g⟩) CE.out rfl (arC_list (.slice pa g.length pc) ⟨c,false,0,0,0,wo,g⟩) rfl rfl info_ar (by simp [Value.oneCell']) ?_; intro w10 C10 U10 S10 V10))
        have n3E:=Lib.hid (show n3<=Eb by have:=HE.out; have:=HH8.out.n3w; omega)
        have H10:=Lib.hid ((HH8.out.below BE.out).arr TE.out U10.out n3E.out)
        have nER:=Lib.hid (show ∀ Br,pa=some ⟨Br,0,none⟩->Br ≠ Eb from fun Br e q=>by
          have:=own_block_lt ROW.out (k:=Br) (by rw [e]; rfl)
          have:=HE.out
          omega)
        have SRC:=Lib.hid (show ∀ ad,pa=some ad->∀ j u,(bsVs g)[j]?=some u->w10.cell? (ad.add j)=some u from fun ad e j u hu=>by
          have row:=ROW.out
          rcases Nat.eq_zero_or_pos g.length with g0 | g0
          · have:(bsVs g).length=0:=by rw [bsl]; exact g0
            rw [List.length_eq_zero_iff.1 this] at hu
            cases hu
          obtain ⟨Br,e2,_,tb⟩:=row_some row g0
          rw [e] at e2
          cases e2
          have h1:=row.cells (g:=Br) (by rw [e]; rfl) j u hu
          rw [add_off,Nat.zero_add] at h1 ⊢
          have hB:w10.heap[Br]?=w8.heap[Br]?:=(U10.out.rest Br (Nat.lt_of_lt_of_le tb.lt BE.out.size) (nER.out Br e)).trans (BE.out.block Br tb.lt)
          exact (cell_same hB).trans h1)
        have NN:=Lib.hid (show pa=none->g=[] from fun e=>by
          rcases Nat.eq_zero_or_pos g.length with g0 | g0
          · exact List.length_eq_zero_iff.1 g0
          obtain ⟨Br,e2,_,_⟩:=row_some ROW.out g0
          rw [e] at e2
          cases e2)
        have T10:=Lib.hid (V10.out _ TE.out)
        have e0:w10.cell? ⟨Eb,0,none⟩=some (.int .i64 (c:Nat)):=C10.out.cell (j:=0) (by omega)
        have e1:w10.cell? ⟨Eb,1,none⟩=some (.bool false):=C10.out.cell (j:=1) (by omega)
        have e2:w10.cell? ⟨Eb,2,none⟩=some (.int .i64 0):=C10.out.cell (j:=2) (by omega)
        have e3:w10.cell? ⟨Eb,3,none⟩=some (.int .i64 0):=C10.out.cell (j:=3) (by omega)
        have e5:w10.cell? ⟨Eb,5,none⟩=some (.int .i64 0):=C10.out.cell (j:=5) (by omega)
        have s1:w10.cell? ⟨Wb,1,none⟩=some (.slice (some ⟨Bc,0,none⟩) nC k2):=H10.out.cw.cell (j:=1) (by omega)
        have r2:=R2.out w10 H10.out.low
        have p1:((c:Int) != (c:Int))=false:=by simp
        have p1n:(c != c)=false:=by simp
        clear HE SE CE BE TE U10 S10 V10 HH8 S8 ROW nER
        go_wp2_with fail
        go_quiet (fail)
        go_upto_region 19 with fail
        rename Nat=>nq
        obtain ⟨w11,hw11⟩:∃ z,w10.drewN nq=z:=⟨_,rfl⟩
        have b11:=Lib.hid (show Below w10.heap.size w10 w11 by rw [<-hw11]; exact below_drewN (Below.refl _ _) _)
        rw [hw11]
        have H11:=Lib.hid (H10.out.below b11.out)
        have C11:=Lib.hid (C10.out.below b11.out)
        have T11:=Lib.hid (T10.out.below b11.out)
        have SRC1:=Lib.hid (show ∀ ad,pa=some ad->∀ j u,(bsVs g)[j]?=some u->w11.cell? (ad.add j)=some u from fun ad e j u hu=>by rw [<-hw11]; exact SRC.out ad e j u hu)
        clear hw11 H10 C10 T10 SRC e0 e1 e2 e3 e5 s1 r2 p1 p1n b11
        obtain ⟨va,vn,vc,hv⟩:∃ a n k,gv c=.slice a n k:=by
          obtain ⟨a,k,e⟩:=own_is (H11.out.rows.at' (rws8_get gv (Gs k) C8.out))
          exact ⟨a,_,k,e⟩
        refine swRegion1W n6 Gb Eb gv (Gs k) c g pa pc w11 (Wa.drew C8.out H11.out.rows SRC1.out) C8.out H11.out.n6w NN.out (by have:=SL.out k c (Nat.le_of_lt KL.out) C8.out; omega) (by have:=G40.out; omega) ⟨_,_,_,hv⟩
          (fun w' hW=>(cell_same (hW.oth Eb _ T11.out (by decide))).trans (C11.out.cell (j:=0) (by omega))) (fun w' hW=>(cell_same (hW.oth Eb _ T11.out (by decide))).trans (C11.out.cell (j:=4) (by omega))) (fun w' hW=>(cell_same (hW.oth Gb _ H11.out.tg (by decide))).trans (H11.out.cg.cell C8.out)) (by kernel_rfl) rfl rfl rfl rfl rfl rfl rfl rfl rfl rfl rfl rfl rfl ?_
        intro v1 w12 hW12
        obtain ⟨u1,un,uc,hu⟩:∃ a n k,v1=.slice a n k:=by
          have e:((rws8 gv (Gs k)).set c ⟨v1,9,bsVs (Gs k c) ++ bsVs g⟩)[c]?=some ⟨v1,9,bsVs (Gs k c) ++ bsVs g⟩:=by rw [List.getElem?_set_self (by show c < 8; exact C8.out)]
          obtain ⟨a,k,e⟩:=own_is (hW12.rows.at' e)
          exact ⟨a,_,k,e⟩
        subst hu
        have H13:=Lib.hid (H11.out.app C8.out hW12)
        rw [<-GE.out] at H13
        have x1:w12.cell? ⟨Gb,c,none⟩=some (.slice va vn vc):=by rw [<-hv]; exact (cell_same (hW12.oth Gb _ H11.out.tg (by decide))).trans (H11.out.cg.cell C8.out)
        have x2:w12.frozen? ⟨Gb,c,none⟩=false:=(H11.out.cg.of_block (hW12.oth Gb _ H11.out.tg (by decide))).frozen C8.out
        have E12:=Lib.hid (hW12.oth Eb _ T11.out (by decide))
        have nEG:=Lib.hid (show Eb ≠ Gb from ty_ne T11.out H11.out.tg (by decide))
        simp only [Act.put,List.setIfInBounds_toArray,List.set_cons_succ,List.set_cons_zero,List.drop_succ_cons,List.drop_zero]
        go_upto_region 20 with fail
        obtain ⟨w13,hw13⟩:∃ z,w12.setCell ⟨Gb,c,none⟩ (.slice u1 un uc)=z:=⟨_,rfl⟩
        have C13:=Lib.hid (show Cel w13 Eb 7 (aC (.slice pa g.length pc) ⟨c,false,0,0,0,wo,g⟩) by rw [<-hw13]; exact (C11.out.of_block E12.out).setOther nEG.out _)
        have T13:=Lib.hid (show TyB w13 Eb 51 by rw [<-hw13]; exact (T11.out.of_block E12.out).of_block (Below.heap_setCell _ _ _ _ nEG.out))
        rw [hw13] at H13 ⊢
        clear hw13 x1 x2 E12 nEG hW12 H11 C11 T11 SRC1 NN hv GE
        rcases Option.eq_none_or_eq_some (l2[k]?) with bo | ⟨bv,bo⟩
        · have d0:N2<=k:=by rw [<-HN2.out]; exact List.getElem?_eq_none_iff.1 bo
          have d1:decide ((k:Int) < (N2:Int))=false:=decide_eq_false (by omega)
          have d1n:decide (k < N2)=false:=decide_eq_false (by omega)
          clear bo
          go_wp2_with fail
          go_roundw
          case rel=>exact ⟨k + 1,by have:=KL.out; omega,by go_num,_,H13.out⟩
          case measure=>simp [intOf]; have:=KL.out; omega
        have d0:k < N2:=by rw [<-HN2.out]; exact (List.getElem?_eq_some_iff.1 bo).1
        have d1:decide ((k:Int) < (N2:Int))=true:=decide_eq_true (by omega)
        have d1n:decide (k < N2)=true:=decide_eq_true d0
        have d2:(k:Int) < (N2:Int):=by omega
        obtain ⟨Bt,of2,ea2,bt2,hc2⟩:∃ Bt off,a2=some ⟨Bt,off,none⟩/\Bt < w3.heap.size/\w3.cell? ⟨Bt,off + k,none⟩=some (.bool bv):=by
          rcases HR6.out with e | ⟨B,off,e,hb,hc⟩
          · rw [e] at bo; cases bo
          exact ⟨B,off,e,hb,hc k bv bo⟩
        have c2:w13.cell? ⟨Bt,of2 + k,none⟩=some (.bool bv):=(H13.out.low.cell (p:=⟨Bt,of2 + k,none⟩) (by rw [<-hn3]; exact bt2)).trans hc2
        subst ea2
        clear bo hc2 bt2
        cases bv with
        | false=>
          go_wp2_with fail
          go_roundw
          case rel=>exact ⟨k + 1,by have:=KL.out; omega,by go_num,_,H13.out⟩
          case measure=>simp [intOf]; have:=KL.out; omega
        | true=>
          have s0:w13.cell? ⟨Wb,0,none⟩=some (.slice (some ⟨Bf,0,none⟩) nF k1):=H13.out.cw.cell (j:=0) (by omega)
          have r1:=R1.out w13 H13.out.low
          have FD2:=Lib.hid (H13.out.feed fr (by have:=FS.out; omega) FE2.out)
          go_wp2_with fail
          (with_reducible refine FD2.out.mono ?_)
          rintro e w14 ⟨v2,rfl,row2,H14,kf14⟩
          have HH14:=Lib.hid H14
          have C14:=Lib.hid (C13.out.of_block (H13.out.pd.kfO T13.out (by decide) kf14))
          have T14:=Lib.hid (T13.out.of_block (H13.out.pd.kfO T13.out (by decide) kf14))
          obtain ⟨pa2,pc2,hv2⟩:=own_is row2
          subst hv2
          clear row2 H14 kf14 FD2 s0 r1 c2
          go_upto_region 22 with ((with_reducible refine atList ?_); refine wpList_setAllT rfl 51 (.tmp 14) (.tmp 137) rfl Eb 7 [.int .i64 (c:Nat),.bool true,.int .i64 0,.int .i64 0,.slice pa2 0 pc2,.int .i64 0,.int .u32 (wo:Nat)] _ (aC (.slice pa2 0 pc2) ⟨c,true,0,0,0,wo,[]⟩) C14.out rfl (arC_list (.slice pa2 0 pc2) ⟨c,true,0,0,0,wo,[]⟩) rfl rfl info_ar (by simp [Value.oneCell']) ?_; intro w15 C15 U15 S15 V15)
          have H15:=Lib.hid (HH14.out.arr T14.out U15.out n3E.out)
          have y1:w15.cell? ⟨Eb,1,none⟩=some (.bool true):=C15.out.cell (j:=1) (by omega)
          have y4:w15.cell? ⟨Eb,4,none⟩=some (.slice pa2 0 pc2):=C15.out.cell (j:=4) (by omega)
          clear C15 U15 S15 V15 HH14 C14 T14
          go_wp2_with fail
          go_roundw
          case rel=>exact ⟨k + 1,by have:=KL.out; omega,by go_num,_,H15.out⟩
          case measure=>simp [intOf]; have:=KL.out; omega
      obtain rfl:k=nF:=by omega
      have d1:decide ((k:Int) < (k:Int))=false:=decide_eq_false (by omega)
      have d1n:decide (k < k)=false:=decide_eq_false (by omega)
      have GF:=Lib.hid (show ∀ c,c < 8->Gs k c=pf P O c from fun c hc=>by
        have:=HS.out.fin hc (HZ.out c hc)
        rwa [NF.out] at this)
      have B8:=Lib.hid (show n3<=wr.heap.size from HB.out.n3w)
      clear hlt hk HS HZ SL O1 O2 HR6 NF NC NCL CF
      go_wp2_with fail
      go_loopw [16] (fun i wr=>∃ c:Nat,c<=8/\i=.int .i64 c/\WI n3 n6 D Wb Gb w3 (seV f1 f2 f3 f4 f5 f6 k nC nP nO m5 m6 k1 k2 k3 k4 k5 k6) (Y k) (Gs k) gv wr) (fun i _=>8 - (intOf i).toNat)
      case atStart=>exact ⟨0,by omega,rfl,HB.out⟩
      case round=>
        obtain ⟨c,hc,rfl,hB⟩:=hrel
        rename World=>wq
        have HQ:=Lib.hid hB
        clear hB HB s0' d1 d1n
        by_cases hlt:c < 8
        · have c0:(0:Int)<=(c:Int):=by omega
          have c1:(c:Int) < 8:=by omega
          have C8:=Lib.hid hlt
          obtain ⟨n7,hn7⟩:∃ n,wq.heap.size=n:=⟨_,rfl⟩
          have N7:=Lib.hid (show n3<=n7 by rw [<-hn7]; exact HQ.out.n3w)
          have GBQ:=Lib.hid (show ∀ r ∈ rws8 gv (Gs k),∀ x,r.v.ownBlock=some x->x < n7 from fun r hr x hx=>by rw [<-hn7]; exact HQ.out.rows.lt hr hx)
          have L0:Hid (WI n3 n6 D Wb Gb w3 (seV f1 f2 f3 f4 f5 f6 k nC nP nO m5 m6 k1 k2 k3 k4 k5 k6) (Y k) (Gs k) gv wq/\n7<=wq.heap.size/\wq.ownsRow n7 9 1 (.slice none 0 0) (sel P O c 0).length (strVs (sel P O c 0))):=Lib.hid ⟨HQ.out,by omega,World.ownsRow_nil _ _ _ _⟩
          clear hlt hc HQ hn7
          go_wp2_with fail
          go_loopw [17,18] (fun v i wp=>∃ p:Nat,p<=nP/\i=.int .i64 p/\WI n3 n6 D Wb Gb w3 (seV f1 f2 f3 f4 f5 f6 k nC nP nO m5 m6 k1 k2 k3 k4 k5 k6) (Y k) (Gs k) gv wp/\n7<=wp.heap.size/\wp.ownsRow n7 9 1 v (sel P O c p).length (strVs (sel P O c p))) (fun _ i _=>nP - (intOf i).toNat)
          case atStart=>exact ⟨0,Nat.zero_le _,rfl,L0.out⟩
          case round=>
            obtain ⟨p,hp,rfl,hB,h7,hrow⟩:=hrel
            rename World=>wp
            rename Value=>wv
            have HP:=Lib.hid hB
            have H7:=Lib.hid h7
            have HW:=Lib.hid hrow
            clear hB h7 hrow L0
            have s2:wp.cell? ⟨Wb,2,none⟩=some (.slice f3 nP k3):=HP.out.cw.cell (j:=2) (by omega)
            have s3:wp.cell? ⟨Wb,3,none⟩=some (.slice f4 nO k4):=HP.out.cw.cell (j:=3) (by omega)
            by_cases hlt:p < nP
            · obtain ⟨pk,hpk⟩:∃ q,P[p]?=some q:=⟨_,List.getElem?_eq_getElem (by rw [NP.out]; exact hlt)⟩
              obtain ⟨oc,hoc⟩:∃ q,O[p]?=some q:=⟨_,List.getElem?_eq_getElem (by rw [NOL.out,NO.out]; exact hlt)⟩
              obtain ⟨Bp,ep,_,tp⟩:=row_some O3.out (by omega)
              obtain ⟨Bo,eo,_,to4⟩:=row_some O4.out (by rw [NO.out]; omega)
              subst ep eo
              have r3:wp.cell? ⟨Bp,p,none⟩=some (.string pk):=by
                have h1:=O3.out.cells (g:=Bp) rfl p (.string pk) (by unfold strVs; rw [List.getElem?_map,hpk]; rfl)
                rw [add_off,Nat.zero_add] at h1
                exact (HP.out.low.cell (p:=⟨Bp,p,none⟩) (by rw [<-hn3]; exact tp.lt)).trans h1
              have r4:wp.cell? ⟨Bo,p,none⟩=some (.int .i64 (oc:Nat)):=by
                have h1:=O4.out.cells (g:=Bo) rfl p (.int .i64 (oc:Nat)) (by unfold nVs; rw [List.getElem?_map,hoc]; rfl)
                rw [add_off,Nat.zero_add] at h1
                exact (HP.out.low.cell (p:=⟨Bo,p,none⟩) (by rw [<-hn3]; exact to4.lt)).trans h1
              have q0:(0:Int)<=(p:Int):=by omega
              have q1:(p:Int) < (nP:Int):=by omega
              have q1o:(p:Int) < (nO:Int):=by rw [NO.out]; exact q1
              have q2:(p:Int) < 1000:=by have:=CP.out; have:=NP.out; omega
              have PL:=Lib.hid hlt
              have SLN:=Lib.hid (sel_len P O c p)
              clear hlt hp tp to4
              by_cases e:oc=c
              · subst e
                have p1:((oc:Int) == (oc:Int))=true:=by simp
                have p1n:(oc == oc)=true:=by simp
                have SY:=Lib.hid (sel_yes hpk hoc)
                obtain ⟨j0,hj0,hy0,hy1,hy2⟩:=info_parts info_str
                clear hpk hoc
                go_wp2_with (first
                  | ((with_reducible refine atList ?_); refine wpList_newOwn rfl (.buildSlice 43 1 #[(0,.tmp 175)]) rfl [.string pk] 9 1 n7 rfl (by unfold maxLen; omega) H7.out (build_s1 rfl rfl) ?_; intro A5 w5 HA5 OA5 LA5)
                  | (at_builtin; (with_reducible refine atList ?_); refine wpList_append_own2 rfl (.tmp 170) (.tmp 176) 43 rfl n7 9 j0 (.string ⟨#[]⟩) 1 16 Tryz.underlying43 hj0 hy0 hy1 hy2 rfl (by decide) _ _ _ rfl (own_below HW.out LA5.out) ⟨A5,0,none⟩ 1 1 [.string pk] rfl rfl (own_cells OA5.out ⟨A5,0,none⟩ rfl) (by simp [Value.oneCell']) (by unfold maxLen; have:=SLN.out; have:=CP.out; omega) (by have:=SLN.out; have:=CP.out; omega) (Nat.le_trans H7.out LA5.out.size) ?_; intro v6 w6 O6 g6 k6; have H6:=Lib.hid (WI.grown (HP.out.below LA5.out) g6 (fun x ex=>(own_ty (own_below HW.out LA5.out) ex)) N7.out (Nat.le_trans H7.out LA5.out.size) k6 (fun r hr x ex e2=>by have:=GBQ.out r hr x e2; have:=(own_ty (own_below HW.out LA5.out) ex).1; omega)); have HO6:=Lib.hid O6; have G6:=Lib.hid (Nat.le_trans (Nat.le_trans H7.out LA5.out.size) g6.size); clear O6 g6 k6))
                go_roundw
                case rel=>exact ⟨p + 1,by have:=PL.out; omega,by go_num,H6.out,G6.out,by
                  rw [SY.out,List.length_append,<-strVs_add]
                  exact HO6.out⟩
                case measure=>simp [intOf]; have:=PL.out; omega
              have p1:((oc:Int) == (c:Int))=false:=by rw [beq_eq_false_iff_ne]; omega
              have p1n:(oc == c)=false:=by rw [beq_eq_false_iff_ne]; exact e
              have SN:=Lib.hid (sel_no hpk hoc e)
              clear hpk hoc e
              go_wp2_with fail
              go_roundw
              case rel=>exact ⟨p + 1,by have:=PL.out; omega,by go_num,HP.out,H7.out,by rw [SN.out]; exact HW.out⟩
              case measure=>simp [intOf]; have:=PL.out; omega
            obtain rfl:p=nP:=by omega
            have d1:decide ((p:Int) < (p:Int))=false:=decide_eq_false (by omega)
            have d1n:decide (p < p)=false:=decide_eq_false (by omega)
            obtain ⟨z1,z2⟩:=sel_all (O:=O) (c:=c) NP.out
            have gr:=HP.out.rows.at' (rws8_get gv (Gs k) C8.out)
            rw [show (⟨gv c,9,bsVs (Gs k c)⟩:Rw).xs=strVs (sel P O c p) by rw [z1,<-GF.out c C8.out]] at gr
            obtain ⟨ga,gc,hg⟩:=own_is gr
            obtain ⟨xa,xc,hx⟩:=own_is HW.out
            have hg':gv c=.slice ga (strVs (sel P O c p)).length gc:=hg
            rw [strVs_len] at hg' gr
            subst hx
            have gr':wp.ownsRow n6 9 1 (.slice ga (sel P O c p).length gc) (sel P O c p).length (strVs (sel P O c p)):=by rw [<-hg']; exact gr
            have SS:=Lib.hid (fun (w':World) (hb:Below wp.heap.size wp w')=>sameStrings_any ga xa (sel P O c p).length gc xc n6 n7 (sel P O c p) rfl (by have:=sel_len P O c p; have:=CP.out; omega) w' (own_below gr' hb) (own_below HW.out hb))
            have x1:wp.cell? ⟨Gb,c,none⟩=some (.slice ga (sel P O c p).length gc):=by rw [<-hg']; exact HP.out.cg.cell C8.out
            obtain ⟨L,hL⟩:∃ L,(sel P O c p).length=L:=⟨_,rfl⟩
            rw [hL] at SS x1 ⊢
            clear hlt hp z1 z2 gr gr' hg hg' hL s3
            go_wp2_with fail
            (with_reducible refine (SS.out _ (Below.refl _ _)).mono ?_)
            rintro e w9 ⟨rfl,h9⟩
            have H9:=Lib.hid (HP.out.below h9)
            clear h9 SS x1 s2
            go_wp2_with fail
            go_roundw
            case rel=>exact ⟨c + 1,by have:=C8.out; omega,by go_num,H9.out⟩
            case measure=>simp [intOf]; have:=C8.out; omega
        obtain rfl:c=8:=by omega
        have B9:=Lib.hid (show Below w.heap.size w wq from B7.out.trans (HQ.out.low.mono (by rw [<-hn3]; exact B7.out.size)))
        go_wp2_with fail
        go_ret
        exact ⟨rfl,B9.out⟩
theorem walk (q:StA) (hq:StWf q) (a:Option Addr) (cap:Nat) (l:List LdB) (h1:l.length<=cap) (m1:cap<=maxLen) (a2:Option Addr) (cap2:Nat) (l2:List Bool) (h2:l2.length<=cap2) (m2:cap2<=maxLen) (w:World) (R1:Lds w a l) (R2:Bls w a2 l2):Calls Tryz.prog 6 #[stVal q,.slice a l.length cap,.slice a2 l2.length cap2] w fun e w'=>e=.returned (.bool true)/\Below w.heap.size w w':=by
  by_cases hl:40 < l.length
  · exact walk_long q a cap l a2 cap2 l2 hl w
  by_cases hok:NmOk q.c q.n q.pr q.sh
  · exact walk_ok q a cap l a2 cap2 l2 (by omega) hok (Nat.le_trans h2 m2) w R1 R2
  exact walk_bad q a cap l a2 cap2 l2 (by omega) hok w

theorem lifted (os:Os) (started:os.Started) (H:Type) (enc:TypeId × Value->H):
    ReturnsInHanded {} Tryz.checked os 6 .any (Rows.channelsWholeSpec.pre6 enc Tryz.prog Tryz.f6 Rows.channelsWholeRow.domain false) (Rows.channelsWholeSpec.post enc Tryz.prog Tryz.f6 false true false false):=by
  refine returnsInHanded_of_change (C:=Tryz.checked) own started (by kernel_rfl) Tryz.func6
    (ChangeSpec.witness6 (enc:=enc) (C:=Tryz.checked) false ⟨#[],#[.agg #[.int .i64 0,.int .i64 0,.int .i64 0,.int .i64 0,.int .i64 0,.int .i64 0,.int .i64 0,.int .i64 0,.int .i64 0,.int .i64 0,.int .i64 0,.int .i64 0,.int .i64 0,.int .i64 0,.int .i64 0,.int .i64 0,.int .i64 0,.int .i64 0],.slice none 0 0,.slice none 0 0],[]⟩ 8 (by kernel_rfl) (by kernel_rfl) (by kernel_rfl) (by kernel_rfl)) ?_
  intro W base args ds gs before hval0 hW _ _
  have hval:∀ (j:Nat) t v,Tryz.f6.params[j]?=some t->args[j]?=some v->Value.okWide Tryz.prog W .any base t v:=hval0
  have hW':=hW
  obtain ⟨p,q,hA0,hV,rfl,hfz,hnd⟩:=hW
  have hA:DataW.TrodAll enc Tryz.prog W 0 (fun _=>true) true Tryz.f6.params.toList args.toList ds p:=hA0
  rw [Tryz.params6] at hA hval
  obtain ⟨v0,vs0,d0,ds0,p0,q0,hargs,rfl,rfl,h0,r0⟩:=trodAll_cons hA
  obtain ⟨v1,vs1,d1,ds1,p1,q1,rfl,rfl,rfl,h1,r1⟩:=trodAll_cons r0
  obtain ⟨v2,vs2,d2,ds2,p2,q2,rfl,rfl,rfl,h2,r2⟩:=trodAll_cons r1
  obtain ⟨rfl,rfl,rfl⟩:=trodAll_nil r2
  obtain rfl:args=#[v0,v1,v2]:=by cases args; simp_all
  obtain ⟨rfl,rfl⟩:=trodVars_none hV
  obtain ⟨a0,rfl,w0,shut0⟩:=st_arg (hval 0 24 v0 rfl rfl) h0
  obtain ⟨x1,y1,z1,e1⟩:=okWide_slice Tryz.underlying70 (hval 1 70 v1 rfl rfl)
  have S1:=lds_arg (by rw [e1]; rfl) h1
  clear e1
  obtain ⟨ao1,zs1,cap1,rfl,l1,m1,R1,shut1⟩:=S1
  obtain ⟨x2,y2,z2,e2⟩:=okWide_slice Tryz.underlying71 (hval 2 71 v2 rfl rfl)
  have S2:=bools_arg (by rw [e2]; rfl) h2
  clear e2
  obtain ⟨ao2,zs2,cap2,rfl,l2,m2,R2,shut2⟩:=S2
  clear hA0 hval0
  simp only [List.append_nil] at hW'
  refine (walk a0 w0 ao1 cap1 zs1 l1 m1 ao2 cap2 zs2 l2 m2 W R1 R2).mono fun e W' ⟨he,hg⟩=>?_
  subst he
  exact ⟨_,rfl,post_of_below (pa:=(p0 ++ (p1 ++ (p2 ++ [])))) (pv:=[]) hW' (fun _ _ _=>trodAll_cons_mk (shut_bool Tryz.underlying4 _) trodAll_mk0) (fun sp hsp=>(trodAll_cons_mk (shut0 W' hg sp (fun q hq=>hsp q (by simp [hq]))) (trodAll_cons_mk (shut1 W' hg sp (fun q hq=>hsp q (by simp [hq]))) (trodAll_cons_mk (shut2 W' hg sp (fun q hq=>hsp q (by simp [hq]))) trodAll_mk0)))) (fun _ _=>rfl) (by simp)
    hg (ok_one (by kernel_rfl) rfl (okWide_bool_mk Tryz.underlying4 _))⟩

theorem proved:Rows.ChannelsWholeSaid:=
  OpenClaim.holds_of_wide 6 Tryz.f6 rfl rfl rfl rfl rfl rfl rfl ⟨rfl,rfl,rfl,rfl,rfl⟩ rfl rfl rfl rfl rfl (by kernel_rfl) Tryz.func6 (by kernel_rfl)
    (of_decide_eq_true (by kernel_rfl)) (by unfold Func.isWrapper; first | (rw [if_pos (by decide +kernel)]; kernel_rfl) | (rw [if_neg (by decide +kernel)]; exact ⟨rfl,rfl⟩))
    (fun os started H enc _=>lifted os started H enc)
#print axioms proved
end channelsWhole
end Go.Proofs.YtchfkncbemjepaaGreat
