/- ChMuxL -/
import Derived.ProofKit
import Derived.Test.YtchfkncbemjepaaGreatChMxR
set_option linter.unusedVariables false
set_option maxRecDepth 100000
set_option maxHeartbeats 16000000
/- ChannelsMux: for every sequence of calls of a mux of layer 11, each returns what the document says, and so does Waiting, for every input. -/
namespace Go.Proofs.YtchfkncbemjepaaGreat
open Go.ChangeShapes Go.WideShapes Go.ChangeAt Go.RowKit

namespace channelsMux
theorem MM.keep {B n5 n6 M D:Nat} {w0 wr w':World} {X Y:Nat->Nat} {x y:Ch.Mx} (h:MM B w0 wr n5 n6 M D X Y x y) (hb:Below wr.heap.size wr w'):MM B w0 w' n5 n6 M D X Y x y:=h.below hb
def stC (q:StA) (j:Nat):Value:=if j < 1 then .int .i64 q.c else if j < 2 then .int .i64 q.n else if j < 10 then .int .i64 (q.pr (j - 2)) else .int .i64 (q.sh (j - 10))
theorem st_cells' (q:StA):∀ j,j < 18->(#[.int .i64 q.c,.int .i64 q.n,.int .i64 (q.pr 0),.int .i64 (q.pr 1),.int .i64 (q.pr 2),.int .i64 (q.pr 3),.int .i64 (q.pr 4),.int .i64 (q.pr 5),.int .i64 (q.pr 6),.int .i64 (q.pr 7),.int .i64 (q.sh 0),.int .i64 (q.sh 1),.int .i64 (q.sh 2),.int .i64 (q.sh 3),.int .i64 (q.sh 4),.int .i64 (q.sh 5),.int .i64 (q.sh 6),.int .i64 (q.sh 7)]:Array Value)[j]?=some (stC q j):=fun j hj=>by
  match j,hj with
  | 0,_=>rfl
  | 1,_=>rfl
  | 2,_=>rfl
  | 3,_=>rfl
  | 4,_=>rfl
  | 5,_=>rfl
  | 6,_=>rfl
  | 7,_=>rfl
  | 8,_=>rfl
  | 9,_=>rfl
  | 10,_=>rfl
  | 11,_=>rfl
  | 12,_=>rfl
  | 13,_=>rfl
  | 14,_=>rfl
  | 15,_=>rfl
  | 16,_=>rfl
  | 17,_=>rfl
  | j + 18,h=>exact absurd h (by omega)
theorem box_st {ev:Operand->Value} {o:Oper} {w:World} {x:Operand} {q:StA} (h:o.op=.box 24 x) (hx:ev x=.agg #[.int .i64 q.c,.int .i64 q.n,.int .i64 (q.pr 0),.int .i64 (q.pr 1),.int .i64 (q.pr 2),.int .i64 (q.pr 3),.int .i64 (q.pr 4),.int .i64 (q.pr 5),.int .i64 (q.pr 6),.int .i64 (q.pr 7),.int .i64 (q.sh 0),.int .i64 (q.sh 1),.int .i64 (q.sh 2),.int .i64 (q.sh 3),.int .i64 (q.sh 4),.int .i64 (q.sh 5),.int .i64 (q.sh 6),.int .i64 (q.sh 7)]):(execOp ev o).run Tryz.prog w=.ok (.value (.pointer (some ⟨w.heap.size,0,none⟩))) (w.alloc (.cells #[.int .i64 q.c,.int .i64 q.n,.int .i64 (q.pr 0),.int .i64 (q.pr 1),.int .i64 (q.pr 2),.int .i64 (q.pr 3),.int .i64 (q.pr 4),.int .i64 (q.pr 5),.int .i64 (q.pr 6),.int .i64 (q.pr 7),.int .i64 (q.sh 0),.int .i64 (q.sh 1),.int .i64 (q.sh 2),.int .i64 (q.sh 3),.int .i64 (q.sh 4),.int .i64 (q.sh 5),.int .i64 (q.sh 6),.int .i64 (q.sh 7)] 24)):=by
  simp only [execOp,h,hx]; go_simp
theorem st_range {w:World} {Z:Nat} {q:StA} (h:Cel w Z 18 (stC q)):w.rangeAt Z 2 (list8 q.pr)/\w.rangeAt Z 10 (list8 q.sh):=by
  constructor
  · refine h.range 2 (list8 q.pr) (fun j v hv=>?_)
    have hj:j < 8:=(List.getElem?_eq_some_iff.1 hv).1
    rw [list8_at q.pr j hj] at hv
    refine ⟨by omega,?_⟩
    unfold stC
    rw [if_neg (by omega),if_neg (by omega),if_pos (by omega),Nat.add_sub_cancel_left]
    exact Option.some.inj hv
  refine h.range 10 (list8 q.sh) (fun j v hv=>?_)
  have hj:j < 8:=(List.getElem?_eq_some_iff.1 hv).1
  rw [list8_at q.sh j hj] at hv
  refine ⟨by omega,?_⟩
  unfold stC
  rw [if_neg (by omega),if_neg (by omega),if_neg (by omega),Nat.add_sub_cancel_left]
  exact Option.some.inj hv
theorem ob_new:∀ j,j < 4->(#[.int .i64 0,.int .i64 0,.string ⟨#[]⟩,.int .u32 0]:Array Value)[j]?=some (obCel ⟨0,0,⟨#[]⟩,0⟩ j):=fun j hj=>by
  match j,hj with
  | 0,_=>rfl
  | 1,_=>rfl
  | 2,_=>rfl
  | 3,_=>rfl
theorem ob_list (q:OpB):∀ j,j < 4->([.int .i64 q.k,.int .i64 q.c,.string q.p,.int .u32 (q.wd:Nat)]:List Value)[j]?=some (obCel q j):=fun j hj=>by
  match j,hj with
  | 0,_=>rfl
  | 1,_=>rfl
  | 2,_=>rfl
  | 3,_=>rfl
theorem alloc_ob {ev:Operand->Value} {o:Oper} {w:World} (h:o.op=.alloc 36):(execOp ev o).run Tryz.prog w=.ok (.value (.pointer (some ⟨w.heap.size,0,none⟩))) (w.alloc (.cells #[.int .i64 0,.int .i64 0,.string ⟨#[]⟩,.int .u32 0] 36)):=by
  simp only [execOp,h]; go_simp
theorem info_ob:(Tryz.prog.info? 36).map (·.size)=some 4:=by kernel_rfl
structure MxW (B:Nat) (w0:World) (n5 n6 M D:Nat) (X Y:Nat->Nat) (V:Nat) (x:Ch.Mx) (q:OpB) (a b:Bool) (w':World):Prop where
  m:MM B w0 w' n5 n6 M D X Y (cond a (adS x q.c q.p) x) (cond b (adS x q.c q.p) x)
  ce:Cel w' V 4 (obCel q)
  ty:TyB w' V 36
section
variable {w0 w':World} {B n5 n6 M D V:Nat} {X Y:Nat->Nat} {x:Ch.Mx} {q:OpB}
theorem MxW.start (m:MM B w0 w' n5 n6 M D X Y x x) (c:Cel w' V 4 (obCel q)) (t:TyB w' V 36):MxW B w0 n5 n6 M D X Y V x q false false w'.drew:=
  have hb:Below w'.heap.size w' w'.drew:=(Below.refl _ _).drew
  ⟨m.below hb,c.below hb,t.below hb⟩
theorem MxW.stepX {b:Bool} (h:MxW B w0 n5 n6 M D X Y V x q false b w') (hp:q.p.size<=2000):
    Calls Tryz.prog 12 #[.pointer (some ⟨M,0,none⟩),.int .i64 q.c,.string q.p] w' fun e w2=>e=.returned (.int .i64 (adV x q.c q.p))/\MxW B w0 n5 n6 M D X Y V x q true b w2:=by
  have m:MM B w0 w' n5 n6 M D X Y x (cond b (adS x q.c q.p) x):=h.m
  refine (m.xadd q.c q.p hp).mono ?_
  rintro e w2 ⟨rfl,m2,k⟩
  have kb:=k.2 V _ h.ty (by decide) (by decide)
  exact ⟨rfl,m2,h.ce.of_block kb,h.ty.of_block kb⟩
theorem MxW.stepY {a:Bool} (h:MxW B w0 n5 n6 M D X Y V x q a false w') (hp:q.p.size<=2000):
    Calls Tryz.prog 13 #[.pointer (some ⟨D,0,none⟩),.int .i64 q.c,.string q.p] w' fun e w2=>e=.returned (.int .i64 (adV x q.c q.p))/\MxW B w0 n5 n6 M D X Y V x q a true w2:=by
  have m:MM B w0 w' n5 n6 M D X Y (cond a (adS x q.c q.p) x) x:=h.m
  refine (m.yadd q.c q.p hp).mono ?_
  rintro e w2 ⟨rfl,m2,k⟩
  have kb:=k.2 V _ h.ty (by decide) (by decide)
  exact ⟨rfl,m2,h.ce.of_block kb,h.ty.of_block kb⟩
end
theorem walk_long (q:StA) (a:Option Addr) (cap:Nat) (l:List OpB) (hl:200 < l.length) (w:World):Calls Tryz.prog 3 #[stVal q,.slice a l.length cap] w fun e w'=>e=.returned (.bool true)/\Below w.heap.size w w':=by
  have SH:=Lib.hid (fun w=>cshown_any w)
  have t1:decide (200 < (l.length:Int))=true:=decide_eq_true (by omega)
  have t1n:decide (200 < l.length)=true:=decide_eq_true hl
  go_enter Tryz.func3,Tryz.ntmps3
  go_wp2_with ((with_reducible refine atList ?_); refine wpList_newT rfl (.box 24 (.tmp 0)) rfl (some 2) rfl #[.int .i64 q.c,.int .i64 q.n,.int .i64 (q.pr 0),.int .i64 (q.pr 1),.int .i64 (q.pr 2),.int .i64 (q.pr 3),.int .i64 (q.pr 4),.int .i64 (q.pr 5),.int .i64 (q.pr 6),.int .i64 (q.pr 7),.int .i64 (q.sh 0),.int .i64 (q.sh 1),.int .i64 (q.sh 2),.int .i64 (q.sh 3),.int .i64 (q.sh 4),.int .i64 (q.sh 5),.int .i64 (q.sh 6),.int .i64 (q.sh 7)] 24 (fun X=>.pointer (some ⟨X,0,none⟩)) 18 (stC q) (st_cells' q) (box_st rfl rfl) ?_; intro Z w1 HZ SZ CZ BZ TZ)
  (with_reducible refine (SH.out _).mono ?_)
  rintro e w2 ⟨rfl,h2⟩
  have B2:=Lib.hid (bt BZ.out h2)
  clear h2
  go_wp2_with fail
  go_ret
  exact ⟨rfl,B2.out⟩
theorem walk_bad (q:StA) (a:Option Addr) (cap:Nat) (l:List OpB) (hl:l.length<=200) (hbad:¬ NmOk q.c q.n q.pr q.sh) (w:World):Calls Tryz.prog 3 #[stVal q,.slice a l.length cap] w fun e w'=>e=.returned (.bool true)/\Below w.heap.size w w':=by
  have SH:=Lib.hid (fun w=>cshown_any w)
  obtain ⟨N,hN⟩:∃ N,l.length=N:=⟨_,rfl⟩
  rw [hN] at hl ⊢
  have t1:decide (200 < (N:Int))=false:=decide_eq_false (by omega)
  have t1n:decide (200 < N)=false:=decide_eq_false (by omega)
  have NW:Hid (∀ w,Calls Tryz.prog 9 #[.int .i64 q.c,.int .i64 q.n,.agg (list8 q.pr).toArray,.agg (list8 q.sh).toArray] w fun e w'=>e=.returned (.tuple #[.pointer none,.int .i64 2])/\Below w.heap.size w w'):=Lib.hid (fun w=>by
    refine (newMux_any q.c q.n q.pr q.sh w).mono ?_
    rintro e w' ⟨hb,⟨_,e1⟩ | ⟨hn,_⟩⟩
    · exact ⟨e1,hb⟩
    exact absurd hn hbad)
  have NY:Hid (∀ w,Calls Tryz.prog 10 #[.int .i64 q.c,.int .i64 q.n,.agg (list8 q.pr).toArray,.agg (list8 q.sh).toArray] w fun e w'=>e=.returned (.tuple #[.pointer none,.int .i64 2])/\Below w.heap.size w w'):=Lib.hid (fun w=>by
    refine (rnewMux_any q.c q.n q.pr q.sh w).mono ?_
    rintro e w' ⟨hb,⟨_,e1⟩ | ⟨hn,_⟩⟩
    · exact ⟨e1,hb⟩
    exact absurd hn hbad)
  clear hbad hl hN
  go_enter Tryz.func3,Tryz.ntmps3
  go_wp2_with ((with_reducible refine atList ?_); refine wpList_newT rfl (.box 24 (.tmp 0)) rfl (some 2) rfl #[.int .i64 q.c,.int .i64 q.n,.int .i64 (q.pr 0),.int .i64 (q.pr 1),.int .i64 (q.pr 2),.int .i64 (q.pr 3),.int .i64 (q.pr 4),.int .i64 (q.pr 5),.int .i64 (q.pr 6),.int .i64 (q.pr 7),.int .i64 (q.sh 0),.int .i64 (q.sh 1),.int .i64 (q.sh 2),.int .i64 (q.sh 3),.int .i64 (q.sh 4),.int .i64 (q.sh 5),.int .i64 (q.sh 6),.int .i64 (q.sh 7)] 24 (fun X=>.pointer (some ⟨X,0,none⟩)) 18 (stC q) (st_cells' q) (box_st rfl rfl) ?_; intro Z w1 HZ SZ CZ BZ TZ)
  (with_reducible refine (SH.out _).mono ?_)
  rintro e w2 ⟨rfl,h2⟩
  have B2:=Lib.hid (bt BZ.out h2)
  have CZ2:=Lib.hid (CZ.out.below h2)
  have z0:w2.cell? ⟨Z,0,none⟩=some (.int .i64 q.c):=CZ2.out.cell (j:=0) (by omega)
  have z1:w2.cell? ⟨Z,1,none⟩=some (.int .i64 q.n):=CZ2.out.cell (j:=1) (by omega)
  clear h2 HZ SZ CZ BZ TZ
  go_wp2_with (first
    | ((with_reducible refine atList ?_); refine wpList_load_mid rfl 22 (.tmp 26) rfl Z 2 rfl (list8 q.pr) _ (st_range CZ2.out).1 Tryz.underlying22 rfl info_a8 ?_)
    | ((with_reducible refine atList ?_); refine wpList_load_mid rfl 22 (.tmp 28) rfl Z 10 rfl (list8 q.sh) _ (st_range CZ2.out).2 Tryz.underlying22 rfl info_a8 ?_))
  (with_reducible refine (NW.out _).mono ?_)
  rintro e w3 ⟨rfl,h3⟩
  have B3:=Lib.hid (bt B2.out h3)
  have CZ3:=Lib.hid (CZ2.out.below h3)
  have y0:w3.cell? ⟨Z,0,none⟩=some (.int .i64 q.c):=CZ3.out.cell (j:=0) (by omega)
  have y1:w3.cell? ⟨Z,1,none⟩=some (.int .i64 q.n):=CZ3.out.cell (j:=1) (by omega)
  clear h3
  go_wp2_with (first
  | ((with_reducible refine atList ?_); refine wpList_load_mid rfl 22 (.tmp 38) rfl Z 2 rfl (list8 q.pr) _ (st_range CZ3.out).1 Tryz.underlying22 rfl info_a8 ?_)
  | ((with_reducible refine atList ?_); refine wpList_load_mid rfl 22 (.tmp 40) rfl Z 10 rfl (list8 q.sh) _ (st_range CZ3.out).2 Tryz.underlying22 rfl info_a8 ?_))
  (with_reducible refine (NY.out _).mono ?_)
  rintro e w4 ⟨rfl,h4⟩
  have B4:=Lib.hid (bt B3.out h4)
  clear h4
  go_wp2_with fail
  refine wp_loop_rounds 1 ?_
  rw [rounds_succ]
  by_cases h0:0 < N
  · have q0:decide ((0:Int) < (N:Int))=true:=decide_eq_true (by omega)
    have q0n:decide (0 < N)=true:=decide_eq_true h0
    go_wp2_with fail
    go_ret
    exact ⟨rfl,B4.out⟩
  have q0:decide ((0:Int) < (N:Int))=false:=decide_eq_false (by omega)
  have q0n:decide (0 < N)=false:=decide_eq_false h0
  go_wp2_with fail
  go_ret
  exact ⟨rfl,B4.out⟩
theorem walk_ok (q:StA) (a:Option Addr) (cap:Nat) (l:List OpB) (hl:l.length<=200) (hok:NmOk q.c q.n q.pr q.sh) (w:World) (R:Obs w a l):Calls Tryz.prog 3 #[stVal q,.slice a l.length cap] w fun e w'=>e=.returned (.bool true)/\Below w.heap.size w w':=by
  have SH:=Lib.hid (fun w=>cshown_any w)
  obtain ⟨N,hN⟩:∃ N,l.length=N:=⟨_,rfl⟩
  have HN:=Lib.hid hN
  rw [hN] at hl ⊢
  have t1:decide (200 < (N:Int))=false:=decide_eq_false (by omega)
  have t1n:decide (200 < N)=false:=decide_eq_false (by omega)
  obtain ⟨x0,hx0⟩:∃ z,Ch.Mx.new q.n.toNat q.c.toNat (fun i=>(q.pr i).toNat) (fun i=>(q.sh i).toNat)=z:=⟨_,rfl⟩
  have OX:=Lib.hid (show x0.Ok by
    rw [<-hx0]
    obtain ⟨g1,g2,g3⟩:=hok
    exact Ch.Mx.Ok.new (by omega) (by omega) (by omega) (fun i hi=>by have:=g3 i hi; omega) (fun i hi=>by have:=g3 i hi; omega) (fun i hi=>by have:=g3 i hi; omega))
  have NW:Hid (∀ w,Calls Tryz.prog 9 #[.int .i64 q.c,.int .i64 q.n,.agg (list8 q.pr).toArray,.agg (list8 q.sh).toArray] w fun e w'=>∃ M X va vb,e=.returned (.tuple #[.pointer (some ⟨M,0,none⟩),.int .i64 0])/\PM w' w.heap.size M x0 X va vb/\Below w.heap.size w w'):=Lib.hid (fun w=>by
    refine (newMux_any q.c q.n q.pr q.sh w).mono ?_
    rintro e w' ⟨hb,⟨hn,_⟩ | ⟨_,M,X,va,vb,e1,p⟩⟩
    · exact absurd hok hn
    rw [hx0] at p
    exact ⟨M,X,va,vb,e1,p,hb⟩)
  have NY:Hid (∀ w,Calls Tryz.prog 10 #[.int .i64 q.c,.int .i64 q.n,.agg (list8 q.pr).toArray,.agg (list8 q.sh).toArray] w fun e w'=>∃ D Y,e=.returned (.tuple #[.pointer (some ⟨D,0,none⟩),.int .i64 0])/\MY w' w.heap.size D x0 Y/\Below w.heap.size w w'):=Lib.hid (fun w=>by
    refine (rnewMux_any q.c q.n q.pr q.sh w).mono ?_
    rintro e w' ⟨hb,⟨hn,_⟩ | ⟨_,M,Y,e1,p⟩⟩
    · exact absurd hok hn
    rw [hx0] at p
    exact ⟨M,Y,e1,p,hb⟩)
  have nqM:=Lib.hid (fun X w=>eqlM_not ⟨X,0,none⟩ w)
  have HR0:=Lib.hid R
  clear hok hN hx0 R
  go_enter Tryz.func3,Tryz.ntmps3
  go_wp2_with ((with_reducible refine atList ?_); refine wpList_newT rfl (.box 24 (.tmp 0)) rfl (some 2) rfl #[.int .i64 q.c,.int .i64 q.n,.int .i64 (q.pr 0),.int .i64 (q.pr 1),.int .i64 (q.pr 2),.int .i64 (q.pr 3),.int .i64 (q.pr 4),.int .i64 (q.pr 5),.int .i64 (q.pr 6),.int .i64 (q.pr 7),.int .i64 (q.sh 0),.int .i64 (q.sh 1),.int .i64 (q.sh 2),.int .i64 (q.sh 3),.int .i64 (q.sh 4),.int .i64 (q.sh 5),.int .i64 (q.sh 6),.int .i64 (q.sh 7)] 24 (fun X=>.pointer (some ⟨X,0,none⟩)) 18 (stC q) (st_cells' q) (box_st rfl rfl) ?_; intro Z w1 HZ SZ CZ BZ TZ)
  (with_reducible refine (SH.out _).mono ?_)
  rintro e w2 ⟨rfl,h2⟩
  have B2:=Lib.hid (bt BZ.out h2)
  have CZ2:=Lib.hid (CZ.out.below h2)
  have z0:w2.cell? ⟨Z,0,none⟩=some (.int .i64 q.c):=CZ2.out.cell (j:=0) (by omega)
  have z1:w2.cell? ⟨Z,1,none⟩=some (.int .i64 q.n):=CZ2.out.cell (j:=1) (by omega)
  clear h2 HZ SZ CZ BZ TZ
  go_wp2_with (first
    | ((with_reducible refine atList ?_); refine wpList_load_mid rfl 22 (.tmp 26) rfl Z 2 rfl (list8 q.pr) _ (st_range CZ2.out).1 Tryz.underlying22 rfl info_a8 ?_)
    | ((with_reducible refine atList ?_); refine wpList_load_mid rfl 22 (.tmp 28) rfl Z 10 rfl (list8 q.sh) _ (st_range CZ2.out).2 Tryz.underlying22 rfl info_a8 ?_))
  (with_reducible refine (NW.out _).mono ?_)
  rintro e w3 ⟨M,X,va,vb,rfl,P3,h3⟩
  have HP3:=Lib.hid P3
  have B3:=Lib.hid (bt B2.out h3)
  have CZ3:=Lib.hid (CZ2.out.below h3)
  have S3:=Lib.hid h3.size
  have y0:w3.cell? ⟨Z,0,none⟩=some (.int .i64 q.c):=CZ3.out.cell (j:=0) (by omega)
  have y1:w3.cell? ⟨Z,1,none⟩=some (.int .i64 q.n):=CZ3.out.cell (j:=1) (by omega)
  clear h3 P3
  go_wp2_with (first
  | ((with_reducible refine atList ?_); refine wpList_load_mid rfl 22 (.tmp 38) rfl Z 2 rfl (list8 q.pr) _ (st_range CZ3.out).1 Tryz.underlying22 rfl info_a8 ?_)
  | ((with_reducible refine atList ?_); refine wpList_load_mid rfl 22 (.tmp 40) rfl Z 10 rfl (list8 q.sh) _ (st_range CZ3.out).2 Tryz.underlying22 rfl info_a8 ?_))
  (with_reducible refine (NY.out _).mono ?_)
  rintro e w4 ⟨D,Y,rfl,Q4,h4⟩
  have B4:=Lib.hid (bt B3.out h4)
  have M4:Hid (MM w.heap.size w w4 w2.heap.size w3.heap.size M D X Y x0 x0):=Lib.hid ⟨⟨va,vb,HP3.out.below h4⟩,Q4,OX.out,OX.out,B4.out,Nat.le_trans S3.out h4.size,h4.size,B2.out.size,B3.out.size⟩
  have n4:=nqM.out M w4
  obtain ⟨n5,hn5⟩:∃ n,w2.heap.size=n:=⟨_,rfl⟩
  obtain ⟨n6,hn6⟩:∃ n,w3.heap.size=n:=⟨_,rfl⟩
  rw [hn5,hn6] at M4
  clear h4 Q4 HP3 B2 B3 B4 CZ2 CZ3 z0 z1 y0 y1 S3 NW NY OX hn5 hn6
  go_wp2_with fail
  go_loopw [9] (fun x9 wr=>∃ (i:Nat) (x:Ch.Mx),i<=N/\x9=.int .i64 i/\MM w.heap.size w wr n5 n6 M D X Y x x) (fun x9 _=>N - (intOf x9).toNat)
  case atStart=>exact ⟨0,x0,Nat.zero_le _,rfl,M4.out⟩
  case round=>
    obtain ⟨i,x,hi,rfl,hm⟩:=hrel
    have HM:=Lib.hid hm
    clear hm M4 n4
    by_cases hlt:i < N
    · obtain ⟨⟨kk,cc,p,wd⟩,hz⟩:∃ z,l[i]?=some z:=⟨l[i]'(by have:=HN.out; omega),List.getElem?_eq_getElem (by have:=HN.out; omega)⟩
      rcases HR0.out with e0 | ⟨B,off,rfl,hBl,hz2⟩
      · rw [e0] at hz; cases hz
      obtain ⟨hz3,hz4,hz5,hz6,hz7⟩:=hz2 i _ hz
      have ZR:=Lib.hid (fun W (b:Below w.heap.size w W)=>show W.rangeAt B (off + i * 4) [.int .i64 kk,.int .i64 cc,.string p,.int .u32 (wd:Nat)] from fun j u hu=>(b.cell (p:=⟨B,off + i * 4 + j,none⟩) hBl).trans (hz3 j u hu))
      obtain ⟨z,hs⟩:∃ z,p.size=z:=⟨_,rfl⟩
      have PS:=Lib.hid hs
      have hsm:z<=9223372036854775807:=by rw [<-hs]; unfold maxLen at hz6; exact Nat.le_trans hz6 (by omega)
      have WDL:=Lib.hid hz7
      have PKC:Hid (∀ w:World,Calls Tryz.prog 11 #[.int .i64 kk,.int .i64 8] w fun e w'=>e=.returned (.int .i64 ((kk % 8).toNat:Nat))/\w=w'):=Lib.hid (fun w=>pick_any kk hz4 8 (by omega) (by omega) w)
      have i0:(0:Int)<=(i:Int):=by omega
      have i1:(i:Int) < (N:Int):=by omega
      have i2:(i:Int) < 201:=by omega
      have HI1:=Lib.hid (show i + 1<=N from hlt)
      clear hz hz2 hz3 hz4 hz5 hz6 hz7 hlt hi
      go_upto_region 13 with (first
        | ((with_reducible refine atList ?_); refine wpList_load_mid rfl 36 (.tmp 67) rfl B (off + i * 4) rfl [.int .i64 kk,.int .i64 cc,.string p,.int .u32 (wd:Nat)] _ (ZR.out _ HM.out.b) Tryz.underlying36 rfl info_ob ?_)
        | ((with_reducible refine atList ?_); refine wpList_newT rfl (.alloc 36) rfl (some 10) rfl #[.int .i64 0,.int .i64 0,.string ⟨#[]⟩,.int .u32 0] 36 (fun X=>.pointer (some ⟨X,0,none⟩)) 4 (obCel ⟨0,0,⟨#[]⟩,0⟩) ob_new (alloc_ob rfl) ?_; intro V w5 HV SV CV5 B5 TV5)
        | ((with_reducible refine atList ?_); refine wpList_setAllT rfl 36 (.tmp 10) (.tmp 68) rfl V 4 [.int .i64 kk,.int .i64 cc,.string p,.int .u32 (wd:Nat)] _ (obCel ⟨kk,cc,p,wd⟩) CV5.out rfl (ob_list ⟨kk,cc,p,wd⟩) rfl rfl info_ob (by simp [Value.oneCell']) ?_; intro w6 CV6 U6 S6 U6T))
      have TV6:=Lib.hid (U6T.out _ TV5.out)
      have B6:=Lib.hid (show Below wr.heap.size wr w6 from But.under B5.out U6.out (by have:=HV.out; omega))
      have M6:=Lib.hid (HM.out.below B6.out)
      have d0:w6.cell? ⟨V,0,none⟩=some (.int .i64 kk):=CV6.out.cell (j:=0) (by omega)
      have d1:w6.cell? ⟨V,1,none⟩=some (.int .i64 cc):=CV6.out.cell (j:=1) (by omega)
      have d2:w6.cell? ⟨V,2,none⟩=some (.string p):=CV6.out.cell (j:=2) (by omega)
      have d3:w6.cell? ⟨V,3,none⟩=some (.int .u32 (wd:Nat)):=CV6.out.cell (j:=3) (by omega)
      clear HM B5 B6 U6 HV SV S6 CV5 TV5 U6T ZR
      by_cases hz:2000 < z
      · have q1:decide ((2000:Int) < (z:Int))=true:=decide_eq_true (by omega)
        have q1n:decide (2000 < z)=true:=decide_eq_true hz
        have q2:decide ((2000:Int) < (p.size:Int))=true:=decide_eq_true (by have:=PS.out; omega)
        have q2n:decide (2000 < p.size)=true:=decide_eq_true (by have:=PS.out; omega)
        clear hz
        go_wp2_with fail
        go_ret
        exact ⟨rfl,M6.out.b⟩
      have q1:decide ((2000:Int) < (z:Int))=false:=decide_eq_false (by omega)
      have q1n:decide (2000 < z)=false:=decide_eq_false hz
      have q2:decide ((2000:Int) < (p.size:Int))=false:=decide_eq_false (by have:=PS.out; omega)
      have q2n:decide (2000 < p.size)=false:=decide_eq_false (by have:=PS.out; omega)
      have PSZ:=Lib.hid (show p.size<=2000 by have:=PS.out; omega)
      clear hz
      go_wp2_with fail
      (with_reducible refine (PKC.out _).mono ?_)
      rintro e w' ⟨rfl,rfl⟩
      obtain ⟨k8,hk8⟩:∃ z,(kk % 8).toNat=z:=⟨_,rfl⟩
      rw [hk8]
      have hk:k8 < 8:=by omega
      clear hk8 PKC
      rcases (show k8=0\/k8=1\/k8=2\/k8=7\/(k8 ≠ 0/\k8 ≠ 1/\k8 ≠ 2/\k8 ≠ 7) by omega) with hk | hk | hk | hk | ⟨hk,hk1,hk2,hk7⟩
      · have e0:((k8:Int) == 0)=true:=by rw [beq_iff_eq]; omega
        have f0:(k8 == 0)=true:=by rw [beq_iff_eq]; omega
        clear hk
        obtain ⟨r,hr⟩:∃ z,adV x cc p=z:=⟨_,rfl⟩
        have HR:=Lib.hid hr
        have zr:(r != r)=false:=by simp
        clear hr
        go_upto_region 23 with fail
        refine cmRegion M D V cc r p (MxW w.heap.size w n5 n6 M D X Y V x ⟨kk,cc,p,wd⟩) (MxW.start M6.out CV6.out TV6.out) (fun a b w' h=>⟨h.ce.cell (j:=1) (by omega),h.ce.cell (j:=2) (by omega)⟩) (fun b w' h=>by rw [<-HR.out]; exact h.stepX PSZ.out) (fun b w' h=>by rw [<-HR.out]; exact h.stepY PSZ.out) (by kernel_rfl) rfl rfl rfl rfl rfl rfl rfl rfl rfl rfl rfl rfl rfl rfl rfl rfl ?_
        intro w7 h7
        have MN:=Lib.hid (show MM w.heap.size w w7 n5 n6 M D X Y (adS x cc p) (adS x cc p) from h7.m)
        clear h7
        simp only [Act.put,List.setIfInBounds_toArray,List.set_cons_succ,List.set_cons_zero,List.drop_succ_cons,List.drop_zero]
        go_wp2_with fail
        go_loopw [15] (fun x15 ws=>∃ k:Int,-1<=k/\k<=9/\x15=.int .i64 k/\MM w.heap.size w ws n5 n6 M D X Y (adS x cc p) (adS x cc p)) (fun x15 _=>(9 - intOf x15).toNat)
        case atStart=>exact ⟨-1,by omega,by omega,rfl,MN.out⟩
        case round=>
          obtain ⟨k,hk1,hk2,rfl,hm⟩:=hrel
          have HM:=Lib.hid hm
          clear hm MN
          by_cases h9:k < 9
          · have XW:=Lib.hid (HM.out.xwait k)
            obtain ⟨wt,hwt⟩:∃ z,wtV (adS x cc p) k=z:=⟨_,rfl⟩
            have HWT:=Lib.hid hwt
            rw [hwt] at XW
            clear hwt HM
            go_wp2_with fail
            (with_reducible refine XW.out.mono ?_)
            rintro e wa ⟨rfl,ma,_⟩
            have YW:=Lib.hid (ma.ywait k)
            rw [HWT.out] at YW
            clear ma XW
            go_wp2_with fail
            (with_reducible refine YW.out.mono ?_)
            rintro e wb ⟨rfl,mb,_⟩
            have HM:=Lib.hid mb
            have z1:((wt:Int) != (wt:Int))=false:=by simp
            have z1n:(wt != wt)=false:=by simp
            clear mb YW
            go_wp2_with fail
            go_roundw
            case rel=>exact ⟨k + 1,by omega,by omega,by go_num,HM.out⟩
            case measure=>simp [intOf]; omega
          obtain rfl:k=9:=by omega
          clear h9 hk1 hk2
          go_wp2_with fail
          go_roundw
          case rel=>exact ⟨i + 1,adS x cc p,HI1.out,by go_num,HM.out⟩
          case measure=>simp [intOf]; have:=HI1.out; omega
      · have e0:((k8:Int) == 0)=false:=by rw [beq_eq_false_iff_ne]; omega
        have f0:(k8 == 0)=false:=by rw [beq_eq_false_iff_ne]; omega
        have e1:((k8:Int) == 1)=true:=by rw [beq_iff_eq]; omega
        have f1:(k8 == 1)=true:=by rw [beq_iff_eq]; omega
        clear hk
        obtain ⟨r,hr⟩:∃ z,adV x cc p=z:=⟨_,rfl⟩
        have HR:=Lib.hid hr
        have zr:(r != r)=false:=by simp
        clear hr
        go_upto_region 23 with fail
        refine cmRegion M D V cc r p (MxW w.heap.size w n5 n6 M D X Y V x ⟨kk,cc,p,wd⟩) (MxW.start M6.out CV6.out TV6.out) (fun a b w' h=>⟨h.ce.cell (j:=1) (by omega),h.ce.cell (j:=2) (by omega)⟩) (fun b w' h=>by rw [<-HR.out]; exact h.stepX PSZ.out) (fun b w' h=>by rw [<-HR.out]; exact h.stepY PSZ.out) (by kernel_rfl) rfl rfl rfl rfl rfl rfl rfl rfl rfl rfl rfl rfl rfl rfl rfl rfl ?_
        intro w7 h7
        have MN:=Lib.hid (show MM w.heap.size w w7 n5 n6 M D X Y (adS x cc p) (adS x cc p) from h7.m)
        clear h7
        simp only [Act.put,List.setIfInBounds_toArray,List.set_cons_succ,List.set_cons_zero,List.drop_succ_cons,List.drop_zero]
        go_wp2_with fail
        go_loopw [15] (fun x15 ws=>∃ k:Int,-1<=k/\k<=9/\x15=.int .i64 k/\MM w.heap.size w ws n5 n6 M D X Y (adS x cc p) (adS x cc p)) (fun x15 _=>(9 - intOf x15).toNat)
        case atStart=>exact ⟨-1,by omega,by omega,rfl,MN.out⟩
        case round=>
          obtain ⟨k,hk1,hk2,rfl,hm⟩:=hrel
          have HM:=Lib.hid hm
          clear hm MN
          by_cases h9:k < 9
          · have XW:=Lib.hid (HM.out.xwait k)
            obtain ⟨wt,hwt⟩:∃ z,wtV (adS x cc p) k=z:=⟨_,rfl⟩
            have HWT:=Lib.hid hwt
            rw [hwt] at XW
            clear hwt HM
            go_wp2_with fail
            (with_reducible refine XW.out.mono ?_)
            rintro e wa ⟨rfl,ma,_⟩
            have YW:=Lib.hid (ma.ywait k)
            rw [HWT.out] at YW
            clear ma XW
            go_wp2_with fail
            (with_reducible refine YW.out.mono ?_)
            rintro e wb ⟨rfl,mb,_⟩
            have HM:=Lib.hid mb
            have z1:((wt:Int) != (wt:Int))=false:=by simp
            have z1n:(wt != wt)=false:=by simp
            clear mb YW
            go_wp2_with fail
            go_roundw
            case rel=>exact ⟨k + 1,by omega,by omega,by go_num,HM.out⟩
            case measure=>simp [intOf]; omega
          obtain rfl:k=9:=by omega
          clear h9 hk1 hk2
          go_wp2_with fail
          go_roundw
          case rel=>exact ⟨i + 1,adS x cc p,HI1.out,by go_num,HM.out⟩
          case measure=>simp [intOf]; have:=HI1.out; omega
      · have e0:((k8:Int) == 0)=false:=by rw [beq_eq_false_iff_ne]; omega
        have f0:(k8 == 0)=false:=by rw [beq_eq_false_iff_ne]; omega
        have e1:((k8:Int) == 1)=false:=by rw [beq_eq_false_iff_ne]; omega
        have f1:(k8 == 1)=false:=by rw [beq_eq_false_iff_ne]; omega
        have e2:((k8:Int) == 2)=true:=by rw [beq_iff_eq]; omega
        have f2:(k8 == 2)=true:=by rw [beq_iff_eq]; omega
        clear hk
        obtain ⟨r,hr⟩:∃ z,adV x cc p=z:=⟨_,rfl⟩
        have HR:=Lib.hid hr
        have zr:(r != r)=false:=by simp
        clear hr
        go_upto_region 23 with fail
        refine cmRegion M D V cc r p (MxW w.heap.size w n5 n6 M D X Y V x ⟨kk,cc,p,wd⟩) (MxW.start M6.out CV6.out TV6.out) (fun a b w' h=>⟨h.ce.cell (j:=1) (by omega),h.ce.cell (j:=2) (by omega)⟩) (fun b w' h=>by rw [<-HR.out]; exact h.stepX PSZ.out) (fun b w' h=>by rw [<-HR.out]; exact h.stepY PSZ.out) (by kernel_rfl) rfl rfl rfl rfl rfl rfl rfl rfl rfl rfl rfl rfl rfl rfl rfl rfl ?_
        intro w7 h7
        have MN:=Lib.hid (show MM w.heap.size w w7 n5 n6 M D X Y (adS x cc p) (adS x cc p) from h7.m)
        clear h7
        simp only [Act.put,List.setIfInBounds_toArray,List.set_cons_succ,List.set_cons_zero,List.drop_succ_cons,List.drop_zero]
        go_wp2_with fail
        go_loopw [15] (fun x15 ws=>∃ k:Int,-1<=k/\k<=9/\x15=.int .i64 k/\MM w.heap.size w ws n5 n6 M D X Y (adS x cc p) (adS x cc p)) (fun x15 _=>(9 - intOf x15).toNat)
        case atStart=>exact ⟨-1,by omega,by omega,rfl,MN.out⟩
        case round=>
          obtain ⟨k,hk1,hk2,rfl,hm⟩:=hrel
          have HM:=Lib.hid hm
          clear hm MN
          by_cases h9:k < 9
          · have XW:=Lib.hid (HM.out.xwait k)
            obtain ⟨wt,hwt⟩:∃ z,wtV (adS x cc p) k=z:=⟨_,rfl⟩
            have HWT:=Lib.hid hwt
            rw [hwt] at XW
            clear hwt HM
            go_wp2_with fail
            (with_reducible refine XW.out.mono ?_)
            rintro e wa ⟨rfl,ma,_⟩
            have YW:=Lib.hid (ma.ywait k)
            rw [HWT.out] at YW
            clear ma XW
            go_wp2_with fail
            (with_reducible refine YW.out.mono ?_)
            rintro e wb ⟨rfl,mb,_⟩
            have HM:=Lib.hid mb
            have z1:((wt:Int) != (wt:Int))=false:=by simp
            have z1n:(wt != wt)=false:=by simp
            clear mb YW
            go_wp2_with fail
            go_roundw
            case rel=>exact ⟨k + 1,by omega,by omega,by go_num,HM.out⟩
            case measure=>simp [intOf]; omega
          obtain rfl:k=9:=by omega
          clear h9 hk1 hk2
          go_wp2_with fail
          go_roundw
          case rel=>exact ⟨i + 1,adS x cc p,HI1.out,by go_num,HM.out⟩
          case measure=>simp [intOf]; have:=HI1.out; omega
      · have e0:((k8:Int) == 0)=false:=by rw [beq_eq_false_iff_ne]; omega
        have f0:(k8 == 0)=false:=by rw [beq_eq_false_iff_ne]; omega
        have e1:((k8:Int) == 1)=false:=by rw [beq_eq_false_iff_ne]; omega
        have f1:(k8 == 1)=false:=by rw [beq_eq_false_iff_ne]; omega
        have e2:((k8:Int) == 2)=false:=by rw [beq_eq_false_iff_ne]; omega
        have f2:(k8 == 2)=false:=by rw [beq_eq_false_iff_ne]; omega
        have e7:((k8:Int) == 7)=true:=by rw [beq_iff_eq]; omega
        have f7:(k8 == 7)=true:=by rw [beq_iff_eq]; omega
        clear hk
        by_cases hc:cc=0
        · have c1:(cc == 0)=true:=by simpa using hc
          have XC:=Lib.hid M6.out.xclear
          clear hc
          go_wp2_with fail
          (with_reducible refine XC.out.mono ?_)
          rintro e wa ⟨⟨va,rfl⟩,ma,_⟩
          have YC:=Lib.hid ma.yclear
          clear ma XC
          go_wp2_with fail
          (with_reducible refine YC.out.mono ?_)
          rintro e wb ⟨⟨vb,rfl⟩,mb,_⟩
          have MN:=Lib.hid mb
          clear mb YC
          go_wp2_with fail
          go_loopw [15] (fun x15 ws=>∃ k:Int,-1<=k/\k<=9/\x15=.int .i64 k/\MM w.heap.size w ws n5 n6 M D X Y (x.clr) (x.clr)) (fun x15 _=>(9 - intOf x15).toNat)
          case atStart=>exact ⟨-1,by omega,by omega,rfl,MN.out⟩
          case round=>
            obtain ⟨k,hk1,hk2,rfl,hm⟩:=hrel
            have HM:=Lib.hid hm
            clear hm MN
            by_cases h9:k < 9
            · have XW:=Lib.hid (HM.out.xwait k)
              obtain ⟨wt,hwt⟩:∃ z,wtV (x.clr) k=z:=⟨_,rfl⟩
              have HWT:=Lib.hid hwt
              rw [hwt] at XW
              clear hwt HM
              go_wp2_with fail
              (with_reducible refine XW.out.mono ?_)
              rintro e wa ⟨rfl,ma,_⟩
              have YW:=Lib.hid (ma.ywait k)
              rw [HWT.out] at YW
              clear ma XW
              go_wp2_with fail
              (with_reducible refine YW.out.mono ?_)
              rintro e wb ⟨rfl,mb,_⟩
              have HM:=Lib.hid mb
              have z1:((wt:Int) != (wt:Int))=false:=by simp
              have z1n:(wt != wt)=false:=by simp
              clear mb YW
              go_wp2_with fail
              go_roundw
              case rel=>exact ⟨k + 1,by omega,by omega,by go_num,HM.out⟩
              case measure=>simp [intOf]; omega
            obtain rfl:k=9:=by omega
            clear h9 hk1 hk2
            go_wp2_with fail
            go_roundw
            case rel=>exact ⟨i + 1,x.clr,HI1.out,by go_num,HM.out⟩
            case measure=>simp [intOf]; have:=HI1.out; omega
        have c1:(cc == 0)=false:=by simpa using hc
        have MN:=M6
        clear hc
        go_wp2_with fail
        go_loopw [15] (fun x15 ws=>∃ k:Int,-1<=k/\k<=9/\x15=.int .i64 k/\MM w.heap.size w ws n5 n6 M D X Y (x) (x)) (fun x15 _=>(9 - intOf x15).toNat)
        case atStart=>exact ⟨-1,by omega,by omega,rfl,MN.out⟩
        case round=>
          obtain ⟨k,hk1,hk2,rfl,hm⟩:=hrel
          have HM:=Lib.hid hm
          clear hm MN
          by_cases h9:k < 9
          · have XW:=Lib.hid (HM.out.xwait k)
            obtain ⟨wt,hwt⟩:∃ z,wtV (x) k=z:=⟨_,rfl⟩
            have HWT:=Lib.hid hwt
            rw [hwt] at XW
            clear hwt HM
            go_wp2_with fail
            (with_reducible refine XW.out.mono ?_)
            rintro e wa ⟨rfl,ma,_⟩
            have YW:=Lib.hid (ma.ywait k)
            rw [HWT.out] at YW
            clear ma XW
            go_wp2_with fail
            (with_reducible refine YW.out.mono ?_)
            rintro e wb ⟨rfl,mb,_⟩
            have HM:=Lib.hid mb
            have z1:((wt:Int) != (wt:Int))=false:=by simp
            have z1n:(wt != wt)=false:=by simp
            clear mb YW
            go_wp2_with fail
            go_roundw
            case rel=>exact ⟨k + 1,by omega,by omega,by go_num,HM.out⟩
            case measure=>simp [intOf]; omega
          obtain rfl:k=9:=by omega
          clear h9 hk1 hk2
          go_wp2_with fail
          go_roundw
          case rel=>exact ⟨i + 1,x,HI1.out,by go_num,HM.out⟩
          case measure=>simp [intOf]; have:=HI1.out; omega
      have e0:((k8:Int) == 0)=false:=by rw [beq_eq_false_iff_ne]; omega
      have f0:(k8 == 0)=false:=by rw [beq_eq_false_iff_ne]; omega
      have e1:((k8:Int) == 1)=false:=by rw [beq_eq_false_iff_ne]; omega
      have f1:(k8 == 1)=false:=by rw [beq_eq_false_iff_ne]; omega
      have e2:((k8:Int) == 2)=false:=by rw [beq_eq_false_iff_ne]; omega
      have f2:(k8 == 2)=false:=by rw [beq_eq_false_iff_ne]; omega
      have e7:((k8:Int) == 7)=false:=by rw [beq_eq_false_iff_ne]; omega
      have f7:(k8 == 7)=false:=by rw [beq_eq_false_iff_ne]; omega
      clear hk hk1 hk2 hk7
      have XN:=Lib.hid (M6.out.xnext wd WDL.out)
      obtain ⟨EN,hEN⟩:∃ z,bs (Tm.enc (x.frm wd))=z:=⟨_,rfl⟩
      have HEN:=Lib.hid hEN
      rw [hEN] at XN
      clear hEN
      go_wp2_with fail
      (with_reducible refine XN.out.mono ?_)
      rintro e wa ⟨rfl,ma,ka⟩
      have YN:=Lib.hid (ma.ynext wd WDL.out)
      rw [HEN.out] at YN
      have d3:wa.cell? ⟨V,3,none⟩=some (.int .u32 (wd:Nat)):=(CV6.out.of_block (ka.2 V _ TV6.out (by decide) (by decide))).cell (j:=3) (by omega)
      clear ma ka XN
      go_wp2_with fail
      (with_reducible refine YN.out.mono ?_)
      rintro e wb ⟨rfl,mb,_⟩
      have MN:=Lib.hid mb
      have z1:(EN == EN)=true:=beq_same EN
      have z2:(EN.toList == EN.toList)=true:=by simp
      clear mb YN
      go_wp2_with fail
      go_loopw [15] (fun x15 ws=>∃ k:Int,-1<=k/\k<=9/\x15=.int .i64 k/\MM w.heap.size w ws n5 n6 M D X Y (x.nxt) (x.nxt)) (fun x15 _=>(9 - intOf x15).toNat)
      case atStart=>exact ⟨-1,by omega,by omega,rfl,MN.out⟩
      case round=>
        obtain ⟨k,hk1,hk2,rfl,hm⟩:=hrel
        have HM:=Lib.hid hm
        clear hm MN
        by_cases h9:k < 9
        · have XW:=Lib.hid (HM.out.xwait k)
          obtain ⟨wt,hwt⟩:∃ z,wtV (x.nxt) k=z:=⟨_,rfl⟩
          have HWT:=Lib.hid hwt
          rw [hwt] at XW
          clear hwt HM
          go_wp2_with fail
          (with_reducible refine XW.out.mono ?_)
          rintro e wa ⟨rfl,ma,_⟩
          have YW:=Lib.hid (ma.ywait k)
          rw [HWT.out] at YW
          clear ma XW
          go_wp2_with fail
          (with_reducible refine YW.out.mono ?_)
          rintro e wb ⟨rfl,mb,_⟩
          have HM:=Lib.hid mb
          have z1:((wt:Int) != (wt:Int))=false:=by simp
          have z1n:(wt != wt)=false:=by simp
          clear mb YW
          go_wp2_with fail
          go_roundw
          case rel=>exact ⟨k + 1,by omega,by omega,by go_num,HM.out⟩
          case measure=>simp [intOf]; omega
        obtain rfl:k=9:=by omega
        clear h9 hk1 hk2
        go_wp2_with fail
        go_roundw
        case rel=>exact ⟨i + 1,x.nxt,HI1.out,by go_num,HM.out⟩
        case measure=>simp [intOf]; have:=HI1.out; omega
    obtain rfl:i=N:=by omega
    have q0:decide ((i:Int) < (i:Int))=false:=decide_eq_false (by omega)
    have q0n:decide (i < i)=false:=decide_eq_false (by omega)
    clear hlt hi
    go_wp2_with fail
    go_ret
    exact ⟨rfl,HM.out.b⟩
theorem walk (q:StA) (hq:StWf q) (a:Option Addr) (cap:Nat) (l:List OpB) (h1:l.length<=cap) (h2:cap<=maxLen) (w:World) (R:Obs w a l):Calls Tryz.prog 3 #[stVal q,.slice a l.length cap] w fun e w'=>e=.returned (.bool true)/\Below w.heap.size w w':=by
  by_cases hl:200 < l.length
  · exact walk_long q a cap l hl w
  by_cases hok:NmOk q.c q.n q.pr q.sh
  · exact walk_ok q a cap l (by omega) hok w R
  exact walk_bad q a cap l (by omega) hok w

theorem lifted (os:Os) (started:os.Started) (H:Type) (enc:TypeId × Value->H):
    ReturnsInHanded {} Tryz.checked os 3 .any (Rows.channelsMuxSpec.pre6 enc Tryz.prog Tryz.f3 Rows.channelsMuxRow.domain false) (Rows.channelsMuxSpec.post enc Tryz.prog Tryz.f3 false true false false):=by
  refine returnsInHanded_of_change (C:=Tryz.checked) own started (by kernel_rfl) Tryz.func3
    (ChangeSpec.witness6 (enc:=enc) (C:=Tryz.checked) false ⟨#[],#[.agg #[.int .i64 0,.int .i64 0,.int .i64 0,.int .i64 0,.int .i64 0,.int .i64 0,.int .i64 0,.int .i64 0,.int .i64 0,.int .i64 0,.int .i64 0,.int .i64 0,.int .i64 0,.int .i64 0,.int .i64 0,.int .i64 0,.int .i64 0,.int .i64 0],.slice none 0 0],[]⟩ 8 (by kernel_rfl) (by kernel_rfl) (by kernel_rfl) (by kernel_rfl)) ?_
  intro W base args ds gs before hval0 hW _ _
  have hval:∀ (j:Nat) t v,Tryz.f3.params[j]?=some t->args[j]?=some v->Value.okWide Tryz.prog W .any base t v:=hval0
  have hW':=hW
  obtain ⟨p,q,hA0,hV,rfl,hfz,hnd⟩:=hW
  have hA:DataW.TrodAll enc Tryz.prog W 0 (fun _=>true) true Tryz.f3.params.toList args.toList ds p:=hA0
  rw [Tryz.params3] at hA hval
  obtain ⟨v0,vs0,d0,ds0,p0,q0,hargs,rfl,rfl,h0,r0⟩:=trodAll_cons hA
  obtain ⟨v1,vs1,d1,ds1,p1,q1,rfl,rfl,rfl,h1,r1⟩:=trodAll_cons r0
  obtain ⟨rfl,rfl,rfl⟩:=trodAll_nil r1
  obtain rfl:args=#[v0,v1]:=by cases args; simp_all
  obtain ⟨rfl,rfl⟩:=trodVars_none hV
  obtain ⟨a0,rfl,w0,shut0⟩:=st_arg (hval 0 24 v0 rfl rfl) h0
  obtain ⟨x1,y1,z1,e1⟩:=okWide_slice Tryz.underlying25 (hval 1 25 v1 rfl rfl)
  have S1:=obs_arg (by rw [e1]; rfl) h1
  clear e1
  obtain ⟨ao1,zs1,cap1,rfl,l1,m1,R1,shut1⟩:=S1
  clear hA0 hval0
  simp only [List.append_nil] at hW'
  refine (walk a0 w0 ao1 cap1 zs1 l1 m1 W R1).mono fun e W' ⟨he,hg⟩=>?_
  subst he
  exact ⟨_,rfl,post_of_below (pa:=(p0 ++ (p1 ++ []))) (pv:=[]) hW' (fun _ _ _=>trodAll_cons_mk (shut_bool Tryz.underlying4 _) trodAll_mk0) (fun sp hsp=>(trodAll_cons_mk (shut0 W' hg sp (fun q hq=>hsp q (by simp [hq]))) (trodAll_cons_mk (shut1 W' hg sp (fun q hq=>hsp q (by simp [hq]))) trodAll_mk0))) (fun _ _=>rfl) (by simp)
    hg (ok_one (by kernel_rfl) rfl (okWide_bool_mk Tryz.underlying4 _))⟩

theorem proved:Rows.ChannelsMuxSaid:=
  OpenClaim.holds_of_wide 3 Tryz.f3 rfl rfl rfl rfl rfl rfl rfl ⟨rfl,rfl,rfl,rfl,rfl⟩ rfl rfl rfl rfl rfl (by kernel_rfl) Tryz.func3 (by kernel_rfl)
    (of_decide_eq_true (by kernel_rfl)) (by unfold Func.isWrapper; first | (rw [if_pos (by decide +kernel)]; kernel_rfl) | (rw [if_neg (by decide +kernel)]; exact ⟨rfl,rfl⟩))
    (fun os started H enc _=>lifted os started H enc)
#print axioms proved
end channelsMux
end Go.Proofs.YtchfkncbemjepaaGreat
