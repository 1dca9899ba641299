/- ChWhM -/
import Derived.Test.YtchfkncbemjepaaGreatChWhN
import Derived.Test.YtchfkncbemjepaaGreatChWhT
import Derived.Test.YtchfkncbemjepaaGreatChStC
set_option linter.unusedVariables false
set_option maxRecDepth 100000
set_option maxHeartbeats 16000000
/- Layer 11's laws: the frames of some packets are made, until nothing waits (transmit). -/
namespace Go.Proofs.YtchfkncbemjepaaGreat
open Go.RowKit

set_option linter.unusedSimpArgs false

structure LdB where
  c:Int
  n:Int
  f:Int
def ldCells (q:LdB):List Value:=[.int .i64 q.c,.int .i64 q.n,.int .i64 q.f]
def LdWf (q:LdB):Prop:=(Lit.int .i64 q.c).wf=true/\(Lit.int .i64 q.n).wf=true/\(Lit.int .i64 q.f).wf=true
def Lds (w:World) (a:Option Addr) (l:List LdB):Prop:=l=[]\/∃ B off,a=some ⟨B,off,none⟩/\B < w.heap.size/\∀ i q,l[i]?=some q->(∀ j u,(ldCells q)[j]?=some u->w.cell? ⟨B,off + i * 3 + j,none⟩=some u)/\LdWf q
theorem Lds.below {w w':World} {a:Option Addr} {l:List LdB} (h:Lds w a l) (hb:Below w.heap.size w w'):Lds w' a l:=by
  rcases h with h | ⟨B,off,e,hl,hc⟩
  · exact .inl h
  exact .inr ⟨B,off,e,Nat.lt_of_lt_of_le hl hb.size,fun i x hx=>⟨fun j u hu=>(hb.cell (p:=⟨B,off + i * 3 + j,none⟩) hl).trans ((hc i x hx).1 j u hu),(hc i x hx).2⟩⟩
def seZ (j:Nat):Value:=if j=6 then .bool false else .slice none 0 0
theorem seZ_cells:∀ j,j < 7->(#[.slice none 0 0,.slice none 0 0,.slice none 0 0,.slice none 0 0,.slice none 0 0,.slice none 0 0,.bool false]:Array Value)[j]?=some (seZ j):=fun j hj=>by
  match j,hj with
  | 0,_=>rfl
  | 1,_=>rfl
  | 2,_=>rfl
  | 3,_=>rfl
  | 4,_=>rfl
  | 5,_=>rfl
  | 6,_=>rfl
theorem seZ_list:∀ j,j < 7->([.slice none 0 0,.slice none 0 0,.slice none 0 0,.slice none 0 0,.slice none 0 0,.slice none 0 0,.bool false]:List Value)[j]?=some (seZ j):=fun j hj=>by
  match j,hj with
  | 0,_=>rfl
  | 1,_=>rfl
  | 2,_=>rfl
  | 3,_=>rfl
  | 4,_=>rfl
  | 5,_=>rfl
  | 6,_=>rfl
theorem alloc_se {ev:Operand->Value} {o:Oper} {w:World} (h:o.op=.alloc 74):(execOp ev o).run Tryz.prog w=.ok (.value (.pointer (some ⟨w.heap.size,0,none⟩))) (w.alloc (.cells #[.slice none 0 0,.slice none 0 0,.slice none 0 0,.slice none 0 0,.slice none 0 0,.slice none 0 0,.bool false] 74)):=by
  simp only [execOp,h]; go_simp
theorem info_se:(Tryz.prog.info? 74).map (·.size)=some 7:=by kernel_rfl
theorem results_cell1 {fn:Func} {p:Tmp} {ty:TypeId} (h:fn.results=#[.cell p ty]) (tmps:Array Value) (w:World) (X:Nat) (cs:List Value) (d:TypeDesc)
    (hp:tmps.getD p undef=.pointer (some ⟨X,0,none⟩)) (hc:w.rangeAt X 0 cs) (hu:Tryz.prog.underlying ty=some d) (hd:d.isRow=true) (hi:(Tryz.prog.info? ty).map (·.size)=some cs.length):
    (results fn tmps).run Tryz.prog w=.ok (.agg cs.toArray) w:=by
  have hp':tmps[p]?.getD undef=.pointer (some ⟨X,0,none⟩):=by simpa using hp
  simp [results,h,hp',asAddr,run_loadVar_mid w X 0 ty cs d hc hu hd hi]
theorem cel_all {w:World} {X n:Nat} {f:Nat->Value} (h:Cel w X n f) (cs:List Value) (hl:cs.length=n) (hc:∀ j,j < n->cs[j]?=some (f j)):w.rangeAt X 0 cs:=h.range 0 cs (fun j v hv=>by
  have hj:j < cs.length:=(List.getElem?_eq_some_iff.1 hv).1
  rw [hl] at hj
  rw [hc j hj] at hv
  exact ⟨by omega,by rw [Nat.zero_add]; exact Option.some.inj hv⟩)
theorem tbad_any (q:StA) (v:Value) (hbad:¬ NmOk q.c q.n q.pr q.sh) (w:World):Calls Tryz.prog 25 #[stVal q,v] w fun e w'=>e=.returned (.agg #[.slice none 0 0,.slice none 0 0,.slice none 0 0,.slice none 0 0,.slice none 0 0,.slice none 0 0,.bool false])/\Below w.heap.size w w':=by
  have NW:Hid (∀ w,Calls Tryz.prog 9 #[.int .i64 q.c,.int .i64 q.n,.agg (list8 q.pr).toArray,.agg (list8 q.sh).toArray] w fun e w'=>e=.returned (.tuple #[.pointer none,.int .i64 2])/\Below w.heap.size w w'):=Lib.hid (fun w=>by
    refine (newMux_any q.c q.n q.pr q.sh w).mono ?_
    rintro e w' ⟨hb,⟨_,e1⟩ | ⟨hn,_⟩⟩
    · exact ⟨e1,hb⟩
    exact absurd hn hbad)
  clear hbad
  go_enter Tryz.func25,Tryz.ntmps25
  go_upto_region 1 with (first
    | ((with_reducible refine atList ?_); refine wpList_newT rfl (.box 24 (.tmp 0)) rfl (some 2) rfl #[.int .i64 q.c,.int .i64 q.n,.int .i64 (q.pr 0),.int .i64 (q.pr 1),.int .i64 (q.pr 2),.int .i64 (q.pr 3),.int .i64 (q.pr 4),.int .i64 (q.pr 5),.int .i64 (q.pr 6),.int .i64 (q.pr 7),.int .i64 (q.sh 0),.int .i64 (q.sh 1),.int .i64 (q.sh 2),.int .i64 (q.sh 3),.int .i64 (q.sh 4),.int .i64 (q.sh 5),.int .i64 (q.sh 6),.int .i64 (q.sh 7)] 24 (fun X=>.pointer (some ⟨X,0,none⟩)) 18 (stC q) (st_cells' q) (box_st rfl rfl) ?_; intro Zs w1 HZ SZ CZ BZ TZ)
    | ((with_reducible refine atList ?_); refine wpList_newT rfl (.alloc 74) rfl (some 4) rfl #[.slice none 0 0,.slice none 0 0,.slice none 0 0,.slice none 0 0,.slice none 0 0,.slice none 0 0,.bool false] 74 (fun X=>.pointer (some ⟨X,0,none⟩)) 7 seZ seZ_cells (alloc_se rfl) ?_; intro Rs w2 HR SR CR BR TR))
  have B2:=Lib.hid (bt BZ.out BR.out)
  have CZ2:=Lib.hid (CZ.out.below BR.out)
  have NR:=Lib.hid (show w.heap.size<=Rs by have:=HR.out; have:=BZ.out.size; omega)
  have z0:w2.cell? ⟨Zs,0,none⟩=some (.int .i64 q.c):=CZ2.out.cell (j:=0) (by omega)
  have z1:w2.cell? ⟨Zs,1,none⟩=some (.int .i64 q.n):=CZ2.out.cell (j:=1) (by omega)
  clear HZ SZ CZ BZ TZ HR SR BR
  go_wp2_with (first
    | ((with_reducible refine atList ?_); refine wpList_load_mid rfl 22 (.tmp 19) rfl Zs 2 rfl (list8 q.pr) _ (st_range CZ2.out).1 Tryz.underlying22 rfl info_a8 ?_)
    | ((with_reducible refine atList ?_); refine wpList_load_mid rfl 22 (.tmp 21) rfl Zs 10 rfl (list8 q.sh) _ (st_range CZ2.out).2 Tryz.underlying22 rfl info_a8 ?_))
  (with_reducible refine (NW.out _).mono ?_)
  rintro e w3 ⟨rfl,h3⟩
  have B3:=Lib.hid (bt B2.out h3)
  have CR3:=Lib.hid (CR.out.below h3)
  clear h3 B2 CR TR CZ2 z0 z1 NW
  go_wp2_with ((with_reducible refine atList ?_); refine wpList_setAll rfl 74 (.tmp 4) (.tmp 28) rfl Rs 7 [.slice none 0 0,.slice none 0 0,.slice none 0 0,.slice none 0 0,.slice none 0 0,.slice none 0 0,.bool false] _ seZ CR3.out rfl seZ_list rfl rfl info_se (by simp [Value.oneCell']) ?_; intro w4 C4 U4 S4)
  have RA:=cel_all C4.out [.slice none 0 0,.slice none 0 0,.slice none 0 0,.slice none 0 0,.slice none 0 0,.slice none 0 0,.bool false] rfl seZ_list
  have RR:=fun tmps hp=>results_cell1 Tryz.results25 tmps w4 Rs [.slice none 0 0,.slice none 0 0,.slice none 0 0,.slice none 0 0,.slice none 0 0,.slice none 0 0,.bool false] _ hp RA Tryz.underlying74 rfl info_se
  refine bodyPost_ret (RR _ rfl) rfl ?_
  exact ⟨rfl,But.under B3.out U4.out NR.out⟩
def pf (P:List ByteArray) (O:List Nat) (c:Nat):List (List UInt8):=((P.zip O).filter (fun q=>decide (q.2=c))).map (fun q=>q.1.data.toList)
theorem pf_add {P:List ByteArray} {O:List Nat} (h:O.length=P.length) (p:ByteArray) (c:Nat):Ch.upd (pf P O) c (pf P O c ++ [p.data.toList])=pf (P ++ [p]) (O ++ [c]):=by
  funext j
  unfold pf
  rw [List.zip_append h.symm,List.filter_append,List.map_append]
  by_cases e:j=c
  · subst e
    rw [Ch.upd_same]
    simp
  rw [Ch.upd_ne _ _ e]
  have:¬ c=j:=fun q=>e q.symm
  simp [this]
structure TN (n craft n5 M G:Nat) (X:Nat->Nat) (w0:World) (x:Ch.Mx) (f m:Nat) (w:World):Prop where
  ex:∃ F C P O va vb z fr tw bg Y Gs,SN n5 M G X x F C P O va vb z fr tw bg w/\Ch.Hs n craft F C x (pf P O) Y Gs/\F.length<=f/\P.length=m
  b:Below n5 w0 w
namespace TN
variable {n craft n5 M G:Nat} {X:Nat->Nat} {w0 w w':World} {x:Ch.Mx} {f m:Nat}
theorem below (h:TN n craft n5 M G X w0 x f m w) (hb:Below w.heap.size w w'):TN n craft n5 M G X w0 x f m w':=by
  obtain ⟨⟨F,C,P,O,va,vb,z,fr,tw,bg,Y,Gs,s,hs,e1,e2⟩,b⟩:=h
  exact ⟨⟨F,C,P,O,va,vb,z,fr,tw,bg,Y,Gs,s.below hb,hs,e1,e2⟩,b.trans (hb.mono s.n5w)⟩
theorem mono {f':Nat} (h:TN n craft n5 M G X w0 x f m w) (hf:f<=f'):TN n craft n5 M G X w0 x f' m w:=by
  obtain ⟨⟨F,C,P,O,va,vb,z,fr,tw,bg,Y,Gs,s,hs,e1,e2⟩,b⟩:=h
  exact ⟨⟨F,C,P,O,va,vb,z,fr,tw,bg,Y,Gs,s,hs,Nat.le_trans e1 hf,e2⟩,b⟩
theorem c7 (h:TN n craft n5 M G X w0 x f m w):w.cell? ⟨G,7,none⟩=some (.bool true)/\w.frozen? ⟨G,7,none⟩=false:=by
  obtain ⟨⟨F,C,P,O,va,vb,z,fr,tw,bg,Y,Gs,s,hs,e1,e2⟩,b⟩:=h
  exact ⟨(s.cell (j:=7) (by omega)).trans (by show some (Value.bool z.ok)=_; rw [s.zk]),s.sw.cel.frozen (by omega)⟩
theorem put7 (h:TN n craft n5 M G X w0 x f m w):TN n craft n5 M G X w0 x f m (w.setCell ⟨G,7,none⟩ (.bool true)):=by
  obtain ⟨⟨F,C,P,O,va,vb,z,fr,tw,bg,Y,Gs,s,hs,e1,e2⟩,b⟩:=h
  refine ⟨⟨F,C,P,O,va,vb,z,fr,tw,bg,Y,Gs,s.with' ((s.sw.put 7 (.bool true)).congr (fun j hj=>?_)) s.zk s.lf s.lt s.lb s.lo s.lc s.cF s.cP,hs,e1,e2⟩,b.setCell (p:=⟨G,7,none⟩) s.sw.sl _⟩
  by_cases e:j=7
  · subst e
    rw [if_pos rfl]
    show _=Value.bool z.ok
    rw [s.zk]
  rw [if_neg e]
theorem ok (h:TN n craft n5 M G X w0 x f m w):x.Ok:=by
  obtain ⟨⟨F,C,P,O,va,vb,z,fr,tw,bg,Y,Gs,s,hs,e1,e2⟩,b⟩:=h
  exact s.ok
theorem waiting (h:TN n craft n5 M G X w0 x f m w) {c:Nat} (hc:c < 8):
    Calls Tryz.prog 18 #[.pointer (some ⟨M,0,none⟩),.int .i64 (c:Nat)] w fun e w'=>e=.returned (.int .i64 (x.wt c:Nat))/\∃ m,w'=w.drewN m:=by
  obtain ⟨⟨F,C,P,O,va,vb,z,fr,tw,bg,Y,Gs,s,hs,e1,e2⟩,b⟩:=h
  exact s.waiting hc
theorem next (h:TN n craft n5 M G X w0 x f m w) (word:Nat) (hw:word < 1000000) (hf:f < 10000):
    Calls Tryz.prog 57 #[.pointer (some ⟨G,0,none⟩),.int .i64 (word:Nat)] w fun e w'=>(∃ v,e=.returned v)/\TN n craft n5 M G X w0 x.nxt (f + 1) m w':=by
  obtain ⟨⟨F,C,P,O,va,vb,z,fr,tw,bg,Y,Gs,s,hs,e1,e2⟩,b⟩:=h
  refine (snext_any s word hw (by omega)).mono ?_
  rintro e w' ⟨e0,va',vb',z',fr',tw',s',b'⟩
  obtain ⟨Y',G',hs'⟩:=hs.next word (by omega)
  exact ⟨e0,⟨_,_,P,O,va',vb',z',fr',tw',bg,Y',G',s',hs',by rw [List.length_append]; show F.length + 1<=f + 1; omega,e2⟩,b.trans b'⟩
end TN
theorem box_sd {ev:Operand->Value} {o:Oper} {w:World} {x:Operand} {M:Nat} (h:o.op=.box 119 x) (hx:ev x=.agg #[.pointer (some ⟨M,0,none⟩),.slice none 0 0,.slice none 0 0,.slice none 0 0,.slice none 0 0,.slice none 0 0,.slice none 0 0,.bool false,.int .i64 0,.int .i64 0,.int .i64 0,.int .i64 0,.int .i64 0,.int .i64 0,.int .i64 0,.int .i64 0,.int .i64 0,.int .i64 0,.int .i64 0,.int .i64 0,.int .i64 0,.int .i64 0,.int .i64 0,.int .i64 0,.slice none 0 0]):(execOp ev o).run Tryz.prog w=.ok (.value (.pointer (some ⟨w.heap.size,0,none⟩))) (w.alloc (.cells #[.pointer (some ⟨M,0,none⟩),.slice none 0 0,.slice none 0 0,.slice none 0 0,.slice none 0 0,.slice none 0 0,.slice none 0 0,.bool false,.int .i64 0,.int .i64 0,.int .i64 0,.int .i64 0,.int .i64 0,.int .i64 0,.int .i64 0,.int .i64 0,.int .i64 0,.int .i64 0,.int .i64 0,.int .i64 0,.int .i64 0,.int .i64 0,.int .i64 0,.int .i64 0,.slice none 0 0] 119)):=by
  simp only [execOp,h,hx]; go_simp
def z0 (ok:Bool):Sz:=⟨.slice none 0 0,.slice none 0 0,.slice none 0 0,.slice none 0 0,.slice none 0 0,.slice none 0 0,ok,fun _=>0,fun _=>0,.slice none 0 0⟩
theorem sd_cells (M:Nat):∀ j,j < 25->(#[.pointer (some ⟨M,0,none⟩),.slice none 0 0,.slice none 0 0,.slice none 0 0,.slice none 0 0,.slice none 0 0,.slice none 0 0,.bool false,.int .i64 0,.int .i64 0,.int .i64 0,.int .i64 0,.int .i64 0,.int .i64 0,.int .i64 0,.int .i64 0,.int .i64 0,.int .i64 0,.int .i64 0,.int .i64 0,.int .i64 0,.int .i64 0,.int .i64 0,.int .i64 0,.slice none 0 0]:Array Value)[j]?=some (sC M (z0 false) j):=fun j hj=>by
  match j,hj with
  | 0,_=>rfl
  | 1,_=>rfl
  | 2,_=>rfl
  | 3,_=>rfl
  | 4,_=>rfl
  | 5,_=>rfl
  | 6,_=>rfl
  | 7,_=>rfl
  | 8,_=>rfl
  | 9,_=>rfl
  | 10,_=>rfl
  | 11,_=>rfl
  | 12,_=>rfl
  | 13,_=>rfl
  | 14,_=>rfl
  | 15,_=>rfl
  | 16,_=>rfl
  | 17,_=>rfl
  | 18,_=>rfl
  | 19,_=>rfl
  | 20,_=>rfl
  | 21,_=>rfl
  | 22,_=>rfl
  | 23,_=>rfl
  | 24,_=>rfl
  | k + 25,h=>exact absurd h (by omega)
theorem SN.start {n5 M G:Nat} {X:Nat->Nat} {x:Ch.Mx} {va vb:Nat->Value} {w:World} (p:PM w n5 M x X va vb) (o:x.Ok) (c:Cel w G 25 (sC M (z0 true))) (t:TyB w G 119) (hG:n5<=G):SN n5 M G X x [] [] [] [] va vb (z0 true) [] [] [] w:=by
  refine ⟨p,o,⟨⟨fun r hr=>?_,fun r hr g hg=>?_,fun i j a b g ha hb h1 h2=>?_⟩,c,t,Below.refl _ _,fun _ _=>rfl,fun g hg=>p.lt hg,hG,p.apart t (by decide),fun r hr=>?_⟩,rfl,rfl,rfl,rfl,rfl,rfl,Nat.zero_le _,Nat.zero_le _⟩
  · simp only [snR,List.mem_cons,List.not_mem_nil,or_false] at hr
    rcases hr with rfl | rfl | rfl | rfl | rfl | rfl | rfl <;> exact World.ownsRow_nil _ _ _ _
  · simp only [snR,List.mem_cons,List.not_mem_nil,or_false] at hr
    rcases hr with rfl | rfl | rfl | rfl | rfl | rfl | rfl <;> cases hg
  · have hr:=List.mem_of_getElem? ha
    simp only [snR,List.mem_cons,List.not_mem_nil,or_false] at hr
    rcases hr with rfl | rfl | rfl | rfl | rfl | rfl | rfl <;> cases h1
  simp only [snR,List.mem_cons,List.not_mem_nil,or_false] at hr
  rcases hr with rfl | rfl | rfl | rfl | rfl | rfl | rfl <;> decide
def seV (a1 a2 a3 a4 a5 a6:Option Addr) (n1 n2 n3 n4 n5 n6 c1 c2 c3 c4 c5 c6:Nat):Nat->Value
  | 0=>.slice a1 n1 c1
  | 1=>.slice a2 n2 c2
  | 2=>.slice a3 n3 c3
  | 3=>.slice a4 n4 c4
  | 4=>.slice a5 n5 c5
  | 5=>.slice a6 n6 c6
  | _=>.bool true
theorem seV_list (a1 a2 a3 a4 a5 a6:Option Addr) (n1 n2 n3 n4 n5 n6 c1 c2 c3 c4 c5 c6:Nat):∀ j,j < 7->([.slice a1 n1 c1,.slice a2 n2 c2,.slice a3 n3 c3,.slice a4 n4 c4,.slice a5 n5 c5,.slice a6 n6 c6,.bool true]:List Value)[j]?=some (seV a1 a2 a3 a4 a5 a6 n1 n2 n3 n4 n5 n6 c1 c2 c3 c4 c5 c6 j):=fun j hj=>by
  match j,hj with
  | 0,_=>rfl
  | 1,_=>rfl
  | 2,_=>rfl
  | 3,_=>rfl
  | 4,_=>rfl
  | 5,_=>rfl
  | 6,_=>rfl
def TP (n craft:Nat) (w:World) (e:Ending) (w':World):Prop:=∃ (F:List ByteArray) (C:List Nat) (P:List ByteArray) (O:List Nat) (a1 a2 a3 a4 a5 a6:Option Addr) (c1 c2 n5 n6 c3 c4 c5 c6:Nat) (Y:Nat->Ch.Dx) (Gs:Nat->Nat->List (List UInt8)),
  e=.returned (.agg #[.slice a1 F.length c1,.slice a2 C.length c2,.slice a3 P.length c3,.slice a4 O.length c4,.slice a5 n5 c5,.slice a6 n6 c6,.bool true]) ∧
  w'.ownsRow w.heap.size 9 1 (.slice a1 F.length c1) F.length (strVs F)/\w'.ownsRow w.heap.size 3 1 (.slice a2 C.length c2) C.length (nVs C) ∧
  w'.ownsRow w.heap.size 9 1 (.slice a3 P.length c3) P.length (strVs P)/\w'.ownsRow w.heap.size 3 1 (.slice a4 O.length c4) O.length (nVs O) ∧
  C.length=F.length/\O.length=P.length/\F.length<=10000/\P.length<=40 ∧
  (∃ x,Ch.Hs n craft F C x (pf P O) Y Gs/\(∀ c,c < 8->x.wt c=0)/\Below w.heap.size w w')
theorem tok_any (q:StA) (la:Option Addr) (lc:Nat) (l:List LdB) (hl:l.length<=40) (hok:NmOk q.c q.n q.pr q.sh) (w:World) (hr:Lds w la l):Calls Tryz.prog 25 #[stVal q,.slice la l.length lc] w fun e w'=>TP q.n.toNat q.c.toNat w e w':=by
  have NW:Hid (∀ w,Calls Tryz.prog 9 #[.int .i64 q.c,.int .i64 q.n,.agg (list8 q.pr).toArray,.agg (list8 q.sh).toArray] w fun e w'=>∃ M X va vb,e=.returned (.tuple #[.pointer (some ⟨M,0,none⟩),.int .i64 0])/\PM w' w.heap.size M (Ch.Mx.new q.n.toNat q.c.toNat (fun i=>(q.pr i).toNat) (fun i=>(q.sh i).toNat)) X va vb/\Below w.heap.size w w'):=Lib.hid (fun w=>by
    refine (newMux_any q.c q.n q.pr q.sh w).mono ?_
    rintro e w' ⟨hb,⟨hn,_⟩ | ⟨_,M,X,va,vb,e1,p⟩⟩
    · exact absurd hok hn
    exact ⟨M,X,va,vb,e1,p,hb⟩)
  obtain ⟨x0,hx0⟩:∃ x0,Ch.Mx.new q.n.toNat q.c.toNat (fun i=>(q.pr i).toNat) (fun i=>(q.sh i).toNat)=x0:=⟨_,rfl⟩
  rw [hx0] at NW
  have HX:=Lib.hid (show x0.Ok/\Ch.Hs q.n.toNat q.c.toNat [] [] x0 (pf [] []) (fun _=>Ch.Dx.new q.n.toNat q.c.toNat) (fun _ _=>[])/\(∀ c,x0.wt c=0) by
    obtain ⟨⟨h1,h2⟩,⟨h3,h4⟩,h5⟩:=hok
    have o:(Ch.Mx.new q.n.toNat q.c.toNat (fun i=>(q.pr i).toNat) (fun i=>(q.sh i).toNat)).Ok:=Ch.Mx.Ok.new (by omega) (by omega) (by omega) (fun i hi=>by have:=h5 i hi; omega) (fun i hi=>by have:=h5 i hi; omega) (fun i hi=>by have:=h5 i hi; omega)
    rw [<-hx0]
    exact ⟨o,Ch.Hs.start o (Ch.Dx.Ok.new (by omega) (by omega) (by omega)),fun c=>rfl⟩)
  obtain ⟨cn,hcn⟩:∃ k,q.n.toNat=k:=⟨_,rfl⟩
  obtain ⟨cc,hcc⟩:∃ k,q.c.toNat=k:=⟨_,rfl⟩
  rw [hcn,hcc] at HX ⊢
  obtain ⟨N,hN⟩:∃ N,l.length=N:=⟨_,rfl⟩
  have HN:=Lib.hid hN
  have N40:=Lib.hid (show N<=40 by omega)
  rw [hN]
  have HRL:=Lib.hid hr
  clear hok hx0 hcn hcc hN hl hr
  go_enter Tryz.func25,Tryz.ntmps25
  go_upto_region 1 with (first
    | ((with_reducible refine atList ?_); refine wpList_newT rfl (.box 24 (.tmp 0)) rfl (some 2) rfl #[.int .i64 q.c,.int .i64 q.n,.int .i64 (q.pr 0),.int .i64 (q.pr 1),.int .i64 (q.pr 2),.int .i64 (q.pr 3),.int .i64 (q.pr 4),.int .i64 (q.pr 5),.int .i64 (q.pr 6),.int .i64 (q.pr 7),.int .i64 (q.sh 0),.int .i64 (q.sh 1),.int .i64 (q.sh 2),.int .i64 (q.sh 3),.int .i64 (q.sh 4),.int .i64 (q.sh 5),.int .i64 (q.sh 6),.int .i64 (q.sh 7)] 24 (fun X=>.pointer (some ⟨X,0,none⟩)) 18 (stC q) (st_cells' q) (box_st rfl rfl) ?_; intro Zs w1 HZ SZ CZ BZ TZ)
    | ((with_reducible refine atList ?_); refine wpList_newT rfl (.alloc 74) rfl (some 4) rfl #[.slice none 0 0,.slice none 0 0,.slice none 0 0,.slice none 0 0,.slice none 0 0,.slice none 0 0,.bool false] 74 (fun X=>.pointer (some ⟨X,0,none⟩)) 7 seZ seZ_cells (alloc_se rfl) ?_; intro Rs w2 HR SR CR BR TR))
  have B2:=Lib.hid (bt BZ.out BR.out)
  have CZ2:=Lib.hid (CZ.out.below BR.out)
  have NR:=Lib.hid (show w.heap.size<=Rs by have:=HR.out; have:=BZ.out.size; omega)
  have HR2:=Lib.hid (HRL.out.below B2.out)
  have z0:w2.cell? ⟨Zs,0,none⟩=some (.int .i64 q.c):=CZ2.out.cell (j:=0) (by omega)
  have z1:w2.cell? ⟨Zs,1,none⟩=some (.int .i64 q.n):=CZ2.out.cell (j:=1) (by omega)
  clear HZ SZ CZ BZ TZ SR BR HRL
  go_wp2_with (first
    | ((with_reducible refine atList ?_); refine wpList_load_mid rfl 22 (.tmp 19) rfl Zs 2 rfl (list8 q.pr) _ (st_range CZ2.out).1 Tryz.underlying22 rfl info_a8 ?_)
    | ((with_reducible refine atList ?_); refine wpList_load_mid rfl 22 (.tmp 21) rfl Zs 10 rfl (list8 q.sh) _ (st_range CZ2.out).2 Tryz.underlying22 rfl info_a8 ?_))
  (with_reducible refine (NW.out _).mono ?_)
  rintro e w3 ⟨M,X,va,vb,rfl,P3,h3⟩
  have HP:=Lib.hid P3
  have B3:=Lib.hid h3
  clear h3 P3 CZ2 z0 z1 NW
  go_upto_region 5 with ((with_reducible refine atList ?_); refine wpList_newT rfl (.box 119 (.tmp 30)) rfl (some 31) rfl #[.pointer (some ⟨M,0,none⟩),.slice none 0 0,.slice none 0 0,.slice none 0 0,.slice none 0 0,.slice none 0 0,.slice none 0 0,.bool false,.int .i64 0,.int .i64 0,.int .i64 0,.int .i64 0,.int .i64 0,.int .i64 0,.int .i64 0,.int .i64 0,.int .i64 0,.int .i64 0,.int .i64 0,.int .i64 0,.int .i64 0,.int .i64 0,.int .i64 0,.int .i64 0,.slice none 0 0] 119 (fun X=>.pointer (some ⟨X,0,none⟩)) 25 (sC M (z0 false)) (sd_cells M) (box_sd rfl rfl) ?_; intro G w4 HG SG CG BG TG)
  have c7:w4.cell? ⟨G,7,none⟩=some (.bool false):=CG.out.cell (j:=7) (by omega)
  have f7:w4.frozen? ⟨G,7,none⟩=false:=CG.out.frozen (by omega)
  have n5G:=Lib.hid (show w2.heap.size<=G by have:=HG.out; have:=B3.out.size; omega)
  go_upto_region 6 with fail
  obtain ⟨n5,hn5⟩:∃ n5,w2.heap.size=n5:=⟨_,rfl⟩
  have L0:Hid (TN cn cc n5 M G X w2 x0 0 0 (w4.setCell ⟨G,7,none⟩ (.bool true))):=Lib.hid (by
    have u:But G w4 (w4.setCell ⟨G,7,none⟩ (.bool true)):=(But.refl G w4).setCell 7 _
    have p4:=HP.out.below BG.out
    rw [hn5] at p4
    have tG:TyB (w4.setCell ⟨G,7,none⟩ (.bool true)) G 119:=by
      obtain ⟨cur,fe,hh⟩:=TG.out
      obtain ⟨c',hc'⟩:=cells_setCell (i:=7) (u:=.bool true) hh
      exact ⟨c',fe,hc'⟩
    have p5:=p4.keep (w':=w4.setCell ⟨G,7,none⟩ (.bool true)) (fun g hg=>u.rest g (p4.lt hg) (fun e=>p4.apart TG.out (by decide) (e ▸ hg)))
    have c5:=(CG.out.set 7 (.bool true)).congr (g:=sC M (z0 true)) (fun j hj=>by
      by_cases e:j=7
      · subst e; rfl
      rw [if_neg e]
      unfold sC
      split <;> first | rfl | exact absurd rfl e)
    have s5:=SN.start p5 HX.out.1 c5 tG (by rw [<-hn5]; exact n5G.out)
    refine ⟨⟨[],[],[],[],va,vb,_,[],[],[],_,_,s5,HX.out.2.1,Nat.le_refl _,rfl⟩,?_⟩
    rw [<-hn5]
    exact (bt B3.out BG.out).trans (u.below.mono n5G.out))
  have S0:=Lib.hid (show Ch.s8 x0.wt<=206 * 0 by unfold Ch.s8; rw [HX.out.2.2,HX.out.2.2,HX.out.2.2,HX.out.2.2,HX.out.2.2,HX.out.2.2,HX.out.2.2,HX.out.2.2]; exact Nat.le_refl _)
  obtain ⟨w5,hw5⟩:∃ z,w4.setCell ⟨G,7,none⟩ (.bool true)=z:=⟨_,rfl⟩
  rw [hw5] at L0 ⊢
  have RN5:=Lib.hid (show Rs < n5 by rw [<-hn5]; exact CR.out.lt)
  clear hw5 c7 f7 HG SG CG BG TG HP B3 HX n5G
  go_wp2_with fail
  go_loopw [8] (fun i wr=>∃ k:Nat,k<=N/\i=.int .i64 k/\∃ x:Ch.Mx,TN cn cc n5 M G X w2 x (3 * k) k wr/\Ch.s8 x.wt<=206 * k) (fun i _=>N - (intOf i).toNat)
  case atStart=>exact ⟨0,Nat.zero_le _,rfl,x0,L0.out,S0.out⟩
  case round=>
    obtain ⟨k,hk,rfl,x,hB,hS⟩:=hrel
    have HB:=Lib.hid hB
    have HS:=Lib.hid hS
    clear hB hS L0 S0
    by_cases hlt:k < N
    · obtain ⟨ld,hld⟩:∃ q,l[k]?=some q:=⟨_,List.getElem?_eq_getElem (by rw [HN.out]; exact hlt)⟩
      obtain ⟨Bl,off,ela,hc3,wf0,wf1,wf2⟩:∃ Bl off,la=some ⟨Bl,off,none⟩/\(∀ w',Below n5 w2 w'->∀ j u,(ldCells ld)[j]?=some u->w'.cell? ⟨Bl,off + k * 3 + j,none⟩=some u)/\LdWf ld:=by
        rcases HR2.out with e | ⟨Bl,off,e,hb,hc⟩
        · rw [e] at hld; cases hld
        obtain ⟨c1,c2⟩:=hc k ld hld
        exact ⟨Bl,off,e,fun w' hw' j u hu=>(hw'.cell (p:=⟨Bl,off + k * 3 + j,none⟩) (by rw [<-hn5]; exact hb)).trans (c1 j u hu),c2⟩
      have HC3:=Lib.hid hc3
      have a0:wr.cell? ⟨Bl,off + k * 3,none⟩=some (.int .i64 ld.c):=HC3.out wr HB.out.b 0 _ rfl
      have a1:wr.cell? ⟨Bl,off + k * 3 + 1,none⟩=some (.int .i64 ld.n):=HC3.out wr HB.out.b 1 _ rfl
      have PK8:Hid (∀ w:World,Calls Tryz.prog 11 #[.int .i64 ld.c,.int .i64 8] w fun e w'=>e=.returned (.int .i64 ((ld.c % 8).toNat:Nat))/\w=w'):=Lib.hid (fun w=>pick_any ld.c wf0 8 (by omega) (by omega) w)
      have PK2:Hid (∀ w:World,Calls Tryz.prog 11 #[.int .i64 ld.n,.int .i64 200] w fun e w'=>e=.returned (.int .i64 ((ld.n % 200).toNat:Nat))/\w=w'):=Lib.hid (fun w=>pick_any ld.n wf1 200 (by omega) (by omega) w)
      have PK4:Hid (∀ w:World,Calls Tryz.prog 11 #[.int .i64 ld.f,.int .i64 4] w fun e w'=>e=.returned (.int .i64 ((ld.f % 4).toNat:Nat))/\w=w'):=Lib.hid (fun w=>pick_any ld.f wf2 4 (by omega) (by omega) w)
      obtain ⟨c,hcc⟩:∃ c,(ld.c % 8).toNat=c:=⟨_,rfl⟩
      obtain ⟨sz,hsz⟩:∃ c,(ld.n % 200).toNat=c:=⟨_,rfl⟩
      obtain ⟨f4,hf4⟩:∃ c,(ld.f % 4).toNat=c:=⟨_,rfl⟩
      rw [hcc] at PK8
      rw [hsz] at PK2
      rw [hf4] at PK4
      have C8:=Lib.hid (show c < 8 by omega)
      have Z2:=Lib.hid (show sz < 200 by omega)
      have F4:=Lib.hid (show f4 < 4 by omega)
      obtain ⟨pk,hpk⟩:∃ pk,bs (Ch.mk (7 + sz) k)=pk:=⟨_,rfl⟩
      have MD:Hid (∀ w:World,Calls Tryz.prog 27 #[.int .i64 (7 + (sz:Int)),.int .i64 (k:Nat)] w fun e w'=>e=.returned (.string pk)/\Below w.heap.size w w'):=Lib.hid (fun w=>by
        have:=cmade_any (7 + sz) k (by omega) (by omega) (by have:=N40.out; omega) w
        rw [hpk,show ((7 + sz:Nat):Int)=7 + (sz:Int) by omega] at this
        exact this)
      have BU:=Lib.hid (show Pk.busy pk.data.toList=true by rw [<-hpk,bs_list]; exact Ch.mk_busy (7 + sz) k (by omega) (by omega) (by have:=N40.out; omega))
      have PS:=Lib.hid (show pk.size=7 + sz by rw [<-hpk,bs_size,Ch.mk_len _ _ (by omega)])
      have e7:IntKind.i64.wrap (7 + (sz:Int))=((7 + sz:Nat):Int):=by rw [IntKind.wrap_i64]; omega
      have k0:(0:Int)<=(k:Int):=by omega
      have k1:(k:Int) < (N:Int):=by omega
      have k2:(k:Int) < 40:=by have:=N40.out; omega
      have KN:=Lib.hid hlt
      subst ela
      clear hlt hk hld hc3 wf0 wf1 wf2 hcc hsz hf4 hpk
      go_wp2_with fail
      (with_reducible refine (PK8.out _).mono ?_)
      rintro e w6 ⟨rfl,rfl⟩
      go_wp2_with fail
      (with_reducible refine (PK2.out _).mono ?_)
      rintro e w6 ⟨rfl,rfl⟩
      go_wp2_with fail
      (with_reducible refine (MD.out _).mono ?_)
      rintro e w6 ⟨rfl,b6⟩
      have HB6:=Lib.hid (HB.out.below b6)
      clear b6 HB a0 a1 PK8 PK2 MD e7
      obtain ⟨⟨F,Cl,P,O,va1,vb1,z,fr,tw,bg,Y,Gs,s6,hs6,lF,lP⟩,b6⟩:=HB6.out
      have WB:=Lib.hid (show x.wt c + pk.size<=65536 by have:=Ch.wt_sum x C8.out; have:=HS.out; have:=PS.out; have:=Z2.out; have:=KN.out; have:=N40.out; omega)
      have AD:=Lib.hid (mAdd_any s6.pm s6.ok s6.n5w c C8.out pk (by have:=PS.out; have:=Z2.out; omega))
      rw [show acV (x.fl c) pk=0 by unfold acV; rw [if_pos BU.out,if_neg (by have:x.wt c=Tm.wait (x.fl c).q:=rfl; have:=WB.out; omega)]] at AD
      have S6:=Lib.hid s6
      have HS6:=Lib.hid hs6
      have LF:=Lib.hid lF
      have LP:=Lib.hid lP
      have B6:=Lib.hid b6
      have j7:w6.cell? ⟨G,7,none⟩=some (.bool true):=(s6.cell (j:=7) (by omega)).trans (by show some (Value.bool z.ok)=_; rw [s6.zk])
      clear s6 hs6 lF lP b6 HB6
      go_wp2_with fail
      (with_reducible refine (AD.out).mono ?_)
      rintro e w7 ⟨rfl,va2,vb2,p7,k7⟩
      have B7:=Lib.hid (B6.out.trans k7.below)
      have S7:=Lib.hid (S6.out.mux p7 (S6.out.ok.add c C8.out pk) k7)
      have H7:=Lib.hid (HS6.out.add C8.out BU.out WB.out)
      clear p7 k7 AD j7 S6 HS6 B6
      have j7:w7.cell? ⟨G,7,none⟩=some (.bool true):=(S7.out.cell (j:=7) (by omega)).trans (by show some (Value.bool z.ok)=_; rw [S7.out.zk])
      have f7:w7.frozen? ⟨G,7,none⟩=false:=S7.out.sw.cel.frozen (by omega)
      go_upto_region 12 with fail
      have S8:=Lib.hid (show SW n5 G (SM M X va2 vb2) w7 (snR z F Cl P O fr tw bg) (sC M z) (w7.setCell ⟨G,7,none⟩ (.bool true)) from
        (S7.out.sw.put 7 (.bool true)).congr (fun j hj=>by
          by_cases e:j=7
          · subst e
            rw [if_pos rfl]
            show _=Value.bool z.ok
            rw [S7.out.zk]
          rw [if_neg e]))
      obtain ⟨w8,hw8⟩:∃ q,w7.setCell ⟨G,7,none⟩ (.bool true)=q:=⟨_,rfl⟩
      rw [hw8] at S8 ⊢
      clear hw8 j7 f7
      have W8:=Lib.hid (show Wt n5 G M (SM M X va2 vb2) w7 z (strVs P) (nVs O) (iVs fr) (iVs tw) pk c [⟨z.v1,9,strVs F⟩,⟨z.v2,3,nVs Cl⟩,⟨z.v7,3,iVs bg⟩] 0 z.v3 0 z.v4 0 z.v5 0 z.v6 false false false false false false false false false false false false w8.drew from
        (S8.out.pick [.inr 2,.inr 3,.inr 4,.inr 5,.inl 9,.inl 3,.inl 3,.inl 3,.inr 0,.inr 1,.inr 6] (by intro j hj; simp at hj; simp; omega) (by unfold Once; decide) (by intro t ht; simp at ht; rcases ht with rfl | rfl <;> decide)).below (Below.refl _ _).drew)
      have Y3:=Lib.hid (S8.out.is (i:=2) rfl)
      have Y4:=Lib.hid (S8.out.is (i:=3) rfl)
      have Y5:=Lib.hid (S8.out.is (i:=4) rfl)
      have Y6:=Lib.hid (S8.out.is (i:=5) rfl)
      have Y7:=Lib.hid (S8.out.is (i:=6) rfl)
      have CP:=Lib.hid S7.out.cP
      refine swRegion12 n5 G M (SM M X va2 vb2) w7 z (strVs P) (nVs O) (iVs fr) (iVs tw) pk c _ W8.out Y3.out (by rw [strVs_len]; have:=CP.out; omega) Y4.out (by rw [nVs_len,S7.out.lo]; have:=CP.out; omega) Y5.out (by rw [iVs_len,S7.out.lf]; have:=CP.out; omega) Y6.out (by rw [iVs_len,S7.out.lt]; have:=CP.out; omega) (by kernel_rfl) rfl rfl rfl rfl rfl rfl rfl rfl rfl rfl rfl rfl rfl rfl rfl rfl rfl rfl rfl rfl rfl rfl rfl rfl rfl rfl rfl rfl rfl rfl rfl rfl rfl rfl rfl rfl rfl rfl rfl rfl rfl rfl rfl rfl rfl rfl rfl rfl rfl rfl rfl rfl rfl ?_
      intro b1 u3 b2 u4 b3 u5 b4 u6 w9a hW9a
      obtain ⟨a6,n6,c6,hu6⟩:=tsl4 rfl hW9a
      subst hu6
      obtain ⟨x6,y1,y2,hW9⟩:=tput4 rfl hW9a
      simp only [Act.put,List.setIfInBounds_toArray,List.set_cons_succ,List.set_cons_zero,List.drop_succ_cons,List.drop_zero]
      go_upto_region 13 with fail
      obtain ⟨w9,hw9⟩:∃ q,w9a.setCell ⟨G,6,none⟩ (.slice a6 n6 c6)=q:=⟨_,rfl⟩
      rw [hw9] at hW9 ⊢
      obtain ⟨z9,hz9⟩:∃ z9,({ z with v3:=u3,v4:=u4,v5:=u5,v6:=.slice a6 n6 c6 }:Sz)=z9:=⟨_,rfl⟩
      have eR:=Lib.hid (show snR z9 F Cl (P ++ [pk]) (O ++ [c]) (fr ++ [-1]) (tw ++ [-1]) bg=[⟨z.v1,9,strVs F⟩,⟨z.v2,3,nVs Cl⟩,⟨u3,9,strVs P ++ [.string pk]⟩,⟨u4,3,nVs O ++ [.int .i64 (c:Nat)]⟩,⟨u5,3,iVs fr ++ [.int .i64 (-1)]⟩,⟨.slice a6 n6 c6,3,iVs tw ++ [.int .i64 (-1)]⟩,⟨z.v7,3,iVs bg⟩] by rw [<-hz9,strVs_add,nVs_add,iVs_add,iVs_add])
      have S9:=Lib.hid (show SW n5 G (SM M X va2 vb2) w7 (snR z9 F Cl (P ++ [pk]) (O ++ [c]) (fr ++ [-1]) (tw ++ [-1]) bg) (sC M z9) w9 by
        rw [eR.out,<-hz9]
        exact SW.pick hW9 [.inr 8,.inr 9,.inr 0,.inr 1,.inr 2,.inr 3,.inr 10] (by intro j hj; simp at hj; simp; omega) (by unfold Once; decide) (by intro t ht; simp at ht))
      have ZK:=Lib.hid (show z9.ok=true by rw [<-hz9]; exact S7.out.zk)
      clear hw9 hz9 eR y1 y2 hW9a hW9 W8 S8 Y3 Y4 Y5 Y6
      obtain ⟨xb,hxb⟩:∃ xb,z9.by' c=xb:=⟨_,rfl⟩
      have W9:=Lib.hid (show Wg n5 G M (SM M X va2 vb2) w7 z9 (iVs bg) xb [⟨z9.v1,9,strVs F⟩,⟨z9.v2,3,nVs Cl⟩,⟨z9.v3,9,strVs (P ++ [pk])⟩,⟨z9.v4,3,nVs (O ++ [c])⟩,⟨z9.v5,3,iVs (fr ++ [-1])⟩,⟨z9.v6,3,iVs (tw ++ [-1])⟩] 0 z9.v7 false false false w9.drew from
        (S9.out.pick [.inr 6,.inl 3,.inr 0,.inr 1,.inr 2,.inr 3,.inr 4,.inr 5] (by intro j hj; simp at hj; simp; omega) (by unfold Once; decide) (by intro t ht; simp at ht; subst ht; decide)).below (Below.refl _ _).drew)
      have Y7':=Lib.hid (S9.out.is (i:=6) rfl)
      refine swRegion13 n5 G M (SM M X va2 vb2) w7 z9 (iVs bg) xb c _ W9.out Y7'.out (by rw [iVs_len,S7.out.lb]; have:=CP.out; omega) C8.out hxb (by kernel_rfl) rfl rfl rfl rfl rfl rfl rfl rfl rfl rfl rfl rfl rfl rfl rfl rfl rfl rfl ?_
      intro b5 u7 w10a hW10a
      obtain ⟨a7,n7,c7,hu7⟩:=gsl1 rfl hW10a
      subst hu7
      obtain ⟨x7,y1,y2,hW10⟩:=gput1 rfl hW10a
      simp only [Act.put,List.setIfInBounds_toArray,List.set_cons_succ,List.set_cons_zero,List.drop_succ_cons,List.drop_zero]
      go_upto_region 14 with fail
      obtain ⟨w10,hw10⟩:∃ q,w10a.setCell ⟨G,24,none⟩ (.slice a7 n7 c7)=q:=⟨_,rfl⟩
      rw [hw10] at hW10 ⊢
      obtain ⟨z10,hz10⟩:∃ z10,({ z9 with v7:=.slice a7 n7 c7 }:Sz)=z10:=⟨_,rfl⟩
      have eR:=Lib.hid (show snR z10 F Cl (P ++ [pk]) (O ++ [c]) (fr ++ [-1]) (tw ++ [-1]) (bg ++ [xb])=[⟨z9.v1,9,strVs F⟩,⟨z9.v2,3,nVs Cl⟩,⟨z9.v3,9,strVs (P ++ [pk])⟩,⟨z9.v4,3,nVs (O ++ [c])⟩,⟨z9.v5,3,iVs (fr ++ [-1])⟩,⟨z9.v6,3,iVs (tw ++ [-1])⟩,⟨.slice a7 n7 c7,3,iVs bg ++ [.int .i64 xb]⟩] by rw [<-hz10,iVs_add])
      have S10:=Lib.hid (show SW n5 G (SM M X va2 vb2) w7 (snR z10 F Cl (P ++ [pk]) (O ++ [c]) (fr ++ [-1]) (tw ++ [-1]) (bg ++ [xb])) (sC M z10) w10 by
        rw [eR.out,<-hz10]
        exact SW.pick hW10 [.inr 2,.inr 3,.inr 4,.inr 5,.inr 6,.inr 7,.inr 0] (by intro j hj; simp at hj; simp; omega) (by unfold Once; decide) (by intro t ht; simp at ht))
      have ZK2:=Lib.hid (show z10.ok=true by rw [<-hz10]; exact ZK.out)
      clear hw10 hz10 eR y1 y2 hW10a hW10 W9 S9 ZK hxb Y7 Y7'
      obtain ⟨yb,hyb⟩:∃ yb,IntKind.i64.wrap (z10.by' c + (pk.size:Nat))=yb:=⟨_,rfl⟩
      have c0:(0:Int)<=(c:Int):=by omega
      have c1:(c:Int) < 8:=by have:=C8.out; omega
      refine swRegion14 n5 G M (SM M X va2 vb2) w7 z10 (snR z10 F Cl (P ++ [pk]) (O ++ [c]) (fr ++ [-1]) (tw ++ [-1]) (bg ++ [xb])) pk c yb (S10.out.below (Below.refl _ _).drew) C8.out hyb (by kernel_rfl) rfl rfl rfl rfl rfl rfl rfl rfl rfl rfl rfl rfl rfl rfl rfl rfl rfl rfl ?_
      intro w11a hW11a
      obtain ⟨x8,y1,y2,hW11⟩:=wput C8.out hW11a
      simp only [Act.put,List.setIfInBounds_toArray,List.set_cons_succ,List.set_cons_zero,List.drop_succ_cons,List.drop_zero]
      go_upto_region 15 with fail
      obtain ⟨w11,hw11⟩:∃ q,w11a.setCell ⟨G,8 + c,none⟩ (.int .i64 yb)=q:=⟨_,rfl⟩
      rw [hw11] at hW11 ⊢
      have T11:=Lib.hid (show TN cn cc n5 M G X w2 (x.add c pk) (3 * k) (k + 1) w11 by
        have s11:SW n5 G (SM M X va2 vb2) w7 (snR ({ z10 with by':=Ch.upd z10.by' c yb }:Sz) F Cl (P ++ [pk]) (O ++ [c]) (fr ++ [-1]) (tw ++ [-1]) (bg ++ [xb])) (sC M { z10 with by':=Ch.upd z10.by' c yb }) w11:=hW11
        have s:=S7.out.with' s11 ZK2.out (by rw [List.length_append,List.length_append,S7.out.lf]; rfl) (by rw [List.length_append,List.length_append,S7.out.lt]; rfl) (by rw [List.length_append,List.length_append,S7.out.lb]; rfl) (by rw [List.length_append,List.length_append,S7.out.lo]; rfl) S7.out.lc S7.out.cF (by rw [List.length_append,LP.out]; have:=KN.out; have:=N40.out; show k + 1<=1000; omega)
        have hs:=H7.out
        rw [pf_add S7.out.lo] at hs
        exact ⟨⟨_,_,_,_,_,_,_,_,_,_,_,_,s,hs,LF.out,by rw [List.length_append,LP.out]; rfl⟩,B7.out.trans s11.low⟩)
      have SUM:=Lib.hid (show Ch.s8 (x.add c pk).wt<=206 * (k + 1) by rw [Ch.sum_add C8.out BU.out WB.out]; have:=HS.out; have:=PS.out; have:=Z2.out; omega)
      clear hw11 hW11 hW11a y1 y2 S7 H7 S10 ZK2 LF LP B7 HS BU PS WB CP C8 Z2 c0 c1 hyb
      go_wp2_with fail
      go_loopw [11] (fun j wj=>∃ m:Nat,m<=f4/\j=.int .i64 m/\∃ x':Ch.Mx,TN cn cc n5 M G X w2 x' (3 * k + m) (k + 1) wj/\Ch.s8 x'.wt<=206 * (k + 1)) (fun j _=>f4 - (intOf j).toNat)
      case atStart=>exact ⟨0,Nat.zero_le _,rfl,_,T11.out,SUM.out⟩
      case round=>
        obtain ⟨m,hm,rfl,x1,hT,hS⟩:=hrel
        rename World=>wj
        have HT:=Lib.hid hT
        have HS1:=Lib.hid hS
        clear hT hS T11 SUM
        have a2:wj.cell? ⟨Bl,off + k * 3 + 2,none⟩=some (.int .i64 ld.f):=HC3.out wj HT.out.b 2 _ rfl
        by_cases hlt:m < f4
        · have d1:decide ((m:Int) < (f4:Int))=true:=decide_eq_true (by omega)
          have d1n:decide (m < f4)=true:=decide_eq_true hlt
          have m0:(0:Int)<=(m:Int):=by omega
          have m1:(m:Int) < 4:=by have:=F4.out; omega
          have NX:=Lib.hid (HT.out.next k (by have:=N40.out; have:=KN.out; omega) (by have:=N40.out; have:=KN.out; have:=F4.out; omega))
          have ML:=Lib.hid hlt
          clear hlt hm
          go_wp2_with fail
          (with_reducible refine (PK4.out _).mono ?_)
          rintro e w12 ⟨rfl,rfl⟩
          go_wp2_with fail
          (with_reducible refine NX.out.mono ?_)
          rintro e w12 ⟨⟨v12,rfl⟩,t12⟩
          have HT2:=Lib.hid t12
          clear t12 a2
          go_wp2_with fail
          go_roundw
          case rel=>exact ⟨m + 1,by have:=ML.out; omega,by go_num,x1.nxt,HT2.out,Nat.le_trans (Ch.sum_nxt HT.out.ok) HS1.out⟩
          case measure=>simp [intOf]; have:=ML.out; omega
        obtain rfl:m=f4:=by omega
        have d1:decide ((m:Int) < (m:Int))=false:=decide_eq_false (by omega)
        have d1n:decide (m < m)=false:=decide_eq_false (by omega)
        clear hlt hm
        go_wp2_with fail
        (with_reducible refine (PK4.out _).mono ?_)
        rintro e w12 ⟨rfl,rfl⟩
        go_wp2_with fail
        go_roundw
        case rel=>exact ⟨k + 1,by have:=KN.out; omega,by go_num,x1,HT.out.mono (by have:=F4.out; omega),HS1.out⟩
        case measure=>simp [intOf]; have:=KN.out; omega
    obtain rfl:k=N:=by omega
    have d1:decide ((k:Int) < (k:Int))=false:=decide_eq_false (by omega)
    have d1n:decide (k < k)=false:=decide_eq_false (by omega)
    have T0:=Lib.hid (HB.out.mono (show 3 * k<=120 + 400 * 0 by have:=N40.out; omega))
    have P0:=Lib.hid (show Ch.Phi x<=324 by have:=Ch.Phi_bytes x; have:=HS.out; have:=N40.out; omega)
    clear hlt hk HB HS HR2 HN
    go_wp2_with fail
    go_loopw [12] (fun i wr=>∃ j:Nat,j<=8/\i=.int .i64 j/\∃ x:Ch.Mx,TN cn cc n5 M G X w2 x (120 + 400 * j) k wr/\Ch.Phi x<=324/\∀ a,a < j->x.wt a=0) (fun i _=>8 - (intOf i).toNat)
    case atStart=>exact ⟨0,by omega,rfl,x,T0.out,P0.out,fun a ha=>absurd ha (Nat.not_lt_zero a)⟩
    case round=>
      obtain ⟨j,hj,rfl,x1,hT,hP,hZ⟩:=hrel
      rename World=>wj
      have HT:=Lib.hid hT
      have HP:=Lib.hid hP
      have HZ:=Lib.hid hZ
      clear hT hP hZ T0 P0 d1 d1n
      by_cases hlt:j < 8
      · have j0:(0:Int)<=(j:Int):=by omega
        have j1:(j:Int) < 8:=by omega
        have J8:=Lib.hid hlt
        have L4:Hid (∃ x2:Ch.Mx,TN cn cc n5 M G X w2 x2 (120 + 400 * j + 0) k wj/\0 + Ch.Phi x2<=324/\∀ a,a < j->x2.wt a=0):=Lib.hid ⟨x1,HT.out,by have:=HP.out; omega,HZ.out⟩
        clear hlt hj HT HP HZ
        go_wp2_with fail
        go_loopw [13] (fun t wt=>∃ m:Nat,m<=324/\t=.int .i64 m/\∃ x2:Ch.Mx,TN cn cc n5 M G X w2 x2 (120 + 400 * j + m) k wt/\m + Ch.Phi x2<=324/\∀ a,a < j->x2.wt a=0) (fun t _=>400 - (intOf t).toNat)
        case atStart=>exact ⟨0,by omega,rfl,L4.out⟩
        case round=>
          obtain ⟨m,hm,rfl,x2,hT,hP,hZ⟩:=hrel
          rename World=>wt
          have HT:=Lib.hid hT
          have HP:=Lib.hid hP
          have HZ:=Lib.hid hZ
          clear hT hP hZ L4
          have m0:(0:Int)<=(m:Int):=by omega
          have m1:(m:Int) < 400:=by omega
          have d1:decide ((m:Int) < 400)=true:=decide_eq_true m1
          have d1n:decide (m < 400)=true:=decide_eq_true (by omega)
          have WQ:=Lib.hid (HT.out.waiting J8.out)
          obtain ⟨a,ha⟩:∃ a,x2.wt j=a:=⟨_,rfl⟩
          rw [ha] at WQ
          by_cases q0:a=0
          · subst q0
            have p1:decide ((0:Int) < ((0:Nat):Int))=false:=by decide
            have p1n:decide ((0:Nat) < 0)=false:=by decide
            go_wp2_with fail
            (with_reducible refine WQ.out.mono ?_)
            rintro e w12 ⟨rfl,mq,rfl⟩
            obtain ⟨w12,hw12⟩:∃ q,wt.drewN mq=q:=⟨_,rfl⟩
            have HT2:=Lib.hid (HT.out.below (w':=w12) (by rw [<-hw12]; exact below_drewN (Below.refl _ _) _))
            rw [hw12]
            clear hw12 WQ
            have WQ2:=Lib.hid (HT2.out.waiting J8.out)
            rw [ha] at WQ2
            have c7:=HT2.out.c7.1
            have f7:=HT2.out.c7.2
            clear hm d1 d1n m0 m1
            go_wp2_with fail
            (with_reducible refine WQ2.out.mono ?_)
            rintro e w13 ⟨rfl,mq,rfl⟩
            obtain ⟨w13,hw13⟩:∃ q,w12.drewN mq=q:=⟨_,rfl⟩
            have HT3:=Lib.hid (HT2.out.below (w':=w13) (by rw [<-hw13]; exact below_drewN (Below.refl _ _) _))
            rw [hw13]
            clear hw13 WQ2 c7 f7
            have c7:=HT3.out.c7.1
            have f7:=HT3.out.c7.2
            go_wp2_with fail
            go_roundw
            case rel=>exact ⟨j + 1,by have:=J8.out; omega,by go_num,x2,HT3.out.put7.mono (by have:=HP.out; omega),by have:=HP.out; omega,fun b hb=>by
              by_cases e:b=j
              · rw [e]; exact ha
              exact HZ.out b (by omega)⟩
            case measure=>simp [intOf]; have:=J8.out; omega
          have p1:decide ((0:Int) < (a:Int))=true:=decide_eq_true (by omega)
          have p1n:decide (0 < a)=true:=decide_eq_true (by omega)
          have NI:=Lib.hid (show ¬ x2.idle from fun z=>q0 (ha.symm.trans ((x2.idle_iff (by have:=HT.out.ok.n1; omega)).1 z j J8.out)))
          go_wp2_with fail
          (with_reducible refine WQ.out.mono ?_)
          rintro e w12 ⟨rfl,mq,rfl⟩
          obtain ⟨w12,hw12⟩:∃ q,wt.drewN mq=q:=⟨_,rfl⟩
          have HT2:=Lib.hid (HT.out.below (w':=w12) (by rw [<-hw12]; exact below_drewN (Below.refl _ _) _))
          rw [hw12]
          clear hw12 WQ
          have NX:=Lib.hid (HT2.out.next m (by omega) (by have:=J8.out; omega))
          go_wp2_with fail
          (with_reducible refine NX.out.mono ?_)
          rintro e w13 ⟨⟨v13,rfl⟩,t13⟩
          have HT3:=Lib.hid t13
          clear t13 NX
          have PL:=Lib.hid (Ch.Phi_less HT.out.ok NI.out)
          go_wp2_with fail
          go_roundw
          case rel=>exact ⟨m + 1,by have:=PL.out; have:=HP.out; omega,by go_num,x2.nxt,HT3.out,by have:=PL.out; have:=HP.out; omega,fun b hb=>by
            have:=Ch.wt_le HT.out.ok b (by have:=J8.out; omega)
            rw [HZ.out b hb] at this
            omega⟩
          case measure=>simp [intOf]; omega
      obtain rfl:j=8:=by omega
      clear hlt hj
      obtain ⟨⟨F,Cl,P,O,va1,vb1,z,fr,tw,bg,Y,Gs,s,hs,lF,lP⟩,b⟩:=HT.out
      obtain ⟨a1,c1,e1⟩:=own_is (s.sw.rows.at' (i:=0) rfl)
      obtain ⟨a2,c2,e2⟩:=own_is (s.sw.rows.at' (i:=1) rfl)
      obtain ⟨a3,c3,e3⟩:=own_is (s.sw.rows.at' (i:=2) rfl)
      obtain ⟨a4,c4,e4⟩:=own_is (s.sw.rows.at' (i:=3) rfl)
      obtain ⟨a5,c5,e5⟩:=own_is (s.sw.rows.at' (i:=4) rfl)
      obtain ⟨a6,c6,e6⟩:=own_is (s.sw.rows.at' (i:=5) rfl)
      obtain ⟨n1,hn1⟩:∃ n,(strVs F).length=n:=⟨_,rfl⟩
      obtain ⟨n2,hn2⟩:∃ n,(nVs Cl).length=n:=⟨_,rfl⟩
      obtain ⟨n3,hn3⟩:∃ n,(strVs P).length=n:=⟨_,rfl⟩
      obtain ⟨n4,hn4⟩:∃ n,(nVs O).length=n:=⟨_,rfl⟩
      obtain ⟨n6,hn6⟩:∃ n,(iVs fr).length=n:=⟨_,rfl⟩
      obtain ⟨n7,hn7⟩:∃ n,(iVs tw).length=n:=⟨_,rfl⟩
      have e1:z.v1=.slice a1 n1 c1:=by rw [<-hn1]; exact e1
      have e2:z.v2=.slice a2 n2 c2:=by rw [<-hn2]; exact e2
      have e3:z.v3=.slice a3 n3 c3:=by rw [<-hn3]; exact e3
      have e4:z.v4=.slice a4 n4 c4:=by rw [<-hn4]; exact e4
      have e5:z.v5=.slice a5 n6 c5:=by rw [<-hn6]; exact e5
      have e6:z.v6=.slice a6 n7 c6:=by rw [<-hn7]; exact e6
      have VL:=Lib.hid (seV_list a1 a2 a3 a4 a5 a6 n1 n2 n3 n4 n6 n7 c1 c2 c3 c4 c5 c6)
      have RG:=Lib.hid (show wj.rangeAt G 1 [.slice a1 n1 c1,.slice a2 n2 c2,.slice a3 n3 c3,.slice a4 n4 c4,.slice a5 n6 c5,.slice a6 n7 c6,.bool true] from s.sw.cel.range 1 _ (fun j v hv=>by
        have hj:j < 7:=(List.getElem?_eq_some_iff.1 hv).1
        refine ⟨by omega,?_⟩
        match j,hj with
        | 0,_=>cases hv; exact e1
        | 1,_=>cases hv; exact e2
        | 2,_=>cases hv; exact e3
        | 3,_=>cases hv; exact e4
        | 4,_=>cases hv; exact e5
        | 5,_=>cases hv; exact e6
        | 6,_=>cases hv; show Value.bool z.ok=_; rw [s.zk]))
      have CRj:=Lib.hid (CR.out.of_block (b.block Rs RN5.out))
      have TRj:=Lib.hid (TR.out.of_block (b.block Rs RN5.out))
      have FIN:=Lib.hid (show ∀ w6,But Rs wj w6->TP cn cc w (.returned (.agg #[.slice a1 n1 c1,.slice a2 n2 c2,.slice a3 n3 c3,.slice a4 n4 c4,.slice a5 n6 c5,.slice a6 n7 c6,.bool true])) w6 from fun w6 u=>by
        have rw6:=s.sw.rows.but TRj.out (fun r hr=>by
          simp only [snR,List.mem_cons,List.not_mem_nil,or_false] at hr
          rcases hr with rfl | rfl | rfl | rfl | rfl | rfl | rfl <;> first | exact (show (9:TypeId) ≠ 74 by decide) | exact (show (3:TypeId) ≠ 74 by decide)) u
        have nn:w.heap.size<=n5:=by rw [<-hn5]; exact B2.out.size
        have o1:=own_mono (rw6.at' (i:=0) rfl) nn
        have o2:=own_mono (rw6.at' (i:=1) rfl) nn
        have o3:=own_mono (rw6.at' (i:=2) rfl) nn
        have o4:=own_mono (rw6.at' (i:=3) rfl) nn
        have o1':w6.ownsRow w.heap.size 9 1 (.slice a1 n1 c1) n1 (strVs F):=by rw [<-e1,<-hn1]; exact o1
        have o2':w6.ownsRow w.heap.size 3 1 (.slice a2 n2 c2) n2 (nVs Cl):=by rw [<-e2,<-hn2]; exact o2
        have o3':w6.ownsRow w.heap.size 9 1 (.slice a3 n3 c3) n3 (strVs P):=by rw [<-e3,<-hn3]; exact o3
        have o4':w6.ownsRow w.heap.size 3 1 (.slice a4 n4 c4) n4 (nVs O):=by rw [<-e4,<-hn4]; exact o4
        subst hn1 hn2 hn3 hn4
        simp only [strVs_len,nVs_len] at o1' o2' o3' o4' ⊢
        exact ⟨F,Cl,P,O,a1,a2,a3,a4,a5,a6,c1,c2,n6,n7,c3,c4,c5,c6,Y,Gs,rfl,o1',o2',o3',o4',s.lc,s.lo,s.cF,by rw [lP]; exact N40.out,x1,hs,fun c hc=>HZ.out c hc,But.under ((B2.out.trans (b.mono nn))) u NR.out⟩)
      clear s hs lF lP b e1 e2 e3 e4 e5 e6 HT HP HZ
      go_wp2_with (first
        | ((with_reducible refine atList ?_); refine wpList_load_mid rfl 74 (.tmp 195) rfl G 1 rfl [.slice a1 n1 c1,.slice a2 n2 c2,.slice a3 n3 c3,.slice a4 n4 c4,.slice a5 n6 c5,.slice a6 n7 c6,.bool true] _ RG.out Tryz.underlying74 rfl info_se ?_)
        | ((with_reducible refine atList ?_); refine wpList_setAll rfl 74 (.tmp 4) (.tmp 196) rfl Rs 7 [.slice a1 n1 c1,.slice a2 n2 c2,.slice a3 n3 c3,.slice a4 n4 c4,.slice a5 n6 c5,.slice a6 n7 c6,.bool true] _ (seV a1 a2 a3 a4 a5 a6 n1 n2 n3 n4 n6 n7 c1 c2 c3 c4 c5 c6) CRj.out rfl VL.out rfl rfl info_se (by simp [Value.oneCell']) ?_; intro w6 C6 U6 S6))
      have RA:=cel_all C6.out [.slice a1 n1 c1,.slice a2 n2 c2,.slice a3 n3 c3,.slice a4 n4 c4,.slice a5 n6 c5,.slice a6 n7 c6,.bool true] rfl VL.out
      have RR:=fun tmps hp=>results_cell1 Tryz.results25 tmps w6 Rs [.slice a1 n1 c1,.slice a2 n2 c2,.slice a3 n3 c3,.slice a4 n4 c4,.slice a5 n6 c5,.slice a6 n7 c6,.bool true] _ hp RA Tryz.underlying74 rfl info_se
      refine bodyPost_ret (RR _ rfl) rfl ?_
      exact FIN.out w6 U6.out
end Go.Proofs.YtchfkncbemjepaaGreat
