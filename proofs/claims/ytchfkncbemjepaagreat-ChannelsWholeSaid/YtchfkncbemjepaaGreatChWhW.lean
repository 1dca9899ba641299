/- ChWhW -/
import Derived.Test.YtchfkncbemjepaaGreatChWhM
import Derived.Test.YtchfkncbemjepaaGreatChStC
set_option linter.unusedVariables false
set_option maxRecDepth 100000
set_option maxHeartbeats 4000000
/- Layer 11's laws: an argument that is a list of loads: opened, and shut again. -/
namespace Go.Proofs.YtchfkncbemjepaaGreat
open Go.ChangeShapes Go.WideShapes Go.ChangeAt Go.RowKit Go.Deep

instance ldbInh:Inhabited LdB:=⟨⟨0,0,0⟩⟩
section
variable {H:Type} {enc:TypeId × Value->H}
theorem under_ld:∃ f0 f1 f2:Field,Tryz.prog.underlying 121=some (.struct #[f0,f1,f2])/\oneCellFields Tryz.prog #[f0,f1,f2]=true/\f0.type=3/\f1.type=3/\f2.type=3:=
  ⟨_,_,_,Tryz.underlying121,by kernel_rfl,rfl,rfl,rfl⟩
theorem cells_ld:Tryz.prog.cellsOf 121=3:=by kernel_rfl
theorem ld_cells {w:World} {n:Nat} {cs:List Value} {y:DataW H × List MemPlace} (h:DataW.trod enc Tryz.prog w 0 (fun _=>true) true n 121 cs=some y):∃ q:LdB,cs=ldCells q/\LdWf q:=by
  obtain ⟨f0,f1,f2,uS,uO,e0,e1,e2⟩:=under_ld
  obtain ⟨o0,k0⟩:=hone_of uO 0 f0 rfl
  obtain ⟨o1,k1⟩:=hone_of uO 1 f1 rfl
  obtain ⟨o2,k2⟩:=hone_of uO 2 f2 rfl
  obtain ⟨xs,m,_,rfl,hl,hlen,hf⟩:=DataW.trod_struct uS h
  rw [cells_ld] at hl
  match xs,hlen with
  | [y0,y1,y2],_=>
    have h0:=hf 0 f0 rfl
    have h1:=hf 1 f1 rfl
    have h2:=hf 2 f2 rfl
    match cs,hl with
    | [v0,v1,v2],_=>
      rw [o0,k0,e0] at h0
      rw [o1,k1,e1] at h1
      rw [o2,k2,e2] at h2
      simp only [List.drop_zero,List.drop_succ_cons,List.take_succ_cons,List.take_zero] at h0 h1 h2
      obtain ⟨i0,c0,_,g0⟩:=DataW.trod_int Tryz.underlying3 h0
      obtain ⟨i1,c1,_,g1⟩:=DataW.trod_int Tryz.underlying3 h1
      obtain ⟨i2,c2,_,g2⟩:=DataW.trod_int Tryz.underlying3 h2
      simp only [List.cons.injEq,and_true] at c0 c1 c2
      subst c0 c1 c2
      exact ⟨⟨i0,i1,i2⟩,rfl,g0,g1,g2⟩
theorem lds_arg {w:World} {v:Value} {d:DataW H} {p:List MemPlace} (hv:v.cells.toList=[v]) (hd:DataW.Trod enc Tryz.prog w 0 (fun _=>true) true 70 v d p):
    ∃ a l cap,v=.slice a l.length cap/\l.length<=cap/\cap<=maxLen/\Lds w a l/\∀ W',Below w.heap.size w W'->∀ sp:Nat->Bool,(∀ q ∈ p,sp q.block=true)->DataW.Trod enc Tryz.prog W' 0 sp true 70 v d p:=by
  have ST:=fun W' (hb:Below w.heap.size w W') (sp:Nat->Bool) (hs:∀ q ∈ p,sp q.block=true)=>a8_stay (t:=70) (by kernel_rfl) (of_decide_eq_true (by kernel_rfl)) hd hb (sp:=sp) hs
  obtain ⟨fuel,hf⟩:=hd
  rw [hv] at hf
  rcases open_slice Tryz.underlying70 hf with ⟨h1,h2⟩ | ⟨a,len,cap,m,n,D,Pl,h1,hb,hl,hm,hmm,hx,hel⟩
  · simp only [List.cons.injEq,and_true] at h1
    subst h1
    exact ⟨none,[],0,rfl,Nat.le_refl _,by unfold maxLen; omega,.inl rfl,ST⟩
  simp only [List.cons.injEq,and_true] at h1
  subst h1
  obtain rfl:m=cap:=by simpa using hmm
  rw [cells_ld] at hel
  obtain ⟨q,hq⟩:=choose_lt (α:=LdB) (p:=fun i q=>w.cells? 0 (a.add (i * 3)) 3=some (ldCells q)/\LdWf q) (fun i hi=>by
    obtain ⟨cs',g1,g2⟩:=hel i hi
    obtain ⟨x,rfl,hr⟩:=ld_cells g2
    exact ⟨x,g1,hr⟩)
  refine ⟨some a,(List.range len).map q,m,by simp,by simpa using hl,hm,?_,ST⟩
  rcases Nat.eq_zero_or_pos len with h0 | h0
  · exact .inl (by rw [h0]; rfl)
  have base:a.block < w.heap.size/\a.spot=none:=by
    obtain ⟨_,_,hat⟩:=World.cells?_some (hq 0 (by omega)).1
    have h0':=hat 0 (by omega)
    rw [Go.Deep.add_add] at h0'
    have h5:=World.block_lt_of_cell? w _ (show w.cell? (a.add (0 * 3 + 0))=some (.int .i64 (q 0).c) from h0')
    rw [ChangeShapes.block_add] at h5
    exact ⟨h5,World.cell?_spot (a:=a) (show w.cell? (a.add 0)=some (.int .i64 (q 0).c) from h0')⟩
  refine .inr ⟨a.block,a.off,congrArg some (addr_eta a base.2),base.1,fun i x hx=>?_⟩
  have hi:i < len:=by
    have:=(List.getElem?_eq_some_iff.1 hx).1
    simpa using this
  rw [List.getElem?_map,List.getElem?_range hi] at hx
  simp only [Option.map_some,Option.some.injEq] at hx
  subst hx
  obtain ⟨g1,g2⟩:=hq i (by omega)
  refine ⟨fun j u hu=>?_,g2⟩
  obtain ⟨_,_,hat⟩:=World.cells?_some g1
  have hj:j < 3:=by
    have:=(List.getElem?_eq_some_iff.1 hu).1
    exact this
  have hj':=hat j hj
  rw [Go.Deep.add_add,hu] at hj'
  rw [<-hj']
  have e:=addr_eta a base.2
  rw [show a.add (i * 3 + j)=(⟨a.block,a.off,none⟩:Addr).add (i * 3 + j) by rw [<-e],add_off,Nat.add_assoc]
end
end Go.Proofs.YtchfkncbemjepaaGreat

/- Layer 11's laws: all frames are fed (ChannelsWhole). -/
namespace Go.Proofs.YtchfkncbemjepaaGreat
open Go.RowKit
set_option linter.unusedSimpArgs false

abbrev rws8 (gv:Nat->Value) (X:Nat->List (List UInt8)):List Rw:=[⟨gv 0,9,bsVs (X 0)⟩,⟨gv 1,9,bsVs (X 1)⟩,⟨gv 2,9,bsVs (X 2)⟩,⟨gv 3,9,bsVs (X 3)⟩,⟨gv 4,9,bsVs (X 4)⟩,⟨gv 5,9,bsVs (X 5)⟩,⟨gv 6,9,bsVs (X 6)⟩,⟨gv 7,9,bsVs (X 7)⟩]
theorem rws8_get (gv:Nat->Value) (X:Nat->List (List UInt8)) {c:Nat} (h:c < 8):(rws8 gv X)[c]?=some ⟨gv c,9,bsVs (X c)⟩:=by
  match c,h with
  | 0,_=>rfl
  | 1,_=>rfl
  | 2,_=>rfl
  | 3,_=>rfl
  | 4,_=>rfl
  | 5,_=>rfl
  | 6,_=>rfl
  | 7,_=>rfl
theorem rws8_set (gv:Nat->Value) (X:Nat->List (List UInt8)) (v:Value) (Y:List (List UInt8)) {c:Nat} (h:c < 8):(rws8 gv X).set c ⟨v,9,bsVs Y⟩=rws8 (Ch.upd gv c v) (Ch.upd X c Y):=by
  match c,h with
  | 0,_=>rfl
  | 1,_=>rfl
  | 2,_=>rfl
  | 3,_=>rfl
  | 4,_=>rfl
  | 5,_=>rfl
  | 6,_=>rfl
  | 7,_=>rfl
structure Wa (n6:Nat) (gv:Nat->Value) (X:Nat->List (List UInt8)) (c:Nat) (Q:List (List UInt8)) (pa:Option Addr) (W0:World) (v:Value) (m:Bool) (w:World):Prop where
  rows:Rws n6 (fun _=>False) ((rws8 gv X).set c ⟨cond m v (gv c),9,cond m (bsVs (X c) ++ bsVs Q) (bsVs (X c))⟩) w
  oth:∀ Z t,TyB W0 Z t->t ≠ 9->w.heap[Z]?=W0.heap[Z]?
  low:Below n6 W0 w
  src:m=false->∀ ad,pa=some ad->∀ j u,(bsVs Q)[j]?=some u->w.cell? (ad.add j)=some u
theorem Wa.drew {n6:Nat} {gv:Nat->Value} {X:Nat->List (List UInt8)} {c:Nat} {Q:List (List UInt8)} {pa:Option Addr} {v:Value} {w:World} (hc:c < 8) (h:Rws n6 (fun _=>False) (rws8 gv X) w) (s:∀ ad,pa=some ad->∀ j u,(bsVs Q)[j]?=some u->w.cell? (ad.add j)=some u):Wa n6 gv X c Q pa w v false w.drew:=by
  refine ⟨?_,fun _ _ _ _=>rfl,(Below.refl _ _).drew,fun _=>s⟩
  have e:(rws8 gv X).set c ⟨gv c,9,bsVs (X c)⟩=rws8 gv X:=by
    match c,hc with
    | 0,_=>rfl
    | 1,_=>rfl
    | 2,_=>rfl
    | 3,_=>rfl
    | 4,_=>rfl
    | 5,_=>rfl
    | 6,_=>rfl
    | 7,_=>rfl
  show Rws n6 _ ((rws8 gv X).set c ⟨gv c,9,bsVs (X c)⟩) _
  rw [e]
  exact h.below (Below.refl _ _).drew
theorem bsl (l:List (List UInt8)):(bsVs l).length=l.length:=List.length_map ..
theorem Wa.app {n6:Nat} {gv:Nat->Value} {X:Nat->List (List UInt8)} {c:Nat} {Q:List (List UInt8)} {pa:Option Addr} {pc:Nat} {W0 w:World} {v:Value} (h:Wa n6 gv X c Q pa W0 v false w) (hc:c < 8) (n6w:n6<=W0.heap.size) (hn:pa=none->Q=[]) (hX:(X c).length<=1000) (hQ:Q.length<=1000)
    {ev:Operand->Value} {oo:Oper} (h5:ev (.tmp 114)=gv c) (h7:ev (.tmp 116)=.slice pa Q.length pc) (e1:oo.op=.call { callee:=.builtin .append,args:=#[.tmp 114,.tmp 116],argTypes:=#[43,43] }):
    ∃ v' w2,(execOp ev oo).run Tryz.prog w=.ok (.value v') w2/\Wa n6 gv X c Q pa W0 v' true w2:=by
  obtain ⟨ti,hi,hz,hs,hy⟩:=info_parts info_str
  have n6w':n6<=w.heap.size:=Nat.le_trans n6w h.low.size
  have e:((rws8 gv X).set c ⟨gv c,9,bsVs (X c)⟩)[c]?=some ⟨gv c,9,bsVs (X c)⟩:=by rw [List.getElem?_set_self (by show c < 8; exact hc)]
  have o:=h.rows.at' (i:=c) e
  have o':w.ownsRow n6 9 1 (gv c) (X c).length (bsVs (X c)):=by rw [<-bsl]; exact o
  cases pa with
  | none=>
    obtain rfl:=hn rfl
    have hr:=run_append_owned_nil (P:=Tryz.prog) n6 43 oo.type 9 ti 1 Tryz.underlying43 hi (gv c) _ _ o' pc
    refine ⟨gv c,w,exec_append e1 h5 h7 hr,?_,h.oth,h.low,fun q=>(by cases q)⟩
    show Rws n6 _ ((rws8 gv X).set c ⟨gv c,9,bsVs (X c) ++ []⟩) w
    rw [List.append_nil]
    exact h.rows
  | some ad=>
    obtain ⟨v',w2,hr,o2,g2,k2⟩:=run_append_own2 (P:=Tryz.prog) w n6 43 oo.type 9 ti (.string ⟨#[]⟩) 1 16 Tryz.underlying43 hi hz hs hy rfl (by decide) (gv c) (X c).length (bsVs (X c)) o' ad Q.length pc (bsVs Q) (by rw [bsl,Nat.mul_one]) (h.src rfl ad rfl) (fun u hu=>by
      obtain ⟨q,_,rfl⟩:=List.mem_map.1 hu
      rfl) (by unfold maxLen; omega) (by omega) n6w'
    have r2:=h.rows.set (r':=⟨v',9,bsVs (X c) ++ bsVs Q⟩) e (by show w2.ownsRow n6 9 1 v' (bsVs (X c) ++ bsVs Q).length _; rw [List.length_append,bsl,bsl]; exact o2) k2 (fun g hg hne=>g2.block g hg (fun q=>hne q.symm)) (fun g hg=>hg.elim)
    rw [List.set_set] at r2
    refine ⟨v',w2,exec_append e1 h5 h7 hr,r2,fun Z t T ht=>?_,h.low.grown g2 n6w' (fun g hg=>(own_ty o' hg).1),fun q=>(by cases q)⟩
    have T2:TyB w Z t:=T.of_block (h.oth Z t T ht)
    exact (g2.block Z T2.lt (fun q=>ty_ne (own_ty o' q.symm).2 T2 (fun e=>ht e.symm) rfl)).trans (h.oth Z t T ht)
structure SwRegion1W (n6 Gb E:Nat) (gv:Nat->Value) (X:Nat->List (List UInt8)) (c:Nat) (Qs:List (List UInt8)) (pa:Option Addr) (pc:Nat) (W0:World) (v1:Value) (A:Act) (w0:World) (s:Nat->Bool) (a:Act) (w:World):Prop where
  off:Off [109,110,111,112,113,114,115,116,117,118] a A
  before:Wa n6 gv X c Qs pa W0 v1 (s 8)  w
  t0:s 0=true->a.eval (.tmp 109)=.pointer (some ⟨E,0,none⟩)
  t1:s 1=true->a.eval (.tmp 110)=.int .i64 (c:Nat)
  t2:s 2=true->a.eval (.tmp 111)=.pointer (some ⟨E,0,none⟩)
  t3:s 3=true->a.eval (.tmp 112)=.int .i64 (c:Nat)
  t4:s 4=true->a.eval (.tmp 113)=.pointer (some ⟨Gb,c,none⟩)
  t5:s 5=true->a.eval (.tmp 114)=gv c
  t6:s 6=true->a.eval (.tmp 115)=.pointer (some ⟨E,4,none⟩)
  t7:s 7=true->a.eval (.tmp 116)=.slice pa Qs.length pc
  t8:s 8=true->a.eval (.tmp 117)=v1
  t9:s 9=true->a.eval (.tmp 118)=.pointer (some ⟨Gb,c,none⟩)
theorem swRegion1W {id:Nat} {l:List Oper} {A:Act} {w:World} {Q:Exit->Act->World->Prop} (n6 Gb E:Nat) (gv:Nat->Value) (X:Nat->List (List UInt8)) (c:Nat) (Qs:List (List UInt8)) (pa:Option Addr) (pc:Nat) (W0:World)
    (hW0:Wa n6 gv X c Qs pa W0 (gv c) false w.drew) (hc:c < 8) (n6w:n6<=W0.heap.size) (hn:pa=none->Qs=[]) (hX:(X c).length<=1000) (hQ:Qs.length<=1000) (hz:∃ a n k,gv c=.slice a n k)
    (hE0:∀ {v m} w',Wa n6 gv X c Qs pa W0 v m w'->w'.cell? ⟨E,0,none⟩=some (.int .i64 (c:Nat))) (hE4:∀ {v m} w',Wa n6 gv X c Qs pa W0 v m w'->w'.cell? ⟨E,4,none⟩=some (.slice pa Qs.length pc)) (hG:∀ {v m} w',Wa n6 gv X c Qs pa W0 v m w'->w'.cell? ⟨Gb,c,none⟩=some (gv c))
    (hB:tableH l.toArray 10 (fun i=>match i with | 0=>[] | 1=>[0] | 2=>[] | 3=>[2] | 4=>[3] | 5=>[4] | 6=>[] | 7=>[6] | 8=>[5,7] | 9=>[1] | _=>[]) (fun i=>match i with  | _=>[])=true)
    (h0:pick l 0=some (.fieldAddr 51 (.tmp 14) 0,some 109))
    (h1:pick l 1=some (.load 3 (.tmp 109),some 110))
    (h2:pick l 2=some (.fieldAddr 51 (.tmp 14) 0,some 111))
    (h3:pick l 3=some (.load 3 (.tmp 111),some 112))
    (h4:pick l 4=some (.indexAddr 76 (.tmp 12) (.tmp 112),some 113))
    (h5:pick l 5=some (.load 43 (.tmp 113),some 114))
    (h6:pick l 6=some (.fieldAddr 51 (.tmp 14) 4,some 115))
    (h7:pick l 7=some (.load 43 (.tmp 115),some 116))
    (h8:pick l 8=some (.call { callee:=.builtin .append,args:=#[.tmp 114,.tmp 116],argTypes:=#[43,43] },some 117))
    (h9:pick l 9=some (.indexAddr 76 (.tmp 12) (.tmp 110),some 118))
    (hs:A.tmps.size=184)
    (x12:A.eval (.tmp 12)=.pointer (some ⟨Gb,0,none⟩))
    (x14:A.eval (.tmp 14)=.pointer (some ⟨E,0,none⟩))
    (h:∀ (v1:Value) (w1:World),Wa n6 gv X c Qs pa W0 v1 true  w1->wpList Tryz.prog l.toArray Q (l.drop 10) ((((((((((A.put (some 109) (.pointer (some ⟨E,0,none⟩))).put (some 110) (.int .i64 (c:Nat))).put (some 111) (.pointer (some ⟨E,0,none⟩))).put (some 112) (.int .i64 (c:Nat))).put (some 113) (.pointer (some ⟨Gb,c,none⟩))).put (some 114) (gv c)).put (some 115) (.pointer (some ⟨E,4,none⟩))).put (some 116) (.slice pa Qs.length pc)).put (some 117) (v1)).put (some 118) (.pointer (some ⟨Gb,c,none⟩))) w1):
    (Code.region id l.toArray true).wp Tryz.prog Q A w:=by
  refine wp_region_head (by kernel_rfl) _ _ _ hB (fun s a w'=>∃ (v1:Value),SwRegion1W n6 Gb E gv X c Qs pa pc W0 v1 A w s a w') ⟨gv c,Off.refl _ _,hW0,by simp,by simp,by simp,by simp,by simp,by simp,by simp,by simp,by simp,by simp⟩ ?_ ?_
  · intro s a w' ⟨v1,S⟩ i' o il ho hsi hT K hK
    have sz:a.tmps.size=184:=by rw [S.off.2.1]; exact hs
    have y12:a.eval (.tmp 12)=.pointer (some ⟨Gb,0,none⟩):=by rw [S.off.eval (by decide)]; exact x12
    have y14:a.eval (.tmp 14)=.pointer (some ⟨E,0,none⟩):=by rw [S.off.eval (by decide)]; exact x14
    match i',il,ho,hsi,hT with
    | 0,_,ho,hsi,hT=>
      obtain ⟨e1,e2⟩:=pick_of h0 ho
      refine step_val (v:=.pointer (some ⟨E,0,none⟩)) (by simp only [execOp,e1,y14]; go_simp) (hK _ _ ?_)
      rw [e2]
      exact ⟨_,ofp S.off,by simpa using S.before,ev_ (by omega),kp S.t1,kp S.t2,kp S.t3,kp S.t4,kp S.t5,kp S.t6,kp S.t7,kp S.t8,kp S.t9⟩
    | 1,_,ho,hsi,hT=>
      obtain ⟨e1,e2⟩:=pick_of h1 ho
      have D0:s 0=true:=list_pos hT (d:=0) (by decide)
      have BW:=S.before
      have cc:=hE0 w' BW
      refine step_val (v:=.int .i64 (c:Nat)) (by simp only [execOp,e1,S.t0 D0]; go_simp) (hK _ _ ?_)
      rw [e2]
      exact ⟨_,ofp S.off,by simpa using S.before,kp S.t0,ev_ (by omega),kp S.t2,kp S.t3,kp S.t4,kp S.t5,kp S.t6,kp S.t7,kp S.t8,kp S.t9⟩
    | 2,_,ho,hsi,hT=>
      obtain ⟨e1,e2⟩:=pick_of h2 ho
      refine step_val (v:=.pointer (some ⟨E,0,none⟩)) (by simp only [execOp,e1,y14]; go_simp) (hK _ _ ?_)
      rw [e2]
      exact ⟨_,ofp S.off,by simpa using S.before,kp S.t0,kp S.t1,ev_ (by omega),kp S.t3,kp S.t4,kp S.t5,kp S.t6,kp S.t7,kp S.t8,kp S.t9⟩
    | 3,_,ho,hsi,hT=>
      obtain ⟨e1,e2⟩:=pick_of h3 ho
      have D2:s 2=true:=list_pos hT (d:=2) (by decide)
      have BW:=S.before
      have cc:=hE0 w' BW
      refine step_val (v:=.int .i64 (c:Nat)) (by simp only [execOp,e1,S.t2 D2]; go_simp) (hK _ _ ?_)
      rw [e2]
      exact ⟨_,ofp S.off,by simpa using S.before,kp S.t0,kp S.t1,kp S.t2,ev_ (by omega),kp S.t4,kp S.t5,kp S.t6,kp S.t7,kp S.t8,kp S.t9⟩
    | 4,_,ho,hsi,hT=>
      obtain ⟨e1,e2⟩:=pick_of h4 ho
      have D3:s 3=true:=list_pos hT (d:=3) (by decide)
      have hc8:=hc
      refine step_val (v:=.pointer (some ⟨Gb,c,none⟩)) (by simp only [execOp,e1,y12,S.t3 D3]; go_simp; try omega) (hK _ _ ?_)
      rw [e2]
      exact ⟨_,ofp S.off,by simpa using S.before,kp S.t0,kp S.t1,kp S.t2,kp S.t3,ev_ (by omega),kp S.t5,kp S.t6,kp S.t7,kp S.t8,kp S.t9⟩
    | 5,_,ho,hsi,hT=>
      obtain ⟨e1,e2⟩:=pick_of h5 ho
      have D4:s 4=true:=list_pos hT (d:=4) (by decide)
      have BW:=S.before
      have cc:=hG w' BW
      obtain ⟨q1,q2,q3,hq⟩:=hz
      rw [hq] at cc
      refine step_val (v:=gv c) (by simp only [execOp,e1,S.t4 D4]; rw [hq]; go_simp) (hK _ _ ?_)
      rw [e2]
      exact ⟨_,ofp S.off,by simpa using S.before,kp S.t0,kp S.t1,kp S.t2,kp S.t3,kp S.t4,ev_ (by omega),kp S.t6,kp S.t7,kp S.t8,kp S.t9⟩
    | 6,_,ho,hsi,hT=>
      obtain ⟨e1,e2⟩:=pick_of h6 ho
      refine step_val (v:=.pointer (some ⟨E,4,none⟩)) (by simp only [execOp,e1,y14]; go_simp) (hK _ _ ?_)
      rw [e2]
      exact ⟨_,ofp S.off,by simpa using S.before,kp S.t0,kp S.t1,kp S.t2,kp S.t3,kp S.t4,kp S.t5,ev_ (by omega),kp S.t7,kp S.t8,kp S.t9⟩
    | 7,_,ho,hsi,hT=>
      obtain ⟨e1,e2⟩:=pick_of h7 ho
      have D6:s 6=true:=list_pos hT (d:=6) (by decide)
      have BW:=S.before
      have cc:=hE4 w' BW
      refine step_val (v:=.slice pa Qs.length pc) (by simp only [execOp,e1,S.t6 D6]; go_simp) (hK _ _ ?_)
      rw [e2]
      exact ⟨_,ofp S.off,by simpa using S.before,kp S.t0,kp S.t1,kp S.t2,kp S.t3,kp S.t4,kp S.t5,kp S.t6,ev_ (by omega),kp S.t8,kp S.t9⟩
    | 8,_,ho,hsi,hT=>
      obtain ⟨e1,e2⟩:=pick_of h8 ho
      have D5:s 5=true:=list_pos hT (d:=5) (by decide)
      have D7:s 7=true:=list_pos hT (d:=7) (by decide)
      have BW:=S.before
      rw [hsi] at BW
      obtain ⟨gh,w2,hr,WW0⟩:=Wa.app BW hc n6w hn hX hQ (S.t5 D5) (S.t7 D7) e1
      refine step_to1 hr (hK _ _ ?_)
      have WW:Wa n6 gv X c Qs pa W0 gh (if 8=8 then true else s 8)  w2:=by simpa using WW0
      rw [e2]
      exact ⟨_,ofp S.off,WW,kp S.t0,kp S.t1,kp S.t2,kp S.t3,kp S.t4,kp S.t5,kp S.t6,kp S.t7,ev_ (by omega),kp S.t9⟩
    | 9,_,ho,hsi,hT=>
      obtain ⟨e1,e2⟩:=pick_of h9 ho
      have D1:s 1=true:=list_pos hT (d:=1) (by decide)
      have hc8:=hc
      refine step_val (v:=.pointer (some ⟨Gb,c,none⟩)) (by simp only [execOp,e1,y12,S.t1 D1]; go_simp; try omega) (hK _ _ ?_)
      rw [e2]
      exact ⟨_,ofp S.off,by simpa using S.before,kp S.t0,kp S.t1,kp S.t2,kp S.t3,kp S.t4,kp S.t5,kp S.t6,kp S.t7,kp S.t8,ev_ (by omega)⟩
    | _ + 10,il,_,_,_=>exact absurd il (by omega)
  intro s a w' ⟨v1,S⟩ hall
  have a0:=hall 0 (by omega)
  have a1:=hall 1 (by omega)
  have a2:=hall 2 (by omega)
  have a3:=hall 3 (by omega)
  have a4:=hall 4 (by omega)
  have a5:=hall 5 (by omega)
  have a6:=hall 6 (by omega)
  have a7:=hall 7 (by omega)
  have a8:=hall 8 (by omega)
  have a9:=hall 9 (by omega)
  have e:=off_norm _ (by intro d hd; simp at hd; omega) S.off
  simp only [List.foldl,S.t0 a0,S.t1 a1,S.t2 a2,S.t3 a3,S.t4 a4,S.t5 a5,S.t6 a6,S.t7 a7,S.t8 a8,S.t9 a9] at e
  have BW:=S.before
  rw [a8] at BW
  rw [e]
  exact h _ _ BW
end Go.Proofs.YtchfkncbemjepaaGreat
