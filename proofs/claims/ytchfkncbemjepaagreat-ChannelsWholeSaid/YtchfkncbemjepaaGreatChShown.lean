/- ChShown -/
import Derived.Test.YtchfkncbemjepaaGreatChShP
import Derived.Test.YtchfkncbemjepaaGreatChDNew
import Derived.Test.YtchfkncbemjepaaGreatChNew
import Derived.Test.YtchfkncbemjepaaGreatChClear
set_option linter.unusedVariables false
set_option maxRecDepth 100000
set_option maxHeartbeats 4000000
/- Layer 11's laws: the region of made that draws its order. -/
namespace Go.Proofs.YtchfkncbemjepaaGreat
open Go.RowKit

theorem build_mdpk {ev:Operand->Value} {w:World} {o:Oper} {x3 x4:Operand} {c:Nat} {z:ByteArray} (h:o.op=.build 125 #[(1,.const (.int .i64 3)),(2,.const (.int .i64 3)),(3,x3),(4,x4)])
    (h3:ev x3=.int .i64 (c:Nat)) (h4:ev x4=.string z) (hc:∀ l,ev (.const l)=l):
    (execOp ev o).run Tryz.prog w=.ok (.value (.agg #[.bool false,.int .i64 3,.int .i64 3,.int .i64 (c:Nat),.string z])) w:=by
  simp only [execOp,h,List.map_toArray,List.map_cons,List.map_nil,h3,h4,hc]; go_simp
structure MdRegion (g m c:Nat) (z y:ByteArray) (A:Act) (w0:World) (s:Nat->Bool) (a:Act) (w:World):Prop where
  off:Off [16,17,18,19,20,21,15,22,23,6] a A
  before:Below w0.heap.size w0 w
  t0:s 0=true->a.eval (.tmp 16)=.int .i64 (c:Nat)
  t1:s 1=true->a.eval (.tmp 17)=.int .i64 (c:Nat)
  t2:s 2=true->a.eval (.tmp 18)=.slice (some ⟨g,0,none⟩) m m
  t3:s 3=true->a.eval (.tmp 19)=.string z
  t4:s 4=true->a.eval (.tmp 20)=.agg #[.bool false,.int .i64 3,.int .i64 3,.int .i64 (c:Nat),.string z]
  t5:s 5=true->a.eval (.tmp 21)=.tuple #[.string y,.int .i64 0]
  t6:s 6=true->a.eval (.tmp 15)=.tuple #[.string y,.int .i64 0]
  t7:s 7=true->a.eval (.tmp 22)=.string y
  t8:s 8=true->a.eval (.tmp 23)=.int .i64 0
  t9:s 9=true->a.eval (.tmp 6)=.string y
theorem mdRegion {id:Nat} {l:List Oper} {A:Act} {w:World} {Q:Exit->Act->World->Prop} (g m c:Nat) (z y:ByteArray)
    (hP:∀ w,Calls Tryz.prog 11 #[.int .i64 (c:Nat),.int .i64 16384] w (fun e w'=>e=.returned (.int .i64 (c:Nat))/\Below w.heap.size w w'))
    (hcv:∀ w',Below w.heap.size w w'->(convert 103 9 (.slice (some ⟨g,0,none⟩) m m)).run Tryz.prog w'=.ok (.string z) w')
    (hU:∀ w,Calls Tryz.prog 58 #[.agg #[.bool false,.int .i64 3,.int .i64 3,.int .i64 (c:Nat),.string z]] w (fun e w'=>e=.returned (.tuple #[.string y,.int .i64 0])/\Below w.heap.size w w'))
    (hB:tableH l.toArray 10 (fun i=>match i with | 0=>[] | 1=>[0] | 2=>[] | 3=>[2] | 4=>[1,3] | 5=>[4] | 6=>[5] | 7=>[6] | 8=>[6] | 9=>[7] | _=>[]) (fun _=>[])=true)
    (h0:pick l 0=some (.move (.tmp 1),some 16))
    (h1:pick l 1=some (.call { callee:=.value (.func 11),args:=#[.tmp 16,.const (.int .i64 16384)],argTypes:=#[3,3] },some 17))
    (h2:pick l 2=some (.move (.tmp 5),some 18))
    (h3:pick l 3=some (.convert 103 9 (.tmp 18),some 19))
    (h4:pick l 4=some (.build 125 #[(1,.const (.int .i64 3)),(2,.const (.int .i64 3)),(3,.tmp 17),(4,.tmp 19)],some 20))
    (h5:pick l 5=some (.call { callee:=.value (.func 58),args:=#[.tmp 20],argTypes:=#[125] },some 21))
    (h6:pick l 6=some (.move (.tmp 21),some 15))
    (h7:pick l 7=some (.extract (.tmp 15) 0,some 22))
    (h8:pick l 8=some (.extract (.tmp 15) 1,some 23))
    (h9:pick l 9=some (.assign (.tmp 22),some 6))
    (hs:A.tmps.size=25)
    (x1:A.eval (.tmp 1)=.int .i64 (c:Nat))
    (x5:A.eval (.tmp 5)=.slice (some ⟨g,0,none⟩) m m)
    (h:∀ w1,Below w.heap.size w w1->wpList Tryz.prog l.toArray Q (l.drop 10) ((((((((((A.put (some 16) (.int .i64 (c:Nat))).put (some 17) (.int .i64 (c:Nat))).put (some 18) (.slice (some ⟨g,0,none⟩) m m)).put (some 19) (.string z)).put (some 20) (.agg #[.bool false,.int .i64 3,.int .i64 3,.int .i64 (c:Nat),.string z])).put (some 21) (.tuple #[.string y,.int .i64 0])).put (some 15) (.tuple #[.string y,.int .i64 0])).put (some 22) (.string y)).put (some 23) (.int .i64 0)).put (some 6) (.string y)) w1):
    (Code.region id l.toArray true).wp Tryz.prog Q A w:=by
  refine wp_region_head (by kernel_rfl) _ _ _ hB (MdRegion g m c z y A w) ⟨Off.refl _ _,(Below.refl _ _).drew,by simp,by simp,by simp,by simp,by simp,by simp,by simp,by simp,by simp,by simp⟩ ?_ ?_
  · intro s a w' S i' o il ho hsi hT K hK
    have sz:a.tmps.size=25:=by rw [S.off.2.1]; exact hs
    have y1:a.eval (.tmp 1)=.int .i64 (c:Nat):=by rw [S.off.eval (by decide)]; exact x1
    have y5:a.eval (.tmp 5)=.slice (some ⟨g,0,none⟩) m m:=by rw [S.off.eval (by decide)]; exact x5
    match i',il,ho,hsi,hT with
    | 0,_,ho,hsi,hT=>
      obtain ⟨e1,e2⟩:=pick_of h0 ho
      refine step_val (v:=.int .i64 (c:Nat)) (by simp only [execOp,e1,y1]; go_simp) (hK _ _ ?_)
      rw [e2]
      exact ⟨ofp S.off,S.before,ev_ (by omega),kp S.t1,kp S.t2,kp S.t3,kp S.t4,kp S.t5,kp S.t6,kp S.t7,kp S.t8,kp S.t9⟩
    | 1,_,ho,hsi,hT=>
      obtain ⟨e1,e2⟩:=pick_of h1 ho
      have D0:s 0=true:=list_pos hT (d:=0) (by decide)
      have BW:=S.before
      refine step_call 11 (fun args w=>by go_simp) _ _ e1 #[.int .i64 (c:Nat),.int .i64 16384] (by simp only [List.map_toArray,List.map_cons,List.map_nil,S.t0 D0] <;> rfl) ((hP w').mono ?_)
      rintro e w2 ⟨rfl,BB⟩
      refine ⟨_,rfl,hK _ _ ?_⟩
      rw [e2]
      exact ⟨ofp S.off,bt BW BB,kp S.t0,ev_ (by omega),kp S.t2,kp S.t3,kp S.t4,kp S.t5,kp S.t6,kp S.t7,kp S.t8,kp S.t9⟩
    | 2,_,ho,hsi,hT=>
      obtain ⟨e1,e2⟩:=pick_of h2 ho
      refine step_val (v:=.slice (some ⟨g,0,none⟩) m m) (by simp only [execOp,e1,y5]; go_simp) (hK _ _ ?_)
      rw [e2]
      exact ⟨ofp S.off,S.before,kp S.t0,kp S.t1,ev_ (by omega),kp S.t3,kp S.t4,kp S.t5,kp S.t6,kp S.t7,kp S.t8,kp S.t9⟩
    | 3,_,ho,hsi,hT=>
      obtain ⟨e1,e2⟩:=pick_of h3 ho
      have D2:s 2=true:=list_pos hT (d:=2) (by decide)
      have BW:=S.before
      refine step_val (v:=.string z) (by simp only [execOp,e1,S.t2 D2]; have cv:=hcv w' BW; first | (go_simp; done) | (go_simp; rw [cv]; rfl)) (hK _ _ ?_)
      rw [e2]
      exact ⟨ofp S.off,S.before,kp S.t0,kp S.t1,kp S.t2,ev_ (by omega),kp S.t4,kp S.t5,kp S.t6,kp S.t7,kp S.t8,kp S.t9⟩
    | 4,_,ho,hsi,hT=>
      obtain ⟨e1,e2⟩:=pick_of h4 ho
      have D1:s 1=true:=list_pos hT (d:=1) (by decide)
      have D3:s 3=true:=list_pos hT (d:=3) (by decide)
      refine step_val (build_mdpk e1 (S.t1 D1) (S.t3 D3) (fun _=>rfl)) (hK _ _ ?_)
      rw [e2]
      exact ⟨ofp S.off,S.before,kp S.t0,kp S.t1,kp S.t2,kp S.t3,ev_ (by omega),kp S.t5,kp S.t6,kp S.t7,kp S.t8,kp S.t9⟩
    | 5,_,ho,hsi,hT=>
      obtain ⟨e1,e2⟩:=pick_of h5 ho
      have D4:s 4=true:=list_pos hT (d:=4) (by decide)
      have BW:=S.before
      refine step_call 58 (fun args w=>by go_simp) _ _ e1 #[.agg #[.bool false,.int .i64 3,.int .i64 3,.int .i64 (c:Nat),.string z]] (by simp only [List.map_toArray,List.map_cons,List.map_nil,S.t4 D4] <;> rfl) ((hU w').mono ?_)
      rintro e w2 ⟨rfl,BB⟩
      refine ⟨_,rfl,hK _ _ ?_⟩
      rw [e2]
      exact ⟨ofp S.off,bt BW BB,kp S.t0,kp S.t1,kp S.t2,kp S.t3,kp S.t4,ev_ (by omega),kp S.t6,kp S.t7,kp S.t8,kp S.t9⟩
    | 6,_,ho,hsi,hT=>
      obtain ⟨e1,e2⟩:=pick_of h6 ho
      have D5:s 5=true:=list_pos hT (d:=5) (by decide)
      refine step_val (v:=.tuple #[.string y,.int .i64 0]) (by simp only [execOp,e1,S.t5 D5]; go_simp) (hK _ _ ?_)
      rw [e2]
      exact ⟨ofp S.off,S.before,kp S.t0,kp S.t1,kp S.t2,kp S.t3,kp S.t4,kp S.t5,ev_ (by omega),kp S.t7,kp S.t8,kp S.t9⟩
    | 7,_,ho,hsi,hT=>
      obtain ⟨e1,e2⟩:=pick_of h7 ho
      have D6:s 6=true:=list_pos hT (d:=6) (by decide)
      refine step_val (v:=.string y) (by simp only [execOp,e1,S.t6 D6]; go_simp) (hK _ _ ?_)
      rw [e2]
      exact ⟨ofp S.off,S.before,kp S.t0,kp S.t1,kp S.t2,kp S.t3,kp S.t4,kp S.t5,kp S.t6,ev_ (by omega),kp S.t8,kp S.t9⟩
    | 8,_,ho,hsi,hT=>
      obtain ⟨e1,e2⟩:=pick_of h8 ho
      have D6:s 6=true:=list_pos hT (d:=6) (by decide)
      refine step_val (v:=.int .i64 0) (by simp only [execOp,e1,S.t6 D6]; go_simp) (hK _ _ ?_)
      rw [e2]
      exact ⟨ofp S.off,S.before,kp S.t0,kp S.t1,kp S.t2,kp S.t3,kp S.t4,kp S.t5,kp S.t6,kp S.t7,ev_ (by omega),kp S.t9⟩
    | 9,_,ho,hsi,hT=>
      obtain ⟨e1,e2⟩:=pick_of h9 ho
      have D7:s 7=true:=list_pos hT (d:=7) (by decide)
      refine step_val (v:=.string y) (by simp only [execOp,e1,S.t7 D7]; go_simp) (hK _ _ ?_)
      rw [e2]
      exact ⟨ofp S.off,S.before,kp S.t0,kp S.t1,kp S.t2,kp S.t3,kp S.t4,kp S.t5,kp S.t6,kp S.t7,kp S.t8,ev_ (by omega)⟩
    | _ + 10,il,_,_,_=>exact absurd il (by omega)
  intro s a w' S hall
  have a0:=hall 0 (by omega)
  have a1:=hall 1 (by omega)
  have a2:=hall 2 (by omega)
  have a3:=hall 3 (by omega)
  have a4:=hall 4 (by omega)
  have a5:=hall 5 (by omega)
  have a6:=hall 6 (by omega)
  have a7:=hall 7 (by omega)
  have a8:=hall 8 (by omega)
  have a9:=hall 9 (by omega)
  have e:=off_norm _ (by intro d hd; simp at hd; omega) S.off
  simp only [List.foldl,S.t0 a0,S.t1 a1,S.t2 a2,S.t3 a3,S.t4 a4,S.t5 a5,S.t6 a6,S.t7 a7,S.t8 a8,S.t9 a9] at e
  rw [e]
  exact h _ S.before
end Go.Proofs.YtchfkncbemjepaaGreat

/- Layer 11's laws: made, even, same. -/
namespace Go.Proofs.YtchfkncbemjepaaGreat
open Go.RowKit

theorem pickB (c:Nat) (hc:c < 16384) (w:World):Calls Tryz.prog 11 #[.int .i64 (c:Nat),.int .i64 16384] w fun e w'=>e=.returned (.int .i64 (c:Nat))/\Below w.heap.size w w':=by
  have h:=pick_any (c:Nat) (by simp [Lit.wf,IntKind.min,IntKind.max,IntKind.signed,IntKind.bits]; omega) 16384 (by omega) (by omega) w
  refine h.mono ?_
  rintro e w' ⟨rfl,rfl⟩
  refine ⟨?_,Below.refl _ _⟩
  rw [show ((c:Int) % ((16384:Nat):Int)).toNat=c by omega]
theorem holds_put {w:World} {b:Nat} {l:List UInt8} (h:Holds w b l) (i v:Nat) (hi:i < l.length) (hv:v < 256):Holds (w.setCell ⟨b,i,none⟩ (.int .u8 (v:Nat))) b (l.set i (UInt8.ofNat v)):=by
  intro j hj
  rw [List.length_set] at hj
  obtain ⟨h1,h2⟩:=h j hj
  refine ⟨?_,by rw [World.frozen?_setCell]; exact h2⟩
  by_cases e:j=i
  · subst e
    rw [World.cell?_setCell_same' _ _ _ (by rw [h1]; rfl),List.getD_eq_getElem?_getD,List.getElem?_set_self hi]
    simp only [Option.getD_some]
    rw [UInt8.toNat_ofNat_of_lt' hv]
  rw [World.cell?_setCell_other (h:=addr_off (fun x=>e x.symm)),List.getD_eq_getElem?_getD,List.getElem?_set_ne (fun x=>e x.symm),<-List.getD_eq_getElem?_getD]
  exact h1
theorem ofNat_mod (c:Nat):UInt8.ofNat (c % 256)=UInt8.ofNat c:=by
  apply UInt8.toNat_inj.1
  simp
theorem cmade_any (n c:Nat) (h1:7<=n) (h2:n<=1030) (hc:c < 16384) (w:World):Calls Tryz.prog 27 #[.int .i64 (n:Nat),.int .i64 (c:Nat)] w fun e w'=>e=.returned (.string (bs (Ch.mk n c)))/\Below w.heap.size w w':=by
  obtain ⟨m,hm⟩:∃ m,n - 6=m:=⟨_,rfl⟩
  have e1:IntKind.i64.wrap ((n:Int) - 6)=(m:Int):=by rw [IntKind.wrap_i64]; omega
  have HP:=Lib.hid (fun w=>pickB c hc w)
  have PU:=Lib.hid (fun w=>pput_any (Ch.mkP n c) (by rw [Ch.mkP_size n c h1]; unfold maxLen; omega) w)
  rw [if_pos (Ch.mkP_ok n c h1 h2 hc)] at PU
  unfold Ch.mkP pkVal at PU
  simp only at PU
  have HM:=Lib.hid (show Pk.enc ⟨false,3,3,(c:Nat),bs (UInt8.ofNat c :: Fld.zeros (n - 7))⟩=Ch.mk n c from rfl)
  rw [HM.out] at PU
  obtain ⟨y,hy⟩:∃ y,bs (Ch.mk n c)=y:=⟨_,rfl⟩
  obtain ⟨L,hL⟩:∃ L,UInt8.ofNat c :: Fld.zeros (n - 7)=L:=⟨_,rfl⟩
  have HL:=Lib.hid (show L.length=m/\(Fld.zeros m).set 0 (UInt8.ofNat c)=L from ⟨by rw [<-hL]; simp [Fld.zeros]; omega,by
    rw [<-hL,show m=(n - 7) + 1 by omega]; simp [Fld.zeros,List.replicate_succ]⟩)
  obtain ⟨z,hz⟩:∃ z,bs L=z:=⟨_,rfl⟩
  rw [hL,hy,hz] at PU
  rw [hy]
  have HZ:=Lib.hid hz
  have Hm:=Lib.hid (show 1<=m/\m<=1024 by omega)
  have cb:IntKind.u8.wrap (c:Int)=((c % 256:Nat):Int):=by rw [IntKind.wrap_u8]; omega
  have hm0:(0:Int) < (m:Int):=by omega
  have HC:=Lib.hid hc
  have HG:=Lib.hid (show (Fld.zeros m).getD 0 0=(0:UInt8) by
    obtain ⟨k,rfl⟩:∃ k,m=k + 1:=⟨m - 1,by omega⟩
    simp [Fld.zeros,List.replicate_succ])
  obtain ⟨i0,hi,hz0,hz1,hz2⟩:=info_parts f2_info_u8
  clear hm HM hz hL hy h1 h2 hc
  go_enter Tryz.func27,Tryz.ntmps27
  go_upto_region 3 with (at_make; refine wpList_make_full _ rfl _ _ 103 rfl w.heap.size 5 i0 (.int .u8 0) 1 Tryz.underlying103 hi hz0 hz1 .i64 .i64 _ _ m rfl rfl (by first | rfl | omega) (by first | rfl | omega) (by rw [hz2]; have:=Hm.out; omega) (by unfold maxLen; have:=Hm.out; omega) (Nat.le_refl _) ?_; intro w2 hown hgrow; have HO:=Lib.hid (holds_made hown (fun j hj=>made_zero m j hj)); have B2:=Lib.hid ((Below.refl w.heap.size w).grown hgrow (Nat.le_refl _) (fun k e=>by cases e)); have q0:=(HO.out 0 (by have:=Hm.out; simp [Fld.zeros]; omega)).1; have q1:=(HO.out 0 (by have:=Hm.out; simp [Fld.zeros]; omega)).2; rw [HG.out] at q0; have HB2:=Lib.hid (own_ty hown rfl).2.lt; clear hown hgrow)
  obtain ⟨w3,hw3⟩:∃ w3,w2.setCell ⟨w.heap.size,0,none⟩ (.int .u8 ((c:Int) % 256))=w3:=⟨_,rfl⟩
  rw [hw3]
  have B3:=Lib.hid (show Below w.heap.size w w3 by rw [<-hw3]; exact B2.out.setCell (Nat.le_refl _) _)
  have H3:Holds w3 w.heap.size L:=by
    rw [<-hw3]
    have:=holds_put HO.out 0 (c % 256) (by have:=Hm.out; simp [Fld.zeros]; omega) (by omega)
    rwa [ofNat_mod,HL.out.2,show ((c % 256:Nat):Int)=(c:Int) % 256 by omega] at this
  have HB:=Lib.hid (show w.heap.size < w3.heap.size by rw [<-hw3,World.size_setCell]; exact HB2.out)
  have CV:=Lib.hid (show ∀ w',Below w3.heap.size w3 w'->(convert 103 9 (.slice (some ⟨w.heap.size,0,none⟩) m m)).run Tryz.prog w'=.ok (.string z) w' from fun w' hb=>by
    have:=back_bytes w' w.heap.size m L (fun j hj=>by
      obtain ⟨h1,h2⟩:=H3 j hj
      exact ⟨(hb.cell (p:=⟨w.heap.size,j,none⟩) HB.out).trans h1,(hb.frozen (p:=⟨w.heap.size,j,none⟩) HB.out).trans h2⟩)
    rw [HL.out.1] at this
    rw [this,<-HZ.out]
    rfl)
  refine mdRegion w.heap.size m c z y HP.out CV.out PU.out (by kernel_rfl) rfl rfl rfl rfl rfl rfl rfl rfl rfl rfl rfl rfl rfl ?_
  intro w4 h4
  have B4:=Lib.hid (bt B3.out h4)
  clear h4 CV HB H3
  simp only [Act.put,List.setIfInBounds_toArray,List.set_cons_succ,List.set_cons_zero,List.drop_succ_cons,List.drop_zero]
  go_wp2_with fail
  go_ret
  exact ⟨rfl,B4.out⟩
end Go.Proofs.YtchfkncbemjepaaGreat

/- Layer 11's laws: even. -/
namespace Go.Proofs.YtchfkncbemjepaaGreat
open Go.RowKit

def list8 (f:Nat->Int):List Value:=[.int .i64 (f 0),.int .i64 (f 1),.int .i64 (f 2),.int .i64 (f 3),.int .i64 (f 4),.int .i64 (f 5),.int .i64 (f 6),.int .i64 (f 7)]
abbrev cel8 (f:Nat->Int) (j:Nat):Value:=.int .i64 (f j)
theorem info_a8:(Tryz.prog.info? 22).map (·.size)=some 8:=by kernel_rfl
theorem list8_at (f:Nat->Int):∀ j,j < 8->(list8 f)[j]?=some (cel8 f j):=fun j hj=>by
  match j,hj with
  | 0,_=>rfl
  | 1,_=>rfl
  | 2,_=>rfl
  | 3,_=>rfl
  | 4,_=>rfl
  | 5,_=>rfl
  | 6,_=>rfl
  | 7,_=>rfl
theorem cel8_range {w:World} {X:Nat} {f:Nat->Int} (h:Cel w X 8 (cel8 f)):w.rangeAt X 0 (list8 f):=
  h.range 0 (list8 f) (fun j v hv=>by
    have hj:j < 8:=(List.getElem?_eq_some_iff.1 hv).1
    rw [list8_at f j hj] at hv
    refine ⟨by omega,?_⟩
    rw [Nat.zero_add]
    exact Option.some.inj hv)
def EvI (B X Y:Nat) (f g:Nat->Int) (w0 w:World):Prop:=Below B w0 w/\Cel w X 8 (cel8 f)/\Cel w Y 8 (cel8 g)/\B<=X/\B<=Y/\X ≠ Y
theorem EvI.drew {B X Y:Nat} {f g:Nat->Int} {w0 w:World} (h:EvI B X Y f g w0 w):EvI B X Y f g w0 w.drew:=⟨h.1.drew,h.2.1.of_block rfl,h.2.2.1.of_block rfl,h.2.2.2⟩
theorem cel8_set {X:Nat} {f:Nat->Int} {w:World} (h:Cel w X 8 (cel8 f)):Cel (w.setCells X 0 (list8 f)) X 8 (cel8 f):=
  (h.setMany 0 (list8 f) (by simp [list8]) undef).congr (fun j hj=>by
    rw [if_pos ⟨Nat.zero_le _,by simp [list8]; omega⟩,Nat.sub_zero,List.getD_eq_getElem?_getD,list8_at f j hj]
    rfl)
theorem EvI.setX {B X Y:Nat} {f g:Nat->Int} {w0 w:World} (h:EvI B X Y f g w0 w):EvI B X Y f g w0 (w.setCells X 0 (list8 f)):=
  ⟨below_setCells h.2.2.2.1 _ _ _ h.1,cel8_set h.2.1,h.2.2.1.manyOther _ (Ne.symm h.2.2.2.2.2),h.2.2.2⟩
theorem EvI.setY {B X Y:Nat} {f g:Nat->Int} {w0 w:World} (h:EvI B X Y f g w0 w):EvI B X Y f g w0 (w.setCells Y 0 (list8 g)):=
  ⟨below_setCells h.2.2.2.2.1 _ _ _ h.1,h.2.1.manyOther _ h.2.2.2.2.2,cel8_set h.2.2.1,h.2.2.2⟩
theorem alloc_a8 {ev:Operand->Value} {o:Oper} {w:World} (h:o.op=.alloc 22):(execOp ev o).run Tryz.prog w=.ok (.value (.pointer (some ⟨w.heap.size,0,none⟩))) (w.alloc (.cells #[.int .i64 0,.int .i64 0,.int .i64 0,.int .i64 0,.int .i64 0,.int .i64 0,.int .i64 0,.int .i64 0] 22)):=by
  simp only [execOp,h]; go_simp
theorem results_cells2 {fn:Func} {p q:Tmp} {ty:TypeId} (h:fn.results=#[.cell p ty,.cell q ty]) (tmps:Array Value) (w:World) (X Y:Nat) (cs ds:List Value) (d:TypeDesc)
    (hp:tmps.getD p undef=.pointer (some ⟨X,0,none⟩)) (hq:tmps.getD q undef=.pointer (some ⟨Y,0,none⟩)) (hc:w.rangeAt X 0 cs) (he:w.rangeAt Y 0 ds) (hu:Tryz.prog.underlying ty=some d) (hd:d.isRow=true) (hi:(Tryz.prog.info? ty).map (·.size)=some cs.length) (hj:(Tryz.prog.info? ty).map (·.size)=some ds.length):
    (results fn tmps).run Tryz.prog w=.ok (.tuple #[.agg cs.toArray,.agg ds.toArray]) w:=by
  have hp':tmps[p]?.getD undef=.pointer (some ⟨X,0,none⟩):=by simpa using hp
  have hq':tmps[q]?.getD undef=.pointer (some ⟨Y,0,none⟩):=by simpa using hq
  simp [results,h,hp',hq',asAddr,run_loadVar_mid w X 0 ty cs d hc hu hd hi,run_loadVar_mid w Y 0 ty ds d he hu hd hj]
structure EvRegion (B X Y:Nat) (f g:Nat->Int) (A:Act) (w0:World) (s:Nat->Bool) (a:Act) (w:World):Prop where
  off:Off [13,14] a A
  before:EvI B X Y f g w0 w
  t0:s 0=true->a.eval (.tmp 13)=arr8 f
  t1:s 1=true->a.eval (.tmp 14)=arr8 g
theorem evRegion {id:Nat} {l:List Oper} {A:Act} {w:World} {Q:Exit->Act->World->Prop} (B X Y:Nat) (f g:Nat->Int)
    (hI:EvI B X Y f g w w)
    (hB:tableH l.toArray 3 (fun i=>match i with | 0=>[] | 1=>[] | 2=>[0] | _=>[]) (fun _=>[])=true)
    (h0:pick l 0=some (.load 22 (.tmp 2),some 13))
    (h1:pick l 1=some (.load 22 (.tmp 3),some 14))
    (h2:pick l 2=some (.store 22 (.tmp 2) (.tmp 13),none))
    (hs:A.tmps.size=15)
    (x2:A.eval (.tmp 2)=.pointer (some ⟨X,0,none⟩))
    (x3:A.eval (.tmp 3)=.pointer (some ⟨Y,0,none⟩))
    (h:∀ w1,EvI B X Y f g w w1->wpList Tryz.prog l.toArray Q (l.drop 3) ((A.put (some 13) (arr8 f)).put (some 14) (arr8 g)) w1):
    (Code.region id l.toArray true).wp Tryz.prog Q A w:=by
  refine wp_region_head (by kernel_rfl) _ _ _ hB (EvRegion B X Y f g A w) ⟨Off.refl _ _,hI.drew,by simp,by simp⟩ ?_ ?_
  · intro s a w' S i' o il ho hsi hT K hK
    have sz:a.tmps.size=15:=by rw [S.off.2.1]; exact hs
    have y2:a.eval (.tmp 2)=.pointer (some ⟨X,0,none⟩):=by rw [S.off.eval (by decide)]; exact x2
    have y3:a.eval (.tmp 3)=.pointer (some ⟨Y,0,none⟩):=by rw [S.off.eval (by decide)]; exact x3
    match i',il,ho,hsi,hT with
    | 0,_,ho,hsi,hT=>
      obtain ⟨e1,e2⟩:=pick_of h0 ho
      have BW:=S.before
      refine wp_load_mid 22 (.tmp 2) e1 X 0 y2 (list8 f) _ (cel8_range BW.2.1) Tryz.underlying22 rfl info_a8 (hK _ _ ?_)
      rw [e2]
      exact ⟨ofp S.off,S.before,ev_ (by omega),kp S.t1⟩
    | 1,_,ho,hsi,hT=>
      obtain ⟨e1,e2⟩:=pick_of h1 ho
      have BW:=S.before
      refine wp_load_mid 22 (.tmp 3) e1 Y 0 y3 (list8 g) _ (cel8_range BW.2.2.1) Tryz.underlying22 rfl info_a8 (hK _ _ ?_)
      rw [e2]
      exact ⟨ofp S.off,S.before,kp S.t0,ev_ (by omega)⟩
    | 2,_,ho,hsi,hT=>
      obtain ⟨e1,e2⟩:=pick_of h2 ho
      have D0:s 0=true:=list_pos hT (d:=0) (by decide)
      have BW:=S.before
      refine wp_store_mid 22 (.tmp 2) (.tmp 13) e1 X 0 (list8 f).toArray y2 (S.t0 D0) (BW.2.1.there 0 8 (by omega)) info_a8 (by simp [list8,Value.oneCell']) (hK _ _ ?_)
      have BW2:=BW.setX
      rw [e2]
      exact ⟨S.off.put_none _,BW2,fun g=>S.t0 (by simpa using g),fun g=>S.t1 (by simpa using g)⟩
    | _ + 3,il,_,_,_=>exact absurd il (by omega)
  intro s a w' S hall
  have a0:=hall 0 (by omega)
  have a1:=hall 1 (by omega)
  have a2:=hall 2 (by omega)
  have e:=off_norm _ (by intro d hd; simp at hd; omega) S.off
  simp only [List.foldl,S.t0 a0,S.t1 a1] at e
  rw [e]
  exact h _ S.before
def evS (s:Nat) (i:Nat):Int:=if i=0 then (s:Int) else 1
theorem even_any (s:Nat) (w:World):Calls Tryz.prog 28 #[.int .i64 (s:Nat)] w fun e w'=>e=.returned (.tuple #[arr8 (fun _=>0),arr8 (evS s)])/\Below w.heap.size w w':=by
  go_enter Tryz.func28,Tryz.ntmps28
  go_wp2_with (first
    | ((with_reducible refine atList ?_); refine wpList_newT rfl (.alloc 22) rfl (some 2) rfl #[.int .i64 0,.int .i64 0,.int .i64 0,.int .i64 0,.int .i64 0,.int .i64 0,.int .i64 0,.int .i64 0] 22 (fun X=>.pointer (some ⟨X,0,none⟩)) 8 (cel8 (fun _=>0)) (a8_cells (fun _=>0)) (alloc_a8 rfl) ?_; intro X w2 HX SX CX BX TX)
    | ((with_reducible refine atList ?_); refine wpList_newT rfl (.alloc 22) rfl (some 3) rfl #[.int .i64 0,.int .i64 0,.int .i64 0,.int .i64 0,.int .i64 0,.int .i64 0,.int .i64 0,.int .i64 0] 22 (fun X=>.pointer (some ⟨X,0,none⟩)) 8 (cel8 (fun _=>0)) (a8_cells (fun _=>0)) (alloc_a8 rfl) ?_; intro Y w3 HY SY CY BY TY))
  have E0:EvI w.heap.size X Y (fun _=>0) (fun _=>0) w w3:=⟨bt BX.out BY.out,CX.out.below BY.out,CY.out,by have:=HX.out; omega,by have:=HX.out; have:=HY.out; have:=SX.out; omega,by have:=HX.out; have:=HY.out; have:=SX.out; omega⟩
  have HE:=Lib.hid E0
  clear E0 HX HY SX SY CX CY BX BY TX TY
  go_loopw [4] (fun i wr=>∃ k:Nat,k<=8/\i=.int .i64 k/\EvI w.heap.size X Y (fun _=>0) (fun j=>if j < k then 1 else 0) w wr) (fun i _=>8 - (intOf i).toNat)
  case atStart=>exact ⟨0,by omega,rfl,HE.out⟩
  case round=>
    obtain ⟨k,hk,rfl,hB⟩:=hrel
    have HB:=Lib.hid hB
    clear hB
    by_cases hlt:k < 8
    · have k0:(0:Int)<=(k:Int):=by omega
      have k1:(k:Int) < 8:=by omega
      have Q:=Lib.hid (fun v:Value=>HB.out.2.2.1.set k v)
      have q0:wr.cell? ⟨Y,k,none⟩=some (.int .i64 (if k < k then 1 else 0)):=HB.out.2.2.1.cell hlt
      have q1:wr.frozen? ⟨Y,k,none⟩=false:=HB.out.2.2.1.frozen hlt
      rw [if_neg (Nat.lt_irrefl k)] at q0
      go_wp2_with fail
      go_roundw
      case rel=>
        refine ⟨k + 1,by omega,by go_num,HB.out.1.setCell (p:=⟨Y,k,none⟩) HB.out.2.2.2.2.1 _,HB.out.2.1.setOther HB.out.2.2.2.2.2 _,(Q.out _).congr (fun j hj=>?_),HB.out.2.2.2⟩
        show (if j=k then _ else cel8 _ j)=cel8 _ j
        dsimp only [cel8]
        by_cases e:j=k
        · rw [if_pos e,if_pos (by omega)]
        rw [if_neg e]
        by_cases e2:j < k
        · rw [if_pos e2,if_pos (by omega)]
        rw [if_neg e2,if_neg (by omega)]
      case measure=>simp [intOf]; omega
    obtain rfl:k=8:=by omega
    have q0:wr.cell? ⟨Y,0,none⟩=some (.int .i64 (if 0 < 8 then 1 else 0)):=HB.out.2.2.1.cell (j:=0) (by omega)
    have q1:wr.frozen? ⟨Y,0,none⟩=false:=HB.out.2.2.1.frozen (j:=0) (by omega)
    rw [if_pos (by omega)] at q0
    clear hlt
    go_upto_region 6 with fail
    obtain ⟨w4,hw4⟩:∃ w4,wr.setCell ⟨Y,0,none⟩ (.int .i64 (s:Nat))=w4:=⟨_,rfl⟩
    rw [hw4]
    have E4:EvI w.heap.size X Y (fun _=>0) (evS s) w w4:=by
      rw [<-hw4]
      refine ⟨HB.out.1.setCell (p:=⟨Y,0,none⟩) HB.out.2.2.2.2.1 _,HB.out.2.1.setOther HB.out.2.2.2.2.2 _,(HB.out.2.2.1.set 0 _).congr (fun j hj=>?_),HB.out.2.2.2⟩
      show (if j=0 then _ else cel8 _ j)=cel8 _ j
      dsimp only [cel8,evS]
      by_cases e:j=0
      · rw [if_pos e,if_pos e]
      rw [if_neg e,if_neg e,if_pos hj]
    have S4:w.heap.size<=w4.heap.size:=E4.1.size
    refine evRegion w.heap.size X Y (fun _=>0) (evS s) ⟨Below.refl _ _,E4.2⟩ (by kernel_rfl) rfl rfl rfl rfl rfl rfl ?_
    intro w5 h5
    have E5:EvI w.heap.size X Y (fun _=>0) (evS s) w w5:=⟨E4.1.trans h5.1,h5.2⟩
    simp only [Act.put,List.setIfInBounds_toArray,List.set_cons_succ,List.set_cons_zero,List.drop_succ_cons,List.drop_zero]
    (with_reducible refine atList ?_)
    have T5:w5.there Y 0 (list8 (evS s)).toArray.size:=E5.2.2.1.there 0 8 (by omega)
    have O5:(list8 (evS s)).toArray.all (·.oneCell')=true:=by simp [list8,Value.oneCell']
    have I5:(Tryz.prog.info? 22).map (·.size)=some (list8 (evS s)).toArray.size:=info_a8
    have A5:arr8 (evS s)=.agg (list8 (evS s)).toArray:=rfl
    rw [A5]
    refine wpList_store_mid ?h1 22 (.tmp 3) (.tmp 14) ?h2 Y 0 (list8 (evS s)).toArray ?h3 ?h4 T5 I5 O5 ?h5
    case h1=>rfl
    case h2=>rfl
    case h3=>rfl
    case h4=>rfl
    have E6:=E5.setY
    obtain ⟨w6,hw6⟩:∃ w6,w5.setCells Y 0 (list8 (evS s)).toArray.toList=w6:=⟨_,rfl⟩
    rw [hw6]
    rw [show list8 (evS s)=(list8 (evS s)).toArray.toList from rfl,hw6] at E6
    have H6:=Lib.hid E6
    clear E6 hw6 T5 O5 I5 A5
    go_wp2_with fail
    (try simp only [Exit.inBlock,Exit.then])
    exact bodyPost_ret (results_cells2 rfl _ _ X Y (list8 (fun _=>0)) (list8 (evS s)) _ (by rfl) (by rfl) (cel8_range H6.out.2.1) (cel8_range H6.out.2.2.1) Tryz.underlying22 rfl info_a8 info_a8) rfl ⟨rfl,H6.out.1⟩
end Go.Proofs.YtchfkncbemjepaaGreat

/- Layer 11's laws: what shown needs. -/
namespace Go.Proofs.YtchfkncbemjepaaGreat
open Go.RowKit

theorem PD.kfM {w w':World} {n0 n1 M D:Nat} {x:Ch.Mx} {y:Ch.Dx} {X:Nat->Nat} {va vb:Nat->Value} {S':Nat->Prop} (h:PD w n1 D y) (m:PM w n0 M x X va vb) (k:KF n0 (SM M X va vb) S' w w'):PD w' n1 D y:=
  h.keep (k.rest D h.dt.lt (fun hg=>by
    obtain ⟨t,ht,T⟩:=m.tyS hg
    exact ty_ne T h.dt (fun e=>by subst e; exact absurd ht (by decide)) rfl))
theorem PM.kfD {w w':World} {n0 n1 n2 M D:Nat} {x:Ch.Mx} {y:Ch.Dx} {X:Nat->Nat} {va vb:Nat->Value} (m:PM w n0 M x X va vb) (h:PD w n1 D y) (k:KF n2 (·=D) (·=D) w w'):PM w' n0 M x X va vb:=
  m.keep (fun g hg=>k.rest g (m.lt hg) (fun e=>by
    obtain ⟨t,ht,T⟩:=m.tyS hg
    exact ty_ne T h.dt (fun e=>by subst e; exact absurd ht (by decide)) e))
theorem PM.kfO {w w':World} {n0 M Z:Nat} {x:Ch.Mx} {X:Nat->Nat} {va vb:Nat->Value} {S':Nat->Prop} {t:TypeId} (m:PM w n0 M x X va vb) (T:TyB w Z t) (ht:t ∉ MTs) (k:KF n0 (SM M X va vb) S' w w'):w'.heap[Z]?=w.heap[Z]?:=
  k.rest Z T.lt (fun hg=>by
    obtain ⟨s,hs,U⟩:=m.tyS hg
    exact ty_ne U T (fun e=>by subst e; exact absurd hs ht) rfl)
theorem PD.kfO {w w':World} {n1 n2 D Z:Nat} {y:Ch.Dx} {t:TypeId} (h:PD w n1 D y) (T:TyB w Z t) (ht:t ≠ 68) (k:KF n2 (·=D) (·=D) w w'):w'.heap[Z]?=w.heap[Z]?:=
  k.rest Z T.lt (fun e=>ty_ne T h.dt ht e)
theorem own_form {w:World} {base n:Nat} {t:TypeId} {v:Value} {xs:List Value} (h:w.ownsRow base t 1 v n xs):∃ a c,v=.slice a n c:=by
  obtain ⟨_,h⟩:=h
  rcases h with ⟨q,e⟩ | ⟨g,c,cur,q1,q2,q3,_⟩
  · exact ⟨none,0,by rw [q,e]⟩
  exact ⟨_,_,q1⟩
theorem newMux_sh (w:World):Calls Tryz.prog 9 #[.int .i64 1,.int .i64 32,arr8 (fun _=>0),arr8 (evS 2)] w fun e w'=>∃ M X va vb,e=.returned (.tuple #[.pointer (some ⟨M,0,none⟩),.int .i64 0])/\PM w' w.heap.size M (Ch.Mx.new 32 1 (fun _=>0) (fun i=>if i=0 then 2 else 1)) X va vb/\Below w.heap.size w w':=by
  refine (newMux_any 1 32 (fun _=>0) (evS 2) w).mono ?_
  rintro e w' ⟨hb,⟨hn,_⟩ | ⟨_,M,X,va,vb,e1,p⟩⟩
  · exact absurd ⟨by omega,by omega,fun i hi=>⟨⟨by show (0:Int)<=0; omega,by show (0:Int)<=7; omega⟩,by unfold evS; split <;> omega⟩⟩ hn
  refine ⟨M,X,va,vb,e1,?_,hb⟩
  have es:(fun i=>(evS 2 i).toNat)=(fun i=>if i=0 then 2 else 1):=by
    funext i
    unfold evS
    split <;> rfl
  rw [es] at p
  exact p
theorem newDemux_sh (w:World):Calls Tryz.prog 20 #[.int .i64 1,.int .i64 32] w fun e w'=>∃ D,e=.returned (.tuple #[.pointer (some ⟨D,0,none⟩),.int .i64 0])/\PD w' w.heap.size D (Ch.Dx.new 32 1)/\Below w.heap.size w w':=by
  refine (newDemux_any 1 32 w).mono ?_
  rintro e w' ⟨hb,⟨hn,_⟩ | ⟨_,D,e1,p⟩⟩
  · exact absurd ⟨by omega,by omega⟩ hn
  exact ⟨D,e1,p,hb⟩
theorem alloc_a6 {ev:Operand->Value} {o:Oper} {w:World} (h:o.op=.alloc 83):(execOp ev o).run Tryz.prog w=.ok (.value (.pointer (some ⟨w.heap.size,0,none⟩))) (w.alloc (.cells #[.int .i64 0,.int .i64 0,.int .i64 0,.int .i64 0,.int .i64 0,.int .i64 0] 83)):=by
  simp only [execOp,h]; go_simp
theorem info_a6:(Tryz.prog.info? 83).map (·.size)=some 6:=by kernel_rfl
abbrev cel6 (j:Nat):Value:=.int .i64 (Ch.shWant j:Nat)
theorem zero6:∀ j,j < 6->(#[.int .i64 0,.int .i64 0,.int .i64 0,.int .i64 0,.int .i64 0,.int .i64 0]:Array Value)[j]?=some (.int .i64 0):=fun j hj=>by
  match j,hj with
  | 0,_=>rfl
  | 1,_=>rfl
  | 2,_=>rfl
  | 3,_=>rfl
  | 4,_=>rfl
  | 5,_=>rfl
theorem want6:∀ j,j < 6->([.int .i64 0,.int .i64 0,.int .i64 1,.int .i64 0,.int .i64 1,.int .i64 7]:List Value)[j]?=some (cel6 j):=fun j hj=>by
  match j,hj with
  | 0,_=>rfl
  | 1,_=>rfl
  | 2,_=>rfl
  | 3,_=>rfl
  | 4,_=>rfl
  | 5,_=>rfl
theorem arL7 (sw:Nat) (db:Bool) (v:Value):∀ j,j < 7->([.int .i64 (sw:Nat),.bool db,.int .i64 0,.int .i64 0,v,.int .i64 0,.int .u32 9]:List Value)[j]?=some (([.int .i64 (sw:Nat),.bool db,.int .i64 0,.int .i64 0,v,.int .i64 0,.int .u32 9]:List Value).getD j undef):=fun j hj=>by
  match j,hj with
  | 0,_=>rfl
  | 1,_=>rfl
  | 2,_=>rfl
  | 3,_=>rfl
  | 4,_=>rfl
  | 5,_=>rfl
  | 6,_=>rfl
structure ShL (w wr:World) (n5 n6 M D Z:Nat) (X:Nat->Nat) (k:Nat):Prop where
  pm:∃ va vb,PM wr n5 M (Ch.shX k) X va vb
  pd:PD wr n6 D (Ch.shD k)
  ty:TyB wr Z 83
  c:Cel wr Z 6 cel6
  b:Below w.heap.size w wr
  s5:n5<=wr.heap.size
  s6:n6<=wr.heap.size
theorem ShL.below {w wr w':World} {n5 n6 M D Z:Nat} {X:Nat->Nat} {k:Nat} (h:ShL w wr n5 n6 M D Z X k) (hb:Below wr.heap.size wr w'):ShL w w' n5 n6 M D Z X k:=by
  obtain ⟨⟨va,vb,p⟩,q,t,c,b,s5,s6⟩:=h
  exact ⟨⟨va,vb,p.below hb⟩,q.below hb,t.below hb,c.below hb,bt b hb,Nat.le_trans s5 hb.size,Nat.le_trans s6 hb.size⟩
theorem shB_size (k:Nat):(Ch.shB k).size<=1000000:=by
  unfold Ch.shB
  rw [bs_size,Tm.enc_len]
  have:=(Ch.shX_ok k).n2
  show (bs (Ch.shX k).dat).size + 12<=1000000
  rw [bs_size,Ch.Mx.dat_len (Ch.shX_ok k)]
  omega
theorem ShL.next {w wr:World} {n5 n6 M D Z:Nat} {X:Nat->Nat} {k:Nat} (h:ShL w wr n5 n6 M D Z X k) (h5:w.heap.size<=n5) (h6:w.heap.size<=n6) (hk:k < 6):
    Calls Tryz.prog 16 #[.pointer (some ⟨M,0,none⟩),.int .u32 9] wr fun e w1=>e=.returned (.tuple #[.string (Ch.shB k),.int .i64 0])/\wr.heap.size<=w1.heap.size ∧
      Calls Tryz.prog 22 #[.pointer (some ⟨D,0,none⟩),.string (Ch.shB k)] w1 fun e w2=>∃ a c db pk,e=.returned (.tuple #[.agg #[.int .i64 (Ch.shWant k:Nat),.bool db,.int .i64 0,.int .i64 0,.slice a pk c,.int .i64 0,.int .u32 9],.int .i64 0])/\(decide (pk=1)=(decide (k=3) || decide (k=4)))/\ShL w w2 n5 n6 M D Z X (k + 1):=by
  obtain ⟨⟨va,vb,p⟩,q,t,c,b,s5,s6⟩:=h
  refine (mNext_any p (Ch.shX_ok k) s5 9 (by omega)).mono ?_
  rintro e w1 ⟨rfl,va1,vb1,p1,k1⟩
  have z1:=p.kfO t (by decide) k1
  have q1:=q.kfM p k1
  have sz1:=k1.below.size
  refine ⟨rfl,sz1,?_⟩
  have t1:=t.of_block z1
  have F:=dFeed_any q1 (Ch.shD_ok k) (Nat.le_trans s6 sz1) (Ch.shB k) (shB_size k)
  unfold Fd at F
  have e0:(Ch.shD k).feed (Ch.shB k)=Ch.shR k:=rfl
  have e1:Ch.shD (k + 1)=(Ch.shR k).2.2:=rfl
  have G:=Ch.shGood_all' hk
  rw [e0] at F
  obtain ⟨⟨⟨ch,db,lo,mi,br,wo,pk⟩,er,dx⟩,hr⟩:∃ r,Ch.shR k=r:=⟨_,rfl⟩
  rw [hr] at F G e1
  obtain ⟨g1,g2,g3,⟨g4,g5,g6⟩,g7⟩:=G
  simp only at g1 g2 g3 g4 g5 g6 g7 e1
  subst g1 g2 g3 g4 g5 g6
  refine F.mono ?_
  rintro e w2 ⟨v,rfl,row,q2,k2⟩
  obtain ⟨a,cc,rfl⟩:=own_form row
  refine ⟨a,cc,db,pk.length,rfl,g7,⟨⟨va1,vb1,p1.kfD q1 k2⟩,by rw [e1]; exact q2,t1.of_block (q1.kfO t1 (by decide) k2),(c.of_block z1).of_block (q1.kfO t1 (by decide) k2),(b.trans (k1.below.mono h5)).trans (k2.below.mono h6),Nat.le_trans s5 (Nat.le_trans sz1 k2.below.size),Nat.le_trans s6 (Nat.le_trans sz1 k2.below.size)⟩⟩
end Go.Proofs.YtchfkncbemjepaaGreat

/- Layer 11's laws: shown is true. -/
namespace Go.Proofs.YtchfkncbemjepaaGreat
open Go.RowKit

theorem cshown_any (w:World):Calls Tryz.prog 8 #[] w fun e w'=>e=.returned (.bool true)/\Below w.heap.size w w':=by
  have EV:Hid (∀ w,Calls Tryz.prog 28 #[.int .i64 2] w fun e w'=>e=.returned (.tuple #[arr8 (fun _=>0),arr8 (evS 2)])/\Below w.heap.size w w'):=Lib.hid (fun w=>even_any 2 w)
  have NW:Hid (∀ w,Calls Tryz.prog 9 #[.int .i64 1,.int .i64 32,.agg (list8 (fun _=>0)).toArray,.agg (list8 (evS 2)).toArray] w fun e w'=>∃ M X va vb,e=.returned (.tuple #[.pointer (some ⟨M,0,none⟩),.int .i64 0])/\PM w' w.heap.size M (Ch.Mx.new 32 1 (fun _=>0) (fun i=>if i=0 then 2 else 1)) X va vb/\Below w.heap.size w w'):=Lib.hid (fun w=>newMux_sh w)
  have NV:=Lib.hid (fun w=>newDemux_sh w)
  have M70:Hid (∀ w,Calls Tryz.prog 27 #[.int .i64 70,.int .i64 1] w fun e w'=>e=.returned (.string (bs (Ch.mk 70 1)))/\Below w.heap.size w w'):=Lib.hid (fun w=>cmade_any 70 1 (by omega) (by omega) (by omega) w)
  have M40:Hid (∀ w,Calls Tryz.prog 27 #[.int .i64 40,.int .i64 2] w fun e w'=>e=.returned (.string (bs (Ch.mk 40 2)))/\Below w.heap.size w w'):=Lib.hid (fun w=>cmade_any 40 2 (by omega) (by omega) (by omega) w)
  have PS:=Lib.hid (show (bs (Ch.mk 70 1)).size<=2000/\(bs (Ch.mk 40 2)).size<=2000 from ⟨by rw [bs_size,Ch.mk_len 70 1 (by omega)]; omega,by rw [bs_size,Ch.mk_len 40 2 (by omega)]; omega⟩)
  have X0:=Lib.hid (show Ch.shX 0=((Ch.Mx.new 32 1 (fun _=>0) (fun i=>if i=0 then 2 else 1)).add 0 (bs (Ch.mk 70 1))).add 1 (bs (Ch.mk 40 2)) from rfl)
  have A0:=Lib.hid Ch.shA0
  have A1:=Lib.hid Ch.shA1
  have OX:=Lib.hid Ch.shX_ok
  obtain ⟨x0,hx0⟩:∃ x,Ch.Mx.new 32 1 (fun _=>0) (fun i=>if i=0 then 2 else 1)=x:=⟨_,rfl⟩
  obtain ⟨p70,h70⟩:∃ x,bs (Ch.mk 70 1)=x:=⟨_,rfl⟩
  obtain ⟨p40,h40⟩:∃ x,bs (Ch.mk 40 2)=x:=⟨_,rfl⟩
  have O0:=Lib.hid (show x0.Ok by rw [<-hx0]; exact Ch.Mx.Ok.new (by omega) (by omega) (by omega) (fun _ _=>by omega) (fun i _=>by split <;> omega) (fun i _=>by split <;> omega))
  have AV0:=Lib.hid (show acV (x0.fl 0) p70=0 by rw [<-hx0,<-h70]; exact Ch.shA0)
  rw [hx0] at X0 A1 NW
  rw [h70] at X0 A0 A1 M70 PS
  rw [h40] at X0 A1 M40 PS
  obtain ⟨x1,hx1⟩:∃ x,x0.add 0 p70=x:=⟨_,rfl⟩
  have O1:=Lib.hid (show x1.Ok by rw [<-hx1]; exact O0.out.add 0 (by omega) _)
  have H1:=Lib.hid hx1
  rw [hx1] at X0 A1
  have D0:=Lib.hid (show Ch.shD 0=Ch.Dx.new 32 1 from rfl)
  have nqM:=Lib.hid (fun X w=>eqlM_not ⟨X,0,none⟩ w)
  have nqD:=Lib.hid (fun X w=>eqlD_not ⟨X,0,none⟩ w)
  clear hx0 h70 h40 hx1 A0
  go_enter Tryz.func8,Tryz.ntmps8
  go_wp2_with fail
  (with_reducible refine (EV.out _).mono ?_)
  rintro e w1 ⟨rfl,h1⟩
  have B1:=Lib.hid h1
  clear h1
  go_wp2_with (first
    | ((with_reducible refine atList ?_); refine wpList_newT rfl (.alloc 22) rfl (some 1) rfl #[.int .i64 0,.int .i64 0,.int .i64 0,.int .i64 0,.int .i64 0,.int .i64 0,.int .i64 0,.int .i64 0] 22 (fun X=>.pointer (some ⟨X,0,none⟩)) 8 (cel8 (fun _=>0)) (a8_cells (fun _=>0)) (alloc_a8 rfl) ?_; intro P w2 HP SP CP BP TP)
    | ((with_reducible refine atList ?_); refine wpList_newT rfl (.alloc 22) rfl (some 2) rfl #[.int .i64 0,.int .i64 0,.int .i64 0,.int .i64 0,.int .i64 0,.int .i64 0,.int .i64 0,.int .i64 0] 22 (fun X=>.pointer (some ⟨X,0,none⟩)) 8 (cel8 (fun _=>0)) (a8_cells (fun _=>0)) (alloc_a8 rfl) ?_; intro S w3 HS SS CS BS TS)
    | ((with_reducible refine atList ?_); refine wpList_setAllT rfl 22 (.tmp 1) (.tmp 15) rfl P 8 (list8 (fun _=>0)) _ (cel8 (fun _=>0)) (CP.out.below BS.out) rfl (list8_at (fun _=>0)) rfl rfl info_a8 (by simp [list8,Value.oneCell']) ?_; intro w4 C4 U4 S4 V4)
    | ((with_reducible refine atList ?_); refine wpList_setAllT rfl 22 (.tmp 2) (.tmp 16) rfl S 8 (list8 (evS 2)) _ (cel8 (evS 2)) (CS.out.but U4.out (by have:=HP.out; have:=HS.out; have:=SP.out; omega)) rfl (list8_at (evS 2)) rfl rfl info_a8 (by simp [list8,Value.oneCell']) ?_; intro w5 C5 U5 S5 V5)
    | ((with_reducible refine atList ?_); refine wpList_load_mid rfl 22 (.tmp 1) rfl P 0 rfl (list8 (fun _=>0)) _ (cel8_range (C4.out.but U5.out (by have:=HP.out; have:=HS.out; have:=SP.out; omega))) Tryz.underlying22 rfl info_a8 ?_)
    | ((with_reducible refine atList ?_); refine wpList_load_mid rfl 22 (.tmp 2) rfl S 0 rfl (list8 (evS 2)) _ (cel8_range C5.out) Tryz.underlying22 rfl info_a8 ?_))
  have B5:=Lib.hid (show Below w.heap.size w w5 from ((bt (bt B1.out BP.out) BS.out).trans (U4.out.below.mono (by have:=B1.out.size; have:=HP.out; omega))).trans (U5.out.below.mono (by have:=B1.out.size; have:=HP.out; have:=SP.out; have:=HS.out; omega)))
  clear HP SP CP BP TP HS SS CS BS TS C4 U4 S4 V4 C5 U5 S5 V5 B1
  (with_reducible refine (NW.out _).mono ?_)
  rintro e w6 ⟨M,X,va,vb,rfl,P6,h6⟩
  have HP6:=Lib.hid P6
  have B6:=Lib.hid (bt B5.out h6)
  have N6:=Lib.hid (show w5.heap.size<=w6.heap.size from h6.size)
  clear P6 h6
  go_wp2_with fail
  (with_reducible refine (NV.out _).mono ?_)
  rintro e w7 ⟨D,rfl,Q7,h7⟩
  have HQ7:=Lib.hid Q7
  have HP7:=Lib.hid (HP6.out.below h7)
  have B7:=Lib.hid (bt B6.out h7)
  have N67:=Lib.hid (show w6.heap.size<=w7.heap.size from h7.size)
  have N7:=Lib.hid (show w5.heap.size<=w7.heap.size from Nat.le_trans N6.out h7.size)
  have n7:=nqM.out M
  have d7:=nqD.out D
  clear Q7 h7
  go_wp2_with fail
  (with_reducible refine (M70.out _).mono ?_)
  rintro e w8 ⟨rfl,h8⟩
  have HP8:=Lib.hid (HP7.out.below h8)
  have HQ8:=Lib.hid (HQ7.out.below h8)
  have B8:=Lib.hid (bt B7.out h8)
  have N8:=Lib.hid (show w5.heap.size<=w8.heap.size/\w6.heap.size<=w8.heap.size from ⟨Nat.le_trans N7.out h8.size,Nat.le_trans N67.out h8.size⟩)
  clear h8
  have A1':=mAdd_any HP8.out O0.out N8.out.1 0 (by omega) p70 PS.out.1
  rw [AV0.out,H1.out] at A1'
  have HA1:Hid (Calls Tryz.prog 12 #[.pointer (some ⟨M,0,none⟩),.int .i64 0,.string p70] w8 fun e w'=>e=.returned (.int .i64 0)/\∃ va' vb',PM w' w5.heap.size M x1 X va' vb'/\KF w5.heap.size (SM M X va vb) (SM M X va' vb') w8 w'):=Lib.hid A1'
  clear A1'
  go_wp2_with fail
  (with_reducible refine HA1.out.mono ?_)
  rintro e w9 ⟨rfl,va1,vb1,P9,K9⟩
  have HP9:=Lib.hid P9
  have HQ9:=Lib.hid (HQ8.out.kfM HP8.out K9)
  have B9:=Lib.hid (B8.out.trans (K9.below.mono B5.out.size))
  have N9:=Lib.hid (show w5.heap.size<=w9.heap.size/\w6.heap.size<=w9.heap.size from ⟨Nat.le_trans N8.out.1 K9.below.size,Nat.le_trans N8.out.2 K9.below.size⟩)
  clear P9 K9 HA1
  go_wp2_with fail
  (with_reducible refine (M40.out _).mono ?_)
  rintro e w10 ⟨rfl,h10⟩
  have HP10:=Lib.hid (HP9.out.below h10)
  have HQ10:=Lib.hid (HQ9.out.below h10)
  have B10:=Lib.hid (bt B9.out h10)
  have N10:=Lib.hid (show w5.heap.size<=w10.heap.size/\w6.heap.size<=w10.heap.size from ⟨Nat.le_trans N9.out.1 h10.size,Nat.le_trans N9.out.2 h10.size⟩)
  clear h10
  have A2':=mAdd_any HP10.out O1.out N10.out.1 1 (by omega) p40 PS.out.2
  rw [A1.out,<-X0.out] at A2'
  have HA2:Hid (Calls Tryz.prog 12 #[.pointer (some ⟨M,0,none⟩),.int .i64 1,.string p40] w10 fun e w'=>e=.returned (.int .i64 0)/\∃ va' vb',PM w' w5.heap.size M (Ch.shX 0) X va' vb'/\KF w5.heap.size (SM M X va1 vb1) (SM M X va' vb') w10 w'):=Lib.hid A2'
  clear A2'
  go_wp2_with fail
  (with_reducible refine HA2.out.mono ?_)
  rintro e w11 ⟨rfl,va2,vb2,P11,K11⟩
  have HP11:=Lib.hid P11
  have HQ11:=Lib.hid (HQ10.out.kfM HP10.out K11)
  have B11:=Lib.hid (B10.out.trans (K11.below.mono B5.out.size))
  have N11:=Lib.hid (show w5.heap.size<=w11.heap.size/\w6.heap.size<=w11.heap.size from ⟨Nat.le_trans N10.out.1 K11.below.size,Nat.le_trans N10.out.2 K11.below.size⟩)
  clear P11 K11 HA2
  go_wp2_with fail
  (with_reducible refine (M40.out _).mono ?_)
  rintro e w12 ⟨rfl,h12⟩
  have HP12:=Lib.hid (HP11.out.below h12)
  have HQ12:=Lib.hid (HQ11.out.below h12)
  have B12:=Lib.hid (bt B11.out h12)
  have N12:=Lib.hid (show w5.heap.size<=w12.heap.size/\w6.heap.size<=w12.heap.size from ⟨Nat.le_trans N11.out.1 h12.size,Nat.le_trans N11.out.2 h12.size⟩)
  clear h12
  have HA3:=Lib.hid (mAdd_no HP12.out 8 (by omega) p40)
  go_wp2_with fail
  (with_reducible refine HA3.out.mono ?_)
  rintro e w' ⟨rfl,rfl⟩
  clear HA3
  go_wp2_with (first
    | ((with_reducible refine atList ?_); refine wpList_newT rfl (.alloc 83) rfl (some 7) rfl #[.int .i64 0,.int .i64 0,.int .i64 0,.int .i64 0,.int .i64 0,.int .i64 0] 83 (fun X=>.pointer (some ⟨X,0,none⟩)) 6 (fun _=>.int .i64 0) zero6 (alloc_a6 rfl) ?_; intro Z w13 HZ SZ CZ BZ TZ)
    | ((with_reducible refine atList ?_); refine wpList_setAllT rfl 83 (.tmp 7) (.tmp 59) rfl Z 6 [.int .i64 0,.int .i64 0,.int .i64 1,.int .i64 0,.int .i64 1,.int .i64 7] _ cel6 CZ.out rfl want6 rfl rfl info_a6 (by simp [Value.oneCell']) ?_; intro w14 C14 U14 S14 V14))
  have L0:Hid (ShL w w14 w5.heap.size w6.heap.size M D Z X 0):=Lib.hid (by
    have b14:Below w12.heap.size w12 w14:=BZ.out.trans (U14.out.below.mono (by have:=HZ.out; omega))
    refine ⟨⟨_,_,HP12.out.below b14⟩,?_,V14.out _ TZ.out,C14.out,bt B12.out b14,Nat.le_trans N12.out.1 b14.size,Nat.le_trans N12.out.2 b14.size⟩
    rw [D0.out]
    exact HQ12.out.below b14)
  have N5:=Lib.hid B5.out.size
  have N6':=Lib.hid B6.out.size
  clear HP6 HQ7 HP7 HP8 HQ8 HP9 HQ9 HP10 HQ10 HP11 HQ11 HP12 HQ12 B6 B7 B8 B9 B10 B11 B12 N6 N67 N7 N8 N9 N10 N11 N12 n7 d7 CZ BZ TZ C14 U14 V14 S14 HZ SZ EV NW NV M70 M40 PS X0 A1 AV0 O0 O1 H1 D0 nqM nqD
  go_loopw [8] (fun i wr=>∃ k:Nat,k<=6/\i=.int .i64 k/\ShL w wr w5.heap.size w6.heap.size M D Z X k) (fun i _=>6 - (intOf i).toNat)
  case atStart=>exact ⟨0,by omega,rfl,L0.out⟩
  case round=>
    obtain ⟨k,hk,rfl,hB⟩:=hrel
    have HB:=Lib.hid hB
    clear hB L0
    by_cases hlt:k < 6
    · have k0:(0:Int)<=(k:Int):=by omega
      have k1:(k:Int) < 6:=by omega
      have NN:=Lib.hid (HB.out.next N5.out N6'.out hlt)
      obtain ⟨fb,hfb⟩:∃ x,Ch.shB k=x:=⟨_,rfl⟩
      obtain ⟨sw,hsw⟩:∃ x,Ch.shWant k=x:=⟨_,rfl⟩
      rw [hfb,hsw] at NN
      have HSW:=Lib.hid hsw
      have HK:=Lib.hid hlt
      clear hfb hsw hlt
      go_wp2_with fail
      (with_reducible refine NN.out.mono ?_)
      rintro e wa ⟨rfl,sza,NF'⟩
      have NF:=Lib.hid NF'
      clear NF' sza
      go_wp2_with fail
      (with_reducible refine NF.out.mono ?_)
      rintro e wb ⟨a,c,db,pk,rfl,hpk,L1'⟩
      have L1:=Lib.hid L1'
      have HPK:=Lib.hid hpk
      clear L1' hpk NF NN
      go_wp2_with (first
        | ((with_reducible refine atList ?_); refine wpList_newT rfl (.alloc 51) rfl (some 11) rfl #[.int .i64 0,.bool false,.int .i64 0,.int .i64 0,.slice none 0 0,.int .i64 0,.int .u32 0] 51 (fun X=>.pointer (some ⟨X,0,none⟩)) 7 (aC (.slice none 0 0) Ch.av0) (arC_cells (.slice none 0 0) Ch.av0) (alloc_ar rfl) ?_; intro A wc HA SA CA BA TA)
        | ((with_reducible refine atList ?_); refine wpList_setAllT rfl 51 (.tmp 11) (.tmp 73) rfl A 7 [.int .i64 (sw:Nat),.bool db,.int .i64 0,.int .i64 0,.slice a pk c,.int .i64 0,.int .u32 9] _ (fun j=>([.int .i64 (sw:Nat),.bool db,.int .i64 0,.int .i64 0,.slice a pk c,.int .i64 0,.int .u32 9]:List Value).getD j undef) CA.out rfl (arL7 sw db (.slice a pk c)) rfl rfl info_ar (by simp [Value.oneCell']) ?_; intro wd CD UD SD VD; have BD:=Lib.hid (show Below wb.heap.size wb wd from BA.out.trans (UD.out.below.mono (by have:=HA.out; omega))); have L2:=Lib.hid (L1.out.below BD.out); have a0:wd.cell? ⟨A,0,none⟩=some (.int .i64 (sw:Nat)):=CD.out.cell (j:=0) (by omega); have a2:wd.cell? ⟨A,2,none⟩=some (.int .i64 0):=CD.out.cell (j:=2) (by omega); have a3:wd.cell? ⟨A,3,none⟩=some (.int .i64 0):=CD.out.cell (j:=3) (by omega); have a4:wd.cell? ⟨A,4,none⟩=some (.slice a pk c):=CD.out.cell (j:=4) (by omega); have a5:wd.cell? ⟨A,5,none⟩=some (.int .i64 0):=CD.out.cell (j:=5) (by omega); have a6:wd.cell? ⟨A,6,none⟩=some (.int .u32 9):=CD.out.cell (j:=6) (by omega); have zk:wd.cell? ⟨Z,k,none⟩=some (.int .i64 (sw:Nat)):=(L2.out.c.cell (j:=k) HK.out).trans (by rw [<-HSW.out])))
      clear CA CD UD SD VD HA SA BA TA BD
      have sw1:((sw:Int) != (sw:Int))=false:=by simp
      have sw2:decide ((sw:Int)=(sw:Int))=true:=by simp
      by_cases k3:k=3
      · subst k3
        obtain rfl:pk=1:=of_decide_eq_true (by simpa using HPK.out)
        go_quiet (fail)
        go_wp2_with fail
        go_roundw
        case rel=>exact ⟨3 + 1,by have:=HK.out; omega,by go_num,L2.out.below (below_drewN (Below.refl _ _) _)⟩
        case measure=>simp [intOf]; done
      by_cases k4:k=4
      · subst k4
        obtain rfl:pk=1:=of_decide_eq_true (by simpa using HPK.out)
        go_quiet (fail)
        go_wp2_with fail
        go_roundw
        case rel=>exact ⟨4 + 1,by have:=HK.out; omega,by go_num,L2.out.below (below_drewN (Below.refl _ _) _)⟩
        case measure=>simp [intOf]; done
      have p1:¬ pk=1:=of_decide_eq_false (by rw [HPK.out,decide_eq_false k3,decide_eq_false k4]; rfl)
      have p1a:decide ((pk:Int)=1)=false:=decide_eq_false (by omega)
      have p1b:((pk:Int) == 1)=false:=by simp; omega
      have p1n:decide (pk=1)=false:=decide_eq_false p1
      have k3a:decide ((k:Int)=3)=false:=decide_eq_false (by omega)
      have k3n:decide (k=3)=false:=decide_eq_false k3
      have k3b:((k:Int) == 3)=false:=by simp; omega
      have k4a:decide ((k:Int)=4)=false:=decide_eq_false (by omega)
      have k4n:decide (k=4)=false:=decide_eq_false k4
      have k4b:((k:Int) == 4)=false:=by simp; omega
      clear p1 k3 k4
      go_quiet (fail)
      go_wp2_with fail
      go_roundw
      case rel=>exact ⟨k + 1,by have:=HK.out; omega,by go_num,L2.out.below (below_drewN (Below.refl _ _) _)⟩
      case measure=>simp [intOf]; have:=HK.out; omega
    obtain rfl:k=6:=by omega
    obtain ⟨va,vb,P⟩:=HB.out.pm
    have HP:=Lib.hid P
    have WT':=mWaiting_any P (Ch.shX_ok 6) 0 (by omega)
    rw [Ch.shW] at WT'
    have WT:Hid (Calls Tryz.prog 18 #[.pointer (some ⟨M,0,none⟩),.int .i64 0] wr fun e w'=>e=.returned (.int .i64 0)/\∃ m,w'=wr.drewN m):=Lib.hid WT'
    clear WT' P hlt
    go_wp2_with fail
    (with_reducible refine WT.out.mono ?_)
    rintro e w' ⟨rfl,m,rfl⟩
    go_wp2_with fail
    go_ret
    exact ⟨rfl,below_drewN HB.out.b _⟩
end Go.Proofs.YtchfkncbemjepaaGreat
