/- PkGet -/
import Derived.Test.YtchfkncbemjepaaGreatPkJoin
set_option linter.unusedVariables false
set_option maxRecDepth 100000
set_option maxHeartbeats 20000000
/- Layer 9: the reference's Take and Get. -/
namespace Go.Proofs.YtchfkncbemjepaaGreat
open Go.RowKit

def pk0:Pkt:=⟨false,0,0,0,⟨#[]⟩⟩
def AlP (n0:Nat) (v:Value) (w:World):Prop:=∃ g,v=.pointer (some ⟨g,0,none⟩)/\n0<=g/\Cel w g 5 (pkCel pk0)
theorem AlP.mono {n0:Nat} {v:Value} {w w':World} (h:AlP n0 v w) (hb:Below w.heap.size w w'):AlP n0 v w':=by
  obtain ⟨g,e,h1,h2⟩:=h
  exact ⟨g,e,h1,h2.below hb⟩
theorem alp_new {n0:Nat} (w:World) (h:n0<=w.heap.size):AlP n0 (.pointer (some ⟨w.heap.size,0,none⟩)) (w.alloc (.cells #[.bool false,.int .i64 0,.int .i64 0,.int .i64 0,.string ⟨#[]⟩] 125)):=⟨_,rfl,h,pk_new pk0 w⟩
section
variable {P:Program}
theorem pk_step1 {Fact:Value->World->Prop} {o:Oper} {a:Act} {w w2:World} {K:Act->World->Prop} {Q:Exit->Act->World->Prop} {v:Value} (hv:(execOp a.eval o).run P w=.ok (.value v) w2) (F:Fact v w2) (B:Below w.heap.size w w2)
    (h:∀ v' w',Fact v' w'->Below w.heap.size w w'->K (a.put o.dst v') w'):o.wp P a w K Q:=step_to1 hv (h v w2 F B)
end
structure TkpRegion (b:ByteArray) (n N B0 B1 r8 m8 ap th fl ct n0:Nat) (cm:Bool) (da:ByteArray) (A:Act) (w0:World) (s:Nat->Bool) (a:Act) (w:World):Prop where
  off:Off [61,62,63,64,65,66,67,68,69,70,71,72,73,74,75,76,77,78,79,80,7] a A
  before:Below w0.heap.size w0 w
  t0:s 0=true->a.eval (.tmp 61)=.string b
  t1:s 1=true->a.eval (.tmp 62)=.int .u8 (B0:Nat)
  t2:s 2=true->a.eval (.tmp 63)=.bool cm
  t3:s 3=true->a.eval (.tmp 64)=.string b
  t4:s 4=true->a.eval (.tmp 65)=.int .u8 (B0:Nat)
  t5:s 5=true->a.eval (.tmp 66)=.int .i64 (B0:Nat)
  t6:s 6=true->a.eval (.tmp 67)=.int .i64 (r8:Nat)
  t7:s 7=true->a.eval (.tmp 68)=.int .i64 (m8:Nat)
  t8:s 8=true->a.eval (.tmp 69)=.string b
  t9:s 9=true->a.eval (.tmp 70)=.int .u8 (B1:Nat)
  t10:s 10=true->a.eval (.tmp 71)=.int .i64 (B1:Nat)
  t11:s 11=true->a.eval (.tmp 72)=.int .i64 (ap:Nat)
  t12:s 12=true->a.eval (.tmp 73)=.int .i64 (th:Nat)
  t13:s 13=true->a.eval (.tmp 74)=.int .i64 (fl:Nat)
  t14:s 14=true->a.eval (.tmp 75)=.int .i64 (th:Nat)
  t15:s 15=true->a.eval (.tmp 76)=.int .i64 (ct:Nat)
  t16:s 16=true->a.eval (.tmp 77)=.string b
  t17:s 17=true->a.eval (.tmp 78)=.int .i64 (N:Nat)
  t18:s 18=true->a.eval (.tmp 79)=.string da
  t19:s 19=true->a.eval (.tmp 80)=.agg #[.bool cm,.int .i64 (ap:Nat),.int .i64 (fl:Nat),.int .i64 (ct:Nat),.string da]
  t20:s 20=true->∃ v20,a.eval (.tmp 7)=v20/\AlP n0 v20 w
theorem tkpRegion {id:Nat} {l:List Oper} {A:Act} {w:World} {Q:Exit->Act->World->Prop} (b:ByteArray) (n N B0 B1 r8 m8 ap th fl ct n0:Nat) (cm:Bool) (da:ByteArray)
    (hn:b.size=n) (h6:6<=N) (hN:N<=n) (hs0:0 < b.size) (hs1:1 < b.size) (hb0:(Gal.co b.data.toList 0).toNat=B0) (hb1:(Gal.co b.data.toList 1).toNat=B1) (l0:B0 < 256) (l1:B1 < 256) (hcm:decide (16<=B0)=cm) (hr8:B0 % 8=r8) (hm8:r8 * 256=m8) (hap:m8 + B1=ap) (lth:th < 65536) (hfl:th / 16384=fl) (hct:th % 16384=ct) (hda:b.extract 6 N=da) (hn0:n0<=w.heap.size)
    (hB:tableH l.toArray 21 (fun i=>match i with | 0=>[] | 1=>[0] | 2=>[1] | 3=>[] | 4=>[3] | 5=>[4] | 6=>[5] | 7=>[6] | 8=>[] | 9=>[8] | 10=>[9] | 11=>[7,10] | 12=>[] | 13=>[12] | 14=>[] | 15=>[14] | 16=>[] | 17=>[] | 18=>[16,17] | 19=>[2,11,13,15,18] | 20=>[] | _=>[]) (fun _=>[])=true)
    (h0:pick l 0=some (.move (.tmp 0),some 61))
    (h1:pick l 1=some (.index 9 (.tmp 61) (.const (.int .i64 0)),some 62))
    (h2:pick l 2=some (.binOp .geq 5 (.tmp 62) (.const (.int .u8 16)) 5,some 63))
    (h3:pick l 3=some (.move (.tmp 0),some 64))
    (h4:pick l 4=some (.index 9 (.tmp 64) (.const (.int .i64 0)),some 65))
    (h5:pick l 5=some (.convert 5 3 (.tmp 65),some 66))
    (h6:pick l 6=some (.binOp .rem 3 (.tmp 66) (.const (.int .i64 8)) 3,some 67))
    (h7:pick l 7=some (.binOp .mul 3 (.tmp 67) (.const (.int .i64 256)) 3,some 68))
    (h8:pick l 8=some (.move (.tmp 0),some 69))
    (h9:pick l 9=some (.index 9 (.tmp 69) (.const (.int .i64 1)),some 70))
    (h10:pick l 10=some (.convert 5 3 (.tmp 70),some 71))
    (h11:pick l 11=some (.binOp .add 3 (.tmp 68) (.tmp 71) 3,some 72))
    (h12:pick l 12=some (.move (.tmp 6),some 73))
    (h13:pick l 13=some (.binOp .quo 3 (.tmp 73) (.const (.int .i64 16384)) 3,some 74))
    (h14:pick l 14=some (.move (.tmp 6),some 75))
    (h15:pick l 15=some (.binOp .rem 3 (.tmp 75) (.const (.int .i64 16384)) 3,some 76))
    (h16:pick l 16=some (.move (.tmp 0),some 77))
    (h17:pick l 17=some (.move (.tmp 5),some 78))
    (h18:pick l 18=some (.slice 9 (.tmp 77) (some (.const (.int .i64 6))) (some (.tmp 78)) none,some 79))
    (h19:pick l 19=some (.build 125 #[(0,.tmp 63),(1,.tmp 72),(2,.tmp 74),(3,.tmp 76),(4,.tmp 79)],some 80))
    (h20:pick l 20=some (.alloc 125,some 7))
    (hs:A.tmps.size=83)
    (x0:A.eval (.tmp 0)=.string b)
    (x5:A.eval (.tmp 5)=.int .i64 (N:Nat))
    (x6:A.eval (.tmp 6)=.int .i64 (th:Nat))
    (h:∀ v20 w1,Below w.heap.size w w1->AlP n0 v20 w1->wpList Tryz.prog l.toArray Q (l.drop 21) (((((((((((((((((((((A.put (some 61) (.string b)).put (some 62) (.int .u8 (B0:Nat))).put (some 63) (.bool cm)).put (some 64) (.string b)).put (some 65) (.int .u8 (B0:Nat))).put (some 66) (.int .i64 (B0:Nat))).put (some 67) (.int .i64 (r8:Nat))).put (some 68) (.int .i64 (m8:Nat))).put (some 69) (.string b)).put (some 70) (.int .u8 (B1:Nat))).put (some 71) (.int .i64 (B1:Nat))).put (some 72) (.int .i64 (ap:Nat))).put (some 73) (.int .i64 (th:Nat))).put (some 74) (.int .i64 (fl:Nat))).put (some 75) (.int .i64 (th:Nat))).put (some 76) (.int .i64 (ct:Nat))).put (some 77) (.string b)).put (some 78) (.int .i64 (N:Nat))).put (some 79) (.string da)).put (some 80) (.agg #[.bool cm,.int .i64 (ap:Nat),.int .i64 (fl:Nat),.int .i64 (ct:Nat),.string da])).put (some 7) (v20)) w1):
    (Code.region id l.toArray true).wp Tryz.prog Q A w:=by
  refine wp_region_head (by kernel_rfl) _ _ _ hB (TkpRegion b n N B0 B1 r8 m8 ap th fl ct n0 cm da A w) ⟨Off.refl _ _,(Below.refl _ _).drew,by simp,by simp,by simp,by simp,by simp,by simp,by simp,by simp,by simp,by simp,by simp,by simp,by simp,by simp,by simp,by simp,by simp,by simp,by simp,by simp,by simp⟩ ?_ ?_
  · intro s a w' S i' o il ho hsi hT K hK
    have sz:a.tmps.size=83:=by rw [S.off.2.1]; exact hs
    have y0:a.eval (.tmp 0)=.string b:=by rw [S.off.eval (by decide)]; exact x0
    have y5:a.eval (.tmp 5)=.int .i64 (N:Nat):=by rw [S.off.eval (by decide)]; exact x5
    have y6:a.eval (.tmp 6)=.int .i64 (th:Nat):=by rw [S.off.eval (by decide)]; exact x6
    match i',il,ho,hsi,hT with
    | 0,_,ho,hsi,hT=>
      obtain ⟨e1,e2⟩:=pick_of h0 ho
      refine step_val (v:=.string b) (by simp only [execOp,e1,y0]; go_simp) (hK _ _ ?_)
      rw [e2]
      exact ⟨ofp S.off,S.before,ev_ (by omega),kp S.t1,kp S.t2,kp S.t3,kp S.t4,kp S.t5,kp S.t6,kp S.t7,kp S.t8,kp S.t9,kp S.t10,kp S.t11,kp S.t12,kp S.t13,kp S.t14,kp S.t15,kp S.t16,kp S.t17,kp S.t18,kp S.t19,fun g=>(S.t20 (by simpa using g)).imp fun b hb=>⟨by rw [eval_put_ne _ _ _ _ (by decide)]; exact hb.1,hb.2⟩⟩
    | 1,_,ho,hsi,hT=>
      obtain ⟨e1,e2⟩:=pick_of h1 ho
      have D0:s 0=true:=list_pos hT (d:=0) (by decide)
      have bc:=byte_co b 0 hs0
      rw [show (Gal.co b.data.toList 0).toNat=B0 from hb0] at bc
      refine step_val (v:=.int .u8 (B0:Nat)) (by simp only [execOp,e1,S.t0 D0]; go_simp; intro hq; omega) (hK _ _ ?_)
      rw [e2]
      exact ⟨ofp S.off,S.before,kp S.t0,ev_ (by omega),kp S.t2,kp S.t3,kp S.t4,kp S.t5,kp S.t6,kp S.t7,kp S.t8,kp S.t9,kp S.t10,kp S.t11,kp S.t12,kp S.t13,kp S.t14,kp S.t15,kp S.t16,kp S.t17,kp S.t18,kp S.t19,fun g=>(S.t20 (by simpa using g)).imp fun b hb=>⟨by rw [eval_put_ne _ _ _ _ (by decide)]; exact hb.1,hb.2⟩⟩
    | 2,_,ho,hsi,hT=>
      obtain ⟨e1,e2⟩:=pick_of h2 ho
      have D1:s 1=true:=list_pos hT (d:=1) (by decide)
      refine step_val (v:=.bool cm) (by simp only [execOp,e1,S.t1 D1]; go_simp; rw [<-hcm]; simp; omega) (hK _ _ ?_)
      rw [e2]
      exact ⟨ofp S.off,S.before,kp S.t0,kp S.t1,ev_ (by omega),kp S.t3,kp S.t4,kp S.t5,kp S.t6,kp S.t7,kp S.t8,kp S.t9,kp S.t10,kp S.t11,kp S.t12,kp S.t13,kp S.t14,kp S.t15,kp S.t16,kp S.t17,kp S.t18,kp S.t19,fun g=>(S.t20 (by simpa using g)).imp fun b hb=>⟨by rw [eval_put_ne _ _ _ _ (by decide)]; exact hb.1,hb.2⟩⟩
    | 3,_,ho,hsi,hT=>
      obtain ⟨e1,e2⟩:=pick_of h3 ho
      refine step_val (v:=.string b) (by simp only [execOp,e1,y0]; go_simp) (hK _ _ ?_)
      rw [e2]
      exact ⟨ofp S.off,S.before,kp S.t0,kp S.t1,kp S.t2,ev_ (by omega),kp S.t4,kp S.t5,kp S.t6,kp S.t7,kp S.t8,kp S.t9,kp S.t10,kp S.t11,kp S.t12,kp S.t13,kp S.t14,kp S.t15,kp S.t16,kp S.t17,kp S.t18,kp S.t19,fun g=>(S.t20 (by simpa using g)).imp fun b hb=>⟨by rw [eval_put_ne _ _ _ _ (by decide)]; exact hb.1,hb.2⟩⟩
    | 4,_,ho,hsi,hT=>
      obtain ⟨e1,e2⟩:=pick_of h4 ho
      have D3:s 3=true:=list_pos hT (d:=3) (by decide)
      have bc:=byte_co b 0 hs0
      rw [show (Gal.co b.data.toList 0).toNat=B0 from hb0] at bc
      refine step_val (v:=.int .u8 (B0:Nat)) (by simp only [execOp,e1,S.t3 D3]; go_simp; intro hq; omega) (hK _ _ ?_)
      rw [e2]
      exact ⟨ofp S.off,S.before,kp S.t0,kp S.t1,kp S.t2,kp S.t3,ev_ (by omega),kp S.t5,kp S.t6,kp S.t7,kp S.t8,kp S.t9,kp S.t10,kp S.t11,kp S.t12,kp S.t13,kp S.t14,kp S.t15,kp S.t16,kp S.t17,kp S.t18,kp S.t19,fun g=>(S.t20 (by simpa using g)).imp fun b hb=>⟨by rw [eval_put_ne _ _ _ _ (by decide)]; exact hb.1,hb.2⟩⟩
    | 5,_,ho,hsi,hT=>
      obtain ⟨e1,e2⟩:=pick_of h5 ho
      have D4:s 4=true:=list_pos hT (d:=4) (by decide)
      refine step_val (v:=.int .i64 (B0:Nat)) (by simp only [execOp,e1,S.t4 D4]; go_simp; rw [IntKind.wrap_i64]; omega) (hK _ _ ?_)
      rw [e2]
      exact ⟨ofp S.off,S.before,kp S.t0,kp S.t1,kp S.t2,kp S.t3,kp S.t4,ev_ (by omega),kp S.t6,kp S.t7,kp S.t8,kp S.t9,kp S.t10,kp S.t11,kp S.t12,kp S.t13,kp S.t14,kp S.t15,kp S.t16,kp S.t17,kp S.t18,kp S.t19,fun g=>(S.t20 (by simpa using g)).imp fun b hb=>⟨by rw [eval_put_ne _ _ _ _ (by decide)]; exact hb.1,hb.2⟩⟩
    | 6,_,ho,hsi,hT=>
      obtain ⟨e1,e2⟩:=pick_of h6 ho
      have D5:s 5=true:=list_pos hT (d:=5) (by decide)
      refine step_val (v:=.int .i64 (r8:Nat)) (by simp only [execOp,e1,S.t5 D5]; go_simp; rw [Int.tmod_eq_emod_of_nonneg (by omega)]; omega) (hK _ _ ?_)
      rw [e2]
      exact ⟨ofp S.off,S.before,kp S.t0,kp S.t1,kp S.t2,kp S.t3,kp S.t4,kp S.t5,ev_ (by omega),kp S.t7,kp S.t8,kp S.t9,kp S.t10,kp S.t11,kp S.t12,kp S.t13,kp S.t14,kp S.t15,kp S.t16,kp S.t17,kp S.t18,kp S.t19,fun g=>(S.t20 (by simpa using g)).imp fun b hb=>⟨by rw [eval_put_ne _ _ _ _ (by decide)]; exact hb.1,hb.2⟩⟩
    | 7,_,ho,hsi,hT=>
      obtain ⟨e1,e2⟩:=pick_of h7 ho
      have D6:s 6=true:=list_pos hT (d:=6) (by decide)
      refine step_val (v:=.int .i64 (m8:Nat)) (by simp only [execOp,e1,S.t6 D6]; go_simp; rw [IntKind.wrap_i64]; omega) (hK _ _ ?_)
      rw [e2]
      exact ⟨ofp S.off,S.before,kp S.t0,kp S.t1,kp S.t2,kp S.t3,kp S.t4,kp S.t5,kp S.t6,ev_ (by omega),kp S.t8,kp S.t9,kp S.t10,kp S.t11,kp S.t12,kp S.t13,kp S.t14,kp S.t15,kp S.t16,kp S.t17,kp S.t18,kp S.t19,fun g=>(S.t20 (by simpa using g)).imp fun b hb=>⟨by rw [eval_put_ne _ _ _ _ (by decide)]; exact hb.1,hb.2⟩⟩
    | 8,_,ho,hsi,hT=>
      obtain ⟨e1,e2⟩:=pick_of h8 ho
      refine step_val (v:=.string b) (by simp only [execOp,e1,y0]; go_simp) (hK _ _ ?_)
      rw [e2]
      exact ⟨ofp S.off,S.before,kp S.t0,kp S.t1,kp S.t2,kp S.t3,kp S.t4,kp S.t5,kp S.t6,kp S.t7,ev_ (by omega),kp S.t9,kp S.t10,kp S.t11,kp S.t12,kp S.t13,kp S.t14,kp S.t15,kp S.t16,kp S.t17,kp S.t18,kp S.t19,fun g=>(S.t20 (by simpa using g)).imp fun b hb=>⟨by rw [eval_put_ne _ _ _ _ (by decide)]; exact hb.1,hb.2⟩⟩
    | 9,_,ho,hsi,hT=>
      obtain ⟨e1,e2⟩:=pick_of h9 ho
      have D8:s 8=true:=list_pos hT (d:=8) (by decide)
      have bc:=byte_co b 1 hs1
      rw [show (Gal.co b.data.toList 1).toNat=B1 from hb1] at bc
      refine step_val (v:=.int .u8 (B1:Nat)) (by simp only [execOp,e1,S.t8 D8]; go_simp; intro hq; omega) (hK _ _ ?_)
      rw [e2]
      exact ⟨ofp S.off,S.before,kp S.t0,kp S.t1,kp S.t2,kp S.t3,kp S.t4,kp S.t5,kp S.t6,kp S.t7,kp S.t8,ev_ (by omega),kp S.t10,kp S.t11,kp S.t12,kp S.t13,kp S.t14,kp S.t15,kp S.t16,kp S.t17,kp S.t18,kp S.t19,fun g=>(S.t20 (by simpa using g)).imp fun b hb=>⟨by rw [eval_put_ne _ _ _ _ (by decide)]; exact hb.1,hb.2⟩⟩
    | 10,_,ho,hsi,hT=>
      obtain ⟨e1,e2⟩:=pick_of h10 ho
      have D9:s 9=true:=list_pos hT (d:=9) (by decide)
      refine step_val (v:=.int .i64 (B1:Nat)) (by simp only [execOp,e1,S.t9 D9]; go_simp; rw [IntKind.wrap_i64]; omega) (hK _ _ ?_)
      rw [e2]
      exact ⟨ofp S.off,S.before,kp S.t0,kp S.t1,kp S.t2,kp S.t3,kp S.t4,kp S.t5,kp S.t6,kp S.t7,kp S.t8,kp S.t9,ev_ (by omega),kp S.t11,kp S.t12,kp S.t13,kp S.t14,kp S.t15,kp S.t16,kp S.t17,kp S.t18,kp S.t19,fun g=>(S.t20 (by simpa using g)).imp fun b hb=>⟨by rw [eval_put_ne _ _ _ _ (by decide)]; exact hb.1,hb.2⟩⟩
    | 11,_,ho,hsi,hT=>
      obtain ⟨e1,e2⟩:=pick_of h11 ho
      have D7:s 7=true:=list_pos hT (d:=7) (by decide)
      have D10:s 10=true:=list_pos hT (d:=10) (by decide)
      refine step_val (v:=.int .i64 (ap:Nat)) (by simp only [execOp,e1,S.t7 D7,S.t10 D10]; go_simp; rw [IntKind.wrap_i64]; omega) (hK _ _ ?_)
      rw [e2]
      exact ⟨ofp S.off,S.before,kp S.t0,kp S.t1,kp S.t2,kp S.t3,kp S.t4,kp S.t5,kp S.t6,kp S.t7,kp S.t8,kp S.t9,kp S.t10,ev_ (by omega),kp S.t12,kp S.t13,kp S.t14,kp S.t15,kp S.t16,kp S.t17,kp S.t18,kp S.t19,fun g=>(S.t20 (by simpa using g)).imp fun b hb=>⟨by rw [eval_put_ne _ _ _ _ (by decide)]; exact hb.1,hb.2⟩⟩
    | 12,_,ho,hsi,hT=>
      obtain ⟨e1,e2⟩:=pick_of h12 ho
      refine step_val (v:=.int .i64 (th:Nat)) (by simp only [execOp,e1,y6]; go_simp) (hK _ _ ?_)
      rw [e2]
      exact ⟨ofp S.off,S.before,kp S.t0,kp S.t1,kp S.t2,kp S.t3,kp S.t4,kp S.t5,kp S.t6,kp S.t7,kp S.t8,kp S.t9,kp S.t10,kp S.t11,ev_ (by omega),kp S.t13,kp S.t14,kp S.t15,kp S.t16,kp S.t17,kp S.t18,kp S.t19,fun g=>(S.t20 (by simpa using g)).imp fun b hb=>⟨by rw [eval_put_ne _ _ _ _ (by decide)]; exact hb.1,hb.2⟩⟩
    | 13,_,ho,hsi,hT=>
      obtain ⟨e1,e2⟩:=pick_of h13 ho
      have D12:s 12=true:=list_pos hT (d:=12) (by decide)
      refine step_val (v:=.int .i64 (fl:Nat)) (by simp only [execOp,e1,S.t12 D12]; go_simp; rw [IntKind.wrap_i64]; omega) (hK _ _ ?_)
      rw [e2]
      exact ⟨ofp S.off,S.before,kp S.t0,kp S.t1,kp S.t2,kp S.t3,kp S.t4,kp S.t5,kp S.t6,kp S.t7,kp S.t8,kp S.t9,kp S.t10,kp S.t11,kp S.t12,ev_ (by omega),kp S.t14,kp S.t15,kp S.t16,kp S.t17,kp S.t18,kp S.t19,fun g=>(S.t20 (by simpa using g)).imp fun b hb=>⟨by rw [eval_put_ne _ _ _ _ (by decide)]; exact hb.1,hb.2⟩⟩
    | 14,_,ho,hsi,hT=>
      obtain ⟨e1,e2⟩:=pick_of h14 ho
      refine step_val (v:=.int .i64 (th:Nat)) (by simp only [execOp,e1,y6]; go_simp) (hK _ _ ?_)
      rw [e2]
      exact ⟨ofp S.off,S.before,kp S.t0,kp S.t1,kp S.t2,kp S.t3,kp S.t4,kp S.t5,kp S.t6,kp S.t7,kp S.t8,kp S.t9,kp S.t10,kp S.t11,kp S.t12,kp S.t13,ev_ (by omega),kp S.t15,kp S.t16,kp S.t17,kp S.t18,kp S.t19,fun g=>(S.t20 (by simpa using g)).imp fun b hb=>⟨by rw [eval_put_ne _ _ _ _ (by decide)]; exact hb.1,hb.2⟩⟩
    | 15,_,ho,hsi,hT=>
      obtain ⟨e1,e2⟩:=pick_of h15 ho
      have D14:s 14=true:=list_pos hT (d:=14) (by decide)
      refine step_val (v:=.int .i64 (ct:Nat)) (by simp only [execOp,e1,S.t14 D14]; go_simp; rw [Int.tmod_eq_emod_of_nonneg (by omega)]; omega) (hK _ _ ?_)
      rw [e2]
      exact ⟨ofp S.off,S.before,kp S.t0,kp S.t1,kp S.t2,kp S.t3,kp S.t4,kp S.t5,kp S.t6,kp S.t7,kp S.t8,kp S.t9,kp S.t10,kp S.t11,kp S.t12,kp S.t13,kp S.t14,ev_ (by omega),kp S.t16,kp S.t17,kp S.t18,kp S.t19,fun g=>(S.t20 (by simpa using g)).imp fun b hb=>⟨by rw [eval_put_ne _ _ _ _ (by decide)]; exact hb.1,hb.2⟩⟩
    | 16,_,ho,hsi,hT=>
      obtain ⟨e1,e2⟩:=pick_of h16 ho
      refine step_val (v:=.string b) (by simp only [execOp,e1,y0]; go_simp) (hK _ _ ?_)
      rw [e2]
      exact ⟨ofp S.off,S.before,kp S.t0,kp S.t1,kp S.t2,kp S.t3,kp S.t4,kp S.t5,kp S.t6,kp S.t7,kp S.t8,kp S.t9,kp S.t10,kp S.t11,kp S.t12,kp S.t13,kp S.t14,kp S.t15,ev_ (by omega),kp S.t17,kp S.t18,kp S.t19,fun g=>(S.t20 (by simpa using g)).imp fun b hb=>⟨by rw [eval_put_ne _ _ _ _ (by decide)]; exact hb.1,hb.2⟩⟩
    | 17,_,ho,hsi,hT=>
      obtain ⟨e1,e2⟩:=pick_of h17 ho
      refine step_val (v:=.int .i64 (N:Nat)) (by simp only [execOp,e1,y5]; go_simp) (hK _ _ ?_)
      rw [e2]
      exact ⟨ofp S.off,S.before,kp S.t0,kp S.t1,kp S.t2,kp S.t3,kp S.t4,kp S.t5,kp S.t6,kp S.t7,kp S.t8,kp S.t9,kp S.t10,kp S.t11,kp S.t12,kp S.t13,kp S.t14,kp S.t15,kp S.t16,ev_ (by omega),kp S.t18,kp S.t19,fun g=>(S.t20 (by simpa using g)).imp fun b hb=>⟨by rw [eval_put_ne _ _ _ _ (by decide)]; exact hb.1,hb.2⟩⟩
    | 18,_,ho,hsi,hT=>
      obtain ⟨e1,e2⟩:=pick_of h18 ho
      have D16:s 16=true:=list_pos hT (d:=16) (by decide)
      have D17:s 17=true:=list_pos hT (d:=17) (by decide)
      have q78:a.tmps[78]'(by omega)=.int .i64 (N:Nat):=by have:=S.t17 D17; simpa [Act.eval,sz] using this
      refine step_val (v:=.string da) (by simp only [execOp,e1,Option.map_none,Option.map_some,S.t16 D16]; go_simp; rw [run_slice_string (P:=Tryz.prog) (w:=w') 9 b .i64 .i64 6 (N:Nat) Tryz.underlying9 (by omega) (by omega) (by omega)]; show Result.ok (Next.value (Value.string (b.extract 6 ((N:Int)).toNat))) w'=_; rw [Int.toNat_natCast,hda]) (hK _ _ ?_)
      rw [e2]
      exact ⟨ofp S.off,S.before,kp S.t0,kp S.t1,kp S.t2,kp S.t3,kp S.t4,kp S.t5,kp S.t6,kp S.t7,kp S.t8,kp S.t9,kp S.t10,kp S.t11,kp S.t12,kp S.t13,kp S.t14,kp S.t15,kp S.t16,kp S.t17,ev_ (by omega),kp S.t19,fun g=>(S.t20 (by simpa using g)).imp fun b hb=>⟨by rw [eval_put_ne _ _ _ _ (by decide)]; exact hb.1,hb.2⟩⟩
    | 19,_,ho,hsi,hT=>
      obtain ⟨e1,e2⟩:=pick_of h19 ho
      have D2:s 2=true:=list_pos hT (d:=2) (by decide)
      have D11:s 11=true:=list_pos hT (d:=11) (by decide)
      have D13:s 13=true:=list_pos hT (d:=13) (by decide)
      have D15:s 15=true:=list_pos hT (d:=15) (by decide)
      have D18:s 18=true:=list_pos hT (d:=18) (by decide)
      have q63:a.tmps[63]'(by omega)=.bool cm:=by have:=S.t2 D2; simpa [Act.eval,sz] using this
      have q72:a.tmps[72]'(by omega)=.int .i64 (ap:Nat):=by have:=S.t11 D11; simpa [Act.eval,sz] using this
      have q74:a.tmps[74]'(by omega)=.int .i64 (fl:Nat):=by have:=S.t13 D13; simpa [Act.eval,sz] using this
      have q76:a.tmps[76]'(by omega)=.int .i64 (ct:Nat):=by have:=S.t15 D15; simpa [Act.eval,sz] using this
      have q79:a.tmps[79]'(by omega)=.string da:=by have:=S.t18 D18; simpa [Act.eval,sz] using this
      refine step_val (v:=.agg #[.bool cm,.int .i64 (ap:Nat),.int .i64 (fl:Nat),.int .i64 (ct:Nat),.string da]) (by simp only [execOp,e1]; go_simp) (hK _ _ ?_)
      rw [e2]
      exact ⟨ofp S.off,S.before,kp S.t0,kp S.t1,kp S.t2,kp S.t3,kp S.t4,kp S.t5,kp S.t6,kp S.t7,kp S.t8,kp S.t9,kp S.t10,kp S.t11,kp S.t12,kp S.t13,kp S.t14,kp S.t15,kp S.t16,kp S.t17,kp S.t18,ev_ (by omega),fun g=>(S.t20 (by simpa using g)).imp fun b hb=>⟨by rw [eval_put_ne _ _ _ _ (by decide)]; exact hb.1,hb.2⟩⟩
    | 20,_,ho,hsi,hT=>
      obtain ⟨e1,e2⟩:=pick_of h20 ho
      have BW:=S.before
      refine pk_step1 (Fact:=AlP n0) (v:=.pointer (some ⟨w'.heap.size,0,none⟩)) (w2:=w'.alloc (.cells #[.bool false,.int .i64 0,.int .i64 0,.int .i64 0,.string ⟨#[]⟩] 125)) (by simp only [execOp,e1]; go_simp) (alp_new w' (Nat.le_trans hn0 BW.size)) (ba (Below.refl _ _) _) (fun v w2 FF BB=>hK _ _ ?_)
      rw [e2]
      exact ⟨ofp S.off,bt BW BB,kp S.t0,kp S.t1,kp S.t2,kp S.t3,kp S.t4,kp S.t5,kp S.t6,kp S.t7,kp S.t8,kp S.t9,kp S.t10,kp S.t11,kp S.t12,kp S.t13,kp S.t14,kp S.t15,kp S.t16,kp S.t17,kp S.t18,kp S.t19,fun _=>⟨_,(eval_put _ _ _ (by omega)).trans rfl,FF⟩⟩
    | _ + 21,il,_,_,_=>exact absurd il (by omega)
  intro s a w' S hall
  have a0:=hall 0 (by omega)
  have a1:=hall 1 (by omega)
  have a2:=hall 2 (by omega)
  have a3:=hall 3 (by omega)
  have a4:=hall 4 (by omega)
  have a5:=hall 5 (by omega)
  have a6:=hall 6 (by omega)
  have a7:=hall 7 (by omega)
  have a8:=hall 8 (by omega)
  have a9:=hall 9 (by omega)
  have a10:=hall 10 (by omega)
  have a11:=hall 11 (by omega)
  have a12:=hall 12 (by omega)
  have a13:=hall 13 (by omega)
  have a14:=hall 14 (by omega)
  have a15:=hall 15 (by omega)
  have a16:=hall 16 (by omega)
  have a17:=hall 17 (by omega)
  have a18:=hall 18 (by omega)
  have a19:=hall 19 (by omega)
  have a20:=hall 20 (by omega)
  have e:=off_norm _ (by intro d hd; simp at hd; omega) S.off
  obtain ⟨v20,M20,F20⟩:=S.t20 a20
  simp only [List.foldl,S.t0 a0,S.t1 a1,S.t2 a2,S.t3 a3,S.t4 a4,S.t5 a5,S.t6 a6,S.t7 a7,S.t8 a8,S.t9 a9,S.t10 a10,S.t11 a11,S.t12 a12,S.t13 a13,S.t14 a14,S.t15 a15,S.t16 a16,S.t17 a17,S.t18 a18,S.t19 a19,M20] at e
  rw [e]
  exact h _ _ S.before F20
def tkV:Pk.Res->Value
  | .ok p n=>.tuple #[pkVal p,.int .i64 (n:Nat),.int .i64 0]
  | .none=>.tuple #[pkVal pk0,.int .i64 0,.int .i64 4]
  | .form=>.tuple #[pkVal pk0,.int .i64 0,.int .i64 6]
theorem store_pk (w:World) (X:Nat) (p q:Pkt) (C:Cel w X 5 (pkCel q)):Cel (w.setCells X 0 [.bool p.cmd,.int .i64 p.ap,.int .i64 p.fl,.int .i64 p.ct,.string p.da]) X 5 (pkCel p):=(C.setMany 0 _ (by simp) undef).congr (fun j hj=>by
  match j,hj with
  | 0,_=>rfl
  | 1,_=>rfl
  | 2,_=>rfl
  | 3,_=>rfl
  | 4,_=>rfl)
theorem pk_range {w:World} {X:Nat} {p:Pkt} (h:Cel w X 5 (pkCel p)):w.rangeAt X 0 [.bool p.cmd,.int .i64 p.ap,.int .i64 p.fl,.int .i64 p.ct,.string p.da]:=h.range 0 _ (fun j v hv=>by
  match j,hv with
  | 0,hv=>simp at hv; subst hv; exact ⟨by omega,rfl⟩
  | 1,hv=>simp at hv; subst hv; exact ⟨by omega,rfl⟩
  | 2,hv=>simp at hv; subst hv; exact ⟨by omega,rfl⟩
  | 3,hv=>simp at hv; subst hv; exact ⟨by omega,rfl⟩
  | 4,hv=>simp at hv; subst hv; exact ⟨by omega,rfl⟩)
theorem info_pk:(Tryz.prog.info? 125).map (·.size)=some 5:=by kernel_rfl
theorem rtake_six (b:ByteArray) (n:Nat) (hn:b.size=n) (hs:n<=1000000) (h6:6<=n) (nbad:¬ Pk.Bad b.data.toList) (w:World):Calls Tryz.prog 96 #[.string b] w fun e w'=>e=.returned (tkV (Pk.take b.data.toList))/\Below w.heap.size w w':=by
  have C:=pk_new pk0 w
  have B:=Lib.hid (ba (Below.refl w.heap.size w) (.cells #[.bool false,.int .i64 0,.int .i64 0,.int .i64 0,.string ⟨#[]⟩] 125))
  have HN:=Lib.hid hn
  have LL:=Lib.hid (show b.data.toList.length=n by rw [ls,hn])
  obtain ⟨w1,hw1⟩:∃ w1,w.alloc (.cells #[.bool false,.int .i64 0,.int .i64 0,.int .i64 0,.string ⟨#[]⟩] 125)=w1:=⟨_,rfl⟩
  obtain ⟨X,hX⟩:∃ X,w.heap.size=X:=⟨_,rfl⟩
  rw [hw1] at B
  have C1:Cel w1 X 5 (pkCel pk0):=by rw [<-hw1,<-hX]; exact C
  have HW:=Lib.hid hw1
  have HX:=Lib.hid hX
  have HC:=Lib.hid C1
  clear C hw1 C1 hX
  obtain ⟨l,hl⟩:∃ l,b.data.toList=l:=⟨_,rfl⟩
  have LB:=Lib.hid hl
  rw [hl] at LL nbad ⊢
  have NB:=Lib.hid nbad
  clear hl nbad
  have z0:0 < b.size:=by omega
  have z1:1 < b.size:=by omega
  have z2:2 < b.size:=by omega
  have z3:3 < b.size:=by omega
  have z4:4 < b.size:=by omega
  have z5:5 < b.size:=by omega
  have y0:=byte_co b 0 z0
  rw [LB.out] at y0
  have l0:=Pk.nb_lt l 0
  obtain ⟨B0,hB0⟩:∃ B0,Pk.nb l 0=B0:=⟨_,rfl⟩
  rw [show (Gal.co l 0).toNat=B0 from hB0] at y0
  rw [hB0] at l0
  have H0:=Lib.hid hB0
  clear hB0
  have y1:=byte_co b 1 z1
  rw [LB.out] at y1
  have l1:=Pk.nb_lt l 1
  obtain ⟨B1,hB1⟩:∃ B1,Pk.nb l 1=B1:=⟨_,rfl⟩
  rw [show (Gal.co l 1).toNat=B1 from hB1] at y1
  rw [hB1] at l1
  have H1:=Lib.hid hB1
  clear hB1
  have y2:=byte_co b 2 z2
  rw [LB.out] at y2
  have l2:=Pk.nb_lt l 2
  obtain ⟨B2,hB2⟩:∃ B2,Pk.nb l 2=B2:=⟨_,rfl⟩
  rw [show (Gal.co l 2).toNat=B2 from hB2] at y2
  rw [hB2] at l2
  have H2:=Lib.hid hB2
  clear hB2
  have y3:=byte_co b 3 z3
  rw [LB.out] at y3
  have l3:=Pk.nb_lt l 3
  obtain ⟨B3,hB3⟩:∃ B3,Pk.nb l 3=B3:=⟨_,rfl⟩
  rw [show (Gal.co l 3).toNat=B3 from hB3] at y3
  rw [hB3] at l3
  have H3:=Lib.hid hB3
  clear hB3
  have y4:=byte_co b 4 z4
  rw [LB.out] at y4
  have l4:=Pk.nb_lt l 4
  obtain ⟨B4,hB4⟩:∃ B4,Pk.nb l 4=B4:=⟨_,rfl⟩
  rw [show (Gal.co l 4).toNat=B4 from hB4] at y4
  rw [hB4] at l4
  have H4:=Lib.hid hB4
  clear hB4
  have y5:=byte_co b 5 z5
  rw [LB.out] at y5
  have l5:=Pk.nb_lt l 5
  obtain ⟨B5,hB5⟩:∃ B5,Pk.nb l 5=B5:=⟨_,rfl⟩
  rw [show (Gal.co l 5).toNat=B5 from hB5] at y5
  rw [hB5] at l5
  have H5:=Lib.hid hB5
  clear hB5
  have nb2:¬ (32<=B0)/\¬ (B0 / 8 % 2=1)/\¬ (4<=B4):=by
    have h:=NB.out
    have:=LL.out
    unfold Pk.Bad at h
    rw [H0.out,H4.out] at h
    omega
  obtain ⟨g0,g1,g3⟩:=nb2
  have t1:decide ((0:Int) < (n:Int))=true:=by simp; omega
  have t1n:decide (0 < n)=true:=decide_eq_true (by omega)
  have u1:decide ((32:Int)<=(B0:Int))=false:=by simp; omega
  have u1n:decide (32<=B0)=false:=decide_eq_false (by omega)
  obtain ⟨q0,hq0⟩:∃ q,B0 / 8=q:=⟨_,rfl⟩
  obtain ⟨r0,hr0⟩:∃ r,q0 % 2=r:=⟨_,rfl⟩
  have v1:(B0:Int) / 8=(q0:Int):=by omega
  have v2:(B0:Int).tdiv 8=(q0:Int):=by rw [Int.tdiv_eq_ediv_of_nonneg (by omega)]; omega
  have v3:(q0:Int) % 2=(r0:Int):=by omega
  have v4:(q0:Int).tmod 2=(r0:Int):=by rw [Int.tmod_eq_emod_of_nonneg (by omega)]; omega
  have u2:((r0:Int) == 1)=false:=by simp; omega
  have u3:decide ((4:Int) < (n:Int))=true:=by simp; omega
  have u3n:decide (4 < n)=true:=decide_eq_true (by omega)
  have u4:decide ((4:Int)<=(B4:Int))=false:=by simp; omega
  have u4n:decide (4<=B4)=false:=decide_eq_false (by omega)
  have t3:decide ((n:Int) < 6)=false:=by simp; omega
  have t3n:decide (n < 6)=false:=decide_eq_false (by omega)
  obtain ⟨m4,hm4⟩:∃ m,B4 * 256=m:=⟨_,rfl⟩
  obtain ⟨N,hN⟩:∃ N,6 + m4 + B5 + 1=N:=⟨_,rfl⟩
  have NL:=Lib.hid (show Pk.len l=N by unfold Pk.len; rw [H4.out,H5.out,<-hN,<-hm4])
  obtain ⟨x1,hx1⟩:∃ x,6 + m4=x:=⟨_,rfl⟩
  obtain ⟨x2,hx2⟩:∃ x,x1 + B5=x:=⟨_,rfl⟩
  have w4:(B4:Int) * 256=(m4:Int):=by omega
  have w5:(6:Int) + (m4:Int)=(x1:Int):=by omega
  have w6:(x1:Int) + (B5:Int)=(x2:Int):=by omega
  have w7:(x2:Int) + 1=(N:Int):=by omega
  have m4b:m4<=1000:=by omega
  have N6:6<=N:=by omega
  have H6:=Lib.hid h6
  have sn:=HN.out
  by_cases g5:n < N
  · have E:=Lib.hid (show Pk.take l=.none from Pk.take_short NB.out (by rw [LL.out]; omega) (by rw [LL.out,NL.out]; exact g5))
    have t5:decide ((n:Int) < (N:Int))=true:=by simp; omega
    have t5n:decide (n < N)=true:=decide_eq_true g5
    clear g5 g3 g1 g0 hm4 hN hx1 hx2 hq0 hr0
    go_enter Tryz.func96,Tryz.ntmps96
    go_wp2_with (simp only [HW.out,HX.out])
    go_quiet (fail)
    obtain ⟨w2,hw2⟩:∃ w2,w1.drewN nq=w2:=⟨_,rfl⟩
    rw [hw2]
    have BD:=Lib.hid (show Below w1.heap.size w1 w2 from hw2 ▸ below_drewN (Below.refl _ _) _)
    have HC1:=Lib.hid (HC.out.below BD.out)
    have B1:=Lib.hid (bt B.out BD.out)
    clear hw2
    go_wp2_with (refine wpList_store_mid rfl 125 _ _ rfl X 0 #[.bool false,.int .i64 0,.int .i64 0,.int .i64 0,.string ⟨#[]⟩] rfl rfl (HC1.out.there 0 5 (by omega)) info_pk (by simp [Value.oneCell']) ?_; have C2:=Lib.hid (store_pk w2 X pk0 pk0 HC1.out); have B2:=Lib.hid (below_setCells (B:=w.heap.size) (b:=X) (by rw [HX.out]; omega) [.bool false,.int .i64 0,.int .i64 0,.int .i64 0,.string ⟨#[]⟩] 0 w2 B1.out))
    refine bodyPost_ret (v:=.tuple #[pkVal pk0,.int .i64 0,.int .i64 4]) (results_cell_t2 Tryz.results96 _ _ X [.bool false,.int .i64 0,.int .i64 0,.int .i64 0,.string ⟨#[]⟩] _ rfl (pk_range C2.out) Tryz.underlying125 rfl info_pk) rfl ⟨by rw [E.out]; rfl,by first | exact B2.out | (have:=B2.out; rw [HX.out] at this; exact this)⟩
  have t5:decide ((n:Int) < (N:Int))=false:=by simp; omega
  have t5n:decide (n < N)=false:=decide_eq_false g5
  obtain ⟨cm,hcm⟩:∃ c,decide (16<=B0)=c:=⟨_,rfl⟩
  obtain ⟨r8,hr8⟩:∃ r,B0 % 8=r:=⟨_,rfl⟩
  obtain ⟨m8,hm8⟩:∃ r,r8 * 256=r:=⟨_,rfl⟩
  obtain ⟨ap,hap⟩:∃ r,m8 + B1=r:=⟨_,rfl⟩
  obtain ⟨m2,hm2⟩:∃ r,B2 * 256=r:=⟨_,rfl⟩
  obtain ⟨th,hth⟩:∃ r,m2 + B3=r:=⟨_,rfl⟩
  obtain ⟨fl,hfl⟩:∃ r,th / 16384=r:=⟨_,rfl⟩
  obtain ⟨ct,hct⟩:∃ r,th % 16384=r:=⟨_,rfl⟩
  obtain ⟨da,hda⟩:∃ d,b.extract 6 N=d:=⟨_,rfl⟩
  have lth:th < 65536:=by omega
  have k1:(B2:Int) * 256=(m2:Int):=by omega
  have k2:(m2:Int) + (B3:Int)=(th:Int):=by omega
  have i2:(2:Int) < (n:Int):=by omega
  have i3:(3:Int) < (n:Int):=by omega
  have E:=Lib.hid (show Pk.take l=.ok ⟨cm,(ap:Nat),(fl:Nat),(ct:Nat),da⟩ N from by
    rw [Pk.take_good NB.out (by rw [LL.out]; omega) (by rw [LL.out,NL.out]; exact g5),NL.out]
    congr 1
    unfold Pk.pkt Pk.thd
    rw [NL.out,H0.out,H1.out,H2.out,H3.out,hcm,hr8,hm8,hap,hm2,hth,hfl,hct]
    congr 1
    rw [<-hda,<-LB.out]
    apply ByteArray.ext
    apply Array.toList_inj.1
    simp [ByteArray.data_extract,List.drop_take])
  have FX:=Lib.hid (And.intro hcm (And.intro hr8 (And.intro hm8 (And.intro hap (And.intro hfl (And.intro hct hda))))))
  have NN:=Lib.hid (show N<=n by omega)
  have c0:=Lib.hid (show (Gal.co b.data.toList 0).toNat=B0 from by rw [LB.out]; exact H0.out)
  have c1:=Lib.hid (show (Gal.co b.data.toList 1).toNat=B1 from by rw [LB.out]; exact H1.out)
  clear g5 g3 g1 g0 hm4 hN hx1 hx2 hq0 hr0 hcm hr8 hm8 hap hm2 hth hfl hct hda
  go_enter Tryz.func96,Tryz.ntmps96
  go_wp2_with (simp only [HW.out,HX.out])
  go_quiet (fail)
  obtain ⟨w2,hw2⟩:∃ w2,w1.drewN nq=w2:=⟨_,rfl⟩
  rw [hw2]
  have BD:=Lib.hid (show Below w1.heap.size w1 w2 from hw2 ▸ below_drewN (Below.refl _ _) _)
  clear hw2
  clear nq
  go_wp2_with fail
  go_quiet (fail)
  obtain ⟨w3,hw3⟩:∃ w3,w2.drewN nq=w3:=⟨_,rfl⟩
  rw [hw3]
  have BD3:=Lib.hid (show Below w1.heap.size w1 w3 from bt BD.out (hw3 ▸ below_drewN (Below.refl _ _) _))
  clear hw3
  go_upto_region 9 with fail
  refine tkpRegion b n N B0 B1 r8 m8 ap th fl ct w3.heap.size cm da HN.out N6 NN.out z0 z1 c0.out c1.out l0 l1 FX.out.1 FX.out.2.1 FX.out.2.2.1 FX.out.2.2.2.1 lth FX.out.2.2.2.2.1 FX.out.2.2.2.2.2.1 FX.out.2.2.2.2.2.2 (Nat.le_refl _) (by kernel_rfl) rfl rfl rfl rfl rfl rfl rfl rfl rfl rfl rfl rfl rfl rfl rfl rfl rfl rfl rfl rfl rfl rfl rfl rfl rfl ?_
  rintro v20 w4 h4 ⟨g,rfl,hg,Cg⟩
  simp only [Act.put,List.setIfInBounds_toArray,List.set_cons_succ,List.set_cons_zero,List.drop_succ_cons,List.drop_zero]
  have CG:=Lib.hid Cg
  have B4':=Lib.hid (bt BD3.out h4)
  have CX:=Lib.hid (HC.out.below B4'.out)
  have XG:=Lib.hid (show X ≠ g by have:=HC.out.lt; have:=BD3.out.size; omega)
  have CX2:=Lib.hid (CX.out.manyOther (c:=g) (p:=0) [.bool cm,.int .i64 (ap:Nat),.int .i64 (fl:Nat),.int .i64 (ct:Nat),.string da] XG.out)
  have CG2:=Lib.hid (store_pk w4 g ⟨cm,(ap:Nat),(fl:Nat),(ct:Nat),da⟩ pk0 CG.out)
  have B5':=Lib.hid (below_setCells (B:=w.heap.size) (b:=g) (by have:=HC.out.lt; have:=BD3.out.size; rw [HX.out]; omega) [.bool cm,.int .i64 (ap:Nat),.int .i64 (fl:Nat),.int .i64 (ct:Nat),.string da] 0 w4 (bt B.out B4'.out))
  obtain ⟨w5,hw5⟩:∃ w5,w4.setCells g 0 [.bool cm,.int .i64 (ap:Nat),.int .i64 (fl:Nat),.int .i64 (ct:Nat),.string da]=w5:=⟨_,rfl⟩
  have CX3:=Lib.hid (show Cel w5 X 5 (pkCel pk0) from hw5 ▸ CX2.out)
  have CG3:=Lib.hid (show Cel w5 g 5 (pkCel ⟨cm,(ap:Nat),(fl:Nat),(ct:Nat),da⟩) from hw5 ▸ CG2.out)
  have B6':=Lib.hid (show Below w.heap.size w w5 from hw5 ▸ B5'.out)
  have HW5:=Lib.hid hw5
  clear hw5 h4 hg Cg CG2 CX2
  go_wp2_with (first
    | (refine wpList_store_mid rfl 125 (.tmp 2) (.tmp 81) rfl X 0 #[.bool cm,.int .i64 (ap:Nat),.int .i64 (fl:Nat),.int .i64 (ct:Nat),.string da] rfl rfl (CX3.out.there 0 5 (by omega)) info_pk (by simp [Value.oneCell']) ?_; have C7:=Lib.hid (store_pk w5 X ⟨cm,(ap:Nat),(fl:Nat),(ct:Nat),da⟩ pk0 CX3.out); have B7:=Lib.hid (below_setCells (B:=w.heap.size) (b:=X) (by rw [HX.out]; omega) [.bool cm,.int .i64 (ap:Nat),.int .i64 (fl:Nat),.int .i64 (ct:Nat),.string da] 0 w5 B6'.out))
    | (refine wpList_store_mid rfl 125 (.tmp 7) (.tmp 80) rfl g 0 #[.bool cm,.int .i64 (ap:Nat),.int .i64 (fl:Nat),.int .i64 (ct:Nat),.string da] rfl rfl (CG.out.there 0 5 (by omega)) info_pk (by simp [Value.oneCell']) ?_; rw [show w4.setCells g 0 (#[.bool cm,.int .i64 (ap:Nat),.int .i64 (fl:Nat),.int .i64 (ct:Nat),.string da]:Array Value).toList=w5 from HW5.out])
    | (refine wpList_load_mid rfl 125 (.tmp 7) rfl g 0 rfl [.bool cm,.int .i64 (ap:Nat),.int .i64 (fl:Nat),.int .i64 (ct:Nat),.string da] _ (pk_range CG3.out) Tryz.underlying125 rfl info_pk ?_))
  refine bodyPost_ret (v:=.tuple #[.agg #[.bool cm,.int .i64 (ap:Nat),.int .i64 (fl:Nat),.int .i64 (ct:Nat),.string da],.int .i64 (N:Nat),.int .i64 0]) (results_cell_t2 Tryz.results96 _ _ X [.bool cm,.int .i64 (ap:Nat),.int .i64 (fl:Nat),.int .i64 (ct:Nat),.string da] _ rfl (pk_range C7.out) Tryz.underlying125 rfl info_pk) rfl ⟨by rw [E.out]; rfl,by first | exact B7.out | (have:=B7.out; rw [HX.out] at this; exact this)⟩
theorem rtake_any (b:ByteArray) (hs:b.size<=1000000) (w:World):Calls Tryz.prog 96 #[.string b] w fun e w'=>e=.returned (tkV (Pk.take b.data.toList))/\Below w.heap.size w w':=by
  have C:=pk_new pk0 w
  have B:=Lib.hid (ba (Below.refl w.heap.size w) (.cells #[.bool false,.int .i64 0,.int .i64 0,.int .i64 0,.string ⟨#[]⟩] 125))
  obtain ⟨n,hn⟩:∃ n,b.size=n:=⟨_,rfl⟩
  have HN:=Lib.hid hn
  have LL:=Lib.hid (show b.data.toList.length=n by rw [ls,hn])
  rw [hn] at hs
  obtain ⟨w1,hw1⟩:∃ w1,w.alloc (.cells #[.bool false,.int .i64 0,.int .i64 0,.int .i64 0,.string ⟨#[]⟩] 125)=w1:=⟨_,rfl⟩
  obtain ⟨X,hX⟩:∃ X,w.heap.size=X:=⟨_,rfl⟩
  rw [hw1] at B
  have C1:Cel w1 X 5 (pkCel pk0):=by rw [<-hw1,<-hX]; exact C
  have HW:=Lib.hid hw1
  have HX:=Lib.hid hX
  have HC:=Lib.hid C1
  clear C hw1 C1 hX hn
  obtain ⟨l,hl⟩:∃ l,b.data.toList=l:=⟨_,rfl⟩
  have LB:=Lib.hid hl
  rw [hl] at LL ⊢
  clear hl
  by_cases n0:n=0
  · have E:=Lib.hid (show Pk.take l=.none from by
      have:=LL.out
      exact Pk.take_few (fun h=>by rcases h with ⟨a,_⟩ | ⟨a,_⟩ <;> omega) (by omega))
    have t1:decide ((0:Int) < (n:Int))=false:=by simp; omega
    have t1n:decide (0 < n)=false:=decide_eq_false (by omega)
    have t2:decide ((4:Int) < (n:Int))=false:=by simp; omega
    have t2n:decide (4 < n)=false:=decide_eq_false (by omega)
    have t3:decide ((n:Int) < 6)=true:=by simp; omega
    have t3n:decide (n < 6)=true:=decide_eq_true (by omega)
    have sn:=HN.out
    clear n0
    have HC1:=Lib.hid HC.out
    have B1:=Lib.hid B.out
    go_enter Tryz.func96,Tryz.ntmps96
    go_wp2_with (first
      | (refine wpList_store_mid rfl 125 _ _ rfl X 0 #[.bool false,.int .i64 0,.int .i64 0,.int .i64 0,.string ⟨#[]⟩] rfl rfl (HC1.out.there 0 5 (by omega)) info_pk (by simp [Value.oneCell']) ?_; have C2:=Lib.hid (store_pk w1 X pk0 pk0 HC1.out); have B2:=Lib.hid (below_setCells (B:=w.heap.size) (b:=X) (by rw [HX.out]; omega) [.bool false,.int .i64 0,.int .i64 0,.int .i64 0,.string ⟨#[]⟩] 0 w1 B1.out))
      | simp only [HW.out,HX.out])
    refine bodyPost_ret (v:=.tuple #[pkVal pk0,.int .i64 0,.int .i64 4]) (results_cell_t2 Tryz.results96 _ _ X [.bool false,.int .i64 0,.int .i64 0,.int .i64 0,.string ⟨#[]⟩] _ rfl (pk_range C2.out) Tryz.underlying125 rfl info_pk) rfl ⟨by rw [E.out]; rfl,by have:=B2.out; rw [HX.out] at this; exact this⟩
  have sn:=HN.out
  have z0:0 < b.size:=by rw [HN.out]; omega
  have y0:=byte_co b 0 z0
  rw [LB.out] at y0
  have l0:=Pk.nb_lt l 0
  obtain ⟨B0,hB0⟩:∃ B0,Pk.nb l 0=B0:=⟨_,rfl⟩
  rw [show (Gal.co l 0).toNat=B0 from hB0] at y0
  rw [hB0] at l0
  have H0:=Lib.hid hB0
  clear hB0
  have t1:decide ((0:Int) < (n:Int))=true:=by simp; omega
  have t1n:decide (0 < n)=true:=decide_eq_true (by omega)
  by_cases g0:32<=B0
  · have E:=Lib.hid (show Pk.take l=.form from by
      have:=LL.out
      exact Pk.take_bad (.inl ⟨by omega,.inl (by rw [H0.out]; exact g0)⟩))
    have u1:decide ((32:Int)<=(B0:Int))=true:=by simp; omega
    have u1n:decide (32<=B0)=true:=decide_eq_true (by omega)
    clear g0
    have HC1:=Lib.hid HC.out
    have B1:=Lib.hid B.out
    go_enter Tryz.func96,Tryz.ntmps96
    go_wp2_with (first
      | (refine wpList_store_mid rfl 125 _ _ rfl X 0 #[.bool false,.int .i64 0,.int .i64 0,.int .i64 0,.string ⟨#[]⟩] rfl rfl (HC1.out.there 0 5 (by omega)) info_pk (by simp [Value.oneCell']) ?_; have C2:=Lib.hid (store_pk w1 X pk0 pk0 HC1.out); have B2:=Lib.hid (below_setCells (B:=w.heap.size) (b:=X) (by rw [HX.out]; omega) [.bool false,.int .i64 0,.int .i64 0,.int .i64 0,.string ⟨#[]⟩] 0 w1 B1.out))
      | simp only [HW.out,HX.out])
    refine bodyPost_ret (v:=.tuple #[pkVal pk0,.int .i64 0,.int .i64 6]) (results_cell_t2 Tryz.results96 _ _ X [.bool false,.int .i64 0,.int .i64 0,.int .i64 0,.string ⟨#[]⟩] _ rfl (pk_range C2.out) Tryz.underlying125 rfl info_pk) rfl ⟨by rw [E.out]; rfl,by have:=B2.out; rw [HX.out] at this; exact this⟩
  have u1:decide ((32:Int)<=(B0:Int))=false:=by simp; omega
  have u1n:decide (32<=B0)=false:=decide_eq_false (by omega)
  obtain ⟨q0,hq0⟩:∃ q,B0 / 8=q:=⟨_,rfl⟩
  obtain ⟨r0,hr0⟩:∃ r,q0 % 2=r:=⟨_,rfl⟩
  have v1:(B0:Int) / 8=(q0:Int):=by omega
  have v2:(B0:Int).tdiv 8=(q0:Int):=by rw [Int.tdiv_eq_ediv_of_nonneg (by omega)]; omega
  have v3:(q0:Int) % 2=(r0:Int):=by omega
  have v4:(q0:Int).tmod 2=(r0:Int):=by rw [Int.tmod_eq_emod_of_nonneg (by omega)]; omega
  have R0:=Lib.hid (show B0 / 8 % 2=r0 by rw [hq0,hr0])
  have r2:r0 < 2:=by omega
  clear hq0 hr0
  by_cases g1:r0=1
  · have E:=Lib.hid (show Pk.take l=.form from by
      have:=LL.out
      exact Pk.take_bad (.inl ⟨by omega,.inr (by rw [H0.out,R0.out]; exact g1)⟩))
    have u2:((r0:Int) == 1)=true:=by simp; omega
    clear g1
    have HC1:=Lib.hid HC.out
    have B1:=Lib.hid B.out
    go_enter Tryz.func96,Tryz.ntmps96
    go_wp2_with (first
      | (refine wpList_store_mid rfl 125 _ _ rfl X 0 #[.bool false,.int .i64 0,.int .i64 0,.int .i64 0,.string ⟨#[]⟩] rfl rfl (HC1.out.there 0 5 (by omega)) info_pk (by simp [Value.oneCell']) ?_; have C2:=Lib.hid (store_pk w1 X pk0 pk0 HC1.out); have B2:=Lib.hid (below_setCells (B:=w.heap.size) (b:=X) (by rw [HX.out]; omega) [.bool false,.int .i64 0,.int .i64 0,.int .i64 0,.string ⟨#[]⟩] 0 w1 B1.out))
      | simp only [HW.out,HX.out])
    refine bodyPost_ret (v:=.tuple #[pkVal pk0,.int .i64 0,.int .i64 6]) (results_cell_t2 Tryz.results96 _ _ X [.bool false,.int .i64 0,.int .i64 0,.int .i64 0,.string ⟨#[]⟩] _ rfl (pk_range C2.out) Tryz.underlying125 rfl info_pk) rfl ⟨by rw [E.out]; rfl,by have:=B2.out; rw [HX.out] at this; exact this⟩
  have u2:((r0:Int) == 1)=false:=by simp; omega
  by_cases g2:n<=4
  · have E:=Lib.hid (show Pk.take l=.none from by
      have:=LL.out
      exact Pk.take_few (fun h=>by
        rcases h with ⟨_,a | a⟩ | ⟨a,_⟩
        · rw [H0.out] at a
          omega
        · rw [H0.out,R0.out] at a
          omega
        omega) (by omega))
    have u3:decide ((4:Int) < (n:Int))=false:=by simp; omega
    have u3n:decide (4 < n)=false:=decide_eq_false (by omega)
    have t3:decide ((n:Int) < 6)=true:=by simp; omega
    have t3n:decide (n < 6)=true:=decide_eq_true (by omega)
    clear g1 g0 g2
    have HC1:=Lib.hid HC.out
    have B1:=Lib.hid B.out
    go_enter Tryz.func96,Tryz.ntmps96
    go_wp2_with (first
      | (refine wpList_store_mid rfl 125 _ _ rfl X 0 #[.bool false,.int .i64 0,.int .i64 0,.int .i64 0,.string ⟨#[]⟩] rfl rfl (HC1.out.there 0 5 (by omega)) info_pk (by simp [Value.oneCell']) ?_; have C2:=Lib.hid (store_pk w1 X pk0 pk0 HC1.out); have B2:=Lib.hid (below_setCells (B:=w.heap.size) (b:=X) (by rw [HX.out]; omega) [.bool false,.int .i64 0,.int .i64 0,.int .i64 0,.string ⟨#[]⟩] 0 w1 B1.out))
      | simp only [HW.out,HX.out])
    refine bodyPost_ret (v:=.tuple #[pkVal pk0,.int .i64 0,.int .i64 4]) (results_cell_t2 Tryz.results96 _ _ X [.bool false,.int .i64 0,.int .i64 0,.int .i64 0,.string ⟨#[]⟩] _ rfl (pk_range C2.out) Tryz.underlying125 rfl info_pk) rfl ⟨by rw [E.out]; rfl,by have:=B2.out; rw [HX.out] at this; exact this⟩
  have u3:decide ((4:Int) < (n:Int))=true:=by simp; omega
  have u3n:decide (4 < n)=true:=decide_eq_true (by omega)
  have z4:4 < b.size:=by rw [HN.out]; omega
  have y4:=byte_co b 4 z4
  rw [LB.out] at y4
  have l4:=Pk.nb_lt l 4
  obtain ⟨B4,hB4⟩:∃ B4,Pk.nb l 4=B4:=⟨_,rfl⟩
  rw [show (Gal.co l 4).toNat=B4 from hB4] at y4
  rw [hB4] at l4
  have H4:=Lib.hid hB4
  clear hB4
  by_cases g3:4<=B4
  · have E:=Lib.hid (show Pk.take l=.form from by
      have:=LL.out
      exact Pk.take_bad (.inr ⟨by omega,by rw [H4.out]; exact g3⟩))
    have u4:decide ((4:Int)<=(B4:Int))=true:=by simp; omega
    have u4n:decide (4<=B4)=true:=decide_eq_true (by omega)
    clear g3 g1 g0
    have HC1:=Lib.hid HC.out
    have B1:=Lib.hid B.out
    go_enter Tryz.func96,Tryz.ntmps96
    go_wp2_with (first
      | (refine wpList_store_mid rfl 125 _ _ rfl X 0 #[.bool false,.int .i64 0,.int .i64 0,.int .i64 0,.string ⟨#[]⟩] rfl rfl (HC1.out.there 0 5 (by omega)) info_pk (by simp [Value.oneCell']) ?_; have C2:=Lib.hid (store_pk w1 X pk0 pk0 HC1.out); have B2:=Lib.hid (below_setCells (B:=w.heap.size) (b:=X) (by rw [HX.out]; omega) [.bool false,.int .i64 0,.int .i64 0,.int .i64 0,.string ⟨#[]⟩] 0 w1 B1.out))
      | simp only [HW.out,HX.out])
    refine bodyPost_ret (v:=.tuple #[pkVal pk0,.int .i64 0,.int .i64 6]) (results_cell_t2 Tryz.results96 _ _ X [.bool false,.int .i64 0,.int .i64 0,.int .i64 0,.string ⟨#[]⟩] _ rfl (pk_range C2.out) Tryz.underlying125 rfl info_pk) rfl ⟨by rw [E.out]; rfl,by have:=B2.out; rw [HX.out] at this; exact this⟩
  have u4:decide ((4:Int)<=(B4:Int))=false:=by simp; omega
  have u4n:decide (4<=B4)=false:=decide_eq_false (by omega)
  have NB:=Lib.hid (show ¬ Pk.Bad l from by
    intro h
    rcases h with ⟨_,a | a⟩ | ⟨_,a⟩
    · rw [H0.out] at a
      omega
    · rw [H0.out,R0.out] at a
      omega
    rw [H4.out] at a
    omega)
  by_cases g4:n < 6
  · have E:=Lib.hid (show Pk.take l=.none from Pk.take_few NB.out (by rw [LL.out]; exact g4))
    have t3:decide ((n:Int) < 6)=true:=by simp; omega
    have t3n:decide (n < 6)=true:=decide_eq_true (by omega)
    clear g4 g3 g1 g0
    have HC1:=Lib.hid HC.out
    have B1:=Lib.hid B.out
    go_enter Tryz.func96,Tryz.ntmps96
    go_wp2_with (first
      | (refine wpList_store_mid rfl 125 _ _ rfl X 0 #[.bool false,.int .i64 0,.int .i64 0,.int .i64 0,.string ⟨#[]⟩] rfl rfl (HC1.out.there 0 5 (by omega)) info_pk (by simp [Value.oneCell']) ?_; have C2:=Lib.hid (store_pk w1 X pk0 pk0 HC1.out); have B2:=Lib.hid (below_setCells (B:=w.heap.size) (b:=X) (by rw [HX.out]; omega) [.bool false,.int .i64 0,.int .i64 0,.int .i64 0,.string ⟨#[]⟩] 0 w1 B1.out))
      | simp only [HW.out,HX.out])
    refine bodyPost_ret (v:=.tuple #[pkVal pk0,.int .i64 0,.int .i64 4]) (results_cell_t2 Tryz.results96 _ _ X [.bool false,.int .i64 0,.int .i64 0,.int .i64 0,.string ⟨#[]⟩] _ rfl (pk_range C2.out) Tryz.underlying125 rfl info_pk) rfl ⟨by rw [E.out]; rfl,by have:=B2.out; rw [HX.out] at this; exact this⟩
  have t3:decide ((n:Int) < 6)=false:=by simp; omega
  have t3n:decide (n < 6)=false:=decide_eq_false (by omega)
  exact rtake_six b n HN.out hs (by omega) (by rw [LB.out]; exact NB.out) w |>.mono (fun e w' h=>by rw [LB.out] at h; exact h)
end Go.Proofs.YtchfkncbemjepaaGreat

/- Layer 9: the reference's Get and Idle. -/
namespace Go.Proofs.YtchfkncbemjepaaGreat
open Go.RowKit

def getV (l:List UInt8):Value:=
  match Pk.take l with
  | .ok p n=>if n=l.length then .tuple #[pkVal p,.int .i64 0] else .tuple #[pkVal pk0,.int .i64 6]
  | _=>.tuple #[pkVal pk0,.int .i64 6]
theorem tkV_form (r:Pk.Res):∃ (p:Pkt) (n:Nat) (c:Int),tkV r=.tuple #[pkVal p,.int .i64 (n:Nat),.int .i64 c]/\((c=0/\r=.ok p n)\/(c ≠ 0/\∀ q k,r ≠ .ok q k)):=by
  cases r with
  | ok p n=>exact ⟨p,n,0,rfl,.inl ⟨rfl,rfl⟩⟩
  | none=>exact ⟨pk0,0,4,rfl,.inr ⟨by decide,fun q k h=>by cases h⟩⟩
  | form=>exact ⟨pk0,0,6,rfl,.inr ⟨by decide,fun q k h=>by cases h⟩⟩
theorem rget_any (b:ByteArray) (hs:b.size<=1000000) (w:World):Calls Tryz.prog 63 #[.string b] w fun e w'=>e=.returned (getV b.data.toList)/\Below w.heap.size w w':=by
  have TK:=Lib.hid (fun w=>rtake_any b hs w)
  have C:=pk_new pk0 w
  have B:=Lib.hid (ba (Below.refl w.heap.size w) (.cells #[.bool false,.int .i64 0,.int .i64 0,.int .i64 0,.string ⟨#[]⟩] 125))
  obtain ⟨n,hn⟩:∃ n,b.size=n:=⟨_,rfl⟩
  have HN:=Lib.hid hn
  have LL:=Lib.hid (show b.data.toList.length=n by rw [ls,hn])
  obtain ⟨w1,hw1⟩:∃ w1,w.alloc (.cells #[.bool false,.int .i64 0,.int .i64 0,.int .i64 0,.string ⟨#[]⟩] 125)=w1:=⟨_,rfl⟩
  obtain ⟨X,hX⟩:∃ X,w.heap.size=X:=⟨_,rfl⟩
  rw [hw1] at B
  have C1:Cel w1 X 5 (pkCel pk0):=by rw [<-hw1,<-hX]; exact C
  have HW:=Lib.hid hw1
  have HX:=Lib.hid hX
  have HC:=Lib.hid C1
  clear C hw1 C1 hX hn
  obtain ⟨p,k,c,hv,hr⟩:=tkV_form (Pk.take b.data.toList)
  have GV:=Lib.hid (show getV b.data.toList=if c=0/\k=n then .tuple #[pkVal p,.int .i64 0] else .tuple #[pkVal pk0,.int .i64 6] from by
    unfold getV
    rw [LL.out]
    rcases hr with ⟨h1,h2⟩ | ⟨h1,h2⟩
    · rw [h2]
      by_cases g:k=n
      · rw [if_pos ⟨h1,g⟩]
        simp [g]
      rw [if_neg (fun h=>g h.2)]
      simp [g]
    rw [if_neg (fun h=>h1 h.1)]
    cases h:Pk.take b.data.toList with
    | ok q j=>exact absurd h (h2 q j)
    | none=>rfl
    | form=>rfl)
  obtain ⟨V,hV⟩:∃ V,getV b.data.toList=V:=⟨_,rfl⟩
  rw [hV] at GV ⊢
  rw [hv] at TK
  obtain ⟨cmd,ap,fl,ct,da⟩:=p
  unfold pkVal at TK GV
  simp only at TK GV
  have sn:=HN.out
  clear hv hr hV
  go_enter Tryz.func63,Tryz.ntmps63
  go_wp2_with (simp only [HW.out,HX.out])
  (with_reducible refine (TK.out _).mono ?_)
  rintro e w2 ⟨rfl,h2⟩
  obtain ⟨g,hg⟩:∃ g,w2.heap.size=g:=⟨_,rfl⟩
  obtain ⟨w3,hw3⟩:∃ w3,w2.alloc (.cells #[.bool false,.int .i64 0,.int .i64 0,.int .i64 0,.string ⟨#[]⟩] 125)=w3:=⟨_,rfl⟩
  have B2:=bt B.out h2
  have B23:Below w2.heap.size w2 w3:=hw3 ▸ ba (Below.refl _ _) _
  have CG:Cel w3 g 5 (pkCel pk0):=by rw [<-hw3,<-hg]; exact pk_new pk0 w2
  have CX:Cel w3 X 5 (pkCel pk0):=(HC.out.below h2).below B23
  have XG:X ≠ g:=by
    have:=HC.out.lt
    have:=h2.size
    omega
  obtain ⟨w4,hw4⟩:∃ w4,w3.setCells g 0 [.bool cmd,.int .i64 ap,.int .i64 fl,.int .i64 ct,.string da]=w4:=⟨_,rfl⟩
  have CX4:=Lib.hid (show Cel w4 X 5 (pkCel pk0) from hw4 ▸ CX.manyOther (c:=g) (p:=0) [.bool cmd,.int .i64 ap,.int .i64 fl,.int .i64 ct,.string da] XG)
  have CG4:=Lib.hid (show Cel w4 g 5 (pkCel ⟨cmd,ap,fl,ct,da⟩) from hw4 ▸ store_pk w3 g ⟨cmd,ap,fl,ct,da⟩ pk0 CG)
  have B4:=Lib.hid (show Below w.heap.size w w4 from hw4 ▸ below_setCells (B:=w.heap.size) (b:=g) (by rw [<-hg]; exact B2.size) [.bool cmd,.int .i64 ap,.int .i64 fl,.int .i64 ct,.string da] 0 w3 (bt B2 B23))
  have HG:=Lib.hid hg
  have HW3:=Lib.hid hw3
  have HW4:=Lib.hid hw4
  have HCG:=Lib.hid CG
  clear hg hw3 hw4 B2 B23 CG CX XG h2
  by_cases c0:c=0
  · have d1:(c != 0)=false:=by simp; omega
    by_cases kn:k=n
    · have E:=Lib.hid (show V=.tuple #[.agg #[.bool cmd,.int .i64 ap,.int .i64 fl,.int .i64 ct,.string da],.int .i64 0] by rw [GV.out,if_pos ⟨c0,kn⟩])
      have d2:((k:Int) != (n:Int))=false:=by simp; omega
      clear c0 kn
      go_wp2_with (first
        | (refine wpList_store_mid rfl 125 (.tmp 2) (.tmp 22) rfl X 0 #[.bool cmd,.int .i64 ap,.int .i64 fl,.int .i64 ct,.string da] rfl rfl (CX4.out.there 0 5 (by omega)) info_pk (by simp [Value.oneCell']) ?_; have C7:=Lib.hid (store_pk w4 X ⟨cmd,ap,fl,ct,da⟩ pk0 CX4.out); have B7:=Lib.hid (below_setCells (B:=w.heap.size) (b:=X) (by rw [HX.out]; omega) [.bool cmd,.int .i64 ap,.int .i64 fl,.int .i64 ct,.string da] 0 w4 B4.out))
        | (refine wpList_store_mid rfl 125 (.tmp 4) (.tmp 10) rfl g 0 #[.bool cmd,.int .i64 ap,.int .i64 fl,.int .i64 ct,.string da] rfl rfl (HCG.out.there 0 5 (by omega)) info_pk (by simp [Value.oneCell']) ?_; rw [show w3.setCells g 0 (#[.bool cmd,.int .i64 ap,.int .i64 fl,.int .i64 ct,.string da]:Array Value).toList=w4 from HW4.out])
        | (refine wpList_load_mid rfl 125 (.tmp 4) rfl g 0 rfl [.bool cmd,.int .i64 ap,.int .i64 fl,.int .i64 ct,.string da] _ (pk_range CG4.out) Tryz.underlying125 rfl info_pk ?_)
        | simp only [HW3.out,HG.out])
      refine bodyPost_ret (v:=.tuple #[.agg #[.bool cmd,.int .i64 ap,.int .i64 fl,.int .i64 ct,.string da],.int .i64 0]) (results_cell_t1 Tryz.results63 _ _ X [.bool cmd,.int .i64 ap,.int .i64 fl,.int .i64 ct,.string da] _ rfl (pk_range C7.out) Tryz.underlying125 rfl info_pk) rfl ⟨by rw [E.out],by first | exact B7.out | (have:=B7.out; rw [HX.out] at this; exact this)⟩
    have E:=Lib.hid (show V=.tuple #[.agg #[.bool false,.int .i64 0,.int .i64 0,.int .i64 0,.string ⟨#[]⟩],.int .i64 6] by rw [GV.out,if_neg (fun h=>kn h.2)]; rfl)
    have d2:((k:Int) != (n:Int))=true:=by simp; omega
    clear c0 kn
    go_wp2_with (first
      | (refine wpList_store_mid rfl 125 (.tmp 2) (.tmp 21) rfl X 0 #[.bool false,.int .i64 0,.int .i64 0,.int .i64 0,.string ⟨#[]⟩] rfl rfl (CX4.out.there 0 5 (by omega)) info_pk (by simp [Value.oneCell']) ?_; have C7:=Lib.hid (store_pk w4 X pk0 pk0 CX4.out); have B7:=Lib.hid (below_setCells (B:=w.heap.size) (b:=X) (by rw [HX.out]; omega) [.bool false,.int .i64 0,.int .i64 0,.int .i64 0,.string ⟨#[]⟩] 0 w4 B4.out))
      | (refine wpList_store_mid rfl 125 (.tmp 4) (.tmp 10) rfl g 0 #[.bool cmd,.int .i64 ap,.int .i64 fl,.int .i64 ct,.string da] rfl rfl (HCG.out.there 0 5 (by omega)) info_pk (by simp [Value.oneCell']) ?_; rw [show w3.setCells g 0 (#[.bool cmd,.int .i64 ap,.int .i64 fl,.int .i64 ct,.string da]:Array Value).toList=w4 from HW4.out])
      | (refine wpList_load_mid rfl 125 (.tmp 4) rfl g 0 rfl [.bool cmd,.int .i64 ap,.int .i64 fl,.int .i64 ct,.string da] _ (pk_range CG4.out) Tryz.underlying125 rfl info_pk ?_)
      | simp only [HW3.out,HG.out])
    refine bodyPost_ret (v:=.tuple #[.agg #[.bool false,.int .i64 0,.int .i64 0,.int .i64 0,.string ⟨#[]⟩],.int .i64 6]) (results_cell_t1 Tryz.results63 _ _ X [.bool false,.int .i64 0,.int .i64 0,.int .i64 0,.string ⟨#[]⟩] _ rfl (pk_range C7.out) Tryz.underlying125 rfl info_pk) rfl ⟨by rw [E.out],by first | exact B7.out | (have:=B7.out; rw [HX.out] at this; exact this)⟩
  have E:=Lib.hid (show V=.tuple #[.agg #[.bool false,.int .i64 0,.int .i64 0,.int .i64 0,.string ⟨#[]⟩],.int .i64 6] by rw [GV.out,if_neg (fun h=>c0 h.1)]; rfl)
  have d1:(c != 0)=true:=by simp; omega
  clear c0
  go_wp2_with (first
    | (refine wpList_store_mid rfl 125 (.tmp 2) (.tmp 21) rfl X 0 #[.bool false,.int .i64 0,.int .i64 0,.int .i64 0,.string ⟨#[]⟩] rfl rfl (CX4.out.there 0 5 (by omega)) info_pk (by simp [Value.oneCell']) ?_; have C7:=Lib.hid (store_pk w4 X pk0 pk0 CX4.out); have B7:=Lib.hid (below_setCells (B:=w.heap.size) (b:=X) (by rw [HX.out]; omega) [.bool false,.int .i64 0,.int .i64 0,.int .i64 0,.string ⟨#[]⟩] 0 w4 B4.out))
    | (refine wpList_store_mid rfl 125 (.tmp 4) (.tmp 10) rfl g 0 #[.bool cmd,.int .i64 ap,.int .i64 fl,.int .i64 ct,.string da] rfl rfl (HCG.out.there 0 5 (by omega)) info_pk (by simp [Value.oneCell']) ?_; rw [show w3.setCells g 0 (#[.bool cmd,.int .i64 ap,.int .i64 fl,.int .i64 ct,.string da]:Array Value).toList=w4 from HW4.out])
    | (refine wpList_load_mid rfl 125 (.tmp 4) rfl g 0 rfl [.bool cmd,.int .i64 ap,.int .i64 fl,.int .i64 ct,.string da] _ (pk_range CG4.out) Tryz.underlying125 rfl info_pk ?_)
    | simp only [HW3.out,HG.out])
  refine bodyPost_ret (v:=.tuple #[.agg #[.bool false,.int .i64 0,.int .i64 0,.int .i64 0,.string ⟨#[]⟩],.int .i64 6]) (results_cell_t1 Tryz.results63 _ _ X [.bool false,.int .i64 0,.int .i64 0,.int .i64 0,.string ⟨#[]⟩] _ rfl (pk_range C7.out) Tryz.underlying125 rfl info_pk) rfl ⟨by rw [E.out],by first | exact B7.out | (have:=B7.out; rw [HX.out] at this; exact this)⟩
def zer (n:Nat):ByteArray:=⟨(Gal.coefs (fun _=>0#8) n).toArray⟩
theorem zer_size (n:Nat):(zer n).size=n:=coefs_size _ _
def pkIdle (n:Nat):Pkt:=⟨false,2047,3,0,zer n⟩
theorem idle_ok (n:Nat) (h1:1<=n) (h2:n<=1024):Pk.Ok (pkIdle n):=⟨by show (0:Int)<=2047/\(2047:Int)<=2047; omega,by show (0:Int)<=3/\(3:Int)<=3; omega,by show (0:Int)<=0/\(0:Int)<=16383; omega,by show 1<=(zer n).size; rw [zer_size]; exact h1,by show (zer n).size<=1024; rw [zer_size]; exact h2⟩
end Go.Proofs.YtchfkncbemjepaaGreat
