/- TpGet -/
import Derived.Test.YtchfkncbemjepaaGreatTpHead
import Derived.Test.YtchfkncbemjepaaGreatPpTake
import Derived.Test.YtchfkncbemjepaaGreatTmFlip
set_option linter.unusedVariables false
set_option maxRecDepth 100000
set_option maxHeartbeats 8000000
/- Layer 10, the landed program: parsed, Get. -/
namespace Go.Proofs.YtchfkncbemjepaaGreat
open Go.RowKit

def WdV (v:Value) (w:World):Prop:=∃ B,v=.slice (some ⟨B,0,none⟩) 8 8/\FReads .i64 w (some ⟨B,0,none⟩) Tm.wid
theorem WdV.mono {v:Value} {w w':World} (h:WdV v w) (hb:Below w.heap.size w w'):WdV v w':=by
  obtain ⟨B,e,h⟩:=h
  exact ⟨B,e,h.below hb⟩
def UnV (l:List UInt8) (v:Value) (w:World):Prop:=∃ N off cap,v=.tuple #[.slice (some ⟨N,off,none⟩) 8 cap,.int .i64 0]/\8<=cap/\N < w.heap.size/\∀ j,j < 8->w.cell? ⟨N,off + j,none⟩=some (.int .u64 ((Tm.flds l).getD j 0:Nat))
theorem UnV.mono {l:List UInt8} {v:Value} {w w':World} (h:UnV l v w) (hb:Below w.heap.size w w'):UnV l v w':=by
  obtain ⟨N,off,cap,e,hc,hl,h⟩:=h
  exact ⟨N,off,cap,e,hc,Nat.lt_of_lt_of_le hl hb.size,fun j hj=>(hb.cell (p:=⟨N,off + j,none⟩) hl).trans (h j hj)⟩
theorem tunpack_any (s:ByteArray) (hs:s.size=6) (v:Value) (w:World) (R:WdV v w):Calls Tryz.prog 118 #[v,.string s] w fun e w'=>∃ u,e=.returned u/\UnV s.data.toList u w'/\Below w.heap.size w w':=by
  obtain ⟨B,rfl,R⟩:=R
  have u:=Tm.unp_hdr (l:=s.data.toList) (by rw [ls,hs])
  refine (unpack_any (some ⟨B,0,none⟩) 8 Tm.wid s (by decide) (by decide) (by decide) (by omega) w R).mono ?_
  rintro e w' ⟨a,cap,he,hc,hr,hb,hn⟩
  rw [u.2] at he hr hc
  rw [u.1] at he
  obtain ⟨N,off,rfl,lN,cN⟩:=hr.cell (by show 0 < 8; omega)
  refine ⟨_,he,⟨N,off,cap,rfl,hc,lN,fun j hj=>?_⟩,hb⟩
  rw [cN j hj,getD_ofNat _ _ hj]
structure TprRegion (b s6:ByteArray) (L6:List UInt8) (A:Act) (w0:World) (s:Nat->Bool) (a:Act) (w:World):Prop where
  off:Off [12,13,14,15,11,16,17,4] a A
  before:Below w0.heap.size w0 w
  t0:s 0=true->∃ v0,a.eval (.tmp 12)=v0/\WdV v0 w
  t1:s 1=true->a.eval (.tmp 13)=.string b
  t2:s 2=true->a.eval (.tmp 14)=.string s6
  t3:s 3=true->∃ v3,a.eval (.tmp 15)=v3/\UnV L6 v3 w/\(s 4=true->a.eval (.tmp 11)=v3)/\(s 5=true->a.eval (.tmp 16)=tup0 v3)/\(s 6=true->a.eval (.tmp 17)=tup1 v3)/\(s 7=true->a.eval (.tmp 4)=tup0 v3)
theorem tprRegion {id:Nat} {l:List Oper} {A:Act} {w:World} {Q:Exit->Act->World->Prop} (b s6:ByteArray) (L6:List UInt8)
    (hn:6<=b.size) (hb:b.size<=1000) (e6:b.extract 0 6=s6)
    (hW:∀ w,Calls Tryz.prog 115 #[] w (fun e w'=>∃ v,e=.returned v/\WdV v w'/\Below w.heap.size w w'))
    (hU:∀ v w,WdV v w->Calls Tryz.prog 118 #[v,.string s6] w (fun e w'=>∃ u,e=.returned u/\UnV L6 u w'/\Below w.heap.size w w'))
    (hB:tableH l.toArray 8 (fun i=>match i with | 0=>[] | 1=>[] | 2=>[1] | 3=>[0,2] | 4=>[3] | 5=>[3,4] | 6=>[3,4] | 7=>[3,4,5] | _=>[]) (fun i=>match i with | 3=>[4,5,6,7] | _=>[])=true)
    (h0:pick l 0=some (.call { callee:=.value (.func 115),args:=#[],argTypes:=#[] },some 12))
    (h1:pick l 1=some (.move (.tmp 0),some 13))
    (h2:pick l 2=some (.slice 9 (.tmp 13) none (some (.const (.int .i64 6))) none,some 14))
    (h3:pick l 3=some (.call { callee:=.value (.func 118),args:=#[.tmp 12,.tmp 14],argTypes:=#[72,9] },some 15))
    (h4:pick l 4=some (.move (.tmp 15),some 11))
    (h5:pick l 5=some (.extract (.tmp 11) 0,some 16))
    (h6:pick l 6=some (.extract (.tmp 11) 1,some 17))
    (h7:pick l 7=some (.assign (.tmp 16),some 4))
    (hs:A.tmps.size=52)
    (x0:A.eval (.tmp 0)=.string b)
    (h:∀ v0 v3 w1,Below w.heap.size w w1->WdV v0 w1->UnV L6 v3 w1->wpList Tryz.prog l.toArray Q (l.drop 8) ((((((((A.put (some 12) (v0)).put (some 13) (.string b)).put (some 14) (.string s6)).put (some 15) (v3)).put (some 11) (v3)).put (some 16) (tup0 v3)).put (some 17) (tup1 v3)).put (some 4) (tup0 v3)) w1):
    (Code.region id l.toArray true).wp Tryz.prog Q A w:=by
  refine wp_region_head (by kernel_rfl) _ _ _ hB (TprRegion b s6 L6 A w) ⟨Off.refl _ _,(Below.refl _ _).drew,by simp,by simp,by simp,by simp⟩ ?_ ?_
  · intro s a w' S i' o il ho hsi hT K hK
    have sz:a.tmps.size=52:=by rw [S.off.2.1]; exact hs
    have y0:a.eval (.tmp 0)=.string b:=by rw [S.off.eval (by decide)]; exact x0
    match i',il,ho,hsi,hT with
    | 0,_,ho,hsi,hT=>
      obtain ⟨e1,e2⟩:=pick_of h0 ho
      have BW:=S.before
      refine step_call 115 (fun args w=>by go_simp) _ _ e1 #[] (by simp) ((hW w').mono ?_)
      rintro e w2 ⟨v,rfl,FF,BB⟩
      refine ⟨_,rfl,hK _ _ ?_⟩
      rw [e2]
      exact ⟨ofp S.off,bt BW BB,fun _=>⟨_,(eval_put _ _ _ (by omega)).trans rfl,FF⟩,kp S.t1,kp S.t2,fun g=>(S.t3 (by simpa using g)).imp fun b hb=>⟨by rw [eval_put_ne _ _ _ _ (by decide)]; exact hb.1,(UnV.mono hb.2.1 BB),fun g=>by rw [eval_put_ne _ _ _ _ (by decide)]; exact hb.2.2.1 (by simpa using g),fun g=>by rw [eval_put_ne _ _ _ _ (by decide)]; exact hb.2.2.2.1 (by simpa using g),fun g=>by rw [eval_put_ne _ _ _ _ (by decide)]; exact hb.2.2.2.2.1 (by simpa using g),fun g=>by rw [eval_put_ne _ _ _ _ (by decide)]; exact hb.2.2.2.2.2 (by simpa using g)⟩⟩
    | 1,_,ho,hsi,hT=>
      obtain ⟨e1,e2⟩:=pick_of h1 ho
      refine step_val (v:=.string b) (by simp only [execOp,e1,y0]; go_simp) (hK _ _ ?_)
      rw [e2]
      exact ⟨ofp S.off,S.before,fun g=>(S.t0 (by simpa using g)).imp fun b hb=>⟨by rw [eval_put_ne _ _ _ _ (by decide)]; exact hb.1,hb.2⟩,ev_ (by omega),kp S.t2,fun g=>(S.t3 (by simpa using g)).imp fun b hb=>⟨by rw [eval_put_ne _ _ _ _ (by decide)]; exact hb.1,hb.2.1,fun g=>by rw [eval_put_ne _ _ _ _ (by decide)]; exact hb.2.2.1 (by simpa using g),fun g=>by rw [eval_put_ne _ _ _ _ (by decide)]; exact hb.2.2.2.1 (by simpa using g),fun g=>by rw [eval_put_ne _ _ _ _ (by decide)]; exact hb.2.2.2.2.1 (by simpa using g),fun g=>by rw [eval_put_ne _ _ _ _ (by decide)]; exact hb.2.2.2.2.2 (by simpa using g)⟩⟩
    | 2,_,ho,hsi,hT=>
      obtain ⟨e1,e2⟩:=pick_of h2 ho
      have D1:s 1=true:=list_pos hT (d:=1) (by decide)
      refine step_val (v:=.string s6) (by simp only [execOp,e1,Option.map_none,Option.map_some,S.t1 D1]; go_simp <;> first | done | (intro q; omega)) (hK _ _ ?_)
      rw [e2]
      exact ⟨ofp S.off,S.before,fun g=>(S.t0 (by simpa using g)).imp fun b hb=>⟨by rw [eval_put_ne _ _ _ _ (by decide)]; exact hb.1,hb.2⟩,kp S.t1,ev_ (by omega),fun g=>(S.t3 (by simpa using g)).imp fun b hb=>⟨by rw [eval_put_ne _ _ _ _ (by decide)]; exact hb.1,hb.2.1,fun g=>by rw [eval_put_ne _ _ _ _ (by decide)]; exact hb.2.2.1 (by simpa using g),fun g=>by rw [eval_put_ne _ _ _ _ (by decide)]; exact hb.2.2.2.1 (by simpa using g),fun g=>by rw [eval_put_ne _ _ _ _ (by decide)]; exact hb.2.2.2.2.1 (by simpa using g),fun g=>by rw [eval_put_ne _ _ _ _ (by decide)]; exact hb.2.2.2.2.2 (by simpa using g)⟩⟩
    | 3,_,ho,hsi,hT=>
      obtain ⟨e1,e2⟩:=pick_of h3 ho
      have D0:s 0=true:=list_pos hT (d:=0) (by decide)
      have D2:s 2=true:=list_pos hT (d:=2) (by decide)
      have BW:=S.before
      obtain ⟨v0,M0,F0⟩:=S.t0 D0
      have NL4:s 4=false:=list_neg hT (k:=4) (by decide)
      have NL5:s 5=false:=list_neg hT (k:=5) (by decide)
      have NL6:s 6=false:=list_neg hT (k:=6) (by decide)
      have NL7:s 7=false:=list_neg hT (k:=7) (by decide)
      refine step_call 118 (fun args w=>by go_simp) _ _ e1 #[v0,.string s6] (by simp only [List.map_toArray,List.map_cons,List.map_nil,M0,S.t2 D2] <;> rfl) ((hU v0 w' F0).mono ?_)
      rintro e w2 ⟨v,rfl,FF,BB⟩
      refine ⟨_,rfl,hK _ _ ?_⟩
      rw [e2]
      exact ⟨ofp S.off,bt BW BB,fun g=>(S.t0 (by simpa using g)).imp fun b hb=>⟨by rw [eval_put_ne _ _ _ _ (by decide)]; exact hb.1,(WdV.mono hb.2 BB)⟩,kp S.t1,kp S.t2,fun _=>⟨_,(eval_put _ _ _ (by omega)).trans rfl,FF,fun g=>absurd g (by simp [NL4]),fun g=>absurd g (by simp [NL5]),fun g=>absurd g (by simp [NL6]),fun g=>absurd g (by simp [NL7])⟩⟩
    | 4,_,ho,hsi,hT=>
      obtain ⟨e1,e2⟩:=pick_of h4 ho
      have D3:s 3=true:=list_pos hT (d:=3) (by decide)
      obtain ⟨v3,M3,F3,Q4,Q5,Q6,Q7⟩:=S.t3 D3
      refine step_val (v:=v3) (by simp only [execOp,e1,M3]; go_simp) (hK _ _ ?_)
      rw [e2]
      exact ⟨ofp S.off,S.before,fun g=>(S.t0 (by simpa using g)).imp fun b hb=>⟨by rw [eval_put_ne _ _ _ _ (by decide)]; exact hb.1,hb.2⟩,kp S.t1,kp S.t2,fun _=>⟨_,by rw [eval_put_ne _ _ _ _ (by decide)]; exact M3,F3,ev_ (by omega),fun g=>by rw [eval_put_ne _ _ _ _ (by decide)]; exact Q5 (by simpa using g),fun g=>by rw [eval_put_ne _ _ _ _ (by decide)]; exact Q6 (by simpa using g),fun g=>by rw [eval_put_ne _ _ _ _ (by decide)]; exact Q7 (by simpa using g)⟩⟩
    | 5,_,ho,hsi,hT=>
      obtain ⟨e1,e2⟩:=pick_of h5 ho
      have D3:s 3=true:=list_pos hT (d:=3) (by decide)
      have D4:s 4=true:=list_pos hT (d:=4) (by decide)
      obtain ⟨v3,M3,F3,Q4,Q5,Q6,Q7⟩:=S.t3 D3
      obtain ⟨N,O,cap,rfl,G1,G2,G3⟩:=F3
      have F3:UnV L6 _ w':=⟨N,O,cap,rfl,G1,G2,G3⟩
      refine step_val (v:=.slice (some ⟨N,O,none⟩) 8 cap) (by simp only [execOp,e1,Q4 D4]; go_simp) (hK _ _ ?_)
      rw [e2]
      exact ⟨ofp S.off,S.before,fun g=>(S.t0 (by simpa using g)).imp fun b hb=>⟨by rw [eval_put_ne _ _ _ _ (by decide)]; exact hb.1,hb.2⟩,kp S.t1,kp S.t2,fun _=>⟨_,by rw [eval_put_ne _ _ _ _ (by decide)]; exact M3,F3,fun g=>by rw [eval_put_ne _ _ _ _ (by decide)]; exact Q4 (by simpa using g),ev_ (by omega),fun g=>by rw [eval_put_ne _ _ _ _ (by decide)]; exact Q6 (by simpa using g),fun g=>by rw [eval_put_ne _ _ _ _ (by decide)]; exact Q7 (by simpa using g)⟩⟩
    | 6,_,ho,hsi,hT=>
      obtain ⟨e1,e2⟩:=pick_of h6 ho
      have D3:s 3=true:=list_pos hT (d:=3) (by decide)
      have D4:s 4=true:=list_pos hT (d:=4) (by decide)
      obtain ⟨v3,M3,F3,Q4,Q5,Q6,Q7⟩:=S.t3 D3
      obtain ⟨N,O,cap,rfl,G1,G2,G3⟩:=F3
      have F3:UnV L6 _ w':=⟨N,O,cap,rfl,G1,G2,G3⟩
      refine step_val (v:=.int .i64 0) (by simp only [execOp,e1,Q4 D4]; go_simp) (hK _ _ ?_)
      rw [e2]
      exact ⟨ofp S.off,S.before,fun g=>(S.t0 (by simpa using g)).imp fun b hb=>⟨by rw [eval_put_ne _ _ _ _ (by decide)]; exact hb.1,hb.2⟩,kp S.t1,kp S.t2,fun _=>⟨_,by rw [eval_put_ne _ _ _ _ (by decide)]; exact M3,F3,fun g=>by rw [eval_put_ne _ _ _ _ (by decide)]; exact Q4 (by simpa using g),fun g=>by rw [eval_put_ne _ _ _ _ (by decide)]; exact Q5 (by simpa using g),ev_ (by omega),fun g=>by rw [eval_put_ne _ _ _ _ (by decide)]; exact Q7 (by simpa using g)⟩⟩
    | 7,_,ho,hsi,hT=>
      obtain ⟨e1,e2⟩:=pick_of h7 ho
      have D3:s 3=true:=list_pos hT (d:=3) (by decide)
      have D4:s 4=true:=list_pos hT (d:=4) (by decide)
      have D5:s 5=true:=list_pos hT (d:=5) (by decide)
      obtain ⟨v3,M3,F3,Q4,Q5,Q6,Q7⟩:=S.t3 D3
      refine step_val (v:=tup0 v3) (by simp only [execOp,e1,Q5 D5]; go_simp) (hK _ _ ?_)
      rw [e2]
      exact ⟨ofp S.off,S.before,fun g=>(S.t0 (by simpa using g)).imp fun b hb=>⟨by rw [eval_put_ne _ _ _ _ (by decide)]; exact hb.1,hb.2⟩,kp S.t1,kp S.t2,fun _=>⟨_,by rw [eval_put_ne _ _ _ _ (by decide)]; exact M3,F3,fun g=>by rw [eval_put_ne _ _ _ _ (by decide)]; exact Q4 (by simpa using g),fun g=>by rw [eval_put_ne _ _ _ _ (by decide)]; exact Q5 (by simpa using g),fun g=>by rw [eval_put_ne _ _ _ _ (by decide)]; exact Q6 (by simpa using g),ev_ (by omega)⟩⟩
    | _ + 8,il,_,_,_=>exact absurd il (by omega)
  intro s a w' S hall
  have a0:=hall 0 (by omega)
  have a1:=hall 1 (by omega)
  have a2:=hall 2 (by omega)
  have a3:=hall 3 (by omega)
  have a4:=hall 4 (by omega)
  have a5:=hall 5 (by omega)
  have a6:=hall 6 (by omega)
  have a7:=hall 7 (by omega)
  have e:=off_norm _ (by intro d hd; simp at hd; omega) S.off
  obtain ⟨v0,M0,F0⟩:=S.t0 a0
  obtain ⟨v3,M3,F3,Q4,Q5,Q6,Q7⟩:=S.t3 a3
  simp only [List.foldl,M0,S.t1 a1,S.t2 a2,M3,Q4 a4,Q5 a5,Q6 a6,Q7 a7] at e
  rw [e]
  exact h _ _ _ S.before F0 F3
structure TpsRegion (b da:ByteArray) (N O cap E f1 f2 f4 f5 f7 wo:Nat) (A:Act) (w0:World) (s:Nat->Bool) (a:Act) (w:World):Prop where
  off:Off [25,26,27,28,29,30,31,32,33,34,35,36,37,38,39,40,41,42,43,44,45,46,47,48,49,50] a A
  before:Below w0.heap.size w0 w
  t0:s 0=true->a.eval (.tmp 25)=.slice (some ⟨N,O,none⟩) 8 cap
  t1:s 1=true->a.eval (.tmp 26)=.pointer (some ⟨N,O + 1,none⟩)
  t2:s 2=true->a.eval (.tmp 27)=.int .u64 (f1:Nat)
  t3:s 3=true->a.eval (.tmp 28)=.int .i64 (f1:Nat)
  t4:s 4=true->a.eval (.tmp 29)=.slice (some ⟨N,O,none⟩) 8 cap
  t5:s 5=true->a.eval (.tmp 30)=.pointer (some ⟨N,O + 2,none⟩)
  t6:s 6=true->a.eval (.tmp 31)=.int .u64 (f2:Nat)
  t7:s 7=true->a.eval (.tmp 32)=.int .i64 (f2:Nat)
  t8:s 8=true->a.eval (.tmp 33)=.slice (some ⟨N,O,none⟩) 8 cap
  t9:s 9=true->a.eval (.tmp 34)=.pointer (some ⟨N,O + 4,none⟩)
  t10:s 10=true->a.eval (.tmp 35)=.int .u64 (f4:Nat)
  t11:s 11=true->a.eval (.tmp 36)=.int .i64 (f4:Nat)
  t12:s 12=true->a.eval (.tmp 37)=.slice (some ⟨N,O,none⟩) 8 cap
  t13:s 13=true->a.eval (.tmp 38)=.pointer (some ⟨N,O + 5,none⟩)
  t14:s 14=true->a.eval (.tmp 39)=.int .u64 (f5:Nat)
  t15:s 15=true->a.eval (.tmp 40)=.int .i64 (f5:Nat)
  t16:s 16=true->a.eval (.tmp 41)=.slice (some ⟨N,O,none⟩) 8 cap
  t17:s 17=true->a.eval (.tmp 42)=.pointer (some ⟨N,O + 7,none⟩)
  t18:s 18=true->a.eval (.tmp 43)=.int .u64 (f7:Nat)
  t19:s 19=true->a.eval (.tmp 44)=.int .i64 (f7:Nat)
  t20:s 20=true->a.eval (.tmp 45)=.string b
  t21:s 21=true->a.eval (.tmp 46)=.int .i64 (E:Nat)
  t22:s 22=true->a.eval (.tmp 47)=.string da
  t23:s 23=true->a.eval (.tmp 48)=.string da
  t24:s 24=true->a.eval (.tmp 49)=.int .u64 (wo:Nat)
  t25:s 25=true->a.eval (.tmp 50)=.int .u32 (wo:Nat)
theorem tpsRegion {id:Nat} {l:List Oper} {A:Act} {w:World} {Q:Exit->Act->World->Prop} (b da:ByteArray) (N O cap E f1 f2 f4 f5 f7 wo:Nat)
    (h6:6<=E) (hE:E<=b.size) (hb:b.size<=1000) (hda:b.extract 6 E=da) (lN:N < w.heap.size) (hc:8<=cap)
    (b1:f1<=65535) (b2:f2<=65535) (b4:f4<=65535) (b5:f5<=65535) (b7:f7<=65535) (bw:wo < 4294967296)
    (k1:w.cell? ⟨N,O + 1,none⟩=some (.int .u64 (f1:Nat)))
    (k2:w.cell? ⟨N,O + 2,none⟩=some (.int .u64 (f2:Nat)))
    (k4:w.cell? ⟨N,O + 4,none⟩=some (.int .u64 (f4:Nat)))
    (k5:w.cell? ⟨N,O + 5,none⟩=some (.int .u64 (f5:Nat)))
    (k7:w.cell? ⟨N,O + 7,none⟩=some (.int .u64 (f7:Nat)))
    (hC:∀ w,Calls Tryz.prog 53 #[.string da] w (fun e w'=>e=.returned (.string da)/\Below w.heap.size w w'))
    (hB:tableH l.toArray 26 (fun i=>match i with | 0=>[] | 1=>[0] | 2=>[1] | 3=>[2] | 4=>[] | 5=>[4] | 6=>[5] | 7=>[6] | 8=>[] | 9=>[8] | 10=>[9] | 11=>[10] | 12=>[] | 13=>[12] | 14=>[13] | 15=>[14] | 16=>[] | 17=>[16] | 18=>[17] | 19=>[18] | 20=>[] | 21=>[] | 22=>[20,21] | 23=>[22] | 24=>[] | 25=>[24] | _=>[]) (fun _=>[])=true)
    (h0:pick l 0=some (.move (.tmp 4),some 25))
    (h1:pick l 1=some (.indexAddr 190 (.tmp 25) (.const (.int .i64 1)),some 26))
    (h2:pick l 2=some (.load 185 (.tmp 26),some 27))
    (h3:pick l 3=some (.convert 185 3 (.tmp 27),some 28))
    (h4:pick l 4=some (.move (.tmp 4),some 29))
    (h5:pick l 5=some (.indexAddr 190 (.tmp 29) (.const (.int .i64 2)),some 30))
    (h6:pick l 6=some (.load 185 (.tmp 30),some 31))
    (h7:pick l 7=some (.convert 185 3 (.tmp 31),some 32))
    (h8:pick l 8=some (.move (.tmp 4),some 33))
    (h9:pick l 9=some (.indexAddr 190 (.tmp 33) (.const (.int .i64 4)),some 34))
    (h10:pick l 10=some (.load 185 (.tmp 34),some 35))
    (h11:pick l 11=some (.convert 185 3 (.tmp 35),some 36))
    (h12:pick l 12=some (.move (.tmp 4),some 37))
    (h13:pick l 13=some (.indexAddr 190 (.tmp 37) (.const (.int .i64 5)),some 38))
    (h14:pick l 14=some (.load 185 (.tmp 38),some 39))
    (h15:pick l 15=some (.convert 185 3 (.tmp 39),some 40))
    (h16:pick l 16=some (.move (.tmp 4),some 41))
    (h17:pick l 17=some (.indexAddr 190 (.tmp 41) (.const (.int .i64 7)),some 42))
    (h18:pick l 18=some (.load 185 (.tmp 42),some 43))
    (h19:pick l 19=some (.convert 185 3 (.tmp 43),some 44))
    (h20:pick l 20=some (.move (.tmp 0),some 45))
    (h21:pick l 21=some (.move (.tmp 3),some 46))
    (h22:pick l 22=some (.slice 9 (.tmp 45) (some (.const (.int .i64 6))) (some (.tmp 46)) none,some 47))
    (h23:pick l 23=some (.call { callee:=.value (.func 53),args:=#[.tmp 47],argTypes:=#[9] },some 48))
    (h24:pick l 24=some (.move (.tmp 6),some 49))
    (h25:pick l 25=some (.convert 185 34 (.tmp 49),some 50))
    (hs:A.tmps.size=52)
    (x0:A.eval (.tmp 0)=.string b)
    (x3:A.eval (.tmp 3)=.int .i64 (E:Nat))
    (x4:A.eval (.tmp 4)=.slice (some ⟨N,O,none⟩) 8 cap)
    (x6:A.eval (.tmp 6)=.int .u64 (wo:Nat))
    (h:∀ w1,Below w.heap.size w w1->wpList Tryz.prog l.toArray Q (l.drop 26) ((((((((((((((((((((((((((A.put (some 25) (.slice (some ⟨N,O,none⟩) 8 cap)).put (some 26) (.pointer (some ⟨N,O + 1,none⟩))).put (some 27) (.int .u64 (f1:Nat))).put (some 28) (.int .i64 (f1:Nat))).put (some 29) (.slice (some ⟨N,O,none⟩) 8 cap)).put (some 30) (.pointer (some ⟨N,O + 2,none⟩))).put (some 31) (.int .u64 (f2:Nat))).put (some 32) (.int .i64 (f2:Nat))).put (some 33) (.slice (some ⟨N,O,none⟩) 8 cap)).put (some 34) (.pointer (some ⟨N,O + 4,none⟩))).put (some 35) (.int .u64 (f4:Nat))).put (some 36) (.int .i64 (f4:Nat))).put (some 37) (.slice (some ⟨N,O,none⟩) 8 cap)).put (some 38) (.pointer (some ⟨N,O + 5,none⟩))).put (some 39) (.int .u64 (f5:Nat))).put (some 40) (.int .i64 (f5:Nat))).put (some 41) (.slice (some ⟨N,O,none⟩) 8 cap)).put (some 42) (.pointer (some ⟨N,O + 7,none⟩))).put (some 43) (.int .u64 (f7:Nat))).put (some 44) (.int .i64 (f7:Nat))).put (some 45) (.string b)).put (some 46) (.int .i64 (E:Nat))).put (some 47) (.string da)).put (some 48) (.string da)).put (some 49) (.int .u64 (wo:Nat))).put (some 50) (.int .u32 (wo:Nat))) w1):
    (Code.region id l.toArray true).wp Tryz.prog Q A w:=by
  refine wp_region_head (by kernel_rfl) _ _ _ hB (TpsRegion b da N O cap E f1 f2 f4 f5 f7 wo A w) ⟨Off.refl _ _,(Below.refl _ _).drew,by simp,by simp,by simp,by simp,by simp,by simp,by simp,by simp,by simp,by simp,by simp,by simp,by simp,by simp,by simp,by simp,by simp,by simp,by simp,by simp,by simp,by simp,by simp,by simp,by simp,by simp⟩ ?_ ?_
  · intro s a w' S i' o il ho hsi hT K hK
    have sz:a.tmps.size=52:=by rw [S.off.2.1]; exact hs
    have y0:a.eval (.tmp 0)=.string b:=by rw [S.off.eval (by decide)]; exact x0
    have y3:a.eval (.tmp 3)=.int .i64 (E:Nat):=by rw [S.off.eval (by decide)]; exact x3
    have y4:a.eval (.tmp 4)=.slice (some ⟨N,O,none⟩) 8 cap:=by rw [S.off.eval (by decide)]; exact x4
    have y6:a.eval (.tmp 6)=.int .u64 (wo:Nat):=by rw [S.off.eval (by decide)]; exact x6
    match i',il,ho,hsi,hT with
    | 0,_,ho,hsi,hT=>
      obtain ⟨e1,e2⟩:=pick_of h0 ho
      refine step_val (v:=.slice (some ⟨N,O,none⟩) 8 cap) (by simp only [execOp,e1,y4]; go_simp) (hK _ _ ?_)
      rw [e2]
      exact ⟨ofp S.off,S.before,ev_ (by omega),kp S.t1,kp S.t2,kp S.t3,kp S.t4,kp S.t5,kp S.t6,kp S.t7,kp S.t8,kp S.t9,kp S.t10,kp S.t11,kp S.t12,kp S.t13,kp S.t14,kp S.t15,kp S.t16,kp S.t17,kp S.t18,kp S.t19,kp S.t20,kp S.t21,kp S.t22,kp S.t23,kp S.t24,kp S.t25⟩
    | 1,_,ho,hsi,hT=>
      obtain ⟨e1,e2⟩:=pick_of h1 ho
      have D0:s 0=true:=list_pos hT (d:=0) (by decide)
      refine step_val (v:=.pointer (some ⟨N,O + 1,none⟩)) (by simp only [execOp,e1,S.t0 D0]; go_simp) (hK _ _ ?_)
      rw [e2]
      exact ⟨ofp S.off,S.before,kp S.t0,ev_ (by omega),kp S.t2,kp S.t3,kp S.t4,kp S.t5,kp S.t6,kp S.t7,kp S.t8,kp S.t9,kp S.t10,kp S.t11,kp S.t12,kp S.t13,kp S.t14,kp S.t15,kp S.t16,kp S.t17,kp S.t18,kp S.t19,kp S.t20,kp S.t21,kp S.t22,kp S.t23,kp S.t24,kp S.t25⟩
    | 2,_,ho,hsi,hT=>
      obtain ⟨e1,e2⟩:=pick_of h2 ho
      have D1:s 1=true:=list_pos hT (d:=1) (by decide)
      have BW:=S.before
      have cl:=(BW.cell (p:=⟨N,O + 1,none⟩) lN).trans k1
      refine step_val (v:=.int .u64 (f1:Nat)) (by simp only [execOp,e1,S.t1 D1]; go_simp) (hK _ _ ?_)
      rw [e2]
      exact ⟨ofp S.off,S.before,kp S.t0,kp S.t1,ev_ (by omega),kp S.t3,kp S.t4,kp S.t5,kp S.t6,kp S.t7,kp S.t8,kp S.t9,kp S.t10,kp S.t11,kp S.t12,kp S.t13,kp S.t14,kp S.t15,kp S.t16,kp S.t17,kp S.t18,kp S.t19,kp S.t20,kp S.t21,kp S.t22,kp S.t23,kp S.t24,kp S.t25⟩
    | 3,_,ho,hsi,hT=>
      obtain ⟨e1,e2⟩:=pick_of h3 ho
      have D2:s 2=true:=list_pos hT (d:=2) (by decide)
      refine step_val (v:=.int .i64 (f1:Nat)) (by simp only [execOp,e1,S.t2 D2]; go_simp; rw [IntKind.wrap_i64]; omega) (hK _ _ ?_)
      rw [e2]
      exact ⟨ofp S.off,S.before,kp S.t0,kp S.t1,kp S.t2,ev_ (by omega),kp S.t4,kp S.t5,kp S.t6,kp S.t7,kp S.t8,kp S.t9,kp S.t10,kp S.t11,kp S.t12,kp S.t13,kp S.t14,kp S.t15,kp S.t16,kp S.t17,kp S.t18,kp S.t19,kp S.t20,kp S.t21,kp S.t22,kp S.t23,kp S.t24,kp S.t25⟩
    | 4,_,ho,hsi,hT=>
      obtain ⟨e1,e2⟩:=pick_of h4 ho
      refine step_val (v:=.slice (some ⟨N,O,none⟩) 8 cap) (by simp only [execOp,e1,y4]; go_simp) (hK _ _ ?_)
      rw [e2]
      exact ⟨ofp S.off,S.before,kp S.t0,kp S.t1,kp S.t2,kp S.t3,ev_ (by omega),kp S.t5,kp S.t6,kp S.t7,kp S.t8,kp S.t9,kp S.t10,kp S.t11,kp S.t12,kp S.t13,kp S.t14,kp S.t15,kp S.t16,kp S.t17,kp S.t18,kp S.t19,kp S.t20,kp S.t21,kp S.t22,kp S.t23,kp S.t24,kp S.t25⟩
    | 5,_,ho,hsi,hT=>
      obtain ⟨e1,e2⟩:=pick_of h5 ho
      have D4:s 4=true:=list_pos hT (d:=4) (by decide)
      refine step_val (v:=.pointer (some ⟨N,O + 2,none⟩)) (by simp only [execOp,e1,S.t4 D4]; go_simp) (hK _ _ ?_)
      rw [e2]
      exact ⟨ofp S.off,S.before,kp S.t0,kp S.t1,kp S.t2,kp S.t3,kp S.t4,ev_ (by omega),kp S.t6,kp S.t7,kp S.t8,kp S.t9,kp S.t10,kp S.t11,kp S.t12,kp S.t13,kp S.t14,kp S.t15,kp S.t16,kp S.t17,kp S.t18,kp S.t19,kp S.t20,kp S.t21,kp S.t22,kp S.t23,kp S.t24,kp S.t25⟩
    | 6,_,ho,hsi,hT=>
      obtain ⟨e1,e2⟩:=pick_of h6 ho
      have D5:s 5=true:=list_pos hT (d:=5) (by decide)
      have BW:=S.before
      have cl:=(BW.cell (p:=⟨N,O + 2,none⟩) lN).trans k2
      refine step_val (v:=.int .u64 (f2:Nat)) (by simp only [execOp,e1,S.t5 D5]; go_simp) (hK _ _ ?_)
      rw [e2]
      exact ⟨ofp S.off,S.before,kp S.t0,kp S.t1,kp S.t2,kp S.t3,kp S.t4,kp S.t5,ev_ (by omega),kp S.t7,kp S.t8,kp S.t9,kp S.t10,kp S.t11,kp S.t12,kp S.t13,kp S.t14,kp S.t15,kp S.t16,kp S.t17,kp S.t18,kp S.t19,kp S.t20,kp S.t21,kp S.t22,kp S.t23,kp S.t24,kp S.t25⟩
    | 7,_,ho,hsi,hT=>
      obtain ⟨e1,e2⟩:=pick_of h7 ho
      have D6:s 6=true:=list_pos hT (d:=6) (by decide)
      refine step_val (v:=.int .i64 (f2:Nat)) (by simp only [execOp,e1,S.t6 D6]; go_simp; rw [IntKind.wrap_i64]; omega) (hK _ _ ?_)
      rw [e2]
      exact ⟨ofp S.off,S.before,kp S.t0,kp S.t1,kp S.t2,kp S.t3,kp S.t4,kp S.t5,kp S.t6,ev_ (by omega),kp S.t8,kp S.t9,kp S.t10,kp S.t11,kp S.t12,kp S.t13,kp S.t14,kp S.t15,kp S.t16,kp S.t17,kp S.t18,kp S.t19,kp S.t20,kp S.t21,kp S.t22,kp S.t23,kp S.t24,kp S.t25⟩
    | 8,_,ho,hsi,hT=>
      obtain ⟨e1,e2⟩:=pick_of h8 ho
      refine step_val (v:=.slice (some ⟨N,O,none⟩) 8 cap) (by simp only [execOp,e1,y4]; go_simp) (hK _ _ ?_)
      rw [e2]
      exact ⟨ofp S.off,S.before,kp S.t0,kp S.t1,kp S.t2,kp S.t3,kp S.t4,kp S.t5,kp S.t6,kp S.t7,ev_ (by omega),kp S.t9,kp S.t10,kp S.t11,kp S.t12,kp S.t13,kp S.t14,kp S.t15,kp S.t16,kp S.t17,kp S.t18,kp S.t19,kp S.t20,kp S.t21,kp S.t22,kp S.t23,kp S.t24,kp S.t25⟩
    | 9,_,ho,hsi,hT=>
      obtain ⟨e1,e2⟩:=pick_of h9 ho
      have D8:s 8=true:=list_pos hT (d:=8) (by decide)
      refine step_val (v:=.pointer (some ⟨N,O + 4,none⟩)) (by simp only [execOp,e1,S.t8 D8]; go_simp) (hK _ _ ?_)
      rw [e2]
      exact ⟨ofp S.off,S.before,kp S.t0,kp S.t1,kp S.t2,kp S.t3,kp S.t4,kp S.t5,kp S.t6,kp S.t7,kp S.t8,ev_ (by omega),kp S.t10,kp S.t11,kp S.t12,kp S.t13,kp S.t14,kp S.t15,kp S.t16,kp S.t17,kp S.t18,kp S.t19,kp S.t20,kp S.t21,kp S.t22,kp S.t23,kp S.t24,kp S.t25⟩
    | 10,_,ho,hsi,hT=>
      obtain ⟨e1,e2⟩:=pick_of h10 ho
      have D9:s 9=true:=list_pos hT (d:=9) (by decide)
      have BW:=S.before
      have cl:=(BW.cell (p:=⟨N,O + 4,none⟩) lN).trans k4
      refine step_val (v:=.int .u64 (f4:Nat)) (by simp only [execOp,e1,S.t9 D9]; go_simp) (hK _ _ ?_)
      rw [e2]
      exact ⟨ofp S.off,S.before,kp S.t0,kp S.t1,kp S.t2,kp S.t3,kp S.t4,kp S.t5,kp S.t6,kp S.t7,kp S.t8,kp S.t9,ev_ (by omega),kp S.t11,kp S.t12,kp S.t13,kp S.t14,kp S.t15,kp S.t16,kp S.t17,kp S.t18,kp S.t19,kp S.t20,kp S.t21,kp S.t22,kp S.t23,kp S.t24,kp S.t25⟩
    | 11,_,ho,hsi,hT=>
      obtain ⟨e1,e2⟩:=pick_of h11 ho
      have D10:s 10=true:=list_pos hT (d:=10) (by decide)
      refine step_val (v:=.int .i64 (f4:Nat)) (by simp only [execOp,e1,S.t10 D10]; go_simp; rw [IntKind.wrap_i64]; omega) (hK _ _ ?_)
      rw [e2]
      exact ⟨ofp S.off,S.before,kp S.t0,kp S.t1,kp S.t2,kp S.t3,kp S.t4,kp S.t5,kp S.t6,kp S.t7,kp S.t8,kp S.t9,kp S.t10,ev_ (by omega),kp S.t12,kp S.t13,kp S.t14,kp S.t15,kp S.t16,kp S.t17,kp S.t18,kp S.t19,kp S.t20,kp S.t21,kp S.t22,kp S.t23,kp S.t24,kp S.t25⟩
    | 12,_,ho,hsi,hT=>
      obtain ⟨e1,e2⟩:=pick_of h12 ho
      refine step_val (v:=.slice (some ⟨N,O,none⟩) 8 cap) (by simp only [execOp,e1,y4]; go_simp) (hK _ _ ?_)
      rw [e2]
      exact ⟨ofp S.off,S.before,kp S.t0,kp S.t1,kp S.t2,kp S.t3,kp S.t4,kp S.t5,kp S.t6,kp S.t7,kp S.t8,kp S.t9,kp S.t10,kp S.t11,ev_ (by omega),kp S.t13,kp S.t14,kp S.t15,kp S.t16,kp S.t17,kp S.t18,kp S.t19,kp S.t20,kp S.t21,kp S.t22,kp S.t23,kp S.t24,kp S.t25⟩
    | 13,_,ho,hsi,hT=>
      obtain ⟨e1,e2⟩:=pick_of h13 ho
      have D12:s 12=true:=list_pos hT (d:=12) (by decide)
      refine step_val (v:=.pointer (some ⟨N,O + 5,none⟩)) (by simp only [execOp,e1,S.t12 D12]; go_simp) (hK _ _ ?_)
      rw [e2]
      exact ⟨ofp S.off,S.before,kp S.t0,kp S.t1,kp S.t2,kp S.t3,kp S.t4,kp S.t5,kp S.t6,kp S.t7,kp S.t8,kp S.t9,kp S.t10,kp S.t11,kp S.t12,ev_ (by omega),kp S.t14,kp S.t15,kp S.t16,kp S.t17,kp S.t18,kp S.t19,kp S.t20,kp S.t21,kp S.t22,kp S.t23,kp S.t24,kp S.t25⟩
    | 14,_,ho,hsi,hT=>
      obtain ⟨e1,e2⟩:=pick_of h14 ho
      have D13:s 13=true:=list_pos hT (d:=13) (by decide)
      have BW:=S.before
      have cl:=(BW.cell (p:=⟨N,O + 5,none⟩) lN).trans k5
      refine step_val (v:=.int .u64 (f5:Nat)) (by simp only [execOp,e1,S.t13 D13]; go_simp) (hK _ _ ?_)
      rw [e2]
      exact ⟨ofp S.off,S.before,kp S.t0,kp S.t1,kp S.t2,kp S.t3,kp S.t4,kp S.t5,kp S.t6,kp S.t7,kp S.t8,kp S.t9,kp S.t10,kp S.t11,kp S.t12,kp S.t13,ev_ (by omega),kp S.t15,kp S.t16,kp S.t17,kp S.t18,kp S.t19,kp S.t20,kp S.t21,kp S.t22,kp S.t23,kp S.t24,kp S.t25⟩
    | 15,_,ho,hsi,hT=>
      obtain ⟨e1,e2⟩:=pick_of h15 ho
      have D14:s 14=true:=list_pos hT (d:=14) (by decide)
      refine step_val (v:=.int .i64 (f5:Nat)) (by simp only [execOp,e1,S.t14 D14]; go_simp; rw [IntKind.wrap_i64]; omega) (hK _ _ ?_)
      rw [e2]
      exact ⟨ofp S.off,S.before,kp S.t0,kp S.t1,kp S.t2,kp S.t3,kp S.t4,kp S.t5,kp S.t6,kp S.t7,kp S.t8,kp S.t9,kp S.t10,kp S.t11,kp S.t12,kp S.t13,kp S.t14,ev_ (by omega),kp S.t16,kp S.t17,kp S.t18,kp S.t19,kp S.t20,kp S.t21,kp S.t22,kp S.t23,kp S.t24,kp S.t25⟩
    | 16,_,ho,hsi,hT=>
      obtain ⟨e1,e2⟩:=pick_of h16 ho
      refine step_val (v:=.slice (some ⟨N,O,none⟩) 8 cap) (by simp only [execOp,e1,y4]; go_simp) (hK _ _ ?_)
      rw [e2]
      exact ⟨ofp S.off,S.before,kp S.t0,kp S.t1,kp S.t2,kp S.t3,kp S.t4,kp S.t5,kp S.t6,kp S.t7,kp S.t8,kp S.t9,kp S.t10,kp S.t11,kp S.t12,kp S.t13,kp S.t14,kp S.t15,ev_ (by omega),kp S.t17,kp S.t18,kp S.t19,kp S.t20,kp S.t21,kp S.t22,kp S.t23,kp S.t24,kp S.t25⟩
    | 17,_,ho,hsi,hT=>
      obtain ⟨e1,e2⟩:=pick_of h17 ho
      have D16:s 16=true:=list_pos hT (d:=16) (by decide)
      refine step_val (v:=.pointer (some ⟨N,O + 7,none⟩)) (by simp only [execOp,e1,S.t16 D16]; go_simp) (hK _ _ ?_)
      rw [e2]
      exact ⟨ofp S.off,S.before,kp S.t0,kp S.t1,kp S.t2,kp S.t3,kp S.t4,kp S.t5,kp S.t6,kp S.t7,kp S.t8,kp S.t9,kp S.t10,kp S.t11,kp S.t12,kp S.t13,kp S.t14,kp S.t15,kp S.t16,ev_ (by omega),kp S.t18,kp S.t19,kp S.t20,kp S.t21,kp S.t22,kp S.t23,kp S.t24,kp S.t25⟩
    | 18,_,ho,hsi,hT=>
      obtain ⟨e1,e2⟩:=pick_of h18 ho
      have D17:s 17=true:=list_pos hT (d:=17) (by decide)
      have BW:=S.before
      have cl:=(BW.cell (p:=⟨N,O + 7,none⟩) lN).trans k7
      refine step_val (v:=.int .u64 (f7:Nat)) (by simp only [execOp,e1,S.t17 D17]; go_simp) (hK _ _ ?_)
      rw [e2]
      exact ⟨ofp S.off,S.before,kp S.t0,kp S.t1,kp S.t2,kp S.t3,kp S.t4,kp S.t5,kp S.t6,kp S.t7,kp S.t8,kp S.t9,kp S.t10,kp S.t11,kp S.t12,kp S.t13,kp S.t14,kp S.t15,kp S.t16,kp S.t17,ev_ (by omega),kp S.t19,kp S.t20,kp S.t21,kp S.t22,kp S.t23,kp S.t24,kp S.t25⟩
    | 19,_,ho,hsi,hT=>
      obtain ⟨e1,e2⟩:=pick_of h19 ho
      have D18:s 18=true:=list_pos hT (d:=18) (by decide)
      refine step_val (v:=.int .i64 (f7:Nat)) (by simp only [execOp,e1,S.t18 D18]; go_simp; rw [IntKind.wrap_i64]; omega) (hK _ _ ?_)
      rw [e2]
      exact ⟨ofp S.off,S.before,kp S.t0,kp S.t1,kp S.t2,kp S.t3,kp S.t4,kp S.t5,kp S.t6,kp S.t7,kp S.t8,kp S.t9,kp S.t10,kp S.t11,kp S.t12,kp S.t13,kp S.t14,kp S.t15,kp S.t16,kp S.t17,kp S.t18,ev_ (by omega),kp S.t20,kp S.t21,kp S.t22,kp S.t23,kp S.t24,kp S.t25⟩
    | 20,_,ho,hsi,hT=>
      obtain ⟨e1,e2⟩:=pick_of h20 ho
      refine step_val (v:=.string b) (by simp only [execOp,e1,y0]; go_simp) (hK _ _ ?_)
      rw [e2]
      exact ⟨ofp S.off,S.before,kp S.t0,kp S.t1,kp S.t2,kp S.t3,kp S.t4,kp S.t5,kp S.t6,kp S.t7,kp S.t8,kp S.t9,kp S.t10,kp S.t11,kp S.t12,kp S.t13,kp S.t14,kp S.t15,kp S.t16,kp S.t17,kp S.t18,kp S.t19,ev_ (by omega),kp S.t21,kp S.t22,kp S.t23,kp S.t24,kp S.t25⟩
    | 21,_,ho,hsi,hT=>
      obtain ⟨e1,e2⟩:=pick_of h21 ho
      refine step_val (v:=.int .i64 (E:Nat)) (by simp only [execOp,e1,y3]; go_simp) (hK _ _ ?_)
      rw [e2]
      exact ⟨ofp S.off,S.before,kp S.t0,kp S.t1,kp S.t2,kp S.t3,kp S.t4,kp S.t5,kp S.t6,kp S.t7,kp S.t8,kp S.t9,kp S.t10,kp S.t11,kp S.t12,kp S.t13,kp S.t14,kp S.t15,kp S.t16,kp S.t17,kp S.t18,kp S.t19,kp S.t20,ev_ (by omega),kp S.t22,kp S.t23,kp S.t24,kp S.t25⟩
    | 22,_,ho,hsi,hT=>
      obtain ⟨e1,e2⟩:=pick_of h22 ho
      have D20:s 20=true:=list_pos hT (d:=20) (by decide)
      have D21:s 21=true:=list_pos hT (d:=21) (by decide)
      have q46:a.tmps[46]'(by omega)=.int .i64 (E:Nat):=by have:=S.t21 D21; simpa [Act.eval,sz] using this
      refine step_val (v:=.string da) (by simp only [execOp,e1,Option.map_none,Option.map_some,S.t20 D20]; go_simp; rw [run_slice_string (P:=Tryz.prog) (w:=w') 9 b .i64 .i64 6 (E:Nat) Tryz.underlying9 (by omega) (by omega) (by omega)]; show Result.ok (Next.value (Value.string (b.extract 6 ((E:Int)).toNat))) w'=_; rw [Int.toNat_natCast,hda]) (hK _ _ ?_)
      rw [e2]
      exact ⟨ofp S.off,S.before,kp S.t0,kp S.t1,kp S.t2,kp S.t3,kp S.t4,kp S.t5,kp S.t6,kp S.t7,kp S.t8,kp S.t9,kp S.t10,kp S.t11,kp S.t12,kp S.t13,kp S.t14,kp S.t15,kp S.t16,kp S.t17,kp S.t18,kp S.t19,kp S.t20,kp S.t21,ev_ (by omega),kp S.t23,kp S.t24,kp S.t25⟩
    | 23,_,ho,hsi,hT=>
      obtain ⟨e1,e2⟩:=pick_of h23 ho
      have D22:s 22=true:=list_pos hT (d:=22) (by decide)
      have BW:=S.before
      refine step_call 53 (fun args w=>by go_simp) _ _ e1 #[.string da] (by simp only [List.map_toArray,List.map_cons,List.map_nil,S.t22 D22] <;> rfl) ((hC w').mono ?_)
      rintro e w2 ⟨rfl,BB⟩
      refine ⟨_,rfl,hK _ _ ?_⟩
      rw [e2]
      exact ⟨ofp S.off,bt BW BB,kp S.t0,kp S.t1,kp S.t2,kp S.t3,kp S.t4,kp S.t5,kp S.t6,kp S.t7,kp S.t8,kp S.t9,kp S.t10,kp S.t11,kp S.t12,kp S.t13,kp S.t14,kp S.t15,kp S.t16,kp S.t17,kp S.t18,kp S.t19,kp S.t20,kp S.t21,kp S.t22,ev_ (by omega),kp S.t24,kp S.t25⟩
    | 24,_,ho,hsi,hT=>
      obtain ⟨e1,e2⟩:=pick_of h24 ho
      refine step_val (v:=.int .u64 (wo:Nat)) (by simp only [execOp,e1,y6]; go_simp) (hK _ _ ?_)
      rw [e2]
      exact ⟨ofp S.off,S.before,kp S.t0,kp S.t1,kp S.t2,kp S.t3,kp S.t4,kp S.t5,kp S.t6,kp S.t7,kp S.t8,kp S.t9,kp S.t10,kp S.t11,kp S.t12,kp S.t13,kp S.t14,kp S.t15,kp S.t16,kp S.t17,kp S.t18,kp S.t19,kp S.t20,kp S.t21,kp S.t22,kp S.t23,ev_ (by omega),kp S.t25⟩
    | 25,_,ho,hsi,hT=>
      obtain ⟨e1,e2⟩:=pick_of h25 ho
      have D24:s 24=true:=list_pos hT (d:=24) (by decide)
      refine step_val (v:=.int .u32 (wo:Nat)) (by simp only [execOp,e1,S.t24 D24]; go_simp; rw [IntKind.wrap_u32]; omega) (hK _ _ ?_)
      rw [e2]
      exact ⟨ofp S.off,S.before,kp S.t0,kp S.t1,kp S.t2,kp S.t3,kp S.t4,kp S.t5,kp S.t6,kp S.t7,kp S.t8,kp S.t9,kp S.t10,kp S.t11,kp S.t12,kp S.t13,kp S.t14,kp S.t15,kp S.t16,kp S.t17,kp S.t18,kp S.t19,kp S.t20,kp S.t21,kp S.t22,kp S.t23,kp S.t24,ev_ (by omega)⟩
    | _ + 26,il,_,_,_=>exact absurd il (by omega)
  intro s a w' S hall
  have a0:=hall 0 (by omega)
  have a1:=hall 1 (by omega)
  have a2:=hall 2 (by omega)
  have a3:=hall 3 (by omega)
  have a4:=hall 4 (by omega)
  have a5:=hall 5 (by omega)
  have a6:=hall 6 (by omega)
  have a7:=hall 7 (by omega)
  have a8:=hall 8 (by omega)
  have a9:=hall 9 (by omega)
  have a10:=hall 10 (by omega)
  have a11:=hall 11 (by omega)
  have a12:=hall 12 (by omega)
  have a13:=hall 13 (by omega)
  have a14:=hall 14 (by omega)
  have a15:=hall 15 (by omega)
  have a16:=hall 16 (by omega)
  have a17:=hall 17 (by omega)
  have a18:=hall 18 (by omega)
  have a19:=hall 19 (by omega)
  have a20:=hall 20 (by omega)
  have a21:=hall 21 (by omega)
  have a22:=hall 22 (by omega)
  have a23:=hall 23 (by omega)
  have a24:=hall 24 (by omega)
  have a25:=hall 25 (by omega)
  have e:=off_norm _ (by intro d hd; simp at hd; omega) S.off
  simp only [List.foldl,S.t0 a0,S.t1 a1,S.t2 a2,S.t3 a3,S.t4 a4,S.t5 a5,S.t6 a6,S.t7 a7,S.t8 a8,S.t9 a9,S.t10 a10,S.t11 a11,S.t12 a12,S.t13 a13,S.t14 a14,S.t15 a15,S.t16 a16,S.t17 a17,S.t18 a18,S.t19 a19,S.t20 a20,S.t21 a21,S.t22 a22,S.t23 a23,S.t24 a24,S.t25 a25] at e
  rw [e]
  exact h _ S.before
theorem results_cell_row1 {P:Program} {fn:Func} {p:Tmp} {ty:TypeId} (h:fn.results=#[.cell p ty]) (tmps:Array Value) (w:World) (X:Nat) (cs:List Value) (d:TypeDesc)
    (hp:tmps.getD p undef=.pointer (some ⟨X,0,none⟩)) (hc:w.rangeAt X 0 cs) (hu:P.underlying ty=some d) (hd:d.isRow=true) (hi:(P.info? ty).map (·.size)=some cs.length):
    (results fn tmps).run P w=.ok (.agg cs.toArray) w:=by
  have hp':tmps[p]?.getD undef=.pointer (some ⟨X,0,none⟩):=by simpa using hp
  simp [results,h,hp',asAddr,run_loadVar_mid w X 0 ty cs d hc hu hd hi]
theorem tparsed_any (b:ByteArray) (h1:42<=b.size) (h2:b.size<=210) (w:World):Calls Tryz.prog 90 #[.string b] w fun e w'=>e=.returned (tmVal (Tm.prs b.data.toList))/\Below w.heap.size w w':=by
  have TW:=Lib.hid (fun w=>(twidths_any w).mono (R':=fun e w'=>∃ v,e=.returned v/\WdV v w'/\Below w.heap.size w w') (fun e w' ⟨B,g1,g2,g3⟩=>⟨_,g1,⟨B,rfl,g2⟩,g3⟩))
  obtain ⟨s6,h6⟩:∃ s,b.extract 0 6=s:=⟨_,rfl⟩
  have s6l:s6.size=6:=by rw [<-h6,ByteArray.size_extract]; omega
  have TU:=Lib.hid (fun v w R=>tunpack_any s6 s6l v w R)
  obtain ⟨E,hE⟩:∃ E,b.size - 4=E:=⟨_,rfl⟩
  have w4:IntKind.i64.wrap ((b.size:Int) - 4)=(E:Int):=by rw [IntKind.wrap_i64]; omega
  have w8:IntKind.i64.wrap (8 * (E:Int))=((8 * E:Nat):Int):=by rw [IntKind.wrap_i64]; omega
  obtain ⟨E8,hE8⟩:∃ E8,8 * E=E8:=⟨_,rfl⟩
  rw [hE8] at w8
  obtain ⟨da,hda⟩:∃ s,b.extract 6 E=s:=⟨_,rfl⟩
  have dal:da.size<=1000000:=by rw [<-hda,ByteArray.size_extract]; omega
  have TC:=Lib.hid (fun w=>clone_any da dal w)
  have ll:b.data.toList.length=b.size:=ls b
  have GG:=Lib.hid (fun w=>get_any b (E8:Int) 32 (by omega) w)
  have chk:Fld.chk b.size (E8:Int) 32=0:=Fld.chk_ok (by omega) (by unfold Fld.ok; omega)
  have gv:Fld.getV b.data.toList (E8:Int) 32=Tm.num b.data.toList E * 65536 + Tm.num b.data.toList (E + 2):=by
    unfold Fld.getV
    rw [ll,if_pos chk]
    have:=Tm.num32 b.data.toList E
    rw [hE8] at this
    exact this
  obtain ⟨wo,hwo⟩:∃ x,Tm.num b.data.toList E * 65536 + Tm.num b.data.toList (E + 2)=x:=⟨_,rfl⟩
  have wl:wo < 4294967296:=by
    rw [<-hwo]
    have:=Tm.num_lt b.data.toList E
    have:=Tm.num_lt b.data.toList (E + 2)
    omega
  rw [gv,chk,hwo] at GG
  obtain ⟨F,hF⟩:∃ F,Tm.flds s6.data.toList=F:=⟨_,rfl⟩
  have nbs:∀ i,i < 6->Pk.nb s6.data.toList i=Pk.nb b.data.toList i:=fun i hi=>by
    rw [<-h6,show (b.extract 0 6).data.toList=b.data.toList.take 6 by simp,Pk.nb_take hi]
  have PV:Tm.prs b.data.toList=⟨(F.getD 1 0:Nat),(F.getD 2 0:Nat),(F.getD 4 0:Nat),(F.getD 5 0:Nat),(F.getD 7 0:Nat),da,wo⟩:=by
    rw [<-hF,<-hda,<-hwo]
    unfold Tm.prs Tm.flds
    rw [ll,show b.size - 2=E + 2 by omega,hE,nbs 0 (by omega),nbs 1 (by omega),nbs 2 (by omega),nbs 3 (by omega),nbs 4 (by omega),nbs 5 (by omega)]
    congr 1
    apply ByteArray.ext
    apply Array.toList_inj.1
    rw [ext_list b 6 E (by omega)]
  have BF:∀ j,j < 8->F.getD j 0<=65535:=fun j hj=>by
    rw [<-hF]
    have c0:=Pk.nb_lt s6.data.toList 0
    have c1:=Pk.nb_lt s6.data.toList 1
    have c2:=Pk.nb_lt s6.data.toList 2
    have c3:=Pk.nb_lt s6.data.toList 3
    have c4:=Pk.nb_lt s6.data.toList 4
    have c5:=Pk.nb_lt s6.data.toList 5
    unfold Tm.flds
    match j,hj with
    | 0,_=>simp; omega
    | 1,_=>simp; omega
    | 2,_=>simp; omega
    | 3,_=>simp; omega
    | 4,_=>simp; omega
    | 5,_=>simp; omega
    | 6,_=>simp; omega
    | 7,_=>simp; omega
  rw [PV]
  clear PV gv chk hwo nbs
  have b1:=BF 1 (by omega)
  have b2:=BF 2 (by omega)
  have b4:=BF 4 (by omega)
  have b5:=BF 5 (by omega)
  have b7:=BF 7 (by omega)
  have HF:=Lib.hid hF
  obtain ⟨f1,e1⟩:∃ f,F.getD 1 0=f:=⟨_,rfl⟩
  obtain ⟨f2,e2⟩:∃ f,F.getD 2 0=f:=⟨_,rfl⟩
  obtain ⟨f4,e4⟩:∃ f,F.getD 4 0=f:=⟨_,rfl⟩
  obtain ⟨f5,e5⟩:∃ f,F.getD 5 0=f:=⟨_,rfl⟩
  obtain ⟨f7,e7⟩:∃ f,F.getD 7 0=f:=⟨_,rfl⟩
  rw [e1] at b1
  rw [e2] at b2
  rw [e4] at b4
  rw [e5] at b5
  rw [e7] at b7
  rw [e1,e2,e4,e5,e7]
  have EE:=Lib.hid (show F.getD 1 0=f1/\F.getD 2 0=f2/\F.getD 4 0=f4/\F.getD 5 0=f5/\F.getD 7 0=f7 from ⟨e1,e2,e4,e5,e7⟩)
  have HB:=Lib.hid (show 42<=b.size/\b.size<=210/\6<=E/\E<=b.size from ⟨h1,h2,by omega,by omega⟩)
  have H6:=Lib.hid h6
  have HDA:=Lib.hid hda
  have bs9:b.size<=9223372036854775807:=by omega
  clear e1 e2 e4 e5 e7 BF hF hE hE8 s6l dal ll hda h6 h1 h2
  go_enter Tryz.func90,Tryz.ntmps90
  go_upto_region 2 with ((with_reducible refine atList ?_); refine wpList_new rfl (.alloc 100) rfl (some 2) rfl #[.int .i64 0,.int .i64 0,.int .i64 0,.int .i64 0,.int .i64 0,.string ⟨#[]⟩,.int .u32 0] 100 (fun X=>.pointer (some ⟨X,0,none⟩)) 7 (tmCel tm0) (tm_cells tm0) (alloc_tm rfl) ?_; intro RB w1 HRB SRB CRB BRB)
  refine tprRegion b s6 _ (by have:=HB.out; omega) (by have:=HB.out; omega) H6.out TW.out TU.out (by kernel_rfl) rfl rfl rfl rfl rfl rfl rfl rfl rfl rfl ?_
  intro v0 v3 w2 h2 F0 F3
  obtain ⟨N,off,cap,rfl,hc,lN,cN⟩:=F3
  rw [HF.out] at cN
  have k1:=cN 1 (by omega)
  have k2:=cN 2 (by omega)
  have k4:=cN 4 (by omega)
  have k5:=cN 5 (by omega)
  have k7:=cN 7 (by omega)
  rw [EE.out.1] at k1
  rw [EE.out.2.1] at k2
  rw [EE.out.2.2.1] at k4
  rw [EE.out.2.2.2.1] at k5
  rw [EE.out.2.2.2.2] at k7
  have CR:=Lib.hid (CRB.out.below h2)
  have B2:=Lib.hid (bt BRB.out h2)
  have LRB:=Lib.hid (show w.heap.size<=RB from by have:=HRB.out; omega)
  clear F0 h2 cN
  simp only [Act.put,List.setIfInBounds_toArray,List.set_cons_succ,List.set_cons_zero,List.drop_succ_cons,List.drop_zero,tup0_mk,tup1_mk]
  go_wp2_with fail
  (with_reducible refine (GG.out _).mono ?_)
  rintro e w3 ⟨rfl,h3⟩
  have k1:=(h3.cell (p:=⟨N,off + 1,none⟩) lN).trans k1
  have k2:=(h3.cell (p:=⟨N,off + 2,none⟩) lN).trans k2
  have k4:=(h3.cell (p:=⟨N,off + 4,none⟩) lN).trans k4
  have k5:=(h3.cell (p:=⟨N,off + 5,none⟩) lN).trans k5
  have k7:=(h3.cell (p:=⟨N,off + 7,none⟩) lN).trans k7
  have lN3:=Nat.lt_of_lt_of_le lN h3.size
  have CR3:=Lib.hid (CR.out.below h3)
  have B3:=Lib.hid (bt B2.out h3)
  clear h3
  go_upto_region 4 with fail
  refine tpsRegion b da N off cap E f1 f2 f4 f5 f7 wo HB.out.2.2.1 HB.out.2.2.2 (by have:=HB.out; omega) HDA.out lN3 hc b1 b2 b4 b5 b7 wl k1 k2 k4 k5 k7 TC.out (by kernel_rfl) rfl rfl rfl rfl rfl rfl rfl rfl rfl rfl rfl rfl rfl rfl rfl rfl rfl rfl rfl rfl rfl rfl rfl rfl rfl rfl rfl rfl rfl rfl rfl ?_
  intro w4 h4
  have CR4:=Lib.hid (CR3.out.below h4)
  have B4:=Lib.hid (bt B3.out h4)
  clear h4
  simp only [Act.put,List.setIfInBounds_toArray,List.set_cons_succ,List.set_cons_zero,List.drop_succ_cons,List.drop_zero]
  go_wp2_with ((with_reducible refine atList ?_); refine wpList_setAll rfl 100 (.tmp 2) (.tmp 51) rfl RB 7 [.int .i64 (f1:Nat),.int .i64 (f2:Nat),.int .i64 (f4:Nat),.int .i64 (f5:Nat),.int .i64 (f7:Nat),.string da,.int .u32 (wo:Nat)] _ (tmCel ⟨(f1:Nat),(f2:Nat),(f4:Nat),(f5:Nat),(f7:Nat),da,wo⟩) CR4.out rfl (tm_list ⟨(f1:Nat),(f2:Nat),(f4:Nat),(f5:Nat),(f7:Nat),da,wo⟩) rfl rfl tm_info (by simp [Value.oneCell']) ?_; intro w9 C9 V9 S9)
  have RA:=C9.out.rangeAll [.int .i64 (f1:Nat),.int .i64 (f2:Nat),.int .i64 (f4:Nat),.int .i64 (f5:Nat),.int .i64 (f7:Nat),.string da,.int .u32 (wo:Nat)] rfl (tm_list ⟨(f1:Nat),(f2:Nat),(f4:Nat),(f5:Nat),(f7:Nat),da,wo⟩)
  have RR:=fun tmps hp=>results_cell_row1 (P:=Tryz.prog) Tryz.results90 tmps w9 RB [.int .i64 (f1:Nat),.int .i64 (f2:Nat),.int .i64 (f4:Nat),.int .i64 (f5:Nat),.int .i64 (f7:Nat),.string da,.int .u32 (wo:Nat)] _ hp RA Tryz.underlying100 rfl tm_info
  refine bodyPost_ret (RR _ rfl) rfl ?_
  exact ⟨rfl,But.under B4.out V9.out LRB.out⟩
theorem close_enc {l:List UInt8} (h:2<=l.length):Crc.close (l.take (l.length - 2))=l ↔ Tm.num l (l.length - 2)=(Crc.sum16 (l.take (l.length - 2))).toNat:=by
  obtain ⟨m,hm⟩:∃ m,l.take (l.length - 2)=m:=⟨_,rfl⟩
  obtain ⟨n,hn⟩:∃ n,l.length - 2=n:=⟨_,rfl⟩
  have ml:m.length=n:=by rw [<-hm,List.length_take]; omega
  have e:l=m ++ l.drop n:=by rw [<-hm,hn,List.take_append_drop]
  have dl:(l.drop n).length=2:=by rw [List.length_drop]; omega
  obtain ⟨x,y,hd⟩:∃ x y,l.drop n=[x,y]:=by
    match hq:l.drop n,dl with
    | [x,y],_=>exact ⟨x,y,rfl⟩
  have sl:=(Crc.sum16 m).isLt
  have xb:x.toNat < 256:=UInt8.toNat_lt x
  have yb:y.toNat < 256:=UInt8.toNat_lt y
  have nm:Tm.num l n=x.toNat * 256 + y.toNat:=by
    rw [e,Tm.num_app _ _ (k:=0) (by omega),hd]
    unfold Tm.num
    rw [Pk.nb_get,Pk.nb_get]
    rfl
  rw [hm,hn,nm]
  have cl:Crc.close m=m ++ [UInt8.ofNat ((Crc.sum16 m).toNat / 256),UInt8.ofNat ((Crc.sum16 m).toNat % 256)]:=rfl
  rw [cl]
  constructor
  · intro q
    rw [e,hd] at q
    have q2:=List.append_cancel_left q
    simp only [List.cons.injEq,and_true] at q2
    rw [<-q2.1,<-q2.2,UInt8.toNat_ofNat',UInt8.toNat_ofNat']
    omega
  intro q
  conv=>rhs; rw [e,hd]
  have q1:(Crc.sum16 m).toNat / 256=x.toNat:=by omega
  have q2:(Crc.sum16 m).toNat % 256=y.toNat:=by omega
  rw [q1,q2,UInt8.ofNat_toNat,UInt8.ofNat_toNat]
theorem tget_any (b:ByteArray) (hs:b.size<=1000000) (w:World):Calls Tryz.prog 51 #[.string b] w fun e w'=>e=.returned (.tuple #[tmVal (Tm.get b.data.toList).1,.int .i64 (Tm.get b.data.toList).2])/\Below w.heap.size w w':=by
  obtain ⟨N,hN⟩:∃ N,b.size=N:=⟨_,rfl⟩
  have hl:b.data.toList.length=N:=by rw [ls,hN]
  rw [hN] at hs
  obtain ⟨a12,h12⟩:∃ x:Int,(N:Int) - 6 - 4 - 2=x:=⟨_,rfl⟩
  have HSZ:=Lib.hid (fun w=>tsize_any ((N:Int) - 6 - 4 - 2) w)
  rw [h12] at HSZ
  have HN:=Lib.hid hN
  by_cases c0:N < 44\/212 < N
  · have E:=Lib.hid (show Tm.get b.data.toList=(tm0,6) by unfold Tm.get; rw [if_pos (by rw [hl]; exact c0)])
    rw [decide_eq_false (show ¬ (32<=a12/\a12<=200) by omega)] at HSZ
    have sn:=HN.out
    have Nm:N<=9223372036854775807:=by omega
    rw [<-h12] at HSZ
    clear hl c0 h12 hN hs
    go_enter Tryz.func51,Tryz.ntmps51
    go_wp2_with ((with_reducible refine atList ?_); refine wpList_new rfl (.alloc 100) rfl (some 2) rfl #[.int .i64 0,.int .i64 0,.int .i64 0,.int .i64 0,.int .i64 0,.string ⟨#[]⟩,.int .u32 0] 100 (fun X=>.pointer (some ⟨X,0,none⟩)) 7 (tmCel tm0) (tm_cells tm0) (alloc_tm rfl) ?_; intro RB w1 HRB SRB CRB BRB)
    (with_reducible refine (HSZ.out _).mono ?_)
    rintro e w2 ⟨rfl,rfl⟩
    go_wp2_with ((with_reducible refine atList ?_); (refine wpList_setAll rfl 100 (.tmp 2) (.tmp 16) rfl RB 7 [.int .i64 0,.int .i64 0,.int .i64 0,.int .i64 0,.int .i64 0,.string ⟨#[]⟩,.int .u32 0] _ (tmCel tm0) CRB.out rfl (tm_list tm0) rfl rfl tm_info (by simp [Value.oneCell']) ?_; intro w9 C9 V9 S9))
    have RA:=C9.out.rangeAll [.int .i64 0,.int .i64 0,.int .i64 0,.int .i64 0,.int .i64 0,.string ⟨#[]⟩,.int .u32 0] rfl (tm_list tm0)
    have RR:=fun tmps hp=>results_cell_t1 (P:=Tryz.prog) Tryz.results51 tmps w9 RB [.int .i64 0,.int .i64 0,.int .i64 0,.int .i64 0,.int .i64 0,.string ⟨#[]⟩,.int .u32 0] _ hp RA Tryz.underlying100 rfl tm_info
    refine bodyPost_ret (RR _ rfl) rfl ?_
    exact ⟨by rw [E.out]; rfl,But.under BRB.out V9.out (by have:=HRB.out; omega)⟩
  rw [decide_eq_true (show 32<=a12/\a12<=200 by omega),<-h12] at HSZ
  have OP:=Lib.hid (fun w=>open16_any b (by omega) w)
  have oe:Crc.openE b.data.toList=if Tm.num b.data.toList (N - 2)=(Crc.sum16 (b.data.toList.take (N - 2))).toNat then 0 else 6:=by
    have ce:=close_enc (l:=b.data.toList) (by omega)
    rw [hl] at ce
    unfold Crc.openE
    rw [hl]
    by_cases g:Tm.num b.data.toList (N - 2)=(Crc.sum16 (b.data.toList.take (N - 2))).toNat
    · rw [if_pos g,if_neg (fun q=>q.elim (by omega) (fun r=>r (ce.2 g)))]
    rw [if_neg g,if_pos (.inr (fun q=>g (ce.1 q)))]
  have Nm:N<=9223372036854775807:=by omega
  by_cases c1:Tm.num b.data.toList (N - 2)=(Crc.sum16 (b.data.toList.take (N - 2))).toNat
  · rw [if_pos c1] at oe
    have ov:Crc.openV b.data.toList=b.data.toList.take (N - 2):=by unfold Crc.openV; rw [if_pos oe,hl]
    rw [oe,ov] at OP
    have GP:=Tm.get_prs (l:=b.data.toList) (by omega) (by omega) (by rw [hl]; exact c1)
    rw [hl] at GP
    obtain ⟨y,hy⟩:∃ y:ByteArray,(⟨(b.data.toList.take (N - 2)).toArray⟩:ByteArray)=y:=⟨_,rfl⟩
    have yl:y.data.toList=b.data.toList.take (N - 2):=by rw [<-hy]
    have ys:y.size=N - 2:=by rw [<-ls,yl,List.length_take]; omega
    have PR:=Lib.hid (fun w=>tparsed_any y (by omega) (by omega) w)
    rw [hy] at OP
    rw [yl] at PR
    obtain ⟨F,hF⟩:∃ F,Tm.prs (b.data.toList.take (N - 2))=F:=⟨_,rfl⟩
    have Fw:F.wo < 4294967296:=by rw [<-hF]; exact Tm.prs_wo _
    have Fs:F.da.size<=9223372036854775807:=by
      rw [<-hF]
      show (((b.data.toList.take (N - 2)).take _).drop 6).toArray.size<=_
      rw [List.size_toArray,List.length_drop,List.length_take,List.length_take]
      omega
    rw [hF] at PR GP
    have PT:=Lib.hid (fun w=>tput_any F Fs Fw w)
    by_cases ok:Tm.Ok F
    · rw [if_pos ok] at PT
      by_cases q:Tm.enc F=b.data.toList
      · rw [if_pos ⟨ok,q⟩] at GP
        have E:=Lib.hid GP
        rw [q,bs_self] at PT
        have q1:(b == b)=true:=by show (b.data == b.data)=true; simp
        have q2:(b != b)=false:=by show (!(b == b))=false; rw [q1]; rfl
        have q3:(b.toList == b.toList)=true:=by simp
        have q4:(b.toList != b.toList)=false:=by simp
        clear hl c0 c1 h12 hs oe ov yl hy ys hF Fw Fs GP ok q
        obtain ⟨cr,ch,ma,ct,fi,da,wo⟩:=F
        unfold tmVal at PR PT
        have sn:=HN.out
        go_enter Tryz.func51,Tryz.ntmps51
        go_wp2_with ((with_reducible refine atList ?_); refine wpList_new rfl (.alloc 100) rfl (some 2) rfl #[.int .i64 0,.int .i64 0,.int .i64 0,.int .i64 0,.int .i64 0,.string ⟨#[]⟩,.int .u32 0] 100 (fun X=>.pointer (some ⟨X,0,none⟩)) 7 (tmCel tm0) (tm_cells tm0) (alloc_tm rfl) ?_; intro RB w1 HRB SRB CRB BRB)
        (with_reducible refine (HSZ.out _).mono ?_)
        rintro e w2 ⟨rfl,rfl⟩
        go_wp2_with fail
        (with_reducible refine (OP.out _).mono ?_)
        rintro e w2 ⟨rfl,h2⟩
        have C2:=Lib.hid (CRB.out.below h2)
        have B2:=Lib.hid (bt BRB.out h2)
        clear h2
        go_wp2_with fail
        (with_reducible refine (PR.out _).mono ?_)
        rintro e w3 ⟨rfl,h3⟩
        have C3:=Lib.hid (C2.out.below h3)
        have B3:=Lib.hid (bt B2.out h3)
        clear h3
        go_wp2_with (first
          | ((with_reducible refine atList ?_); refine wpList_new rfl (.alloc 100) rfl (some 6) rfl #[.int .i64 0,.int .i64 0,.int .i64 0,.int .i64 0,.int .i64 0,.string ⟨#[]⟩,.int .u32 0] 100 (fun X=>.pointer (some ⟨X,0,none⟩)) 7 (tmCel tm0) (tm_cells tm0) (alloc_tm rfl) ?_; intro RF w4 HRF SRF CRF BRF)
          | ((with_reducible refine atList ?_); refine wpList_setAll rfl 100 (.tmp 6) (.tmp 26) rfl RF 7 [.int .i64 cr,.int .i64 ch,.int .i64 ma,.int .i64 ct,.int .i64 fi,.string da,.int .u32 (wo:Nat)] _ (tmCel ⟨cr,ch,ma,ct,fi,da,wo⟩) CRF.out rfl (tm_list ⟨cr,ch,ma,ct,fi,da,wo⟩) rfl rfl tm_info (by simp [Value.oneCell']) ?_; intro w5 C5 V5 S5)
          | ((with_reducible refine atList ?_); refine wpList_getAll rfl 100 (.tmp 6) rfl RF 7 [.int .i64 cr,.int .i64 ch,.int .i64 ma,.int .i64 ct,.int .i64 fi,.string da,.int .u32 (wo:Nat)] _ _ C5.out rfl (tm_list ⟨cr,ch,ma,ct,fi,da,wo⟩) rfl Tryz.underlying100 rfl tm_info ?_))
        (with_reducible refine (PT.out _).mono ?_)
        rintro e w6 ⟨rfl,h6⟩
        have LRF:=Lib.hid (show w.heap.size<=RF/\RB < RF from by
          have:=HRF.out
          have:=HRB.out
          have:=B3.out.size
          have:=C3.out.lt
          omega)
        have B6:=Lib.hid (bt (But.under (bt B3.out BRF.out) V5.out LRF.out.1) h6)
        have C6:=Lib.hid ((((C3.out.below BRF.out).but V5.out (by have:=LRF.out.2; omega)).below h6))
        have F6:=Lib.hid (C5.out.below h6)
        clear h6
        go_wp2_with (first
          | ((with_reducible refine atList ?_); refine wpList_getAll rfl 100 (.tmp 6) rfl RF 7 [.int .i64 cr,.int .i64 ch,.int .i64 ma,.int .i64 ct,.int .i64 fi,.string da,.int .u32 (wo:Nat)] _ _ F6.out rfl (tm_list ⟨cr,ch,ma,ct,fi,da,wo⟩) rfl Tryz.underlying100 rfl tm_info ?_)
          | ((with_reducible refine atList ?_); refine wpList_setAll rfl 100 (.tmp 2) (.tmp 40) rfl RB 7 [.int .i64 cr,.int .i64 ch,.int .i64 ma,.int .i64 ct,.int .i64 fi,.string da,.int .u32 (wo:Nat)] _ (tmCel ⟨cr,ch,ma,ct,fi,da,wo⟩) C6.out rfl (tm_list ⟨cr,ch,ma,ct,fi,da,wo⟩) rfl rfl tm_info (by simp [Value.oneCell']) ?_; intro w9 C9 V9 S9))
        have RA:=C9.out.rangeAll [.int .i64 cr,.int .i64 ch,.int .i64 ma,.int .i64 ct,.int .i64 fi,.string da,.int .u32 (wo:Nat)] rfl (tm_list ⟨cr,ch,ma,ct,fi,da,wo⟩)
        have RR:=fun tmps hp=>results_cell_t1 (P:=Tryz.prog) Tryz.results51 tmps w9 RB [.int .i64 cr,.int .i64 ch,.int .i64 ma,.int .i64 ct,.int .i64 fi,.string da,.int .u32 (wo:Nat)] _ hp RA Tryz.underlying100 rfl tm_info
        refine bodyPost_ret (RR _ rfl) rfl ?_
        exact ⟨by rw [E.out]; rfl,But.under B6.out V9.out (by have:=HRB.out; omega)⟩
      rw [if_neg (fun h=>q h.2)] at GP
      have E:=Lib.hid GP
      obtain ⟨u,hu⟩:∃ u,bs (Tm.enc F)=u:=⟨_,rfl⟩
      have ne:u ≠ b:=fun h=>q (by rw [<-h,<-hu,bs_list])
      rw [hu] at PT
      have q1:=beq_no ne
      have q2:(u != b)=true:=by show (!(u == b))=true; rw [q1]; rfl
      have q3:(u.toList == b.toList)=false:=by rw [<-beq_toListBytes,q1]
      have q4:(u.toList != b.toList)=true:=by show (!(u.toList == b.toList))=true; rw [q3]; rfl
      clear hl c0 c1 h12 hs oe ov yl hy ys hF Fw Fs GP ok q hu ne
      obtain ⟨cr,ch,ma,ct,fi,da,wo⟩:=F
      unfold tmVal at PR PT
      have sn:=HN.out
      go_enter Tryz.func51,Tryz.ntmps51
      go_wp2_with ((with_reducible refine atList ?_); refine wpList_new rfl (.alloc 100) rfl (some 2) rfl #[.int .i64 0,.int .i64 0,.int .i64 0,.int .i64 0,.int .i64 0,.string ⟨#[]⟩,.int .u32 0] 100 (fun X=>.pointer (some ⟨X,0,none⟩)) 7 (tmCel tm0) (tm_cells tm0) (alloc_tm rfl) ?_; intro RB w1 HRB SRB CRB BRB)
      (with_reducible refine (HSZ.out _).mono ?_)
      rintro e w2 ⟨rfl,rfl⟩
      go_wp2_with fail
      (with_reducible refine (OP.out _).mono ?_)
      rintro e w2 ⟨rfl,h2⟩
      have C2:=Lib.hid (CRB.out.below h2)
      have B2:=Lib.hid (bt BRB.out h2)
      clear h2
      go_wp2_with fail
      (with_reducible refine (PR.out _).mono ?_)
      rintro e w3 ⟨rfl,h3⟩
      have C3:=Lib.hid (C2.out.below h3)
      have B3:=Lib.hid (bt B2.out h3)
      clear h3
      go_wp2_with (first
        | ((with_reducible refine atList ?_); refine wpList_new rfl (.alloc 100) rfl (some 6) rfl #[.int .i64 0,.int .i64 0,.int .i64 0,.int .i64 0,.int .i64 0,.string ⟨#[]⟩,.int .u32 0] 100 (fun X=>.pointer (some ⟨X,0,none⟩)) 7 (tmCel tm0) (tm_cells tm0) (alloc_tm rfl) ?_; intro RF w4 HRF SRF CRF BRF)
        | ((with_reducible refine atList ?_); refine wpList_setAll rfl 100 (.tmp 6) (.tmp 26) rfl RF 7 [.int .i64 cr,.int .i64 ch,.int .i64 ma,.int .i64 ct,.int .i64 fi,.string da,.int .u32 (wo:Nat)] _ (tmCel ⟨cr,ch,ma,ct,fi,da,wo⟩) CRF.out rfl (tm_list ⟨cr,ch,ma,ct,fi,da,wo⟩) rfl rfl tm_info (by simp [Value.oneCell']) ?_; intro w5 C5 V5 S5)
        | ((with_reducible refine atList ?_); refine wpList_getAll rfl 100 (.tmp 6) rfl RF 7 [.int .i64 cr,.int .i64 ch,.int .i64 ma,.int .i64 ct,.int .i64 fi,.string da,.int .u32 (wo:Nat)] _ _ C5.out rfl (tm_list ⟨cr,ch,ma,ct,fi,da,wo⟩) rfl Tryz.underlying100 rfl tm_info ?_))
      (with_reducible refine (PT.out _).mono ?_)
      rintro e w6 ⟨rfl,h6⟩
      have LRF:=Lib.hid (show w.heap.size<=RF/\RB < RF from by
        have:=HRF.out
        have:=HRB.out
        have:=B3.out.size
        have:=C3.out.lt
        omega)
      have B6:=Lib.hid (bt (But.under (bt B3.out BRF.out) V5.out LRF.out.1) h6)
      have C6:=Lib.hid ((((C3.out.below BRF.out).but V5.out (by have:=LRF.out.2; omega)).below h6))
      have F6:=Lib.hid (C5.out.below h6)
      clear h6
      go_wp2_with ((with_reducible refine atList ?_); (refine wpList_setAll rfl 100 (.tmp 2) (.tmp 39) rfl RB 7 [.int .i64 0,.int .i64 0,.int .i64 0,.int .i64 0,.int .i64 0,.string ⟨#[]⟩,.int .u32 0] _ (tmCel tm0) C6.out rfl (tm_list tm0) rfl rfl tm_info (by simp [Value.oneCell']) ?_; intro w9 C9 V9 S9))
      have RA:=C9.out.rangeAll [.int .i64 0,.int .i64 0,.int .i64 0,.int .i64 0,.int .i64 0,.string ⟨#[]⟩,.int .u32 0] rfl (tm_list tm0)
      have RR:=fun tmps hp=>results_cell_t1 (P:=Tryz.prog) Tryz.results51 tmps w9 RB [.int .i64 0,.int .i64 0,.int .i64 0,.int .i64 0,.int .i64 0,.string ⟨#[]⟩,.int .u32 0] _ hp RA Tryz.underlying100 rfl tm_info
      refine bodyPost_ret (RR _ rfl) rfl ?_
      exact ⟨by rw [E.out]; rfl,But.under B6.out V9.out (by have:=HRB.out; omega)⟩
    rw [if_neg ok] at PT
    rw [if_neg (fun h=>ok h.1)] at GP
    have E:=Lib.hid GP
    clear hl c0 c1 h12 hs oe ov yl hy ys hF Fw Fs GP ok
    obtain ⟨cr,ch,ma,ct,fi,da,wo⟩:=F
    unfold tmVal at PR PT
    have sn:=HN.out
    go_enter Tryz.func51,Tryz.ntmps51
    go_wp2_with ((with_reducible refine atList ?_); refine wpList_new rfl (.alloc 100) rfl (some 2) rfl #[.int .i64 0,.int .i64 0,.int .i64 0,.int .i64 0,.int .i64 0,.string ⟨#[]⟩,.int .u32 0] 100 (fun X=>.pointer (some ⟨X,0,none⟩)) 7 (tmCel tm0) (tm_cells tm0) (alloc_tm rfl) ?_; intro RB w1 HRB SRB CRB BRB)
    (with_reducible refine (HSZ.out _).mono ?_)
    rintro e w2 ⟨rfl,rfl⟩
    go_wp2_with fail
    (with_reducible refine (OP.out _).mono ?_)
    rintro e w2 ⟨rfl,h2⟩
    have C2:=Lib.hid (CRB.out.below h2)
    have B2:=Lib.hid (bt BRB.out h2)
    clear h2
    go_wp2_with fail
    (with_reducible refine (PR.out _).mono ?_)
    rintro e w3 ⟨rfl,h3⟩
    have C3:=Lib.hid (C2.out.below h3)
    have B3:=Lib.hid (bt B2.out h3)
    clear h3
    go_wp2_with (first
      | ((with_reducible refine atList ?_); refine wpList_new rfl (.alloc 100) rfl (some 6) rfl #[.int .i64 0,.int .i64 0,.int .i64 0,.int .i64 0,.int .i64 0,.string ⟨#[]⟩,.int .u32 0] 100 (fun X=>.pointer (some ⟨X,0,none⟩)) 7 (tmCel tm0) (tm_cells tm0) (alloc_tm rfl) ?_; intro RF w4 HRF SRF CRF BRF)
      | ((with_reducible refine atList ?_); refine wpList_setAll rfl 100 (.tmp 6) (.tmp 26) rfl RF 7 [.int .i64 cr,.int .i64 ch,.int .i64 ma,.int .i64 ct,.int .i64 fi,.string da,.int .u32 (wo:Nat)] _ (tmCel ⟨cr,ch,ma,ct,fi,da,wo⟩) CRF.out rfl (tm_list ⟨cr,ch,ma,ct,fi,da,wo⟩) rfl rfl tm_info (by simp [Value.oneCell']) ?_; intro w5 C5 V5 S5)
      | ((with_reducible refine atList ?_); refine wpList_getAll rfl 100 (.tmp 6) rfl RF 7 [.int .i64 cr,.int .i64 ch,.int .i64 ma,.int .i64 ct,.int .i64 fi,.string da,.int .u32 (wo:Nat)] _ _ C5.out rfl (tm_list ⟨cr,ch,ma,ct,fi,da,wo⟩) rfl Tryz.underlying100 rfl tm_info ?_))
    (with_reducible refine (PT.out _).mono ?_)
    rintro e w6 ⟨rfl,h6⟩
    have LRF:=Lib.hid (show w.heap.size<=RF/\RB < RF from by
      have:=HRF.out
      have:=HRB.out
      have:=B3.out.size
      have:=C3.out.lt
      omega)
    have B6:=Lib.hid (bt (But.under (bt B3.out BRF.out) V5.out LRF.out.1) h6)
    have C6:=Lib.hid ((((C3.out.below BRF.out).but V5.out (by have:=LRF.out.2; omega)).below h6))
    have F6:=Lib.hid (C5.out.below h6)
    clear h6
    go_wp2_with ((with_reducible refine atList ?_); (refine wpList_setAll rfl 100 (.tmp 2) (.tmp 39) rfl RB 7 [.int .i64 0,.int .i64 0,.int .i64 0,.int .i64 0,.int .i64 0,.string ⟨#[]⟩,.int .u32 0] _ (tmCel tm0) C6.out rfl (tm_list tm0) rfl rfl tm_info (by simp [Value.oneCell']) ?_; intro w9 C9 V9 S9))
    have RA:=C9.out.rangeAll [.int .i64 0,.int .i64 0,.int .i64 0,.int .i64 0,.int .i64 0,.string ⟨#[]⟩,.int .u32 0] rfl (tm_list tm0)
    have RR:=fun tmps hp=>results_cell_t1 (P:=Tryz.prog) Tryz.results51 tmps w9 RB [.int .i64 0,.int .i64 0,.int .i64 0,.int .i64 0,.int .i64 0,.string ⟨#[]⟩,.int .u32 0] _ hp RA Tryz.underlying100 rfl tm_info
    refine bodyPost_ret (RR _ rfl) rfl ?_
    exact ⟨by rw [E.out]; rfl,But.under B6.out V9.out (by have:=HRB.out; omega)⟩
  rw [if_neg c1] at oe
  have ov:Crc.openV b.data.toList=[]:=by unfold Crc.openV; rw [if_neg (by rw [oe]; omega)]
  rw [oe,ov] at OP
  have E:=Lib.hid (show Tm.get b.data.toList=(tm0,100) by
    unfold Tm.get
    rw [if_neg (by rw [hl]; exact c0),if_pos (by rw [hl]; exact c1)])
  clear hl c0 c1 h12 hs oe ov
  have sn:=HN.out
  go_enter Tryz.func51,Tryz.ntmps51
  go_wp2_with ((with_reducible refine atList ?_); refine wpList_new rfl (.alloc 100) rfl (some 2) rfl #[.int .i64 0,.int .i64 0,.int .i64 0,.int .i64 0,.int .i64 0,.string ⟨#[]⟩,.int .u32 0] 100 (fun X=>.pointer (some ⟨X,0,none⟩)) 7 (tmCel tm0) (tm_cells tm0) (alloc_tm rfl) ?_; intro RB w1 HRB SRB CRB BRB)
  (with_reducible refine (HSZ.out _).mono ?_)
  rintro e w2 ⟨rfl,rfl⟩
  go_wp2_with fail
  (with_reducible refine (OP.out _).mono ?_)
  rintro e w2 ⟨rfl,h2⟩
  have C2:=Lib.hid (CRB.out.below h2)
  have B2:=Lib.hid (bt BRB.out h2)
  clear h2
  go_wp2_with ((with_reducible refine atList ?_); (refine wpList_setAll rfl 100 (.tmp 2) (.tmp 24) rfl RB 7 [.int .i64 0,.int .i64 0,.int .i64 0,.int .i64 0,.int .i64 0,.string ⟨#[]⟩,.int .u32 0] _ (tmCel tm0) C2.out rfl (tm_list tm0) rfl rfl tm_info (by simp [Value.oneCell']) ?_; intro w9 C9 V9 S9))
  have RA:=C9.out.rangeAll [.int .i64 0,.int .i64 0,.int .i64 0,.int .i64 0,.int .i64 0,.string ⟨#[]⟩,.int .u32 0] rfl (tm_list tm0)
  have RR:=fun tmps hp=>results_cell_t1 (P:=Tryz.prog) Tryz.results51 tmps w9 RB [.int .i64 0,.int .i64 0,.int .i64 0,.int .i64 0,.int .i64 0,.string ⟨#[]⟩,.int .u32 0] _ hp RA Tryz.underlying100 rfl tm_info
  refine bodyPost_ret (RR _ rfl) rfl ?_
  exact ⟨by rw [E.out]; rfl,But.under B2.out V9.out (by have:=HRB.out; omega)⟩
end Go.Proofs.YtchfkncbemjepaaGreat
