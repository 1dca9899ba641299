/- ChChoose -/
import Derived.Test.YtchfkncbemjepaaGreatChAll
set_option linter.unusedVariables false
set_option maxRecDepth 100000
set_option maxHeartbeats 16000000
/- Layer 11, the landed program: choose: its drawn regions. -/
namespace Go.Proofs.YtchfkncbemjepaaGreat
open Go.RowKit

abbrev FB (K:Nat):Value:=.func (.func 64) #[] #[.pointer (some ⟨K,0,none⟩)]
abbrev FP:Value:=.func (.func 67) #[] #[]
abbrev FC:Value:=.func (.func 68) #[] #[]
theorem iCh:(Tryz.prog.info? 139).map (·.size)=some 1:=by kernel_rfl
theorem one_range {w:World} {b:Nat} {x:Value} (h0:w.cell? ⟨b,0,none⟩=some x):w.rangeAt b 0 [x]:=by
  intro j v hv
  match j,hv with
  | 0,hv=>cases hv; exact h0
theorem alloc_ch {ev:Operand->Value} {o:Oper} {w:World} (h:o.op=.alloc 139):(execOp ev o).run Tryz.prog w=.ok (.value (.pointer (some ⟨w.heap.size,0,none⟩))) (w.alloc (.cells #[.nilFunc] 139)):=by
  simp only [execOp,h]; go_simp
theorem box_mx {ev:Operand->Value} {o:Oper} {w:World} {x:Operand} {M:Nat} (h:o.op=.box 27 x) (hx:ev x=.pointer (some ⟨M,0,none⟩)):(execOp ev o).run Tryz.prog w=.ok (.value (.pointer (some ⟨w.heap.size,0,none⟩))) (w.alloc (.cells #[.pointer (some ⟨M,0,none⟩)] 27)):=by
  simp only [execOp,h,hx]; go_simp
section
variable {w:World} {n0 M:Nat} {x:Ch.Mx} {X:Nat->Nat} {va vb:Nat->Value}
theorem bestB (h:PM w n0 M x X va vb) (o:x.Ok) {K:Nat} (cK:w.cell? ⟨K,0,none⟩=some (.pointer (some ⟨M,0,none⟩))) {b:Nat} {v:Value} {l:List Nat} (O:Oc w b M v l) (hl:l ≠ []) (h8:l.length<=8) (hm:∀ i ∈ l,i < 8):
    Calls Tryz.prog 69 #[.agg #[FB K],v] w fun e w'=>∃ u,e=.returned u/\Oc w' w.heap.size M u (Ch.best x.back l)/\Below w.heap.size w w':=by
  obtain ⟨B,c,rfl,_,T,hc⟩:=O.open hl
  exact best_any _ _ x.back M B c l _ rfl (List.length_pos_iff.2 hl) h8 w T.lt hc (fun args w=>by go_simp) (fun w' i j hb hi hj=>cmpB_any (h.below hb) o ((hb.cell (p:=⟨K,0,none⟩) (World.block_lt_of_cell? _ _ cK)).trans cK) (hm i hi) (hm j hj))
theorem bestP (h:PM w n0 M x X va vb) {b:Nat} {v:Value} {l:List Nat} (O:Oc w b M v l) (hl:l ≠ []) (h8:l.length<=8) (hm:∀ i ∈ l,i < 8):
    Calls Tryz.prog 69 #[.agg #[FP],v] w fun e w'=>∃ u,e=.returned u/\Oc w' w.heap.size M u (Ch.best x.pr l)/\Below w.heap.size w w':=by
  obtain ⟨B,c,rfl,_,T,hc⟩:=O.open hl
  exact best_any _ _ x.pr M B c l _ rfl (List.length_pos_iff.2 hl) h8 w T.lt hc (fun args w=>by go_simp) (fun w' i j hb hi hj=>cmpP_any (h.below hb) (hm i hi) (hm j hj))
theorem bestC (h:PM w n0 M x X va vb) {b:Nat} {v:Value} {l:List Nat} (O:Oc w b M v l) (hl:l ≠ []) (h8:l.length<=8) (hm:∀ i ∈ l,i < 8):
    Calls Tryz.prog 69 #[.agg #[FC],v] w fun e w'=>∃ u,e=.returned u/\Oc w' w.heap.size M u (Ch.best x.cr l)/\Below w.heap.size w w':=by
  obtain ⟨B,c,rfl,_,T,hc⟩:=O.open hl
  exact best_any _ _ x.cr M B c l _ rfl (List.length_pos_iff.2 hl) h8 w T.lt hc (fun args w=>by go_simp) (fun w' i j hb hi hj=>cmpC_any (h.below hb) (hm i hi) (hm j hj))
structure ChRegion (G J M:Nat) (F:Value) (FA FD:Value->World->Prop) (A:Act) (w0:World) (s:Nat->Bool) (a:Act) (w:World):Prop where
  off:Off [12,13,14,15] a A
  before:Below w0.heap.size w0 w
  t0:s 0=true->a.eval (.tmp 12)=.agg #[F]
  t1:s 1=true->a.eval (.tmp 13)=.pointer (some ⟨M,0,none⟩)
  t2:s 2=true->∃ v2,a.eval (.tmp 14)=v2/\FA v2 w
  t3:s 3=true->∃ v3,a.eval (.tmp 15)=v3/\FD v3 w
theorem chRegion {id:Nat} {l:List Oper} {A:Act} {w:World} {Q:Exit->Act->World->Prop} (G J M:Nat) (F:Value) (FA FD:Value->World->Prop)
    (lG:G < w.heap.size) (lJ:J < w.heap.size) (cG:w.cell? ⟨G,0,none⟩=some F) (cK:w.cell? ⟨J,0,none⟩=some (.pointer (some ⟨M,0,none⟩)))
    (hm1:∀ {v:Value} {w1 w2:World},FA v w1->Below w1.heap.size w1 w2->FA v w2) (hm2:∀ {v:Value} {w1 w2:World},FD v w1->Below w1.heap.size w1 w2->FD v w2)
    (hA:∀ w',Below w.heap.size w w'->Calls Tryz.prog 70 #[.pointer (some ⟨M,0,none⟩)] w' fun e w2=>∃ v,e=.returned v/\FA v w2/\Below w'.heap.size w' w2)
    (hB2:∀ v w',Below w.heap.size w w'->FA v w'->Calls Tryz.prog 69 #[.agg #[F],v] w' fun e w2=>∃ u,e=.returned u/\FD u w2/\Below w'.heap.size w' w2)
    (hB:tableH l.toArray 4 (fun i=>match i with | 0=>[] | 1=>[] | 2=>[1] | 3=>[0,2] | _=>[]) (fun _=>[])=true)
    (h0:pick l 0=some (.load 139 (.tmp 3),some 12))
    (h1:pick l 1=some (.load 27 (.tmp 1),some 13))
    (h2:pick l 2=some (.call { callee:=.value (.func 70),args:=#[.tmp 13],argTypes:=#[27] },some 14))
    (h3:pick l 3=some (.call { callee:=.value (.func 69),args:=#[.tmp 12,.tmp 14],argTypes:=#[139,140] },some 15))
    (hs:A.tmps.size=59)
    (x1:A.eval (.tmp 1)=.pointer (some ⟨J,0,none⟩))
    (x3:A.eval (.tmp 3)=.pointer (some ⟨G,0,none⟩))
    (h:∀ v2 v3 w1,Below w.heap.size w w1->FA v2 w1->FD v3 w1->wpList Tryz.prog l.toArray Q (l.drop 4) ((((A.put (some 12) (.agg #[F])).put (some 13) (.pointer (some ⟨M,0,none⟩))).put (some 14) (v2)).put (some 15) (v3)) w1):
    (Code.region id l.toArray true).wp Tryz.prog Q A w:=by
  refine wp_region_head (by kernel_rfl) _ _ _ hB (ChRegion G J M F FA FD A w) ⟨Off.refl _ _,(Below.refl _ _).drew,by simp,by simp,by simp,by simp⟩ ?_ ?_
  · intro s a w' S i' o il ho hsi hT K hK
    have sz:a.tmps.size=59:=by rw [S.off.2.1]; exact hs
    have y1:a.eval (.tmp 1)=.pointer (some ⟨J,0,none⟩):=by rw [S.off.eval (by decide)]; exact x1
    have y3:a.eval (.tmp 3)=.pointer (some ⟨G,0,none⟩):=by rw [S.off.eval (by decide)]; exact x3
    match i',il,ho,hsi,hT with
    | 0,_,ho,hsi,hT=>
      obtain ⟨e1,e2⟩:=pick_of h0 ho
      have BW:=S.before
      refine wp_load_mid 139 (.tmp 3) e1 G 0 y3 [F] _ (one_range ((BW.cell (p:=⟨G,0,none⟩) lG).trans cG)) Tryz.underlying139 rfl iCh (hK _ _ ?_)
      rw [e2]
      exact ⟨ofp S.off,S.before,ev_ (by omega),kp S.t1,fun g=>(S.t2 (by simpa using g)).imp fun b hb=>⟨by rw [eval_put_ne _ _ _ _ (by decide)]; exact hb.1,hb.2⟩,fun g=>(S.t3 (by simpa using g)).imp fun b hb=>⟨by rw [eval_put_ne _ _ _ _ (by decide)]; exact hb.1,hb.2⟩⟩
    | 1,_,ho,hsi,hT=>
      obtain ⟨e1,e2⟩:=pick_of h1 ho
      have BW:=S.before
      have ck:=(BW.cell (p:=⟨J,0,none⟩) lJ).trans cK
      refine step_val (v:=.pointer (some ⟨M,0,none⟩)) (by simp only [execOp,e1,y1]; go_simp) (hK _ _ ?_)
      rw [e2]
      exact ⟨ofp S.off,S.before,kp S.t0,ev_ (by omega),fun g=>(S.t2 (by simpa using g)).imp fun b hb=>⟨by rw [eval_put_ne _ _ _ _ (by decide)]; exact hb.1,hb.2⟩,fun g=>(S.t3 (by simpa using g)).imp fun b hb=>⟨by rw [eval_put_ne _ _ _ _ (by decide)]; exact hb.1,hb.2⟩⟩
    | 2,_,ho,hsi,hT=>
      obtain ⟨e1,e2⟩:=pick_of h2 ho
      have D1:s 1=true:=list_pos hT (d:=1) (by decide)
      have BW:=S.before
      refine step_call 70 (fun args w=>by go_simp) _ _ e1 #[.pointer (some ⟨M,0,none⟩)] (by simp only [List.map_toArray,List.map_cons,List.map_nil,S.t1 D1] <;> rfl) ((hA w' BW).mono ?_)
      rintro e w2 ⟨v,rfl,FF,BB⟩
      refine ⟨_,rfl,hK _ _ ?_⟩
      rw [e2]
      exact ⟨ofp S.off,bt BW BB,kp S.t0,kp S.t1,fun _=>⟨_,(eval_put _ _ _ (by omega)).trans rfl,FF⟩,fun g=>(S.t3 (by simpa using g)).imp fun b hb=>⟨by rw [eval_put_ne _ _ _ _ (by decide)]; exact hb.1,(hm2 hb.2 BB)⟩⟩
    | 3,_,ho,hsi,hT=>
      obtain ⟨e1,e2⟩:=pick_of h3 ho
      have D0:s 0=true:=list_pos hT (d:=0) (by decide)
      have D2:s 2=true:=list_pos hT (d:=2) (by decide)
      have BW:=S.before
      obtain ⟨v2,M2,F2⟩:=S.t2 D2
      refine step_call 69 (fun args w=>by go_simp) _ _ e1 #[.agg #[F],v2] (by simp only [List.map_toArray,List.map_cons,List.map_nil,S.t0 D0,M2] <;> rfl) ((hB2 v2 w' BW F2).mono ?_)
      rintro e w2 ⟨v,rfl,FF,BB⟩
      refine ⟨_,rfl,hK _ _ ?_⟩
      rw [e2]
      exact ⟨ofp S.off,bt BW BB,kp S.t0,kp S.t1,fun g=>(S.t2 (by simpa using g)).imp fun b hb=>⟨by rw [eval_put_ne _ _ _ _ (by decide)]; exact hb.1,(hm1 hb.2 BB)⟩,fun _=>⟨_,(eval_put _ _ _ (by omega)).trans rfl,FF⟩⟩
    | _ + 4,il,_,_,_=>exact absurd il (by omega)
  intro s a w' S hall
  have a0:=hall 0 (by omega)
  have a1:=hall 1 (by omega)
  have a2:=hall 2 (by omega)
  have a3:=hall 3 (by omega)
  have e:=off_norm _ (by intro d hd; simp at hd; omega) S.off
  obtain ⟨v2,M2,F2⟩:=S.t2 a2
  obtain ⟨v3,M3,F3⟩:=S.t3 a3
  simp only [List.foldl,S.t0 a0,S.t1 a1,M2,M3] at e
  rw [e]
  exact h _ _ _ S.before F2 F3
structure ChRegion9 (B J M L c p r:Nat) (A:Act) (w0:World) (s:Nat->Bool) (a:Act) (w:World):Prop where
  off:Off [38,39,40,41,42,43,44] a A
  before:Below w0.heap.size w0 w
  t0:s 0=true->a.eval (.tmp 38)=.pointer (some ⟨M,0,none⟩)
  t1:s 1=true->a.eval (.tmp 39)=.slice (some ⟨B,0,none⟩) L c
  t2:s 2=true->a.eval (.tmp 40)=.pointer (some ⟨B,0,none⟩)
  t3:s 3=true->a.eval (.tmp 41)=.pointer (some ⟨M,p,none⟩)
  t4:s 4=true->a.eval (.tmp 42)=.pointer (some ⟨M,p,none⟩)
  t5:s 5=true->a.eval (.tmp 43)=.pointer (some ⟨M,p + 2,none⟩)
  t6:s 6=true->a.eval (.tmp 44)=.int .i64 (r:Nat)
theorem chRegion9 {id:Nat} {l:List Oper} {A:Act} {w:World} {Q:Exit->Act->World->Prop} (B J M L c p r:Nat)
    (lB:B < w.heap.size) (lJ:J < w.heap.size) (lM:M < w.heap.size) (hL:(0:Int) < (L:Int)) (cK:w.cell? ⟨J,0,none⟩=some (.pointer (some ⟨M,0,none⟩))) (cB:w.cell? ⟨B,0,none⟩=some (.pointer (some ⟨M,p,none⟩))) (cP:w.cell? ⟨M,p + 2,none⟩=some (.int .i64 (r:Nat)))
    (hB:tableH l.toArray 7 (fun i=>match i with | 0=>[] | 1=>[] | 2=>[1] | 3=>[2] | 4=>[3] | 5=>[4] | 6=>[5] | _=>[]) (fun _=>[])=true)
    (h0:pick l 0=some (.load 27 (.tmp 1),some 38))
    (h1:pick l 1=some (.move (.tmp 6),some 39))
    (h2:pick l 2=some (.indexAddr 140 (.tmp 39) (.const (.int .i64 0)),some 40))
    (h3:pick l 3=some (.load 94 (.tmp 40),some 41))
    (h4:pick l 4=some (.nilCheck (.tmp 41),some 42))
    (h5:pick l 5=some (.fieldAddr 58 (.tmp 42) 2,some 43))
    (h6:pick l 6=some (.load 3 (.tmp 43),some 44))
    (hs:A.tmps.size=59)
    (x1:A.eval (.tmp 1)=.pointer (some ⟨J,0,none⟩))
    (x6:A.eval (.tmp 6)=.slice (some ⟨B,0,none⟩) L c)
    (h:∀ w1,Below w.heap.size w w1->wpList Tryz.prog l.toArray Q (l.drop 7) (((((((A.put (some 38) (.pointer (some ⟨M,0,none⟩))).put (some 39) (.slice (some ⟨B,0,none⟩) L c)).put (some 40) (.pointer (some ⟨B,0,none⟩))).put (some 41) (.pointer (some ⟨M,p,none⟩))).put (some 42) (.pointer (some ⟨M,p,none⟩))).put (some 43) (.pointer (some ⟨M,p + 2,none⟩))).put (some 44) (.int .i64 (r:Nat))) w1):
    (Code.region id l.toArray true).wp Tryz.prog Q A w:=by
  refine wp_region_head (by kernel_rfl) _ _ _ hB (ChRegion9 B J M L c p r A w) ⟨Off.refl _ _,(Below.refl _ _).drew,by simp,by simp,by simp,by simp,by simp,by simp,by simp⟩ ?_ ?_
  · intro s a w' S i' o il ho hsi hT K hK
    have sz:a.tmps.size=59:=by rw [S.off.2.1]; exact hs
    have y1:a.eval (.tmp 1)=.pointer (some ⟨J,0,none⟩):=by rw [S.off.eval (by decide)]; exact x1
    have y6:a.eval (.tmp 6)=.slice (some ⟨B,0,none⟩) L c:=by rw [S.off.eval (by decide)]; exact x6
    match i',il,ho,hsi,hT with
    | 0,_,ho,hsi,hT=>
      obtain ⟨e1,e2⟩:=pick_of h0 ho
      have BW:=S.before
      have ck:=(BW.cell (p:=⟨J,0,none⟩) lJ).trans cK
      refine step_val (v:=.pointer (some ⟨M,0,none⟩)) (by simp only [execOp,e1,y1]; go_simp) (hK _ _ ?_)
      rw [e2]
      exact ⟨ofp S.off,S.before,ev_ (by omega),kp S.t1,kp S.t2,kp S.t3,kp S.t4,kp S.t5,kp S.t6⟩
    | 1,_,ho,hsi,hT=>
      obtain ⟨e1,e2⟩:=pick_of h1 ho
      refine step_val (v:=.slice (some ⟨B,0,none⟩) L c) (by simp only [execOp,e1,y6]; go_simp) (hK _ _ ?_)
      rw [e2]
      exact ⟨ofp S.off,S.before,kp S.t0,ev_ (by omega),kp S.t2,kp S.t3,kp S.t4,kp S.t5,kp S.t6⟩
    | 2,_,ho,hsi,hT=>
      obtain ⟨e1,e2⟩:=pick_of h2 ho
      have D1:s 1=true:=list_pos hT (d:=1) (by decide)
      refine step_val (v:=.pointer (some ⟨B,0,none⟩)) (by simp only [execOp,e1,S.t1 D1]; have hn:=hL; first | (go_simp; done) | (go_simp; omega) | (go_simp; intro h; omega)) (hK _ _ ?_)
      rw [e2]
      exact ⟨ofp S.off,S.before,kp S.t0,kp S.t1,ev_ (by omega),kp S.t3,kp S.t4,kp S.t5,kp S.t6⟩
    | 3,_,ho,hsi,hT=>
      obtain ⟨e1,e2⟩:=pick_of h3 ho
      have D2:s 2=true:=list_pos hT (d:=2) (by decide)
      have BW:=S.before
      have cb:=(BW.cell (p:=⟨B,0,none⟩) lB).trans cB
      refine step_val (v:=.pointer (some ⟨M,p,none⟩)) (by simp only [execOp,e1,S.t2 D2]; go_simp) (hK _ _ ?_)
      rw [e2]
      exact ⟨ofp S.off,S.before,kp S.t0,kp S.t1,kp S.t2,ev_ (by omega),kp S.t4,kp S.t5,kp S.t6⟩
    | 4,_,ho,hsi,hT=>
      obtain ⟨e1,e2⟩:=pick_of h4 ho
      have D3:s 3=true:=list_pos hT (d:=3) (by decide)
      refine step_val (v:=.pointer (some ⟨M,p,none⟩)) (by simp only [execOp,e1,S.t3 D3]; go_simp) (hK _ _ ?_)
      rw [e2]
      exact ⟨ofp S.off,S.before,kp S.t0,kp S.t1,kp S.t2,kp S.t3,ev_ (by omega),kp S.t5,kp S.t6⟩
    | 5,_,ho,hsi,hT=>
      obtain ⟨e1,e2⟩:=pick_of h5 ho
      have D4:s 4=true:=list_pos hT (d:=4) (by decide)
      refine step_val (v:=.pointer (some ⟨M,p + 2,none⟩)) (by simp only [execOp,e1,S.t4 D4]; go_simp) (hK _ _ ?_)
      rw [e2]
      exact ⟨ofp S.off,S.before,kp S.t0,kp S.t1,kp S.t2,kp S.t3,kp S.t4,ev_ (by omega),kp S.t6⟩
    | 6,_,ho,hsi,hT=>
      obtain ⟨e1,e2⟩:=pick_of h6 ho
      have D5:s 5=true:=list_pos hT (d:=5) (by decide)
      have BW:=S.before
      have cp:=(BW.cell (p:=⟨M,p + 2,none⟩) lM).trans cP
      refine step_val (v:=.int .i64 (r:Nat)) (by simp only [execOp,e1,S.t5 D5]; go_simp) (hK _ _ ?_)
      rw [e2]
      exact ⟨ofp S.off,S.before,kp S.t0,kp S.t1,kp S.t2,kp S.t3,kp S.t4,kp S.t5,ev_ (by omega)⟩
    | _ + 7,il,_,_,_=>exact absurd il (by omega)
  intro s a w' S hall
  have a0:=hall 0 (by omega)
  have a1:=hall 1 (by omega)
  have a2:=hall 2 (by omega)
  have a3:=hall 3 (by omega)
  have a4:=hall 4 (by omega)
  have a5:=hall 5 (by omega)
  have a6:=hall 6 (by omega)
  have e:=off_norm _ (by intro d hd; simp at hd; omega) S.off
  simp only [List.foldl,S.t0 a0,S.t1 a1,S.t2 a2,S.t3 a3,S.t4 a4,S.t5 a5,S.t6 a6] at e
  rw [e]
  exact h _ S.before
end
end Go.Proofs.YtchfkncbemjepaaGreat

/- Layer 11, the landed program: choose. -/
namespace Go.Proofs.YtchfkncbemjepaaGreat
open Go.RowKit

theorem opV_get {M:Nat} {l:List Nat} (hl:l ≠ []) {w:World} {B:Nat} (hc:∀ j i,l[j]?=some i->w.cell? ⟨B,j,none⟩=some (opV M i)):w.cell? ⟨B,0,none⟩=some (opV M (Ch.hd l)):=hc 0 _ (Ch.hd_get hl)
theorem len8 {k:Nat->Nat} {l:List Nat} (h:l.length<=8):(Ch.best k l).length<=8:=Nat.le_trans (Ch.best_len k l) h
theorem PM.apart {w:World} {n0 M:Nat} {x:Ch.Mx} {X:Nat->Nat} {va vb:Nat->Value} (h:PM w n0 M x X va vb) {g:Nat} {t:TypeId} (T:TyB w g t) (ht:t ∉ MTs):¬ SM M X va vb g:=fun hs=>by
  obtain ⟨t2,h2,T2⟩:=h.tyS hs
  exact ty_ne T2 T (fun e=>ht (e ▸ h2)) rfl
theorem choose_any {w:World} {n0 M:Nat} {x:Ch.Mx} {X:Nat->Nat} {va vb:Nat->Value} (h:PM w n0 M x X va vb) (o:x.Ok) (hn0:n0<=w.heap.size):
    Calls Tryz.prog 41 #[.pointer (some ⟨M,0,none⟩)] w fun e w'=>e=.returned (opV M x.ch)/\PM w' n0 M x.chz X va vb/\KF n0 (SM M X va vb) (SM M X va vb) w w':=by
  have HP:=Lib.hid h
  have HO:=Lib.hid o
  have HN:=Lib.hid hn0
  have HML:=Lib.hid h.ty.lt
  clear h o hn0
  go_enter Tryz.func41,Tryz.ntmps41
  go_wp2_with (first
    | ((with_reducible refine atList ?_); refine wpList_newT rfl (.box 27 (.tmp 0)) rfl (some 1) rfl #[.pointer (some ⟨M,0,none⟩)] 27 (fun X=>.pointer (some ⟨X,0,none⟩)) 1 (fun _=>.pointer (some ⟨M,0,none⟩)) (fun j hj=>by obtain rfl:j=0:=(by omega); rfl) (box_mx rfl rfl) ?_; intro K wk HK SK CK BK TK)
    | ((with_reducible refine atList ?_); refine wpList_newT rfl (.alloc 139) rfl (some 3) rfl #[.nilFunc] 139 (fun X=>.pointer (some ⟨X,0,none⟩)) 1 (fun _=>.nilFunc) (fun j hj=>by obtain rfl:j=0:=(by omega); rfl) (alloc_ch rfl) ?_; intro A3 wa3 Ha3 Sa3 Ca3 La3 Ta3)
    | ((with_reducible refine atList ?_); refine wpList_setAllT rfl 139 (.tmp 3) (.tmp 9) rfl A3 1 [FB K] _ (fun _=>FB K) Ca3.out rfl (fun j hj=>by obtain rfl:j=0:=(by omega); rfl) rfl rfl iCh (by simp [Value.oneCell']) ?_; intro wb3 Cb3 Ub3 Sb3 Vb3; have B3:=Lib.hid (But.under (bt BK.out La3.out) Ub3.out (by have:=HK.out; have:=SK.out; have:=Ha3.out; omega)); have cK3:=Lib.hid ((CK.out.below La3.out).but Ub3.out (by have:=HK.out; have:=SK.out; have:=Ha3.out; omega)); have N3:=Lib.hid (show A3 < wb3.heap.size by have:=Cb3.out.lt; exact this))
    | ((with_reducible refine atList ?_); refine wpList_newT rfl (.alloc 139) rfl (some 4) rfl #[.nilFunc] 139 (fun X=>.pointer (some ⟨X,0,none⟩)) 1 (fun _=>.nilFunc) (fun j hj=>by obtain rfl:j=0:=(by omega); rfl) (alloc_ch rfl) ?_; intro A4 wa4 Ha4 Sa4 Ca4 La4 Ta4)
    | ((with_reducible refine atList ?_); refine wpList_setAllT rfl 139 (.tmp 4) (.tmp 10) rfl A4 1 [FP] _ (fun _=>FP) Ca4.out rfl (fun j hj=>by obtain rfl:j=0:=(by omega); rfl) rfl rfl iCh (by simp [Value.oneCell']) ?_; intro wb4 Cb4 Ub4 Sb4 Vb4; have B4:=Lib.hid (But.under (bt B3.out La4.out) Ub4.out (by have:=B3.out.size; have:=Ha4.out; omega)); have cK4:=Lib.hid ((cK3.out.below La4.out).but Ub4.out (by have:=cK3.out.lt; have:=Ha4.out; omega)); have c34:=Lib.hid ((Cb3.out.below La4.out).but Ub4.out (by have:=N3.out; have:=Ha4.out; omega)); have N4:=Lib.hid (show A4 < wb4.heap.size by have:=Cb4.out.lt; exact this))
    | ((with_reducible refine atList ?_); refine wpList_newT rfl (.alloc 139) rfl (some 5) rfl #[.nilFunc] 139 (fun X=>.pointer (some ⟨X,0,none⟩)) 1 (fun _=>.nilFunc) (fun j hj=>by obtain rfl:j=0:=(by omega); rfl) (alloc_ch rfl) ?_; intro A5 wa5 Ha5 Sa5 Ca5 La5 Ta5)
    | ((with_reducible refine atList ?_); refine wpList_setAllT rfl 139 (.tmp 5) (.tmp 11) rfl A5 1 [FC] _ (fun _=>FC) Ca5.out rfl (fun j hj=>by obtain rfl:j=0:=(by omega); rfl) rfl rfl iCh (by simp [Value.oneCell']) ?_; intro wb5 Cb5 Ub5 Sb5 Vb5; have B5:=Lib.hid (But.under (bt B4.out La5.out) Ub5.out (by have:=B4.out.size; have:=Ha5.out; omega)); have cK5:=Lib.hid ((cK4.out.below La5.out).but Ub5.out (by have:=cK4.out.lt; have:=Ha5.out; omega)); have c35:=Lib.hid ((c34.out.below La5.out).but Ub5.out (by have:=c34.out.lt; have:=Ha5.out; omega)); have c45:=Lib.hid ((Cb4.out.below La5.out).but Ub5.out (by have:=N4.out; have:=Ha5.out; omega))))
  have P5:=Lib.hid (HP.out.below B5.out)
  have N5:=Lib.hid (Nat.le_trans HN.out B5.out.size)
  have T5:=Lib.hid (Vb5.out _ Ta5.out)
  refine chRegion A3 K M (FB K) (fun v w'=>Oc w' wb5.heap.size M v Ch.allC/\wb5.heap.size<=w'.heap.size) (fun v w'=>Oc w' wb5.heap.size M v x.c1) c35.out.lt cK5.out.lt (c35.out.cell (j:=0) (by omega)) (cK5.out.cell (j:=0) (by omega)) (fun h hb=>⟨h.1.below hb,Nat.le_trans h.2 hb.size⟩) (fun h hb=>h.below hb)
    (fun w' hb=>(all_any M w').mono (fun e w2 ⟨v,h1,h2,h3⟩=>⟨v,h1,⟨own_mono h2 hb.size,Nat.le_trans hb.size h3.size⟩,h3⟩))
    (fun v w' hb hO=>(bestB (P5.out.below hb) HO.out ((hb.cell (p:=⟨K,0,none⟩) cK5.out.lt).trans (cK5.out.cell (j:=0) (by omega))) hO.1 (by decide) (by decide) (fun i hi=>Ch.mem_all.1 hi)).mono (fun e w2 ⟨u,h1,h2,h3⟩=>⟨u,h1,own_mono h2 hO.2,h3⟩))
    (by kernel_rfl) rfl rfl rfl rfl rfl rfl rfl ?_
  intro v2 v3 w6 b6 _ O6
  have B6:=Lib.hid (bt B5.out b6)
  have P6:=Lib.hid (P5.out.below b6)
  have cK6:=Lib.hid (cK5.out.below b6)
  have c46:=Lib.hid (c45.out.below b6)
  have c56:=Lib.hid (Cb5.out.below b6)
  have T56:=Lib.hid (T5.out.below b6)
  have N6:=Lib.hid (Nat.le_trans N5.out b6.size)
  obtain ⟨B1,c1,hv3,_,T1,hc1⟩:=O6.open x.c1_ne
  subst hv3
  have k6:w6.cell? ⟨K,0,none⟩=some (.pointer (some ⟨M,0,none⟩)):=cK6.out.cell (j:=0) (by omega)
  have cb1:w6.cell? ⟨B1,0,none⟩=some (opV M (Ch.hd x.c1)):=opV_get x.c1_ne hc1
  obtain ⟨L1,hL1⟩:∃ L,x.c1.length=L:=⟨_,rfl⟩
  have l1:(0:Int) < (L1:Int):=by have:=List.length_pos_iff.2 x.c1_ne; omega
  have H18:=Lib.hid (show ∀ i ∈ x.c1,i < 8 from fun i hi=>x.c1_lt hi)
  have L18:=Lib.hid (show x.c1.length<=8 from len8 (by decide))
  have H8:=Lib.hid (show ∀ i ∈ x.c2,i < 8 from fun i hi=>x.c2_lt hi)
  have L8:=Lib.hid (show x.c2.length<=8 from len8 L18.out)
  have BQ:=Lib.hid (fun nq=>back_any (P6.out.below (below_drewN (Below.refl _ _) nq)) HO.out (H18.out _ (Ch.hd_mem x.c1_ne)))
  obtain ⟨b,hb⟩:∃ b,x.back (Ch.hd x.c1)=b:=⟨_,rfl⟩
  obtain ⟨q1,hq1⟩:∃ q,4 + Ch.hd x.c1 * 6=q:=⟨_,rfl⟩
  unfold opV at cb1 BQ
  rw [hq1] at cb1 BQ
  rw [hb] at BQ
  have O6':=Lib.hid (show Oc w6 wb5.heap.size M (.slice (some ⟨B1,0,none⟩) L1 c1) x.c1 by rw [<-hL1]; exact O6)
  rw [hL1]
  clear O6 hc1 T1 hq1 hL1
  simp only [Act.put,List.setIfInBounds_toArray,List.set_cons_succ,List.set_cons_zero,List.drop_succ_cons,List.drop_zero]
  by_cases hi:b=0
  · have HI:=Lib.hid (show x.idle from hb.trans hi)
    subst hi
    clear hb
    go_wp2_with fail
    go_quiet ((go_at_call 66; (with_reducible exact Calls.quiet_of (BQ.out _))))
    go_wp2_with fail
    go_ret
    refine ⟨by rw [show x.ch=7 from if_pos HI.out]; rfl,?_,KF.of_below (below_drewN B6.out _) HN.out⟩
    rw [show x.chz=x from if_pos HI.out]
    exact P6.out.below (below_drewN (Below.refl _ _) _)
  have HI:=Lib.hid (show ¬ x.idle from fun z=>hi (hb.symm.trans z))
  have p1:((b:Int) == (0:Int))=false:=by rw [beq_eq_false_iff_ne]; omega
  have p1n:(b == 0)=false:=by rw [beq_eq_false_iff_ne]; omega
  clear hb hi
  go_wp2_with fail
  go_quiet ((go_at_call 66; (with_reducible exact Calls.quiet_of (BQ.out _))))
  obtain ⟨w6d,h6d⟩:∃ z,w6.drewN nq=z:=⟨_,rfl⟩
  have d6:Below w6.heap.size w6 w6d:=by rw [<-h6d]; exact below_drewN (Below.refl _ _) _
  have B6d:=Lib.hid (bt B6.out d6)
  have P6d:=Lib.hid (P6.out.below d6)
  have cK6d:=Lib.hid (cK6.out.below d6)
  have c46d:=Lib.hid (c46.out.below d6)
  have c56d:=Lib.hid (c56.out.below d6)
  have T56d:=Lib.hid (T56.out.below d6)
  have N6d:=Lib.hid (Nat.le_trans N6.out d6.size)
  have B7:=Lib.hid (bestP P6d.out (O6'.out.below d6) x.c1_ne L18.out H18.out)
  clear d6 cb1
  rw [h6d]
  clear h6d
  go_wp2_with ((with_reducible refine atList ?_); refine wpList_getAll rfl 139 (.tmp 4) rfl A4 1 [FP] (fun _=>FP) _ (c46d.out) rfl (fun j hj=>by obtain rfl:j=0:=(by omega); rfl) rfl Tryz.underlying139 rfl iCh ?_)
  (refine B7.out.mono ?_)
  rintro e w7 ⟨v7,rfl,O7,d7⟩
  have B7':=Lib.hid (bt B6d.out d7)
  have P7:=Lib.hid (P6d.out.below d7)
  have cK7:=Lib.hid (cK6d.out.below d7)
  have c57:=Lib.hid (c56d.out.below d7)
  have T57:=Lib.hid (T56d.out.below d7)
  have N7:=Lib.hid (Nat.le_trans N6d.out d7.size)
  obtain ⟨b7,hb7⟩:∃ z,w6d.heap.size=z:=⟨_,rfl⟩
  rw [hb7] at O7
  obtain ⟨B7,c7,hv7,_,T7,hc7⟩:=O7.open x.c2_ne
  subst hv7
  obtain ⟨L7,hL7⟩:∃ L,x.c2.length=L:=⟨_,rfl⟩
  have l7:(0:Int) < (L7:Int):=by have:=List.length_pos_iff.2 x.c2_ne; omega
  have HL7:=Lib.hid hL7
  have O7':=Lib.hid (show Oc w7 b7 M (.slice (some ⟨B7,0,none⟩) L7 c7) x.c2 by rw [<-hL7]; exact O7)
  have B8:=Lib.hid (bestC P7.out O7'.out x.c2_ne L8.out H8.out)
  rw [show (Ch.best x.pr x.c1).length=L7 from hL7]
  clear d7 O7 hb7 hL7 hc7 T7
  go_wp2_with ((with_reducible refine atList ?_); refine wpList_getAll rfl 139 (.tmp 5) rfl A5 1 [FC] (fun _=>FC) _ (c57.out) rfl (fun j hj=>by obtain rfl:j=0:=(by omega); rfl) rfl Tryz.underlying139 rfl iCh ?_)
  (refine B8.out.mono ?_)
  rintro e w8 ⟨v8,rfl,O8,d8⟩
  have B8':=Lib.hid (bt B7'.out d8)
  have P8:=Lib.hid (P7.out.below d8)
  have cK8:=Lib.hid (cK7.out.below d8)
  have c58:=Lib.hid (c57.out.below d8)
  have T58:=Lib.hid (T57.out.below d8)
  have N8:=Lib.hid (Nat.le_trans N7.out d8.size)
  have O78:=Lib.hid (O7'.out.below d8)
  obtain ⟨B8r,c8,hv8,_,_,hc8⟩:=O8.open (Ch.best_ne x.c2_ne)
  subst hv8
  obtain ⟨h8,hh8⟩:∃ z,Ch.hd (Ch.best x.cr x.c2)=z:=⟨_,rfl⟩
  have h88:h8 < 8:=by rw [<-hh8]; exact H8.out _ (Ch.mem_best.1 (Ch.hd_mem (Ch.best_ne x.c2_ne))).1
  have cb8:w8.cell? ⟨B8r,0,none⟩=some (opV M h8):=by rw [<-hh8]; exact opV_get (Ch.best_ne x.c2_ne) hc8
  have cc8:w8.cell? ⟨M,4 + h8 * 6 + 4,none⟩=some (.int .i64 (x.cr h8:Nat)):=P8.out.out h88 (k:=4) (by omega)
  obtain ⟨L8r,hL8r⟩:∃ L,(Ch.best x.cr x.c2).length=L:=⟨_,rfl⟩
  have l8:(0:Int) < (L8r:Int):=by have:=List.length_pos_iff.2 (Ch.best_ne (k:=x.cr) x.c2_ne); omega
  obtain ⟨q8,hq8⟩:∃ q,4 + h8 * 6=q:=⟨_,rfl⟩
  unfold opV at cb8
  rw [hq8] at cb8 cc8
  rw [hL8r]
  clear d8 O8 hc8 hq8 hL8r
  obtain ⟨u8,hu8⟩:∃ u,x.cr h8=u:=⟨_,rfl⟩
  rw [hu8] at cc8
  by_cases z:u8=0
  · have p8:((u8:Int) == (0:Int))=true:=by rw [beq_iff_eq]; omega
    have p8n:(u8 == 0)=true:=by rw [beq_iff_eq]; exact z
    have HC:=Lib.hid (show x.cr1=rnw x (x.pr (Ch.hd x.c2)) 8 by unfold Ch.Mx.cr1; rw [hh8,if_pos (hu8.trans z)]; rfl)
    clear z hh8 hu8
    go_wp2_with fail
    have O78b:=O78.out
    rw [<-HL7.out] at O78b
    obtain ⟨B7x,c7x,hv7,_,T7,hc7⟩:=O78b.open x.c2_ne
    cases hv7
    have HH:=Lib.hid (H8.out _ (Ch.hd_mem x.c2_ne))
    have NB:=Lib.hid (P8.out.apart T7 (by decide))
    have NA:=Lib.hid (P8.out.apart T58.out (by decide))
    have TL:=Lib.hid T7.lt
    refine chRegion9 B7 K M L7 c7 (4 + Ch.hd x.c2 * 6) (x.pr (Ch.hd x.c2)) T7.lt cK8.out.lt P8.out.ty.lt l7 (cK8.out.cell (j:=0) (by omega)) (opV_get x.c2_ne hc7) (P8.out.out HH.out (k:=2) (by omega)) (by kernel_rfl) rfl rfl rfl rfl rfl rfl rfl rfl rfl rfl ?_
    intro w8b d8b
    have P8b:=Lib.hid (P8.out.below d8b)
    have B8b:=Lib.hid (bt B8'.out d8b)
    have c58b:=Lib.hid (c58.out.below d8b)
    have O8b:=Lib.hid (O78.out.below d8b)
    have RN:=Lib.hid (renew_any P8b.out (Nat.le_trans N8.out d8b.size) (x.pr (Ch.hd x.c2)))
    have S8b:=Lib.hid d8b.size
    have TLb:=Lib.hid (Nat.lt_of_lt_of_le TL.out d8b.size)
    clear O78b hc7 T7 d8b cb8 cc8
    simp only [Act.put,List.setIfInBounds_toArray,List.set_cons_succ,List.set_cons_zero,List.drop_succ_cons,List.drop_zero]
    go_wp2_with fail
    (refine RN.out.mono ?_)
    rintro e w9 ⟨⟨vv,rfl⟩,P9r,K9r⟩
    rw [<-HC.out] at P9r
    have P9':=P9r
    have K9:=Lib.hid ((KF.of_below (S:=SM M X va vb) B8b.out HN.out).trans K9r)
    have O9':=own_keep O8b.out (fun g hg hl=>K9r.rest g hl (fun hs=>NB.out (by cases hg; exact hs)))
    have c59:=Lib.hid (c58b.out.of_block (K9r.rest A5 c58b.out.lt NA.out))
    have N9:=Lib.hid (Nat.le_trans N8.out (Nat.le_trans S8b.out K9r.below.size))
    clear P9r K9r
    have O9:=Lib.hid (show Oc w9 b7 M (.slice (some ⟨B7,0,none⟩) L7 c7) x.c2 from O9')
    have PX9:=Lib.hid (show PM w9 n0 M { x with cr:=x.cr1 } X va vb from P9')
    have B10:=Lib.hid ((bestC PX9.out O9.out x.c2_ne L8.out H8.out))
    clear O9' P9'
    go_wp2_with (((with_reducible refine atList ?_); refine wpList_getAll rfl 139 (.tmp 5) rfl A5 1 [FC] (fun _=>FC) _ (c59.out) rfl (fun j hj=>by obtain rfl:j=0:=(by omega); rfl) rfl Tryz.underlying139 rfl iCh ?_))
    (refine B10.out.mono ?_)
    rintro e w10 ⟨v10,rfl,O10,b10⟩
    have P10:=Lib.hid (PX9.out.below b10)
    have K10:=Lib.hid (K9.out.trans (KF.of_below (S:=SM M X va vb) b10 N9.out))
    obtain ⟨B10',c10,hv10,_,_,hc10⟩:=O10.open (Ch.best_ne x.c2_ne)
    subst hv10
    have cb10:w10.cell? ⟨B10',0,none⟩=some (opV M x.pick):=opV_get (Ch.best_ne x.c2_ne) hc10
    obtain ⟨L10,hL10⟩:∃ L,(Ch.best x.cr1 x.c2).length=L:=⟨_,rfl⟩
    have l10:(0:Int) < (L10:Int):=by have:=List.length_pos_iff.2 (Ch.best_ne (k:=x.cr1) x.c2_ne); omega
    have cc10:w10.cell? ⟨M,4 + x.pick * 6 + 4,none⟩=some (.int .i64 (x.cr1 x.pick:Nat)):=P10.out.out x.pick_lt (k:=4) (by omega)
    have e1:IntKind.i64.wrap ((x.cr1 x.pick:Int) - 1)=((x.cr1 x.pick - 1:Nat):Int):=by
      have:=HO.out.credit
      have:=HO.out.cr1 x.pick_lt
      rw [IntKind.wrap_i64]; omega
    have MC:=Lib.hid (mC_cr M { x with cr:=x.cr1 } X x.pick (x.cr1 x.pick - 1))
    have QC:=Lib.hid (show 4 + x.pick * 6 + 4 < 52 by have:=x.pick_lt; omega)
    have HCH:=Lib.hid (show x.ch=x.pick from if_neg HI.out)
    have HCZ:=Lib.hid (show x.chz={ x with cr:=Ch.upd x.cr1 x.pick (x.cr1 x.pick - 1) } from if_neg HI.out)
    obtain ⟨y,hy⟩:∃ y,x.cr1 x.pick - 1=y:=⟨_,rfl⟩
    rw [hy] at e1 MC HCZ
    obtain ⟨z,hz⟩:∃ z,x.cr1 x.pick=z:=⟨_,rfl⟩
    rw [hz] at e1 cc10
    obtain ⟨q,hq⟩:∃ q,4 + x.pick * 6=q:=⟨_,rfl⟩
    unfold opV at cb10
    rw [hq] at cb10 cc10 MC QC
    have HQ:=Lib.hid hq
    clear hy hz hq O10 hc10 b10
    rw [hL10]
    go_wp2_with (((with_reducible refine atList ?_); refine wpList_setT rfl (.store 3 (.tmp 57) (.tmp 55)) rfl M (q + 4) 52 (.int .i64 (y:Nat)) _ _ P10.out.c QC.out MC.out (store_int rfl rfl rfl (P10.out.c.cell QC.out) (P10.out.c.frozen QC.out)) ?_; intro w11 C11 U11 S11 V11))
    go_ret
    refine ⟨by rw [HCH.out]; unfold opV; rw [HQ.out]; rfl,?_,K10.out.trans (P10.out.kfM U11.out)⟩
    rw [HCZ.out]
    exact P10.out.setM (x':={ x with cr:=Ch.upd x.cr1 x.pick y }) U11.out C11.out (V11.out _ P10.out.ty) rfl rfl
  have p8:((u8:Int) == (0:Int))=false:=by rw [beq_eq_false_iff_ne]; omega
  have p8n:(u8 == 0)=false:=by rw [beq_eq_false_iff_ne]; exact z
  have HC:=Lib.hid (show x.cr1=x.cr by unfold Ch.Mx.cr1; rw [hh8,if_neg (fun q=>z (hu8.symm.trans q))])
  have P9':PM w8 n0 M { x with cr:=x.cr1 } X va vb:=by rw [HC.out]; exact P8.out
  have K9:=Lib.hid (KF.of_below (S:=SM M X va vb) B8'.out HN.out)
  have O9':=O78.out
  have c59:=Lib.hid c58.out
  have N9:=Lib.hid N8.out
  clear z hh8 hu8
  have O9:=Lib.hid (show Oc w8 b7 M (.slice (some ⟨B7,0,none⟩) L7 c7) x.c2 from O9')
  have PX9:=Lib.hid (show PM w8 n0 M { x with cr:=x.cr1 } X va vb from P9')
  have B10:=Lib.hid ((bestC PX9.out O9.out x.c2_ne L8.out H8.out))
  clear O9' P9'
  go_wp2_with (((with_reducible refine atList ?_); refine wpList_getAll rfl 139 (.tmp 5) rfl A5 1 [FC] (fun _=>FC) _ (c59.out) rfl (fun j hj=>by obtain rfl:j=0:=(by omega); rfl) rfl Tryz.underlying139 rfl iCh ?_))
  (refine B10.out.mono ?_)
  rintro e w10 ⟨v10,rfl,O10,b10⟩
  have P10:=Lib.hid (PX9.out.below b10)
  have K10:=Lib.hid (K9.out.trans (KF.of_below (S:=SM M X va vb) b10 N9.out))
  obtain ⟨B10',c10,hv10,_,_,hc10⟩:=O10.open (Ch.best_ne x.c2_ne)
  subst hv10
  have cb10:w10.cell? ⟨B10',0,none⟩=some (opV M x.pick):=opV_get (Ch.best_ne x.c2_ne) hc10
  obtain ⟨L10,hL10⟩:∃ L,(Ch.best x.cr1 x.c2).length=L:=⟨_,rfl⟩
  have l10:(0:Int) < (L10:Int):=by have:=List.length_pos_iff.2 (Ch.best_ne (k:=x.cr1) x.c2_ne); omega
  have cc10:w10.cell? ⟨M,4 + x.pick * 6 + 4,none⟩=some (.int .i64 (x.cr1 x.pick:Nat)):=P10.out.out x.pick_lt (k:=4) (by omega)
  have e1:IntKind.i64.wrap ((x.cr1 x.pick:Int) - 1)=((x.cr1 x.pick - 1:Nat):Int):=by
    have:=HO.out.credit
    have:=HO.out.cr1 x.pick_lt
    rw [IntKind.wrap_i64]; omega
  have MC:=Lib.hid (mC_cr M { x with cr:=x.cr1 } X x.pick (x.cr1 x.pick - 1))
  have QC:=Lib.hid (show 4 + x.pick * 6 + 4 < 52 by have:=x.pick_lt; omega)
  have HCH:=Lib.hid (show x.ch=x.pick from if_neg HI.out)
  have HCZ:=Lib.hid (show x.chz={ x with cr:=Ch.upd x.cr1 x.pick (x.cr1 x.pick - 1) } from if_neg HI.out)
  obtain ⟨y,hy⟩:∃ y,x.cr1 x.pick - 1=y:=⟨_,rfl⟩
  rw [hy] at e1 MC HCZ
  obtain ⟨z,hz⟩:∃ z,x.cr1 x.pick=z:=⟨_,rfl⟩
  rw [hz] at e1 cc10
  obtain ⟨q,hq⟩:∃ q,4 + x.pick * 6=q:=⟨_,rfl⟩
  unfold opV at cb10
  rw [hq] at cb10 cc10 MC QC
  have HQ:=Lib.hid hq
  clear hy hz hq O10 hc10 b10
  rw [hL10]
  go_wp2_with (((with_reducible refine atList ?_); refine wpList_setT rfl (.store 3 (.tmp 57) (.tmp 55)) rfl M (q + 4) 52 (.int .i64 (y:Nat)) _ _ P10.out.c QC.out MC.out (store_int rfl rfl rfl (P10.out.c.cell QC.out) (P10.out.c.frozen QC.out)) ?_; intro w11 C11 U11 S11 V11))
  go_ret
  refine ⟨by rw [HCH.out]; unfold opV; rw [HQ.out]; rfl,?_,K10.out.trans (P10.out.kfM U11.out)⟩
  rw [HCZ.out]
  exact P10.out.setM (x':={ x with cr:=Ch.upd x.cr1 x.pick y }) U11.out C11.out (V11.out _ P10.out.ty) rfl rfl
end Go.Proofs.YtchfkncbemjepaaGreat
