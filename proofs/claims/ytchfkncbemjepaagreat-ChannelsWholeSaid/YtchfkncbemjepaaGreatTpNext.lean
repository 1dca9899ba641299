/- TpNext -/
import Derived.RangeFuncNested
import Derived.RangeFuncBound
import Derived.RangeFuncCalls
import Derived.RangeFuncLeaves
import Derived.Shelf.Abstract
import Derived.Shelf.RegionOpen
import Derived.WalkKit
import Derived.OwnWalkIn
import Derived.TacticsInMore
import Derived.LoopNIn
import Derived.LoopIn
import Derived.Maps.AppendAt
import Derived.Lib.Hide
import Derived.Lib.SliceRun
import Derived.OwnWalk
import Derived.Test.YtchfkncbemjepaaGreatTpAdd2
set_option linter.unusedVariables false
set_option maxRecDepth 100000
set_option maxHeartbeats 8000000
/- Layer 10, the landed program: places, an iterator over the places at which packets begin; Collect of them. -/
namespace Go.Proofs.YtchfkncbemjepaaGreat
open Go.RowKit Go.Shelf
attribute [local go_sem] Oper.semAt_some

theorem places_in (F:Fence) (n:Nat) (hF:F.fn 104) (hro:F.round=none) (X:Nat) (fr to':Int) (w:World):
    CallsIn F n Tryz.prog 104 #[.pointer (some ⟨X,0,none⟩),.int .i64 fr,.int .i64 to'] w fun e w'=>e=.returned (.func (.func 127) #[] #[.pointer (some ⟨w.heap.size,0,none⟩),.pointer (some ⟨w.heap.size + 1,0,none⟩),.pointer (some ⟨w.heap.size + 1 + 1,0,none⟩)]) ∧
      w'=((w.alloc (.cells #[.pointer (some ⟨X,0,none⟩)] 177)).alloc (.cells #[.int .i64 fr] 3)).alloc (.cells #[.int .i64 to'] 3):=by
  refine callsIn_of_wp Tryz.func104 rfl hF ?_ hro
  simp only [Tryz.ntmps104,List.size_toArray,List.length_cons,List.length_nil,Nat.reduceAdd,Nat.reduceSub,Array.replicate_succ,Array.replicate_zero,List.push_toArray,List.append_toArray,List.nil_append,List.cons_append]
  gi_wp2
  go_ret
  exact ⟨rfl,rfl⟩
theorem cutG_snoc (G:List Nat) (fr to' k g:Nat) (h:G[k]?=some g):Tm.cutG (G.take (k + 1)) fr to'=Tm.cutG (G.take k) fr to' ++ (if fr<=g/\g < to' then [g - fr] else []):=by
  unfold Tm.cutG
  rw [List.take_add_one,h]
  simp only [Option.toList_some,List.filter_append,List.map_append]
  congr 1
  by_cases q:fr<=g/\g < to'
  · rw [if_pos q]
    simp [q.1,q.2]
  rw [if_neg q]
  by_cases q1:fr<=g
  · have q2:¬ g < to':=fun z=>q ⟨q1,z⟩
    simp [q1,q2]
  simp [q1]
theorem cutG_len (G:List Nat) (fr to':Nat):(Tm.cutG G fr to').length<=G.length:=by
  unfold Tm.cutG
  rw [List.length_map]
  exact List.length_filter_le _ _
def Gs (w:World) (n1:Nat) (v:Value) (G:List Nat):Prop:=∃ ao c,v=.slice ao G.length c/\G.length<=c/\c<=maxLen/\(G=[]\/∃ g o,ao=some ⟨g,o,none⟩/\g < n1/\g < w.heap.size/\∀ j u,G[j]?=some u->w.cell? ⟨g,o + j,none⟩=some (.int .i64 (u:Nat)))
theorem Gs.below {w w':World} {n1:Nat} {v:Value} {G:List Nat} (h:Gs w n1 v G) (hb:Below n1 w w'):Gs w' n1 v G:=by
  obtain ⟨ao,c,e,h1,h2,h3⟩:=h
  refine ⟨ao,c,e,h1,h2,h3.imp id ?_⟩
  rintro ⟨g,o,e2,h4,h5,h6⟩
  exact ⟨g,o,e2,h4,Nat.lt_of_lt_of_le h5 hb.size,fun j u hu=>(hb.cell (p:=⟨g,o + j,none⟩) h4).trans (h6 j u hu)⟩
theorem places1_in (F:Fence) (n:Nat) (hF:F.fn 127) (hro:F.round=none) (hn:1<=n) (l n1 B0 B1 B2 X fr to':Nat) (v:Value) (G:List Nat) (hG:G.length<=1000000) (hGb:∀ g ∈ G,g<=1000000) (hfr:fr<=1000000) (hto:to'<=1000000)
    (l0:B0 < n1) (l1:B1 < n1) (l2:B2 < n1) (lX:X < n1) (J Jx:List Nat->World->Prop)
    (hY:∀ pre x W,J pre W->pre.length < G.length->YieldAt F (n - 1) Tryz.prog l #[.int .i64 (x:Nat)] W fun e W'=>
      (e=.returned (.bool true)/\J (pre ++ [x]) W'/\Below n1 W W')\/(e=.returned (.bool false)/\Jx (pre ++ [x]) W'))
    (W:World) (b0:W.cell? ⟨B0,0,none⟩=some (.pointer (some ⟨X,0,none⟩))) (b1:W.cell? ⟨B1,0,none⟩=some (.int .i64 (fr:Nat))) (b2:W.cell? ⟨B2,0,none⟩=some (.int .i64 (to':Nat))) (cX:W.cell? ⟨X,1,none⟩=some v) (hg:Gs W n1 v G) (h0:J [] W):
    CallsIn F n Tryz.prog 127 #[.func (.yield l) #[] #[],.pointer (some ⟨B0,0,none⟩),.pointer (some ⟨B1,0,none⟩),.pointer (some ⟨B2,0,none⟩)] W fun e W'=>(∃ v,e=.returned v) ∧
      ((∃ ys,ys=Tm.cutG G fr to'/\J ys W')\/(∃ pre,(∃ rest,Tm.cutG G fr to'=pre ++ rest)/\Jx pre W')):=by
  obtain ⟨ao,c,rfl,hc1,hc2,hr⟩:=hg
  obtain ⟨m,hm⟩:∃ m,G.length=m:=⟨_,rfl⟩
  rw [hm] at cX hc1 hG hY
  have HM:=Lib.hid hm
  have HR:=Lib.hid (show ∀ k g,G[k]?=some g->∃ gb o,ao=some ⟨gb,o,none⟩/\gb < n1/\W.cell? ⟨gb,o + k,none⟩=some (.int .i64 (g:Nat)) from fun k g hk=>by
    rcases hr with e | ⟨gb,o,e,q1,q2,q3⟩
    · rw [e] at hk
      cases hk
    exact ⟨gb,o,e,q1,q3 k g hk⟩)
  have HY:=Lib.hid hY
  have HGB:=Lib.hid hGb
  have SN:=Lib.hid (fun k g h=>cutG_snoc G fr to' k g h)
  have CL:=Lib.hid (fun k=>cutG_len (G.take k) fr to')
  have EN:=Lib.hid (show Tm.cutG (G.take m) fr to'=Tm.cutG G fr to' by rw [<-hm,List.take_length])
  have PRE:=Lib.hid (show ∀ k,∃ rest,Tm.cutG G fr to'=Tm.cutG (G.take k) fr to' ++ rest from fun k=>⟨Tm.cutG (G.drop k) fr to',by
    unfold Tm.cutG
    rw [<-List.map_append,<-List.filter_append,List.take_append_drop]⟩)
  have B1':=Lib.hid b1
  have B2':=Lib.hid b2
  clear hr hY hGb hm
  refine callsIn_of_wp Tryz.func127 rfl hF ?_ hro
  simp only [Tryz.ntmps127,List.size_toArray,List.length_cons,List.length_nil,Nat.reduceAdd,Nat.reduceSub,Array.replicate_succ,Array.replicate_zero,List.push_toArray,List.append_toArray,List.nil_append,List.cons_append]
  gi_wp2
  clear b0 b1 b2 cX
  gi_loopw [12] (fun x wr=>∃ k:Nat,k<=m/\x=.int .i64 (k:Nat)/\J (Tm.cutG (G.take k) fr to') wr/\Below n1 W wr) (fun x _=>m - (intOf x).toNat)
  case atStart=>exact ⟨0,Nat.zero_le _,rfl,by rw [List.take_zero]; exact h0,Below.refl _ _⟩
  case round=>
    obtain ⟨k,hk,rfl,hJ,hB⟩:=hrel
    by_cases hlt:k < m
    · obtain ⟨g,hg⟩:∃ g,G[k]?=some g:=⟨G[k]'(by have:=HM.out; omega),List.getElem?_eq_getElem (by have:=HM.out; omega)⟩
      obtain ⟨gb,o,rfl,lg,cg⟩:=HR.out k g hg
      have cg:=(hB.cell (p:=⟨gb,o + k,none⟩) lg).trans cg
      have c1:=(hB.cell (p:=⟨B1,0,none⟩) l1).trans B1'.out
      have c2:=(hB.cell (p:=⟨B2,0,none⟩) l2).trans B2'.out
      have gm:g<=1000000:=HGB.out g (List.mem_of_getElem? hg)
      have k1:(k:Int) < (m:Int):=by omega
      have sn:=SN.out k g hg
      have cl:=CL.out k
      rw [List.length_take] at cl
      have HJ:=Lib.hid hJ
      have HB:=Lib.hid hB
      clear hJ hB hg
      by_cases q1:fr<=g
      · have t1:decide ((fr:Int)<=(g:Int))=true:=decide_eq_true (by omega)
        have t1n:decide (fr<=g)=true:=decide_eq_true q1
        by_cases q2:g < to'
        · have t2:decide ((g:Int) < (to':Int))=true:=decide_eq_true (by omega)
          have t2n:decide (g < to')=true:=decide_eq_true q2
          obtain ⟨x,hx⟩:∃ x,g - fr=x:=⟨_,rfl⟩
          have s1:IntKind.i64.wrap ((g:Int) - (fr:Int))=(x:Int):=by rw [IntKind.wrap_i64]; omega
          have s2:(g:Int) - (fr:Int)=(x:Int):=by omega
          rw [if_pos ⟨q1,q2⟩,hx] at sn
          obtain ⟨fn,tmps,assign,body,hy,hR⟩:=HY.out _ x wr HJ.out (by omega)
          rw [<-sn] at hR
          clear sn cl hx HJ q1 q2
          gi_wp2
          refine hR.mono ?_
          rintro e W3 (⟨rfl,hJ3,hk3⟩ | ⟨rfl,hJx3⟩)
          · have HJ3:=Lib.hid hJ3
            have HB3:=Lib.hid (HB.out.trans hk3)
            clear hk3 hJ3
            gi_wp2
            go_roundw
            case rel=>exact ⟨k + 1,by omega,by go_num,HJ3.out,HB3.out⟩
            case measure=>simp [intOf]; omega
          gi_wp2
          refine bodyPost_ret (results_none rfl _ _ _) rfl ?_
          exact ⟨⟨_,rfl⟩,.inr ⟨_,PRE.out (k + 1),hJx3⟩⟩
        have t2:decide ((g:Int) < (to':Int))=false:=decide_eq_false (by omega)
        have t2n:decide (g < to')=false:=decide_eq_false q2
        rw [if_neg (fun z=>q2 z.2),List.append_nil] at sn
        have HS:=Lib.hid sn
        clear sn cl q1 q2
        gi_wp2
        refine ⟨fun _ h=>(by cases h),?_⟩
        gi_wp2
        go_roundw
        case rel=>exact ⟨k + 1,by omega,by go_num,by rw [HS.out]; exact HJ.out,HB.out⟩
        case measure=>simp [intOf]; omega
      have t1:decide ((fr:Int)<=(g:Int))=false:=decide_eq_false (by omega)
      have t1n:decide (fr<=g)=false:=decide_eq_false q1
      rw [if_neg (fun z=>q1 z.1),List.append_nil] at sn
      have HS:=Lib.hid sn
      clear sn cl q1
      gi_wp2
      refine ⟨fun _ h=>(by cases h),?_⟩
      gi_wp2
      go_roundw
      case rel=>exact ⟨k + 1,by omega,by go_num,by rw [HS.out]; exact HJ.out,HB.out⟩
      case measure=>simp [intOf]; omega
    obtain rfl:k=m:=by omega
    have HJ:=Lib.hid (show J (Tm.cutG G fr to') wr by rw [<-EN.out]; exact hJ)
    clear hJ
    gi_wp2
    go_end0
    exact ⟨⟨_,rfl⟩,.inl ⟨_,rfl,HJ.out⟩⟩
theorem places_stops (F:Fence) (n:Nat) (hF:F.fn 127) (hro:F.round=none) (hn:1<=n) (n1 B0 B1 B2 X fr to':Nat) (v:Value) (G:List Nat) (hG:G.length<=1000000) (hGb:∀ g ∈ G,g<=1000000) (hfr:fr<=1000000) (hto:to'<=1000000)
    (l0:B0 < n1) (l1:B1 < n1) (l2:B2 < n1) (lX:X < n1) (w:World) (hn1:n1<=w.heap.size) (b0:w.cell? ⟨B0,0,none⟩=some (.pointer (some ⟨X,0,none⟩))) (b1:w.cell? ⟨B1,0,none⟩=some (.int .i64 (fr:Nat))) (b2:w.cell? ⟨B2,0,none⟩=some (.int .i64 (to':Nat))) (cX:w.cell? ⟨X,1,none⟩=some v) (hg:Gs w n1 v G):
    SeqStopsK F n Tryz.prog 127 #[.pointer (some ⟨B0,0,none⟩),.pointer (some ⟨B1,0,none⟩),.pointer (some ⟨B2,0,none⟩)] (fun x:Nat=>#[Value.int .i64 (x:Nat)]) (Below n1)
      (fun ys=>ys=Tm.cutG G fr to') (fun pre=>∃ rest,Tm.cutG G fr to'=pre ++ rest) G.length w:=fun l J Jx W hW _ _ hY h0=>by
  have hb:=hW.mono hn1
  exact places1_in F n hF hro hn l n1 B0 B1 B2 X fr to' v G hG hGb hfr hto l0 l1 l2 lX J Jx hY W ((hb.cell (p:=⟨B0,0,none⟩) l0).trans b0) ((hb.cell (p:=⟨B1,0,none⟩) l1).trans b1) ((hb.cell (p:=⟨B2,0,none⟩) l2).trans b2) ((hb.cell (p:=⟨X,1,none⟩) lX).trans cX) (hg.below hb) h0
end Go.Proofs.YtchfkncbemjepaaGreat
/- Layer 10, the landed program: slices.Collect of the places behind a field. -/
namespace Go.Proofs.YtchfkncbemjepaaGreat
open Go.RowKit Go.Shelf
attribute [local go_sem] Oper.semAt_some

theorem appendSeq_in (n:Nat) (hn:3<=n) (B0 B1 B2 X fr to':Nat) (v:Value) (G:List Nat) (hG:G.length<=1000000) (hGb:∀ g ∈ G,g<=1000000) (hfr:fr<=1000000) (hto:to'<=1000000) (w:World)
    (l0:B0 < w.heap.size) (l1:B1 < w.heap.size) (l2:B2 < w.heap.size) (lX:X < w.heap.size) (b0:w.cell? ⟨B0,0,none⟩=some (.pointer (some ⟨X,0,none⟩))) (b1:w.cell? ⟨B1,0,none⟩=some (.int .i64 (fr:Nat))) (b2:w.cell? ⟨B2,0,none⟩=some (.int .i64 (to':Nat))) (cX:w.cell? ⟨X,1,none⟩=some v) (hg:Gs w w.heap.size v G):
    CallsIn Fence.wide n Tryz.prog 128 #[.slice none 0 0,.func (.func 127) #[] #[.pointer (some ⟨B0,0,none⟩),.pointer (some ⟨B1,0,none⟩),.pointer (some ⟨B2,0,none⟩)]] w fun e W'=>
      ∃ u,e=.returned u/\W'.ownsRow w.heap.size 3 1 u (Tm.cutG G fr to').length (gcs (Tm.cutG G fr to'))/\Below w.heap.size w W':=by
  have h1:1<=n:=by omega
  obtain ⟨i0,hi,hz0,hz1,hz2⟩:=info_parts info_int
  refine callsIn_of_wp_marks Tryz.func128 rfl trivial ?_ rfl
  simp only [Tryz.ntmps128,List.size_toArray,List.length_cons,List.length_nil,Nat.reduceAdd,Nat.reduceSub,Array.replicate_succ,Array.replicate_zero,List.push_toArray,List.append_toArray,List.nil_append,List.cons_append]
  gi_wp2
  have bO:=Boxed.new w 72 (.slice none 0 0)
  have hA:Below w.heap.size w (w.alloc (.cells #[.slice none 0 0] 72)):=(Below.refl _ w).alloc (Nat.le_refl _) _
  have hB0:Below w.heap.size w (w.alloc (.cells #[.slice none 0 0] 72)):=hA
  refine wpIn_rangeFunc_ownF (F:=Fence.wide) Fence.wide_round h1 (gf:=127) (lb:=#[.pointer (some ⟨B0,0,none⟩),.pointer (some ⟨B1,0,none⟩),.pointer (some ⟨B2,0,none⟩)]) rfl trivial (enters_of Tryz.func127 (by kernel_rfl) rfl)
    (places_stops Fence.wide (n - 1) trivial rfl (by omega) w.heap.size B0 B1 B2 X fr to' v G hG hGb hfr hto l0 l1 l2 lX _ (by simp) ((hA.cell (p:=⟨B0,0,none⟩) l0).trans b0) ((hA.cell (p:=⟨B1,0,none⟩) l1).trans b1) ((hA.cell (p:=⟨B2,0,none⟩) l2).trans b2) ((hA.cell (p:=⟨X,1,none⟩) lX).trans cX) (hg.below hA)) belowK_t (belowK_b (by simp)) (Below.refl _ _) (fun _=>rfl)
    (fun pre W=>(∃ u,Boxed W w.heap.size 72 u/\W.ownsRow w.heap.size 3 1 u pre.length (gcs pre)/\True)/\Below w.heap.size w W)
    (fun _ _ _=>False)
    (OwnFrom.and (Own.from (holdsRow_own w.heap.size w.heap.size 72 3 1 (fun pre:List Nat=>pre.length) (fun pre=>gcs pre) (fun _ _=>True)) _) (ownFrom_below (Nat.le_refl _) (by simp)))
    (fun _ _ _ _ _ hs _ _=>hs)
    ⟨⟨_,bO,World.ownsRow_nil _ _ _ _,trivial⟩,hB0⟩
    (fun x=>{ tmps:=#[.slice none 0 0,.func (.func 127) #[] #[.pointer (some ⟨B0,0,none⟩),.pointer (some ⟨B1,0,none⟩),.pointer (some ⟨B2,0,none⟩)],.pointer (some ⟨w.heap.size,0,none⟩),undef,.slice none 0 0,.int .i64 (x:Nat),.func (.func 127) #[] #[.pointer (some ⟨B0,0,none⟩),.pointer (some ⟨B1,0,none⟩),.pointer (some ⟨B2,0,none⟩)],.int .i64 (x:Nat),undef,undef,undef,undef,undef],defers:=[] }) ?assign ?body ?done ?stop
  case assign=>
    intro l x W K hK
    gi_wp2
    exact hK
  case body=>
    rintro l pre x W ⟨⟨u,hv,hrow,_⟩,hB⟩ hlt
    have hc:=hv.cell
    gi_wp2_with (gi_at_builtin; refine wpListIn_append_own _ rfl _ _ 72 rfl w.heap.size 3 i0 (.int .i64 0) 1 8 Tryz.underlying72 hi hz0 hz1 hz2 rfl (by decide) _ _ _ rfl (hrow.alloc _) ⟨W.heap.size,0,none⟩ 1 1 [.int .i64 (x:Nat)] rfl rfl (cell_one_new _ _ _) (by simp [Value.oneCell']) (by unfold maxLen; omega) (by omega) (by have:=hB.size; simp; omega) ?_; intro v' w1 hown' hgrow _; obtain ⟨g',cap',rfl⟩:=ownsRow_succ hown'; obtain ⟨hv1,hv2,hr2,hk2,hb2⟩:=hv.appended (by decide) hrow hB.size (Nat.le_refl _) hown' hgrow; have hc1:=hv1.cell; have hf1:=hv1.frozen)
    refine ⟨hk2,hb2,⟨_,hv2,?_,trivial⟩,hB.trans hb2⟩
    rw [gcs_app,show (pre ++ [x]).length=pre.length + 1 by simp,show gcs [x]=[Value.int .i64 (x:Nat)] from rfl]
    simpa using hr2
  case done=>
    rintro D ys W hD rfl ⟨⟨u,hv,hrow,_⟩,hB⟩ hK
    have hc:=hv.cell
    gi_wp2
    refine ⟨by simp,.inl ⟨_,_,rfl,run_takeDeferred hK,?_⟩⟩
    exact ⟨_,results_tmp rfl _ _ _,u,rfl,ownsRow_putObj hrow _ hK rfl,hB.trans (belowK_b (w:=w) (Nat.le_refl _) W D _ _ (by simp at hD; omega) hK rfl rfl)⟩
  case stop=>
    rintro D c pre W _ _ h _
    exact h.elim
theorem collect_any (B0 B1 B2 X fr to':Nat) (v:Value) (G:List Nat) (hG:G.length<=1000000) (hGb:∀ g ∈ G,g<=1000000) (hfr:fr<=1000000) (hto:to'<=1000000) (w:World)
    (l0:B0 < w.heap.size) (l1:B1 < w.heap.size) (l2:B2 < w.heap.size) (lX:X < w.heap.size) (b0:w.cell? ⟨B0,0,none⟩=some (.pointer (some ⟨X,0,none⟩))) (b1:w.cell? ⟨B1,0,none⟩=some (.int .i64 (fr:Nat))) (b2:w.cell? ⟨B2,0,none⟩=some (.int .i64 (to':Nat))) (cX:w.cell? ⟨X,1,none⟩=some v) (hg:Gs w w.heap.size v G):
    Calls Tryz.prog 105 #[.func (.func 127) #[] #[.pointer (some ⟨B0,0,none⟩),.pointer (some ⟨B1,0,none⟩),.pointer (some ⟨B2,0,none⟩)]] w fun e W'=>
      ∃ u,e=.returned u/\W'.ownsRow w.heap.size 3 1 u (Tm.cutG G fr to').length (gcs (Tm.cutG G fr to'))/\Below w.heap.size w W':=by
  have AS:=Lib.hid (callsIn_wide.1 (appendSeq_in 3 (by omega) B0 B1 B2 X fr to' v G hG hGb hfr hto w l0 l1 l2 lX b0 b1 b2 cX hg))
  clear l0 l1 l2 lX b0 b1 b2 cX hg hG hGb hfr hto
  go_enter Tryz.func105,Tryz.ntmps105
  go_wp2_with fail
  (with_reducible refine AS.out.mono ?_)
  rintro e w2 ⟨u,rfl,h1,h2⟩
  have H1:=Lib.hid h1
  have H2:=Lib.hid h2
  obtain ⟨ua,uc,rfl⟩:=own_is h1
  clear h1 h2
  go_wp2_with fail
  go_ret
  exact ⟨_,rfl,H1.out,H2.out⟩
end Go.Proofs.YtchfkncbemjepaaGreat
/- Layer 10, the landed program: the first bytes of a stream are cut off. -/
namespace Go.Proofs.YtchfkncbemjepaaGreat
open Go.RowKit Go.Shelf
attribute [local go_sem] Oper.semAt_some

structure TcuRegion (R g O N fi:Nat) (D:ByteArray) (A:Act) (w0:World) (s:Nat->Bool) (a:Act) (w:World):Prop where
  off:Off [41,42,43,4] a A
  before:Below w0.heap.size w0 w
  t0:s 0=true->a.eval (.tmp 41)=.slice (some ⟨g,O,none⟩) N N
  t1:s 1=true->a.eval (.tmp 42)=.string D
  t2:s 2=true->a.eval (.tmp 43)=.int .i64 (fi:Nat)
  t3:s 3=true->a.eval (.tmp 4)=.string D
theorem tcuRegion {id:Nat} {l:List Oper} {A:Act} {w:World} {Q:Exit->Act->World->Prop} (R g O N fi:Nat) (D:ByteArray)
    (lR:R < w.heap.size) (cR:w.cell? ⟨R,0,none⟩=some (.int .i64 (fi:Nat)))
    (hcv:∀ w',Below w.heap.size w w'->(convert 103 9 (.slice (some ⟨g,O,none⟩) N N)).run Tryz.prog w'=.ok (.string D) w')
    (hB:tableH l.toArray 4 (fun i=>match i with | 0=>[] | 1=>[0] | 2=>[] | 3=>[1] | _=>[]) (fun _=>[])=true)
    (h0:pick l 0=some (.move (.tmp 7),some 41))
    (h1:pick l 1=some (.convert 103 9 (.tmp 41),some 42))
    (h2:pick l 2=some (.load 3 (.tmp 5),some 43))
    (h3:pick l 3=some (.assign (.tmp 42),some 4))
    (hs:A.tmps.size=44)
    (x5:A.eval (.tmp 5)=.pointer (some ⟨R,0,none⟩))
    (x7:A.eval (.tmp 7)=.slice (some ⟨g,O,none⟩) N N)
    (h:∀ w1,Below w.heap.size w w1->wpList Tryz.prog l.toArray Q (l.drop 4) ((((A.put (some 41) (.slice (some ⟨g,O,none⟩) N N)).put (some 42) (.string D)).put (some 43) (.int .i64 (fi:Nat))).put (some 4) (.string D)) w1):
    (Code.region id l.toArray true).wp Tryz.prog Q A w:=by
  refine wp_region_head (by kernel_rfl) _ _ _ hB (TcuRegion R g O N fi D A w) ⟨Off.refl _ _,(Below.refl _ _).drew,by simp,by simp,by simp,by simp⟩ ?_ ?_
  · intro s a w' S i' o il ho hsi hT K hK
    have sz:a.tmps.size=44:=by rw [S.off.2.1]; exact hs
    have y5:a.eval (.tmp 5)=.pointer (some ⟨R,0,none⟩):=by rw [S.off.eval (by decide)]; exact x5
    have y7:a.eval (.tmp 7)=.slice (some ⟨g,O,none⟩) N N:=by rw [S.off.eval (by decide)]; exact x7
    match i',il,ho,hsi,hT with
    | 0,_,ho,hsi,hT=>
      obtain ⟨e1,e2⟩:=pick_of h0 ho
      refine step_val (v:=.slice (some ⟨g,O,none⟩) N N) (by simp only [execOp,e1,y7]; go_simp) (hK _ _ ?_)
      rw [e2]
      exact ⟨ofp S.off,S.before,ev_ (by omega),kp S.t1,kp S.t2,kp S.t3⟩
    | 1,_,ho,hsi,hT=>
      obtain ⟨e1,e2⟩:=pick_of h1 ho
      have D0:s 0=true:=list_pos hT (d:=0) (by decide)
      have BW:=S.before
      refine step_val (v:=.string D) (by simp only [execOp,e1,S.t0 D0]; have cv:=hcv w' BW; first | (go_simp; done) | (go_simp; rw [cv]; rfl)) (hK _ _ ?_)
      rw [e2]
      exact ⟨ofp S.off,S.before,kp S.t0,ev_ (by omega),kp S.t2,kp S.t3⟩
    | 2,_,ho,hsi,hT=>
      obtain ⟨e1,e2⟩:=pick_of h2 ho
      have BW:=S.before
      have cl:=(BW.cell (p:=⟨R,0,none⟩) lR).trans cR
      refine step_val (v:=.int .i64 (fi:Nat)) (by simp only [execOp,e1,y5]; go_simp) (hK _ _ ?_)
      rw [e2]
      exact ⟨ofp S.off,S.before,kp S.t0,kp S.t1,ev_ (by omega),kp S.t3⟩
    | 3,_,ho,hsi,hT=>
      obtain ⟨e1,e2⟩:=pick_of h3 ho
      have D1:s 1=true:=list_pos hT (d:=1) (by decide)
      refine step_val (v:=.string D) (by simp only [execOp,e1,S.t1 D1]; go_simp) (hK _ _ ?_)
      rw [e2]
      exact ⟨ofp S.off,S.before,kp S.t0,kp S.t1,kp S.t2,ev_ (by omega)⟩
    | _ + 4,il,_,_,_=>exact absurd il (by omega)
  intro s a w' S hall
  have a0:=hall 0 (by omega)
  have a1:=hall 1 (by omega)
  have a2:=hall 2 (by omega)
  have a3:=hall 3 (by omega)
  have e:=off_norm _ (by intro d hd; simp at hd; omega) S.off
  simp only [List.foldl,S.t0 a0,S.t1 a1,S.t2 a2,S.t3 a3] at e
  rw [e]
  exact h _ S.before
section
variable {P:Program} {ops:Array Oper} {rest:List Oper} {op:Oper} {a:Act} {w:World} {Q:Exit->Act->World->Prop}
theorem wpList_run (hgd:op.guard=none) (OP:Op) (ho:op.op=OP) (v:Value) (hrun:(execOp a.eval op).run P w=.ok (.value v) w) (h:wpList P ops Q rest (a.put op.dst v) w):wpList P ops Q (op :: rest) a w:=
  wpList_plain hgd fun _ hK=>by
    unfold Oper.wp
    rw [hrun,Oper.upon_value]
    exact hK _ _ h
end
theorem slice_lo_run {ev:Operand->Value} {o:Oper} {w:World} {x y:Operand} {g O O' L N bc M C:Nat} (h:o.op=.slice 103 x (some y) none none) (hx:ev x=.slice (some ⟨g,O,none⟩) L bc) (hy:ev y=.int .i64 (N:Nat)) (h1:N<=L) (h2:L<=bc) (hO:O'=if bc=N then O else O + N) (hM:M=L - N) (hC:C=bc - N):(execOp ev o).run Tryz.prog w=.ok (.value (.slice (some ⟨g,O',none⟩) M C)) w:=by
  have nb3:(N:Int)<=(L:Int):=by omega
  have nb5:(0:Int)<=(N:Int):=by omega
  subst hM hC
  by_cases hb:bc=N
  · rw [if_pos hb] at hO
    subst hO hb
    have e:L=bc:=by omega
    subst e
    simp only [execOp,h]
    go_simp
  rw [if_neg hb] at hO
  subst hO
  simp only [execOp,h]
  go_simp
theorem RowAt.cells {w:World} {n0 g o' n cap:Nat} {e:TypeId} {xs:List Value} (h:RowAt w n0 e (.slice (some ⟨g,o',none⟩) n cap) xs):∀ j u,xs[j]?=some u->w.cell? ⟨g,o' + j,none⟩=some u:=fun j u hu=>by
  rcases h with ⟨h,_⟩ | ⟨g2,o2,cap2,f,h0,h1,h2,h3,h4,h5,h6⟩
  · cases h
  cases h0
  have hj:j < xs.length:=(List.getElem?_eq_some_iff.1 hu).1
  rw [h3.cell (by omega),h6 j u hu]
theorem RowAt.mono {w:World} {n0 n1:Nat} {e:TypeId} {v:Value} {xs:List Value} (h:RowAt w n1 e v xs) (hn:n0<=n1):RowAt w n0 e v xs:=by
  rcases h with h | ⟨g,o,cap,f,h0,h1,h2⟩
  · exact .inl h
  exact .inr ⟨g,o,cap,f,h0,Nat.le_trans hn h1,h2⟩
theorem results_t1_cell {P:Program} {fn:Func} {p u:Tmp} {ty:TypeId} (h:fn.results=#[.tmp u,.cell p ty]) (tmps:Array Value) (w:World) (X:Nat) (v:Value) (hp:tmps.getD p undef=.pointer (some ⟨X,0,none⟩)) (hc:w.cell? ⟨X,0,none⟩=some v) (hu:(isAgg ty).run P w=.ok false w):(results fn tmps).run P w=.ok (.tuple #[tmps.getD u undef,v]) w:=by
  have hp':tmps[p]?.getD undef=.pointer (some ⟨X,0,none⟩):=by simpa using hp
  simp [results,h,hp',asAddr,loadVar,hu,go_sem,hc]
theorem Cel.of_box {w:World} {R:Nat} {t:TypeId} {v:Value} (h:Boxed w R t v):Cel w R 1 (fun _=>v):=⟨h.lt,fun j hj=>by
  obtain rfl:j=0:=by omega
  exact ⟨h.cell,h.frozen⟩⟩
theorem find_zero (G:List Nat) (N:Nat):Tm.fstAt G N=((Tm.cutG G 0 N).head?).getD 2047:=by
  unfold Tm.fstAt Tm.cutG
  rw [List.head?_map,List.head?_filter]
  congr 1
  simp
theorem cut_in {w:World} {n0 X n r:Nat} {va vb:Value} {B:List UInt8} {G:List Nat} (h:PFl w n0 X n r va vb B G) (hG:G.length<=1000000) (hGb:∀ g ∈ G,g<=1000000) (hB1:B.length<=1000000) (N:Nat) (hN0:0 < N) (hN:N<=B.length) (hn0:n0<=w.heap.size):
    CallsIn Fence.wide 6 Tryz.prog 73 #[.pointer (some ⟨X,0,none⟩),.int .i64 (N:Nat)] w fun e w'=>e=.returned (.tuple #[.string (bs (B.take N)),.int .i64 (Tm.fstAt G N:Nat)])/\∃ va' vb',PFl w' n0 X n r va' vb' (B.drop N) (Tm.cutG G N B.length)/\KF n0 (SX X va vb) (SX X va' vb') w w':=by
  have h1:1<=6:=by omega
  have H:=Lib.hid h
  have lX:=h.cx.lt
  obtain ⟨g,O,bc,hva,q1,q2,q3,q4,q5⟩:=h.ba.at' (fun e=>by
    have:B.length=0:=by rw [<-bcs_len,e]; rfl
    omega)
  rw [bcs_len] at hva q1
  obtain ⟨L,hL⟩:∃ L,B.length=L:=⟨_,rfl⟩
  rw [hL] at hva hN hB1 q1 ⊢
  have HVA:=Lib.hid hva
  have GSC:=Lib.hid (show Gs w w.heap.size vb G from by
    obtain ⟨ao,c,e,e1,e2⟩:=h.be.is
    rw [gcs_len] at e e1
    refine ⟨ao,c,e,e1,e2,?_⟩
    by_cases hg:G=[]
    · exact .inl hg
    obtain ⟨gb,o,c2,e3,_,_,_,e4,e5⟩:=h.be.at' (fun e=>hg (by cases G with | nil=>rfl | cons a l=>cases e))
    rw [gcs_len] at e3
    rw [e3] at e
    cases e
    exact .inr ⟨gb,o,rfl,e4.lt,e4.lt,fun j u hu=>e5 j _ (by unfold gcs; rw [List.getElem?_map,hu]; rfl)⟩)
  obtain ⟨O',hO'⟩:∃ O',(if bc=N then O else O + N)=O':=⟨_,rfl⟩
  obtain ⟨LM,hLM⟩:∃ M,L - N=M:=⟨_,rfl⟩
  obtain ⟨BM,hBM⟩:∃ M,bc - N=M:=⟨_,rfl⟩
  have HLM:=Lib.hid hLM
  have HBM:=Lib.hid hBM
  have HO:=Lib.hid hO'
  have nb1:N<=bc:=Nat.le_trans hN q1
  have nb2:(N:Int)<=(bc:Int):=by omega
  have nb3:(N:Int)<=(L:Int):=by omega
  have nb4:¬ N=0:=by omega
  have nb5:(0:Int)<=(N:Int):=by omega
  refine callsIn_of_wp_marks Tryz.func73 rfl trivial ?_ rfl
  simp only [Tryz.ntmps73,List.size_toArray,List.length_cons,List.length_nil,Nat.reduceAdd,Nat.reduceSub,Array.replicate_succ,Array.replicate_zero,List.push_toArray,List.append_toArray,List.nil_append,List.cons_append]
  gi_wp2_with (refine ⟨trivial,?_⟩; gi_at_call 104; refine (places_in Fence.wide 5 trivial rfl X 0 (N:Nat) _).mono ?_; rintro e w' ⟨rfl,rfl⟩)
  obtain ⟨W0,hW0⟩:∃ W0,(((w.alloc (.cells #[.int .i64 2047] 3)).alloc (.cells #[.pointer (some ⟨X,0,none⟩)] 177)).alloc (.cells #[.int .i64 0] 3)).alloc (.cells #[.int .i64 (N:Nat)] 3)=W0:=⟨_,rfl⟩
  have bR:Boxed W0 w.heap.size 3 (.int .i64 2047):=by
    rw [<-hW0]
    exact (((Boxed.new w 3 (.int .i64 2047)).alloc _).alloc _).alloc _
  have sW0:W0.heap.size=w.heap.size + 4:=by rw [<-hW0]; simp
  have hBW:Below w.heap.size w W0:=by
    rw [<-hW0]
    exact ba (ba (ba (ba (Below.refl _ w) _) _) _) _
  have z0:W0.cell? ⟨w.heap.size + 1,0,none⟩=some (.pointer (some ⟨X,0,none⟩)):=by
    have:=(((Boxed.new (w.alloc (.cells #[.int .i64 2047] 3)) 177 (.pointer (some ⟨X,0,none⟩))).alloc (.cells #[.int .i64 0] 3)).alloc (.cells #[.int .i64 (N:Nat)] 3)).cell
    simp only [World.size_alloc] at this
    rw [<-hW0]
    exact this
  have z1:W0.cell? ⟨w.heap.size + 1 + 1,0,none⟩=some (.int .i64 ((0:Nat):Int)):=by
    have:=((Boxed.new ((w.alloc (.cells #[.int .i64 2047] 3)).alloc (.cells #[.pointer (some ⟨X,0,none⟩)] 177)) 3 (.int .i64 0)).alloc (.cells #[.int .i64 (N:Nat)] 3)).cell
    simp only [World.size_alloc] at this
    rw [<-hW0]
    exact this
  have z2:W0.cell? ⟨w.heap.size + 1 + 1 + 1,0,none⟩=some (.int .i64 (N:Nat)):=by
    have:=(Boxed.new (((w.alloc (.cells #[.int .i64 2047] 3)).alloc (.cells #[.pointer (some ⟨X,0,none⟩)] 177)).alloc (.cells #[.int .i64 0] 3)) 3 (.int .i64 (N:Nat))).cell
    simp only [World.size_alloc] at this
    rw [<-hW0]
    exact this
  have zX:W0.cell? ⟨X,1,none⟩=some vb:=(hBW.cell (p:=⟨X,1,none⟩) lX).trans (h.cx.cell (j:=1) (by omega))
  rw [hW0]
  have HW0:=Lib.hid hW0
  rename (∀ (a:Act) (w:World),Code.wpIn _ _ _ _ _ a w->_)=>KK
  rename (Act->World->Prop)=>KP
  have REST:∀ (D:Nat) (W:World) (fi:Nat),W0.heap.size<=D->Boxed W w.heap.size 3 (.int .i64 (fi:Nat))->Below w.heap.size w W->W.heap[D]?=some (.deferred (some []))->fi=Tm.fstAt G N->KP { tmps:=#[.pointer (some ⟨X,0,none⟩),.int .i64 (N:Nat),undef,undef,.string ⟨#[]⟩,.pointer (some ⟨w.heap.size,0,none⟩),undef,undef,.pointer (some ⟨X,0,none⟩),.int .i64 (N:Nat),.func (.func 127) #[] #[.pointer (some ⟨w.heap.size + 1,0,none⟩),.pointer (some ⟨w.heap.size + 1 + 1,0,none⟩),.pointer (some ⟨w.heap.size + 1 + 1 + 1,0,none⟩)],undef,undef,undef,undef,undef,undef,undef,undef,undef,undef,undef,undef,undef,undef,undef,undef,undef,undef,undef,undef,undef,undef,undef,undef,undef,undef,undef,undef,undef,undef,undef,undef,undef],defers:=[{ target:=.collected D,args:=#[] }] } W:=by
    intro D W fi hD hb hB hK hfi
    clear z0 z1 z2 zX bR hBW
    apply KK
    refine wpIn_wide.2 ?_
    have HB:=Lib.hid hB
    have HK:=Lib.hid hK
    have HRB:=Lib.hid hb
    have cR:=hb.cell
    have LX2:=Lib.hid (Nat.lt_of_lt_of_le lX hB.size)
    have C1:=Lib.hid (H.out.cx.of_block (hB.block X lX))
    have T1:=Lib.hid (H.out.ty.of_block (hB.block X lX))
    have A1:=Lib.hid (H.out.ba.keep (fun g hg=>hB.block g (H.out.ba.lt hg)))
    have E1:=Lib.hid (H.out.be.keep (fun g hg=>hB.block g (H.out.be.lt hg)))
    have c0:W.cell? ⟨X,0,none⟩=some (.slice (some ⟨g,O,none⟩) L bc):=by
      rw [C1.out.cell (j:=0) (by omega)]
      show some va=_
      rw [HVA.out]
    obtain ⟨z,hz⟩:∃ z,W.heap.size=z:=⟨_,rfl⟩
    have HZ:=Lib.hid hz
    have bz:w.heap.size < z:=by have:=hb.lt; omega
    obtain ⟨W3,hW3⟩:∃ W3,((W.alloc (.cells #[.pointer (some ⟨X,0,none⟩)] 177)).alloc (.cells #[.int .i64 (N:Nat)] 3)).alloc (.cells #[.int .i64 (L:Nat)] 3)=W3:=⟨_,rfl⟩
    have HB3:=Lib.hid (show Below W.heap.size W W3 by rw [<-hW3]; exact ba (ba (ba (Below.refl _ W) _) _) _)
    have S3:W3.heap.size=z + 3:=by rw [<-hW3]; simp [hz]
    have Z0:W3.cell? ⟨z,0,none⟩=some (.pointer (some ⟨X,0,none⟩)):=by
      rw [<-hW3,<-hz]
      exact (((Boxed.new W 177 (.pointer (some ⟨X,0,none⟩))).alloc _).alloc _).cell
    have Z1:W3.cell? ⟨z + 1,0,none⟩=some (.int .i64 (N:Nat)):=by
      have:=((Boxed.new (W.alloc (.cells #[.pointer (some ⟨X,0,none⟩)] 177)) 3 (.int .i64 (N:Nat))).alloc (.cells #[.int .i64 (L:Nat)] 3)).cell
      rw [World.size_alloc,hz] at this
      rw [<-hW3]
      exact this
    have Z2:W3.cell? ⟨z + 1 + 1,0,none⟩=some (.int .i64 (L:Nat)):=by
      have:=(Boxed.new ((W.alloc (.cells #[.pointer (some ⟨X,0,none⟩)] 177)).alloc (.cells #[.int .i64 (N:Nat)] 3)) 3 (.int .i64 (L:Nat))).cell
      simp only [World.size_alloc] at this
      rw [hz] at this
      rw [<-hW3]
      exact this
    have X1:W3.cell? ⟨X,1,none⟩=some vb:=by rw [C1.out.below HB3.out |>.cell (j:=1) (by omega)]; rfl
    have GS:=(GSC.out.below hB).below (HB3.out.mono (show w.heap.size<=W.heap.size by omega))
    have GS3:Gs W3 W3.heap.size vb G:=by
      obtain ⟨ao,c,e,q1,q2,q3⟩:=GS
      refine ⟨ao,c,e,q1,q2,q3.imp id ?_⟩
      rintro ⟨g,o,e2,q4,q5,q6⟩
      exact ⟨g,o,e2,q5,q5,q6⟩
    have PLC:=Lib.hid (callsIn_wide.1 (places_in Fence.wide 3 trivial rfl X (N:Nat) (L:Nat) W))
    rw [hW3,hz] at PLC
    have COL:=Lib.hid (collect_any z (z + 1) (z + 1 + 1) X N L vb G hG hGb (by omega) (by omega) W3 (by omega) (by omega) (by omega) (by have:=LX2.out; omega) Z0 Z1 Z2 X1 GS3)
    have c03:W3.cell? ⟨X,0,none⟩=some (.slice (some ⟨g,O,none⟩) L bc):=(HB3.out.cell (p:=⟨X,0,none⟩) (by have:=LX2.out; omega)).trans c0
    clear Z0 Z1 Z2 X1 GS GS3 hW3 hb hB hz
    go_wp2_with fail
    (with_reducible refine PLC.out.mono ?_)
    rintro e w3 ⟨rfl,rfl⟩
    go_wp2_with fail
    (with_reducible refine COL.out.mono ?_)
    rintro e w5 ⟨u,rfl,hu,h5⟩
    obtain ⟨ua,uc,rfl⟩:=own_is hu
    have UO:=Lib.hid (RowAt.of_own hu)
    have B5:=Lib.hid (bt HB3.out h5)
    clear hu
    have C5:=Lib.hid ((C1.out.below HB3.out).below h5)
    have T5:=Lib.hid ((T1.out.below HB3.out).below h5)
    have A5:=Lib.hid ((A1.out.below HB3.out).below h5)
    have R5:=Lib.hid (show Boxed w5 w.heap.size 3 (.int .i64 (fi:Nat)) from (B5.out.block _ HRB.out.lt).trans HRB.out)
    have K5:=Lib.hid ((B5.out.block D (Array.getElem?_eq_some_iff.1 HK.out).1).trans HK.out)
    have S5:=Lib.hid (show w.heap.size<=w5.heap.size from by have:=h5.size; omega)
    clear h5
    go_upto_region 6 with ((with_reducible refine atList ?_); refine wpList_setT rfl (.store 72 (.tmp 24) (.tmp 22)) rfl X 1 5 (.slice ua (Tm.cutG G N L).length uc) _ (pfC X n r va (.slice ua (Tm.cutG G N L).length uc)) C5.out (by omega) (fun j hj=>by match j,hj with | 0,_=>rfl | 1,_=>rfl | 2,_=>rfl | 3,_=>rfl | 4,_=>rfl) (store_ints rfl rfl rfl (C5.out.cell (j:=1) (by omega)) (C5.out.frozen (j:=1) (by omega))) ?_; intro w6 C6 U6 S6 V6)
    have T6:=Lib.hid (V6.out _ T5.out)
    have A6:=Lib.hid (A5.out.keep (fun g hg=>U6.out.rest g (A5.out.lt hg) (fun e=>H.out.ne_a (by rw [hg,e]))))
    have UO6:=Lib.hid (UO.out.keep (fun g hg=>U6.out.rest g (UO.out.lt hg) (fun e=>ty_ne (UO.out.blk hg).2 T5.out (by decide) e)))
    have R6:=Lib.hid (show Boxed w6 w.heap.size 3 (.int .i64 (fi:Nat)) from (U6.out.rest _ R5.out.lt (by omega)).trans R5.out)
    have K6:=Lib.hid ((U6.out.rest D (Array.getElem?_eq_some_iff.1 K5.out).1 (by omega)).trans K5.out)
    have c06:w6.cell? ⟨X,0,none⟩=some (.slice (some ⟨g,O,none⟩) L bc):=by
      rw [C6.out.cell (j:=0) (by omega)]
      show some va=_
      rw [HVA.out]
    go_upto_region 8 with (first
      | ((with_reducible refine atList ?_); refine wpList_run rfl (.slice 103 (.tmp 36) (some (.tmp 37)) none none) rfl (.slice (some ⟨g,O',none⟩) LM BM) (slice_lo_run rfl rfl rfl hN q1 HO.out.symm HLM.out.symm HBM.out.symm) ?_)
      | ((with_reducible refine atList ?_); refine wpList_setT rfl (.store 103 (.tmp 40) (.tmp 38)) rfl X 0 5 (.slice (some ⟨g,O',none⟩) LM BM) _ (pfC X n r (.slice (some ⟨g,O',none⟩) LM BM) (.slice ua (Tm.cutG G N L).length uc)) C6.out (by omega) (fun j hj=>by match j,hj with | 0,_=>rfl | 1,_=>rfl | 2,_=>rfl | 3,_=>rfl | 4,_=>rfl) (store_bytes rfl rfl rfl (C6.out.cell (j:=0) (by omega)) (C6.out.frozen (j:=0) (by omega))) ?_; intro w7 C7 U7 S7 V7))
    have U7S:=Lib.hid (show w7.heap[X]?=w7.heap[X]? from rfl)
    have A7:=Lib.hid (A6.out.keep (fun g hg=>U7.out.rest g (A6.out.lt hg) (fun e=>H.out.ne_a (by rw [hg,e]))))
    have UO7:=Lib.hid (UO6.out.keep (fun g hg=>U7.out.rest g (UO6.out.lt hg) (fun e=>ty_ne (UO6.out.blk hg).2 T6.out (by decide) e)))
    have R7:=Lib.hid (show Boxed w7 w.heap.size 3 (.int .i64 (fi:Nat)) from (U7.out.rest _ R6.out.lt (by omega)).trans R6.out)
    have K7:=Lib.hid ((U7.out.rest D (Array.getElem?_eq_some_iff.1 K6.out).1 (by omega)).trans K6.out)
    have T7:=Lib.hid (V7.out _ T6.out)
    have CV:=Lib.hid (show ∀ w',Below w7.heap.size w7 w'->(convert 103 9 (.slice (some ⟨g,O,none⟩) N N)).run Tryz.prog w'=.ok (.string (bs (B.take N))) w' from fun w' hb=>by
      have tl:(B.take N).length=N:=by rw [List.length_take]; omega
      have cc:=(A7.out.below hb)
      rw [HVA.out] at cc
      have cv:=run_convert_bytes_back (P:=Tryz.prog) w' 103 9 5 ⟨g,O,none⟩ N (B.take N) Tryz.underlying103 Tryz.underlying5 Tryz.underlying9 (fun j hj=>by
        rw [add_off]
        refine cc.cells j _ ?_
        unfold bcs
        rw [List.getElem?_map,List.getElem_take,List.getElem?_eq_getElem (by rw [List.length_take] at hj; omega)]
        rfl)
      rw [tl] at cv
      exact cv)
    refine tcuRegion w.heap.size g O N fi (bs (B.take N)) R7.out.lt R7.out.cell CV.out (by kernel_rfl) rfl rfl rfl rfl rfl rfl rfl ?_
    intro w8 h8
    have R8:=Lib.hid (Cel.of_box (show Boxed w8 w.heap.size 3 (.int .i64 (fi:Nat)) from (h8.block _ R7.out.lt).trans R7.out))
    have K8:=Lib.hid ((h8.block D (Array.getElem?_eq_some_iff.1 K7.out).1).trans K7.out)
    have H8:=Lib.hid h8
    clear h8
    simp only [Act.put,List.setIfInBounds_toArray,List.set_cons_succ,List.set_cons_zero,List.drop_succ_cons,List.drop_zero]
    go_wp2_with ((with_reducible refine atList ?_); refine wpList_setT rfl (.store 3 (.tmp 5) (.tmp 43)) rfl w.heap.size 0 1 (.int .i64 (fi:Nat)) _ (fun _=>.int .i64 (fi:Nat)) R8.out (by omega) (fun j hj=>by simp) (store_int rfl rfl rfl (R8.out.cell (j:=0) (by omega)) (R8.out.frozen (j:=0) (by omega))) ?_; intro w9 C9 U9 S9 V9)
    have K9:=Lib.hid ((U9.out.rest D (Array.getElem?_eq_some_iff.1 K8.out).1 (by omega)).trans K8.out)
    refine ⟨by simp,.inl ⟨_,_,rfl,run_takeDeferred K9.out,?_⟩⟩
    have g9:=grownBy_putObj' w9 D (.deferred none)
    have cE:(w9.putObj D (.deferred none)).cell? ⟨w.heap.size,0,none⟩=some (.int .i64 (fi:Nat)):=by
      rw [World.cell?_of_block (w:=w9) (a:=⟨w.heap.size,0,none⟩) (g9.block _ C9.out.lt (fun e=>absurd (Option.some.inj e) (show ¬ w.heap.size=D by omega)))]
      exact C9.out.cell (j:=0) (by omega)
    have P7:PFl w7 n0 X n r (.slice (some ⟨g,O',none⟩) LM BM) (.slice ua (Tm.cutG G N L).length uc) (B.drop N) (Tm.cutG G N L):=by
      refine ⟨H.out.xl,T7.out,C7.out,?_,UO7.out.mono (by omega)⟩
      have a7:=A7.out
      rw [HVA.out] at a7
      have bl:(bcs B).length=L:=by rw [bcs_len,hL]
      rw [<-bl] at a7
      have:=a7.cut N (by rw [bl]; exact hN) O' HO.out.symm
      rw [bl,HLM.out,HBM.out] at this
      have e:(bcs B).drop N=bcs (B.drop N):=by unfold bcs; rw [List.map_drop]
      rwa [e] at this
    have big:∀ k,SX X (.slice (some ⟨g,O',none⟩) LM BM) (.slice ua (Tm.cutG G N L).length uc) k->(k < w.heap.size/\SX X va vb k)\/W.heap.size<=k:=fun k hk=>by
      rcases hk with q | q | q
      · exact .inl ⟨by omega,.inl q⟩
      · cases q
        have e:va.ownBlock=some g:=by rw [HVA.out]; rfl
        exact .inl ⟨H.out.ba.lt e,.inr (.inl e)⟩
      have:=(UO7.out.blk q).1
      have:=HB3.out.size
      exact .inr (by omega)
    have hR:=HRB.out.lt
    have PE:=(P7.below H8.out).keep (fun k hk=>(U9.out.rest k ((P7.below H8.out).lt hk) (fun e=>by rcases big k hk with q | q <;> omega)))
    have PF:=PE.keep (fun k hk=>g9.block k (PE.lt hk) (fun e=>by
      cases e
      rcases big _ hk with q | q
      · omega
      rcases hk with z | z | z
      · omega
      · have zz:g=_:=Option.some.inj z
        have:=H.out.ba.lt (show va.ownBlock=some g by rw [HVA.out]; rfl)
        omega
      obtain ⟨cu,fr,hh⟩:=(PE.be.blk z).2
      rw [K9.out] at hh
      cases hh))
    refine ⟨_,results_t1_cell rfl _ _ w.heap.size (.int .i64 (fi:Nat)) rfl cE (by kernel_rfl),by rw [hfi]; rfl,_,_,PF,?_,?_,?_⟩
    · have b6:=But.under ((HB.out.mono hn0).trans (B5.out.mono (by omega))) U6.out H.out.xl
      have b7:=But.under b6 U7.out H.out.xl
      have b9:=But.under (b7.trans (H8.out.mono (by have:=b7.size; omega))) U9.out hn0
      exact b9.trans (belowK_b (w:=w) hn0 w9 D _ _ (by omega) K9.out rfl rfl)
    · intro k hk hn
      have kX:k ≠ X:=fun e=>hn (.inl e)
      have s5:=S5.out
      have s6:=S6.out
      have s7:=S7.out
      have s8:=H8.out.size
      have s9:=S9.out
      exact (g9.block k (by omega) (fun e=>by cases e; omega)).trans ((U9.out.rest k (by omega) (by omega)).trans ((H8.out.block k (by omega)).trans ((U7.out.rest k (by omega) kX).trans ((U6.out.rest k (by omega) kX).trans ((B5.out.block k (by have:=HB.out.size; omega)).trans (HB.out.block k hk))))))
    intro k hk
    rcases big k hk with q | q
    · have:=q.2
      rw [HVA.out] at this
      exact .inl this
    exact .inr (by omega)
  refine wpIn_rangeFunc_ownF (F:=Fence.wide) Fence.wide_round h1 (gf:=127) (lb:=#[.pointer (some ⟨w.heap.size + 1,0,none⟩),.pointer (some ⟨w.heap.size + 1 + 1,0,none⟩),.pointer (some ⟨w.heap.size + 1 + 1 + 1,0,none⟩)]) rfl trivial (enters_of Tryz.func127 (by kernel_rfl) rfl)
    (places_stops Fence.wide 5 trivial rfl (by omega) W0.heap.size (w.heap.size + 1) (w.heap.size + 1 + 1) (w.heap.size + 1 + 1 + 1) X 0 N vb G hG hGb (by omega) (by omega) (by omega) (by omega) (by omega) (by omega) W0 (Nat.le_refl _) z0 z1 z2 zX (by
      obtain ⟨ao,c,e,e1,e2,e3⟩:=GSC.out.below hBW
      refine ⟨ao,c,e,e1,e2,e3.imp id ?_⟩
      rintro ⟨g,o,e4,e5,e6,e7⟩
      exact ⟨g,o,e4,e6,e6,e7⟩)) belowK_t (belowK_b (Nat.le_refl _)) (Below.refl _ _) (fun _=>rfl)
    (fun pre W=>pre=[]/\Boxed W w.heap.size 3 (.int .i64 2047)/\Below w.heap.size w W)
    (fun c pre W=>c=.exit 0/\∃ x:Nat,pre=[x]/\Boxed W w.heap.size 3 (.int .i64 (x:Nat))/\Below w.heap.size w W)
    (OwnFrom.and (ownFrom_pure _ (fun pre:List Nat=>pre=[])) (OwnFrom.and (Own.from (boxed_own w.heap.size _ _) _) (ownFrom_below (Nat.le_refl _) (by omega))))
    (fun c s A B row hs hg hr=>by
      obtain ⟨e1,x,e2,e3,e4⟩:=hs
      exact ⟨e1,x,e2,(Own.from (boxed_own w.heap.size 3 (fun _:List Nat=>.int .i64 (x:Nat))) _) [] A B row e3 hg hr,(ownFrom_below (β:=List Nat) (Nat.le_refl _) (show w.heap.size<=W0.heap.size by omega)) [] A B row e4 hg hr⟩)
    ⟨rfl,bR,hBW⟩
    (fun x=>{ tmps:=#[.pointer (some ⟨X,0,none⟩),.int .i64 (N:Nat),undef,undef,.string ⟨#[]⟩,.pointer (some ⟨w.heap.size,0,none⟩),.int .i64 (x:Nat),undef,.pointer (some ⟨X,0,none⟩),.int .i64 (N:Nat),.func (.func 127) #[] #[.pointer (some ⟨w.heap.size + 1,0,none⟩),.pointer (some ⟨w.heap.size + 1 + 1,0,none⟩),.pointer (some ⟨w.heap.size + 1 + 1 + 1,0,none⟩)],.int .i64 (x:Nat),undef,undef,undef,undef,undef,undef,undef,undef,undef,undef,undef,undef,undef,undef,undef,undef,undef,undef,undef,undef,undef,undef,undef,undef,undef,undef,undef,undef,undef,undef,undef,undef],defers:=[] }) ?assign ?body ?done ?stop
  case assign=>
    intro l x W K hK
    gi_wp2
    exact hK
  case body=>
    rintro l pre x W ⟨rfl,hb,hB⟩ _
    have hc:=hb.cell
    have hf:=hb.frozen
    gi_wp2
    exact ⟨KeepsOthers.setCell _ _ _,rfl,x,rfl,hb.set _,hB.setCell (p:=⟨w.heap.size,0,none⟩) (Nat.le_refl _) _⟩
  case done=>
    rintro D ys W hD hys ⟨he,hb,hB⟩ hK
    rw [hys] at he
    exact REST D W 2047 hD hb hB hK (by rw [find_zero,he]; rfl)
  case stop=>
    rintro D c pre W hD ⟨rest,hp⟩ ⟨rfl,x,rfl,hb,hB⟩ hK
    exact wpIn_exit (REST D W x hD hb hB hK (by rw [find_zero,hp]; rfl))
theorem cut_any {w:World} {n0 X n r:Nat} {va vb:Value} {B:List UInt8} {G:List Nat} (h:PFl w n0 X n r va vb B G) (hG:G.length<=1000000) (hGb:∀ g ∈ G,g<=1000000) (hB1:B.length<=1000000) (N:Nat) (hN0:0 < N) (hN:N<=B.length) (hn0:n0<=w.heap.size):
    Calls Tryz.prog 73 #[.pointer (some ⟨X,0,none⟩),.int .i64 (N:Nat)] w fun e w'=>e=.returned (.tuple #[.string (bs (B.take N)),.int .i64 (Tm.fstAt G N:Nat)])/\∃ va' vb',PFl w' n0 X n r va' vb' (B.drop N) (Tm.cutG G N B.length)/\KF n0 (SX X va vb) (SX X va' vb') w w':=
  callsIn_wide.1 (cut_in h hG hGb hB1 N hN0 hN hn0)
end Go.Proofs.YtchfkncbemjepaaGreat
/- Layer 10, the landed program: Next. -/
namespace Go.Proofs.YtchfkncbemjepaaGreat
open Go.RowKit

theorem step_callL {P:Program} {FA:Value->World->Prop} {Q:Exit->Act->World->Prop} {o:Oper} {a:Act} {w:World} {K:Act->World->Prop} (f:FuncId) (hf:∀ args w,(callFunc f args).run P w=.ok (.enter f args) w) (xs:Array Operand) (ts:Array TypeId) (ho:o.op=.call { callee:=.value (.func f),args:=xs,argTypes:=ts })
    (args:Array Value) (hx:xs.map a.eval=args) (hc:Calls P f args w fun e w'=>∃ v,e=.returned v/\FA v w') (h:∀ v' w',FA v' w'->K (a.put o.dst v') w'):o.wp P a w K Q:=
  step_call f hf xs ts ho args hx (hc.mono (fun e w' ⟨v,he,hF⟩=>⟨v,he,h v w' hF⟩))
theorem PFl.setRest {w w':World} {n0 X n r r2:Nat} {va vb:Value} {B:List UInt8} {G:List Nat} (h:PFl w n0 X n r va vb B G) (C:Cel w' X 5 (pfC X n r2 va vb)) (U:But X w w') (V:∀ t,TyB w X t->TyB w' X t):PFl w' n0 X n r2 va vb B G:=
  ⟨h.xl,V _ h.ty,C,h.ba.keep (fun g hg=>U.rest g (h.ba.lt hg) (fun e=>h.ne_a (by rw [hg,e]))),h.be.keep (fun g hg=>U.rest g (h.be.lt hg) (fun e=>h.ne_b (by rw [hg,e])))⟩
structure TnxRegion (X N:Nat) (FA:Value->World->Prop) (A:Act) (w0:World) (s:Nat->Bool) (a:Act) (w:World):Prop where
  off:Off [36,37,38,39,40,41,42,43,35,44,45,2] a A
  before:s 7=false->Below w0.heap.size w0 w
  t0:s 0=true->a.eval (.tmp 36)=.pointer (some ⟨X,0,none⟩)
  t1:s 1=true->a.eval (.tmp 37)=.pointer (some ⟨X,0,none⟩)
  t2:s 2=true->a.eval (.tmp 38)=.pointer (some ⟨X,0,none⟩)
  t3:s 3=true->a.eval (.tmp 39)=.pointer (some ⟨X,0,none⟩)
  t4:s 4=true->a.eval (.tmp 40)=.pointer (some ⟨X,0,none⟩)
  t5:s 5=true->a.eval (.tmp 41)=.pointer (some ⟨X,3,none⟩)
  t6:s 6=true->a.eval (.tmp 42)=.int .i64 (N:Nat)
  t7:s 7=true->∃ v7,a.eval (.tmp 43)=v7/\FA v7 w/\(s 8=true->a.eval (.tmp 35)=v7)/\(s 9=true->a.eval (.tmp 44)=tup0 v7)/\(s 10=true->a.eval (.tmp 45)=tup1 v7)/\(s 11=true->a.eval (.tmp 2)=tup0 v7)
theorem tnxRegion {id:Nat} {l:List Oper} {A:Act} {w:World} {Q:Exit->Act->World->Prop} (X N:Nat) (FA:Value->World->Prop)
    (lX:X < w.heap.size) (c3:w.cell? ⟨X,3,none⟩=some (.int .i64 (N:Nat)))
    (hA:∀ w',Below w.heap.size w w'->Calls Tryz.prog 73 #[.pointer (some ⟨X,0,none⟩),.int .i64 (N:Nat)] w' fun e w2=>∃ v,e=.returned v/\FA v w2) (hF:∀ v w',FA v w'->∃ x0 x1,v=.tuple #[x0,x1]/\FA (.tuple #[x0,x1]) w')
    (hB:tableH l.toArray 12 (fun i=>match i with | 0=>[] | 1=>[0] | 2=>[1] | 3=>[] | 4=>[3] | 5=>[4] | 6=>[5] | 7=>[2,6] | 8=>[7] | 9=>[7,8] | 10=>[7,8] | 11=>[7,8,9] | _=>[]) (fun i=>match i with | 6=>[7] | 7=>[8,9,10,11] | _=>[])=true)
    (h0:pick l 0=some (.move (.tmp 0),some 36))
    (h1:pick l 1=some (.nilCheck (.tmp 36),some 37))
    (h2:pick l 2=some (.fieldAddr 129 (.tmp 37) 0,some 38))
    (h3:pick l 3=some (.move (.tmp 0),some 39))
    (h4:pick l 4=some (.nilCheck (.tmp 39),some 40))
    (h5:pick l 5=some (.fieldAddr 129 (.tmp 40) 2,some 41))
    (h6:pick l 6=some (.load 3 (.tmp 41),some 42))
    (h7:pick l 7=some (.call { callee:=.value (.func 73),args:=#[.tmp 38,.tmp 42],argTypes:=#[127,3] },some 43))
    (h8:pick l 8=some (.move (.tmp 43),some 35))
    (h9:pick l 9=some (.extract (.tmp 35) 0,some 44))
    (h10:pick l 10=some (.extract (.tmp 35) 1,some 45))
    (h11:pick l 11=some (.assign (.tmp 44),some 2))
    (hs:A.tmps.size=62)
    (x0:A.eval (.tmp 0)=.pointer (some ⟨X,0,none⟩))
    (h:∀ v7 w1,FA v7 w1->wpList Tryz.prog l.toArray Q (l.drop 12) ((((((((((((A.put (some 36) (.pointer (some ⟨X,0,none⟩))).put (some 37) (.pointer (some ⟨X,0,none⟩))).put (some 38) (.pointer (some ⟨X,0,none⟩))).put (some 39) (.pointer (some ⟨X,0,none⟩))).put (some 40) (.pointer (some ⟨X,0,none⟩))).put (some 41) (.pointer (some ⟨X,3,none⟩))).put (some 42) (.int .i64 (N:Nat))).put (some 43) (v7)).put (some 35) (v7)).put (some 44) (tup0 v7)).put (some 45) (tup1 v7)).put (some 2) (tup0 v7)) w1):
    (Code.region id l.toArray true).wp Tryz.prog Q A w:=by
  refine wp_region_head (by kernel_rfl) _ _ _ hB (TnxRegion X N FA A w) ⟨Off.refl _ _,fun _=>(Below.refl _ _).drew,by simp,by simp,by simp,by simp,by simp,by simp,by simp,by simp⟩ ?_ ?_
  · intro s a w' S i' o il ho hsi hT K hK
    have sz:a.tmps.size=62:=by rw [S.off.2.1]; exact hs
    have y0:a.eval (.tmp 0)=.pointer (some ⟨X,0,none⟩):=by rw [S.off.eval (by decide)]; exact x0
    match i',il,ho,hsi,hT with
    | 0,_,ho,hsi,hT=>
      obtain ⟨e1,e2⟩:=pick_of h0 ho
      refine step_val (v:=.pointer (some ⟨X,0,none⟩)) (by simp only [execOp,e1,y0]; go_simp) (hK _ _ ?_)
      rw [e2]
      exact ⟨ofp S.off,fun g=>S.before (by simpa using g),ev_ (by omega),kp S.t1,kp S.t2,kp S.t3,kp S.t4,kp S.t5,kp S.t6,fun g=>(S.t7 (by simpa using g)).imp fun b hb=>⟨by rw [eval_put_ne _ _ _ _ (by decide)]; exact hb.1,hb.2.1,fun g=>by rw [eval_put_ne _ _ _ _ (by decide)]; exact hb.2.2.1 (by simpa using g),fun g=>by rw [eval_put_ne _ _ _ _ (by decide)]; exact hb.2.2.2.1 (by simpa using g),fun g=>by rw [eval_put_ne _ _ _ _ (by decide)]; exact hb.2.2.2.2.1 (by simpa using g),fun g=>by rw [eval_put_ne _ _ _ _ (by decide)]; exact hb.2.2.2.2.2 (by simpa using g)⟩⟩
    | 1,_,ho,hsi,hT=>
      obtain ⟨e1,e2⟩:=pick_of h1 ho
      have D0:s 0=true:=list_pos hT (d:=0) (by decide)
      refine step_val (v:=.pointer (some ⟨X,0,none⟩)) (by simp only [execOp,e1,S.t0 D0]; go_simp) (hK _ _ ?_)
      rw [e2]
      exact ⟨ofp S.off,fun g=>S.before (by simpa using g),kp S.t0,ev_ (by omega),kp S.t2,kp S.t3,kp S.t4,kp S.t5,kp S.t6,fun g=>(S.t7 (by simpa using g)).imp fun b hb=>⟨by rw [eval_put_ne _ _ _ _ (by decide)]; exact hb.1,hb.2.1,fun g=>by rw [eval_put_ne _ _ _ _ (by decide)]; exact hb.2.2.1 (by simpa using g),fun g=>by rw [eval_put_ne _ _ _ _ (by decide)]; exact hb.2.2.2.1 (by simpa using g),fun g=>by rw [eval_put_ne _ _ _ _ (by decide)]; exact hb.2.2.2.2.1 (by simpa using g),fun g=>by rw [eval_put_ne _ _ _ _ (by decide)]; exact hb.2.2.2.2.2 (by simpa using g)⟩⟩
    | 2,_,ho,hsi,hT=>
      obtain ⟨e1,e2⟩:=pick_of h2 ho
      have D1:s 1=true:=list_pos hT (d:=1) (by decide)
      refine step_val (v:=.pointer (some ⟨X,0,none⟩)) (by simp only [execOp,e1,S.t1 D1]; go_simp) (hK _ _ ?_)
      rw [e2]
      exact ⟨ofp S.off,fun g=>S.before (by simpa using g),kp S.t0,kp S.t1,ev_ (by omega),kp S.t3,kp S.t4,kp S.t5,kp S.t6,fun g=>(S.t7 (by simpa using g)).imp fun b hb=>⟨by rw [eval_put_ne _ _ _ _ (by decide)]; exact hb.1,hb.2.1,fun g=>by rw [eval_put_ne _ _ _ _ (by decide)]; exact hb.2.2.1 (by simpa using g),fun g=>by rw [eval_put_ne _ _ _ _ (by decide)]; exact hb.2.2.2.1 (by simpa using g),fun g=>by rw [eval_put_ne _ _ _ _ (by decide)]; exact hb.2.2.2.2.1 (by simpa using g),fun g=>by rw [eval_put_ne _ _ _ _ (by decide)]; exact hb.2.2.2.2.2 (by simpa using g)⟩⟩
    | 3,_,ho,hsi,hT=>
      obtain ⟨e1,e2⟩:=pick_of h3 ho
      refine step_val (v:=.pointer (some ⟨X,0,none⟩)) (by simp only [execOp,e1,y0]; go_simp) (hK _ _ ?_)
      rw [e2]
      exact ⟨ofp S.off,fun g=>S.before (by simpa using g),kp S.t0,kp S.t1,kp S.t2,ev_ (by omega),kp S.t4,kp S.t5,kp S.t6,fun g=>(S.t7 (by simpa using g)).imp fun b hb=>⟨by rw [eval_put_ne _ _ _ _ (by decide)]; exact hb.1,hb.2.1,fun g=>by rw [eval_put_ne _ _ _ _ (by decide)]; exact hb.2.2.1 (by simpa using g),fun g=>by rw [eval_put_ne _ _ _ _ (by decide)]; exact hb.2.2.2.1 (by simpa using g),fun g=>by rw [eval_put_ne _ _ _ _ (by decide)]; exact hb.2.2.2.2.1 (by simpa using g),fun g=>by rw [eval_put_ne _ _ _ _ (by decide)]; exact hb.2.2.2.2.2 (by simpa using g)⟩⟩
    | 4,_,ho,hsi,hT=>
      obtain ⟨e1,e2⟩:=pick_of h4 ho
      have D3:s 3=true:=list_pos hT (d:=3) (by decide)
      refine step_val (v:=.pointer (some ⟨X,0,none⟩)) (by simp only [execOp,e1,S.t3 D3]; go_simp) (hK _ _ ?_)
      rw [e2]
      exact ⟨ofp S.off,fun g=>S.before (by simpa using g),kp S.t0,kp S.t1,kp S.t2,kp S.t3,ev_ (by omega),kp S.t5,kp S.t6,fun g=>(S.t7 (by simpa using g)).imp fun b hb=>⟨by rw [eval_put_ne _ _ _ _ (by decide)]; exact hb.1,hb.2.1,fun g=>by rw [eval_put_ne _ _ _ _ (by decide)]; exact hb.2.2.1 (by simpa using g),fun g=>by rw [eval_put_ne _ _ _ _ (by decide)]; exact hb.2.2.2.1 (by simpa using g),fun g=>by rw [eval_put_ne _ _ _ _ (by decide)]; exact hb.2.2.2.2.1 (by simpa using g),fun g=>by rw [eval_put_ne _ _ _ _ (by decide)]; exact hb.2.2.2.2.2 (by simpa using g)⟩⟩
    | 5,_,ho,hsi,hT=>
      obtain ⟨e1,e2⟩:=pick_of h5 ho
      have D4:s 4=true:=list_pos hT (d:=4) (by decide)
      refine step_val (v:=.pointer (some ⟨X,3,none⟩)) (by simp only [execOp,e1,S.t4 D4]; go_simp) (hK _ _ ?_)
      rw [e2]
      exact ⟨ofp S.off,fun g=>S.before (by simpa using g),kp S.t0,kp S.t1,kp S.t2,kp S.t3,kp S.t4,ev_ (by omega),kp S.t6,fun g=>(S.t7 (by simpa using g)).imp fun b hb=>⟨by rw [eval_put_ne _ _ _ _ (by decide)]; exact hb.1,hb.2.1,fun g=>by rw [eval_put_ne _ _ _ _ (by decide)]; exact hb.2.2.1 (by simpa using g),fun g=>by rw [eval_put_ne _ _ _ _ (by decide)]; exact hb.2.2.2.1 (by simpa using g),fun g=>by rw [eval_put_ne _ _ _ _ (by decide)]; exact hb.2.2.2.2.1 (by simpa using g),fun g=>by rw [eval_put_ne _ _ _ _ (by decide)]; exact hb.2.2.2.2.2 (by simpa using g)⟩⟩
    | 6,_,ho,hsi,hT=>
      obtain ⟨e1,e2⟩:=pick_of h6 ho
      have D5:s 5=true:=list_pos hT (d:=5) (by decide)
      have NL:s 7=false:=list_neg hT (k:=7) (by decide)
      have BW:=S.before NL
      have cl:=(BW.cell (p:=⟨X,3,none⟩) lX).trans c3
      refine step_val (v:=.int .i64 (N:Nat)) (by simp only [execOp,e1,S.t5 D5]; go_simp) (hK _ _ ?_)
      rw [e2]
      exact ⟨ofp S.off,fun g=>S.before (by simpa using g),kp S.t0,kp S.t1,kp S.t2,kp S.t3,kp S.t4,kp S.t5,ev_ (by omega),fun g=>(S.t7 (by simpa using g)).imp fun b hb=>⟨by rw [eval_put_ne _ _ _ _ (by decide)]; exact hb.1,hb.2.1,fun g=>by rw [eval_put_ne _ _ _ _ (by decide)]; exact hb.2.2.1 (by simpa using g),fun g=>by rw [eval_put_ne _ _ _ _ (by decide)]; exact hb.2.2.2.1 (by simpa using g),fun g=>by rw [eval_put_ne _ _ _ _ (by decide)]; exact hb.2.2.2.2.1 (by simpa using g),fun g=>by rw [eval_put_ne _ _ _ _ (by decide)]; exact hb.2.2.2.2.2 (by simpa using g)⟩⟩
    | 7,_,ho,hsi,hT=>
      obtain ⟨e1,e2⟩:=pick_of h7 ho
      have D2:s 2=true:=list_pos hT (d:=2) (by decide)
      have D6:s 6=true:=list_pos hT (d:=6) (by decide)
      have BW:=S.before hsi
      have NL8:s 8=false:=list_neg hT (k:=8) (by decide)
      have NL9:s 9=false:=list_neg hT (k:=9) (by decide)
      have NL10:s 10=false:=list_neg hT (k:=10) (by decide)
      have NL11:s 11=false:=list_neg hT (k:=11) (by decide)
      refine step_callL 73 (fun args w=>by go_simp) _ _ e1 #[.pointer (some ⟨X,0,none⟩),.int .i64 (N:Nat)] (by simp only [List.map_toArray,List.map_cons,List.map_nil,S.t2 D2,S.t6 D6]) (hA w' BW) (fun v w2 FF=>hK _ _ ?_)
      rw [e2]
      exact ⟨ofp S.off,fun g=>absurd g (by simp),kp S.t0,kp S.t1,kp S.t2,kp S.t3,kp S.t4,kp S.t5,kp S.t6,fun _=>⟨_,(eval_put _ _ _ (by omega)).trans rfl,FF,fun g=>absurd g (by simp [NL8]),fun g=>absurd g (by simp [NL9]),fun g=>absurd g (by simp [NL10]),fun g=>absurd g (by simp [NL11])⟩⟩
    | 8,_,ho,hsi,hT=>
      obtain ⟨e1,e2⟩:=pick_of h8 ho
      have D7:s 7=true:=list_pos hT (d:=7) (by decide)
      obtain ⟨v7,M7,F7,Q8,Q9,Q10,Q11⟩:=S.t7 D7
      refine step_val (v:=v7) (by simp only [execOp,e1,M7]; go_simp) (hK _ _ ?_)
      rw [e2]
      exact ⟨ofp S.off,fun g=>S.before (by simpa using g),kp S.t0,kp S.t1,kp S.t2,kp S.t3,kp S.t4,kp S.t5,kp S.t6,fun _=>⟨_,by rw [eval_put_ne _ _ _ _ (by decide)]; exact M7,F7,ev_ (by omega),fun g=>by rw [eval_put_ne _ _ _ _ (by decide)]; exact Q9 (by simpa using g),fun g=>by rw [eval_put_ne _ _ _ _ (by decide)]; exact Q10 (by simpa using g),fun g=>by rw [eval_put_ne _ _ _ _ (by decide)]; exact Q11 (by simpa using g)⟩⟩
    | 9,_,ho,hsi,hT=>
      obtain ⟨e1,e2⟩:=pick_of h9 ho
      have D7:s 7=true:=list_pos hT (d:=7) (by decide)
      have D8:s 8=true:=list_pos hT (d:=8) (by decide)
      obtain ⟨v7,M7,F7,Q8,Q9,Q10,Q11⟩:=S.t7 D7
      obtain ⟨x0,x1,rfl,G1⟩:=hF v7 w' F7
      have F7:FA _ w':=G1
      refine step_val (v:=x0) (by simp only [execOp,e1,Q8 D8]; go_simp) (hK _ _ ?_)
      rw [e2]
      exact ⟨ofp S.off,fun g=>S.before (by simpa using g),kp S.t0,kp S.t1,kp S.t2,kp S.t3,kp S.t4,kp S.t5,kp S.t6,fun _=>⟨_,by rw [eval_put_ne _ _ _ _ (by decide)]; exact M7,F7,fun g=>by rw [eval_put_ne _ _ _ _ (by decide)]; exact Q8 (by simpa using g),ev_ (by omega),fun g=>by rw [eval_put_ne _ _ _ _ (by decide)]; exact Q10 (by simpa using g),fun g=>by rw [eval_put_ne _ _ _ _ (by decide)]; exact Q11 (by simpa using g)⟩⟩
    | 10,_,ho,hsi,hT=>
      obtain ⟨e1,e2⟩:=pick_of h10 ho
      have D7:s 7=true:=list_pos hT (d:=7) (by decide)
      have D8:s 8=true:=list_pos hT (d:=8) (by decide)
      obtain ⟨v7,M7,F7,Q8,Q9,Q10,Q11⟩:=S.t7 D7
      obtain ⟨x0,x1,rfl,G1⟩:=hF v7 w' F7
      have F7:FA _ w':=G1
      refine step_val (v:=x1) (by simp only [execOp,e1,Q8 D8]; go_simp) (hK _ _ ?_)
      rw [e2]
      exact ⟨ofp S.off,fun g=>S.before (by simpa using g),kp S.t0,kp S.t1,kp S.t2,kp S.t3,kp S.t4,kp S.t5,kp S.t6,fun _=>⟨_,by rw [eval_put_ne _ _ _ _ (by decide)]; exact M7,F7,fun g=>by rw [eval_put_ne _ _ _ _ (by decide)]; exact Q8 (by simpa using g),fun g=>by rw [eval_put_ne _ _ _ _ (by decide)]; exact Q9 (by simpa using g),ev_ (by omega),fun g=>by rw [eval_put_ne _ _ _ _ (by decide)]; exact Q11 (by simpa using g)⟩⟩
    | 11,_,ho,hsi,hT=>
      obtain ⟨e1,e2⟩:=pick_of h11 ho
      have D7:s 7=true:=list_pos hT (d:=7) (by decide)
      have D8:s 8=true:=list_pos hT (d:=8) (by decide)
      have D9:s 9=true:=list_pos hT (d:=9) (by decide)
      obtain ⟨v7,M7,F7,Q8,Q9,Q10,Q11⟩:=S.t7 D7
      refine step_val (v:=tup0 v7) (by simp only [execOp,e1,Q9 D9]; go_simp) (hK _ _ ?_)
      rw [e2]
      exact ⟨ofp S.off,fun g=>S.before (by simpa using g),kp S.t0,kp S.t1,kp S.t2,kp S.t3,kp S.t4,kp S.t5,kp S.t6,fun _=>⟨_,by rw [eval_put_ne _ _ _ _ (by decide)]; exact M7,F7,fun g=>by rw [eval_put_ne _ _ _ _ (by decide)]; exact Q8 (by simpa using g),fun g=>by rw [eval_put_ne _ _ _ _ (by decide)]; exact Q9 (by simpa using g),fun g=>by rw [eval_put_ne _ _ _ _ (by decide)]; exact Q10 (by simpa using g),ev_ (by omega)⟩⟩
    | _ + 12,il,_,_,_=>exact absurd il (by omega)
  intro s a w' S hall
  have a0:=hall 0 (by omega)
  have a1:=hall 1 (by omega)
  have a2:=hall 2 (by omega)
  have a3:=hall 3 (by omega)
  have a4:=hall 4 (by omega)
  have a5:=hall 5 (by omega)
  have a6:=hall 6 (by omega)
  have a7:=hall 7 (by omega)
  have a8:=hall 8 (by omega)
  have a9:=hall 9 (by omega)
  have a10:=hall 10 (by omega)
  have a11:=hall 11 (by omega)
  have e:=off_norm _ (by intro d hd; simp at hd; omega) S.off
  obtain ⟨v7,M7,F7,Q8,Q9,Q10,Q11⟩:=S.t7 a7
  simp only [List.foldl,S.t0 a0,S.t1 a1,S.t2 a2,S.t3 a3,S.t4 a4,S.t5 a5,S.t6 a6,M7,Q8 a8,Q9 a9,Q10 a10,Q11 a11] at e
  rw [e]
  exact h _ _ F7
theorem tnext_none {w:World} {n0 X n r:Nat} {va vb:Value} {B:List UInt8} {G:List Nat} (h:PFl w n0 X n r va vb B G) (hr:r<=B.length) (hB:B.length<=100000) (hz:B.length=r):Calls Tryz.prog 42 #[.pointer (some ⟨X,0,none⟩)] w fun e w'=>e=.returned (.tuple #[.string ⟨#[]⟩,.int .i64 0,.bool false])/\∃ m,w'=w.drewN m:=by
  have WT:=Lib.hid (twaiting_any h hr (by omega))
  rw [show B.length - r=0 by omega] at WT
  clear h hr hB hz
  go_enter Tryz.func42,Tryz.ntmps42
  go_wp2_with fail
  (with_reducible refine WT.out.mono ?_)
  rintro e w' ⟨rfl,m,rfl⟩
  go_wp2_with fail
  go_ret3
  exact ⟨rfl,m,rfl⟩
theorem tnext_full {w:World} {n0 X n r:Nat} {va vb:Value} {B:List UInt8} {G:List Nat} (h:PFl w n0 X n r va vb B G) (hr:r<=B.length) (hB:B.length<=100000) (hG:G.length<=100000) (hGb:∀ g ∈ G,g<=100000) (hn:32<=n/\n<=200) (hn0:n0<=w.heap.size) (hw:r < B.length) (hf:n<=B.length):Calls Tryz.prog 42 #[.pointer (some ⟨X,0,none⟩)] w fun e w'=>e=.returned (.tuple #[.string (bs (B.take n)),.int .i64 (Tm.fstAt G n:Nat),.bool true])/\∃ va' vb',PFl w' n0 X n 0 va' vb' (B.drop n) (Tm.cutG G n B.length)/\KF n0 (SX X va vb) (SX X va' vb') w w':=by
  obtain ⟨a0,c0',hva,_,_⟩:=h.ba.is
  rw [bcs_len] at hva
  have H:=Lib.hid h
  have WT:=Lib.hid (twaiting_any h hr (by omega))
  have c0:∀ w2,Below w.heap.size w w2->w2.cell? ⟨X,0,none⟩=some (.slice a0 B.length c0'):=fun w2 hb=>by
    rw [(h.below hb).cx.cell (j:=0) (by omega),<-hva]
    rfl
  have c3:∀ w2,Below w.heap.size w w2->w2.cell? ⟨X,3,none⟩=some (.int .i64 (n:Nat)):=fun w2 hb=>(h.below hb).cx.cell (j:=3) (by omega)
  obtain ⟨L,hL⟩:∃ L,B.length=L:=⟨_,rfl⟩
  obtain ⟨k,hk⟩:∃ k,L - r=k:=⟨_,rfl⟩
  rw [hL] at c0
  rw [hL,hk] at WT
  rw [hL] at hr hw hB
  have q0:((k:Int) == 0)=false:=by simp; omega
  have q0n:(k == 0)=false:=by simp; omega
  have HC0:=Lib.hid c0
  have HC3:=Lib.hid c3
  rw [hL] at hf
  obtain ⟨mi,hmi⟩:∃ mi,(n:Int) - (L:Int)=mi:=⟨_,rfl⟩
  have e3:wrap64 ((n:Int) - (L:Int))=mi:=by rw [hmi]; unfold wrap64; omega
  have t1:decide (0 < mi)=false:=decide_eq_false (by omega)
  have GB:=Lib.hid (show G.length<=1000000/\(∀ g ∈ G,g<=1000000)/\B.length<=1000000/\n<=B.length/\0 < n/\n0<=w.heap.size from ⟨by omega,fun g hg=>Nat.le_trans (hGb g hg) (by omega),by omega,by omega,by omega,hn0⟩)
  clear h hr hw hB hG hGb hn hn0 hf hL hk hva c0 c3 hmi
  go_enter Tryz.func42,Tryz.ntmps42
  go_wp2_with fail
  (with_reducible refine WT.out.mono ?_)
  rintro e w2 ⟨rfl,m,hm⟩
  have B2:=Lib.hid (show Below w.heap.size w w2 by rw [hm]; exact below_drewN (Below.refl _ _) _)
  have c0:=HC0.out w2 B2.out
  have c3:=HC3.out w2 B2.out
  clear hm
  go_wp2_with fail
  go_quiet (fail)
  have B3:=Lib.hid (below_drewN B2.out nq)
  generalize w2.drewN nq=w3 at B3 ⊢
  go_upto_region 7 with fail
  refine tnxRegion X n (fun v w2=>v=.tuple #[.string (bs ((B).take n)),.int .i64 (Tm.fstAt (G) n:Nat)]/\∃ va' vb',PFl w2 n0 X n r va' vb' ((B).drop n) (Tm.cutG (G) n (B).length)/\KF n0 (SX X va vb) (SX X va' vb') w w2) (H.out.below B3.out).cx.lt ((H.out.below B3.out).cx.cell (j:=3) (by omega)) (fun w' hb'=>(cut_any (((H.out.below B3.out)).below hb') GB.out.1 GB.out.2.1 GB.out.2.2.1 n GB.out.2.2.2.2.1 GB.out.2.2.2.1 (Nat.le_trans (Nat.le_trans GB.out.2.2.2.2.2 B3.out.size) hb'.size)).mono (fun e w2 ⟨g1,va',vb',g2,g3⟩=>⟨_,g1,rfl,va',vb',g2,((KF.of_below (B3.out.trans (hb'.mono B3.out.size)) GB.out.2.2.2.2.2).trans g3)⟩)) (fun v w' F=>by
    obtain ⟨rfl,F⟩:=F
    exact ⟨_,_,rfl,rfl,F⟩) (by kernel_rfl) rfl rfl rfl rfl rfl rfl rfl rfl rfl rfl rfl rfl rfl rfl ?_
  rintro v7 w7 ⟨rfl,va',vb',P7,K7⟩
  have HP7:=Lib.hid P7
  have HK7:=Lib.hid K7
  obtain ⟨za,zc,hza,_,_⟩:=P7.ba.is
  rw [bcs_len] at hza
  have HZA:=Lib.hid hza
  clear P7 K7 hza
  simp only [Act.put,List.setIfInBounds_toArray,List.set_cons_succ,List.set_cons_zero,List.drop_succ_cons,List.drop_zero,tup0_mk,tup1_mk]
  go_wp2_with ((with_reducible refine atList ?_); refine wpList_setT rfl (.store 3 (.tmp 48) (.const (.int .i64 0))) rfl X 4 5 (.int .i64 0) _ (pfC X n 0 va' vb') HP7.out.cx (by omega) (fun j hj=>by match j,hj with | 0,_=>rfl | 1,_=>rfl | 2,_=>rfl | 3,_=>rfl | 4,_=>rfl) (store_int rfl rfl rfl (HP7.out.cx.cell (j:=4) (by omega)) (HP7.out.cx.frozen (j:=4) (by omega))) ?_; intro w8 C8 U8 S8 V8)
  go_ret3
  exact ⟨rfl,va',vb',HP7.out.setRest C8.out U8.out V8.out,HK7.out.trans (but_kf U8.out HP7.out.xl)⟩
theorem idle_len (k:Nat) (h:7<=k):(Pk.enc (pkIdle (k - 6))).length=k:=by
  rw [Pk.enc_len]
  show 6 + (zer (k - 6)).size=k
  rw [zer_size]
  omega
theorem tnext_idle {w:World} {n0 X n r:Nat} {va vb:Value} {B:List UInt8} {G:List Nat} (h:PFl w n0 X n r va vb B G) (hr:r<=B.length) (hB:B.length<=100000) (hG:G.length<=100000) (hGb:∀ g ∈ G,g<=100000) (hn:32<=n/\n<=200) (hn0:n0<=w.heap.size) (hw:r < B.length) (hf:B.length < n) (I:List UInt8) (hI:I=Pk.enc (pkIdle (max (n - B.length) 7 - 6))):Calls Tryz.prog 42 #[.pointer (some ⟨X,0,none⟩)] w fun e w'=>e=.returned (.tuple #[.string (bs ((B ++ I).take n)),.int .i64 (Tm.fstAt (G ++ [B.length]) n:Nat),.bool true])/\∃ va' vb',PFl w' n0 X n ((B ++ I).drop n).length va' vb' ((B ++ I).drop n) (Tm.cutG (G ++ [B.length]) n (B ++ I).length)/\KF n0 (SX X va vb) (SX X va' vb') w w':=by
  obtain ⟨a0,c0',hva,_,_⟩:=h.ba.is
  rw [bcs_len] at hva
  have H:=Lib.hid h
  have WT:=Lib.hid (twaiting_any h hr (by omega))
  have c0:∀ w2,Below w.heap.size w w2->w2.cell? ⟨X,0,none⟩=some (.slice a0 B.length c0'):=fun w2 hb=>by
    rw [(h.below hb).cx.cell (j:=0) (by omega),<-hva]
    rfl
  have c3:∀ w2,Below w.heap.size w w2->w2.cell? ⟨X,3,none⟩=some (.int .i64 (n:Nat)):=fun w2 hb=>(h.below hb).cx.cell (j:=3) (by omega)
  obtain ⟨L,hL⟩:∃ L,B.length=L:=⟨_,rfl⟩
  obtain ⟨k,hk⟩:∃ k,L - r=k:=⟨_,rfl⟩
  rw [hL] at c0
  rw [hL,hk] at WT
  rw [hL] at hr hw hB
  have q0:((k:Int) == 0)=false:=by simp; omega
  have q0n:(k == 0)=false:=by simp; omega
  have HC0:=Lib.hid c0
  have HC3:=Lib.hid c3
  rw [hL] at hf hI
  obtain ⟨q,hq⟩:∃ q,n - L=q:=⟨_,rfl⟩
  have e3:wrap64 ((n:Int) - (L:Int))=(q:Int):=by unfold wrap64; omega
  have t1:decide (0 < (q:Int))=true:=decide_eq_true (by omega)
  have t1n:decide (0 < q)=true:=decide_eq_true (by omega)
  obtain ⟨s,hs⟩:∃ s,max q 7=s:=⟨_,rfl⟩
  rw [hq,hs] at hI
  have mx:max (q:Int) 7=(s:Int):=by omega
  have IC:=Lib.hid (fun w=>pidle_any s (by omega) (by omega) w)
  rw [<-hI] at IC
  have Il:I.length=s:=by rw [hI]; exact idle_len s (by omega)
  have GB:=Lib.hid (show (G ++ [L]).length<=1000000/\(∀ g ∈ G ++ [L],g<=1000000)/\(B ++ I).length<=1000000/\n<=(B ++ I).length/\0 < n/\n0<=w.heap.size/\G.length<=1000000/\(bs I).size<=1000000/\0 < (bs I).size from ⟨by rw [List.length_append]; simp; omega,fun g hg=>by
    rcases List.mem_append.1 hg with e | e
    · exact Nat.le_trans (hGb g e) (by omega)
    rw [List.mem_singleton.1 e]; omega,by rw [List.length_append]; omega,by rw [List.length_append]; omega,by omega,hn0,by omega,by rw [bs_size]; omega,by rw [bs_size]; omega⟩)
  have BL:=Lib.hid (show B.length=L/\L<=100000 from ⟨hL,hB⟩)
  have s7:s<=1000:=by omega
  clear h hr hw hB hG hGb hn hn0 hf hL hk hva c0 c3 hs Il hq hI
  go_enter Tryz.func42,Tryz.ntmps42
  go_wp2_with fail
  (with_reducible refine WT.out.mono ?_)
  rintro e w2 ⟨rfl,m,hm⟩
  have B2:=Lib.hid (show Below w.heap.size w w2 by rw [hm]; exact below_drewN (Below.refl _ _) _)
  have c0:=HC0.out w2 B2.out
  have c3:=HC3.out w2 B2.out
  clear hm
  go_wp2_with fail
  go_quiet (fail)
  have B3:=Lib.hid (below_drewN B2.out nq)
  generalize w2.drewN nq=w3 at B3 ⊢
  go_upto_region 7 with fail
  (with_reducible refine (IC.out _).mono ?_)
  rintro e w4 ⟨rfl,h4⟩
  have B4:=Lib.hid (bt B3.out h4)
  clear h4
  go_upto_region 7 with fail
  (with_reducible refine (tadd_any (H.out.below B4.out) (bs I) GB.out.2.2.2.2.2.2.2.2 GB.out.2.2.2.2.2.2.2.1 (by have:=BL.out; omega) GB.out.2.2.2.2.2.2.1 (Nat.le_trans GB.out.2.2.2.2.2.1 B4.out.size)).mono ?_)
  rintro e w5 ⟨⟨v5,rfl⟩,va1,vb1,P5,K5⟩
  rw [bs_list,BL.out.1] at P5
  have HP5:=Lib.hid P5
  have HK5:=Lib.hid ((KF.of_below B4.out GB.out.2.2.2.2.2.1).trans K5)
  have HB5:=Lib.hid (show w.heap.size<=w5.heap.size from by
    have:=K5.below.size
    have:=B4.out.size
    omega)
  clear P5 K5
  go_upto_region 7 with fail
  refine tnxRegion X n (fun v w2=>v=.tuple #[.string (bs ((B ++ I).take n)),.int .i64 (Tm.fstAt (G ++ [L]) n:Nat)]/\∃ va' vb',PFl w2 n0 X n r va' vb' ((B ++ I).drop n) (Tm.cutG (G ++ [L]) n (B ++ I).length)/\KF n0 (SX X va vb) (SX X va' vb') w w2) HP5.out.cx.lt (HP5.out.cx.cell (j:=3) (by omega)) (fun w' hb'=>(cut_any ((HP5.out).below hb') GB.out.1 GB.out.2.1 GB.out.2.2.1 n GB.out.2.2.2.2.1 GB.out.2.2.2.1 (Nat.le_trans (Nat.le_trans GB.out.2.2.2.2.2.1 HB5.out) hb'.size)).mono (fun e w2 ⟨g1,va',vb',g2,g3⟩=>⟨_,g1,rfl,va',vb',g2,(HK5.out.trans ((KF.of_below hb' (Nat.le_trans GB.out.2.2.2.2.2.1 HB5.out)).trans g3))⟩)) (fun v w' F=>by
    obtain ⟨rfl,F⟩:=F
    exact ⟨_,_,rfl,rfl,F⟩) (by kernel_rfl) rfl rfl rfl rfl rfl rfl rfl rfl rfl rfl rfl rfl rfl rfl ?_
  rintro v7 w7 ⟨rfl,va',vb',P7,K7⟩
  have HP7:=Lib.hid P7
  have HK7:=Lib.hid K7
  obtain ⟨za,zc,hza,_,_⟩:=P7.ba.is
  rw [bcs_len] at hza
  have HZA:=Lib.hid hza
  clear P7 K7 hza
  simp only [Act.put,List.setIfInBounds_toArray,List.set_cons_succ,List.set_cons_zero,List.drop_succ_cons,List.drop_zero,tup0_mk,tup1_mk]
  obtain ⟨N2,hN2⟩:∃ N2,((B ++ I).drop n).length=N2:=⟨_,rfl⟩
  have HN2:=Lib.hid hN2
  rw [hN2] at HZA
  clear hN2
  go_wp2_with (first
    | ((with_reducible refine atList ?_); refine wpList_setT rfl (.store 3 (.tmp 48) (.const (.int .i64 0))) rfl X 4 5 (.int .i64 0) _ (pfC X n 0 va' vb') HP7.out.cx (by omega) (fun j hj=>by match j,hj with | 0,_=>rfl | 1,_=>rfl | 2,_=>rfl | 3,_=>rfl | 4,_=>rfl) (store_int rfl rfl rfl (HP7.out.cx.cell (j:=4) (by omega)) (HP7.out.cx.frozen (j:=4) (by omega))) ?_; intro w8 C8 U8 S8 V8; have c08:w8.cell? ⟨X,0,none⟩=some (.slice za N2 zc):=by rw [C8.out.cell (j:=0) (by omega)]; show some va'=_; rw [HZA.out])
    | ((with_reducible refine atList ?_); refine wpList_setT rfl (.store 3 (.tmp 59) (.tmp 57)) rfl X 4 5 (.int .i64 (N2:Nat)) _ (pfC X n N2 va' vb') C8.out (by omega) (fun j hj=>by match j,hj with | 0,_=>rfl | 1,_=>rfl | 2,_=>rfl | 3,_=>rfl | 4,_=>rfl) (store_int rfl rfl rfl (C8.out.cell (j:=4) (by omega)) (C8.out.frozen (j:=4) (by omega))) ?_; intro w9 C9 U9 S9 V9))
  go_ret3
  have P8:=HP7.out.setRest C8.out U8.out V8.out
  have P9:=P8.setRest C9.out U9.out V9.out
  rw [HN2.out,BL.out.1]
  exact ⟨rfl,va',vb',P9,(HK7.out.trans (but_kf U8.out HP7.out.xl)).trans (but_kf U9.out HP7.out.xl)⟩
end Go.Proofs.YtchfkncbemjepaaGreat
