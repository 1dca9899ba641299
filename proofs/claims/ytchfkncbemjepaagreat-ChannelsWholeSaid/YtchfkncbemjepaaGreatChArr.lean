/- ChArr -/
import Derived.Test.YtchfkncbemjepaaGreatChDm
import Derived.Test.YtchfkncbemjepaaGreatPpTake
set_option linter.unusedVariables false
set_option maxRecDepth 100000
set_option maxHeartbeats 4000000
/- Layer 11, the landed demux: arrive, giveUp, the counters. -/
namespace Go.Proofs.YtchfkncbemjepaaGreat
open Go.RowKit

def StrAt (n0:Nat) (z:ByteArray) (v:Value) (w:World):Prop:=∃ g,v=.slice (some ⟨g,0,none⟩) 1 1/\n0<=g/\w.cell? ⟨g,0,none⟩=some (.string z)
theorem StrAt.mono {n0:Nat} {z:ByteArray} {v:Value} {w w':World} (h:StrAt n0 z v w) (hb:Below w.heap.size w w'):StrAt n0 z v w':=by
  obtain ⟨g,e,h1,h2⟩:=h
  refine ⟨g,e,h1,(hb.cell (p:=⟨g,0,none⟩) ?_).trans h2⟩
  exact World.block_lt_of_cell? _ _ h2
theorem StrAt.new (n0:Nat) (z:ByteArray) (w:World) (h:n0<=w.heap.size):StrAt n0 z (.slice (some ⟨w.heap.size,0,none⟩) 1 1) (w.alloc (.cells #[.string z] 9)):=⟨_,rfl,h,World.cell?_alloc_new w _ _ 0⟩
theorem step_appendC {P:Program} {FA:Value->World->Prop} {o:Oper} {a:Act} {w:World} {K:Act->World->Prop} {Q:Exit->Act->World->Prop} (s x:Operand) (t tx:TypeId) (ho:o.op=.call { callee:=.builtin .append,args:=#[s,x],argTypes:=#[t,tx] }) (v xv:Value) (hv:a.eval s=v) (hx:a.eval x=xv)
    (hr:∃ v' w',(Builtin.append_ #[t,tx] o.type #[v,xv]).run P w=.ok v' w'/\FA v' w') (h:∀ v' w',FA v' w'->K (a.put o.dst v') w'):o.wp P a w K Q:=by
  obtain ⟨v',w',hr,F⟩:=hr
  unfold Oper.wp execOp
  simp only [ho,resolve,invoke,builtin,Sem.run_bind,Sem.run_pure,Result.andThen_ok,List.map_toArray,List.map_cons,List.map_nil,hv,hx,hr]
  exact h _ _ F
structure ArRegion (G gn gc:Nat) (ga:Option Addr) (z:ByteArray) (FA:Value->World->Prop) (A:Act) (w0:World) (s:Nat->Bool) (a:Act) (w:World):Prop where
  off:Off [9,10,11,12,13,14,15,16,17] a A
  before:s 8=false->Below w0.heap.size w0 w
  t0:s 0=true->a.eval (.tmp 9)=.pointer (some ⟨G,0,none⟩)
  t1:s 1=true->a.eval (.tmp 10)=.pointer (some ⟨G,0,none⟩)
  t2:s 2=true->a.eval (.tmp 11)=.pointer (some ⟨G,0,none⟩)
  t3:s 3=true->a.eval (.tmp 12)=.pointer (some ⟨G,4,none⟩)
  t4:s 4=true->a.eval (.tmp 13)=.slice ga gn gc
  t5:s 5=true->a.eval (.tmp 14)=.string z
  t6:s 6=true->a.eval (.tmp 15)=.string z
  t7:s 7=true->∃ v7,a.eval (.tmp 16)=v7/\(s 8=false->StrAt w0.heap.size z v7 w)
  t8:s 8=true->∃ v8,a.eval (.tmp 17)=v8/\FA v8 w
theorem arRegion {id:Nat} {l:List Oper} {A:Act} {w:World} {Q:Exit->Act->World->Prop} (G gn gc:Nat) (ga:Option Addr) (z:ByteArray) (FA:Value->World->Prop)
    (lG:G < w.heap.size) (cG:w.cell? ⟨G,4,none⟩=some (.slice ga gn gc))
    (hC:∀ w',Calls Tryz.prog 53 #[.string z] w' fun e w2=>e=.returned (.string z)/\Below w'.heap.size w' w2)
    (hA:∀ ty w',Below w.heap.size w w'->∀ gb,w.heap.size<=gb->w'.cell? ⟨gb,0,none⟩=some (.string z)->∃ v' w2,(Builtin.append_ #[43,43] ty #[.slice ga gn gc,.slice (some ⟨gb,0,none⟩) 1 1]).run Tryz.prog w'=.ok v' w2/\FA v' w2)
    (hB:tableH l.toArray 9 (fun i=>match i with | 0=>[] | 1=>[] | 2=>[1] | 3=>[2] | 4=>[3] | 5=>[] | 6=>[5] | 7=>[6] | 8=>[4,7] | _=>[]) (fun i=>match i with | 4=>[8] | 6=>[8] | 7=>[8] | _=>[])=true)
    (h0:pick l 0=some (.move (.tmp 2),some 9))
    (h1:pick l 1=some (.move (.tmp 2),some 10))
    (h2:pick l 2=some (.nilCheck (.tmp 10),some 11))
    (h3:pick l 3=some (.fieldAddr 51 (.tmp 11) 4,some 12))
    (h4:pick l 4=some (.load 43 (.tmp 12),some 13))
    (h5:pick l 5=some (.move (.tmp 1),some 14))
    (h6:pick l 6=some (.call { callee:=.value (.func 53),args:=#[.tmp 14],argTypes:=#[9] },some 15))
    (h7:pick l 7=some (.buildSlice 43 1 #[(0,.tmp 15)],some 16))
    (h8:pick l 8=some (.call { callee:=.builtin .append,args:=#[.tmp 13,.tmp 16],argTypes:=#[43,43] },some 17))
    (hs:A.tmps.size=20)
    (x2:A.eval (.tmp 2)=.pointer (some ⟨G,0,none⟩))
    (x1:A.eval (.tmp 1)=.string z)
    (h:∀ v7 v8 w1,FA v8 w1->wpList Tryz.prog l.toArray Q (l.drop 9) (((((((((A.put (some 9) (.pointer (some ⟨G,0,none⟩))).put (some 10) (.pointer (some ⟨G,0,none⟩))).put (some 11) (.pointer (some ⟨G,0,none⟩))).put (some 12) (.pointer (some ⟨G,4,none⟩))).put (some 13) (.slice ga gn gc)).put (some 14) (.string z)).put (some 15) (.string z)).put (some 16) (v7)).put (some 17) (v8)) w1):
    (Code.region id l.toArray true).wp Tryz.prog Q A w:=by
  refine wp_region_head (by kernel_rfl) _ _ _ hB (ArRegion G gn gc ga z FA A w) ⟨Off.refl _ _,fun _=>(Below.refl _ _).drew,by simp,by simp,by simp,by simp,by simp,by simp,by simp,by simp,by simp⟩ ?_ ?_
  · intro s a w' S i' o il ho hsi hT K hK
    have sz:a.tmps.size=20:=by rw [S.off.2.1]; exact hs
    have y2:a.eval (.tmp 2)=.pointer (some ⟨G,0,none⟩):=by rw [S.off.eval (by decide)]; exact x2
    have y1:a.eval (.tmp 1)=.string z:=by rw [S.off.eval (by decide)]; exact x1
    match i',il,ho,hsi,hT with
    | 0,_,ho,hsi,hT=>
      obtain ⟨e1,e2⟩:=pick_of h0 ho
      refine step_val (v:=.pointer (some ⟨G,0,none⟩)) (by simp only [execOp,e1,y2]; go_simp) (hK _ _ ?_)
      rw [e2]
      exact ⟨ofp S.off,fun g=>S.before (by simpa using g),ev_ (by omega),kp S.t1,kp S.t2,kp S.t3,kp S.t4,kp S.t5,kp S.t6,fun g=>(S.t7 (by simpa using g)).imp fun b hb=>⟨by rw [eval_put_ne _ _ _ _ (by decide)]; exact hb.1,fun q=>hb.2 (by simpa using q)⟩,fun g=>(S.t8 (by simpa using g)).imp fun b hb=>⟨by rw [eval_put_ne _ _ _ _ (by decide)]; exact hb.1,hb.2⟩⟩
    | 1,_,ho,hsi,hT=>
      obtain ⟨e1,e2⟩:=pick_of h1 ho
      refine step_val (v:=.pointer (some ⟨G,0,none⟩)) (by simp only [execOp,e1,y2]; go_simp) (hK _ _ ?_)
      rw [e2]
      exact ⟨ofp S.off,fun g=>S.before (by simpa using g),kp S.t0,ev_ (by omega),kp S.t2,kp S.t3,kp S.t4,kp S.t5,kp S.t6,fun g=>(S.t7 (by simpa using g)).imp fun b hb=>⟨by rw [eval_put_ne _ _ _ _ (by decide)]; exact hb.1,fun q=>hb.2 (by simpa using q)⟩,fun g=>(S.t8 (by simpa using g)).imp fun b hb=>⟨by rw [eval_put_ne _ _ _ _ (by decide)]; exact hb.1,hb.2⟩⟩
    | 2,_,ho,hsi,hT=>
      obtain ⟨e1,e2⟩:=pick_of h2 ho
      have D1:s 1=true:=list_pos hT (d:=1) (by decide)
      refine step_val (v:=.pointer (some ⟨G,0,none⟩)) (by simp only [execOp,e1,S.t1 D1]; go_simp) (hK _ _ ?_)
      rw [e2]
      exact ⟨ofp S.off,fun g=>S.before (by simpa using g),kp S.t0,kp S.t1,ev_ (by omega),kp S.t3,kp S.t4,kp S.t5,kp S.t6,fun g=>(S.t7 (by simpa using g)).imp fun b hb=>⟨by rw [eval_put_ne _ _ _ _ (by decide)]; exact hb.1,fun q=>hb.2 (by simpa using q)⟩,fun g=>(S.t8 (by simpa using g)).imp fun b hb=>⟨by rw [eval_put_ne _ _ _ _ (by decide)]; exact hb.1,hb.2⟩⟩
    | 3,_,ho,hsi,hT=>
      obtain ⟨e1,e2⟩:=pick_of h3 ho
      have D2:s 2=true:=list_pos hT (d:=2) (by decide)
      refine step_val (v:=.pointer (some ⟨G,4,none⟩)) (by simp only [execOp,e1,S.t2 D2]; go_simp) (hK _ _ ?_)
      rw [e2]
      exact ⟨ofp S.off,fun g=>S.before (by simpa using g),kp S.t0,kp S.t1,kp S.t2,ev_ (by omega),kp S.t4,kp S.t5,kp S.t6,fun g=>(S.t7 (by simpa using g)).imp fun b hb=>⟨by rw [eval_put_ne _ _ _ _ (by decide)]; exact hb.1,fun q=>hb.2 (by simpa using q)⟩,fun g=>(S.t8 (by simpa using g)).imp fun b hb=>⟨by rw [eval_put_ne _ _ _ _ (by decide)]; exact hb.1,hb.2⟩⟩
    | 4,_,ho,hsi,hT=>
      obtain ⟨e1,e2⟩:=pick_of h4 ho
      have D3:s 3=true:=list_pos hT (d:=3) (by decide)
      have NL:s 8=false:=list_neg hT (k:=8) (by decide)
      have BW:=S.before NL
      have cl:=(BW.cell (p:=⟨G,4,none⟩) lG).trans cG
      refine step_val (v:=.slice ga gn gc) (by simp only [execOp,e1,S.t3 D3]; go_simp) (hK _ _ ?_)
      rw [e2]
      exact ⟨ofp S.off,fun g=>S.before (by simpa using g),kp S.t0,kp S.t1,kp S.t2,kp S.t3,ev_ (by omega),kp S.t5,kp S.t6,fun g=>(S.t7 (by simpa using g)).imp fun b hb=>⟨by rw [eval_put_ne _ _ _ _ (by decide)]; exact hb.1,fun q=>hb.2 (by simpa using q)⟩,fun g=>(S.t8 (by simpa using g)).imp fun b hb=>⟨by rw [eval_put_ne _ _ _ _ (by decide)]; exact hb.1,hb.2⟩⟩
    | 5,_,ho,hsi,hT=>
      obtain ⟨e1,e2⟩:=pick_of h5 ho
      refine step_val (v:=.string z) (by simp only [execOp,e1,y1]; go_simp) (hK _ _ ?_)
      rw [e2]
      exact ⟨ofp S.off,fun g=>S.before (by simpa using g),kp S.t0,kp S.t1,kp S.t2,kp S.t3,kp S.t4,ev_ (by omega),kp S.t6,fun g=>(S.t7 (by simpa using g)).imp fun b hb=>⟨by rw [eval_put_ne _ _ _ _ (by decide)]; exact hb.1,fun q=>hb.2 (by simpa using q)⟩,fun g=>(S.t8 (by simpa using g)).imp fun b hb=>⟨by rw [eval_put_ne _ _ _ _ (by decide)]; exact hb.1,hb.2⟩⟩
    | 6,_,ho,hsi,hT=>
      obtain ⟨e1,e2⟩:=pick_of h6 ho
      have D5:s 5=true:=list_pos hT (d:=5) (by decide)
      have NL:s 8=false:=list_neg hT (k:=8) (by decide)
      have BW:=S.before NL
      refine step_call 53 (fun args w=>by go_simp) _ _ e1 #[.string z] (by simp only [List.map_toArray,List.map_cons,List.map_nil,S.t5 D5] <;> rfl) ((hC w').mono ?_)
      rintro e w2 ⟨rfl,BB⟩
      refine ⟨_,rfl,hK _ _ ?_⟩
      rw [e2]
      exact ⟨ofp S.off,fun g=>bt BW BB,kp S.t0,kp S.t1,kp S.t2,kp S.t3,kp S.t4,kp S.t5,ev_ (by omega),fun g=>(S.t7 (by simpa using g)).imp fun b hb=>⟨by rw [eval_put_ne _ _ _ _ (by decide)]; exact hb.1,fun q=>StrAt.mono (hb.2 (by simpa using q)) BB⟩,fun g=>absurd (show s 8=true by simpa using g) (by simp [NL])⟩
    | 7,_,ho,hsi,hT=>
      obtain ⟨e1,e2⟩:=pick_of h7 ho
      have D6:s 6=true:=list_pos hT (d:=6) (by decide)
      have NL:s 8=false:=list_neg hT (k:=8) (by decide)
      have BW:=S.before NL
      have q15:a.tmps[15]'(by omega)=.string z:=by have:=S.t6 D6; simpa [Act.eval,sz] using this
      refine step_to1 (w2:=w'.alloc (.cells #[.string z] 9)) (v:=.slice (some ⟨w'.heap.size,0,none⟩) 1 1) (by simp only [execOp,e1]; go_simp) (hK _ _ ?_)
      have BB:=ba (Below.refl w'.heap.size w') (.cells #[.string z] 9)
      have FF:=StrAt.new _ z w' BW.size
      rw [e2]
      exact ⟨ofp S.off,fun g=>bt BW BB,kp S.t0,kp S.t1,kp S.t2,kp S.t3,kp S.t4,kp S.t5,kp S.t6,fun _=>⟨_,(eval_put _ _ _ (by omega)).trans rfl,fun _=>FF⟩,fun g=>absurd (show s 8=true by simpa using g) (by simp [NL])⟩
    | 8,_,ho,hsi,hT=>
      obtain ⟨e1,e2⟩:=pick_of h8 ho
      have D4:s 4=true:=list_pos hT (d:=4) (by decide)
      have D7:s 7=true:=list_pos hT (d:=7) (by decide)
      have BW:=S.before hsi
      obtain ⟨v7,M7,F7⟩:=S.t7 D7
      have F7:=F7 hsi
      obtain ⟨gb,rfl,G1,G2⟩:=F7
      refine step_appendC (.tmp 13) (.tmp 16) 43 43 e1 (.slice ga gn gc) (.slice (some ⟨gb,0,none⟩) 1 1) (S.t4 D4) M7 (hA _ w' BW gb G1 G2) (fun v w2 FF=>hK _ _ ?_)
      rw [e2]
      exact ⟨ofp S.off,fun g=>absurd g (by simp),kp S.t0,kp S.t1,kp S.t2,kp S.t3,kp S.t4,kp S.t5,kp S.t6,fun g=>(S.t7 (by simpa using g)).imp fun b hb=>⟨by rw [eval_put_ne _ _ _ _ (by decide)]; exact hb.1,fun q=>absurd q (by simp)⟩,fun _=>⟨_,(eval_put _ _ _ (by omega)).trans rfl,FF⟩⟩
    | _ + 9,il,_,_,_=>exact absurd il (by omega)
  intro s a w' S hall
  have a0:=hall 0 (by omega)
  have a1:=hall 1 (by omega)
  have a2:=hall 2 (by omega)
  have a3:=hall 3 (by omega)
  have a4:=hall 4 (by omega)
  have a5:=hall 5 (by omega)
  have a6:=hall 6 (by omega)
  have a7:=hall 7 (by omega)
  have a8:=hall 8 (by omega)
  have e:=off_norm _ (by intro d hd; simp at hd; omega) S.off
  obtain ⟨v7,M7,F7⟩:=S.t7 a7
  obtain ⟨v8,M8,F8⟩:=S.t8 a8
  simp only [List.foldl,S.t0 a0,S.t1 a1,S.t2 a2,S.t3 a3,S.t4 a4,S.t5 a5,S.t6 a6,M7,M8] at e
  rw [e]
  exact h _ _ _ F8
theorem box_pkc {ev:Operand->Value} {o:Oper} {w:World} {x:Operand} {p:Pkt} (h:o.op=.box 125 x) (hx:ev x=pkVal p):(execOp ev o).run Tryz.prog w=.ok (.value (.pointer (some ⟨w.heap.size,0,none⟩))) (w.alloc (.cells #[.bool p.cmd,.int .i64 p.ap,.int .i64 p.fl,.int .i64 p.ct,.string p.da] 125)):=by
  simp only [execOp,h,hx,pkVal]; go_simp
theorem store_strs {ev:Operand->Value} {w:World} {o:Oper} {x y:Operand} {X i:Nat} {u:Value} {sa:Option Addr} {m sc:Nat} (h:o.op=.store 43 x y) (hx:ev x=.pointer (some ⟨X,i,none⟩)) (hy:ev y=.slice sa m sc) (hc:w.cell? ⟨X,i,none⟩=some u) (hf:w.frozen? ⟨X,i,none⟩=false):(execOp ev o).run Tryz.prog w=.ok .skip (w.setCell ⟨X,i,none⟩ (.slice sa m sc)):=by
  simp only [execOp,h,hx,hy]; go_simp
theorem store_strC {ev:Operand->Value} {w:World} {o:Oper} {x y:Operand} {X i:Nat} {u:Value} {z:ByteArray} (h:o.op=.store 9 x y) (hx:ev x=.pointer (some ⟨X,i,none⟩)) (hy:ev y=.string z) (hc:w.cell? ⟨X,i,none⟩=some u) (hf:w.frozen? ⟨X,i,none⟩=false):(execOp ev o).run Tryz.prog w=.ok .skip (w.setCell ⟨X,i,none⟩ (.string z)):=by
  simp only [execOp,h,hx,hy]; go_simp
end Go.Proofs.YtchfkncbemjepaaGreat

/- Layer 11, the landed demux: arrive, giveUp, the counters. -/
namespace Go.Proofs.YtchfkncbemjepaaGreat
open Go.RowKit

theorem pkC_cells (p:Pkt):∀ j,j < 5->(#[.bool p.cmd,.int .i64 p.ap,.int .i64 p.fl,.int .i64 p.ct,.string p.da]:Array Value)[j]?=some (pkCel p j):=fun j hj=>by
  match j,hj with
  | 0,_=>rfl
  | 1,_=>rfl
  | 2,_=>rfl
  | 3,_=>rfl
  | 4,_=>rfl
structure Ex (A:Nat) (v:Value) (w w':World):Prop where
  size:w.heap.size<=w'.heap.size
  rest:∀ g,g < w.heap.size->g ≠ A->some g ≠ v.ownBlock->w'.heap[g]?=w.heap[g]?
theorem Ex.of_below {w w':World} {A:Nat} {v:Value} (h:Below w.heap.size w w'):Ex A v w w':=⟨h.size,fun g hg _ _=>h.block g hg⟩
theorem arrive_any {W0 w:World} {D A:Nat} {f:Nat->Value} {v:Value} {a:Ch.Av} (h:DS W0 D A f v a w) (p:Pkt) (l:List UInt8) (hl:l.length<=100000) (hn:a.pk.length<=1000000):
    Calls Tryz.prog 121 #[pkVal p,.string (bs l),.pointer (some ⟨A,0,none⟩)] w fun e w'=>(∃ u,e=.returned u)/\(∃ v',DS W0 D A f v' { a with pk:=a.pk ++ Ch.kept [(p,l)] } w')/\Ex A v w w':=by
  obtain ⟨i0,hi,hz0,hz1,hz2⟩:=info_parts info_str
  have HD:=Lib.hid h
  have HK:=Lib.hid (Ch.kept_one p l)
  have HNN:=Lib.hid hn
  have CLN:=Lib.hid (fun w=>clone_any (bs l) (by rw [bs_size]; omega) w)
  obtain ⟨z,hz⟩:∃ z,bs l=z:=⟨_,rfl⟩
  rw [hz] at CLN
  obtain ⟨sa,sc,hv⟩:=own_is h.row
  have HV:=Lib.hid hv
  have HZ:=Lib.hid hz
  have c4:w.cell? ⟨A,4,none⟩=some v:=h.ac.cell (j:=4) (by omega)
  rw [hv] at c4
  obtain ⟨m,hm⟩:∃ m,a.pk.length=m:=⟨_,rfl⟩
  rw [hm] at c4
  have HM:=Lib.hid hm
  rw [hz]
  clear h hn hl hv hz hm
  by_cases g:p.ap=2047
  · have t1:(p.ap != (2047:Int))=false:=by simp [g]
    have E:=Lib.hid (show a.pk ++ Ch.kept [(p,l)]=a.pk by rw [HK.out,if_pos g,List.append_nil])
    clear g
    go_enter Tryz.func121,Tryz.ntmps121
    go_wp2_with (((with_reducible refine atList ?_); refine wpList_newT rfl (.box 125 (.tmp 0)) rfl (some 3) rfl #[.bool p.cmd,.int .i64 p.ap,.int .i64 p.fl,.int .i64 p.ct,.string p.da] 125 (fun X=>.pointer (some ⟨X,0,none⟩)) 5 (pkCel p) (pkC_cells p) (box_pkc rfl rfl) ?_; intro X w1 HX SX1 CX BX TX; have cx1:w1.cell? ⟨X,1,none⟩=some (.int .i64 p.ap):=CX.out.cell (j:=1) (by omega)))
    first | go_ret | go_end0 | refine bodyPost_end (results_none rfl _ _ _) rfl ?_ | refine bodyPost_ret (results_none rfl _ _ _) rfl ?_
    exact ⟨⟨_,rfl⟩,⟨v,by rw [E.out]; exact HD.out.below BX.out⟩,Ex.of_below BX.out⟩
  have t1:(p.ap != (2047:Int))=true:=by simpa using g
  have E:=Lib.hid (show a.pk ++ Ch.kept [(p,l)]=a.pk ++ [l] by rw [HK.out,if_neg g])
  go_enter Tryz.func121,Tryz.ntmps121
  go_wp2_with (((with_reducible refine atList ?_); refine wpList_newT rfl (.box 125 (.tmp 0)) rfl (some 3) rfl #[.bool p.cmd,.int .i64 p.ap,.int .i64 p.fl,.int .i64 p.ct,.string p.da] 125 (fun X=>.pointer (some ⟨X,0,none⟩)) 5 (pkCel p) (pkC_cells p) (box_pkc rfl rfl) ?_; intro X w1 HX SX1 CX BX TX; have cx1:w1.cell? ⟨X,1,none⟩=some (.int .i64 p.ap):=CX.out.cell (j:=1) (by omega)))
  have D1:=Lib.hid (HD.out.below BX.out)
  have S1:=Lib.hid BX.out.size
  have c5:w1.cell? ⟨A,4,none⟩=some (.slice sa m sc):=(BX.out.cell (p:=⟨A,4,none⟩) HD.out.at'.lt).trans c4
  have AP:=Lib.hid (show ∀ ty w',Below w1.heap.size w1 w'->∀ gb,w1.heap.size<=gb->w'.cell? ⟨gb,0,none⟩=some (.string z)->∃ v' w2,(Builtin.append_ #[43,43] ty #[.slice sa m sc,.slice (some ⟨gb,0,none⟩) 1 1]).run Tryz.prog w'=.ok v' w2/\(∃ a2 c2,v'=.slice a2 (m + 1) c2/\w2.ownsRow W0.heap.size 9 1 v' (m + 1) (bsVs a.pk ++ [.string z])/\∃ w0',Below w1.heap.size w1 w0'/\w0'.grownBy w2 v.ownBlock/\(v'.ownBlock=v.ownBlock\/v'.ownBlock=some w0'.heap.size)) from fun ty w' hb gb hgb hc=>by
    have h2:=own_below D1.out.row hb
    rw [HM.out] at h2
    obtain ⟨v',w2,q1,q2,q3,q4⟩:=run_append_own2 (P:=Tryz.prog) w' W0.heap.size 43 ty 9 i0 (.string ⟨#[]⟩) 1 16 Tryz.underlying43 hi hz0 hz1 hz2 rfl (by decide) v m (bsVs a.pk) h2 ⟨gb,0,none⟩ 1 1 [.string z] rfl (fun j u hu=>by
      have hj:j=0:=by
        have:=(List.getElem?_eq_some_iff.1 hu).1
        simp at this
        exact this
      subst hj
      cases hu
      rw [add_off]
      exact hc) (fun u hu=>by simp at hu; subst hu; rfl) (by unfold maxLen; have:=HM.out; have:=HNN.out; omega) (by have:=HM.out; have:=HNN.out; omega) (Nat.le_trans D1.out.size hb.size)
    obtain ⟨a2,c2,e2⟩:=own_is q2
    rw [HV.out,HM.out] at q1
    exact ⟨v',w2,q1,a2,c2,e2,q2,w',hb,q3,q4⟩)
  clear c4
  refine arRegion A m sc sa z (fun v' w2=>∃ a2 c2,v'=.slice a2 (m + 1) c2/\w2.ownsRow W0.heap.size 9 1 v' (m + 1) (bsVs a.pk ++ [.string z])/\∃ w0',Below w1.heap.size w1 w0'/\w0'.grownBy w2 v.ownBlock/\(v'.ownBlock=v.ownBlock\/v'.ownBlock=some w0'.heap.size)) D1.out.at'.lt c5 (fun w=>CLN.out w) AP.out (by kernel_rfl) rfl rfl rfl rfl rfl rfl rfl rfl rfl rfl rfl rfl ?_
  rintro v7 v8 w2 ⟨a2,c2,rfl,R2,w0',b0',G2,K2⟩
  have R2':=Lib.hid R2
  have D0:=Lib.hid (D1.out.below b0')
  have B0':=Lib.hid b0'
  have G2':=Lib.hid G2
  have K2':=Lib.hid K2
  have nA:some A ≠ v.ownBlock:=fun e=>ty_ne (own_ty D0.out.row e.symm).2 D0.out.at' (by decide) rfl
  have kA:=G2.block A D0.out.at'.lt nA
  have CA2:=Lib.hid (D0.out.ac.of_block kA)
  have TA2:=Lib.hid (D0.out.at'.of_block kA)
  clear R2 b0' G2 K2 nA kA AP c5 t1
  simp only [Act.put,List.setIfInBounds_toArray,List.set_cons_succ,List.set_cons_zero,List.drop_succ_cons,List.drop_zero]
  go_wp2_with (((with_reducible refine atList ?_); refine wpList_setT rfl (.store 43 (.tmp 19) (.tmp 17)) rfl A 4 7 (.slice a2 (m + 1) c2) _ (aC (.slice a2 (m + 1) c2) { a with pk:=a.pk ++ [l] }) CA2.out (by omega) (fun j hj=>by match j,hj with | 0,_=>rfl | 1,_=>rfl | 2,_=>rfl | 3,_=>rfl | 4,_=>rfl | 5,_=>rfl | 6,_=>rfl) (store_strs rfl rfl rfl (CA2.out.cell (j:=4) (by omega)) (CA2.out.frozen (j:=4) (by omega))) ?_; intro w3 C3 U3 S3 V3))
  first | go_ret | go_end0 | refine bodyPost_end (results_none rfl _ _ _) rfl ?_ | refine bodyPost_ret (results_none rfl _ _ _) rfl ?_
  refine ⟨⟨_,rfl⟩,⟨.slice a2 (m + 1) c2,?_⟩,⟨?_,fun g hg hA hv=>?_⟩⟩
  rotate_left
  · have s1:=BX.out.size
    have s2:=B0'.out.size
    have s3:=G2'.out.size
    have s4:=U3.out.below.size
    omega
  · have s1:=BX.out.size
    have s2:=B0'.out.size
    have s3:=G2'.out.size
    exact (U3.out.rest g (by omega) hA).trans ((G2'.out.block g (by omega) hv).trans ((B0'.out.block g (by omega)).trans (BX.out.block g hg)))
  rw [E.out]
  exact HD.out.app (bt BX.out B0'.out) G2'.out (by rw [HM.out,HZ.out]; exact R2'.out) U3.out C3.out (V3.out _ TA2.out) K2'.out
def gup (pt:List UInt8):Nat:=if pt=[] then 0 else 1
theorem bs_nil:bs ([]:List UInt8)=⟨#[]⟩:=rfl
theorem bs_full {l:List UInt8} (h:l ≠ []):((bs l) == (⟨#[]⟩:ByteArray))=false:=by
  show ((bs l).data == #[])=false
  rw [beq_eq_false_iff_ne]
  intro e
  apply h
  rw [<-bs_list l,e]
structure Ez (D A:Nat) (w w':World):Prop where
  size:w.heap.size<=w'.heap.size
  rest:∀ g,g < w.heap.size->g ≠ D->g ≠ A->w'.heap[g]?=w.heap[g]?
theorem Ez.refl (D A:Nat) (w:World):Ez D A w w:=⟨Nat.le_refl _,fun _ _ _ _=>rfl⟩
structure Ey (D A:Nat) (w w':World):Prop where
  size:w.heap.size<=w'.heap.size
  rest:∀ g t,TyB w g t->t ≠ 9->g ≠ D->g ≠ A->w'.heap[g]?=w.heap[g]?
namespace Ey
variable {D A:Nat} {v:Value} {w w1 w2:World}
theorem refl:Ey D A w w:=⟨Nat.le_refl _,fun _ _ _ _ _ _=>rfl⟩
theorem of_below (h:Below w.heap.size w w1):Ey D A w w1:=⟨h.size,fun g t hg _ _ _=>h.block g hg.lt⟩
theorem of_but (h:But D w w1):Ey D A w w1:=⟨h.below.size,fun g t hg _ h1 _=>h.rest g hg.lt h1⟩
theorem of_ex {n0 n:Nat} {xs:List Value} (hr:w.ownsRow n0 9 1 v n xs) (h:Ex A v w w1):Ey D A w w1:=⟨h.size,fun g t hg ht _ h2=>h.rest g hg.lt h2 (fun e=>ty_ne hg (own_ty hr e.symm).2 ht rfl)⟩
theorem of_ez (h:Ez D A w w1):Ey D A w w1:=⟨h.size,fun g t hg _ h1 h2=>h.rest g hg.lt h1 h2⟩
theorem trans (h:Ey D A w w1) (k:Ey D A w1 w2):Ey D A w w2:=⟨Nat.le_trans h.size k.size,fun g t hg ht h1 h2=>(k.rest g t (hg.of_block (h.rest g t hg ht h1 h2)) ht h1 h2).trans (h.rest g t hg ht h1 h2)⟩
theorem grown {row:Option Nat} (h:Ey D A w w1) (g:w1.grownBy w2 row) (hr:∀ r,row=some r->∃ o:Obj,w1.heap[r]?=some o/\o.isCells=false):Ey D A w w2:=⟨Nat.le_trans h.size g.size,fun k t hk ht h1 h2=>by
  have e:=h.rest k t hk ht h1 h2
  have T:=hk.of_block e
  exact (g.block k T.lt (fun q=>by
    obtain ⟨o,a1,a2⟩:=hr k q.symm
    obtain ⟨cur,fr,a3⟩:=T
    rw [a3] at a1
    cases a1
    cases a2)).trans e⟩
end Ey
theorem giveUp_any {W0 w:World} {D A:Nat} {f:Nat->Value} {v:Value} {a:Ch.Av} (h:DS W0 D A f v a w) (o:Nat) (ho:o + 3 < 37) (pt:List UInt8) (hf:f (o + 3)=.string (bs pt)) (hb:a.br<=100):
    Calls Tryz.prog 92 #[.pointer (some ⟨D,o,none⟩),.pointer (some ⟨A,0,none⟩)] w fun e w'=>(∃ u,e=.returned u)/\DS W0 D A (Ch.upd f (o + 3) (.string ⟨#[]⟩)) v { a with br:=a.br + gup pt } w'/\Ez D A w w':=by
  have HD:=Lib.hid h
  have c3:w.cell? ⟨D,o + 3,none⟩=some (.string (bs pt)):=by rw [<-hf]; exact h.dc.cell ho
  by_cases g:pt=[]
  · subst g
    rw [bs_nil] at c3
    have R:=Lib.hid (show DS W0 D A (Ch.upd f (o + 3) (.string ⟨#[]⟩)) v { a with br:=a.br + gup [] } w from h.congr (fun j hj=>by
      unfold Ch.upd
      split
      · rename_i e; rw [e,hf]; rfl
      rfl))
    clear h hf
    go_enter Tryz.func92,Tryz.ntmps92
    go_wp2_with fail
    first | go_ret | go_end0 | refine bodyPost_end (results_none rfl _ _ _) rfl ?_ | refine bodyPost_ret (results_none rfl _ _ _) rfl ?_
    exact ⟨⟨_,rfl⟩,R.out,Ez.refl _ _ _⟩
  have q1:=bs_full g
  have GE:=Lib.hid (show gup pt=1 from if_neg g)
  obtain ⟨z,hz⟩:∃ z,bs pt=z:=⟨_,rfl⟩
  rw [hz] at c3 q1
  have q2:(z != (⟨#[]⟩:ByteArray))=true:=by show (!(z == _))=true; rw [q1]; rfl
  have q3:(z.toList == (⟨#[]⟩:ByteArray).toList)=false:=by rw [<-beq_toListBytes,q1]
  have q4:(z.toList != (⟨#[]⟩:ByteArray).toList)=true:=by show (!(z.toList == _))=true; rw [q3]; rfl
  have q5:z.toList.isEmpty=false:=by
    cases hh:z.toList with
    | nil=>rw [hh] at q3; simp at q3
    | cons x l=>rfl
  have HO:=Lib.hid ho
  have c5:w.cell? ⟨A,5,none⟩=some (.int .i64 (a.br:Nat)):=h.ac.cell (j:=5) (by omega)
  obtain ⟨b,hbr⟩:∃ b,a.br=b:=⟨_,rfl⟩
  have HB:=Lib.hid hbr
  rw [hbr] at c5
  have e1:IntKind.i64.wrap ((b:Int) + 1)=((b + 1:Nat):Int):=by rw [IntKind.wrap_i64]; omega
  clear h hf hz g hbr hb
  go_enter Tryz.func92,Tryz.ntmps92
  go_wp2_with (first
    | ((with_reducible refine atList ?_); refine wpList_setT rfl (.store 9 (.tmp 11) (.const (.string ⟨#[]⟩))) rfl D (o + 3) 37 (.string ⟨#[]⟩) _ (Ch.upd f (o + 3) (.string ⟨#[]⟩)) HD.out.dc HO.out (fun j hj=>rfl) (store_strC rfl rfl rfl (HD.out.dc.cell HO.out) (HD.out.dc.frozen HO.out)) ?_; intro w2 C2 U2 S2 V2; have D2:=Lib.hid (HD.out.setD U2.out C2.out (V2.out _ HD.out.dt)); have c5':w2.cell? ⟨A,5,none⟩=some (.int .i64 (b:Nat)):=by rw [<-HB.out]; exact D2.out.ac.cell (j:=5) (by omega))
    | ((with_reducible refine atList ?_); refine wpList_setT rfl (.store 3 (.tmp 18) (.tmp 16)) rfl A 5 7 (.int .i64 (b + 1:Nat)) _ (aC v { a with br:=a.br + 1 }) D2.out.ac (by omega) (fun j hj=>by match j,hj with | 0,_=>rfl | 1,_=>rfl | 2,_=>rfl | 3,_=>rfl | 4,_=>rfl | 5,_=>rw [<-HB.out]; rfl | 6,_=>rfl) ?_ ?_; exact store_int rfl rfl rfl (D2.out.ac.cell (j:=5) (by omega)) (D2.out.ac.frozen (j:=5) (by omega)); intro w3 C3 U3 S3 V3))
  first | go_ret | go_end0 | refine bodyPost_end (results_none rfl _ _ _) rfl ?_ | refine bodyPost_ret (results_none rfl _ _ _) rfl ?_
  refine ⟨⟨_,rfl⟩,?_,⟨by have:=U2.out.below.size; have:=U3.out.below.size; omega,fun g hg h1 h2=>(U3.out.rest g (by have:=U2.out.below.size; omega) h2).trans (U2.out.rest g hg h1)⟩⟩
  rw [GE.out]
  exact D2.out.setA (a':={ a with br:=a.br + 1 }) U3.out C3.out (V3.out _ D2.out.at') (own_but D2.out.row U3.out (fun e=>ty_ne (own_ty D2.out.row e).2 D2.out.at' (by decide) rfl))
theorem info_ct:(Tryz.prog.info? 63).map (·.size)=some 2:=by kernel_rfl
theorem alloc_ct {ev:Operand->Value} {o:Oper} {w:World} (h:o.op=.alloc 63):(execOp ev o).run Tryz.prog w=.ok (.value (.pointer (some ⟨w.heap.size,0,none⟩))) (w.alloc (.cells #[.bool false,.int .i64 0] 63)):=by
  simp only [execOp,h]; go_simp
def ctC (b:Bool) (l:Nat):Nat->Value
  | 0=>.bool b
  | _=>.int .i64 (l:Nat)
theorem ctC_cells (b:Bool) (l:Nat):∀ j,j < 2->(#[.bool b,.int .i64 (l:Nat)]:Array Value)[j]?=some (ctC b l j):=fun j hj=>by
  match j,hj with
  | 0,_=>rfl
  | 1,_=>rfl
theorem ctC_list (b:Bool) (l:Nat):∀ j,j < 2->([.bool b,.int .i64 (l:Nat)]:List Value)[j]?=some (ctC b l j):=fun j hj=>by
  match j,hj with
  | 0,_=>rfl
  | 1,_=>rfl
theorem ctake_any {W0 w:World} {D A:Nat} {f:Nat->Value} {v:Value} {a:Ch.Av} (h:DS W0 D A f v a w) (o:Nat) (ho:o + 1 < 37) (b:Bool) (la c:Nat) (h0:f o=.bool b) (h1:f (o + 1)=.int .i64 (la:Nat)) (hla:la<=255) (hc:c<=255):
    Calls Tryz.prog 52 #[.pointer (some ⟨D,o,none⟩),.int .i64 (c:Nat)] w fun e w'=>e=.returned (.int .i64 (Ch.miss b la c:Nat))/\DS W0 D A (Ch.upd (Ch.upd f o (.bool true)) (o + 1) (.int .i64 (c:Nat))) v a w'/\Ey D A w w':=by
  have HD:=Lib.hid h
  have c0:w.cell? ⟨D,o,none⟩=some (.bool b):=by rw [<-h0]; exact h.dc.cell (by omega)
  have c1:w.cell? ⟨D,o + 1,none⟩=some (.int .i64 (la:Nat)):=by rw [<-h1]; exact h.dc.cell ho
  have RG:=Lib.hid (show w.rangeAt D o [.bool b,.int .i64 (la:Nat)] from fun j u hu=>by
    match j,hu with
    | 0,hu=>cases hu; exact c0
    | 1,hu=>cases hu; exact c1)
  have MC:=Lib.hid (show ∀ j,j < 37->(if o<=j/\j < o + 2 then ([.bool true,.int .i64 (c:Nat)]:List Value).getD (j - o) undef else f j)=Ch.upd (Ch.upd f o (.bool true)) (o + 1) (.int .i64 (c:Nat)) j from fun j hj=>by
    unfold Ch.upd
    by_cases e1:j=o + 1
    · subst e1
      rw [if_pos (by omega),if_pos rfl,show o + 1 - o=1 by omega]
      rfl
    rw [if_neg e1]
    by_cases e0:j=o
    · subst e0
      rw [if_pos (by omega),if_pos rfl,Nat.sub_self]
      rfl
    rw [if_neg e0,if_neg (by omega)])
  have HO:=Lib.hid (show o + 2<=37 by omega)
  have NX:=Lib.hid (show ∀ K,w.heap.size=K->K ≠ D from fun K e q=>by have:=h.dt.lt; omega)
  clear c0 c1 h0 h1 h
  cases b with
  | false=>
    go_enter Tryz.func52,Tryz.ntmps52
    go_wp2_with (first
      | ((with_reducible refine atList ?_); refine wpList_load_mid rfl 63 (.tmp 7) rfl D o rfl [.bool false,.int .i64 (la:Nat)] _ RG.out Tryz.underlying63 rfl info_ct ?_)
      | ((with_reducible refine atList ?_); refine wpList_newT rfl (.alloc 63) rfl (some 5) rfl #[.bool false,.int .i64 0] 63 (fun X=>.pointer (some ⟨X,0,none⟩)) 2 (ctC false 0) (ctC_cells false 0) (alloc_ct rfl) ?_; intro K w1 HK SK CK BK TK; have D1:=Lib.hid (HD.out.below BK.out))
      | ((with_reducible refine atList ?_); refine wpList_setAllT rfl 63 (.tmp 5) (.tmp 8) rfl K 2 [.bool false,.int .i64 (la:Nat)] _ (ctC false la) CK.out rfl (ctC_list false la) rfl rfl info_ct (by simp [Value.oneCell']) ?_; intro w2 C2 U2 S2 V2; have D2:=Lib.hid (HD.out.below (But.under BK.out U2.out (Nat.le_of_eq HK.out))))
      | ((with_reducible refine atList ?_); refine wpList_setMidT rfl 63 (.tmp 12) (.tmp 11) rfl D o 37 2 [.bool true,.int .i64 (c:Nat)] _ (Ch.upd (Ch.upd f o (.bool true)) (o + 1) (.int .i64 (c:Nat))) D2.out.dc rfl HO.out MC.out rfl rfl info_ct (by simp [Value.oneCell']) ?_; intro w3 C3 U3 S3 V3; have DF:=Lib.hid (D2.out.setD U3.out C3.out (V3.out _ D2.out.dt)); have CK3:=C2.out.but U3.out (NX.out K HK.out); have k0:w3.cell? ⟨K,0,none⟩=some (.bool false):=CK3.cell (j:=0) (by omega); have k1:w3.cell? ⟨K,1,none⟩=some (.int .i64 (la:Nat)):=CK3.cell (j:=1) (by omega)))
    go_ret
    exact ⟨rfl,DF.out,(Ey.of_below (But.under BK.out U2.out (Nat.le_of_eq HK.out))).trans (Ey.of_but U3.out)⟩
  | true=>
    obtain ⟨s,hs⟩:∃ s,c + 255 - la=s:=⟨_,rfl⟩
    obtain ⟨p,hp⟩:∃ p:Int,(c:Int) - (la:Int)=p:=⟨_,rfl⟩
    have e1:IntKind.i64.wrap ((c:Int) - (la:Int))=p:=by rw [IntKind.wrap_i64]; omega
    have e2:IntKind.i64.wrap (p - 1)=p - 1:=by rw [IntKind.wrap_i64]; omega
    have e3:IntKind.i64.wrap (p - 1 + 256)=(s:Int):=by rw [IntKind.wrap_i64]; omega
    have HM:=Lib.hid (show Ch.miss true la c=s % 256 by rw [<-hs]; rfl)
    clear hs hp hla hc
    go_enter Tryz.func52,Tryz.ntmps52
    go_wp2_with (first
      | ((with_reducible refine atList ?_); refine wpList_load_mid rfl 63 (.tmp 7) rfl D o rfl [.bool true,.int .i64 (la:Nat)] _ RG.out Tryz.underlying63 rfl info_ct ?_)
      | ((with_reducible refine atList ?_); refine wpList_newT rfl (.alloc 63) rfl (some 5) rfl #[.bool false,.int .i64 0] 63 (fun X=>.pointer (some ⟨X,0,none⟩)) 2 (ctC false 0) (ctC_cells false 0) (alloc_ct rfl) ?_; intro K w1 HK SK CK BK TK; have D1:=Lib.hid (HD.out.below BK.out))
      | ((with_reducible refine atList ?_); refine wpList_setAllT rfl 63 (.tmp 5) (.tmp 8) rfl K 2 [.bool true,.int .i64 (la:Nat)] _ (ctC true la) CK.out rfl (ctC_list true la) rfl rfl info_ct (by simp [Value.oneCell']) ?_; intro w2 C2 U2 S2 V2; have D2:=Lib.hid (HD.out.below (But.under BK.out U2.out (Nat.le_of_eq HK.out))))
      | ((with_reducible refine atList ?_); refine wpList_setMidT rfl 63 (.tmp 12) (.tmp 11) rfl D o 37 2 [.bool true,.int .i64 (c:Nat)] _ (Ch.upd (Ch.upd f o (.bool true)) (o + 1) (.int .i64 (c:Nat))) D2.out.dc rfl HO.out MC.out rfl rfl info_ct (by simp [Value.oneCell']) ?_; intro w3 C3 U3 S3 V3; have DF:=Lib.hid (D2.out.setD U3.out C3.out (V3.out _ D2.out.dt)); have CK3:=C2.out.but U3.out (NX.out K HK.out); have k0:w3.cell? ⟨K,0,none⟩=some (.bool true):=CK3.cell (j:=0) (by omega); have k1:w3.cell? ⟨K,1,none⟩=some (.int .i64 (la:Nat)):=CK3.cell (j:=1) (by omega)))
    go_ret
    exact ⟨by rw [HM.out]; rfl,DF.out,(Ey.of_below (But.under BK.out U2.out (Nat.le_of_eq HK.out))).trans (Ey.of_but U3.out)⟩
end Go.Proofs.YtchfkncbemjepaaGreat
