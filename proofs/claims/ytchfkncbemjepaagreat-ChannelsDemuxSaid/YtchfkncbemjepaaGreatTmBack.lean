/- TmBack -/
import Derived.Test.YtchfkncbemjepaaGreatTmRef
set_option linter.unusedVariables false
set_option maxRecDepth 100000
set_option maxHeartbeats 8000000
/- Layer 10: the reference's number. -/
namespace Go.Proofs.YtchfkncbemjepaaGreat
open Go.RowKit

structure NuRegion (b:ByteArray) (B0 B1 m r:Nat) (A:Act) (w0:World) (s:Nat->Bool) (a:Act) (w:World):Prop where
  off:Off [3,4,5,6,7,8,9,10] a A
  before:Below w0.heap.size w0 w
  t0:s 0=true->a.eval (.tmp 3)=.string b
  t1:s 1=true->a.eval (.tmp 4)=.int .u8 (B0:Nat)
  t2:s 2=true->a.eval (.tmp 5)=.int .i64 (B0:Nat)
  t3:s 3=true->a.eval (.tmp 6)=.int .i64 (m:Nat)
  t4:s 4=true->a.eval (.tmp 7)=.string b
  t5:s 5=true->a.eval (.tmp 8)=.int .u8 (B1:Nat)
  t6:s 6=true->a.eval (.tmp 9)=.int .i64 (B1:Nat)
  t7:s 7=true->a.eval (.tmp 10)=.int .i64 (r:Nat)
theorem nuRegion {id:Nat} {l:List Oper} {A:Act} {w:World} {Q:Exit->Act->World->Prop} (b:ByteArray) (B0 B1 m r:Nat)
    (hs0:0 < b.size) (hs1:1 < b.size) (hb0:(Gal.co b.data.toList 0).toNat=B0) (hb1:(Gal.co b.data.toList 1).toNat=B1) (l0:B0 < 256) (l1:B1 < 256) (hm:B0 * 256=m) (hr:m + B1=r)
    (hB:tableH l.toArray 8 (fun i=>match i with | 0=>[] | 1=>[0] | 2=>[1] | 3=>[2] | 4=>[] | 5=>[4] | 6=>[5] | 7=>[3,6] | _=>[]) (fun _=>[])=true)
    (h0:pick l 0=some (.move (.tmp 0),some 3))
    (h1:pick l 1=some (.index 9 (.tmp 3) (.const (.int .i64 0)),some 4))
    (h2:pick l 2=some (.convert 5 3 (.tmp 4),some 5))
    (h3:pick l 3=some (.binOp .mul 3 (.tmp 5) (.const (.int .i64 256)) 3,some 6))
    (h4:pick l 4=some (.move (.tmp 0),some 7))
    (h5:pick l 5=some (.index 9 (.tmp 7) (.const (.int .i64 1)),some 8))
    (h6:pick l 6=some (.convert 5 3 (.tmp 8),some 9))
    (h7:pick l 7=some (.binOp .add 3 (.tmp 6) (.tmp 9) 3,some 10))
    (hs:A.tmps.size=11)
    (x0:A.eval (.tmp 0)=.string b)
    (h:∀ w1,Below w.heap.size w w1->wpList Tryz.prog l.toArray Q (l.drop 8) ((((((((A.put (some 3) (.string b)).put (some 4) (.int .u8 (B0:Nat))).put (some 5) (.int .i64 (B0:Nat))).put (some 6) (.int .i64 (m:Nat))).put (some 7) (.string b)).put (some 8) (.int .u8 (B1:Nat))).put (some 9) (.int .i64 (B1:Nat))).put (some 10) (.int .i64 (r:Nat))) w1):
    (Code.region id l.toArray true).wp Tryz.prog Q A w:=by
  refine wp_region_head (by kernel_rfl) _ _ _ hB (NuRegion b B0 B1 m r A w) ⟨Off.refl _ _,(Below.refl _ _).drew,by simp,by simp,by simp,by simp,by simp,by simp,by simp,by simp⟩ ?_ ?_
  · intro s a w' S i' o il ho hsi hT K hK
    have sz:a.tmps.size=11:=by rw [S.off.2.1]; exact hs
    have y0:a.eval (.tmp 0)=.string b:=by rw [S.off.eval (by decide)]; exact x0
    match i',il,ho,hsi,hT with
    | 0,_,ho,hsi,hT=>
      obtain ⟨e1,e2⟩:=pick_of h0 ho
      refine step_val (v:=.string b) (by simp only [execOp,e1,y0]; go_simp) (hK _ _ ?_)
      rw [e2]
      exact ⟨ofp S.off,S.before,ev_ (by omega),kp S.t1,kp S.t2,kp S.t3,kp S.t4,kp S.t5,kp S.t6,kp S.t7⟩
    | 1,_,ho,hsi,hT=>
      obtain ⟨e1,e2⟩:=pick_of h1 ho
      have D0:s 0=true:=list_pos hT (d:=0) (by decide)
      have bc:=byte_co b 0 hs0
      rw [show (Gal.co b.data.toList 0).toNat=B0 from hb0] at bc
      refine step_val (v:=.int .u8 (B0:Nat)) (by simp only [execOp,e1,S.t0 D0]; go_simp <;> (intro hq; omega)) (hK _ _ ?_)
      rw [e2]
      exact ⟨ofp S.off,S.before,kp S.t0,ev_ (by omega),kp S.t2,kp S.t3,kp S.t4,kp S.t5,kp S.t6,kp S.t7⟩
    | 2,_,ho,hsi,hT=>
      obtain ⟨e1,e2⟩:=pick_of h2 ho
      have D1:s 1=true:=list_pos hT (d:=1) (by decide)
      refine step_val (v:=.int .i64 (B0:Nat)) (by simp only [execOp,e1,S.t1 D1]; go_simp; rw [IntKind.wrap_i64]; omega) (hK _ _ ?_)
      rw [e2]
      exact ⟨ofp S.off,S.before,kp S.t0,kp S.t1,ev_ (by omega),kp S.t3,kp S.t4,kp S.t5,kp S.t6,kp S.t7⟩
    | 3,_,ho,hsi,hT=>
      obtain ⟨e1,e2⟩:=pick_of h3 ho
      have D2:s 2=true:=list_pos hT (d:=2) (by decide)
      refine step_val (v:=.int .i64 (m:Nat)) (by simp only [execOp,e1,S.t2 D2]; go_simp; rw [IntKind.wrap_i64]; omega) (hK _ _ ?_)
      rw [e2]
      exact ⟨ofp S.off,S.before,kp S.t0,kp S.t1,kp S.t2,ev_ (by omega),kp S.t4,kp S.t5,kp S.t6,kp S.t7⟩
    | 4,_,ho,hsi,hT=>
      obtain ⟨e1,e2⟩:=pick_of h4 ho
      refine step_val (v:=.string b) (by simp only [execOp,e1,y0]; go_simp) (hK _ _ ?_)
      rw [e2]
      exact ⟨ofp S.off,S.before,kp S.t0,kp S.t1,kp S.t2,kp S.t3,ev_ (by omega),kp S.t5,kp S.t6,kp S.t7⟩
    | 5,_,ho,hsi,hT=>
      obtain ⟨e1,e2⟩:=pick_of h5 ho
      have D4:s 4=true:=list_pos hT (d:=4) (by decide)
      have bc:=byte_co b 1 hs1
      rw [show (Gal.co b.data.toList 1).toNat=B1 from hb1] at bc
      refine step_val (v:=.int .u8 (B1:Nat)) (by simp only [execOp,e1,S.t4 D4]; go_simp <;> (intro hq; omega)) (hK _ _ ?_)
      rw [e2]
      exact ⟨ofp S.off,S.before,kp S.t0,kp S.t1,kp S.t2,kp S.t3,kp S.t4,ev_ (by omega),kp S.t6,kp S.t7⟩
    | 6,_,ho,hsi,hT=>
      obtain ⟨e1,e2⟩:=pick_of h6 ho
      have D5:s 5=true:=list_pos hT (d:=5) (by decide)
      refine step_val (v:=.int .i64 (B1:Nat)) (by simp only [execOp,e1,S.t5 D5]; go_simp; rw [IntKind.wrap_i64]; omega) (hK _ _ ?_)
      rw [e2]
      exact ⟨ofp S.off,S.before,kp S.t0,kp S.t1,kp S.t2,kp S.t3,kp S.t4,kp S.t5,ev_ (by omega),kp S.t7⟩
    | 7,_,ho,hsi,hT=>
      obtain ⟨e1,e2⟩:=pick_of h7 ho
      have D3:s 3=true:=list_pos hT (d:=3) (by decide)
      have D6:s 6=true:=list_pos hT (d:=6) (by decide)
      refine step_val (v:=.int .i64 (r:Nat)) (by simp only [execOp,e1,S.t3 D3,S.t6 D6]; go_simp; rw [IntKind.wrap_i64]; omega) (hK _ _ ?_)
      rw [e2]
      exact ⟨ofp S.off,S.before,kp S.t0,kp S.t1,kp S.t2,kp S.t3,kp S.t4,kp S.t5,kp S.t6,ev_ (by omega)⟩
    | _ + 8,il,_,_,_=>exact absurd il (by omega)
  intro s a w' S hall
  have a0:=hall 0 (by omega)
  have a1:=hall 1 (by omega)
  have a2:=hall 2 (by omega)
  have a3:=hall 3 (by omega)
  have a4:=hall 4 (by omega)
  have a5:=hall 5 (by omega)
  have a6:=hall 6 (by omega)
  have a7:=hall 7 (by omega)
  have e:=off_norm _ (by intro d hd; simp at hd; omega) S.off
  simp only [List.foldl,S.t0 a0,S.t1 a1,S.t2 a2,S.t3 a3,S.t4 a4,S.t5 a5,S.t6 a6,S.t7 a7] at e
  rw [e]
  exact h _ S.before
def Tm.num (l:List UInt8) (i:Nat):Nat:=Pk.nb l i * 256 + Pk.nb l (i + 1)
theorem Tm.num_lt (l:List UInt8) (i:Nat):Tm.num l i < 65536:=by
  have:=Pk.nb_lt l i
  have:=Pk.nb_lt l (i + 1)
  unfold Tm.num
  omega
theorem rnumber_any (b:ByteArray) (hs:2<=b.size) (w:World):Calls Tryz.prog 95 #[.string b] w fun e w'=>e=.returned (.int .i64 (Tm.num b.data.toList 0:Nat))/\Below w.heap.size w w':=by
  have b0:=Pk.nb_lt b.data.toList 0
  have b1:=Pk.nb_lt b.data.toList 1
  go_enter Tryz.func95,Tryz.ntmps95
  go_upto_region 1 with fail
  refine nuRegion b (Pk.nb b.data.toList 0) (Pk.nb b.data.toList 1) _ _ (by omega) (by omega) rfl rfl b0 b1 rfl rfl (by kernel_rfl) rfl rfl rfl rfl rfl rfl rfl rfl rfl rfl ?_
  intro w1 h1
  simp only [Act.put,List.setIfInBounds_toArray,List.set_cons_succ,List.set_cons_zero,List.drop_succ_cons,List.drop_zero]
  go_wp2_with fail
  go_ret
  exact ⟨rfl,h1⟩
end Go.Proofs.YtchfkncbemjepaaGreat
/- Layer 10: the reference's Get. -/
namespace Go.Proofs.YtchfkncbemjepaaGreat
open Go.RowKit

def tm0:Tmf:=⟨0,0,0,0,0,⟨#[]⟩,0⟩
namespace Tm
def dec (l:List UInt8):Tmf:=
  ⟨(num l 0 / 64:Nat),(num l 0 / 8 % 8:Nat),(Pk.nb l 2:Nat),(Pk.nb l 3:Nat),(num l 4:Nat),⟨((l.drop 6).take (l.length - 12)).toArray⟩,num l (l.length - 6) * 65536 + num l (l.length - 4)⟩
def get (l:List UInt8):Tmf × Int:=
  if l.length < 44\/212 < l.length then (tm0,6)
  else if num l (l.length - 2) ≠ (Crc.sum16 (l.take (l.length - 2))).toNat then (tm0,100)
  else if Ok (dec l)/\enc (dec l)=l then (dec l,0)
  else (tm0,6)
end Tm
def AlT (n0:Nat) (v:Value) (w:World):Prop:=∃ g,v=.pointer (some ⟨g,0,none⟩)/\n0<=g/\Cel w g 7 (tmCel tm0)
theorem AlT.mono {n0:Nat} {v:Value} {w w':World} (h:AlT n0 v w) (hb:Below w.heap.size w w'):AlT n0 v w':=by
  obtain ⟨g,e,h1,h2⟩:=h
  exact ⟨g,e,h1,h2.below hb⟩
theorem alt_new {n0:Nat} (w:World) (h:n0<=w.heap.size):AlT n0 (.pointer (some ⟨w.heap.size,0,none⟩)) (w.alloc (.cells #[.int .i64 0,.int .i64 0,.int .i64 0,.int .i64 0,.int .i64 0,.string ⟨#[]⟩,.int .u32 0] 100)):=⟨_,rfl,h,Cel.new w _ _ (fun j hj=>tm_cells tm0 j hj)⟩
theorem tm_step1 {P:Program} {Fact:Value->World->Prop} {o:Oper} {a:Act} {w w2:World} {K:Act->World->Prop} {Q:Exit->Act->World->Prop} {v:Value} (hv:(execOp a.eval o).run P w=.ok (.value v) w2) (F:Fact v w2) (B:Below w.heap.size w w2)
    (h:∀ v' w',Fact v' w'->Below w.heap.size w w'->K (a.put o.dst v') w'):o.wp P a w K Q:=step_to1 hv (h v w2 F B)
theorem alloc_tm {ev:Operand->Value} {o:Oper} {w:World} (h:o.op=.alloc 100):(execOp ev o).run Tryz.prog w=.ok (.value (.pointer (some ⟨w.heap.size,0,none⟩))) (w.alloc (.cells #[.int .i64 0,.int .i64 0,.int .i64 0,.int .i64 0,.int .i64 0,.string ⟨#[]⟩,.int .u32 0] 100)):=by
  simp only [execOp,h]; go_simp
theorem store_u32 {ev:Operand->Value} {o:Oper} {w:World} {x y:Operand} {X i:Nat} {u:Value} {b:Nat} (h:o.op=.store 34 x y) (hx:ev x=.pointer (some ⟨X,i,none⟩)) (hy:ev y=.int .u32 (b:Nat)) (hc:w.cell? ⟨X,i,none⟩=some u) (hf:w.frozen? ⟨X,i,none⟩=false):(execOp ev o).run Tryz.prog w=.ok .skip (w.setCell ⟨X,i,none⟩ (.int .u32 (b:Nat))):=by
  simp only [execOp,h,hx,hy]; go_simp
structure TgaRegion (b:ByteArray) (n x y:Nat) (S1 S2:ByteArray) (A:Act) (w0:World) (s:Nat->Bool) (a:Act) (w:World):Prop where
  off:Off [21,22,23,24,25,26,27,28,29] a A
  before:Below w0.heap.size w0 w
  t0:s 0=true->a.eval (.tmp 21)=.string b
  t1:s 1=true->a.eval (.tmp 22)=.int .i64 (n:Nat)
  t2:s 2=true->a.eval (.tmp 23)=.string S1
  t3:s 3=true->a.eval (.tmp 24)=.int .i64 (x:Nat)
  t4:s 4=true->a.eval (.tmp 25)=.string b
  t5:s 5=true->a.eval (.tmp 26)=.int .i64 (n:Nat)
  t6:s 6=true->a.eval (.tmp 27)=.string S2
  t7:s 7=true->a.eval (.tmp 28)=.int .u16 (y:Nat)
  t8:s 8=true->a.eval (.tmp 29)=.int .i64 (y:Nat)
theorem tgaRegion {id:Nat} {l:List Oper} {A:Act} {w:World} {Q:Exit->Act->World->Prop} (b:ByteArray) (n x y:Nat) (S1 S2:ByteArray)
    (hn:n<=b.size) (hb:b.size<=1000) (hy:y < 65536) (e1s:b.extract n b.size=S1) (e2s:b.extract 0 n=S2)
    (hN:∀ w,Calls Tryz.prog 95 #[.string S1] w (fun e w'=>e=.returned (.int .i64 (x:Nat))/\Below w.heap.size w w')) (hC:∀ w,Calls Tryz.prog 88 #[.string S2] w (fun e w'=>e=.returned (.int .u16 (y:Nat))/\Below w.heap.size w w'))
    (hB:tableH l.toArray 9 (fun i=>match i with | 0=>[] | 1=>[] | 2=>[0,1] | 3=>[2] | 4=>[] | 5=>[] | 6=>[4,5] | 7=>[6] | 8=>[7] | _=>[]) (fun _=>[])=true)
    (h0:pick l 0=some (.move (.tmp 0),some 21))
    (h1:pick l 1=some (.move (.tmp 4),some 22))
    (h2:pick l 2=some (.slice 9 (.tmp 21) (some (.tmp 22)) none none,some 23))
    (h3:pick l 3=some (.call { callee:=.value (.func 95),args:=#[.tmp 23],argTypes:=#[9] },some 24))
    (h4:pick l 4=some (.move (.tmp 0),some 25))
    (h5:pick l 5=some (.move (.tmp 4),some 26))
    (h6:pick l 6=some (.slice 9 (.tmp 25) none (some (.tmp 26)) none,some 27))
    (h7:pick l 7=some (.call { callee:=.value (.func 88),args:=#[.tmp 27],argTypes:=#[9] },some 28))
    (h8:pick l 8=some (.convert 162 3 (.tmp 28),some 29))
    (hs:A.tmps.size=86)
    (x0:A.eval (.tmp 0)=.string b)
    (x4:A.eval (.tmp 4)=.int .i64 (n:Nat))
    (h:∀ w1,Below w.heap.size w w1->wpList Tryz.prog l.toArray Q (l.drop 9) (((((((((A.put (some 21) (.string b)).put (some 22) (.int .i64 (n:Nat))).put (some 23) (.string S1)).put (some 24) (.int .i64 (x:Nat))).put (some 25) (.string b)).put (some 26) (.int .i64 (n:Nat))).put (some 27) (.string S2)).put (some 28) (.int .u16 (y:Nat))).put (some 29) (.int .i64 (y:Nat))) w1):
    (Code.region id l.toArray true).wp Tryz.prog Q A w:=by
  refine wp_region_head (by kernel_rfl) _ _ _ hB (TgaRegion b n x y S1 S2 A w) ⟨Off.refl _ _,(Below.refl _ _).drew,by simp,by simp,by simp,by simp,by simp,by simp,by simp,by simp,by simp⟩ ?_ ?_
  · intro s a w' S i' o il ho hsi hT K hK
    have sz:a.tmps.size=86:=by rw [S.off.2.1]; exact hs
    have y0:a.eval (.tmp 0)=.string b:=by rw [S.off.eval (by decide)]; exact x0
    have y4:a.eval (.tmp 4)=.int .i64 (n:Nat):=by rw [S.off.eval (by decide)]; exact x4
    match i',il,ho,hsi,hT with
    | 0,_,ho,hsi,hT=>
      obtain ⟨e1,e2⟩:=pick_of h0 ho
      refine step_val (v:=.string b) (by simp only [execOp,e1,y0]; go_simp) (hK _ _ ?_)
      rw [e2]
      exact ⟨ofp S.off,S.before,ev_ (by omega),kp S.t1,kp S.t2,kp S.t3,kp S.t4,kp S.t5,kp S.t6,kp S.t7,kp S.t8⟩
    | 1,_,ho,hsi,hT=>
      obtain ⟨e1,e2⟩:=pick_of h1 ho
      refine step_val (v:=.int .i64 (n:Nat)) (by simp only [execOp,e1,y4]; go_simp) (hK _ _ ?_)
      rw [e2]
      exact ⟨ofp S.off,S.before,kp S.t0,ev_ (by omega),kp S.t2,kp S.t3,kp S.t4,kp S.t5,kp S.t6,kp S.t7,kp S.t8⟩
    | 2,_,ho,hsi,hT=>
      obtain ⟨e1,e2⟩:=pick_of h2 ho
      have D0:s 0=true:=list_pos hT (d:=0) (by decide)
      have D1:s 1=true:=list_pos hT (d:=1) (by decide)
      have q22:a.tmps[22]'(by omega)=.int .i64 (n:Nat):=by have:=S.t1 D1; simpa [Act.eval,sz] using this
      refine step_val (v:=.string S1) (by simp only [execOp,e1,Option.map_none,Option.map_some,S.t0 D0]; go_simp) (hK _ _ ?_)
      rw [e2]
      exact ⟨ofp S.off,S.before,kp S.t0,kp S.t1,ev_ (by omega),kp S.t3,kp S.t4,kp S.t5,kp S.t6,kp S.t7,kp S.t8⟩
    | 3,_,ho,hsi,hT=>
      obtain ⟨e1,e2⟩:=pick_of h3 ho
      have D2:s 2=true:=list_pos hT (d:=2) (by decide)
      have BW:=S.before
      refine step_call 95 (fun args w=>by go_simp) _ _ e1 #[.string S1] (by simp only [List.map_toArray,List.map_cons,List.map_nil,S.t2 D2] <;> rfl) ((hN w').mono ?_)
      rintro e w2 ⟨rfl,BB⟩
      refine ⟨_,rfl,hK _ _ ?_⟩
      rw [e2]
      exact ⟨ofp S.off,bt BW BB,kp S.t0,kp S.t1,kp S.t2,ev_ (by omega),kp S.t4,kp S.t5,kp S.t6,kp S.t7,kp S.t8⟩
    | 4,_,ho,hsi,hT=>
      obtain ⟨e1,e2⟩:=pick_of h4 ho
      refine step_val (v:=.string b) (by simp only [execOp,e1,y0]; go_simp) (hK _ _ ?_)
      rw [e2]
      exact ⟨ofp S.off,S.before,kp S.t0,kp S.t1,kp S.t2,kp S.t3,ev_ (by omega),kp S.t5,kp S.t6,kp S.t7,kp S.t8⟩
    | 5,_,ho,hsi,hT=>
      obtain ⟨e1,e2⟩:=pick_of h5 ho
      refine step_val (v:=.int .i64 (n:Nat)) (by simp only [execOp,e1,y4]; go_simp) (hK _ _ ?_)
      rw [e2]
      exact ⟨ofp S.off,S.before,kp S.t0,kp S.t1,kp S.t2,kp S.t3,kp S.t4,ev_ (by omega),kp S.t6,kp S.t7,kp S.t8⟩
    | 6,_,ho,hsi,hT=>
      obtain ⟨e1,e2⟩:=pick_of h6 ho
      have D4:s 4=true:=list_pos hT (d:=4) (by decide)
      have D5:s 5=true:=list_pos hT (d:=5) (by decide)
      have q26:a.tmps[26]'(by omega)=.int .i64 (n:Nat):=by have:=S.t5 D5; simpa [Act.eval,sz] using this
      refine step_val (v:=.string S2) (by simp only [execOp,e1,Option.map_none,Option.map_some,S.t4 D4]; go_simp) (hK _ _ ?_)
      rw [e2]
      exact ⟨ofp S.off,S.before,kp S.t0,kp S.t1,kp S.t2,kp S.t3,kp S.t4,kp S.t5,ev_ (by omega),kp S.t7,kp S.t8⟩
    | 7,_,ho,hsi,hT=>
      obtain ⟨e1,e2⟩:=pick_of h7 ho
      have D6:s 6=true:=list_pos hT (d:=6) (by decide)
      have BW:=S.before
      refine step_call 88 (fun args w=>by go_simp) _ _ e1 #[.string S2] (by simp only [List.map_toArray,List.map_cons,List.map_nil,S.t6 D6] <;> rfl) ((hC w').mono ?_)
      rintro e w2 ⟨rfl,BB⟩
      refine ⟨_,rfl,hK _ _ ?_⟩
      rw [e2]
      exact ⟨ofp S.off,bt BW BB,kp S.t0,kp S.t1,kp S.t2,kp S.t3,kp S.t4,kp S.t5,kp S.t6,ev_ (by omega),kp S.t8⟩
    | 8,_,ho,hsi,hT=>
      obtain ⟨e1,e2⟩:=pick_of h8 ho
      have D7:s 7=true:=list_pos hT (d:=7) (by decide)
      refine step_val (v:=.int .i64 (y:Nat)) (by simp only [execOp,e1,S.t7 D7]; go_simp; rw [IntKind.wrap_i64]; omega) (hK _ _ ?_)
      rw [e2]
      exact ⟨ofp S.off,S.before,kp S.t0,kp S.t1,kp S.t2,kp S.t3,kp S.t4,kp S.t5,kp S.t6,kp S.t7,ev_ (by omega)⟩
    | _ + 9,il,_,_,_=>exact absurd il (by omega)
  intro s a w' S hall
  have a0:=hall 0 (by omega)
  have a1:=hall 1 (by omega)
  have a2:=hall 2 (by omega)
  have a3:=hall 3 (by omega)
  have a4:=hall 4 (by omega)
  have a5:=hall 5 (by omega)
  have a6:=hall 6 (by omega)
  have a7:=hall 7 (by omega)
  have a8:=hall 8 (by omega)
  have e:=off_norm _ (by intro d hd; simp at hd; omega) S.off
  simp only [List.foldl,S.t0 a0,S.t1 a1,S.t2 a2,S.t3 a3,S.t4 a4,S.t5 a5,S.t6 a6,S.t7 a7,S.t8 a8] at e
  rw [e]
  exact h _ S.before
structure TgbRegion (b:ByteArray) (x cr e8 ch B2 B3 fi n n4 n0:Nat) (S1 da:ByteArray) (A:Act) (w0:World) (s:Nat->Bool) (a:Act) (w:World):Prop where
  off:Off [35,36,37,38,39,40,41,42,43,44,45,46,47,48,49,50,51,52,53,6] a A
  before:Below w0.heap.size w0 w
  t0:s 0=true->a.eval (.tmp 35)=.int .i64 (x:Nat)
  t1:s 1=true->a.eval (.tmp 36)=.int .i64 (cr:Nat)
  t2:s 2=true->a.eval (.tmp 37)=.int .i64 (x:Nat)
  t3:s 3=true->a.eval (.tmp 38)=.int .i64 (e8:Nat)
  t4:s 4=true->a.eval (.tmp 39)=.int .i64 (ch:Nat)
  t5:s 5=true->a.eval (.tmp 40)=.string b
  t6:s 6=true->a.eval (.tmp 41)=.int .u8 (B2:Nat)
  t7:s 7=true->a.eval (.tmp 42)=.int .i64 (B2:Nat)
  t8:s 8=true->a.eval (.tmp 43)=.string b
  t9:s 9=true->a.eval (.tmp 44)=.int .u8 (B3:Nat)
  t10:s 10=true->a.eval (.tmp 45)=.int .i64 (B3:Nat)
  t11:s 11=true->a.eval (.tmp 46)=.string b
  t12:s 12=true->a.eval (.tmp 47)=.string S1
  t13:s 13=true->a.eval (.tmp 48)=.int .i64 (fi:Nat)
  t14:s 14=true->a.eval (.tmp 49)=.string b
  t15:s 15=true->a.eval (.tmp 50)=.int .i64 (n:Nat)
  t16:s 16=true->a.eval (.tmp 51)=.int .i64 (n4:Nat)
  t17:s 17=true->a.eval (.tmp 52)=.string da
  t18:s 18=true->a.eval (.tmp 53)=.agg #[.int .i64 (cr:Nat),.int .i64 (ch:Nat),.int .i64 (B2:Nat),.int .i64 (B3:Nat),.int .i64 (fi:Nat),.string da,.int .u32 0]
  t19:s 19=true->∃ v19,a.eval (.tmp 6)=v19/\AlT n0 v19 w
theorem tgbRegion {id:Nat} {l:List Oper} {A:Act} {w:World} {Q:Exit->Act->World->Prop} (b:ByteArray) (x cr e8 ch B2 B3 fi n n4 n0:Nat) (S1 da:ByteArray)
    (hn0:n0<=w.heap.size) (hx:x < 65536) (q0:x / 64=cr) (q1:x / 8=e8) (q2:e8 % 8=ch) (hs2:2 < b.size) (hs3:3 < b.size) (hs6:10<=b.size) (hb2:(Gal.co b.data.toList 2).toNat=B2) (hb3:(Gal.co b.data.toList 3).toNat=B3) (l2:B2 < 256) (l3:B3 < 256) (hn:n<=b.size) (hn4:n4 + 4=n) (hn6:6<=n4) (hb:b.size<=1000) (e1s:b.extract 4 6=S1) (e2s:b.extract 6 n4=da)
    (hN:∀ w,Calls Tryz.prog 95 #[.string S1] w (fun e w'=>e=.returned (.int .i64 (fi:Nat))/\Below w.heap.size w w'))
    (hB:tableH l.toArray 20 (fun i=>match i with | 0=>[] | 1=>[0] | 2=>[] | 3=>[2] | 4=>[3] | 5=>[] | 6=>[5] | 7=>[6] | 8=>[] | 9=>[8] | 10=>[9] | 11=>[] | 12=>[11] | 13=>[12] | 14=>[] | 15=>[] | 16=>[15] | 17=>[14,16] | 18=>[1,4,7,10,13,17] | 19=>[] | _=>[]) (fun _=>[])=true)
    (h0:pick l 0=some (.move (.tmp 5),some 35))
    (h1:pick l 1=some (.binOp .quo 3 (.tmp 35) (.const (.int .i64 64)) 3,some 36))
    (h2:pick l 2=some (.move (.tmp 5),some 37))
    (h3:pick l 3=some (.binOp .quo 3 (.tmp 37) (.const (.int .i64 8)) 3,some 38))
    (h4:pick l 4=some (.binOp .rem 3 (.tmp 38) (.const (.int .i64 8)) 3,some 39))
    (h5:pick l 5=some (.move (.tmp 0),some 40))
    (h6:pick l 6=some (.index 9 (.tmp 40) (.const (.int .i64 2)),some 41))
    (h7:pick l 7=some (.convert 5 3 (.tmp 41),some 42))
    (h8:pick l 8=some (.move (.tmp 0),some 43))
    (h9:pick l 9=some (.index 9 (.tmp 43) (.const (.int .i64 3)),some 44))
    (h10:pick l 10=some (.convert 5 3 (.tmp 44),some 45))
    (h11:pick l 11=some (.move (.tmp 0),some 46))
    (h12:pick l 12=some (.slice 9 (.tmp 46) (some (.const (.int .i64 4))) (some (.const (.int .i64 6))) none,some 47))
    (h13:pick l 13=some (.call { callee:=.value (.func 95),args:=#[.tmp 47],argTypes:=#[9] },some 48))
    (h14:pick l 14=some (.move (.tmp 0),some 49))
    (h15:pick l 15=some (.move (.tmp 4),some 50))
    (h16:pick l 16=some (.binOp .sub 3 (.tmp 50) (.const (.int .i64 4)) 3,some 51))
    (h17:pick l 17=some (.slice 9 (.tmp 49) (some (.const (.int .i64 6))) (some (.tmp 51)) none,some 52))
    (h18:pick l 18=some (.build 100 #[(0,.tmp 36),(1,.tmp 39),(2,.tmp 42),(3,.tmp 45),(4,.tmp 48),(5,.tmp 52)],some 53))
    (h19:pick l 19=some (.alloc 100,some 6))
    (hs:A.tmps.size=86)
    (x0:A.eval (.tmp 0)=.string b)
    (x4:A.eval (.tmp 4)=.int .i64 (n:Nat))
    (x5:A.eval (.tmp 5)=.int .i64 (x:Nat))
    (h:∀ v19 w1,Below w.heap.size w w1->AlT n0 v19 w1->wpList Tryz.prog l.toArray Q (l.drop 20) ((((((((((((((((((((A.put (some 35) (.int .i64 (x:Nat))).put (some 36) (.int .i64 (cr:Nat))).put (some 37) (.int .i64 (x:Nat))).put (some 38) (.int .i64 (e8:Nat))).put (some 39) (.int .i64 (ch:Nat))).put (some 40) (.string b)).put (some 41) (.int .u8 (B2:Nat))).put (some 42) (.int .i64 (B2:Nat))).put (some 43) (.string b)).put (some 44) (.int .u8 (B3:Nat))).put (some 45) (.int .i64 (B3:Nat))).put (some 46) (.string b)).put (some 47) (.string S1)).put (some 48) (.int .i64 (fi:Nat))).put (some 49) (.string b)).put (some 50) (.int .i64 (n:Nat))).put (some 51) (.int .i64 (n4:Nat))).put (some 52) (.string da)).put (some 53) (.agg #[.int .i64 (cr:Nat),.int .i64 (ch:Nat),.int .i64 (B2:Nat),.int .i64 (B3:Nat),.int .i64 (fi:Nat),.string da,.int .u32 0])).put (some 6) (v19)) w1):
    (Code.region id l.toArray true).wp Tryz.prog Q A w:=by
  refine wp_region_head (by kernel_rfl) _ _ _ hB (TgbRegion b x cr e8 ch B2 B3 fi n n4 n0 S1 da A w) ⟨Off.refl _ _,(Below.refl _ _).drew,by simp,by simp,by simp,by simp,by simp,by simp,by simp,by simp,by simp,by simp,by simp,by simp,by simp,by simp,by simp,by simp,by simp,by simp,by simp,by simp⟩ ?_ ?_
  · intro s a w' S i' o il ho hsi hT K hK
    have sz:a.tmps.size=86:=by rw [S.off.2.1]; exact hs
    have y0:a.eval (.tmp 0)=.string b:=by rw [S.off.eval (by decide)]; exact x0
    have y4:a.eval (.tmp 4)=.int .i64 (n:Nat):=by rw [S.off.eval (by decide)]; exact x4
    have y5:a.eval (.tmp 5)=.int .i64 (x:Nat):=by rw [S.off.eval (by decide)]; exact x5
    match i',il,ho,hsi,hT with
    | 0,_,ho,hsi,hT=>
      obtain ⟨e1,e2⟩:=pick_of h0 ho
      refine step_val (v:=.int .i64 (x:Nat)) (by simp only [execOp,e1,y5]; go_simp) (hK _ _ ?_)
      rw [e2]
      exact ⟨ofp S.off,S.before,ev_ (by omega),kp S.t1,kp S.t2,kp S.t3,kp S.t4,kp S.t5,kp S.t6,kp S.t7,kp S.t8,kp S.t9,kp S.t10,kp S.t11,kp S.t12,kp S.t13,kp S.t14,kp S.t15,kp S.t16,kp S.t17,kp S.t18,fun g=>(S.t19 (by simpa using g)).imp fun b hb=>⟨by rw [eval_put_ne _ _ _ _ (by decide)]; exact hb.1,hb.2⟩⟩
    | 1,_,ho,hsi,hT=>
      obtain ⟨e1,e2⟩:=pick_of h1 ho
      have D0:s 0=true:=list_pos hT (d:=0) (by decide)
      refine step_val (v:=.int .i64 (cr:Nat)) (by simp only [execOp,e1,S.t0 D0]; go_simp; rw [IntKind.wrap_i64]; omega) (hK _ _ ?_)
      rw [e2]
      exact ⟨ofp S.off,S.before,kp S.t0,ev_ (by omega),kp S.t2,kp S.t3,kp S.t4,kp S.t5,kp S.t6,kp S.t7,kp S.t8,kp S.t9,kp S.t10,kp S.t11,kp S.t12,kp S.t13,kp S.t14,kp S.t15,kp S.t16,kp S.t17,kp S.t18,fun g=>(S.t19 (by simpa using g)).imp fun b hb=>⟨by rw [eval_put_ne _ _ _ _ (by decide)]; exact hb.1,hb.2⟩⟩
    | 2,_,ho,hsi,hT=>
      obtain ⟨e1,e2⟩:=pick_of h2 ho
      refine step_val (v:=.int .i64 (x:Nat)) (by simp only [execOp,e1,y5]; go_simp) (hK _ _ ?_)
      rw [e2]
      exact ⟨ofp S.off,S.before,kp S.t0,kp S.t1,ev_ (by omega),kp S.t3,kp S.t4,kp S.t5,kp S.t6,kp S.t7,kp S.t8,kp S.t9,kp S.t10,kp S.t11,kp S.t12,kp S.t13,kp S.t14,kp S.t15,kp S.t16,kp S.t17,kp S.t18,fun g=>(S.t19 (by simpa using g)).imp fun b hb=>⟨by rw [eval_put_ne _ _ _ _ (by decide)]; exact hb.1,hb.2⟩⟩
    | 3,_,ho,hsi,hT=>
      obtain ⟨e1,e2⟩:=pick_of h3 ho
      have D2:s 2=true:=list_pos hT (d:=2) (by decide)
      refine step_val (v:=.int .i64 (e8:Nat)) (by simp only [execOp,e1,S.t2 D2]; go_simp; rw [IntKind.wrap_i64]; omega) (hK _ _ ?_)
      rw [e2]
      exact ⟨ofp S.off,S.before,kp S.t0,kp S.t1,kp S.t2,ev_ (by omega),kp S.t4,kp S.t5,kp S.t6,kp S.t7,kp S.t8,kp S.t9,kp S.t10,kp S.t11,kp S.t12,kp S.t13,kp S.t14,kp S.t15,kp S.t16,kp S.t17,kp S.t18,fun g=>(S.t19 (by simpa using g)).imp fun b hb=>⟨by rw [eval_put_ne _ _ _ _ (by decide)]; exact hb.1,hb.2⟩⟩
    | 4,_,ho,hsi,hT=>
      obtain ⟨e1,e2⟩:=pick_of h4 ho
      have D3:s 3=true:=list_pos hT (d:=3) (by decide)
      refine step_val (v:=.int .i64 (ch:Nat)) (by simp only [execOp,e1,S.t3 D3]; go_simp; rw [Int.tmod_eq_emod_of_nonneg (by omega)]; omega) (hK _ _ ?_)
      rw [e2]
      exact ⟨ofp S.off,S.before,kp S.t0,kp S.t1,kp S.t2,kp S.t3,ev_ (by omega),kp S.t5,kp S.t6,kp S.t7,kp S.t8,kp S.t9,kp S.t10,kp S.t11,kp S.t12,kp S.t13,kp S.t14,kp S.t15,kp S.t16,kp S.t17,kp S.t18,fun g=>(S.t19 (by simpa using g)).imp fun b hb=>⟨by rw [eval_put_ne _ _ _ _ (by decide)]; exact hb.1,hb.2⟩⟩
    | 5,_,ho,hsi,hT=>
      obtain ⟨e1,e2⟩:=pick_of h5 ho
      refine step_val (v:=.string b) (by simp only [execOp,e1,y0]; go_simp) (hK _ _ ?_)
      rw [e2]
      exact ⟨ofp S.off,S.before,kp S.t0,kp S.t1,kp S.t2,kp S.t3,kp S.t4,ev_ (by omega),kp S.t6,kp S.t7,kp S.t8,kp S.t9,kp S.t10,kp S.t11,kp S.t12,kp S.t13,kp S.t14,kp S.t15,kp S.t16,kp S.t17,kp S.t18,fun g=>(S.t19 (by simpa using g)).imp fun b hb=>⟨by rw [eval_put_ne _ _ _ _ (by decide)]; exact hb.1,hb.2⟩⟩
    | 6,_,ho,hsi,hT=>
      obtain ⟨e1,e2⟩:=pick_of h6 ho
      have D5:s 5=true:=list_pos hT (d:=5) (by decide)
      have bc:=byte_co b 2 hs2
      rw [show (Gal.co b.data.toList 2).toNat=B2 from hb2] at bc
      refine step_val (v:=.int .u8 (B2:Nat)) (by simp only [execOp,e1,S.t5 D5]; go_simp <;> (intro hq; omega)) (hK _ _ ?_)
      rw [e2]
      exact ⟨ofp S.off,S.before,kp S.t0,kp S.t1,kp S.t2,kp S.t3,kp S.t4,kp S.t5,ev_ (by omega),kp S.t7,kp S.t8,kp S.t9,kp S.t10,kp S.t11,kp S.t12,kp S.t13,kp S.t14,kp S.t15,kp S.t16,kp S.t17,kp S.t18,fun g=>(S.t19 (by simpa using g)).imp fun b hb=>⟨by rw [eval_put_ne _ _ _ _ (by decide)]; exact hb.1,hb.2⟩⟩
    | 7,_,ho,hsi,hT=>
      obtain ⟨e1,e2⟩:=pick_of h7 ho
      have D6:s 6=true:=list_pos hT (d:=6) (by decide)
      refine step_val (v:=.int .i64 (B2:Nat)) (by simp only [execOp,e1,S.t6 D6]; go_simp; rw [IntKind.wrap_i64]; omega) (hK _ _ ?_)
      rw [e2]
      exact ⟨ofp S.off,S.before,kp S.t0,kp S.t1,kp S.t2,kp S.t3,kp S.t4,kp S.t5,kp S.t6,ev_ (by omega),kp S.t8,kp S.t9,kp S.t10,kp S.t11,kp S.t12,kp S.t13,kp S.t14,kp S.t15,kp S.t16,kp S.t17,kp S.t18,fun g=>(S.t19 (by simpa using g)).imp fun b hb=>⟨by rw [eval_put_ne _ _ _ _ (by decide)]; exact hb.1,hb.2⟩⟩
    | 8,_,ho,hsi,hT=>
      obtain ⟨e1,e2⟩:=pick_of h8 ho
      refine step_val (v:=.string b) (by simp only [execOp,e1,y0]; go_simp) (hK _ _ ?_)
      rw [e2]
      exact ⟨ofp S.off,S.before,kp S.t0,kp S.t1,kp S.t2,kp S.t3,kp S.t4,kp S.t5,kp S.t6,kp S.t7,ev_ (by omega),kp S.t9,kp S.t10,kp S.t11,kp S.t12,kp S.t13,kp S.t14,kp S.t15,kp S.t16,kp S.t17,kp S.t18,fun g=>(S.t19 (by simpa using g)).imp fun b hb=>⟨by rw [eval_put_ne _ _ _ _ (by decide)]; exact hb.1,hb.2⟩⟩
    | 9,_,ho,hsi,hT=>
      obtain ⟨e1,e2⟩:=pick_of h9 ho
      have D8:s 8=true:=list_pos hT (d:=8) (by decide)
      have bc:=byte_co b 3 hs3
      rw [show (Gal.co b.data.toList 3).toNat=B3 from hb3] at bc
      refine step_val (v:=.int .u8 (B3:Nat)) (by simp only [execOp,e1,S.t8 D8]; go_simp <;> (intro hq; omega)) (hK _ _ ?_)
      rw [e2]
      exact ⟨ofp S.off,S.before,kp S.t0,kp S.t1,kp S.t2,kp S.t3,kp S.t4,kp S.t5,kp S.t6,kp S.t7,kp S.t8,ev_ (by omega),kp S.t10,kp S.t11,kp S.t12,kp S.t13,kp S.t14,kp S.t15,kp S.t16,kp S.t17,kp S.t18,fun g=>(S.t19 (by simpa using g)).imp fun b hb=>⟨by rw [eval_put_ne _ _ _ _ (by decide)]; exact hb.1,hb.2⟩⟩
    | 10,_,ho,hsi,hT=>
      obtain ⟨e1,e2⟩:=pick_of h10 ho
      have D9:s 9=true:=list_pos hT (d:=9) (by decide)
      refine step_val (v:=.int .i64 (B3:Nat)) (by simp only [execOp,e1,S.t9 D9]; go_simp; rw [IntKind.wrap_i64]; omega) (hK _ _ ?_)
      rw [e2]
      exact ⟨ofp S.off,S.before,kp S.t0,kp S.t1,kp S.t2,kp S.t3,kp S.t4,kp S.t5,kp S.t6,kp S.t7,kp S.t8,kp S.t9,ev_ (by omega),kp S.t11,kp S.t12,kp S.t13,kp S.t14,kp S.t15,kp S.t16,kp S.t17,kp S.t18,fun g=>(S.t19 (by simpa using g)).imp fun b hb=>⟨by rw [eval_put_ne _ _ _ _ (by decide)]; exact hb.1,hb.2⟩⟩
    | 11,_,ho,hsi,hT=>
      obtain ⟨e1,e2⟩:=pick_of h11 ho
      refine step_val (v:=.string b) (by simp only [execOp,e1,y0]; go_simp) (hK _ _ ?_)
      rw [e2]
      exact ⟨ofp S.off,S.before,kp S.t0,kp S.t1,kp S.t2,kp S.t3,kp S.t4,kp S.t5,kp S.t6,kp S.t7,kp S.t8,kp S.t9,kp S.t10,ev_ (by omega),kp S.t12,kp S.t13,kp S.t14,kp S.t15,kp S.t16,kp S.t17,kp S.t18,fun g=>(S.t19 (by simpa using g)).imp fun b hb=>⟨by rw [eval_put_ne _ _ _ _ (by decide)]; exact hb.1,hb.2⟩⟩
    | 12,_,ho,hsi,hT=>
      obtain ⟨e1,e2⟩:=pick_of h12 ho
      have D11:s 11=true:=list_pos hT (d:=11) (by decide)
      refine step_val (v:=.string S1) (by simp only [execOp,e1,Option.map_none,Option.map_some,S.t11 D11]; go_simp; rw [run_slice_string (P:=Tryz.prog) (w:=w') 9 b .i64 .i64 (4) (6) Tryz.underlying9 (by omega) (by omega) (by omega)]; show Result.ok (Next.value (Value.string (b.extract 4 6))) w'=_; rw [e1s]) (hK _ _ ?_)
      rw [e2]
      exact ⟨ofp S.off,S.before,kp S.t0,kp S.t1,kp S.t2,kp S.t3,kp S.t4,kp S.t5,kp S.t6,kp S.t7,kp S.t8,kp S.t9,kp S.t10,kp S.t11,ev_ (by omega),kp S.t13,kp S.t14,kp S.t15,kp S.t16,kp S.t17,kp S.t18,fun g=>(S.t19 (by simpa using g)).imp fun b hb=>⟨by rw [eval_put_ne _ _ _ _ (by decide)]; exact hb.1,hb.2⟩⟩
    | 13,_,ho,hsi,hT=>
      obtain ⟨e1,e2⟩:=pick_of h13 ho
      have D12:s 12=true:=list_pos hT (d:=12) (by decide)
      have BW:=S.before
      refine step_call 95 (fun args w=>by go_simp) _ _ e1 #[.string S1] (by simp only [List.map_toArray,List.map_cons,List.map_nil,S.t12 D12] <;> rfl) ((hN w').mono ?_)
      rintro e w2 ⟨rfl,BB⟩
      refine ⟨_,rfl,hK _ _ ?_⟩
      rw [e2]
      exact ⟨ofp S.off,bt BW BB,kp S.t0,kp S.t1,kp S.t2,kp S.t3,kp S.t4,kp S.t5,kp S.t6,kp S.t7,kp S.t8,kp S.t9,kp S.t10,kp S.t11,kp S.t12,ev_ (by omega),kp S.t14,kp S.t15,kp S.t16,kp S.t17,kp S.t18,fun g=>(S.t19 (by simpa using g)).imp fun b hb=>⟨by rw [eval_put_ne _ _ _ _ (by decide)]; exact hb.1,(AlT.mono hb.2 BB)⟩⟩
    | 14,_,ho,hsi,hT=>
      obtain ⟨e1,e2⟩:=pick_of h14 ho
      refine step_val (v:=.string b) (by simp only [execOp,e1,y0]; go_simp) (hK _ _ ?_)
      rw [e2]
      exact ⟨ofp S.off,S.before,kp S.t0,kp S.t1,kp S.t2,kp S.t3,kp S.t4,kp S.t5,kp S.t6,kp S.t7,kp S.t8,kp S.t9,kp S.t10,kp S.t11,kp S.t12,kp S.t13,ev_ (by omega),kp S.t15,kp S.t16,kp S.t17,kp S.t18,fun g=>(S.t19 (by simpa using g)).imp fun b hb=>⟨by rw [eval_put_ne _ _ _ _ (by decide)]; exact hb.1,hb.2⟩⟩
    | 15,_,ho,hsi,hT=>
      obtain ⟨e1,e2⟩:=pick_of h15 ho
      refine step_val (v:=.int .i64 (n:Nat)) (by simp only [execOp,e1,y4]; go_simp) (hK _ _ ?_)
      rw [e2]
      exact ⟨ofp S.off,S.before,kp S.t0,kp S.t1,kp S.t2,kp S.t3,kp S.t4,kp S.t5,kp S.t6,kp S.t7,kp S.t8,kp S.t9,kp S.t10,kp S.t11,kp S.t12,kp S.t13,kp S.t14,ev_ (by omega),kp S.t16,kp S.t17,kp S.t18,fun g=>(S.t19 (by simpa using g)).imp fun b hb=>⟨by rw [eval_put_ne _ _ _ _ (by decide)]; exact hb.1,hb.2⟩⟩
    | 16,_,ho,hsi,hT=>
      obtain ⟨e1,e2⟩:=pick_of h16 ho
      have D15:s 15=true:=list_pos hT (d:=15) (by decide)
      refine step_val (v:=.int .i64 (n4:Nat)) (by simp only [execOp,e1,S.t15 D15]; go_simp; rw [IntKind.wrap_i64]; omega) (hK _ _ ?_)
      rw [e2]
      exact ⟨ofp S.off,S.before,kp S.t0,kp S.t1,kp S.t2,kp S.t3,kp S.t4,kp S.t5,kp S.t6,kp S.t7,kp S.t8,kp S.t9,kp S.t10,kp S.t11,kp S.t12,kp S.t13,kp S.t14,kp S.t15,ev_ (by omega),kp S.t17,kp S.t18,fun g=>(S.t19 (by simpa using g)).imp fun b hb=>⟨by rw [eval_put_ne _ _ _ _ (by decide)]; exact hb.1,hb.2⟩⟩
    | 17,_,ho,hsi,hT=>
      obtain ⟨e1,e2⟩:=pick_of h17 ho
      have D14:s 14=true:=list_pos hT (d:=14) (by decide)
      have D16:s 16=true:=list_pos hT (d:=16) (by decide)
      have q51:a.tmps[51]'(by omega)=.int .i64 (n4:Nat):=by have:=S.t16 D16; simpa [Act.eval,sz] using this
      refine step_val (v:=.string da) (by simp only [execOp,e1,Option.map_none,Option.map_some,S.t14 D14]; go_simp; rw [run_slice_string (P:=Tryz.prog) (w:=w') 9 b .i64 .i64 (6) ((n4:Nat)) Tryz.underlying9 (by omega) (by omega) (by omega)]; show Result.ok (Next.value (Value.string (b.extract 6 (n4:Nat)))) w'=_; rw [e2s]) (hK _ _ ?_)
      rw [e2]
      exact ⟨ofp S.off,S.before,kp S.t0,kp S.t1,kp S.t2,kp S.t3,kp S.t4,kp S.t5,kp S.t6,kp S.t7,kp S.t8,kp S.t9,kp S.t10,kp S.t11,kp S.t12,kp S.t13,kp S.t14,kp S.t15,kp S.t16,ev_ (by omega),kp S.t18,fun g=>(S.t19 (by simpa using g)).imp fun b hb=>⟨by rw [eval_put_ne _ _ _ _ (by decide)]; exact hb.1,hb.2⟩⟩
    | 18,_,ho,hsi,hT=>
      obtain ⟨e1,e2⟩:=pick_of h18 ho
      have D1:s 1=true:=list_pos hT (d:=1) (by decide)
      have D4:s 4=true:=list_pos hT (d:=4) (by decide)
      have D7:s 7=true:=list_pos hT (d:=7) (by decide)
      have D10:s 10=true:=list_pos hT (d:=10) (by decide)
      have D13:s 13=true:=list_pos hT (d:=13) (by decide)
      have D17:s 17=true:=list_pos hT (d:=17) (by decide)
      have q36:a.tmps[36]'(by omega)=.int .i64 (cr:Nat):=by have:=S.t1 D1; simpa [Act.eval,sz] using this
      have q39:a.tmps[39]'(by omega)=.int .i64 (ch:Nat):=by have:=S.t4 D4; simpa [Act.eval,sz] using this
      have q42:a.tmps[42]'(by omega)=.int .i64 (B2:Nat):=by have:=S.t7 D7; simpa [Act.eval,sz] using this
      have q45:a.tmps[45]'(by omega)=.int .i64 (B3:Nat):=by have:=S.t10 D10; simpa [Act.eval,sz] using this
      have q48:a.tmps[48]'(by omega)=.int .i64 (fi:Nat):=by have:=S.t13 D13; simpa [Act.eval,sz] using this
      have q52:a.tmps[52]'(by omega)=.string da:=by have:=S.t17 D17; simpa [Act.eval,sz] using this
      refine step_val (v:=.agg #[.int .i64 (cr:Nat),.int .i64 (ch:Nat),.int .i64 (B2:Nat),.int .i64 (B3:Nat),.int .i64 (fi:Nat),.string da,.int .u32 0]) (by simp only [execOp,e1]; go_simp) (hK _ _ ?_)
      rw [e2]
      exact ⟨ofp S.off,S.before,kp S.t0,kp S.t1,kp S.t2,kp S.t3,kp S.t4,kp S.t5,kp S.t6,kp S.t7,kp S.t8,kp S.t9,kp S.t10,kp S.t11,kp S.t12,kp S.t13,kp S.t14,kp S.t15,kp S.t16,kp S.t17,ev_ (by omega),fun g=>(S.t19 (by simpa using g)).imp fun b hb=>⟨by rw [eval_put_ne _ _ _ _ (by decide)]; exact hb.1,hb.2⟩⟩
    | 19,_,ho,hsi,hT=>
      obtain ⟨e1,e2⟩:=pick_of h19 ho
      have BW:=S.before
      refine tm_step1 (Fact:=AlT n0) (v:=.pointer (some ⟨w'.heap.size,0,none⟩)) (alloc_tm e1) (alt_new w' (Nat.le_trans hn0 BW.size)) (ba (Below.refl _ _) _) (fun v w2 FF BB=>hK _ _ ?_)
      rw [e2]
      exact ⟨ofp S.off,bt BW BB,kp S.t0,kp S.t1,kp S.t2,kp S.t3,kp S.t4,kp S.t5,kp S.t6,kp S.t7,kp S.t8,kp S.t9,kp S.t10,kp S.t11,kp S.t12,kp S.t13,kp S.t14,kp S.t15,kp S.t16,kp S.t17,kp S.t18,fun _=>⟨_,(eval_put _ _ _ (by omega)).trans rfl,FF⟩⟩
    | _ + 20,il,_,_,_=>exact absurd il (by omega)
  intro s a w' S hall
  have a0:=hall 0 (by omega)
  have a1:=hall 1 (by omega)
  have a2:=hall 2 (by omega)
  have a3:=hall 3 (by omega)
  have a4:=hall 4 (by omega)
  have a5:=hall 5 (by omega)
  have a6:=hall 6 (by omega)
  have a7:=hall 7 (by omega)
  have a8:=hall 8 (by omega)
  have a9:=hall 9 (by omega)
  have a10:=hall 10 (by omega)
  have a11:=hall 11 (by omega)
  have a12:=hall 12 (by omega)
  have a13:=hall 13 (by omega)
  have a14:=hall 14 (by omega)
  have a15:=hall 15 (by omega)
  have a16:=hall 16 (by omega)
  have a17:=hall 17 (by omega)
  have a18:=hall 18 (by omega)
  have a19:=hall 19 (by omega)
  have e:=off_norm _ (by intro d hd; simp at hd; omega) S.off
  obtain ⟨v19,M19,F19⟩:=S.t19 a19
  simp only [List.foldl,S.t0 a0,S.t1 a1,S.t2 a2,S.t3 a3,S.t4 a4,S.t5 a5,S.t6 a6,S.t7 a7,S.t8 a8,S.t9 a9,S.t10 a10,S.t11 a11,S.t12 a12,S.t13 a13,S.t14 a14,S.t15 a15,S.t16 a16,S.t17 a17,S.t18 a18,M19] at e
  rw [e]
  exact h _ _ S.before F19
structure TgcRegion (b:ByteArray) (G n n4 n2 p1 q1 p2 wo:Nat) (S1 S2:ByteArray) (A:Act) (w0:World) (s:Nat->Bool) (a:Act) (w:World):Prop where
  off:Off [54,55,56,57,58,59,60,61,62,63,64,65,66,67,68,69,70,71] a A
  before:Below w0.heap.size w0 w
  t0:s 0=true->a.eval (.tmp 54)=.string b
  t1:s 1=true->a.eval (.tmp 55)=.int .i64 (n:Nat)
  t2:s 2=true->a.eval (.tmp 56)=.int .i64 (n4:Nat)
  t3:s 3=true->a.eval (.tmp 57)=.int .i64 (n:Nat)
  t4:s 4=true->a.eval (.tmp 58)=.int .i64 (n2:Nat)
  t5:s 5=true->a.eval (.tmp 59)=.string S1
  t6:s 6=true->a.eval (.tmp 60)=.int .i64 (p1:Nat)
  t7:s 7=true->a.eval (.tmp 61)=.int .u32 (p1:Nat)
  t8:s 8=true->a.eval (.tmp 62)=.int .u32 (q1:Nat)
  t9:s 9=true->a.eval (.tmp 63)=.string b
  t10:s 10=true->a.eval (.tmp 64)=.int .i64 (n:Nat)
  t11:s 11=true->a.eval (.tmp 65)=.int .i64 (n2:Nat)
  t12:s 12=true->a.eval (.tmp 66)=.int .i64 (n:Nat)
  t13:s 13=true->a.eval (.tmp 67)=.string S2
  t14:s 14=true->a.eval (.tmp 68)=.int .i64 (p2:Nat)
  t15:s 15=true->a.eval (.tmp 69)=.int .u32 (p2:Nat)
  t16:s 16=true->a.eval (.tmp 70)=.int .u32 (wo:Nat)
  t17:s 17=true->a.eval (.tmp 71)=.pointer (some ⟨G,6,none⟩)
theorem tgcRegion {id:Nat} {l:List Oper} {A:Act} {w:World} {Q:Exit->Act->World->Prop} (b:ByteArray) (G n n4 n2 p1 q1 p2 wo:Nat) (S1 S2:ByteArray)
    (hn:n<=b.size) (hn4:n4 + 4=n) (hn2:n2 + 2=n) (hb:b.size<=1000) (l1:p1 < 65536) (l2:p2 < 65536) (hq:p1 * 65536=q1) (hw:q1 + p2=wo) (e1s:b.extract n4 n2=S1) (e2s:b.extract n2 n=S2)
    (hN:∀ w,Calls Tryz.prog 95 #[.string S1] w (fun e w'=>e=.returned (.int .i64 (p1:Nat))/\Below w.heap.size w w')) (hM:∀ w,Calls Tryz.prog 95 #[.string S2] w (fun e w'=>e=.returned (.int .i64 (p2:Nat))/\Below w.heap.size w w'))
    (hB:tableH l.toArray 18 (fun i=>match i with | 0=>[] | 1=>[] | 2=>[1] | 3=>[] | 4=>[3] | 5=>[0,2,4] | 6=>[5] | 7=>[6] | 8=>[7] | 9=>[] | 10=>[] | 11=>[10] | 12=>[] | 13=>[9,11,12] | 14=>[13] | 15=>[14] | 16=>[8,15] | 17=>[] | _=>[]) (fun _=>[])=true)
    (h0:pick l 0=some (.move (.tmp 0),some 54))
    (h1:pick l 1=some (.move (.tmp 4),some 55))
    (h2:pick l 2=some (.binOp .sub 3 (.tmp 55) (.const (.int .i64 4)) 3,some 56))
    (h3:pick l 3=some (.move (.tmp 4),some 57))
    (h4:pick l 4=some (.binOp .sub 3 (.tmp 57) (.const (.int .i64 2)) 3,some 58))
    (h5:pick l 5=some (.slice 9 (.tmp 54) (some (.tmp 56)) (some (.tmp 58)) none,some 59))
    (h6:pick l 6=some (.call { callee:=.value (.func 95),args:=#[.tmp 59],argTypes:=#[9] },some 60))
    (h7:pick l 7=some (.convert 3 34 (.tmp 60),some 61))
    (h8:pick l 8=some (.binOp .mul 34 (.tmp 61) (.const (.int .u32 65536)) 34,some 62))
    (h9:pick l 9=some (.move (.tmp 0),some 63))
    (h10:pick l 10=some (.move (.tmp 4),some 64))
    (h11:pick l 11=some (.binOp .sub 3 (.tmp 64) (.const (.int .i64 2)) 3,some 65))
    (h12:pick l 12=some (.move (.tmp 4),some 66))
    (h13:pick l 13=some (.slice 9 (.tmp 63) (some (.tmp 65)) (some (.tmp 66)) none,some 67))
    (h14:pick l 14=some (.call { callee:=.value (.func 95),args:=#[.tmp 67],argTypes:=#[9] },some 68))
    (h15:pick l 15=some (.convert 3 34 (.tmp 68),some 69))
    (h16:pick l 16=some (.binOp .add 34 (.tmp 62) (.tmp 69) 34,some 70))
    (h17:pick l 17=some (.fieldAddr 100 (.tmp 6) 6,some 71))
    (hs:A.tmps.size=86)
    (x0:A.eval (.tmp 0)=.string b)
    (x4:A.eval (.tmp 4)=.int .i64 (n:Nat))
    (x6:A.eval (.tmp 6)=.pointer (some ⟨G,0,none⟩))
    (h:∀ w1,Below w.heap.size w w1->wpList Tryz.prog l.toArray Q (l.drop 18) ((((((((((((((((((A.put (some 54) (.string b)).put (some 55) (.int .i64 (n:Nat))).put (some 56) (.int .i64 (n4:Nat))).put (some 57) (.int .i64 (n:Nat))).put (some 58) (.int .i64 (n2:Nat))).put (some 59) (.string S1)).put (some 60) (.int .i64 (p1:Nat))).put (some 61) (.int .u32 (p1:Nat))).put (some 62) (.int .u32 (q1:Nat))).put (some 63) (.string b)).put (some 64) (.int .i64 (n:Nat))).put (some 65) (.int .i64 (n2:Nat))).put (some 66) (.int .i64 (n:Nat))).put (some 67) (.string S2)).put (some 68) (.int .i64 (p2:Nat))).put (some 69) (.int .u32 (p2:Nat))).put (some 70) (.int .u32 (wo:Nat))).put (some 71) (.pointer (some ⟨G,6,none⟩))) w1):
    (Code.region id l.toArray true).wp Tryz.prog Q A w:=by
  refine wp_region_head (by kernel_rfl) _ _ _ hB (TgcRegion b G n n4 n2 p1 q1 p2 wo S1 S2 A w) ⟨Off.refl _ _,(Below.refl _ _).drew,by simp,by simp,by simp,by simp,by simp,by simp,by simp,by simp,by simp,by simp,by simp,by simp,by simp,by simp,by simp,by simp,by simp,by simp⟩ ?_ ?_
  · intro s a w' S i' o il ho hsi hT K hK
    have sz:a.tmps.size=86:=by rw [S.off.2.1]; exact hs
    have y0:a.eval (.tmp 0)=.string b:=by rw [S.off.eval (by decide)]; exact x0
    have y4:a.eval (.tmp 4)=.int .i64 (n:Nat):=by rw [S.off.eval (by decide)]; exact x4
    have y6:a.eval (.tmp 6)=.pointer (some ⟨G,0,none⟩):=by rw [S.off.eval (by decide)]; exact x6
    match i',il,ho,hsi,hT with
    | 0,_,ho,hsi,hT=>
      obtain ⟨e1,e2⟩:=pick_of h0 ho
      refine step_val (v:=.string b) (by simp only [execOp,e1,y0]; go_simp) (hK _ _ ?_)
      rw [e2]
      exact ⟨ofp S.off,S.before,ev_ (by omega),kp S.t1,kp S.t2,kp S.t3,kp S.t4,kp S.t5,kp S.t6,kp S.t7,kp S.t8,kp S.t9,kp S.t10,kp S.t11,kp S.t12,kp S.t13,kp S.t14,kp S.t15,kp S.t16,kp S.t17⟩
    | 1,_,ho,hsi,hT=>
      obtain ⟨e1,e2⟩:=pick_of h1 ho
      refine step_val (v:=.int .i64 (n:Nat)) (by simp only [execOp,e1,y4]; go_simp) (hK _ _ ?_)
      rw [e2]
      exact ⟨ofp S.off,S.before,kp S.t0,ev_ (by omega),kp S.t2,kp S.t3,kp S.t4,kp S.t5,kp S.t6,kp S.t7,kp S.t8,kp S.t9,kp S.t10,kp S.t11,kp S.t12,kp S.t13,kp S.t14,kp S.t15,kp S.t16,kp S.t17⟩
    | 2,_,ho,hsi,hT=>
      obtain ⟨e1,e2⟩:=pick_of h2 ho
      have D1:s 1=true:=list_pos hT (d:=1) (by decide)
      refine step_val (v:=.int .i64 (n4:Nat)) (by simp only [execOp,e1,S.t1 D1]; go_simp; rw [IntKind.wrap_i64]; omega) (hK _ _ ?_)
      rw [e2]
      exact ⟨ofp S.off,S.before,kp S.t0,kp S.t1,ev_ (by omega),kp S.t3,kp S.t4,kp S.t5,kp S.t6,kp S.t7,kp S.t8,kp S.t9,kp S.t10,kp S.t11,kp S.t12,kp S.t13,kp S.t14,kp S.t15,kp S.t16,kp S.t17⟩
    | 3,_,ho,hsi,hT=>
      obtain ⟨e1,e2⟩:=pick_of h3 ho
      refine step_val (v:=.int .i64 (n:Nat)) (by simp only [execOp,e1,y4]; go_simp) (hK _ _ ?_)
      rw [e2]
      exact ⟨ofp S.off,S.before,kp S.t0,kp S.t1,kp S.t2,ev_ (by omega),kp S.t4,kp S.t5,kp S.t6,kp S.t7,kp S.t8,kp S.t9,kp S.t10,kp S.t11,kp S.t12,kp S.t13,kp S.t14,kp S.t15,kp S.t16,kp S.t17⟩
    | 4,_,ho,hsi,hT=>
      obtain ⟨e1,e2⟩:=pick_of h4 ho
      have D3:s 3=true:=list_pos hT (d:=3) (by decide)
      refine step_val (v:=.int .i64 (n2:Nat)) (by simp only [execOp,e1,S.t3 D3]; go_simp; rw [IntKind.wrap_i64]; omega) (hK _ _ ?_)
      rw [e2]
      exact ⟨ofp S.off,S.before,kp S.t0,kp S.t1,kp S.t2,kp S.t3,ev_ (by omega),kp S.t5,kp S.t6,kp S.t7,kp S.t8,kp S.t9,kp S.t10,kp S.t11,kp S.t12,kp S.t13,kp S.t14,kp S.t15,kp S.t16,kp S.t17⟩
    | 5,_,ho,hsi,hT=>
      obtain ⟨e1,e2⟩:=pick_of h5 ho
      have D0:s 0=true:=list_pos hT (d:=0) (by decide)
      have D2:s 2=true:=list_pos hT (d:=2) (by decide)
      have D4:s 4=true:=list_pos hT (d:=4) (by decide)
      have q56:a.tmps[56]'(by omega)=.int .i64 (n4:Nat):=by have:=S.t2 D2; simpa [Act.eval,sz] using this
      have q58:a.tmps[58]'(by omega)=.int .i64 (n2:Nat):=by have:=S.t4 D4; simpa [Act.eval,sz] using this
      refine step_val (v:=.string S1) (by simp only [execOp,e1,Option.map_none,Option.map_some,S.t0 D0]; go_simp; rw [run_slice_string (P:=Tryz.prog) (w:=w') 9 b .i64 .i64 ((n4:Nat)) ((n2:Nat)) Tryz.underlying9 (by omega) (by omega) (by omega)]; show Result.ok (Next.value (Value.string (b.extract (n4:Nat) (n2:Nat)))) w'=_; rw [e1s]) (hK _ _ ?_)
      rw [e2]
      exact ⟨ofp S.off,S.before,kp S.t0,kp S.t1,kp S.t2,kp S.t3,kp S.t4,ev_ (by omega),kp S.t6,kp S.t7,kp S.t8,kp S.t9,kp S.t10,kp S.t11,kp S.t12,kp S.t13,kp S.t14,kp S.t15,kp S.t16,kp S.t17⟩
    | 6,_,ho,hsi,hT=>
      obtain ⟨e1,e2⟩:=pick_of h6 ho
      have D5:s 5=true:=list_pos hT (d:=5) (by decide)
      have BW:=S.before
      refine step_call 95 (fun args w=>by go_simp) _ _ e1 #[.string S1] (by simp only [List.map_toArray,List.map_cons,List.map_nil,S.t5 D5] <;> rfl) ((hN w').mono ?_)
      rintro e w2 ⟨rfl,BB⟩
      refine ⟨_,rfl,hK _ _ ?_⟩
      rw [e2]
      exact ⟨ofp S.off,bt BW BB,kp S.t0,kp S.t1,kp S.t2,kp S.t3,kp S.t4,kp S.t5,ev_ (by omega),kp S.t7,kp S.t8,kp S.t9,kp S.t10,kp S.t11,kp S.t12,kp S.t13,kp S.t14,kp S.t15,kp S.t16,kp S.t17⟩
    | 7,_,ho,hsi,hT=>
      obtain ⟨e1,e2⟩:=pick_of h7 ho
      have D6:s 6=true:=list_pos hT (d:=6) (by decide)
      refine step_val (v:=.int .u32 (p1:Nat)) (by simp only [execOp,e1,S.t6 D6]; go_simp; rw [IntKind.wrap_u32]; omega) (hK _ _ ?_)
      rw [e2]
      exact ⟨ofp S.off,S.before,kp S.t0,kp S.t1,kp S.t2,kp S.t3,kp S.t4,kp S.t5,kp S.t6,ev_ (by omega),kp S.t8,kp S.t9,kp S.t10,kp S.t11,kp S.t12,kp S.t13,kp S.t14,kp S.t15,kp S.t16,kp S.t17⟩
    | 8,_,ho,hsi,hT=>
      obtain ⟨e1,e2⟩:=pick_of h8 ho
      have D7:s 7=true:=list_pos hT (d:=7) (by decide)
      refine step_val (v:=.int .u32 (q1:Nat)) (by simp only [execOp,e1,S.t7 D7]; go_simp; rw [IntKind.wrap_u32]; omega) (hK _ _ ?_)
      rw [e2]
      exact ⟨ofp S.off,S.before,kp S.t0,kp S.t1,kp S.t2,kp S.t3,kp S.t4,kp S.t5,kp S.t6,kp S.t7,ev_ (by omega),kp S.t9,kp S.t10,kp S.t11,kp S.t12,kp S.t13,kp S.t14,kp S.t15,kp S.t16,kp S.t17⟩
    | 9,_,ho,hsi,hT=>
      obtain ⟨e1,e2⟩:=pick_of h9 ho
      refine step_val (v:=.string b) (by simp only [execOp,e1,y0]; go_simp) (hK _ _ ?_)
      rw [e2]
      exact ⟨ofp S.off,S.before,kp S.t0,kp S.t1,kp S.t2,kp S.t3,kp S.t4,kp S.t5,kp S.t6,kp S.t7,kp S.t8,ev_ (by omega),kp S.t10,kp S.t11,kp S.t12,kp S.t13,kp S.t14,kp S.t15,kp S.t16,kp S.t17⟩
    | 10,_,ho,hsi,hT=>
      obtain ⟨e1,e2⟩:=pick_of h10 ho
      refine step_val (v:=.int .i64 (n:Nat)) (by simp only [execOp,e1,y4]; go_simp) (hK _ _ ?_)
      rw [e2]
      exact ⟨ofp S.off,S.before,kp S.t0,kp S.t1,kp S.t2,kp S.t3,kp S.t4,kp S.t5,kp S.t6,kp S.t7,kp S.t8,kp S.t9,ev_ (by omega),kp S.t11,kp S.t12,kp S.t13,kp S.t14,kp S.t15,kp S.t16,kp S.t17⟩
    | 11,_,ho,hsi,hT=>
      obtain ⟨e1,e2⟩:=pick_of h11 ho
      have D10:s 10=true:=list_pos hT (d:=10) (by decide)
      refine step_val (v:=.int .i64 (n2:Nat)) (by simp only [execOp,e1,S.t10 D10]; go_simp; rw [IntKind.wrap_i64]; omega) (hK _ _ ?_)
      rw [e2]
      exact ⟨ofp S.off,S.before,kp S.t0,kp S.t1,kp S.t2,kp S.t3,kp S.t4,kp S.t5,kp S.t6,kp S.t7,kp S.t8,kp S.t9,kp S.t10,ev_ (by omega),kp S.t12,kp S.t13,kp S.t14,kp S.t15,kp S.t16,kp S.t17⟩
    | 12,_,ho,hsi,hT=>
      obtain ⟨e1,e2⟩:=pick_of h12 ho
      refine step_val (v:=.int .i64 (n:Nat)) (by simp only [execOp,e1,y4]; go_simp) (hK _ _ ?_)
      rw [e2]
      exact ⟨ofp S.off,S.before,kp S.t0,kp S.t1,kp S.t2,kp S.t3,kp S.t4,kp S.t5,kp S.t6,kp S.t7,kp S.t8,kp S.t9,kp S.t10,kp S.t11,ev_ (by omega),kp S.t13,kp S.t14,kp S.t15,kp S.t16,kp S.t17⟩
    | 13,_,ho,hsi,hT=>
      obtain ⟨e1,e2⟩:=pick_of h13 ho
      have D9:s 9=true:=list_pos hT (d:=9) (by decide)
      have D11:s 11=true:=list_pos hT (d:=11) (by decide)
      have D12:s 12=true:=list_pos hT (d:=12) (by decide)
      have q65:a.tmps[65]'(by omega)=.int .i64 (n2:Nat):=by have:=S.t11 D11; simpa [Act.eval,sz] using this
      have q66:a.tmps[66]'(by omega)=.int .i64 (n:Nat):=by have:=S.t12 D12; simpa [Act.eval,sz] using this
      refine step_val (v:=.string S2) (by simp only [execOp,e1,Option.map_none,Option.map_some,S.t9 D9]; go_simp; rw [run_slice_string (P:=Tryz.prog) (w:=w') 9 b .i64 .i64 ((n2:Nat)) ((n:Nat)) Tryz.underlying9 (by omega) (by omega) (by omega)]; show Result.ok (Next.value (Value.string (b.extract (n2:Nat) (n:Nat)))) w'=_; rw [e2s]) (hK _ _ ?_)
      rw [e2]
      exact ⟨ofp S.off,S.before,kp S.t0,kp S.t1,kp S.t2,kp S.t3,kp S.t4,kp S.t5,kp S.t6,kp S.t7,kp S.t8,kp S.t9,kp S.t10,kp S.t11,kp S.t12,ev_ (by omega),kp S.t14,kp S.t15,kp S.t16,kp S.t17⟩
    | 14,_,ho,hsi,hT=>
      obtain ⟨e1,e2⟩:=pick_of h14 ho
      have D13:s 13=true:=list_pos hT (d:=13) (by decide)
      have BW:=S.before
      refine step_call 95 (fun args w=>by go_simp) _ _ e1 #[.string S2] (by simp only [List.map_toArray,List.map_cons,List.map_nil,S.t13 D13] <;> rfl) ((hM w').mono ?_)
      rintro e w2 ⟨rfl,BB⟩
      refine ⟨_,rfl,hK _ _ ?_⟩
      rw [e2]
      exact ⟨ofp S.off,bt BW BB,kp S.t0,kp S.t1,kp S.t2,kp S.t3,kp S.t4,kp S.t5,kp S.t6,kp S.t7,kp S.t8,kp S.t9,kp S.t10,kp S.t11,kp S.t12,kp S.t13,ev_ (by omega),kp S.t15,kp S.t16,kp S.t17⟩
    | 15,_,ho,hsi,hT=>
      obtain ⟨e1,e2⟩:=pick_of h15 ho
      have D14:s 14=true:=list_pos hT (d:=14) (by decide)
      refine step_val (v:=.int .u32 (p2:Nat)) (by simp only [execOp,e1,S.t14 D14]; go_simp; rw [IntKind.wrap_u32]; omega) (hK _ _ ?_)
      rw [e2]
      exact ⟨ofp S.off,S.before,kp S.t0,kp S.t1,kp S.t2,kp S.t3,kp S.t4,kp S.t5,kp S.t6,kp S.t7,kp S.t8,kp S.t9,kp S.t10,kp S.t11,kp S.t12,kp S.t13,kp S.t14,ev_ (by omega),kp S.t16,kp S.t17⟩
    | 16,_,ho,hsi,hT=>
      obtain ⟨e1,e2⟩:=pick_of h16 ho
      have D8:s 8=true:=list_pos hT (d:=8) (by decide)
      have D15:s 15=true:=list_pos hT (d:=15) (by decide)
      refine step_val (v:=.int .u32 (wo:Nat)) (by simp only [execOp,e1,S.t8 D8,S.t15 D15]; go_simp; rw [IntKind.wrap_u32]; omega) (hK _ _ ?_)
      rw [e2]
      exact ⟨ofp S.off,S.before,kp S.t0,kp S.t1,kp S.t2,kp S.t3,kp S.t4,kp S.t5,kp S.t6,kp S.t7,kp S.t8,kp S.t9,kp S.t10,kp S.t11,kp S.t12,kp S.t13,kp S.t14,kp S.t15,ev_ (by omega),kp S.t17⟩
    | 17,_,ho,hsi,hT=>
      obtain ⟨e1,e2⟩:=pick_of h17 ho
      refine step_val (v:=.pointer (some ⟨G,6,none⟩)) (by simp only [execOp,e1,y6]; go_simp) (hK _ _ ?_)
      rw [e2]
      exact ⟨ofp S.off,S.before,kp S.t0,kp S.t1,kp S.t2,kp S.t3,kp S.t4,kp S.t5,kp S.t6,kp S.t7,kp S.t8,kp S.t9,kp S.t10,kp S.t11,kp S.t12,kp S.t13,kp S.t14,kp S.t15,kp S.t16,ev_ (by omega)⟩
    | _ + 18,il,_,_,_=>exact absurd il (by omega)
  intro s a w' S hall
  have a0:=hall 0 (by omega)
  have a1:=hall 1 (by omega)
  have a2:=hall 2 (by omega)
  have a3:=hall 3 (by omega)
  have a4:=hall 4 (by omega)
  have a5:=hall 5 (by omega)
  have a6:=hall 6 (by omega)
  have a7:=hall 7 (by omega)
  have a8:=hall 8 (by omega)
  have a9:=hall 9 (by omega)
  have a10:=hall 10 (by omega)
  have a11:=hall 11 (by omega)
  have a12:=hall 12 (by omega)
  have a13:=hall 13 (by omega)
  have a14:=hall 14 (by omega)
  have a15:=hall 15 (by omega)
  have a16:=hall 16 (by omega)
  have a17:=hall 17 (by omega)
  have e:=off_norm _ (by intro d hd; simp at hd; omega) S.off
  simp only [List.foldl,S.t0 a0,S.t1 a1,S.t2 a2,S.t3 a3,S.t4 a4,S.t5 a5,S.t6 a6,S.t7 a7,S.t8 a8,S.t9 a9,S.t10 a10,S.t11 a11,S.t12 a12,S.t13 a13,S.t14 a14,S.t15 a15,S.t16 a16,S.t17 a17] at e
  rw [e]
  exact h _ S.before
end Go.Proofs.YtchfkncbemjepaaGreat
/- Layer 10: the reference's Get. -/
namespace Go.Proofs.YtchfkncbemjepaaGreat
open Go.RowKit

theorem ext_list (b:ByteArray) (i j:Nat) (h:i<=j):(b.extract i j).data.toList=(b.data.toList.take j).drop i:=by
  have e:i + (j - i)=j:=by omega
  simp [ByteArray.data_extract,List.take_drop,e]
theorem ext_num (b:ByteArray) (i j:Nat) (h:i + 2<=j) (hb:i + 2<=b.size):Tm.num (b.extract i j).data.toList 0=Tm.num b.data.toList i:=by
  have e:=ext_list b i j (by omega)
  have at':∀ k,k < 2->Pk.nb (b.extract i j).data.toList k=Pk.nb b.data.toList (i + k):=fun k hk=>by
    rw [e,Pk.nb_get,Pk.nb_get,List.getD_eq_getElem?_getD,List.getD_eq_getElem?_getD,List.getElem?_drop,List.getElem?_take_of_lt (by omega)]
  unfold Tm.num
  rw [at' 0 (by omega),at' (0 + 1) (by omega)]
  rfl
theorem rtget_any (b:ByteArray) (hs:b.size<=maxLen) (w:World):Calls Tryz.prog 55 #[.string b] w fun e w'=>e=.returned (.tuple #[tmVal (Tm.get b.data.toList).1,.int .i64 (Tm.get b.data.toList).2])/\Below w.heap.size w w':=by
  obtain ⟨N,hN⟩:∃ N,b.size=N:=⟨_,rfl⟩
  have hNs:N<=9223372036854775807:=by rw [<-hN]; unfold maxLen at hs; omega
  have hl:b.data.toList.length=N:=by rw [ls,hN]
  by_cases s0:N < 44\/212 < N
  · have E:=Lib.hid (show Tm.get b.data.toList=(tm0,6) by unfold Tm.get; rw [if_pos (by rw [hl]; exact s0)])
    by_cases s1:N < 44
    · have t1:decide ((N:Int) < 44)=true:=decide_eq_true (by omega)
      have t1n:decide (N < 44)=true:=decide_eq_true s1
      clear s0 s1 hs hl
      go_enter Tryz.func55,Tryz.ntmps55
      go_wp2_with (first
        | (refine wpList_new rfl (.alloc 100) rfl (some 2) rfl #[.int .i64 0,.int .i64 0,.int .i64 0,.int .i64 0,.int .i64 0,.string ⟨#[]⟩,.int .u32 0] 100 (fun X=>.pointer (some ⟨X,0,none⟩)) 7 (tmCel tm0) (tm_cells tm0) (alloc_tm rfl) ?_; intro RB w1 HR Sw1 CR Bw1)
        | (refine wpList_setAll rfl 100 (.tmp 2) (.tmp 17) rfl RB 7 [.int .i64 0,.int .i64 0,.int .i64 0,.int .i64 0,.int .i64 0,.string ⟨#[]⟩,.int .u32 0] _ (tmCel tm0) CR.out rfl (tm_list tm0) rfl rfl tm_info (by simp [Value.oneCell']) ?_; intro w9 C9 V9 S9))
      have RA:=C9.out.rangeAll [.int .i64 0,.int .i64 0,.int .i64 0,.int .i64 0,.int .i64 0,.string ⟨#[]⟩,.int .u32 0] rfl (tm_list tm0)
      have RR:=fun tmps hp=>results_cell_t1 (P:=Tryz.prog) Tryz.results55 tmps w9 RB [.int .i64 0,.int .i64 0,.int .i64 0,.int .i64 0,.int .i64 0,.string ⟨#[]⟩,.int .u32 0] _ hp RA Tryz.underlying100 rfl tm_info
      refine bodyPost_ret (RR _ rfl) rfl ?_
      exact ⟨by rw [E.out]; rfl,But.under Bw1.out V9.out (by have:=HR.out; omega)⟩
    have t1:decide ((N:Int) < 44)=false:=decide_eq_false (by omega)
    have t1n:decide (N < 44)=false:=decide_eq_false s1
    have t2:decide (212 < (N:Int))=true:=decide_eq_true (by omega)
    have t2n:decide (212 < N)=true:=decide_eq_true (by omega)
    clear s0 s1 hs hl
    go_enter Tryz.func55,Tryz.ntmps55
    go_wp2_with (first
      | (refine wpList_new rfl (.alloc 100) rfl (some 2) rfl #[.int .i64 0,.int .i64 0,.int .i64 0,.int .i64 0,.int .i64 0,.string ⟨#[]⟩,.int .u32 0] 100 (fun X=>.pointer (some ⟨X,0,none⟩)) 7 (tmCel tm0) (tm_cells tm0) (alloc_tm rfl) ?_; intro RB w1 HR Sw1 CR Bw1)
      | (refine wpList_setAll rfl 100 (.tmp 2) (.tmp 17) rfl RB 7 [.int .i64 0,.int .i64 0,.int .i64 0,.int .i64 0,.int .i64 0,.string ⟨#[]⟩,.int .u32 0] _ (tmCel tm0) CR.out rfl (tm_list tm0) rfl rfl tm_info (by simp [Value.oneCell']) ?_; intro w9 C9 V9 S9))
    have RA:=C9.out.rangeAll [.int .i64 0,.int .i64 0,.int .i64 0,.int .i64 0,.int .i64 0,.string ⟨#[]⟩,.int .u32 0] rfl (tm_list tm0)
    have RR:=fun tmps hp=>results_cell_t1 (P:=Tryz.prog) Tryz.results55 tmps w9 RB [.int .i64 0,.int .i64 0,.int .i64 0,.int .i64 0,.int .i64 0,.string ⟨#[]⟩,.int .u32 0] _ hp RA Tryz.underlying100 rfl tm_info
    refine bodyPost_ret (RR _ rfl) rfl ?_
    exact ⟨by rw [E.out]; rfl,But.under Bw1.out V9.out (by have:=HR.out; omega)⟩
  have t1:decide ((N:Int) < 44)=false:=decide_eq_false (by omega)
  have t1n:decide (N < 44)=false:=decide_eq_false (by omega)
  have t2:decide (212 < (N:Int))=false:=decide_eq_false (by omega)
  have t2n:decide (212 < N)=false:=decide_eq_false (by omega)
  obtain ⟨n,hn⟩:∃ n,N - 2=n:=⟨_,rfl⟩
  have wn:IntKind.i64.wrap ((N:Int) - 2)=(n:Int):=by rw [IntKind.wrap_i64]; omega
  obtain ⟨x,hx⟩:∃ x,Tm.num b.data.toList n=x:=⟨_,rfl⟩
  obtain ⟨y,hy⟩:∃ y,(Crc.sum16 (b.data.toList.take n)).toNat=y:=⟨_,rfl⟩
  have yl:y < 65536:=by rw [<-hy]; exact (Crc.sum16 (b.data.toList.take n)).isLt
  have ls1:(b.extract 0 n).data.toList=b.data.toList.take n:=by simp [ByteArray.data_extract]
  have SM:=Lib.hid (fun w=>(rsum16_any (b.extract 0 n) (by rw [ByteArray.size_extract]; omega) w).mono (fun e w2 ⟨g1,g2⟩=>(⟨g1,g2 ▸ Below.refl _ _⟩:_/\Below w.heap.size w w2)))
  rw [ls1,hy] at SM
  have NM:=Lib.hid (fun w=>rnumber_any (b.extract n b.size) (by rw [ByteArray.size_extract]; omega) w)
  rw [ext_num b n b.size (by omega) (by omega),hx] at NM
  have HN:=Lib.hid hN
  have R:=Lib.hid (show 44<=N/\N<=212/\n + 2=N/\y < 65536 by omega)
  have GT:=Lib.hid (show Tm.get b.data.toList=if x ≠ y then (tm0,100) else if Tm.Ok (Tm.dec b.data.toList)/\Tm.enc (Tm.dec b.data.toList)=b.data.toList then (Tm.dec b.data.toList,0) else (tm0,6) by
    unfold Tm.get
    rw [if_neg (by rw [hl]; exact s0),hl,hn,hx,hy])
  by_cases xy:x ≠ y
  · have E:=Lib.hid (show Tm.get b.data.toList=(tm0,100) by rw [GT.out,if_pos xy])
    have z1:((x:Int) != (y:Int))=true:=by simp; omega
    clear s0 hs hl hn hx hy yl ls1 xy
    go_enter Tryz.func55,Tryz.ntmps55
    go_upto_region 4 with (refine wpList_new rfl (.alloc 100) rfl (some 2) rfl #[.int .i64 0,.int .i64 0,.int .i64 0,.int .i64 0,.int .i64 0,.string ⟨#[]⟩,.int .u32 0] 100 (fun X=>.pointer (some ⟨X,0,none⟩)) 7 (tmCel tm0) (tm_cells tm0) (alloc_tm rfl) ?_; intro RB w1 HR Sw1 CR Bw1)
    refine tgaRegion b n x y _ _ (by have:=R.out; have:=HN.out; omega) (by have:=R.out; have:=HN.out; omega) R.out.2.2.2 rfl rfl NM.out SM.out (by kernel_rfl) rfl rfl rfl rfl rfl rfl rfl rfl rfl rfl rfl rfl ?_
    intro w2 h2
    simp only [Act.put,List.setIfInBounds_toArray,List.set_cons_succ,List.set_cons_zero,List.drop_succ_cons,List.drop_zero]
    have CR2:=Lib.hid (CR.out.below h2)
    have B2:=Lib.hid (bt Bw1.out h2)
    clear h2
    go_wp2_with (refine wpList_setAll rfl 100 (.tmp 2) (.tmp 31) rfl RB 7 [.int .i64 0,.int .i64 0,.int .i64 0,.int .i64 0,.int .i64 0,.string ⟨#[]⟩,.int .u32 0] _ (tmCel tm0) CR2.out rfl (tm_list tm0) rfl rfl tm_info (by simp [Value.oneCell']) ?_; intro w9 C9 V9 S9)
    have RA:=C9.out.rangeAll [.int .i64 0,.int .i64 0,.int .i64 0,.int .i64 0,.int .i64 0,.string ⟨#[]⟩,.int .u32 0] rfl (tm_list tm0)
    have RR:=fun tmps hp=>results_cell_t1 (P:=Tryz.prog) Tryz.results55 tmps w9 RB [.int .i64 0,.int .i64 0,.int .i64 0,.int .i64 0,.int .i64 0,.string ⟨#[]⟩,.int .u32 0] _ hp RA Tryz.underlying100 rfl tm_info
    refine bodyPost_ret (RR _ rfl) rfl ?_
    exact ⟨by rw [E.out]; rfl,But.under B2.out V9.out (by have:=HR.out; omega)⟩
  have xy:x=y:=Classical.byContradiction xy
  subst xy
  have z1:((x:Int) != (x:Int))=false:=by simp
  obtain ⟨f,hf⟩:∃ f,Tm.dec b.data.toList=f:=⟨_,rfl⟩
  rw [hf] at GT
  have fcr:f.cr=(Tm.num b.data.toList 0 / 64:Nat):=by rw [<-hf]; rfl
  have fch:f.ch=(Tm.num b.data.toList 0 / 8 % 8:Nat):=by rw [<-hf]; rfl
  have fma:f.ma=(Pk.nb b.data.toList 2:Nat):=by rw [<-hf]; rfl
  have fct:f.ct=(Pk.nb b.data.toList 3:Nat):=by rw [<-hf]; rfl
  have ffi:f.fi=(Tm.num b.data.toList 4:Nat):=by rw [<-hf]; rfl
  have fda:f.da=b.extract 6 (n - 4):=by
    rw [<-hf]
    apply ByteArray.ext
    apply Array.toList_inj.1
    show (((b.data.toList.drop 6).take (b.data.toList.length - 12)).toArray).toList=_
    rw [hl,ext_list b 6 (n - 4) (by omega),List.drop_take]
    show _=List.take (n - 4 - 6) _
    rw [show n - 4 - 6=N - 12 by omega]
  have fwo:f.wo=Tm.num b.data.toList (n - 4) * 65536 + Tm.num b.data.toList (n - 2):=by
    rw [<-hf]
    show Tm.num _ (b.data.toList.length - 6) * 65536 + Tm.num _ (b.data.toList.length - 4)=_
    rw [hl,show N - 6=n - 4 by omega,show N - 4=n - 2 by omega]
  have lw1:=Tm.num_lt b.data.toList (n - 4)
  have lw2:=Tm.num_lt b.data.toList (n - 2)
  have l0:=Tm.num_lt b.data.toList 0
  have b2l:=Pk.nb_lt b.data.toList 2
  have b3l:=Pk.nb_lt b.data.toList 3
  have PU:=Lib.hid (fun w=>rtput_any f (by rw [fda,ByteArray.size_extract]; omega) (by omega) w)
  have N0:=Lib.hid (fun w=>rnumber_any (b.extract 0 2) (by rw [ByteArray.size_extract]; omega) w)
  rw [ext_num b 0 2 (by omega) (by omega)] at N0
  have N4:=Lib.hid (fun w=>rnumber_any (b.extract 4 6) (by rw [ByteArray.size_extract]; omega) w)
  rw [ext_num b 4 6 (by omega) (by omega)] at N4
  have N5:=Lib.hid (fun w=>rnumber_any (b.extract (n - 4) (n - 2)) (by rw [ByteArray.size_extract]; omega) w)
  rw [ext_num b (n - 4) (n - 2) (by omega) (by omega)] at N5
  have N6:=Lib.hid (fun w=>rnumber_any (b.extract (n - 2) n) (by rw [ByteArray.size_extract]; omega) w)
  rw [ext_num b (n - 2) n (by omega) (by omega)] at N6
  have TC:∀ j,j < 7->tmCel ⟨f.cr,f.ch,f.ma,f.ct,f.fi,f.da,0⟩ j=tmCel ⟨f.cr,f.ch,f.ma,f.ct,f.fi,f.da,0⟩ j:=fun _ _=>rfl
  obtain ⟨p,hp⟩:∃ p,Tm.num b.data.toList 0=p:=⟨_,rfl⟩
  rw [hp] at N0 fcr fch l0
  have HP:=Lib.hid hp
  have F1:=Lib.hid fcr
  have F2:=Lib.hid fch
  have F3:=Lib.hid fma
  have F4:=Lib.hid fct
  have F5:=Lib.hid ffi
  have F6:=Lib.hid fda
  have F7:=Lib.hid fwo
  have L0:=Lib.hid l0
  have L2:=Lib.hid b2l
  have L3:=Lib.hid b3l
  have W1:=Lib.hid lw1
  have W2:=Lib.hid lw2
  have ez0:b.extract 0 2=b.extract 0 2:=rfl
  obtain ⟨h2s,hh2⟩:∃ z,b.extract 0 2=z:=⟨_,rfl⟩
  rw [hh2] at N0
  have SL:=Lib.hid (fun w=>(show (Instr.slice 9 (.string b) (some (.int .i64 0)) (some (.int .i64 2)) none).run Tryz.prog w=.ok (.string h2s) w by
    rw [run_slice_string (P:=Tryz.prog) (w:=w) 9 b .i64 .i64 0 2 Tryz.underlying9 (by omega) (by omega) (by omega)]
    show Result.ok (Value.string (b.extract 0 2)) w=_
    rw [hh2]))
  clear s0 hs hl hn hx hy yl ls1 fcr fch fma fct ffi fda fwo lw1 lw2 l0 b2l b3l hp hf TC ez0
  go_enter Tryz.func55,Tryz.ntmps55
  go_upto_region 4 with (refine wpList_new rfl (.alloc 100) rfl (some 2) rfl #[.int .i64 0,.int .i64 0,.int .i64 0,.int .i64 0,.int .i64 0,.string ⟨#[]⟩,.int .u32 0] 100 (fun X=>.pointer (some ⟨X,0,none⟩)) 7 (tmCel tm0) (tm_cells tm0) (alloc_tm rfl) ?_; intro RB w1 HR Sw1 CR Bw1)
  refine tgaRegion b n x x _ _ (by have:=R.out; have:=HN.out; omega) (by have:=R.out; have:=HN.out; omega) R.out.2.2.2 rfl rfl NM.out SM.out (by kernel_rfl) rfl rfl rfl rfl rfl rfl rfl rfl rfl rfl rfl rfl ?_
  intro w2 h2
  simp only [Act.put,List.setIfInBounds_toArray,List.set_cons_succ,List.set_cons_zero,List.drop_succ_cons,List.drop_zero]
  have CR2:=Lib.hid (CR.out.below h2)
  have B2:=Lib.hid (bt Bw1.out h2)
  clear h2
  go_wp2_with (simp only [SL.out])
  (refine (N0.out _).mono ?_)
  rintro e w3 ⟨rfl,h3⟩
  have CR3:=Lib.hid (CR2.out.below h3)
  have B3:=Lib.hid (bt B2.out h3)
  clear h3
  go_upto_region 7 with fail
  refine tgbRegion b p _ _ _ _ _ (Tm.num b.data.toList 4) n (n - 4) w3.heap.size _ _ (Nat.le_refl _) L0.out rfl rfl rfl (by have:=R.out; have:=HN.out; omega) (by have:=R.out; have:=HN.out; omega) (by have:=R.out; have:=HN.out; omega) rfl rfl L2.out L3.out (by have:=R.out; have:=HN.out; omega) (by have:=R.out; omega) (by have:=R.out; omega) (by have:=R.out; have:=HN.out; omega) rfl rfl N4.out (by kernel_rfl) rfl rfl rfl rfl rfl rfl rfl rfl rfl rfl rfl rfl rfl rfl rfl rfl rfl rfl rfl rfl rfl rfl rfl rfl ?_
  intro v19 w4 h4 F19
  obtain ⟨G,rfl,hG0,CG⟩:=F19
  simp only [Act.put,List.setIfInBounds_toArray,List.set_cons_succ,List.set_cons_zero,List.drop_succ_cons,List.drop_zero]
  have CR4:=Lib.hid (CR3.out.below h4)
  have B4:=Lib.hid (bt B3.out h4)
  have CG4:=Lib.hid CG
  have GR:=Lib.hid (show G ≠ RB by have:=CR3.out.1; omega)
  have GB:=Lib.hid (show w.heap.size<=G by have:=B3.out.size; omega)
  clear h4 CG hG0
  have q64:p / 64=p / 64:=rfl
  go_upto_region 8 with (refine wpList_setAll rfl 100 (.tmp 6) (.tmp 53) rfl G 7 [.int .i64 f.cr,.int .i64 f.ch,.int .i64 f.ma,.int .i64 f.ct,.int .i64 f.fi,.string f.da,.int .u32 (0:Nat)] _ (tmCel ⟨f.cr,f.ch,f.ma,f.ct,f.fi,f.da,0⟩) CG4.out rfl (tm_list ⟨f.cr,f.ch,f.ma,f.ct,f.fi,f.da,0⟩) rfl (by rw [F1.out,F2.out,F3.out,F4.out,F5.out,F6.out]; rfl) tm_info (by simp [Value.oneCell']) ?_; intro w5 C5 V5 S5)
  have CR5:=Lib.hid (CR4.out.but V5.out (Ne.symm GR.out))
  have B5:=Lib.hid (But.under B4.out V5.out GB.out)
  simp only [Act.put]
  refine tgcRegion b G n (n - 4) (n - 2) _ _ _ f.wo _ _ (by have:=R.out; have:=HN.out; omega) (by have:=R.out; omega) (by have:=R.out; omega) (by have:=R.out; have:=HN.out; omega) W1.out W2.out rfl F7.out.symm rfl rfl N5.out N6.out (by kernel_rfl) rfl rfl rfl rfl rfl rfl rfl rfl rfl rfl rfl rfl rfl rfl rfl rfl rfl rfl rfl rfl rfl rfl ?_
  intro w6 h6
  simp only [Act.put,List.setIfInBounds_toArray,List.set_cons_succ,List.set_cons_zero,List.drop_succ_cons,List.drop_zero]
  have CR6:=Lib.hid (CR5.out.below h6)
  have B6:=Lib.hid (bt B5.out h6)
  have CG6:=Lib.hid (C5.out.below h6)
  clear h6
  go_wp2_with (first
    | (refine wpList_set rfl (.store 34 (.tmp 71) (.tmp 70)) rfl G 6 7 (.int .u32 (f.wo:Nat)) _ (tmCel f) CG6.out (by omega) (fun j hj=>by match j,hj with | 0,_=>rfl | 1,_=>rfl | 2,_=>rfl | 3,_=>rfl | 4,_=>rfl | 5,_=>rfl | 6,_=>rfl) (store_u32 rfl rfl rfl (CG6.out.cell (j:=6) (by omega)) (CG6.out.frozen (j:=6) (by omega))) ?_; intro w7 C7 V7 S7)
    | (refine wpList_getAll rfl 100 (.tmp 6) rfl G 7 [.int .i64 f.cr,.int .i64 f.ch,.int .i64 f.ma,.int .i64 f.ct,.int .i64 f.fi,.string f.da,.int .u32 (f.wo:Nat)] _ _ C7.out rfl (tm_list f) rfl Tryz.underlying100 rfl tm_info ?_))
  have CR7:=Lib.hid (CR6.out.but V7.out (Ne.symm GR.out))
  have B7:=Lib.hid (But.under B6.out V7.out GB.out)
  by_cases ok:Tm.Ok f
  · have PU2:=Lib.hid PU.out
    simp only [if_pos ok] at PU2
    (refine (PU2.out _).mono ?_)
    rintro e w8 ⟨rfl,h8⟩
    have CR8:=Lib.hid (CR7.out.below h8)
    have CG8:=Lib.hid (C7.out.below h8)
    have B8:=Lib.hid (bt B7.out h8)
    clear h8 PU2
    by_cases same:Tm.enc f=b.data.toList
    · have E:=Lib.hid (show Tm.get b.data.toList=(f,0) by rw [GT.out,if_neg (by simp),if_pos ⟨ok,same⟩])
      have eb:bs (Tm.enc f)=b:=by rw [same,bs_self]
      rw [eb]
      have zb:(b.toList == b.toList)=true:=by simp
      clear ok same eb
      go_wp2_with (first
        | (refine wpList_getAll rfl 100 (.tmp 6) rfl G 7 [.int .i64 f.cr,.int .i64 f.ch,.int .i64 f.ma,.int .i64 f.ct,.int .i64 f.fi,.string f.da,.int .u32 (f.wo:Nat)] _ _ CG8.out rfl (tm_list f) rfl Tryz.underlying100 rfl tm_info ?_)
        | (refine wpList_setAll rfl 100 (.tmp 2) (.tmp 85) rfl RB 7 [.int .i64 f.cr,.int .i64 f.ch,.int .i64 f.ma,.int .i64 f.ct,.int .i64 f.fi,.string f.da,.int .u32 (f.wo:Nat)] _ (tmCel f) CR8.out rfl (tm_list f) rfl rfl tm_info (by simp [Value.oneCell']) ?_; intro w9 C9 V9 S9))
      have RA:=C9.out.rangeAll [.int .i64 f.cr,.int .i64 f.ch,.int .i64 f.ma,.int .i64 f.ct,.int .i64 f.fi,.string f.da,.int .u32 (f.wo:Nat)] rfl (tm_list f)
      have RR:=fun tmps hp=>results_cell_t1 (P:=Tryz.prog) Tryz.results55 tmps w9 RB [.int .i64 f.cr,.int .i64 f.ch,.int .i64 f.ma,.int .i64 f.ct,.int .i64 f.fi,.string f.da,.int .u32 (f.wo:Nat)] _ hp RA Tryz.underlying100 rfl tm_info
      refine bodyPost_ret (RR _ rfl) rfl ?_
      exact ⟨by rw [E.out]; rfl,But.under B8.out V9.out (by have:=HR.out; omega)⟩
    have E:=Lib.hid (show Tm.get b.data.toList=(tm0,6) by rw [GT.out,if_neg (by simp),if_neg (fun q=>same q.2)])
    obtain ⟨Z,hZ⟩:∃ Z,bs (Tm.enc f)=Z:=⟨_,rfl⟩
    have zb:(Z.toList == b.toList)=false:=by
      rw [<-beq_toListBytes,beq_no (fun q=>same (by rw [<-q,<-hZ]; simp [bs]))]
    rw [hZ]
    clear ok same hZ
    go_wp2_with (refine wpList_setAll rfl 100 (.tmp 2) (.tmp 84) rfl RB 7 [.int .i64 0,.int .i64 0,.int .i64 0,.int .i64 0,.int .i64 0,.string ⟨#[]⟩,.int .u32 0] _ (tmCel tm0) CR8.out rfl (tm_list tm0) rfl rfl tm_info (by simp [Value.oneCell']) ?_; intro w9 C9 V9 S9)
    have RA:=C9.out.rangeAll [.int .i64 0,.int .i64 0,.int .i64 0,.int .i64 0,.int .i64 0,.string ⟨#[]⟩,.int .u32 0] rfl (tm_list tm0)
    have RR:=fun tmps hp=>results_cell_t1 (P:=Tryz.prog) Tryz.results55 tmps w9 RB [.int .i64 0,.int .i64 0,.int .i64 0,.int .i64 0,.int .i64 0,.string ⟨#[]⟩,.int .u32 0] _ hp RA Tryz.underlying100 rfl tm_info
    refine bodyPost_ret (RR _ rfl) rfl ?_
    exact ⟨by rw [E.out]; rfl,But.under B8.out V9.out (by have:=HR.out; omega)⟩
  have PU2:=Lib.hid PU.out
  simp only [if_neg ok] at PU2
  (refine (PU2.out _).mono ?_)
  rintro e w8 ⟨rfl,h8⟩
  have CR8:=Lib.hid (CR7.out.below h8)
  have B8:=Lib.hid (bt B7.out h8)
  clear h8 PU2
  have E:=Lib.hid (show Tm.get b.data.toList=(tm0,6) by rw [GT.out,if_neg (by simp),if_neg (fun q=>ok q.1)])
  clear ok
  go_wp2_with (refine wpList_setAll rfl 100 (.tmp 2) (.tmp 84) rfl RB 7 [.int .i64 0,.int .i64 0,.int .i64 0,.int .i64 0,.int .i64 0,.string ⟨#[]⟩,.int .u32 0] _ (tmCel tm0) CR8.out rfl (tm_list tm0) rfl rfl tm_info (by simp [Value.oneCell']) ?_; intro w9 C9 V9 S9)
  have RA:=C9.out.rangeAll [.int .i64 0,.int .i64 0,.int .i64 0,.int .i64 0,.int .i64 0,.string ⟨#[]⟩,.int .u32 0] rfl (tm_list tm0)
  have RR:=fun tmps hp=>results_cell_t1 (P:=Tryz.prog) Tryz.results55 tmps w9 RB [.int .i64 0,.int .i64 0,.int .i64 0,.int .i64 0,.int .i64 0,.string ⟨#[]⟩,.int .u32 0] _ hp RA Tryz.underlying100 rfl tm_info
  refine bodyPost_ret (RR _ rfl) rfl ?_
  exact ⟨by rw [E.out]; rfl,But.under B8.out V9.out (by have:=HR.out; omega)⟩
end Go.Proofs.YtchfkncbemjepaaGreat
/- Layer 10, pure: a frame is got from its encoding. -/
namespace Go.Proofs.YtchfkncbemjepaaGreat.Tm

theorem nb_six_add (a b c:Nat) (d:List UInt8) (i:Nat):Pk.nb (Pk.six a b c d) (6 + i)=Pk.nb d i:=by
  rw [Pk.nb_get,Pk.nb_get,List.getD_eq_getElem?_getD,List.getD_eq_getElem?_getD,<-List.getElem?_drop,Pk.six_drop]
theorem nb_app_add (l x:List UInt8) (i:Nat):Pk.nb (l ++ x) (l.length + i)=Pk.nb x i:=by
  rw [Pk.nb_get,Pk.nb_get,List.getD_eq_getElem?_getD,List.getD_eq_getElem?_getD,List.getElem?_append_right (by omega),Nat.add_sub_cancel_left]
theorem num_hd (n:Nat) (h:n < 65536) (x:List UInt8):num (Pk.hd n ++ x) 0=n:=by
  unfold num
  rw [Pk.nb_app (by rw [Pk.hd_len]; omega),Pk.nb_app (by rw [Pk.hd_len]; omega),Pk.hd_0 n h,Pk.hd_1 n]
  omega
theorem num_app (l x:List UInt8) {i k:Nat} (h:i=l.length + k):num (l ++ x) i=num x k:=by
  subst h
  unfold num
  rw [nb_app_add,Nat.add_assoc,nb_app_add]
theorem num_six (a b c:Nat) (d:List UInt8) {i k:Nat} (h:i=6 + k):num (Pk.six a b c d) i=num d k:=by
  subst h
  unfold num
  rw [nb_six_add,Nat.add_assoc,nb_six_add]
def sm (f:Tmf):Nat:=(Crc.sum16 (body f)).toNat
theorem sm_lt (f:Tmf):sm f < 65536:=(Crc.sum16 (body f)).isLt
theorem enc_flat (f:Tmf):enc f=Pk.six (f.cr.toNat * 64 + f.ch.toNat * 8) (f.ma.toNat * 256 + f.ct.toNat) f.fi.toNat (f.da.data.toList ++ (Pk.hd (f.wo / 65536) ++ (Pk.hd (f.wo % 65536) ++ Pk.hd (sm f)))):=by
  unfold enc
  show body f ++ Pk.hd (sm f)=_
  conv=>lhs; unfold body
  unfold Pk.six
  simp only [List.append_assoc]
theorem take_body (f:Tmf):(enc f).take ((enc f).length - 2)=body f:=by
  rw [enc_len]
  unfold enc
  rw [show f.da.size + 12 - 2=(body f).length by rw [body_len]; omega,List.take_left]
section
variable {f:Tmf} (ok:Ok f) (hw:f.wo < 4294967296)
include ok hw
theorem at_enc:num (enc f) 0=f.cr.toNat * 64 + f.ch.toNat * 8/\Pk.nb (enc f) 2=f.ma.toNat/\Pk.nb (enc f) 3=f.ct.toNat/\num (enc f) 4=f.fi.toNat ∧
    num (enc f) (f.da.size + 6)=f.wo / 65536/\num (enc f) (f.da.size + 8)=f.wo % 65536/\num (enc f) (f.da.size + 10)=sm f:=by
  obtain ⟨⟨⟨a0,a1⟩,⟨a2,a3⟩,⟨a4,a5⟩,⟨a6,a7⟩,a8,a9⟩,a10⟩:=ok
  obtain ⟨b0,b1,b2,b3,b4,b5⟩:=Pk.six_at (f.cr.toNat * 64 + f.ch.toNat * 8) (f.ma.toNat * 256 + f.ct.toNat) f.fi.toNat (f.da.data.toList ++ (Pk.hd (f.wo / 65536) ++ (Pk.hd (f.wo % 65536) ++ Pk.hd (sm f)))) (by omega) (by omega) (by omega)
  rw [<-enc_flat] at b0 b1 b2 b3 b4 b5
  have dl:f.da.data.toList.length=f.da.size:=ls f.da
  refine ⟨by unfold num; rw [b0,b1]; omega,by rw [b2]; omega,by rw [b3]; omega,by unfold num; rw [b4,b5]; omega,?_,?_,?_⟩
  · rw [enc_flat,num_six _ _ _ _ (k:=f.da.size) (by omega),num_app _ _ (k:=0) (by omega),num_hd _ (by omega)]
  · rw [enc_flat,num_six _ _ _ _ (k:=f.da.size + 2) (by omega),num_app _ _ (k:=2) (by omega),num_app _ _ (k:=0) (by rw [Pk.hd_len]),num_hd _ (by omega)]
  rw [enc_flat,num_six _ _ _ _ (k:=f.da.size + 4) (by omega),num_app _ _ (k:=4) (by omega),num_app _ _ (k:=2) (by rw [Pk.hd_len]),num_app _ _ (k:=0) (by rw [Pk.hd_len])]
  have:=num_hd (sm f) (sm_lt f) []
  rwa [List.append_nil] at this
theorem dec_enc:dec (enc f)=f:=by
  obtain ⟨h0,h1,h2,h3,h4,h5,h6⟩:=at_enc ok hw
  have el:=enc_len f
  obtain ⟨⟨⟨a0,a1⟩,⟨a2,a3⟩,⟨a4,a5⟩,⟨a6,a7⟩,a8,a9⟩,a10⟩:=ok
  have dl:f.da.data.toList.length=f.da.size:=ls f.da
  have hda:((enc f).drop 6).take (f.da.size + 12 - 12)=f.da.data.toList:=by
    rw [enc_flat,Pk.six_drop,show f.da.size + 12 - 12=f.da.data.toList.length by omega,List.take_left]
  unfold dec
  rw [el,h0,h1,h2,h3,show f.da.size + 12 - 6=f.da.size + 6 by omega,show f.da.size + 12 - 4=f.da.size + 8 by omega,h4,h5,hda]
  have c1:(((f.cr.toNat * 64 + f.ch.toNat * 8) / 64:Nat):Int)=f.cr:=by omega
  have c2:(((f.cr.toNat * 64 + f.ch.toNat * 8) / 8 % 8:Nat):Int)=f.ch:=by omega
  have c3:(f.ma.toNat:Int)=f.ma:=by omega
  have c4:(f.ct.toNat:Int)=f.ct:=by omega
  have c5:(f.fi.toNat:Int)=f.fi:=by omega
  have c6:(⟨f.da.data.toList.toArray⟩:ByteArray)=f.da:=bs_self f.da
  have c7:f.wo / 65536 * 65536 + f.wo % 65536=f.wo:=by omega
  rw [c1,c2,c3,c4,c5,c6,c7]
theorem get_enc:get (enc f)=(f,0):=by
  obtain ⟨h0,h1,h2,h3,h4,h5,h6⟩:=at_enc ok hw
  have el:=enc_len f
  have hd:=dec_enc ok hw
  have sz:=ok.1.2.2.2.2
  unfold get
  rw [if_neg (by omega),if_neg (by rw [take_body,el,show f.da.size + 12 - 2=f.da.size + 10 by omega,h6]; exact fun q=>q rfl),hd,if_pos ⟨ok,rfl⟩]
end
theorem get_ok {l:List UInt8} (h:(get l).2=0):Ok (get l).1/\enc (get l).1=l:=by
  unfold get at *
  split at h
  · cases h
  rename_i g1
  rw [if_neg g1]
  split at h
  · cases h
  rename_i g2
  rw [if_neg g2]
  split at h
  · rename_i g3
    rw [if_pos g3]
    exact g3
  cases h
end Go.Proofs.YtchfkncbemjepaaGreat.Tm
