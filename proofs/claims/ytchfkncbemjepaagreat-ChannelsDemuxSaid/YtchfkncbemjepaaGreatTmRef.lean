/- TmRef -/
import Derived.BigQuiet
import Derived.Test.YtchfkncbemjepaaGreatPkJoin
import Derived.Test.YtchfkncbemjepaaGreatCrcRow
import Derived.Test.YtchfkncbemjepaaGreatCrcBits
import Derived.Test.YtchfkncbemjepaaGreatTyKit
set_option linter.unusedVariables false
set_option maxRecDepth 100000
set_option maxHeartbeats 4000000
/- Mathematics of layer 10: frames and their encodings. -/
namespace Go.Proofs.YtchfkncbemjepaaGreat

structure Tmf where
  cr:Int
  ch:Int
  ma:Int
  ct:Int
  fi:Int
  da:ByteArray
  wo:Nat
namespace Tm
def Ok (f:Tmf):Prop:=((0<=f.cr/\f.cr<=255)/\(0<=f.ma/\f.ma<=255)/\(0<=f.ct/\f.ct<=255)/\(0<=f.ch/\f.ch<=7)/\32<=f.da.size/\f.da.size<=200)/\((0<=f.fi/\f.fi < f.da.size)\/f.fi=2046\/f.fi=2047)
instance (f:Tmf):Decidable (Ok f):=by unfold Ok; infer_instance
def body (f:Tmf):List UInt8:=Pk.six (f.cr.toNat * 64 + f.ch.toNat * 8) (f.ma.toNat * 256 + f.ct.toNat) f.fi.toNat (f.da.data.toList ++ (Pk.hd (f.wo / 65536) ++ Pk.hd (f.wo % 65536)))
def enc (f:Tmf):List UInt8:=body f ++ Pk.hd (Crc.sum16 (body f)).toNat
theorem body_len (f:Tmf):(body f).length=f.da.size + 10:=by
  unfold body
  rw [Pk.six_len,List.length_append,List.length_append,Pk.hd_len,Pk.hd_len,Array.length_toList]
  show 6 + (f.da.data.size + (2 + 2))=_
  have:f.da.data.size=f.da.size:=rfl
  omega
theorem enc_len (f:Tmf):(enc f).length=f.da.size + 12:=by
  unfold enc
  rw [List.length_append,body_len,Pk.hd_len]
end Tm
end Go.Proofs.YtchfkncbemjepaaGreat
/- Layer 10: the reference's Valid, two, number and Put. -/
namespace Go.Proofs.YtchfkncbemjepaaGreat
open Go.RowKit

def tmVal (f:Tmf):Value:=.agg #[.int .i64 f.cr,.int .i64 f.ch,.int .i64 f.ma,.int .i64 f.ct,.int .i64 f.fi,.string f.da,.int .u32 (f.wo:Nat)]
def tmCel (f:Tmf):Nat->Value
  | 0=>.int .i64 f.cr
  | 1=>.int .i64 f.ch
  | 2=>.int .i64 f.ma
  | 3=>.int .i64 f.ct
  | 4=>.int .i64 f.fi
  | 5=>.string f.da
  | _=>.int .u32 (f.wo:Nat)
theorem tm_cells (f:Tmf):∀ j,j < 7->(#[.int .i64 f.cr,.int .i64 f.ch,.int .i64 f.ma,.int .i64 f.ct,.int .i64 f.fi,.string f.da,.int .u32 (f.wo:Nat)]:Array Value)[j]?=some (tmCel f j):=fun j hj=>by
  match j,hj with
  | 0,_=>rfl
  | 1,_=>rfl
  | 2,_=>rfl
  | 3,_=>rfl
  | 4,_=>rfl
  | 5,_=>rfl
  | 6,_=>rfl
theorem tm_list (f:Tmf):∀ j,j < 7->([.int .i64 f.cr,.int .i64 f.ch,.int .i64 f.ma,.int .i64 f.ct,.int .i64 f.fi,.string f.da,.int .u32 (f.wo:Nat)]:List Value)[j]?=some (tmCel f j):=fun j hj=>by
  match j,hj with
  | 0,_=>rfl
  | 1,_=>rfl
  | 2,_=>rfl
  | 3,_=>rfl
  | 4,_=>rfl
  | 5,_=>rfl
  | 6,_=>rfl
theorem tm_info:(Tryz.prog.info? 100).map (·.size)=some 7:=by kernel_rfl
theorem box_tm {ev:Operand->Value} {o:Oper} {w:World} {x:Operand} {cr ch ma ct fi:Int} {da:ByteArray} {wo:Nat} (h:o.op=.box 100 x) (hx:ev x=.agg #[.int .i64 cr,.int .i64 ch,.int .i64 ma,.int .i64 ct,.int .i64 fi,.string da,.int .u32 (wo:Nat)]):(execOp ev o).run Tryz.prog w=.ok (.value (.pointer (some ⟨w.heap.size,0,none⟩))) (w.alloc (.cells #[.int .i64 cr,.int .i64 ch,.int .i64 ma,.int .i64 ct,.int .i64 fi,.string da,.int .u32 (wo:Nat)] 100)):=by
  simp only [execOp,h,hx]; go_simp
theorem bx_tm {ops:Array Oper} {rest:List Oper} {op:Oper} {a:Act} {w:World} {Q:Exit->Act->World->Prop} (hgd:op.guard=none) (x:Operand) (ho:op.op=.box 100 x) (dn:Option Tmp) (hd:op.dst=dn) (cr ch ma ct fi:Int) (da:ByteArray) (wo:Nat) (hx:a.eval x=.agg #[.int .i64 cr,.int .i64 ch,.int .i64 ma,.int .i64 ct,.int .i64 fi,.string da,.int .u32 (wo:Nat)])
    (K:∀ X w1,Hid (w.heap.size=X)->Hid (w1.heap.size=X + 1)->Hid (Cel w1 X 7 (tmCel ⟨cr,ch,ma,ct,fi,da,wo⟩))->Hid (Below w.heap.size w w1)->w1.cell? ⟨X,0,none⟩=some (.int .i64 cr)->w1.cell? ⟨X,1,none⟩=some (.int .i64 ch)->w1.cell? ⟨X,2,none⟩=some (.int .i64 ma)->w1.cell? ⟨X,3,none⟩=some (.int .i64 ct)->w1.cell? ⟨X,4,none⟩=some (.int .i64 fi)->w1.cell? ⟨X,5,none⟩=some (.string da)->w1.cell? ⟨X,6,none⟩=some (.int .u32 (wo:Nat))->wpList Tryz.prog ops Q rest (a.put op.dst (.pointer (some ⟨X,0,none⟩))) w1):wpList Tryz.prog ops Q (op :: rest) a w:=
  wpList_new hgd _ ho dn hd #[.int .i64 cr,.int .i64 ch,.int .i64 ma,.int .i64 ct,.int .i64 fi,.string da,.int .u32 (wo:Nat)] 100 (fun X=>.pointer (some ⟨X,0,none⟩)) 7 (tmCel ⟨cr,ch,ma,ct,fi,da,wo⟩) (tm_cells ⟨cr,ch,ma,ct,fi,da,wo⟩) (box_tm ho hx) fun X w1 h1 h2 C h4=>K X w1 h1 h2 C h4 (C.out.cell (j:=0) (by omega)) (C.out.cell (j:=1) (by omega)) (C.out.cell (j:=2) (by omega)) (C.out.cell (j:=3) (by omega)) (C.out.cell (j:=4) (by omega)) (C.out.cell (j:=5) (by omega)) (C.out.cell (j:=6) (by omega))
theorem rtvalid_any (f:Tmf) (hs:f.da.size<=1000000000) (w:World):Calls Tryz.prog 86 #[tmVal f] w fun e w'=>e=.returned (.bool (decide (Tm.Ok f)))/\Below w.heap.size w w':=by
  have OKE:Hid (decide (Tm.Ok f)=decide (((0<=f.cr/\f.cr<=255)/\(0<=f.ma/\f.ma<=255)/\(0<=f.ct/\f.ct<=255)/\(0<=f.ch/\f.ch<=7)/\32<=f.da.size/\f.da.size<=200)/\((0<=f.fi/\f.fi < f.da.size)\/f.fi=2046\/f.fi=2047))):=Lib.hid rfl
  obtain ⟨b,hb⟩:∃ b,decide (Tm.Ok f)=b:=⟨_,rfl⟩
  rw [hb] at OKE ⊢
  clear hb
  obtain ⟨cr,ch,ma,ct,fi,da,wo⟩:=f
  unfold tmVal
  simp only at OKE hs ⊢
  obtain ⟨D,hD⟩:∃ D,da.size=D:=⟨_,rfl⟩
  rw [hD] at OKE hs
  by_cases g0:cr < 0
  · have t0:decide (cr < 0)=true:=decide_eq_true (by omega)
    have E:=Lib.hid (show b=false by rw [OKE.out]; exact decide_eq_false (fun h=>by omega))
    clear g0 OKE
    go_enter Tryz.func86,Tryz.ntmps86
    go_wp2_with (refine bx_tm rfl (.tmp 0) rfl (some 1) rfl cr ch ma ct fi da wo rfl ?_; intro X w1 HX Sw1 CX Bw1 c0 c1 c2 c3 c4 c5 c6)
    go_ret
    exact ⟨by rw [E.out]; rfl,Bw1.out⟩
  have t0:decide (cr < 0)=false:=decide_eq_false (by omega)
  by_cases g1:255 < cr
  · have t1:decide (255 < cr)=true:=decide_eq_true (by omega)
    have E:=Lib.hid (show b=false by rw [OKE.out]; exact decide_eq_false (fun h=>by omega))
    clear g0 g1 OKE
    go_enter Tryz.func86,Tryz.ntmps86
    go_wp2_with (refine bx_tm rfl (.tmp 0) rfl (some 1) rfl cr ch ma ct fi da wo rfl ?_; intro X w1 HX Sw1 CX Bw1 c0 c1 c2 c3 c4 c5 c6)
    go_ret
    exact ⟨by rw [E.out]; rfl,Bw1.out⟩
  have t1:decide (255 < cr)=false:=decide_eq_false (by omega)
  by_cases g2:ma < 0
  · have t2:decide (ma < 0)=true:=decide_eq_true (by omega)
    have E:=Lib.hid (show b=false by rw [OKE.out]; exact decide_eq_false (fun h=>by omega))
    clear g0 g1 g2 OKE
    go_enter Tryz.func86,Tryz.ntmps86
    go_wp2_with (refine bx_tm rfl (.tmp 0) rfl (some 1) rfl cr ch ma ct fi da wo rfl ?_; intro X w1 HX Sw1 CX Bw1 c0 c1 c2 c3 c4 c5 c6)
    go_ret
    exact ⟨by rw [E.out]; rfl,Bw1.out⟩
  have t2:decide (ma < 0)=false:=decide_eq_false (by omega)
  by_cases g3:255 < ma
  · have t3:decide (255 < ma)=true:=decide_eq_true (by omega)
    have E:=Lib.hid (show b=false by rw [OKE.out]; exact decide_eq_false (fun h=>by omega))
    clear g0 g1 g2 g3 OKE
    go_enter Tryz.func86,Tryz.ntmps86
    go_wp2_with (refine bx_tm rfl (.tmp 0) rfl (some 1) rfl cr ch ma ct fi da wo rfl ?_; intro X w1 HX Sw1 CX Bw1 c0 c1 c2 c3 c4 c5 c6)
    go_ret
    exact ⟨by rw [E.out]; rfl,Bw1.out⟩
  have t3:decide (255 < ma)=false:=decide_eq_false (by omega)
  by_cases g4:ct < 0
  · have t4:decide (ct < 0)=true:=decide_eq_true (by omega)
    have E:=Lib.hid (show b=false by rw [OKE.out]; exact decide_eq_false (fun h=>by omega))
    clear g0 g1 g2 g3 g4 OKE
    go_enter Tryz.func86,Tryz.ntmps86
    go_wp2_with (refine bx_tm rfl (.tmp 0) rfl (some 1) rfl cr ch ma ct fi da wo rfl ?_; intro X w1 HX Sw1 CX Bw1 c0 c1 c2 c3 c4 c5 c6)
    go_ret
    exact ⟨by rw [E.out]; rfl,Bw1.out⟩
  have t4:decide (ct < 0)=false:=decide_eq_false (by omega)
  by_cases g5:255 < ct
  · have t5:decide (255 < ct)=true:=decide_eq_true (by omega)
    have E:=Lib.hid (show b=false by rw [OKE.out]; exact decide_eq_false (fun h=>by omega))
    clear g0 g1 g2 g3 g4 g5 OKE
    go_enter Tryz.func86,Tryz.ntmps86
    go_wp2_with (refine bx_tm rfl (.tmp 0) rfl (some 1) rfl cr ch ma ct fi da wo rfl ?_; intro X w1 HX Sw1 CX Bw1 c0 c1 c2 c3 c4 c5 c6)
    go_ret
    exact ⟨by rw [E.out]; rfl,Bw1.out⟩
  have t5:decide (255 < ct)=false:=decide_eq_false (by omega)
  by_cases g6:ch < 0
  · have t6:decide (ch < 0)=true:=decide_eq_true (by omega)
    have E:=Lib.hid (show b=false by rw [OKE.out]; exact decide_eq_false (fun h=>by omega))
    clear g0 g1 g2 g3 g4 g5 g6 OKE
    go_enter Tryz.func86,Tryz.ntmps86
    go_wp2_with (refine bx_tm rfl (.tmp 0) rfl (some 1) rfl cr ch ma ct fi da wo rfl ?_; intro X w1 HX Sw1 CX Bw1 c0 c1 c2 c3 c4 c5 c6)
    go_ret
    exact ⟨by rw [E.out]; rfl,Bw1.out⟩
  have t6:decide (ch < 0)=false:=decide_eq_false (by omega)
  by_cases g7:7 < ch
  · have t7:decide (7 < ch)=true:=decide_eq_true (by omega)
    have E:=Lib.hid (show b=false by rw [OKE.out]; exact decide_eq_false (fun h=>by omega))
    clear g0 g1 g2 g3 g4 g5 g6 g7 OKE
    go_enter Tryz.func86,Tryz.ntmps86
    go_wp2_with (refine bx_tm rfl (.tmp 0) rfl (some 1) rfl cr ch ma ct fi da wo rfl ?_; intro X w1 HX Sw1 CX Bw1 c0 c1 c2 c3 c4 c5 c6)
    go_ret
    exact ⟨by rw [E.out]; rfl,Bw1.out⟩
  have t7:decide (7 < ch)=false:=decide_eq_false (by omega)
  by_cases g8:D < 32
  · have t8:decide ((D:Int) < 32)=true:=decide_eq_true (by omega)
    have n8:decide (D < 32)=true:=decide_eq_true g8
    have E:=Lib.hid (show b=false by rw [OKE.out]; exact decide_eq_false (fun h=>by omega))
    clear g0 g1 g2 g3 g4 g5 g6 g7 g8 OKE
    go_enter Tryz.func86,Tryz.ntmps86
    go_wp2_with (refine bx_tm rfl (.tmp 0) rfl (some 1) rfl cr ch ma ct fi da wo rfl ?_; intro X w1 HX Sw1 CX Bw1 c0 c1 c2 c3 c4 c5 c6)
    go_ret
    exact ⟨by rw [E.out]; rfl,Bw1.out⟩
  have t8:decide ((D:Int) < 32)=false:=decide_eq_false (by omega)
  have n8:decide (D < 32)=false:=decide_eq_false g8
  by_cases g9:200 < D
  · have t9:decide (200 < (D:Int))=true:=decide_eq_true (by omega)
    have n9:decide (200 < D)=true:=decide_eq_true g9
    have E:=Lib.hid (show b=false by rw [OKE.out]; exact decide_eq_false (fun h=>by omega))
    clear g0 g1 g2 g3 g4 g5 g6 g7 g8 g9 OKE
    go_enter Tryz.func86,Tryz.ntmps86
    go_wp2_with (refine bx_tm rfl (.tmp 0) rfl (some 1) rfl cr ch ma ct fi da wo rfl ?_; intro X w1 HX Sw1 CX Bw1 c0 c1 c2 c3 c4 c5 c6)
    go_ret
    exact ⟨by rw [E.out]; rfl,Bw1.out⟩
  have t9:decide (200 < (D:Int))=false:=decide_eq_false (by omega)
  have n9:decide (200 < D)=false:=decide_eq_false g9
  by_cases h0:0<=fi
  · have s0:decide ((0:Int)<=fi)=true:=decide_eq_true h0
    by_cases h1:fi < (D:Int)
    · have s1:decide (fi < (D:Int))=true:=decide_eq_true h1
      have E:=Lib.hid (show b=true by rw [OKE.out]; exact decide_eq_true ⟨by omega,by omega⟩)
      clear g0 g1 g2 g3 g4 g5 g6 g7 g8 g9 h0 h1 OKE
      go_enter Tryz.func86,Tryz.ntmps86
      go_wp2_with (refine bx_tm rfl (.tmp 0) rfl (some 1) rfl cr ch ma ct fi da wo rfl ?_; intro X w1 HX Sw1 CX Bw1 c0 c1 c2 c3 c4 c5 c6)
      go_ret
      exact ⟨by rw [E.out]; rfl,Bw1.out⟩
    have s1:decide (fi < (D:Int))=false:=decide_eq_false h1
    by_cases h2:fi=2046
    · have s2:(fi == 2046)=true:=by simpa using h2
      have E:=Lib.hid (show b=true by rw [OKE.out]; exact decide_eq_true ⟨by omega,by omega⟩)
      clear g0 g1 g2 g3 g4 g5 g6 g7 g8 g9 h0 h1 h2 OKE
      go_enter Tryz.func86,Tryz.ntmps86
      go_wp2_with (refine bx_tm rfl (.tmp 0) rfl (some 1) rfl cr ch ma ct fi da wo rfl ?_; intro X w1 HX Sw1 CX Bw1 c0 c1 c2 c3 c4 c5 c6)
      go_ret
      exact ⟨by rw [E.out]; rfl,Bw1.out⟩
    have s2:(fi == 2046)=false:=by simpa using h2
    by_cases h3:fi=2047
    · have s3:(fi == 2047)=true:=by simpa using h3
      have E:=Lib.hid (show b=true by rw [OKE.out]; exact decide_eq_true ⟨by omega,by omega⟩)
      clear g0 g1 g2 g3 g4 g5 g6 g7 g8 g9 h0 h1 h2 h3 OKE
      go_enter Tryz.func86,Tryz.ntmps86
      go_wp2_with (refine bx_tm rfl (.tmp 0) rfl (some 1) rfl cr ch ma ct fi da wo rfl ?_; intro X w1 HX Sw1 CX Bw1 c0 c1 c2 c3 c4 c5 c6)
      go_ret
      exact ⟨by rw [E.out]; rfl,Bw1.out⟩
    have s3:(fi == 2047)=false:=by simpa using h3
    have E:=Lib.hid (show b=false by rw [OKE.out]; exact decide_eq_false (fun h=>by omega))
    clear g0 g1 g2 g3 g4 g5 g6 g7 g8 g9 h0 h1 h2 h3 OKE
    go_enter Tryz.func86,Tryz.ntmps86
    go_wp2_with (refine bx_tm rfl (.tmp 0) rfl (some 1) rfl cr ch ma ct fi da wo rfl ?_; intro X w1 HX Sw1 CX Bw1 c0 c1 c2 c3 c4 c5 c6)
    go_ret
    exact ⟨by rw [E.out]; rfl,Bw1.out⟩
  have s0:decide ((0:Int)<=fi)=false:=decide_eq_false h0
  have s2:(fi == 2046)=false:=by simp; omega
  have s3:(fi == 2047)=false:=by simp; omega
  have E:=Lib.hid (show b=false by rw [OKE.out]; exact decide_eq_false (fun h=>by omega))
  clear g0 g1 g2 g3 g4 g5 g6 g7 g8 g9 h0 OKE
  go_enter Tryz.func86,Tryz.ntmps86
  go_wp2_with (refine bx_tm rfl (.tmp 0) rfl (some 1) rfl cr ch ma ct fi da wo rfl ?_; intro X w1 HX Sw1 CX Bw1 c0 c1 c2 c3 c4 c5 c6)
  go_ret
  exact ⟨by rw [E.out]; rfl,Bw1.out⟩
theorem rttwo_any (n:Nat) (h:n < 65536) (w:World):Calls Tryz.prog 87 #[.int .i64 (n:Nat)] w fun e w'=>e=.returned (.string (bs (Pk.hd n)))/\Below w.heap.size w w':=by
  obtain ⟨q,hq⟩:∃ q,n / 256=q:=⟨_,rfl⟩
  obtain ⟨r,hr⟩:∃ r,n % 256=r:=⟨_,rfl⟩
  have q1:(n:Int) / 256=(q:Int):=by omega
  have q2:(n:Int).tdiv 256=(q:Int):=by rw [Int.tdiv_eq_ediv_of_nonneg (by omega)]; omega
  have r1:(n:Int) % 256=(r:Int):=by omega
  have r2:(n:Int).tmod 256=(r:Int):=by rw [Int.tmod_eq_emod_of_nonneg (by omega)]; omega
  have q3:IntKind.u8.wrap (q:Int)=(q:Int):=by rw [IntKind.wrap_u8]; omega
  have r3:IntKind.u8.wrap (r:Int)=(r:Int):=by rw [IntKind.wrap_u8]; omega
  have tv:=tw_vals n h
  rw [hq,hr] at tv
  obtain ⟨w1,hw1⟩:∃ w1,w.alloc (.cells #[.int .u8 (q:Nat),.int .u8 (r:Nat)] 5)=w1:=⟨_,rfl⟩
  have B:=Lib.hid (show Below w.heap.size w w1 from hw1 ▸ ba (Below.refl _ _) _)
  have O:w1.ownsRow w.heap.size 5 1 (.slice (some ⟨w.heap.size,0,none⟩) 2 2) 2 (vals (tw n) 2):=by
    rw [tv,<-hw1]
    exact own_new2 [.int .u8 (q:Nat),.int .u8 (r:Nat)] rfl (by unfold maxLen; omega) (Nat.le_refl _)
  have CV:=Lib.hid (own_back O)
  rw [tw_str] at CV
  have HW:=Lib.hid hw1
  clear hq hr O hw1 tv
  go_enter Tryz.func87,Tryz.ntmps87
  go_wp2_with (first | simp only [CV.out] | simp only [HW.out])
  go_ret
  exact ⟨rfl,B.out⟩
structure TpRegion (X cr ch ma ct m0 m1 m2 n1 n2 n3:Nat) (da S1 S2 S12 S3 S123 R:ByteArray) (A:Act) (w0:World) (s:Nat->Bool) (a:Act) (w:World):Prop where
  off:Off [8,9,10,11,12,13,14,15,16,17,18,19,20,21,22,23,24,25,26,27,28,29,30] a A
  before:Below w0.heap.size w0 w
  t0:s 0=true->a.eval (.tmp 8)=.pointer (some ⟨X,0,none⟩)
  t1:s 1=true->a.eval (.tmp 9)=.int .i64 (cr:Nat)
  t2:s 2=true->a.eval (.tmp 10)=.int .i64 (m0:Nat)
  t3:s 3=true->a.eval (.tmp 11)=.pointer (some ⟨X,1,none⟩)
  t4:s 4=true->a.eval (.tmp 12)=.int .i64 (ch:Nat)
  t5:s 5=true->a.eval (.tmp 13)=.int .i64 (m1:Nat)
  t6:s 6=true->a.eval (.tmp 14)=.int .i64 (n1:Nat)
  t7:s 7=true->a.eval (.tmp 15)=.string S1
  t8:s 8=true->a.eval (.tmp 16)=.pointer (some ⟨X,2,none⟩)
  t9:s 9=true->a.eval (.tmp 17)=.int .i64 (ma:Nat)
  t10:s 10=true->a.eval (.tmp 18)=.int .i64 (m2:Nat)
  t11:s 11=true->a.eval (.tmp 19)=.pointer (some ⟨X,3,none⟩)
  t12:s 12=true->a.eval (.tmp 20)=.int .i64 (ct:Nat)
  t13:s 13=true->a.eval (.tmp 21)=.int .i64 (n2:Nat)
  t14:s 14=true->a.eval (.tmp 22)=.string S2
  t15:s 15=true->a.eval (.tmp 23)=.string S12
  t16:s 16=true->a.eval (.tmp 24)=.pointer (some ⟨X,4,none⟩)
  t17:s 17=true->a.eval (.tmp 25)=.int .i64 (n3:Nat)
  t18:s 18=true->a.eval (.tmp 26)=.string S3
  t19:s 19=true->a.eval (.tmp 27)=.string S123
  t20:s 20=true->a.eval (.tmp 28)=.pointer (some ⟨X,5,none⟩)
  t21:s 21=true->a.eval (.tmp 29)=.string da
  t22:s 22=true->a.eval (.tmp 30)=.string R
theorem tpRegion {id:Nat} {l:List Oper} {A:Act} {w:World} {Q:Exit->Act->World->Prop} (X cr ch ma ct m0 m1 m2 n1 n2 n3:Nat) (da S1 S2 S12 S3 S123 R:ByteArray)
    (b0:cr<=255) (b1:ch<=7) (b2:ma<=255) (b3:ct<=255) (hm0:cr * 64=m0) (hm1:ch * 8=m1) (hm2:ma * 256=m2) (hn1:m0 + m1=n1) (hn2:m2 + ct=n2) (hD9:da.size<=1024) (lX:X < w.heap.size)
    (hS1:∀ w,Calls Tryz.prog 87 #[.int .i64 (n1:Nat)] w (fun e w'=>e=.returned (.string S1)/\Below w.heap.size w w')) (hS2:∀ w,Calls Tryz.prog 87 #[.int .i64 (n2:Nat)] w (fun e w'=>e=.returned (.string S2)/\Below w.heap.size w w')) (hS3:∀ w,Calls Tryz.prog 87 #[.int .i64 (n3:Nat)] w (fun e w'=>e=.returned (.string S3)/\Below w.heap.size w w'))
    (z1:S1.size=2) (z2:S2.size=2) (z3:S3.size=2) (e12:S1 ++ S2=S12) (z12:S12.size=4) (e123:S12 ++ S3=S123) (z123:S123.size=6) (eR:S123 ++ da=R)
    (c0:w.cell? ⟨X,0,none⟩=some (.int .i64 (cr:Nat))) (c1:w.cell? ⟨X,1,none⟩=some (.int .i64 (ch:Nat))) (c2:w.cell? ⟨X,2,none⟩=some (.int .i64 (ma:Nat))) (c3:w.cell? ⟨X,3,none⟩=some (.int .i64 (ct:Nat))) (c4:w.cell? ⟨X,4,none⟩=some (.int .i64 (n3:Nat))) (c5:w.cell? ⟨X,5,none⟩=some (.string da))
    (hB:tableH l.toArray 23 (fun i=>match i with | 0=>[] | 1=>[0] | 2=>[1] | 3=>[] | 4=>[3] | 5=>[4] | 6=>[2,5] | 7=>[6] | 8=>[] | 9=>[8] | 10=>[9] | 11=>[] | 12=>[11] | 13=>[10,12] | 14=>[13] | 15=>[7,14] | 16=>[] | 17=>[16] | 18=>[17] | 19=>[15,18] | 20=>[] | 21=>[20] | 22=>[19,21] | _=>[]) (fun _=>[])=true)
    (h0:pick l 0=some (.fieldAddr 100 (.tmp 1) 0,some 8))
    (h1:pick l 1=some (.load 3 (.tmp 8),some 9))
    (h2:pick l 2=some (.binOp .mul 3 (.tmp 9) (.const (.int .i64 64)) 3,some 10))
    (h3:pick l 3=some (.fieldAddr 100 (.tmp 1) 1,some 11))
    (h4:pick l 4=some (.load 3 (.tmp 11),some 12))
    (h5:pick l 5=some (.binOp .mul 3 (.tmp 12) (.const (.int .i64 8)) 3,some 13))
    (h6:pick l 6=some (.binOp .add 3 (.tmp 10) (.tmp 13) 3,some 14))
    (h7:pick l 7=some (.call { callee:=.value (.func 87),args:=#[.tmp 14],argTypes:=#[3] },some 15))
    (h8:pick l 8=some (.fieldAddr 100 (.tmp 1) 2,some 16))
    (h9:pick l 9=some (.load 3 (.tmp 16),some 17))
    (h10:pick l 10=some (.binOp .mul 3 (.tmp 17) (.const (.int .i64 256)) 3,some 18))
    (h11:pick l 11=some (.fieldAddr 100 (.tmp 1) 3,some 19))
    (h12:pick l 12=some (.load 3 (.tmp 19),some 20))
    (h13:pick l 13=some (.binOp .add 3 (.tmp 18) (.tmp 20) 3,some 21))
    (h14:pick l 14=some (.call { callee:=.value (.func 87),args:=#[.tmp 21],argTypes:=#[3] },some 22))
    (h15:pick l 15=some (.binOp .add 9 (.tmp 15) (.tmp 22) 9,some 23))
    (h16:pick l 16=some (.fieldAddr 100 (.tmp 1) 4,some 24))
    (h17:pick l 17=some (.load 3 (.tmp 24),some 25))
    (h18:pick l 18=some (.call { callee:=.value (.func 87),args:=#[.tmp 25],argTypes:=#[3] },some 26))
    (h19:pick l 19=some (.binOp .add 9 (.tmp 23) (.tmp 26) 9,some 27))
    (h20:pick l 20=some (.fieldAddr 100 (.tmp 1) 5,some 28))
    (h21:pick l 21=some (.load 9 (.tmp 28),some 29))
    (h22:pick l 22=some (.binOp .add 9 (.tmp 27) (.tmp 29) 9,some 30))
    (hs:A.tmps.size=50)
    (x1:A.eval (.tmp 1)=.pointer (some ⟨X,0,none⟩))
    (h:∀ w1,Below w.heap.size w w1->wpList Tryz.prog l.toArray Q (l.drop 23) (((((((((((((((((((((((A.put (some 8) (.pointer (some ⟨X,0,none⟩))).put (some 9) (.int .i64 (cr:Nat))).put (some 10) (.int .i64 (m0:Nat))).put (some 11) (.pointer (some ⟨X,1,none⟩))).put (some 12) (.int .i64 (ch:Nat))).put (some 13) (.int .i64 (m1:Nat))).put (some 14) (.int .i64 (n1:Nat))).put (some 15) (.string S1)).put (some 16) (.pointer (some ⟨X,2,none⟩))).put (some 17) (.int .i64 (ma:Nat))).put (some 18) (.int .i64 (m2:Nat))).put (some 19) (.pointer (some ⟨X,3,none⟩))).put (some 20) (.int .i64 (ct:Nat))).put (some 21) (.int .i64 (n2:Nat))).put (some 22) (.string S2)).put (some 23) (.string S12)).put (some 24) (.pointer (some ⟨X,4,none⟩))).put (some 25) (.int .i64 (n3:Nat))).put (some 26) (.string S3)).put (some 27) (.string S123)).put (some 28) (.pointer (some ⟨X,5,none⟩))).put (some 29) (.string da)).put (some 30) (.string R)) w1):
    (Code.region id l.toArray true).wp Tryz.prog Q A w:=by
  refine wp_region_head (by kernel_rfl) _ _ _ hB (TpRegion X cr ch ma ct m0 m1 m2 n1 n2 n3 da S1 S2 S12 S3 S123 R A w) ⟨Off.refl _ _,(Below.refl _ _).drew,by simp,by simp,by simp,by simp,by simp,by simp,by simp,by simp,by simp,by simp,by simp,by simp,by simp,by simp,by simp,by simp,by simp,by simp,by simp,by simp,by simp,by simp,by simp⟩ ?_ ?_
  · intro s a w' S i' o il ho hsi hT K hK
    have sz:a.tmps.size=50:=by rw [S.off.2.1]; exact hs
    have y1:a.eval (.tmp 1)=.pointer (some ⟨X,0,none⟩):=by rw [S.off.eval (by decide)]; exact x1
    match i',il,ho,hsi,hT with
    | 0,_,ho,hsi,hT=>
      obtain ⟨e1,e2⟩:=pick_of h0 ho
      refine step_val (v:=.pointer (some ⟨X,0,none⟩)) (by simp only [execOp,e1,y1]; go_simp) (hK _ _ ?_)
      rw [e2]
      exact ⟨ofp S.off,S.before,ev_ (by omega),kp S.t1,kp S.t2,kp S.t3,kp S.t4,kp S.t5,kp S.t6,kp S.t7,kp S.t8,kp S.t9,kp S.t10,kp S.t11,kp S.t12,kp S.t13,kp S.t14,kp S.t15,kp S.t16,kp S.t17,kp S.t18,kp S.t19,kp S.t20,kp S.t21,kp S.t22⟩
    | 1,_,ho,hsi,hT=>
      obtain ⟨e1,e2⟩:=pick_of h1 ho
      have D0:s 0=true:=list_pos hT (d:=0) (by decide)
      have BW:=S.before
      have cl:=(BW.cell (p:=⟨X,0,none⟩) lX).trans c0
      refine step_val (v:=.int .i64 (cr:Nat)) (by simp only [execOp,e1,S.t0 D0]; go_simp) (hK _ _ ?_)
      rw [e2]
      exact ⟨ofp S.off,S.before,kp S.t0,ev_ (by omega),kp S.t2,kp S.t3,kp S.t4,kp S.t5,kp S.t6,kp S.t7,kp S.t8,kp S.t9,kp S.t10,kp S.t11,kp S.t12,kp S.t13,kp S.t14,kp S.t15,kp S.t16,kp S.t17,kp S.t18,kp S.t19,kp S.t20,kp S.t21,kp S.t22⟩
    | 2,_,ho,hsi,hT=>
      obtain ⟨e1,e2⟩:=pick_of h2 ho
      have D1:s 1=true:=list_pos hT (d:=1) (by decide)
      refine step_val (v:=.int .i64 (m0:Nat)) (by simp only [execOp,e1,S.t1 D1]; go_simp; rw [IntKind.wrap_i64]; omega) (hK _ _ ?_)
      rw [e2]
      exact ⟨ofp S.off,S.before,kp S.t0,kp S.t1,ev_ (by omega),kp S.t3,kp S.t4,kp S.t5,kp S.t6,kp S.t7,kp S.t8,kp S.t9,kp S.t10,kp S.t11,kp S.t12,kp S.t13,kp S.t14,kp S.t15,kp S.t16,kp S.t17,kp S.t18,kp S.t19,kp S.t20,kp S.t21,kp S.t22⟩
    | 3,_,ho,hsi,hT=>
      obtain ⟨e1,e2⟩:=pick_of h3 ho
      refine step_val (v:=.pointer (some ⟨X,1,none⟩)) (by simp only [execOp,e1,y1]; go_simp) (hK _ _ ?_)
      rw [e2]
      exact ⟨ofp S.off,S.before,kp S.t0,kp S.t1,kp S.t2,ev_ (by omega),kp S.t4,kp S.t5,kp S.t6,kp S.t7,kp S.t8,kp S.t9,kp S.t10,kp S.t11,kp S.t12,kp S.t13,kp S.t14,kp S.t15,kp S.t16,kp S.t17,kp S.t18,kp S.t19,kp S.t20,kp S.t21,kp S.t22⟩
    | 4,_,ho,hsi,hT=>
      obtain ⟨e1,e2⟩:=pick_of h4 ho
      have D3:s 3=true:=list_pos hT (d:=3) (by decide)
      have BW:=S.before
      have cl:=(BW.cell (p:=⟨X,1,none⟩) lX).trans c1
      refine step_val (v:=.int .i64 (ch:Nat)) (by simp only [execOp,e1,S.t3 D3]; go_simp) (hK _ _ ?_)
      rw [e2]
      exact ⟨ofp S.off,S.before,kp S.t0,kp S.t1,kp S.t2,kp S.t3,ev_ (by omega),kp S.t5,kp S.t6,kp S.t7,kp S.t8,kp S.t9,kp S.t10,kp S.t11,kp S.t12,kp S.t13,kp S.t14,kp S.t15,kp S.t16,kp S.t17,kp S.t18,kp S.t19,kp S.t20,kp S.t21,kp S.t22⟩
    | 5,_,ho,hsi,hT=>
      obtain ⟨e1,e2⟩:=pick_of h5 ho
      have D4:s 4=true:=list_pos hT (d:=4) (by decide)
      refine step_val (v:=.int .i64 (m1:Nat)) (by simp only [execOp,e1,S.t4 D4]; go_simp; rw [IntKind.wrap_i64]; omega) (hK _ _ ?_)
      rw [e2]
      exact ⟨ofp S.off,S.before,kp S.t0,kp S.t1,kp S.t2,kp S.t3,kp S.t4,ev_ (by omega),kp S.t6,kp S.t7,kp S.t8,kp S.t9,kp S.t10,kp S.t11,kp S.t12,kp S.t13,kp S.t14,kp S.t15,kp S.t16,kp S.t17,kp S.t18,kp S.t19,kp S.t20,kp S.t21,kp S.t22⟩
    | 6,_,ho,hsi,hT=>
      obtain ⟨e1,e2⟩:=pick_of h6 ho
      have D2:s 2=true:=list_pos hT (d:=2) (by decide)
      have D5:s 5=true:=list_pos hT (d:=5) (by decide)
      refine step_val (v:=.int .i64 (n1:Nat)) (by simp only [execOp,e1,S.t2 D2,S.t5 D5]; go_simp; rw [IntKind.wrap_i64]; omega) (hK _ _ ?_)
      rw [e2]
      exact ⟨ofp S.off,S.before,kp S.t0,kp S.t1,kp S.t2,kp S.t3,kp S.t4,kp S.t5,ev_ (by omega),kp S.t7,kp S.t8,kp S.t9,kp S.t10,kp S.t11,kp S.t12,kp S.t13,kp S.t14,kp S.t15,kp S.t16,kp S.t17,kp S.t18,kp S.t19,kp S.t20,kp S.t21,kp S.t22⟩
    | 7,_,ho,hsi,hT=>
      obtain ⟨e1,e2⟩:=pick_of h7 ho
      have D6:s 6=true:=list_pos hT (d:=6) (by decide)
      have BW:=S.before
      refine step_call 87 (fun args w=>by go_simp) _ _ e1 #[.int .i64 (n1:Nat)] (by simp only [List.map_toArray,List.map_cons,List.map_nil,S.t6 D6] <;> rfl) ((hS1 w').mono ?_)
      rintro e w2 ⟨rfl,BB⟩
      refine ⟨_,rfl,hK _ _ ?_⟩
      rw [e2]
      exact ⟨ofp S.off,bt BW BB,kp S.t0,kp S.t1,kp S.t2,kp S.t3,kp S.t4,kp S.t5,kp S.t6,ev_ (by omega),kp S.t8,kp S.t9,kp S.t10,kp S.t11,kp S.t12,kp S.t13,kp S.t14,kp S.t15,kp S.t16,kp S.t17,kp S.t18,kp S.t19,kp S.t20,kp S.t21,kp S.t22⟩
    | 8,_,ho,hsi,hT=>
      obtain ⟨e1,e2⟩:=pick_of h8 ho
      refine step_val (v:=.pointer (some ⟨X,2,none⟩)) (by simp only [execOp,e1,y1]; go_simp) (hK _ _ ?_)
      rw [e2]
      exact ⟨ofp S.off,S.before,kp S.t0,kp S.t1,kp S.t2,kp S.t3,kp S.t4,kp S.t5,kp S.t6,kp S.t7,ev_ (by omega),kp S.t9,kp S.t10,kp S.t11,kp S.t12,kp S.t13,kp S.t14,kp S.t15,kp S.t16,kp S.t17,kp S.t18,kp S.t19,kp S.t20,kp S.t21,kp S.t22⟩
    | 9,_,ho,hsi,hT=>
      obtain ⟨e1,e2⟩:=pick_of h9 ho
      have D8:s 8=true:=list_pos hT (d:=8) (by decide)
      have BW:=S.before
      have cl:=(BW.cell (p:=⟨X,2,none⟩) lX).trans c2
      refine step_val (v:=.int .i64 (ma:Nat)) (by simp only [execOp,e1,S.t8 D8]; go_simp) (hK _ _ ?_)
      rw [e2]
      exact ⟨ofp S.off,S.before,kp S.t0,kp S.t1,kp S.t2,kp S.t3,kp S.t4,kp S.t5,kp S.t6,kp S.t7,kp S.t8,ev_ (by omega),kp S.t10,kp S.t11,kp S.t12,kp S.t13,kp S.t14,kp S.t15,kp S.t16,kp S.t17,kp S.t18,kp S.t19,kp S.t20,kp S.t21,kp S.t22⟩
    | 10,_,ho,hsi,hT=>
      obtain ⟨e1,e2⟩:=pick_of h10 ho
      have D9:s 9=true:=list_pos hT (d:=9) (by decide)
      refine step_val (v:=.int .i64 (m2:Nat)) (by simp only [execOp,e1,S.t9 D9]; go_simp; rw [IntKind.wrap_i64]; omega) (hK _ _ ?_)
      rw [e2]
      exact ⟨ofp S.off,S.before,kp S.t0,kp S.t1,kp S.t2,kp S.t3,kp S.t4,kp S.t5,kp S.t6,kp S.t7,kp S.t8,kp S.t9,ev_ (by omega),kp S.t11,kp S.t12,kp S.t13,kp S.t14,kp S.t15,kp S.t16,kp S.t17,kp S.t18,kp S.t19,kp S.t20,kp S.t21,kp S.t22⟩
    | 11,_,ho,hsi,hT=>
      obtain ⟨e1,e2⟩:=pick_of h11 ho
      refine step_val (v:=.pointer (some ⟨X,3,none⟩)) (by simp only [execOp,e1,y1]; go_simp) (hK _ _ ?_)
      rw [e2]
      exact ⟨ofp S.off,S.before,kp S.t0,kp S.t1,kp S.t2,kp S.t3,kp S.t4,kp S.t5,kp S.t6,kp S.t7,kp S.t8,kp S.t9,kp S.t10,ev_ (by omega),kp S.t12,kp S.t13,kp S.t14,kp S.t15,kp S.t16,kp S.t17,kp S.t18,kp S.t19,kp S.t20,kp S.t21,kp S.t22⟩
    | 12,_,ho,hsi,hT=>
      obtain ⟨e1,e2⟩:=pick_of h12 ho
      have D11:s 11=true:=list_pos hT (d:=11) (by decide)
      have BW:=S.before
      have cl:=(BW.cell (p:=⟨X,3,none⟩) lX).trans c3
      refine step_val (v:=.int .i64 (ct:Nat)) (by simp only [execOp,e1,S.t11 D11]; go_simp) (hK _ _ ?_)
      rw [e2]
      exact ⟨ofp S.off,S.before,kp S.t0,kp S.t1,kp S.t2,kp S.t3,kp S.t4,kp S.t5,kp S.t6,kp S.t7,kp S.t8,kp S.t9,kp S.t10,kp S.t11,ev_ (by omega),kp S.t13,kp S.t14,kp S.t15,kp S.t16,kp S.t17,kp S.t18,kp S.t19,kp S.t20,kp S.t21,kp S.t22⟩
    | 13,_,ho,hsi,hT=>
      obtain ⟨e1,e2⟩:=pick_of h13 ho
      have D10:s 10=true:=list_pos hT (d:=10) (by decide)
      have D12:s 12=true:=list_pos hT (d:=12) (by decide)
      refine step_val (v:=.int .i64 (n2:Nat)) (by simp only [execOp,e1,S.t10 D10,S.t12 D12]; go_simp; rw [IntKind.wrap_i64]; omega) (hK _ _ ?_)
      rw [e2]
      exact ⟨ofp S.off,S.before,kp S.t0,kp S.t1,kp S.t2,kp S.t3,kp S.t4,kp S.t5,kp S.t6,kp S.t7,kp S.t8,kp S.t9,kp S.t10,kp S.t11,kp S.t12,ev_ (by omega),kp S.t14,kp S.t15,kp S.t16,kp S.t17,kp S.t18,kp S.t19,kp S.t20,kp S.t21,kp S.t22⟩
    | 14,_,ho,hsi,hT=>
      obtain ⟨e1,e2⟩:=pick_of h14 ho
      have D13:s 13=true:=list_pos hT (d:=13) (by decide)
      have BW:=S.before
      refine step_call 87 (fun args w=>by go_simp) _ _ e1 #[.int .i64 (n2:Nat)] (by simp only [List.map_toArray,List.map_cons,List.map_nil,S.t13 D13] <;> rfl) ((hS2 w').mono ?_)
      rintro e w2 ⟨rfl,BB⟩
      refine ⟨_,rfl,hK _ _ ?_⟩
      rw [e2]
      exact ⟨ofp S.off,bt BW BB,kp S.t0,kp S.t1,kp S.t2,kp S.t3,kp S.t4,kp S.t5,kp S.t6,kp S.t7,kp S.t8,kp S.t9,kp S.t10,kp S.t11,kp S.t12,kp S.t13,ev_ (by omega),kp S.t15,kp S.t16,kp S.t17,kp S.t18,kp S.t19,kp S.t20,kp S.t21,kp S.t22⟩
    | 15,_,ho,hsi,hT=>
      obtain ⟨e1,e2⟩:=pick_of h15 ho
      have D7:s 7=true:=list_pos hT (d:=7) (by decide)
      have D14:s 14=true:=list_pos hT (d:=14) (by decide)
      refine step_val (v:=.string S12) (by simp only [execOp,e1,S.t7 D7,S.t14 D14]; go_simp) (hK _ _ ?_)
      rw [e2]
      exact ⟨ofp S.off,S.before,kp S.t0,kp S.t1,kp S.t2,kp S.t3,kp S.t4,kp S.t5,kp S.t6,kp S.t7,kp S.t8,kp S.t9,kp S.t10,kp S.t11,kp S.t12,kp S.t13,kp S.t14,ev_ (by omega),kp S.t16,kp S.t17,kp S.t18,kp S.t19,kp S.t20,kp S.t21,kp S.t22⟩
    | 16,_,ho,hsi,hT=>
      obtain ⟨e1,e2⟩:=pick_of h16 ho
      refine step_val (v:=.pointer (some ⟨X,4,none⟩)) (by simp only [execOp,e1,y1]; go_simp) (hK _ _ ?_)
      rw [e2]
      exact ⟨ofp S.off,S.before,kp S.t0,kp S.t1,kp S.t2,kp S.t3,kp S.t4,kp S.t5,kp S.t6,kp S.t7,kp S.t8,kp S.t9,kp S.t10,kp S.t11,kp S.t12,kp S.t13,kp S.t14,kp S.t15,ev_ (by omega),kp S.t17,kp S.t18,kp S.t19,kp S.t20,kp S.t21,kp S.t22⟩
    | 17,_,ho,hsi,hT=>
      obtain ⟨e1,e2⟩:=pick_of h17 ho
      have D16:s 16=true:=list_pos hT (d:=16) (by decide)
      have BW:=S.before
      have cl:=(BW.cell (p:=⟨X,4,none⟩) lX).trans c4
      refine step_val (v:=.int .i64 (n3:Nat)) (by simp only [execOp,e1,S.t16 D16]; go_simp) (hK _ _ ?_)
      rw [e2]
      exact ⟨ofp S.off,S.before,kp S.t0,kp S.t1,kp S.t2,kp S.t3,kp S.t4,kp S.t5,kp S.t6,kp S.t7,kp S.t8,kp S.t9,kp S.t10,kp S.t11,kp S.t12,kp S.t13,kp S.t14,kp S.t15,kp S.t16,ev_ (by omega),kp S.t18,kp S.t19,kp S.t20,kp S.t21,kp S.t22⟩
    | 18,_,ho,hsi,hT=>
      obtain ⟨e1,e2⟩:=pick_of h18 ho
      have D17:s 17=true:=list_pos hT (d:=17) (by decide)
      have BW:=S.before
      refine step_call 87 (fun args w=>by go_simp) _ _ e1 #[.int .i64 (n3:Nat)] (by simp only [List.map_toArray,List.map_cons,List.map_nil,S.t17 D17] <;> rfl) ((hS3 w').mono ?_)
      rintro e w2 ⟨rfl,BB⟩
      refine ⟨_,rfl,hK _ _ ?_⟩
      rw [e2]
      exact ⟨ofp S.off,bt BW BB,kp S.t0,kp S.t1,kp S.t2,kp S.t3,kp S.t4,kp S.t5,kp S.t6,kp S.t7,kp S.t8,kp S.t9,kp S.t10,kp S.t11,kp S.t12,kp S.t13,kp S.t14,kp S.t15,kp S.t16,kp S.t17,ev_ (by omega),kp S.t19,kp S.t20,kp S.t21,kp S.t22⟩
    | 19,_,ho,hsi,hT=>
      obtain ⟨e1,e2⟩:=pick_of h19 ho
      have D15:s 15=true:=list_pos hT (d:=15) (by decide)
      have D18:s 18=true:=list_pos hT (d:=18) (by decide)
      refine step_val (v:=.string S123) (by simp only [execOp,e1,S.t15 D15,S.t18 D18]; go_simp) (hK _ _ ?_)
      rw [e2]
      exact ⟨ofp S.off,S.before,kp S.t0,kp S.t1,kp S.t2,kp S.t3,kp S.t4,kp S.t5,kp S.t6,kp S.t7,kp S.t8,kp S.t9,kp S.t10,kp S.t11,kp S.t12,kp S.t13,kp S.t14,kp S.t15,kp S.t16,kp S.t17,kp S.t18,ev_ (by omega),kp S.t20,kp S.t21,kp S.t22⟩
    | 20,_,ho,hsi,hT=>
      obtain ⟨e1,e2⟩:=pick_of h20 ho
      refine step_val (v:=.pointer (some ⟨X,5,none⟩)) (by simp only [execOp,e1,y1]; go_simp) (hK _ _ ?_)
      rw [e2]
      exact ⟨ofp S.off,S.before,kp S.t0,kp S.t1,kp S.t2,kp S.t3,kp S.t4,kp S.t5,kp S.t6,kp S.t7,kp S.t8,kp S.t9,kp S.t10,kp S.t11,kp S.t12,kp S.t13,kp S.t14,kp S.t15,kp S.t16,kp S.t17,kp S.t18,kp S.t19,ev_ (by omega),kp S.t21,kp S.t22⟩
    | 21,_,ho,hsi,hT=>
      obtain ⟨e1,e2⟩:=pick_of h21 ho
      have D20:s 20=true:=list_pos hT (d:=20) (by decide)
      have BW:=S.before
      have cl:=(BW.cell (p:=⟨X,5,none⟩) lX).trans c5
      refine step_val (v:=.string da) (by simp only [execOp,e1,S.t20 D20]; go_simp) (hK _ _ ?_)
      rw [e2]
      exact ⟨ofp S.off,S.before,kp S.t0,kp S.t1,kp S.t2,kp S.t3,kp S.t4,kp S.t5,kp S.t6,kp S.t7,kp S.t8,kp S.t9,kp S.t10,kp S.t11,kp S.t12,kp S.t13,kp S.t14,kp S.t15,kp S.t16,kp S.t17,kp S.t18,kp S.t19,kp S.t20,ev_ (by omega),kp S.t22⟩
    | 22,_,ho,hsi,hT=>
      obtain ⟨e1,e2⟩:=pick_of h22 ho
      have D19:s 19=true:=list_pos hT (d:=19) (by decide)
      have D21:s 21=true:=list_pos hT (d:=21) (by decide)
      refine step_val (v:=.string R) (by simp only [execOp,e1,S.t19 D19,S.t21 D21]; go_simp; omega) (hK _ _ ?_)
      rw [e2]
      exact ⟨ofp S.off,S.before,kp S.t0,kp S.t1,kp S.t2,kp S.t3,kp S.t4,kp S.t5,kp S.t6,kp S.t7,kp S.t8,kp S.t9,kp S.t10,kp S.t11,kp S.t12,kp S.t13,kp S.t14,kp S.t15,kp S.t16,kp S.t17,kp S.t18,kp S.t19,kp S.t20,kp S.t21,ev_ (by omega)⟩
    | _ + 23,il,_,_,_=>exact absurd il (by omega)
  intro s a w' S hall
  have a0:=hall 0 (by omega)
  have a1:=hall 1 (by omega)
  have a2:=hall 2 (by omega)
  have a3:=hall 3 (by omega)
  have a4:=hall 4 (by omega)
  have a5:=hall 5 (by omega)
  have a6:=hall 6 (by omega)
  have a7:=hall 7 (by omega)
  have a8:=hall 8 (by omega)
  have a9:=hall 9 (by omega)
  have a10:=hall 10 (by omega)
  have a11:=hall 11 (by omega)
  have a12:=hall 12 (by omega)
  have a13:=hall 13 (by omega)
  have a14:=hall 14 (by omega)
  have a15:=hall 15 (by omega)
  have a16:=hall 16 (by omega)
  have a17:=hall 17 (by omega)
  have a18:=hall 18 (by omega)
  have a19:=hall 19 (by omega)
  have a20:=hall 20 (by omega)
  have a21:=hall 21 (by omega)
  have a22:=hall 22 (by omega)
  have e:=off_norm _ (by intro d hd; simp at hd; omega) S.off
  simp only [List.foldl,S.t0 a0,S.t1 a1,S.t2 a2,S.t3 a3,S.t4 a4,S.t5 a5,S.t6 a6,S.t7 a7,S.t8 a8,S.t9 a9,S.t10 a10,S.t11 a11,S.t12 a12,S.t13 a13,S.t14 a14,S.t15 a15,S.t16 a16,S.t17 a17,S.t18 a18,S.t19 a19,S.t20 a20,S.t21 a21,S.t22 a22] at e
  rw [e]
  exact h _ S.before
structure TwRegion (X wo p1 p2:Nat) (R S4 R4 S5 R5:ByteArray) (A:Act) (w0:World) (s:Nat->Bool) (a:Act) (w:World):Prop where
  off:Off [31,32,33,34,35,36,37,38,39,40,41,42,43] a A
  before:Below w0.heap.size w0 w
  t0:s 0=true->a.eval (.tmp 31)=.string R
  t1:s 1=true->a.eval (.tmp 32)=.pointer (some ⟨X,6,none⟩)
  t2:s 2=true->a.eval (.tmp 33)=.int .u32 (wo:Nat)
  t3:s 3=true->a.eval (.tmp 34)=.int .u32 (p1:Nat)
  t4:s 4=true->a.eval (.tmp 35)=.int .i64 (p1:Nat)
  t5:s 5=true->a.eval (.tmp 36)=.string S4
  t6:s 6=true->a.eval (.tmp 37)=.string R4
  t7:s 7=true->a.eval (.tmp 38)=.pointer (some ⟨X,6,none⟩)
  t8:s 8=true->a.eval (.tmp 39)=.int .u32 (wo:Nat)
  t9:s 9=true->a.eval (.tmp 40)=.int .u32 (p2:Nat)
  t10:s 10=true->a.eval (.tmp 41)=.int .i64 (p2:Nat)
  t11:s 11=true->a.eval (.tmp 42)=.string S5
  t12:s 12=true->a.eval (.tmp 43)=.string R5
theorem twRegion {id:Nat} {l:List Oper} {A:Act} {w:World} {Q:Exit->Act->World->Prop} (X wo p1 p2:Nat) (R S4 R4 S5 R5:ByteArray)
    (q1:(wo:Int) / 65536=(p1:Int)) (q2:(wo:Int).tdiv 65536=(p1:Int)) (q3:(wo:Int) % 65536=(p2:Int)) (q4:(wo:Int).tmod 65536=(p2:Int)) (q5:IntKind.u32.wrap (p1:Int)=(p1:Int)) (q6:IntKind.u32.wrap (p2:Int)=(p2:Int)) (q7:IntKind.i64.wrap (p1:Int)=(p1:Int)) (q8:IntKind.i64.wrap (p2:Int)=(p2:Int)) (lX:X < w.heap.size)
    (hS4:∀ w,Calls Tryz.prog 87 #[.int .i64 (p1:Nat)] w (fun e w'=>e=.returned (.string S4)/\Below w.heap.size w w')) (hS5:∀ w,Calls Tryz.prog 87 #[.int .i64 (p2:Nat)] w (fun e w'=>e=.returned (.string S5)/\Below w.heap.size w w'))
    (zR:R.size<=2000) (z4:S4.size=2) (z5:S5.size=2) (e4:R ++ S4=R4) (zR4:R4.size<=2002) (e5:R4 ++ S5=R5)
    (c6:w.cell? ⟨X,6,none⟩=some (.int .u32 (wo:Nat)))
    (hB:tableH l.toArray 13 (fun i=>match i with | 0=>[] | 1=>[] | 2=>[1] | 3=>[2] | 4=>[3] | 5=>[4] | 6=>[0,5] | 7=>[] | 8=>[7] | 9=>[8] | 10=>[9] | 11=>[10] | 12=>[6,11] | _=>[]) (fun _=>[])=true)
    (h0:pick l 0=some (.move (.tmp 4),some 31))
    (h1:pick l 1=some (.fieldAddr 100 (.tmp 1) 6,some 32))
    (h2:pick l 2=some (.load 34 (.tmp 32),some 33))
    (h3:pick l 3=some (.binOp .quo 34 (.tmp 33) (.const (.int .u32 65536)) 34,some 34))
    (h4:pick l 4=some (.convert 34 3 (.tmp 34),some 35))
    (h5:pick l 5=some (.call { callee:=.value (.func 87),args:=#[.tmp 35],argTypes:=#[3] },some 36))
    (h6:pick l 6=some (.binOp .add 9 (.tmp 31) (.tmp 36) 9,some 37))
    (h7:pick l 7=some (.fieldAddr 100 (.tmp 1) 6,some 38))
    (h8:pick l 8=some (.load 34 (.tmp 38),some 39))
    (h9:pick l 9=some (.binOp .rem 34 (.tmp 39) (.const (.int .u32 65536)) 34,some 40))
    (h10:pick l 10=some (.convert 34 3 (.tmp 40),some 41))
    (h11:pick l 11=some (.call { callee:=.value (.func 87),args:=#[.tmp 41],argTypes:=#[3] },some 42))
    (h12:pick l 12=some (.binOp .add 9 (.tmp 37) (.tmp 42) 9,some 43))
    (hs:A.tmps.size=50)
    (x1:A.eval (.tmp 1)=.pointer (some ⟨X,0,none⟩))
    (x4:A.eval (.tmp 4)=.string R)
    (h:∀ w1,Below w.heap.size w w1->wpList Tryz.prog l.toArray Q (l.drop 13) (((((((((((((A.put (some 31) (.string R)).put (some 32) (.pointer (some ⟨X,6,none⟩))).put (some 33) (.int .u32 (wo:Nat))).put (some 34) (.int .u32 (p1:Nat))).put (some 35) (.int .i64 (p1:Nat))).put (some 36) (.string S4)).put (some 37) (.string R4)).put (some 38) (.pointer (some ⟨X,6,none⟩))).put (some 39) (.int .u32 (wo:Nat))).put (some 40) (.int .u32 (p2:Nat))).put (some 41) (.int .i64 (p2:Nat))).put (some 42) (.string S5)).put (some 43) (.string R5)) w1):
    (Code.region id l.toArray true).wp Tryz.prog Q A w:=by
  refine wp_region_head (by kernel_rfl) _ _ _ hB (TwRegion X wo p1 p2 R S4 R4 S5 R5 A w) ⟨Off.refl _ _,(Below.refl _ _).drew,by simp,by simp,by simp,by simp,by simp,by simp,by simp,by simp,by simp,by simp,by simp,by simp,by simp⟩ ?_ ?_
  · intro s a w' S i' o il ho hsi hT K hK
    have sz:a.tmps.size=50:=by rw [S.off.2.1]; exact hs
    have y1:a.eval (.tmp 1)=.pointer (some ⟨X,0,none⟩):=by rw [S.off.eval (by decide)]; exact x1
    have y4:a.eval (.tmp 4)=.string R:=by rw [S.off.eval (by decide)]; exact x4
    match i',il,ho,hsi,hT with
    | 0,_,ho,hsi,hT=>
      obtain ⟨e1,e2⟩:=pick_of h0 ho
      refine step_val (v:=.string R) (by simp only [execOp,e1,y4]; go_simp) (hK _ _ ?_)
      rw [e2]
      exact ⟨ofp S.off,S.before,ev_ (by omega),kp S.t1,kp S.t2,kp S.t3,kp S.t4,kp S.t5,kp S.t6,kp S.t7,kp S.t8,kp S.t9,kp S.t10,kp S.t11,kp S.t12⟩
    | 1,_,ho,hsi,hT=>
      obtain ⟨e1,e2⟩:=pick_of h1 ho
      refine step_val (v:=.pointer (some ⟨X,6,none⟩)) (by simp only [execOp,e1,y1]; go_simp) (hK _ _ ?_)
      rw [e2]
      exact ⟨ofp S.off,S.before,kp S.t0,ev_ (by omega),kp S.t2,kp S.t3,kp S.t4,kp S.t5,kp S.t6,kp S.t7,kp S.t8,kp S.t9,kp S.t10,kp S.t11,kp S.t12⟩
    | 2,_,ho,hsi,hT=>
      obtain ⟨e1,e2⟩:=pick_of h2 ho
      have D1:s 1=true:=list_pos hT (d:=1) (by decide)
      have BW:=S.before
      have cl:=(BW.cell (p:=⟨X,6,none⟩) lX).trans c6
      refine step_val (v:=.int .u32 (wo:Nat)) (by simp only [execOp,e1,S.t1 D1]; go_simp) (hK _ _ ?_)
      rw [e2]
      exact ⟨ofp S.off,S.before,kp S.t0,kp S.t1,ev_ (by omega),kp S.t3,kp S.t4,kp S.t5,kp S.t6,kp S.t7,kp S.t8,kp S.t9,kp S.t10,kp S.t11,kp S.t12⟩
    | 3,_,ho,hsi,hT=>
      obtain ⟨e1,e2⟩:=pick_of h3 ho
      have D2:s 2=true:=list_pos hT (d:=2) (by decide)
      refine step_val (v:=.int .u32 (p1:Nat)) (by simp only [execOp,e1,S.t2 D2]; go_simp) (hK _ _ ?_)
      rw [e2]
      exact ⟨ofp S.off,S.before,kp S.t0,kp S.t1,kp S.t2,ev_ (by omega),kp S.t4,kp S.t5,kp S.t6,kp S.t7,kp S.t8,kp S.t9,kp S.t10,kp S.t11,kp S.t12⟩
    | 4,_,ho,hsi,hT=>
      obtain ⟨e1,e2⟩:=pick_of h4 ho
      have D3:s 3=true:=list_pos hT (d:=3) (by decide)
      refine step_val (v:=.int .i64 (p1:Nat)) (by simp only [execOp,e1,S.t3 D3]; go_simp) (hK _ _ ?_)
      rw [e2]
      exact ⟨ofp S.off,S.before,kp S.t0,kp S.t1,kp S.t2,kp S.t3,ev_ (by omega),kp S.t5,kp S.t6,kp S.t7,kp S.t8,kp S.t9,kp S.t10,kp S.t11,kp S.t12⟩
    | 5,_,ho,hsi,hT=>
      obtain ⟨e1,e2⟩:=pick_of h5 ho
      have D4:s 4=true:=list_pos hT (d:=4) (by decide)
      have BW:=S.before
      refine step_call 87 (fun args w=>by go_simp) _ _ e1 #[.int .i64 (p1:Nat)] (by simp only [List.map_toArray,List.map_cons,List.map_nil,S.t4 D4] <;> rfl) ((hS4 w').mono ?_)
      rintro e w2 ⟨rfl,BB⟩
      refine ⟨_,rfl,hK _ _ ?_⟩
      rw [e2]
      exact ⟨ofp S.off,bt BW BB,kp S.t0,kp S.t1,kp S.t2,kp S.t3,kp S.t4,ev_ (by omega),kp S.t6,kp S.t7,kp S.t8,kp S.t9,kp S.t10,kp S.t11,kp S.t12⟩
    | 6,_,ho,hsi,hT=>
      obtain ⟨e1,e2⟩:=pick_of h6 ho
      have D0:s 0=true:=list_pos hT (d:=0) (by decide)
      have D5:s 5=true:=list_pos hT (d:=5) (by decide)
      refine step_val (v:=.string R4) (by simp only [execOp,e1,S.t0 D0,S.t5 D5]; go_simp; omega) (hK _ _ ?_)
      rw [e2]
      exact ⟨ofp S.off,S.before,kp S.t0,kp S.t1,kp S.t2,kp S.t3,kp S.t4,kp S.t5,ev_ (by omega),kp S.t7,kp S.t8,kp S.t9,kp S.t10,kp S.t11,kp S.t12⟩
    | 7,_,ho,hsi,hT=>
      obtain ⟨e1,e2⟩:=pick_of h7 ho
      refine step_val (v:=.pointer (some ⟨X,6,none⟩)) (by simp only [execOp,e1,y1]; go_simp) (hK _ _ ?_)
      rw [e2]
      exact ⟨ofp S.off,S.before,kp S.t0,kp S.t1,kp S.t2,kp S.t3,kp S.t4,kp S.t5,kp S.t6,ev_ (by omega),kp S.t8,kp S.t9,kp S.t10,kp S.t11,kp S.t12⟩
    | 8,_,ho,hsi,hT=>
      obtain ⟨e1,e2⟩:=pick_of h8 ho
      have D7:s 7=true:=list_pos hT (d:=7) (by decide)
      have BW:=S.before
      have cl:=(BW.cell (p:=⟨X,6,none⟩) lX).trans c6
      refine step_val (v:=.int .u32 (wo:Nat)) (by simp only [execOp,e1,S.t7 D7]; go_simp) (hK _ _ ?_)
      rw [e2]
      exact ⟨ofp S.off,S.before,kp S.t0,kp S.t1,kp S.t2,kp S.t3,kp S.t4,kp S.t5,kp S.t6,kp S.t7,ev_ (by omega),kp S.t9,kp S.t10,kp S.t11,kp S.t12⟩
    | 9,_,ho,hsi,hT=>
      obtain ⟨e1,e2⟩:=pick_of h9 ho
      have D8:s 8=true:=list_pos hT (d:=8) (by decide)
      refine step_val (v:=.int .u32 (p2:Nat)) (by simp only [execOp,e1,S.t8 D8]; go_simp) (hK _ _ ?_)
      rw [e2]
      exact ⟨ofp S.off,S.before,kp S.t0,kp S.t1,kp S.t2,kp S.t3,kp S.t4,kp S.t5,kp S.t6,kp S.t7,kp S.t8,ev_ (by omega),kp S.t10,kp S.t11,kp S.t12⟩
    | 10,_,ho,hsi,hT=>
      obtain ⟨e1,e2⟩:=pick_of h10 ho
      have D9:s 9=true:=list_pos hT (d:=9) (by decide)
      refine step_val (v:=.int .i64 (p2:Nat)) (by simp only [execOp,e1,S.t9 D9]; go_simp) (hK _ _ ?_)
      rw [e2]
      exact ⟨ofp S.off,S.before,kp S.t0,kp S.t1,kp S.t2,kp S.t3,kp S.t4,kp S.t5,kp S.t6,kp S.t7,kp S.t8,kp S.t9,ev_ (by omega),kp S.t11,kp S.t12⟩
    | 11,_,ho,hsi,hT=>
      obtain ⟨e1,e2⟩:=pick_of h11 ho
      have D10:s 10=true:=list_pos hT (d:=10) (by decide)
      have BW:=S.before
      refine step_call 87 (fun args w=>by go_simp) _ _ e1 #[.int .i64 (p2:Nat)] (by simp only [List.map_toArray,List.map_cons,List.map_nil,S.t10 D10] <;> rfl) ((hS5 w').mono ?_)
      rintro e w2 ⟨rfl,BB⟩
      refine ⟨_,rfl,hK _ _ ?_⟩
      rw [e2]
      exact ⟨ofp S.off,bt BW BB,kp S.t0,kp S.t1,kp S.t2,kp S.t3,kp S.t4,kp S.t5,kp S.t6,kp S.t7,kp S.t8,kp S.t9,kp S.t10,ev_ (by omega),kp S.t12⟩
    | 12,_,ho,hsi,hT=>
      obtain ⟨e1,e2⟩:=pick_of h12 ho
      have D6:s 6=true:=list_pos hT (d:=6) (by decide)
      have D11:s 11=true:=list_pos hT (d:=11) (by decide)
      refine step_val (v:=.string R5) (by simp only [execOp,e1,S.t6 D6,S.t11 D11]; go_simp; omega) (hK _ _ ?_)
      rw [e2]
      exact ⟨ofp S.off,S.before,kp S.t0,kp S.t1,kp S.t2,kp S.t3,kp S.t4,kp S.t5,kp S.t6,kp S.t7,kp S.t8,kp S.t9,kp S.t10,kp S.t11,ev_ (by omega)⟩
    | _ + 13,il,_,_,_=>exact absurd il (by omega)
  intro s a w' S hall
  have a0:=hall 0 (by omega)
  have a1:=hall 1 (by omega)
  have a2:=hall 2 (by omega)
  have a3:=hall 3 (by omega)
  have a4:=hall 4 (by omega)
  have a5:=hall 5 (by omega)
  have a6:=hall 6 (by omega)
  have a7:=hall 7 (by omega)
  have a8:=hall 8 (by omega)
  have a9:=hall 9 (by omega)
  have a10:=hall 10 (by omega)
  have a11:=hall 11 (by omega)
  have a12:=hall 12 (by omega)
  have e:=off_norm _ (by intro d hd; simp at hd; omega) S.off
  simp only [List.foldl,S.t0 a0,S.t1 a1,S.t2 a2,S.t3 a3,S.t4 a4,S.t5 a5,S.t6 a6,S.t7 a7,S.t8 a8,S.t9 a9,S.t10 a10,S.t11 a11,S.t12 a12] at e
  rw [e]
  exact h _ S.before
theorem rtput_any (f:Tmf) (hs:f.da.size<=1000000000) (hw:f.wo < 4294967296) (w:World):Calls Tryz.prog 47 #[tmVal f] w fun e w'=>e=.returned (if Tm.Ok f then .tuple #[.string (bs (Tm.enc f)),.int .i64 0] else .tuple #[.string ⟨#[]⟩,.int .i64 2])/\Below w.heap.size w w':=by
  have VA:=Lib.hid (fun w=>rtvalid_any f hs w)
  by_cases ok:Tm.Ok f
  · rw [decide_eq_true ok] at VA
    rw [if_pos ok]
    obtain ⟨⟨⟨a0,a1⟩,⟨a2,a3⟩,⟨a4,a5⟩,⟨a6,a7⟩,a8,a9⟩,a10⟩:=ok
    obtain ⟨cr,hcr⟩:∃ x:Nat,f.cr=x:=⟨f.cr.toNat,by omega⟩
    obtain ⟨ch,hch⟩:∃ x:Nat,f.ch=x:=⟨f.ch.toNat,by omega⟩
    obtain ⟨ma,hma⟩:∃ x:Nat,f.ma=x:=⟨f.ma.toNat,by omega⟩
    obtain ⟨ct,hct⟩:∃ x:Nat,f.ct=x:=⟨f.ct.toNat,by omega⟩
    obtain ⟨fi,hfi⟩:∃ x:Nat,f.fi=x:=⟨f.fi.toNat,by omega⟩
    have T1:=Lib.hid (fun w=>rttwo_any (cr * 64 + ch * 8) (by omega) w)
    have T2:=Lib.hid (fun w=>rttwo_any (ma * 256 + ct) (by omega) w)
    have T3:=Lib.hid (fun w=>rttwo_any fi (by omega) w)
    have T4:=Lib.hid (fun w=>rttwo_any (f.wo / 65536) (by omega) w)
    have T5:=Lib.hid (fun w=>rttwo_any (f.wo % 65536) (by omega) w)
    have z:=fun n=>(show (bs (Pk.hd n)).size=2 by rw [bs_size,Pk.hd_len])
    have EB:((((bs (Pk.hd (cr * 64 + ch * 8)) ++ bs (Pk.hd (ma * 256 + ct))) ++ bs (Pk.hd fi)) ++ f.da) ++ bs (Pk.hd (f.wo / 65536))) ++ bs (Pk.hd (f.wo % 65536))=bs (Tm.body f):=by
      rw [<-bs_self f.da,bs_app,bs_app,bs_app,bs_app,bs_app]
      unfold Tm.body Pk.six
      rw [hcr,hch,hma,hct,hfi]
      simp only [Int.toNat_natCast,List.append_assoc]
    have BS:(bs (Tm.body f)).size=f.da.size + 10:=by rw [bs_size,Tm.body_len]
    obtain ⟨cs,hcs⟩:∃ cs,(Crc.sum16 (Tm.body f)).toNat=cs:=⟨_,rfl⟩
    have csl:cs < 65536:=by rw [<-hcs]; exact (Crc.sum16 (Tm.body f)).isLt
    have SM:=Lib.hid (fun w=>rsum16_any (bs (Tm.body f)) (by rw [BS]; omega) w)
    rw [show (bs (Tm.body f)).data.toList=Tm.body f from by simp [bs],hcs] at SM
    have T6:=Lib.hid (fun w=>rttwo_any cs csl w)
    have EE:bs (Tm.body f) ++ bs (Pk.hd cs)=bs (Tm.enc f):=by rw [bs_app]; unfold Tm.enc; rw [hcs]
    obtain ⟨B,hB⟩:∃ B,bs (Tm.body f)=B:=⟨_,rfl⟩
    obtain ⟨C,hC⟩:∃ C,bs (Pk.hd cs)=C:=⟨_,rfl⟩
    obtain ⟨Z,hZ⟩:∃ Z,bs (Tm.enc f)=Z:=⟨_,rfl⟩
    rw [hB] at EB BS SM EE
    rw [hC] at T6 EE
    rw [hZ] at EE ⊢
    have ZC:C.size=2:=by rw [<-hC]; exact z cs
    have w1:IntKind.i64.wrap (cs:Int)=(cs:Int):=by rw [IntKind.wrap_i64]; omega
    have BL:B.size<=300:=by omega
    have HZ:=Lib.hid z
    have HEB:=Lib.hid EB
    have HCR:=Lib.hid hcr
    have HCH:=Lib.hid hch
    have HMA:=Lib.hid hma
    have HCT:=Lib.hid hct
    have HFI:=Lib.hid hfi
    have HW:=Lib.hid hw
    have A:=Lib.hid (show cr<=255/\ch<=7/\ma<=255/\ct<=255/\f.da.size<=200 by omega)
    clear a0 a1 a2 a3 a4 a5 a6 a7 a8 a9 a10 hcr hch hma hct hfi z EB hB hC hZ hcs hs hw csl
    go_enter Tryz.func47,Tryz.ntmps47
    go_wp2_with (first
      | (refine wpList_new rfl (.box 100 (.tmp 0)) rfl (some 1) rfl #[.int .i64 f.cr,.int .i64 f.ch,.int .i64 f.ma,.int .i64 f.ct,.int .i64 f.fi,.string f.da,.int .u32 (f.wo:Nat)] 100 (fun X=>.pointer (some ⟨X,0,none⟩)) 7 (tmCel f) (tm_cells f) (box_tm rfl rfl) ?_; intro X w1 HX Sw1 CX Bw1)
      | (refine wpList_getAll rfl 100 (.tmp 1) rfl X 7 [.int .i64 f.cr,.int .i64 f.ch,.int .i64 f.ma,.int .i64 f.ct,.int .i64 f.fi,.string f.da,.int .u32 (f.wo:Nat)] _ _ CX.out rfl (tm_list f) rfl Tryz.underlying100 rfl tm_info ?_))
    (refine (VA.out _).mono ?_)
    rintro e w2 ⟨rfl,h2⟩
    have CX2:=Lib.hid (CX.out.below h2)
    have B2:=Lib.hid (bt Bw1.out h2)
    clear h2
    go_upto_region 3 with fail
    refine tpRegion X cr ch ma ct _ _ _ _ _ fi f.da _ _ _ _ _ _ A.out.1 A.out.2.1 A.out.2.2.1 A.out.2.2.2.1 rfl rfl rfl rfl rfl (by have:=A.out; omega) CX2.out.1 T1.out T2.out T3.out (HZ.out _) (HZ.out _) (HZ.out _) rfl (by rw [ByteArray.size_append,HZ.out,HZ.out]) rfl (by rw [ByteArray.size_append,ByteArray.size_append,HZ.out,HZ.out,HZ.out]) rfl (by rw [<-HCR.out]; exact CX2.out.cell (j:=0) (by omega)) (by rw [<-HCH.out]; exact CX2.out.cell (j:=1) (by omega)) (by rw [<-HMA.out]; exact CX2.out.cell (j:=2) (by omega)) (by rw [<-HCT.out]; exact CX2.out.cell (j:=3) (by omega)) (by rw [<-HFI.out]; exact CX2.out.cell (j:=4) (by omega)) (CX2.out.cell (j:=5) (by omega)) (by kernel_rfl) rfl rfl rfl rfl rfl rfl rfl rfl rfl rfl rfl rfl rfl rfl rfl rfl rfl rfl rfl rfl rfl rfl rfl rfl rfl ?_
    intro w3 h3
    simp only [Act.put,List.setIfInBounds_toArray,List.set_cons_succ,List.set_cons_zero,List.drop_succ_cons,List.drop_zero]
    have CX3:=Lib.hid (CX2.out.below h3)
    have B3:=Lib.hid (bt B2.out h3)
    clear h3
    go_upto_region 4 with fail
    refine twRegion X f.wo (f.wo / 65536) (f.wo % 65536) _ _ _ _ _ (by omega) (by rw [Int.tdiv_eq_ediv_of_nonneg (by omega)]; omega) (by omega) (by rw [Int.tmod_eq_emod_of_nonneg (by omega)]; omega) (by have:=HW.out; rw [IntKind.wrap_u32]; omega) (by rw [IntKind.wrap_u32]; omega) (by have:=HW.out; rw [IntKind.wrap_i64]; omega) (by rw [IntKind.wrap_i64]; omega) CX3.out.1 T4.out T5.out (by rw [ByteArray.size_append,ByteArray.size_append,ByteArray.size_append,HZ.out,HZ.out,HZ.out]; have:=A.out; omega) (HZ.out _) (HZ.out _) rfl (by rw [ByteArray.size_append,ByteArray.size_append,ByteArray.size_append,ByteArray.size_append,HZ.out,HZ.out,HZ.out,HZ.out]; have:=A.out; omega) HEB.out (CX3.out.cell (j:=6) (by omega)) (by kernel_rfl) rfl rfl rfl rfl rfl rfl rfl rfl rfl rfl rfl rfl rfl rfl rfl rfl ?_
    intro w4 h4
    simp only [Act.put,List.setIfInBounds_toArray,List.set_cons_succ,List.set_cons_zero,List.drop_succ_cons,List.drop_zero]
    have B4:=Lib.hid (bt B3.out h4)
    clear h4
    go_wp2_with fail
    (refine (SM.out _).mono ?_)
    rintro e w5 ⟨rfl,rfl⟩
    go_wp2_with fail
    (refine (T6.out _).mono ?_)
    rintro e w6 ⟨rfl,h6⟩
    have B6:=Lib.hid (bt B4.out h6)
    clear h6
    go_wp2_with fail
    go_ret2
    exact ⟨rfl,B6.out⟩
  rw [decide_eq_false ok] at VA
  rw [if_neg ok]
  clear ok
  go_enter Tryz.func47,Tryz.ntmps47
  go_wp2_with (first
    | (refine wpList_new rfl (.box 100 (.tmp 0)) rfl (some 1) rfl #[.int .i64 f.cr,.int .i64 f.ch,.int .i64 f.ma,.int .i64 f.ct,.int .i64 f.fi,.string f.da,.int .u32 (f.wo:Nat)] 100 (fun X=>.pointer (some ⟨X,0,none⟩)) 7 (tmCel f) (tm_cells f) (box_tm rfl rfl) ?_; intro X w1 HX Sw1 CX Bw1)
    | (refine wpList_getAll rfl 100 (.tmp 1) rfl X 7 [.int .i64 f.cr,.int .i64 f.ch,.int .i64 f.ma,.int .i64 f.ct,.int .i64 f.fi,.string f.da,.int .u32 (f.wo:Nat)] _ _ CX.out rfl (tm_list f) rfl Tryz.underlying100 rfl tm_info ?_))
  (refine (VA.out _).mono ?_)
  rintro e w2 ⟨rfl,h2⟩
  have B2:=Lib.hid (bt Bw1.out h2)
  clear h2
  go_wp2_with fail
  go_ret2
  exact ⟨rfl,B2.out⟩
end Go.Proofs.YtchfkncbemjepaaGreat
