/- TmRef -/
import Derived.BigQuiet
import Derived.Test.YtchfkncbemjepaaGreatPkJoin
import Derived.Test.YtchfkncbemjepaaGreatCrcRow
import Derived.Test.YtchfkncbemjepaaGreatCrcBits
import Derived.Test.YtchfkncbemjepaaGreatTyKit
set_option linter.unusedVariables false
/- Mathematics of layer 10: frames and their encodings. -/
namespace Go.Proofs.YtchfkncbemjepaaGreat

structure Tmf where
  cr:Int
  ch:Int
  ma:Int
  ct:Int
  fi:Int
  da:ByteArray
  wo:Nat
namespace Tm
def Ok (f:Tmf):Prop:=((0<=f.cr/\f.cr<=255)/\(0<=f.ma/\f.ma<=255)/\(0<=f.ct/\f.ct<=255)/\(0<=f.ch/\f.ch<=7)/\32<=f.da.size/\f.da.size<=200)/\((0<=f.fi/\f.fi < f.da.size)\/f.fi=2046\/f.fi=2047)
instance (f:Tmf):Decidable (Ok f):=by unfold Ok; infer_instance
def body (f:Tmf):List UInt8:=Pk.six (f.cr.toNat * 64 + f.ch.toNat * 8) (f.ma.toNat * 256 + f.ct.toNat) f.fi.toNat (f.da.data.toList ++ (Pk.hd (f.wo / 65536) ++ Pk.hd (f.wo % 65536)))
def enc (f:Tmf):List UInt8:=body f ++ Pk.hd (Crc.sum16 (body f)).toNat
theorem body_len (f:Tmf):(body f).length=f.da.size + 10:=by
  unfold body
  rw [Pk.six_len,List.length_append,List.length_append,Pk.hd_len,Pk.hd_len,Array.length_toList]
  show 6 + (f.da.data.size + (2 + 2))=_
  have:f.da.data.size=f.da.size:=rfl
  omega
theorem enc_len (f:Tmf):(enc f).length=f.da.size + 12:=by
  unfold enc
  rw [List.length_append,body_len,Pk.hd_len]
end Tm
end Go.Proofs.YtchfkncbemjepaaGreat
/- Layer 10: the reference's Valid, two, number and Put. -/
namespace Go.Proofs.YtchfkncbemjepaaGreat
open Go.RowKit

def tmVal (f:Tmf):Value:=.agg #[.int .i64 f.cr,.int .i64 f.ch,.int .i64 f.ma,.int .i64 f.ct,.int .i64 f.fi,.string f.da,.int .u32 (f.wo:Nat)]
def tmCel (f:Tmf):Nat->Value
  | 0=>.int .i64 f.cr
  | 1=>.int .i64 f.ch
  | 2=>.int .i64 f.ma
  | 3=>.int .i64 f.ct
  | 4=>.int .i64 f.fi
  | 5=>.string f.da
  | _=>.int .u32 (f.wo:Nat)
theorem tm_cells (f:Tmf):∀ j,j < 7->(#[.int .i64 f.cr,.int .i64 f.ch,.int .i64 f.ma,.int .i64 f.ct,.int .i64 f.fi,.string f.da,.int .u32 (f.wo:Nat)]:Array Value)[j]?=some (tmCel f j):=fun j hj=>by
  match j,hj with
  | 0,_=>rfl
  | 1,_=>rfl
  | 2,_=>rfl
  | 3,_=>rfl
  | 4,_=>rfl
  | 5,_=>rfl
  | 6,_=>rfl
theorem tm_list (f:Tmf):∀ j,j < 7->([.int .i64 f.cr,.int .i64 f.ch,.int .i64 f.ma,.int .i64 f.ct,.int .i64 f.fi,.string f.da,.int .u32 (f.wo:Nat)]:List Value)[j]?=some (tmCel f j):=fun j hj=>by
  match j,hj with
  | 0,_=>rfl
  | 1,_=>rfl
  | 2,_=>rfl
  | 3,_=>rfl
  | 4,_=>rfl
  | 5,_=>rfl
  | 6,_=>rfl
theorem tm_info:(Tryz.prog.info? 100).map (·.size)=some 7:=by kernel_rfl
theorem box_tm {ev:Operand->Value} {o:Oper} {w:World} {x:Operand} {cr ch ma ct fi:Int} {da:ByteArray} {wo:Nat} (h:o.op=.box 100 x) (hx:ev x=.agg #[.int .i64 cr,.int .i64 ch,.int .i64 ma,.int .i64 ct,.int .i64 fi,.string da,.int .u32 (wo:Nat)]):(execOp ev o).run Tryz.prog w=.ok (.value (.pointer (some ⟨w.heap.size,0,none⟩))) (w.alloc (.cells #[.int .i64 cr,.int .i64 ch,.int .i64 ma,.int .i64 ct,.int .i64 fi,.string da,.int .u32 (wo:Nat)] 100)):=by
  simp only [execOp,h,hx]; go_simp
theorem bx_tm {ops:Array Oper} {rest:List Oper} {op:Oper} {a:Act} {w:World} {Q:Exit->Act->World->Prop} (hgd:op.guard=none) (x:Operand) (ho:op.op=.box 100 x) (dn:Option Tmp) (hd:op.dst=dn) (cr ch ma ct fi:Int) (da:ByteArray) (wo:Nat) (hx:a.eval x=.agg #[.int .i64 cr,.int .i64 ch,.int .i64 ma,.int .i64 ct,.int .i64 fi,.string da,.int .u32 (wo:Nat)])
    (K:∀ X w1,Hid (w.heap.size=X)->Hid (w1.heap.size=X + 1)->Hid (Cel w1 X 7 (tmCel ⟨cr,ch,ma,ct,fi,da,wo⟩))->Hid (Below w.heap.size w w1)->w1.cell? ⟨X,0,none⟩=some (.int .i64 cr)->w1.cell? ⟨X,1,none⟩=some (.int .i64 ch)->w1.cell? ⟨X,2,none⟩=some (.int .i64 ma)->w1.cell? ⟨X,3,none⟩=some (.int .i64 ct)->w1.cell? ⟨X,4,none⟩=some (.int .i64 fi)->w1.cell? ⟨X,5,none⟩=some (.string da)->w1.cell? ⟨X,6,none⟩=some (.int .u32 (wo:Nat))->wpList Tryz.prog ops Q rest (a.put op.dst (.pointer (some ⟨X,0,none⟩))) w1):wpList Tryz.prog ops Q (op :: rest) a w:=
  wpList_new hgd _ ho dn hd #[.int .i64 cr,.int .i64 ch,.int .i64 ma,.int .i64 ct,.int .i64 fi,.string da,.int .u32 (wo:Nat)] 100 (fun X=>.pointer (some ⟨X,0,none⟩)) 7 (tmCel ⟨cr,ch,ma,ct,fi,da,wo⟩) (tm_cells ⟨cr,ch,ma,ct,fi,da,wo⟩) (box_tm ho hx) fun X w1 h1 h2 C h4=>K X w1 h1 h2 C h4 (C.out.cell (j:=0) (by omega)) (C.out.cell (j:=1) (by omega)) (C.out.cell (j:=2) (by omega)) (C.out.cell (j:=3) (by omega)) (C.out.cell (j:=4) (by omega)) (C.out.cell (j:=5) (by omega)) (C.out.cell (j:=6) (by omega))
end Go.Proofs.YtchfkncbemjepaaGreat
