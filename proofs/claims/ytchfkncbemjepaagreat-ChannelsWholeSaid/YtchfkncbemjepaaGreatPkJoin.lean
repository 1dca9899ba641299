/- PkJoin -/
import Derived.Test.YtchfkncbemjepaaGreatGalRow
import Derived.Test.YtchfkncbemjepaaGreatTyKit
set_option linter.unusedVariables false
set_option maxRecDepth 100000
/- Mathematics of layer 9: packets and their encodings. -/
namespace Go.Proofs.YtchfkncbemjepaaGreat

structure Pkt where
  cmd:Bool
  ap:Int
  fl:Int
  ct:Int
  da:ByteArray
namespace Pk
def Ok (p:Pkt):Prop:=(0<=p.ap/\p.ap<=2047)/\(0<=p.fl/\p.fl<=3)/\(0<=p.ct/\p.ct<=16383)/\1<=p.da.size/\p.da.size<=1024
instance (p:Pkt):Decidable (Ok p):=by unfold Ok; infer_instance
def nb (l:List UInt8) (i:Nat):Nat:=(Gal.co l i).toNat
theorem nb_get (l:List UInt8) (i:Nat):nb l i=(l.getD i 0).toNat:=Gal.co_nat l i
theorem nb_lt (l:List UInt8) (i:Nat):nb l i < 256:=(Gal.co l i).isLt
theorem nb_take {l:List UInt8} {k i:Nat} (h:i < k):nb (l.take k) i=nb l i:=by
  rw [nb_get,nb_get,List.getD_eq_getElem?_getD,List.getD_eq_getElem?_getD,List.getElem?_take_of_lt h]
theorem nb_app {l x:List UInt8} {i:Nat} (h:i < l.length):nb (l ++ x) i=nb l i:=by
  rw [nb_get,nb_get,List.getD_eq_getElem?_getD,List.getD_eq_getElem?_getD,List.getElem?_append_left h]
def hd (n:Nat):List UInt8:=[UInt8.ofNat (n / 256),UInt8.ofNat (n % 256)]
theorem hd_len (n:Nat):(hd n).length=2:=rfl
theorem hd_0 (n:Nat) (h:n < 65536):nb (hd n) 0=n / 256:=by
  rw [nb_get]
  show (UInt8.ofNat (n / 256)).toNat=_
  rw [UInt8.toNat_ofNat']
  omega
theorem hd_1 (n:Nat):nb (hd n) 1=n % 256:=by
  rw [nb_get]
  show (UInt8.ofNat (n % 256)).toNat=_
  rw [UInt8.toNat_ofNat']
  omega
def six (a b c:Nat) (d:List UInt8):List UInt8:=hd a ++ (hd b ++ (hd c ++ d))
theorem six_len (a b c:Nat) (d:List UInt8):(six a b c d).length=6 + d.length:=by
  simp only [six,List.length_append,hd_len]
  omega
theorem six_at (a b c:Nat) (d:List UInt8) (ha:a < 65536) (hb:b < 65536) (hc:c < 65536):nb (six a b c d) 0=a / 256/\nb (six a b c d) 1=a % 256/\nb (six a b c d) 2=b / 256/\nb (six a b c d) 3=b % 256/\nb (six a b c d) 4=c / 256/\nb (six a b c d) 5=c % 256:=by
  have h:=hd_0 a ha
  have h1:=hd_1 a
  have h2:=hd_0 b hb
  have h3:=hd_1 b
  have h4:=hd_0 c hc
  have h5:=hd_1 c
  rw [nb_get] at h h1 h2 h3 h4 h5
  refine ⟨?_,?_,?_,?_,?_,?_⟩ <;> rw [nb_get]
  · exact h
  · exact h1
  · exact h2
  · exact h3
  · exact h4
  exact h5
theorem six_drop (a b c:Nat) (d:List UInt8):(six a b c d).drop 6=d:=rfl
def fst (p:Pkt):Nat:=p.ap.toNat + if p.cmd=true then 4096 else 0
def snd (p:Pkt):Nat:=p.fl.toNat * 16384 + p.ct.toNat
def enc (p:Pkt):List UInt8:=six (fst p) (snd p) (p.da.size - 1) p.da.data.toList
theorem fst_lt {p:Pkt} (h:Ok p):fst p < 8192:=by
  unfold fst
  have:=h.1
  split <;> omega
theorem snd_lt {p:Pkt} (h:Ok p):snd p < 65536:=by
  unfold snd
  have:=h.2.1
  have:=h.2.2.1
  omega
theorem da_len (p:Pkt):p.da.data.toList.length=p.da.size:=by
  rw [Array.length_toList]
  rfl
theorem enc_len (p:Pkt):(enc p).length=6 + p.da.size:=by
  unfold enc
  rw [six_len,da_len]
theorem enc_at {p:Pkt} (h:Ok p):nb (enc p) 0=fst p / 256/\nb (enc p) 1=fst p % 256/\nb (enc p) 2=snd p / 256/\nb (enc p) 3=snd p % 256/\nb (enc p) 4=(p.da.size - 1) / 256/\nb (enc p) 5=(p.da.size - 1) % 256:=
  six_at _ _ _ _ (by have:=fst_lt h; omega) (snd_lt h) (by have:=h.2.2.2.2; omega)
inductive Res where
  | ok (p:Pkt) (n:Nat)
  | none
  | form
def Bad (l:List UInt8):Prop:=(0 < l.length/\(32<=nb l 0\/nb l 0 / 8 % 2=1))\/(4 < l.length/\4<=nb l 4)
instance (l:List UInt8):Decidable (Bad l):=by unfold Bad; infer_instance
def len (l:List UInt8):Nat:=6 + nb l 4 * 256 + nb l 5 + 1
def thd (l:List UInt8):Nat:=nb l 2 * 256 + nb l 3
def pkt (l:List UInt8):Pkt:=⟨decide (16<=nb l 0),((nb l 0 % 8 * 256 + nb l 1:Nat):Int),((thd l / 16384:Nat):Int),((thd l % 16384:Nat):Int),⟨((l.take (len l)).drop 6).toArray⟩⟩
def take (l:List UInt8):Res:=if Bad l then .form else if l.length < 6 then .none else if l.length < len l then .none else .ok (pkt l) (len l)
theorem take_bad {l:List UInt8} (h:Bad l):take l=.form:=if_pos h
theorem take_few {l:List UInt8} (h:¬ Bad l) (h6:l.length < 6):take l=.none:=by
  unfold take
  rw [if_neg h,if_pos h6]
theorem take_short {l:List UInt8} (h:¬ Bad l) (h6:¬ l.length < 6) (hn:l.length < len l):take l=.none:=by
  unfold take
  rw [if_neg h,if_neg h6,if_pos hn]
theorem take_good {l:List UInt8} (h:¬ Bad l) (h6:¬ l.length < 6) (hn:¬ l.length < len l):take l=.ok (pkt l) (len l):=by
  unfold take
  rw [if_neg h,if_neg h6,if_neg hn]
theorem take_enc {p:Pkt} (h:Ok p) (x:List UInt8):take (enc p ++ x)=.ok p (enc p).length:=by
  obtain ⟨e0,e1,e2,e3,e4,e5⟩:=enc_at h
  have el:=enc_len p
  have f1:=fst_lt h
  have s1:=snd_lt h
  have d1:=h.2.2.2.1
  have d2:=h.2.2.2.2
  have n0:=(nb_app (l:=enc p) (x:=x) (i:=0) (by omega)).trans e0
  have n1:=(nb_app (l:=enc p) (x:=x) (i:=1) (by omega)).trans e1
  have n2:=(nb_app (l:=enc p) (x:=x) (i:=2) (by omega)).trans e2
  have n3:=(nb_app (l:=enc p) (x:=x) (i:=3) (by omega)).trans e3
  have n4:=(nb_app (l:=enc p) (x:=x) (i:=4) (by omega)).trans e4
  have n5:=(nb_app (l:=enc p) (x:=x) (i:=5) (by omega)).trans e5
  have ln:len (enc p ++ x)=(enc p).length:=by
    unfold len
    rw [n4,n5,el]
    omega
  have nbad:¬ Bad (enc p ++ x):=by
    unfold Bad
    rw [n0,n4]
    have:fst p / 256 < 32/\fst p / 256 / 8 % 2=0:=by
      unfold fst at f1 ⊢
      have:=h.1
      split <;> omega
    omega
  unfold take
  rw [if_neg nbad,if_neg (by rw [List.length_append]; omega),if_neg (by rw [ln,List.length_append]; omega),ln]
  congr 1
  obtain ⟨cmd,ap,fl,ct,da⟩:=p
  unfold pkt
  rw [ln]
  have ap1:=h.1
  have fl1:=h.2.1
  have ct1:=h.2.2.1
  simp only at ap1 fl1 ct1 d1 d2
  congr 1
  · rw [n0]
    unfold fst
    cases cmd with
    | true=>exact decide_eq_true (by simp only [if_true]; omega)
    | false=>exact decide_eq_false (by simp; omega)
  · rw [n0,n1]
    unfold fst
    cases cmd with
    | true=>simp only [if_true]; omega
    | false=>simp; omega
  · unfold thd
    rw [n2,n3]
    unfold snd
    simp only
    omega
  · unfold thd
    rw [n2,n3]
    unfold snd
    simp only
    omega
  apply ByteArray.ext
  rw [List.take_left]
  show ((enc _).drop 6).toArray=_
  unfold enc
  rw [six_drop,Array.toArray_toList]
theorem take_ok {l:List UInt8} {p:Pkt} {n:Nat} (h:take l=.ok p n):Ok p/\n<=l.length/\l.take n=enc p:=by
  unfold take at h
  by_cases b:Bad l
  · rw [if_pos b] at h
    cases h
  rw [if_neg b] at h
  by_cases c:l.length < 6
  · rw [if_pos c] at h
    cases h
  rw [if_neg c] at h
  by_cases d:l.length < len l
  · rw [if_pos d] at h
    cases h
  rw [if_neg d] at h
  cases h
  have b0:=nb_lt l 0
  have b1:=nb_lt l 1
  have b2:=nb_lt l 2
  have b3:=nb_lt l 3
  have b4:=nb_lt l 4
  have b5:=nb_lt l 5
  have bad:¬ (32<=nb l 0)/\¬ (nb l 0 / 8 % 2=1)/\¬ 4<=nb l 4:=by
    unfold Bad at b
    omega
  have dl:((l.take (len l)).drop 6).length=nb l 4 * 256 + nb l 5 + 1:=by
    rw [List.length_drop,List.length_take]
    unfold len at d ⊢
    omega
  have ds:(pkt l).da.size=nb l 4 * 256 + nb l 5 + 1:=by
    show (((l.take (len l)).drop 6).toArray).size=_
    rw [List.size_toArray,dl]
  refine ⟨⟨?_,?_,?_,by omega,by omega⟩,by omega,?_⟩
  · show 0<=((nb l 0 % 8 * 256 + nb l 1:Nat):Int)/\((nb l 0 % 8 * 256 + nb l 1:Nat):Int)<=2047
    omega
  · show 0<=((thd l / 16384:Nat):Int)/\((thd l / 16384:Nat):Int)<=3
    unfold thd
    omega
  · show 0<=((thd l % 16384:Nat):Int)/\((thd l % 16384:Nat):Int)<=16383
    unfold thd
    omega
  have f:fst (pkt l)=nb l 0 * 256 + nb l 1:=by
    show ((nb l 0 % 8 * 256 + nb l 1:Nat):Int).toNat + (if decide (16<=nb l 0)=true then 4096 else 0)=_
    rw [Int.toNat_natCast]
    by_cases g:16<=nb l 0
    · rw [decide_eq_true g,if_pos rfl]
      omega
    rw [decide_eq_false g,if_neg (by simp)]
    omega
  have s:snd (pkt l)=nb l 2 * 256 + nb l 3:=by
    show ((thd l / 16384:Nat):Int).toNat * 16384 + ((thd l % 16384:Nat):Int).toNat=_
    rw [Int.toNat_natCast,Int.toNat_natCast]
    unfold thd
    omega
  have t:(pkt l).da.size - 1=nb l 4 * 256 + nb l 5:=by omega
  have tl:(l.take (len l)).length=len l:=by rw [List.length_take]; omega
  unfold enc
  rw [f,s,t]
  have e:∀ i,i < 6->nb (l.take (len l)) i=nb (six (nb l 0 * 256 + nb l 1) (nb l 2 * 256 + nb l 3) (nb l 4 * 256 + nb l 5) (pkt l).da.data.toList) i:=fun i hi=>by
    obtain ⟨a0,a1,a2,a3,a4,a5⟩:=six_at (nb l 0 * 256 + nb l 1) (nb l 2 * 256 + nb l 3) (nb l 4 * 256 + nb l 5) (pkt l).da.data.toList (by omega) (by omega) (by omega)
    rw [nb_take (by unfold len; omega)]
    match i,hi with
    | 0,_=>rw [a0]; omega
    | 1,_=>rw [a1]; omega
    | 2,_=>rw [a2]; omega
    | 3,_=>rw [a3]; omega
    | 4,_=>rw [a4]; omega
    | 5,_=>rw [a5]; omega
  refine Gal.ext (by rw [six_len,da_len,ds,tl]; unfold len; omega) (fun i hi=>?_)
  rw [tl] at hi
  by_cases g:i < 6
  · have:=e i g
    unfold nb at this
    exact BitVec.eq_of_toNat_eq this
  have k:Gal.co (l.take (len l)) i=Gal.co ((l.take (len l)).drop 6) (i - 6):=by
    unfold Gal.co
    rw [List.getD_eq_getElem?_getD,List.getD_eq_getElem?_getD,List.getElem?_drop,show 6 + (i - 6)=i by omega]
  have k2:Gal.co (six (nb l 0 * 256 + nb l 1) (nb l 2 * 256 + nb l 3) (nb l 4 * 256 + nb l 5) (pkt l).da.data.toList) i=Gal.co (pkt l).da.data.toList (i - 6):=by
    unfold Gal.co
    have:=six_drop (nb l 0 * 256 + nb l 1) (nb l 2 * 256 + nb l 3) (nb l 4 * 256 + nb l 5) (pkt l).da.data.toList
    rw [<-this,List.getD_eq_getElem?_getD,List.getD_eq_getElem?_getD,List.getElem?_drop,show 6 + (i - 6)=i by omega]
    rfl
  rw [k,k2]
  rfl
theorem take_cut {p:Pkt} (h:Ok p) (k:Nat) (hk:k < (enc p).length):take ((enc p).take k)=.none:=by
  obtain ⟨e0,e1,e2,e3,e4,e5⟩:=enc_at h
  have el:=enc_len p
  have f1:=fst_lt h
  have d1:=h.2.2.2.1
  have d2:=h.2.2.2.2
  have tl:((enc p).take k).length=k:=by rw [List.length_take]; omega
  have nbad:¬ Bad ((enc p).take k):=by
    unfold Bad
    rw [tl]
    intro q
    rcases q with ⟨g,q⟩ | ⟨g,q⟩
    · rw [nb_take g,e0] at q
      have:fst p / 256 < 32/\fst p / 256 / 8 % 2=0:=by
        unfold fst at f1 ⊢
        have:=h.1
        split <;> omega
      omega
    rw [nb_take g,e4] at q
    omega
  unfold take
  rw [if_neg nbad]
  by_cases c:k < 6
  · rw [if_pos (by rw [tl]; exact c)]
  rw [if_neg (by rw [tl]; exact c),if_pos]
  rw [tl]
  unfold len
  rw [nb_take (by omega),nb_take (by omega),e4,e5]
  omega
end Pk
end Go.Proofs.YtchfkncbemjepaaGreat
/- Layer 9: the reference's Valid, two, Code and Put. -/
namespace Go.Proofs.YtchfkncbemjepaaGreat
open Go.RowKit

def pkVal (p:Pkt):Value:=.agg #[.bool p.cmd,.int .i64 p.ap,.int .i64 p.fl,.int .i64 p.ct,.string p.da]
def pkCel (p:Pkt):Nat->Value
  | 0=>.bool p.cmd
  | 1=>.int .i64 p.ap
  | 2=>.int .i64 p.fl
  | 3=>.int .i64 p.ct
  | _=>.string p.da
theorem pk_new (p:Pkt) (w:World):Cel (w.alloc (.cells #[.bool p.cmd,.int .i64 p.ap,.int .i64 p.fl,.int .i64 p.ct,.string p.da] 125)) w.heap.size 5 (pkCel p):=Cel.new w _ _ (fun j hj=>by
  match j,hj with
  | 0,_=>rfl
  | 1,_=>rfl
  | 2,_=>rfl
  | 3,_=>rfl
  | 4,_=>rfl)
def bs (l:List UInt8):ByteArray:=⟨l.toArray⟩
theorem bs_size (l:List UInt8):(bs l).size=l.length:=by
  show l.toArray.size=_
  exact List.size_toArray
theorem bs_app (a b:List UInt8):bs a ++ bs b=bs (a ++ b):=by
  apply ByteArray.ext
  simp [bs]
theorem bs_self (s:ByteArray):bs s.data.toList=s:=by
  apply ByteArray.ext
  simp [bs]
theorem own_new2 {w:World} {base n:Nat} {t:TypeId} (vs:List Value) (hn:vs.length=n) (hl:n<=maxLen) (hb:base<=w.heap.size):(w.alloc (.cells vs.toArray t)).ownsRow base t 1 (.slice (some ⟨w.heap.size,0,none⟩) n n) n vs:=
  ⟨by rw [hn,Nat.mul_one],.inr ⟨w.heap.size,n,vs.toArray,rfl,hb,heap_alloc_last w _,Nat.le_refl _,hl,by simp [hn],by simp [<-hn]⟩⟩
def tw (n j:Nat):BitVec 8:=BitVec.ofNat 8 (if j=0 then n / 256 else n % 256)
end Go.Proofs.YtchfkncbemjepaaGreat
/- Layer 9: the reference's Code and Put. -/
namespace Go.Proofs.YtchfkncbemjepaaGreat
open Go.RowKit

end Go.Proofs.YtchfkncbemjepaaGreat
/- Layer 9: single operations, run. -/
namespace Go.Proofs.YtchfkncbemjepaaGreat
open Go.RowKit

section
variable {ev:Operand->Value} {w:World} {o:Oper}
theorem alloc_pk (h:o.op=.alloc 125):(execOp ev o).run Tryz.prog w=.ok (.value (.pointer (some ⟨w.heap.size,0,none⟩))) (w.alloc (.cells #[.bool false,.int .i64 0,.int .i64 0,.int .i64 0,.string ⟨#[]⟩] 125)):=by
  simp only [execOp,h]; go_simp
theorem alloc_int (h:o.op=.alloc 3):(execOp ev o).run Tryz.prog w=.ok (.value (.pointer (some ⟨w.heap.size,0,none⟩))) (w.alloc (.cells #[.int .i64 0] 3)):=by
  simp only [execOp,h]; go_simp
theorem store_bool {x y:Operand} {X i:Nat} {u:Value} {b:Bool} (h:o.op=.store 4 x y) (hx:ev x=.pointer (some ⟨X,i,none⟩)) (hy:ev y=.bool b) (hc:w.cell? ⟨X,i,none⟩=some u) (hf:w.frozen? ⟨X,i,none⟩=false):(execOp ev o).run Tryz.prog w=.ok .skip (w.setCell ⟨X,i,none⟩ (.bool b)):=by
  simp only [execOp,h,hx,hy]; go_simp
theorem store_int {x y:Operand} {X i:Nat} {u:Value} {b:Int} (h:o.op=.store 3 x y) (hx:ev x=.pointer (some ⟨X,i,none⟩)) (hy:ev y=.int .i64 b) (hc:w.cell? ⟨X,i,none⟩=some u) (hf:w.frozen? ⟨X,i,none⟩=false):(execOp ev o).run Tryz.prog w=.ok .skip (w.setCell ⟨X,i,none⟩ (.int .i64 b)):=by
  simp only [execOp,h,hx,hy]; go_simp
theorem store_str {x y:Operand} {X i:Nat} {u:Value} {b:ByteArray} (h:o.op=.store 9 x y) (hx:ev x=.pointer (some ⟨X,i,none⟩)) (hy:ev y=.string b) (hc:w.cell? ⟨X,i,none⟩=some u) (hf:w.frozen? ⟨X,i,none⟩=false):(execOp ev o).run Tryz.prog w=.ok .skip (w.setCell ⟨X,i,none⟩ (.string b)):=by
  simp only [execOp,h,hx,hy]; go_simp
theorem store_bytes {x y:Operand} {X i:Nat} {u:Value} {sa:Option Addr} {m sc:Nat} (h:o.op=.store 103 x y) (hx:ev x=.pointer (some ⟨X,i,none⟩)) (hy:ev y=.slice sa m sc) (hc:w.cell? ⟨X,i,none⟩=some u) (hf:w.frozen? ⟨X,i,none⟩=false):(execOp ev o).run Tryz.prog w=.ok .skip (w.setCell ⟨X,i,none⟩ (.slice sa m sc)):=by
  simp only [execOp,h,hx,hy]; go_simp
end
end Go.Proofs.YtchfkncbemjepaaGreat
/- Mathematics of layer 9: the packets of a message, and a joiner of one APID. -/
namespace Go.Proofs.YtchfkncbemjepaaGreat
namespace Pk
def cut (cmd:Bool) (ap ct:Int) (d:List UInt8) (most k:Nat):Pkt:=
  ⟨cmd,ap,(if k=0 then 1 else 0) + (if d.length<=(k + 1) * most then 2 else 0),(ct + k) % 16384,⟨((d.drop (k * most)).take most).toArray⟩⟩
structure St where
  next:Int
  op:Option (List UInt8)
structure Pc where
  whole:Bool
  msg:List UInt8
  missed:Int
  broken:Bool
def mis (s:Option St) (p:Pkt):Int:=match s with
  | none=>0
  | some x=>(p.ct - x.next + 16384) % 16384
def opn (s:Option St):Option (List UInt8):=match s with
  | none=>none
  | some x=>x.op
def brk (s:Option St) (p:Pkt):Bool:=(opn s).isSome && (decide (mis s p ≠ 0) || (decide (p.fl=1) || decide (p.fl=3)))
def opn1 (s:Option St) (p:Pkt):Option (List UInt8):=if brk s p=true then none else opn s
def feed (s:Option St) (p:Pkt):St × Pc:=
  if p.fl=3 then (⟨(p.ct + 1) % 16384,opn1 s p⟩,⟨true,p.da.data.toList,mis s p,brk s p⟩)
  else if p.fl=1 then (⟨(p.ct + 1) % 16384,some p.da.data.toList⟩,⟨false,[],mis s p,brk s p⟩)
  else match opn1 s p with
    | none=>(⟨(p.ct + 1) % 16384,none⟩,⟨false,[],mis s p,brk s p⟩)
    | some t=>if 16384 < (t ++ p.da.data.toList).length then (⟨(p.ct + 1) % 16384,none⟩,⟨false,[],mis s p,true⟩)
      else if p.fl=2 then (⟨(p.ct + 1) % 16384,none⟩,⟨true,t ++ p.da.data.toList,mis s p,brk s p⟩)
      else (⟨(p.ct + 1) % 16384,some (t ++ p.da.data.toList)⟩,⟨false,[],mis s p,brk s p⟩)
section
variable {cmd:Bool} {ap ct:Int} {d:List UInt8} {most k:Nat}
end
end Pk
end Go.Proofs.YtchfkncbemjepaaGreat
