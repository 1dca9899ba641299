/- PkJoin -/
import Derived.Test.YtchfkncbemjepaaGreatGalRow
import Derived.Test.YtchfkncbemjepaaGreatTyKit
set_option linter.unusedVariables false
set_option maxRecDepth 100000
set_option maxHeartbeats 2000000
/- Mathematics of layer 9: packets and their encodings. -/
namespace Go.Proofs.YtchfkncbemjepaaGreat

structure Pkt where
  cmd:Bool
  ap:Int
  fl:Int
  ct:Int
  da:ByteArray
namespace Pk
def Ok (p:Pkt):Prop:=(0<=p.ap/\p.ap<=2047)/\(0<=p.fl/\p.fl<=3)/\(0<=p.ct/\p.ct<=16383)/\1<=p.da.size/\p.da.size<=1024
instance (p:Pkt):Decidable (Ok p):=by unfold Ok; infer_instance
def nb (l:List UInt8) (i:Nat):Nat:=(Gal.co l i).toNat
theorem nb_get (l:List UInt8) (i:Nat):nb l i=(l.getD i 0).toNat:=Gal.co_nat l i
theorem nb_lt (l:List UInt8) (i:Nat):nb l i < 256:=(Gal.co l i).isLt
theorem nb_take {l:List UInt8} {k i:Nat} (h:i < k):nb (l.take k) i=nb l i:=by
  rw [nb_get,nb_get,List.getD_eq_getElem?_getD,List.getD_eq_getElem?_getD,List.getElem?_take_of_lt h]
theorem nb_app {l x:List UInt8} {i:Nat} (h:i < l.length):nb (l ++ x) i=nb l i:=by
  rw [nb_get,nb_get,List.getD_eq_getElem?_getD,List.getD_eq_getElem?_getD,List.getElem?_append_left h]
def hd (n:Nat):List UInt8:=[UInt8.ofNat (n / 256),UInt8.ofNat (n % 256)]
theorem hd_len (n:Nat):(hd n).length=2:=rfl
theorem hd_0 (n:Nat) (h:n < 65536):nb (hd n) 0=n / 256:=by
  rw [nb_get]
  show (UInt8.ofNat (n / 256)).toNat=_
  rw [UInt8.toNat_ofNat']
  omega
theorem hd_1 (n:Nat):nb (hd n) 1=n % 256:=by
  rw [nb_get]
  show (UInt8.ofNat (n % 256)).toNat=_
  rw [UInt8.toNat_ofNat']
  omega
def six (a b c:Nat) (d:List UInt8):List UInt8:=hd a ++ (hd b ++ (hd c ++ d))
theorem six_len (a b c:Nat) (d:List UInt8):(six a b c d).length=6 + d.length:=by
  simp only [six,List.length_append,hd_len]
  omega
theorem six_at (a b c:Nat) (d:List UInt8) (ha:a < 65536) (hb:b < 65536) (hc:c < 65536):nb (six a b c d) 0=a / 256/\nb (six a b c d) 1=a % 256/\nb (six a b c d) 2=b / 256/\nb (six a b c d) 3=b % 256/\nb (six a b c d) 4=c / 256/\nb (six a b c d) 5=c % 256:=by
  have h:=hd_0 a ha
  have h1:=hd_1 a
  have h2:=hd_0 b hb
  have h3:=hd_1 b
  have h4:=hd_0 c hc
  have h5:=hd_1 c
  rw [nb_get] at h h1 h2 h3 h4 h5
  refine ⟨?_,?_,?_,?_,?_,?_⟩ <;> rw [nb_get]
  · exact h
  · exact h1
  · exact h2
  · exact h3
  · exact h4
  exact h5
theorem six_drop (a b c:Nat) (d:List UInt8):(six a b c d).drop 6=d:=rfl
def fst (p:Pkt):Nat:=p.ap.toNat + if p.cmd=true then 4096 else 0
def snd (p:Pkt):Nat:=p.fl.toNat * 16384 + p.ct.toNat
def enc (p:Pkt):List UInt8:=six (fst p) (snd p) (p.da.size - 1) p.da.data.toList
theorem fst_lt {p:Pkt} (h:Ok p):fst p < 8192:=by
  unfold fst
  have:=h.1
  split <;> omega
theorem snd_lt {p:Pkt} (h:Ok p):snd p < 65536:=by
  unfold snd
  have:=h.2.1
  have:=h.2.2.1
  omega
theorem da_len (p:Pkt):p.da.data.toList.length=p.da.size:=by
  rw [Array.length_toList]
  rfl
theorem enc_len (p:Pkt):(enc p).length=6 + p.da.size:=by
  unfold enc
  rw [six_len,da_len]
inductive Res where
  | ok (p:Pkt) (n:Nat)
  | none
  | form
def Bad (l:List UInt8):Prop:=(0 < l.length/\(32<=nb l 0\/nb l 0 / 8 % 2=1))\/(4 < l.length/\4<=nb l 4)
instance (l:List UInt8):Decidable (Bad l):=by unfold Bad; infer_instance
def len (l:List UInt8):Nat:=6 + nb l 4 * 256 + nb l 5 + 1
def thd (l:List UInt8):Nat:=nb l 2 * 256 + nb l 3
def pkt (l:List UInt8):Pkt:=⟨decide (16<=nb l 0),((nb l 0 % 8 * 256 + nb l 1:Nat):Int),((thd l / 16384:Nat):Int),((thd l % 16384:Nat):Int),⟨((l.take (len l)).drop 6).toArray⟩⟩
def take (l:List UInt8):Res:=if Bad l then .form else if l.length < 6 then .none else if l.length < len l then .none else .ok (pkt l) (len l)
theorem take_bad {l:List UInt8} (h:Bad l):take l=.form:=if_pos h
theorem take_few {l:List UInt8} (h:¬ Bad l) (h6:l.length < 6):take l=.none:=by
  unfold take
  rw [if_neg h,if_pos h6]
theorem take_short {l:List UInt8} (h:¬ Bad l) (h6:¬ l.length < 6) (hn:l.length < len l):take l=.none:=by
  unfold take
  rw [if_neg h,if_neg h6,if_pos hn]
theorem take_good {l:List UInt8} (h:¬ Bad l) (h6:¬ l.length < 6) (hn:¬ l.length < len l):take l=.ok (pkt l) (len l):=by
  unfold take
  rw [if_neg h,if_neg h6,if_neg hn]
theorem take_ok {l:List UInt8} {p:Pkt} {n:Nat} (h:take l=.ok p n):Ok p/\n<=l.length/\l.take n=enc p:=by
  unfold take at h
  by_cases b:Bad l
  · rw [if_pos b] at h
    cases h
  rw [if_neg b] at h
  by_cases c:l.length < 6
  · rw [if_pos c] at h
    cases h
  rw [if_neg c] at h
  by_cases d:l.length < len l
  · rw [if_pos d] at h
    cases h
  rw [if_neg d] at h
  cases h
  have b0:=nb_lt l 0
  have b1:=nb_lt l 1
  have b2:=nb_lt l 2
  have b3:=nb_lt l 3
  have b4:=nb_lt l 4
  have b5:=nb_lt l 5
  have bad:¬ (32<=nb l 0)/\¬ (nb l 0 / 8 % 2=1)/\¬ 4<=nb l 4:=by
    unfold Bad at b
    omega
  have dl:((l.take (len l)).drop 6).length=nb l 4 * 256 + nb l 5 + 1:=by
    rw [List.length_drop,List.length_take]
    unfold len at d ⊢
    omega
  have ds:(pkt l).da.size=nb l 4 * 256 + nb l 5 + 1:=by
    show (((l.take (len l)).drop 6).toArray).size=_
    rw [List.size_toArray,dl]
  refine ⟨⟨?_,?_,?_,by omega,by omega⟩,by omega,?_⟩
  · show 0<=((nb l 0 % 8 * 256 + nb l 1:Nat):Int)/\((nb l 0 % 8 * 256 + nb l 1:Nat):Int)<=2047
    omega
  · show 0<=((thd l / 16384:Nat):Int)/\((thd l / 16384:Nat):Int)<=3
    unfold thd
    omega
  · show 0<=((thd l % 16384:Nat):Int)/\((thd l % 16384:Nat):Int)<=16383
    unfold thd
    omega
  have f:fst (pkt l)=nb l 0 * 256 + nb l 1:=by
    show ((nb l 0 % 8 * 256 + nb l 1:Nat):Int).toNat + (if decide (16<=nb l 0)=true then 4096 else 0)=_
    rw [Int.toNat_natCast]
    by_cases g:16<=nb l 0
    · rw [decide_eq_true g,if_pos rfl]
      omega
    rw [decide_eq_false g,if_neg (by simp)]
    omega
  have s:snd (pkt l)=nb l 2 * 256 + nb l 3:=by
    show ((thd l / 16384:Nat):Int).toNat * 16384 + ((thd l % 16384:Nat):Int).toNat=_
    rw [Int.toNat_natCast,Int.toNat_natCast]
    unfold thd
    omega
  have t:(pkt l).da.size - 1=nb l 4 * 256 + nb l 5:=by omega
  have tl:(l.take (len l)).length=len l:=by rw [List.length_take]; omega
  unfold enc
  rw [f,s,t]
  have e:∀ i,i < 6->nb (l.take (len l)) i=nb (six (nb l 0 * 256 + nb l 1) (nb l 2 * 256 + nb l 3) (nb l 4 * 256 + nb l 5) (pkt l).da.data.toList) i:=fun i hi=>by
    obtain ⟨a0,a1,a2,a3,a4,a5⟩:=six_at (nb l 0 * 256 + nb l 1) (nb l 2 * 256 + nb l 3) (nb l 4 * 256 + nb l 5) (pkt l).da.data.toList (by omega) (by omega) (by omega)
    rw [nb_take (by unfold len; omega)]
    match i,hi with
    | 0,_=>rw [a0]; omega
    | 1,_=>rw [a1]; omega
    | 2,_=>rw [a2]; omega
    | 3,_=>rw [a3]; omega
    | 4,_=>rw [a4]; omega
    | 5,_=>rw [a5]; omega
  refine Gal.ext (by rw [six_len,da_len,ds,tl]; unfold len; omega) (fun i hi=>?_)
  rw [tl] at hi
  by_cases g:i < 6
  · have:=e i g
    unfold nb at this
    exact BitVec.eq_of_toNat_eq this
  have k:Gal.co (l.take (len l)) i=Gal.co ((l.take (len l)).drop 6) (i - 6):=by
    unfold Gal.co
    rw [List.getD_eq_getElem?_getD,List.getD_eq_getElem?_getD,List.getElem?_drop,show 6 + (i - 6)=i by omega]
  have k2:Gal.co (six (nb l 0 * 256 + nb l 1) (nb l 2 * 256 + nb l 3) (nb l 4 * 256 + nb l 5) (pkt l).da.data.toList) i=Gal.co (pkt l).da.data.toList (i - 6):=by
    unfold Gal.co
    have:=six_drop (nb l 0 * 256 + nb l 1) (nb l 2 * 256 + nb l 3) (nb l 4 * 256 + nb l 5) (pkt l).da.data.toList
    rw [<-this,List.getD_eq_getElem?_getD,List.getD_eq_getElem?_getD,List.getElem?_drop,show 6 + (i - 6)=i by omega]
    rfl
  rw [k,k2]
  rfl
end Pk
end Go.Proofs.YtchfkncbemjepaaGreat
/- Layer 9: the reference's Valid, two, Code and Put. -/
namespace Go.Proofs.YtchfkncbemjepaaGreat
open Go.RowKit

def pkVal (p:Pkt):Value:=.agg #[.bool p.cmd,.int .i64 p.ap,.int .i64 p.fl,.int .i64 p.ct,.string p.da]
def pkCel (p:Pkt):Nat->Value
  | 0=>.bool p.cmd
  | 1=>.int .i64 p.ap
  | 2=>.int .i64 p.fl
  | 3=>.int .i64 p.ct
  | _=>.string p.da
theorem pk_new (p:Pkt) (w:World):Cel (w.alloc (.cells #[.bool p.cmd,.int .i64 p.ap,.int .i64 p.fl,.int .i64 p.ct,.string p.da] 125)) w.heap.size 5 (pkCel p):=Cel.new w _ _ (fun j hj=>by
  match j,hj with
  | 0,_=>rfl
  | 1,_=>rfl
  | 2,_=>rfl
  | 3,_=>rfl
  | 4,_=>rfl)
def bs (l:List UInt8):ByteArray:=⟨l.toArray⟩
theorem bs_size (l:List UInt8):(bs l).size=l.length:=by
  show l.toArray.size=_
  exact List.size_toArray
theorem bs_app (a b:List UInt8):bs a ++ bs b=bs (a ++ b):=by
  apply ByteArray.ext
  simp [bs]
theorem bs_self (s:ByteArray):bs s.data.toList=s:=by
  apply ByteArray.ext
  simp [bs]
theorem own_new2 {w:World} {base n:Nat} {t:TypeId} (vs:List Value) (hn:vs.length=n) (hl:n<=maxLen) (hb:base<=w.heap.size):(w.alloc (.cells vs.toArray t)).ownsRow base t 1 (.slice (some ⟨w.heap.size,0,none⟩) n n) n vs:=
  ⟨by rw [hn,Nat.mul_one],.inr ⟨w.heap.size,n,vs.toArray,rfl,hb,heap_alloc_last w _,Nat.le_refl _,hl,by simp [hn],by simp [<-hn]⟩⟩
def tw (n j:Nat):BitVec 8:=BitVec.ofNat 8 (if j=0 then n / 256 else n % 256)
theorem tw_str (n:Nat):(⟨(Gal.coefs (tw n) 2).toArray⟩:ByteArray)=bs (Pk.hd n):=rfl
theorem tw_vals (n:Nat) (h:n < 65536):vals (tw n) 2=[.int .u8 (n / 256:Nat),.int .u8 (n % 256:Nat)]:=by
  unfold vals
  rw [show (List.range 2)=[0,1] from rfl]
  simp only [List.map_cons,List.map_nil]
  rw [show (tw n 0).toNat=n / 256 by unfold tw; rw [BitVec.toNat_ofNat]; simp; omega,show (tw n 1).toNat=n % 256 by unfold tw; rw [BitVec.toNat_ofNat]; simp]
theorem rtwo_any (n:Nat) (h:n < 65536) (w:World):Calls Tryz.prog 137 #[.int .i64 (n:Nat)] w fun e w'=>e=.returned (.string (bs (Pk.hd n)))/\Below w.heap.size w w':=by
  obtain ⟨q,hq⟩:∃ q,n / 256=q:=⟨_,rfl⟩
  obtain ⟨r,hr⟩:∃ r,n % 256=r:=⟨_,rfl⟩
  have q1:(n:Int) / 256=(q:Int):=by omega
  have q2:(n:Int).tdiv 256=(q:Int):=by rw [Int.tdiv_eq_ediv_of_nonneg (by omega)]; omega
  have r1:(n:Int) % 256=(r:Int):=by omega
  have r2:(n:Int).tmod 256=(r:Int):=by rw [Int.tmod_eq_emod_of_nonneg (by omega)]; omega
  have q3:IntKind.u8.wrap (q:Int)=(q:Int):=by rw [IntKind.wrap_u8]; omega
  have r3:IntKind.u8.wrap (r:Int)=(r:Int):=by rw [IntKind.wrap_u8]; omega
  have tv:=tw_vals n h
  rw [hq,hr] at tv
  obtain ⟨w1,hw1⟩:∃ w1,w.alloc (.cells #[.int .u8 (q:Nat),.int .u8 (r:Nat)] 5)=w1:=⟨_,rfl⟩
  have B:=Lib.hid (show Below w.heap.size w w1 from hw1 ▸ ba (Below.refl _ _) _)
  have O:w1.ownsRow w.heap.size 5 1 (.slice (some ⟨w.heap.size,0,none⟩) 2 2) 2 (vals (tw n) 2):=by
    rw [tv,<-hw1]
    exact own_new2 [.int .u8 (q:Nat),.int .u8 (r:Nat)] rfl (by unfold maxLen; omega) (Nat.le_refl _)
  have CV:=Lib.hid (own_back O)
  rw [tw_str] at CV
  have HW:=Lib.hid hw1
  clear hq hr O hw1 tv
  go_enter Tryz.func137,Tryz.ntmps137
  go_wp2_with (first | simp only [CV.out] | simp only [HW.out])
  go_ret
  exact ⟨rfl,B.out⟩
structure CdRegion (X n1 fl fm ct n2 D n3:Nat) (da S1 S2 S12 S3 S123 R:ByteArray) (A:Act) (w0:World) (s:Nat->Bool) (a:Act) (w:World):Prop where
  off:Off [10,11,12,13,14,15,16,17,18,19,20,21,22,23,24,25,26,27,28] a A
  before:Below w0.heap.size w0 w
  t0:s 0=true->a.eval (.tmp 10)=.int .i64 (n1:Nat)
  t1:s 1=true->a.eval (.tmp 11)=.string S1
  t2:s 2=true->a.eval (.tmp 12)=.pointer (some ⟨X,2,none⟩)
  t3:s 3=true->a.eval (.tmp 13)=.int .i64 (fl:Nat)
  t4:s 4=true->a.eval (.tmp 14)=.int .i64 (fm:Nat)
  t5:s 5=true->a.eval (.tmp 15)=.pointer (some ⟨X,3,none⟩)
  t6:s 6=true->a.eval (.tmp 16)=.int .i64 (ct:Nat)
  t7:s 7=true->a.eval (.tmp 17)=.int .i64 (n2:Nat)
  t8:s 8=true->a.eval (.tmp 18)=.string S2
  t9:s 9=true->a.eval (.tmp 19)=.string S12
  t10:s 10=true->a.eval (.tmp 20)=.pointer (some ⟨X,4,none⟩)
  t11:s 11=true->a.eval (.tmp 21)=.string da
  t12:s 12=true->a.eval (.tmp 22)=.int .i64 (D:Nat)
  t13:s 13=true->a.eval (.tmp 23)=.int .i64 (n3:Nat)
  t14:s 14=true->a.eval (.tmp 24)=.string S3
  t15:s 15=true->a.eval (.tmp 25)=.string S123
  t16:s 16=true->a.eval (.tmp 26)=.pointer (some ⟨X,4,none⟩)
  t17:s 17=true->a.eval (.tmp 27)=.string da
  t18:s 18=true->a.eval (.tmp 28)=.string R
theorem cdRegion {id:Nat} {l:List Oper} {A:Act} {w:World} {Q:Exit->Act->World->Prop} (X n1 fl fm ct n2 D n3:Nat) (da S1 S2 S12 S3 S123 R:ByteArray)
    (hfm:fl * 16384=fm) (hf3:fl<=3) (hct:ct<=16383) (hb:fm + ct=n2) (hD:da.size=D) (hc:n3 + 1=D) (hD9:D<=1024) (lX:X < w.heap.size)
    (hS1:∀ w,Calls Tryz.prog 137 #[.int .i64 (n1:Nat)] w (fun e w'=>e=.returned (.string S1)/\Below w.heap.size w w')) (hS2:∀ w,Calls Tryz.prog 137 #[.int .i64 (n2:Nat)] w (fun e w'=>e=.returned (.string S2)/\Below w.heap.size w w')) (hS3:∀ w,Calls Tryz.prog 137 #[.int .i64 (n3:Nat)] w (fun e w'=>e=.returned (.string S3)/\Below w.heap.size w w'))
    (z1:S1.size=2) (z2:S2.size=2) (z3:S3.size=2) (e12:S1 ++ S2=S12) (z12:S12.size=4) (e123:S12 ++ S3=S123) (z123:S123.size=6) (eR:S123 ++ da=R)
    (c2:w.cell? ⟨X,2,none⟩=some (.int .i64 (fl:Nat))) (c3:w.cell? ⟨X,3,none⟩=some (.int .i64 (ct:Nat))) (c4:w.cell? ⟨X,4,none⟩=some (.string da))
    (hB:tableH l.toArray 19 (fun i=>match i with | 0=>[] | 1=>[0] | 2=>[] | 3=>[2] | 4=>[3] | 5=>[] | 6=>[5] | 7=>[4,6] | 8=>[7] | 9=>[1,8] | 10=>[] | 11=>[10] | 12=>[11] | 13=>[12] | 14=>[13] | 15=>[9,14] | 16=>[] | 17=>[16] | 18=>[15,17] | _=>[]) (fun _=>[])=true)
    (h0:pick l 0=some (.move (.tmp 3),some 10))
    (h1:pick l 1=some (.call { callee:=.value (.func 137),args:=#[.tmp 10],argTypes:=#[3] },some 11))
    (h2:pick l 2=some (.fieldAddr 125 (.tmp 1) 2,some 12))
    (h3:pick l 3=some (.load 3 (.tmp 12),some 13))
    (h4:pick l 4=some (.binOp .mul 3 (.tmp 13) (.const (.int .i64 16384)) 3,some 14))
    (h5:pick l 5=some (.fieldAddr 125 (.tmp 1) 3,some 15))
    (h6:pick l 6=some (.load 3 (.tmp 15),some 16))
    (h7:pick l 7=some (.binOp .add 3 (.tmp 14) (.tmp 16) 3,some 17))
    (h8:pick l 8=some (.call { callee:=.value (.func 137),args:=#[.tmp 17],argTypes:=#[3] },some 18))
    (h9:pick l 9=some (.binOp .add 9 (.tmp 11) (.tmp 18) 9,some 19))
    (h10:pick l 10=some (.fieldAddr 125 (.tmp 1) 4,some 20))
    (h11:pick l 11=some (.load 9 (.tmp 20),some 21))
    (h12:pick l 12=some (.call { callee:=.builtin .len,args:=#[.tmp 21],argTypes:=#[9] },some 22))
    (h13:pick l 13=some (.binOp .sub 3 (.tmp 22) (.const (.int .i64 1)) 3,some 23))
    (h14:pick l 14=some (.call { callee:=.value (.func 137),args:=#[.tmp 23],argTypes:=#[3] },some 24))
    (h15:pick l 15=some (.binOp .add 9 (.tmp 19) (.tmp 24) 9,some 25))
    (h16:pick l 16=some (.fieldAddr 125 (.tmp 1) 4,some 26))
    (h17:pick l 17=some (.load 9 (.tmp 26),some 27))
    (h18:pick l 18=some (.binOp .add 9 (.tmp 25) (.tmp 27) 9,some 28))
    (hs:A.tmps.size=29)
    (x1:A.eval (.tmp 1)=.pointer (some ⟨X,0,none⟩))
    (x3:A.eval (.tmp 3)=.int .i64 (n1:Nat))
    (h:∀ w1,Below w.heap.size w w1->wpList Tryz.prog l.toArray Q (l.drop 19) (((((((((((((((((((A.put (some 10) (.int .i64 (n1:Nat))).put (some 11) (.string S1)).put (some 12) (.pointer (some ⟨X,2,none⟩))).put (some 13) (.int .i64 (fl:Nat))).put (some 14) (.int .i64 (fm:Nat))).put (some 15) (.pointer (some ⟨X,3,none⟩))).put (some 16) (.int .i64 (ct:Nat))).put (some 17) (.int .i64 (n2:Nat))).put (some 18) (.string S2)).put (some 19) (.string S12)).put (some 20) (.pointer (some ⟨X,4,none⟩))).put (some 21) (.string da)).put (some 22) (.int .i64 (D:Nat))).put (some 23) (.int .i64 (n3:Nat))).put (some 24) (.string S3)).put (some 25) (.string S123)).put (some 26) (.pointer (some ⟨X,4,none⟩))).put (some 27) (.string da)).put (some 28) (.string R)) w1):
    (Code.region id l.toArray true).wp Tryz.prog Q A w:=by
  refine wp_region_head (by kernel_rfl) _ _ _ hB (CdRegion X n1 fl fm ct n2 D n3 da S1 S2 S12 S3 S123 R A w) ⟨Off.refl _ _,(Below.refl _ _).drew,by simp,by simp,by simp,by simp,by simp,by simp,by simp,by simp,by simp,by simp,by simp,by simp,by simp,by simp,by simp,by simp,by simp,by simp,by simp⟩ ?_ ?_
  · intro s a w' S i' o il ho hsi hT K hK
    have sz:a.tmps.size=29:=by rw [S.off.2.1]; exact hs
    have y1:a.eval (.tmp 1)=.pointer (some ⟨X,0,none⟩):=by rw [S.off.eval (by decide)]; exact x1
    have y3:a.eval (.tmp 3)=.int .i64 (n1:Nat):=by rw [S.off.eval (by decide)]; exact x3
    match i',il,ho,hsi,hT with
    | 0,_,ho,hsi,hT=>
      obtain ⟨e1,e2⟩:=pick_of h0 ho
      refine step_val (v:=.int .i64 (n1:Nat)) (by simp only [execOp,e1,y3]; go_simp) (hK _ _ ?_)
      rw [e2]
      exact ⟨ofp S.off,S.before,ev_ (by omega),kp S.t1,kp S.t2,kp S.t3,kp S.t4,kp S.t5,kp S.t6,kp S.t7,kp S.t8,kp S.t9,kp S.t10,kp S.t11,kp S.t12,kp S.t13,kp S.t14,kp S.t15,kp S.t16,kp S.t17,kp S.t18⟩
    | 1,_,ho,hsi,hT=>
      obtain ⟨e1,e2⟩:=pick_of h1 ho
      have D0:s 0=true:=list_pos hT (d:=0) (by decide)
      have BW:=S.before
      refine step_call 137 (fun args w=>by go_simp) _ _ e1 #[.int .i64 (n1:Nat)] (by simp only [List.map_toArray,List.map_cons,List.map_nil,S.t0 D0]) ((hS1 w').mono ?_)
      rintro e w2 ⟨rfl,BB⟩
      refine ⟨_,rfl,hK _ _ ?_⟩
      rw [e2]
      exact ⟨ofp S.off,bt BW BB,kp S.t0,ev_ (by omega),kp S.t2,kp S.t3,kp S.t4,kp S.t5,kp S.t6,kp S.t7,kp S.t8,kp S.t9,kp S.t10,kp S.t11,kp S.t12,kp S.t13,kp S.t14,kp S.t15,kp S.t16,kp S.t17,kp S.t18⟩
    | 2,_,ho,hsi,hT=>
      obtain ⟨e1,e2⟩:=pick_of h2 ho
      refine step_val (v:=.pointer (some ⟨X,2,none⟩)) (by simp only [execOp,e1,y1]; go_simp) (hK _ _ ?_)
      rw [e2]
      exact ⟨ofp S.off,S.before,kp S.t0,kp S.t1,ev_ (by omega),kp S.t3,kp S.t4,kp S.t5,kp S.t6,kp S.t7,kp S.t8,kp S.t9,kp S.t10,kp S.t11,kp S.t12,kp S.t13,kp S.t14,kp S.t15,kp S.t16,kp S.t17,kp S.t18⟩
    | 3,_,ho,hsi,hT=>
      obtain ⟨e1,e2⟩:=pick_of h3 ho
      have D2:s 2=true:=list_pos hT (d:=2) (by decide)
      have BW:=S.before
      have cl:=(BW.cell (p:=⟨X,2,none⟩) lX).trans c2
      refine step_val (v:=.int .i64 (fl:Nat)) (by simp only [execOp,e1,S.t2 D2]; go_simp) (hK _ _ ?_)
      rw [e2]
      exact ⟨ofp S.off,S.before,kp S.t0,kp S.t1,kp S.t2,ev_ (by omega),kp S.t4,kp S.t5,kp S.t6,kp S.t7,kp S.t8,kp S.t9,kp S.t10,kp S.t11,kp S.t12,kp S.t13,kp S.t14,kp S.t15,kp S.t16,kp S.t17,kp S.t18⟩
    | 4,_,ho,hsi,hT=>
      obtain ⟨e1,e2⟩:=pick_of h4 ho
      have D3:s 3=true:=list_pos hT (d:=3) (by decide)
      refine step_val (v:=.int .i64 (fm:Nat)) (by simp only [execOp,e1,S.t3 D3]; go_simp; rw [IntKind.wrap_i64]; omega) (hK _ _ ?_)
      rw [e2]
      exact ⟨ofp S.off,S.before,kp S.t0,kp S.t1,kp S.t2,kp S.t3,ev_ (by omega),kp S.t5,kp S.t6,kp S.t7,kp S.t8,kp S.t9,kp S.t10,kp S.t11,kp S.t12,kp S.t13,kp S.t14,kp S.t15,kp S.t16,kp S.t17,kp S.t18⟩
    | 5,_,ho,hsi,hT=>
      obtain ⟨e1,e2⟩:=pick_of h5 ho
      refine step_val (v:=.pointer (some ⟨X,3,none⟩)) (by simp only [execOp,e1,y1]; go_simp) (hK _ _ ?_)
      rw [e2]
      exact ⟨ofp S.off,S.before,kp S.t0,kp S.t1,kp S.t2,kp S.t3,kp S.t4,ev_ (by omega),kp S.t6,kp S.t7,kp S.t8,kp S.t9,kp S.t10,kp S.t11,kp S.t12,kp S.t13,kp S.t14,kp S.t15,kp S.t16,kp S.t17,kp S.t18⟩
    | 6,_,ho,hsi,hT=>
      obtain ⟨e1,e2⟩:=pick_of h6 ho
      have D5:s 5=true:=list_pos hT (d:=5) (by decide)
      have BW:=S.before
      have cl:=(BW.cell (p:=⟨X,3,none⟩) lX).trans c3
      refine step_val (v:=.int .i64 (ct:Nat)) (by simp only [execOp,e1,S.t5 D5]; go_simp) (hK _ _ ?_)
      rw [e2]
      exact ⟨ofp S.off,S.before,kp S.t0,kp S.t1,kp S.t2,kp S.t3,kp S.t4,kp S.t5,ev_ (by omega),kp S.t7,kp S.t8,kp S.t9,kp S.t10,kp S.t11,kp S.t12,kp S.t13,kp S.t14,kp S.t15,kp S.t16,kp S.t17,kp S.t18⟩
    | 7,_,ho,hsi,hT=>
      obtain ⟨e1,e2⟩:=pick_of h7 ho
      have D4:s 4=true:=list_pos hT (d:=4) (by decide)
      have D6:s 6=true:=list_pos hT (d:=6) (by decide)
      refine step_val (v:=.int .i64 (n2:Nat)) (by simp only [execOp,e1,S.t4 D4,S.t6 D6]; go_simp; rw [IntKind.wrap_i64]; omega) (hK _ _ ?_)
      rw [e2]
      exact ⟨ofp S.off,S.before,kp S.t0,kp S.t1,kp S.t2,kp S.t3,kp S.t4,kp S.t5,kp S.t6,ev_ (by omega),kp S.t8,kp S.t9,kp S.t10,kp S.t11,kp S.t12,kp S.t13,kp S.t14,kp S.t15,kp S.t16,kp S.t17,kp S.t18⟩
    | 8,_,ho,hsi,hT=>
      obtain ⟨e1,e2⟩:=pick_of h8 ho
      have D7:s 7=true:=list_pos hT (d:=7) (by decide)
      have BW:=S.before
      refine step_call 137 (fun args w=>by go_simp) _ _ e1 #[.int .i64 (n2:Nat)] (by simp only [List.map_toArray,List.map_cons,List.map_nil,S.t7 D7]) ((hS2 w').mono ?_)
      rintro e w2 ⟨rfl,BB⟩
      refine ⟨_,rfl,hK _ _ ?_⟩
      rw [e2]
      exact ⟨ofp S.off,bt BW BB,kp S.t0,kp S.t1,kp S.t2,kp S.t3,kp S.t4,kp S.t5,kp S.t6,kp S.t7,ev_ (by omega),kp S.t9,kp S.t10,kp S.t11,kp S.t12,kp S.t13,kp S.t14,kp S.t15,kp S.t16,kp S.t17,kp S.t18⟩
    | 9,_,ho,hsi,hT=>
      obtain ⟨e1,e2⟩:=pick_of h9 ho
      have D1:s 1=true:=list_pos hT (d:=1) (by decide)
      have D8:s 8=true:=list_pos hT (d:=8) (by decide)
      refine step_val (v:=.string S12) (by simp only [execOp,e1,S.t1 D1,S.t8 D8]; go_simp) (hK _ _ ?_)
      rw [e2]
      exact ⟨ofp S.off,S.before,kp S.t0,kp S.t1,kp S.t2,kp S.t3,kp S.t4,kp S.t5,kp S.t6,kp S.t7,kp S.t8,ev_ (by omega),kp S.t10,kp S.t11,kp S.t12,kp S.t13,kp S.t14,kp S.t15,kp S.t16,kp S.t17,kp S.t18⟩
    | 10,_,ho,hsi,hT=>
      obtain ⟨e1,e2⟩:=pick_of h10 ho
      refine step_val (v:=.pointer (some ⟨X,4,none⟩)) (by simp only [execOp,e1,y1]; go_simp) (hK _ _ ?_)
      rw [e2]
      exact ⟨ofp S.off,S.before,kp S.t0,kp S.t1,kp S.t2,kp S.t3,kp S.t4,kp S.t5,kp S.t6,kp S.t7,kp S.t8,kp S.t9,ev_ (by omega),kp S.t11,kp S.t12,kp S.t13,kp S.t14,kp S.t15,kp S.t16,kp S.t17,kp S.t18⟩
    | 11,_,ho,hsi,hT=>
      obtain ⟨e1,e2⟩:=pick_of h11 ho
      have D10:s 10=true:=list_pos hT (d:=10) (by decide)
      have BW:=S.before
      have cl:=(BW.cell (p:=⟨X,4,none⟩) lX).trans c4
      refine step_val (v:=.string da) (by simp only [execOp,e1,S.t10 D10]; go_simp) (hK _ _ ?_)
      rw [e2]
      exact ⟨ofp S.off,S.before,kp S.t0,kp S.t1,kp S.t2,kp S.t3,kp S.t4,kp S.t5,kp S.t6,kp S.t7,kp S.t8,kp S.t9,kp S.t10,ev_ (by omega),kp S.t12,kp S.t13,kp S.t14,kp S.t15,kp S.t16,kp S.t17,kp S.t18⟩
    | 12,_,ho,hsi,hT=>
      obtain ⟨e1,e2⟩:=pick_of h12 ho
      have D11:s 11=true:=list_pos hT (d:=11) (by decide)
      have q21:a.tmps[21]'(by omega)=.string da:=by have:=S.t11 D11; simpa [Act.eval,sz] using this
      refine step_val (v:=.int .i64 (D:Nat)) (by simp only [execOp,e1]; go_simp; try rw [hD]) (hK _ _ ?_)
      rw [e2]
      exact ⟨ofp S.off,S.before,kp S.t0,kp S.t1,kp S.t2,kp S.t3,kp S.t4,kp S.t5,kp S.t6,kp S.t7,kp S.t8,kp S.t9,kp S.t10,kp S.t11,ev_ (by omega),kp S.t13,kp S.t14,kp S.t15,kp S.t16,kp S.t17,kp S.t18⟩
    | 13,_,ho,hsi,hT=>
      obtain ⟨e1,e2⟩:=pick_of h13 ho
      have D12:s 12=true:=list_pos hT (d:=12) (by decide)
      refine step_val (v:=.int .i64 (n3:Nat)) (by simp only [execOp,e1,S.t12 D12]; go_simp; rw [IntKind.wrap_i64]; omega) (hK _ _ ?_)
      rw [e2]
      exact ⟨ofp S.off,S.before,kp S.t0,kp S.t1,kp S.t2,kp S.t3,kp S.t4,kp S.t5,kp S.t6,kp S.t7,kp S.t8,kp S.t9,kp S.t10,kp S.t11,kp S.t12,ev_ (by omega),kp S.t14,kp S.t15,kp S.t16,kp S.t17,kp S.t18⟩
    | 14,_,ho,hsi,hT=>
      obtain ⟨e1,e2⟩:=pick_of h14 ho
      have D13:s 13=true:=list_pos hT (d:=13) (by decide)
      have BW:=S.before
      refine step_call 137 (fun args w=>by go_simp) _ _ e1 #[.int .i64 (n3:Nat)] (by simp only [List.map_toArray,List.map_cons,List.map_nil,S.t13 D13]) ((hS3 w').mono ?_)
      rintro e w2 ⟨rfl,BB⟩
      refine ⟨_,rfl,hK _ _ ?_⟩
      rw [e2]
      exact ⟨ofp S.off,bt BW BB,kp S.t0,kp S.t1,kp S.t2,kp S.t3,kp S.t4,kp S.t5,kp S.t6,kp S.t7,kp S.t8,kp S.t9,kp S.t10,kp S.t11,kp S.t12,kp S.t13,ev_ (by omega),kp S.t15,kp S.t16,kp S.t17,kp S.t18⟩
    | 15,_,ho,hsi,hT=>
      obtain ⟨e1,e2⟩:=pick_of h15 ho
      have D9:s 9=true:=list_pos hT (d:=9) (by decide)
      have D14:s 14=true:=list_pos hT (d:=14) (by decide)
      refine step_val (v:=.string S123) (by simp only [execOp,e1,S.t9 D9,S.t14 D14]; go_simp) (hK _ _ ?_)
      rw [e2]
      exact ⟨ofp S.off,S.before,kp S.t0,kp S.t1,kp S.t2,kp S.t3,kp S.t4,kp S.t5,kp S.t6,kp S.t7,kp S.t8,kp S.t9,kp S.t10,kp S.t11,kp S.t12,kp S.t13,kp S.t14,ev_ (by omega),kp S.t16,kp S.t17,kp S.t18⟩
    | 16,_,ho,hsi,hT=>
      obtain ⟨e1,e2⟩:=pick_of h16 ho
      refine step_val (v:=.pointer (some ⟨X,4,none⟩)) (by simp only [execOp,e1,y1]; go_simp) (hK _ _ ?_)
      rw [e2]
      exact ⟨ofp S.off,S.before,kp S.t0,kp S.t1,kp S.t2,kp S.t3,kp S.t4,kp S.t5,kp S.t6,kp S.t7,kp S.t8,kp S.t9,kp S.t10,kp S.t11,kp S.t12,kp S.t13,kp S.t14,kp S.t15,ev_ (by omega),kp S.t17,kp S.t18⟩
    | 17,_,ho,hsi,hT=>
      obtain ⟨e1,e2⟩:=pick_of h17 ho
      have D16:s 16=true:=list_pos hT (d:=16) (by decide)
      have BW:=S.before
      have cl:=(BW.cell (p:=⟨X,4,none⟩) lX).trans c4
      refine step_val (v:=.string da) (by simp only [execOp,e1,S.t16 D16]; go_simp) (hK _ _ ?_)
      rw [e2]
      exact ⟨ofp S.off,S.before,kp S.t0,kp S.t1,kp S.t2,kp S.t3,kp S.t4,kp S.t5,kp S.t6,kp S.t7,kp S.t8,kp S.t9,kp S.t10,kp S.t11,kp S.t12,kp S.t13,kp S.t14,kp S.t15,kp S.t16,ev_ (by omega),kp S.t18⟩
    | 18,_,ho,hsi,hT=>
      obtain ⟨e1,e2⟩:=pick_of h18 ho
      have D15:s 15=true:=list_pos hT (d:=15) (by decide)
      have D17:s 17=true:=list_pos hT (d:=17) (by decide)
      refine step_val (v:=.string R) (by simp only [execOp,e1,S.t15 D15,S.t17 D17]; go_simp; omega) (hK _ _ ?_)
      rw [e2]
      exact ⟨ofp S.off,S.before,kp S.t0,kp S.t1,kp S.t2,kp S.t3,kp S.t4,kp S.t5,kp S.t6,kp S.t7,kp S.t8,kp S.t9,kp S.t10,kp S.t11,kp S.t12,kp S.t13,kp S.t14,kp S.t15,kp S.t16,kp S.t17,ev_ (by omega)⟩
    | _ + 19,il,_,_,_=>exact absurd il (by omega)
  intro s a w' S hall
  have a0:=hall 0 (by omega)
  have a1:=hall 1 (by omega)
  have a2:=hall 2 (by omega)
  have a3:=hall 3 (by omega)
  have a4:=hall 4 (by omega)
  have a5:=hall 5 (by omega)
  have a6:=hall 6 (by omega)
  have a7:=hall 7 (by omega)
  have a8:=hall 8 (by omega)
  have a9:=hall 9 (by omega)
  have a10:=hall 10 (by omega)
  have a11:=hall 11 (by omega)
  have a12:=hall 12 (by omega)
  have a13:=hall 13 (by omega)
  have a14:=hall 14 (by omega)
  have a15:=hall 15 (by omega)
  have a16:=hall 16 (by omega)
  have a17:=hall 17 (by omega)
  have a18:=hall 18 (by omega)
  have e:=off_norm _ (by intro d hd; simp at hd; omega) S.off
  simp only [List.foldl,S.t0 a0,S.t1 a1,S.t2 a2,S.t3 a3,S.t4 a4,S.t5 a5,S.t6 a6,S.t7 a7,S.t8 a8,S.t9 a9,S.t10 a10,S.t11 a11,S.t12 a12,S.t13 a13,S.t14 a14,S.t15 a15,S.t16 a16,S.t17 a17,S.t18 a18] at e
  rw [e]
  exact h _ S.before
end Go.Proofs.YtchfkncbemjepaaGreat
/- Layer 9: the reference's Code and Put. -/
namespace Go.Proofs.YtchfkncbemjepaaGreat
open Go.RowKit

theorem enc_str (p:Pkt):((bs (Pk.hd (Pk.fst p)) ++ bs (Pk.hd (Pk.snd p))) ++ bs (Pk.hd (p.da.size - 1))) ++ p.da=bs (Pk.enc p):=by
  conv=>lhs; rhs; rw [<-bs_self p.da]
  rw [bs_app,bs_app,bs_app]
  unfold Pk.enc Pk.six
  rw [List.append_assoc,List.append_assoc]
theorem hd_size (n:Nat):(bs (Pk.hd n)).size=2:=by rw [bs_size,Pk.hd_len]
theorem rcode_any (p:Pkt) (h:Pk.Ok p) (w:World):Calls Tryz.prog 116 #[pkVal p] w fun e w'=>e=.returned (.string (bs (Pk.enc p)))/\Below w.heap.size w w':=by
  have C:=pk_new p w
  have B:=Lib.hid (ba (Below.refl w.heap.size w) (.cells #[.bool p.cmd,.int .i64 p.ap,.int .i64 p.fl,.int .i64 p.ct,.string p.da] 125))
  have f1:=Pk.fst_lt h
  have s1:=Pk.snd_lt h
  have ES:=enc_str p
  obtain ⟨cmd,ap,fl,ct,da⟩:=p
  obtain ⟨⟨a0,a1⟩,⟨b0,b1⟩,⟨d0,d1⟩,g0,g1⟩:=h
  simp only at a0 a1 b0 b1 d0 d1 g0 g1 ES
  unfold pkVal
  simp only
  obtain ⟨A,rfl⟩:∃ A:Nat,ap=(A:Int):=⟨ap.toNat,by omega⟩
  obtain ⟨F,rfl⟩:∃ F:Nat,fl=(F:Int):=⟨fl.toNat,by omega⟩
  obtain ⟨T,rfl⟩:∃ T:Nat,ct=(T:Int):=⟨ct.toNat,by omega⟩
  obtain ⟨w1,hw1⟩:∃ w1,w.alloc (.cells #[.bool cmd,.int .i64 (A:Nat),.int .i64 (F:Nat),.int .i64 (T:Nat),.string da] 125)=w1:=⟨_,rfl⟩
  obtain ⟨X,hX⟩:∃ X,w.heap.size=X:=⟨_,rfl⟩
  simp only at C B
  rw [hw1,hX] at C
  have c0:w1.cell? ⟨X,0,none⟩=some (.bool cmd):=C.cell (j:=0) (by omega)
  have c1:w1.cell? ⟨X,1,none⟩=some (.int .i64 (A:Nat)):=C.cell (j:=1) (by omega)
  have c2:w1.cell? ⟨X,2,none⟩=some (.int .i64 (F:Nat)):=C.cell (j:=2) (by omega)
  have c3:w1.cell? ⟨X,3,none⟩=some (.int .i64 (T:Nat)):=C.cell (j:=3) (by omega)
  have c4:w1.cell? ⟨X,4,none⟩=some (.string da):=C.cell (j:=4) (by omega)
  rw [hw1] at B
  have lX:=C.lt
  have HW:=Lib.hid hw1
  have HX:=Lib.hid hX
  clear C hw1
  obtain ⟨D,hD⟩:∃ D,da.size=D:=⟨_,rfl⟩
  obtain ⟨fm,hfm⟩:∃ x,F * 16384=x:=⟨_,rfl⟩
  obtain ⟨n1,hn1⟩:∃ n1,A + (if cmd=true then 4096 else 0)=n1:=⟨_,rfl⟩
  obtain ⟨n2,hn2⟩:∃ n2,fm + T=n2:=⟨_,rfl⟩
  obtain ⟨n3,hn3⟩:∃ n3,n3 + 1=D:=⟨D - 1,by omega⟩
  have e1:Pk.fst ⟨cmd,(A:Int),(F:Int),(T:Int),da⟩=n1:=by rw [<-hn1]; unfold Pk.fst; simp
  have e2:Pk.snd ⟨cmd,(A:Int),(F:Int),(T:Int),da⟩=n2:=by rw [<-hn2,<-hfm]; unfold Pk.snd; simp
  rw [e1,e2,hD,show D - 1=n3 by omega] at ES
  rw [e1] at f1
  rw [e2] at s1
  have T1:=Lib.hid (fun w=>rtwo_any n1 (by omega) w)
  have T2:=Lib.hid (fun w=>rtwo_any n2 (by omega) w)
  have T3:=Lib.hid (fun w=>rtwo_any n3 (by omega) w)
  have z1:=Lib.hid (hd_size n1)
  have z2:=Lib.hid (hd_size n2)
  have z3:=Lib.hid (hd_size n3)
  obtain ⟨S1,hS1⟩:∃ S,bs (Pk.hd n1)=S:=⟨_,rfl⟩
  obtain ⟨S2,hS2⟩:∃ S,bs (Pk.hd n2)=S:=⟨_,rfl⟩
  obtain ⟨S3,hS3⟩:∃ S,bs (Pk.hd n3)=S:=⟨_,rfl⟩
  rw [hS1] at T1 z1
  rw [hS2] at T2 z2
  rw [hS3] at T3 z3
  rw [hS1,hS2,hS3] at ES
  obtain ⟨S12,hS12⟩:∃ S,S1 ++ S2=S:=⟨_,rfl⟩
  rw [hS12] at ES
  obtain ⟨S123,hS123⟩:∃ S,S12 ++ S3=S:=⟨_,rfl⟩
  rw [hS123] at ES
  have z12:=Lib.hid (show S12.size=4 by rw [<-hS12,ByteArray.size_append,z1.out,z2.out])
  have z123:=Lib.hid (show S123.size=6 by rw [<-hS123,ByteArray.size_append,z12.out,z3.out])
  obtain ⟨R,hR⟩:∃ R,bs (Pk.enc ⟨cmd,(A:Int),(F:Int),(T:Int),da⟩)=R:=⟨_,rfl⟩
  rw [hR] at ES ⊢
  have Q:=Lib.hid (And.intro hS12 (And.intro hS123 (And.intro ES (And.intro hfm (And.intro hn2 (And.intro hD hn3))))))
  have CC:=Lib.hid (And.intro c2 (And.intro c3 c4))
  clear hS1 hS2 hS3 hS12 hS123 hR ES hfm hn2 hn3 e1 e2 c2 c3 c4 s1 hD hX
  cases cmd with
  | true=>
    have k1:(A:Int) + 4096=(n1:Int):=by rw [if_pos rfl] at hn1; omega
    clear hn1
    go_enter Tryz.func116,Tryz.ntmps116
    go_upto_region 4 with (simp only [HW.out,HX.out])
    refine cdRegion X n1 F fm T n2 D n3 da S1 S2 S12 S3 S123 R Q.out.2.2.2.1 (by omega) (by omega) Q.out.2.2.2.2.1 Q.out.2.2.2.2.2.1 Q.out.2.2.2.2.2.2 (by have:=Q.out.2.2.2.2.2.1; omega) lX T1.out T2.out T3.out z1.out z2.out z3.out Q.out.1 z12.out Q.out.2.1 z123.out Q.out.2.2.1 CC.out.1 CC.out.2.1 CC.out.2.2 (by kernel_rfl) rfl rfl rfl rfl rfl rfl rfl rfl rfl rfl rfl rfl rfl rfl rfl rfl rfl rfl rfl rfl rfl rfl ?_
    intro w2 h2
    simp only [Act.put,List.setIfInBounds_toArray,List.set_cons_succ,List.set_cons_zero]
    have B2:=Lib.hid (bt B.out h2)
    clear h2
    go_wp2_with fail
    go_ret
    exact ⟨rfl,by have:=B2.out; rw [HX.out] at this; exact this⟩
  | false=>
    obtain rfl:A=n1:=by rw [if_neg (by simp)] at hn1; omega
    clear hn1
    go_enter Tryz.func116,Tryz.ntmps116
    go_upto_region 4 with (simp only [HW.out,HX.out])
    refine cdRegion X A F fm T n2 D n3 da S1 S2 S12 S3 S123 R Q.out.2.2.2.1 (by omega) (by omega) Q.out.2.2.2.2.1 Q.out.2.2.2.2.2.1 Q.out.2.2.2.2.2.2 (by have:=Q.out.2.2.2.2.2.1; omega) lX T1.out T2.out T3.out z1.out z2.out z3.out Q.out.1 z12.out Q.out.2.1 z123.out Q.out.2.2.1 CC.out.1 CC.out.2.1 CC.out.2.2 (by kernel_rfl) rfl rfl rfl rfl rfl rfl rfl rfl rfl rfl rfl rfl rfl rfl rfl rfl rfl rfl rfl rfl rfl rfl ?_
    intro w2 h2
    simp only [Act.put,List.setIfInBounds_toArray,List.set_cons_succ,List.set_cons_zero]
    have B2:=Lib.hid (bt B.out h2)
    clear h2
    go_wp2_with fail
    go_ret
    exact ⟨rfl,by have:=B2.out; rw [HX.out] at this; exact this⟩
end Go.Proofs.YtchfkncbemjepaaGreat
/- Layer 9: single operations, run. -/
namespace Go.Proofs.YtchfkncbemjepaaGreat
open Go.RowKit

section
variable {ev:Operand->Value} {w:World} {o:Oper}
theorem alloc_pk (h:o.op=.alloc 125):(execOp ev o).run Tryz.prog w=.ok (.value (.pointer (some ⟨w.heap.size,0,none⟩))) (w.alloc (.cells #[.bool false,.int .i64 0,.int .i64 0,.int .i64 0,.string ⟨#[]⟩] 125)):=by
  simp only [execOp,h]; go_simp
theorem alloc_int (h:o.op=.alloc 3):(execOp ev o).run Tryz.prog w=.ok (.value (.pointer (some ⟨w.heap.size,0,none⟩))) (w.alloc (.cells #[.int .i64 0] 3)):=by
  simp only [execOp,h]; go_simp
theorem store_bool {x y:Operand} {X i:Nat} {u:Value} {b:Bool} (h:o.op=.store 4 x y) (hx:ev x=.pointer (some ⟨X,i,none⟩)) (hy:ev y=.bool b) (hc:w.cell? ⟨X,i,none⟩=some u) (hf:w.frozen? ⟨X,i,none⟩=false):(execOp ev o).run Tryz.prog w=.ok .skip (w.setCell ⟨X,i,none⟩ (.bool b)):=by
  simp only [execOp,h,hx,hy]; go_simp
theorem store_int {x y:Operand} {X i:Nat} {u:Value} {b:Int} (h:o.op=.store 3 x y) (hx:ev x=.pointer (some ⟨X,i,none⟩)) (hy:ev y=.int .i64 b) (hc:w.cell? ⟨X,i,none⟩=some u) (hf:w.frozen? ⟨X,i,none⟩=false):(execOp ev o).run Tryz.prog w=.ok .skip (w.setCell ⟨X,i,none⟩ (.int .i64 b)):=by
  simp only [execOp,h,hx,hy]; go_simp
theorem store_str {x y:Operand} {X i:Nat} {u:Value} {b:ByteArray} (h:o.op=.store 9 x y) (hx:ev x=.pointer (some ⟨X,i,none⟩)) (hy:ev y=.string b) (hc:w.cell? ⟨X,i,none⟩=some u) (hf:w.frozen? ⟨X,i,none⟩=false):(execOp ev o).run Tryz.prog w=.ok .skip (w.setCell ⟨X,i,none⟩ (.string b)):=by
  simp only [execOp,h,hx,hy]; go_simp
theorem store_bytes {x y:Operand} {X i:Nat} {u:Value} {sa:Option Addr} {m sc:Nat} (h:o.op=.store 103 x y) (hx:ev x=.pointer (some ⟨X,i,none⟩)) (hy:ev y=.slice sa m sc) (hc:w.cell? ⟨X,i,none⟩=some u) (hf:w.frozen? ⟨X,i,none⟩=false):(execOp ev o).run Tryz.prog w=.ok .skip (w.setCell ⟨X,i,none⟩ (.slice sa m sc)):=by
  simp only [execOp,h,hx,hy]; go_simp
end
end Go.Proofs.YtchfkncbemjepaaGreat
/- Mathematics of layer 9: the packets of a message, and a joiner of one APID. -/
namespace Go.Proofs.YtchfkncbemjepaaGreat
namespace Pk
def cut (cmd:Bool) (ap ct:Int) (d:List UInt8) (most k:Nat):Pkt:=
  ⟨cmd,ap,(if k=0 then 1 else 0) + (if d.length<=(k + 1) * most then 2 else 0),(ct + k) % 16384,⟨((d.drop (k * most)).take most).toArray⟩⟩
structure St where
  next:Int
  op:Option (List UInt8)
structure Pc where
  whole:Bool
  msg:List UInt8
  missed:Int
  broken:Bool
def mis (s:Option St) (p:Pkt):Int:=match s with
  | none=>0
  | some x=>(p.ct - x.next + 16384) % 16384
def opn (s:Option St):Option (List UInt8):=match s with
  | none=>none
  | some x=>x.op
def brk (s:Option St) (p:Pkt):Bool:=(opn s).isSome && (decide (mis s p ≠ 0) || (decide (p.fl=1) || decide (p.fl=3)))
def opn1 (s:Option St) (p:Pkt):Option (List UInt8):=if brk s p=true then none else opn s
def feed (s:Option St) (p:Pkt):St × Pc:=
  if p.fl=3 then (⟨(p.ct + 1) % 16384,opn1 s p⟩,⟨true,p.da.data.toList,mis s p,brk s p⟩)
  else if p.fl=1 then (⟨(p.ct + 1) % 16384,some p.da.data.toList⟩,⟨false,[],mis s p,brk s p⟩)
  else match opn1 s p with
    | none=>(⟨(p.ct + 1) % 16384,none⟩,⟨false,[],mis s p,brk s p⟩)
    | some t=>if 16384 < (t ++ p.da.data.toList).length then (⟨(p.ct + 1) % 16384,none⟩,⟨false,[],mis s p,true⟩)
      else if p.fl=2 then (⟨(p.ct + 1) % 16384,none⟩,⟨true,t ++ p.da.data.toList,mis s p,brk s p⟩)
      else (⟨(p.ct + 1) % 16384,some (t ++ p.da.data.toList)⟩,⟨false,[],mis s p,brk s p⟩)
section
variable {cmd:Bool} {ap ct:Int} {d:List UInt8} {most k:Nat}
end
end Pk
end Go.Proofs.YtchfkncbemjepaaGreat
