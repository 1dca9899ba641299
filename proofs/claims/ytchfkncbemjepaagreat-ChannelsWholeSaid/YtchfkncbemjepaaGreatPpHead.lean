/- PpHead -/
import Derived.BigQuiet
import Derived.Deep.QuietTactic
import Derived.Test.YtchfkncbemjepaaGreatPkJoin
import Derived.Test.YtchfkncbemjepaaGreatF2e
set_option linter.unusedVariables false
set_option maxRecDepth 100000
set_option maxHeartbeats 4000000
/- Layer 9, the landed program: the fields of a header, as what Unpack reads and Pack writes. Plain mathematics. -/
namespace Go.Proofs.YtchfkncbemjepaaGreat

namespace Fld
theorem num_add (l:List UInt8) (p w:Nat):∀ v,num l p (w + v)=num l p w * 2 ^ v + num l (p + w) v
  | 0=>by simp [num]
  | v + 1=>by
    show 2 * num l p (w + v) + bit l (p + (w + v))=num l p w * 2 ^ (v + 1) + (2 * num l (p + w) v + bit l (p + w + v))
    rw [num_add l p w v,Nat.pow_succ,show p + (w + v)=p + w + v by omega,Nat.mul_add,<-Nat.mul_assoc,<-Nat.mul_assoc,Nat.mul_comm 2 (num l p w),Nat.mul_assoc (num l p w) 2,Nat.mul_comm 2 (2 ^ v),Nat.mul_assoc]
    omega
theorem num_byte (l:List UInt8) (j a:Nat):∀ w,a + w<=8->num l (8 * j + a) w=(l.getD j 0).toNat / 2 ^ (8 - a - w) % 2 ^ w
  | 0,_=>by simp [num,Nat.mod_one]
  | w + 1,h=>by
    have i:=num_byte l j a w (by omega)
    have b:=bit_of l j (a + w) (by omega)
    show 2 * num l (8 * j + a) w + bit l (8 * j + a + w)=_
    rw [i,Nat.add_assoc,b]
    obtain ⟨x,hx⟩:∃ x,(l.getD j 0).toNat=x:=⟨_,rfl⟩
    obtain ⟨m,hm⟩:∃ m,2 ^ (7 - (a + w))=m:=⟨_,rfl⟩
    have e1:2 ^ (8 - a - w)=m * 2:=by rw [<-hm,<-Nat.pow_succ]; congr 1; omega
    have e2:2 ^ (8 - a - (w + 1))=m:=by rw [<-hm,show 8 - a - (w + 1)=7 - (a + w) by omega]
    rw [hx,hm,e1,e2,<-Nat.div_div_eq_div_mul,Nat.pow_succ,Nat.mul_comm (2 ^ w) 2,Nat.mod_mul]
    omega
end Fld

namespace Pk
def wid:List Int:=[3,1,1,11,2,14,16]
def flds (l:List UInt8):List Nat:=[nb l 0 / 32,nb l 0 / 16 % 2,nb l 0 / 8 % 2,nb l 0 % 8 * 256 + nb l 1,nb l 2 / 64,nb l 2 % 64 * 256 + nb l 3,nb l 4 * 256 + nb l 5]
theorem nats_wid:Fld.nats wid=[3,1,1,11,2,14,16]:=rfl
theorem allW_wid:Fld.allW wid=true:=by decide
theorem tot_wid:Fld.tot (Fld.nats wid)=48:=rfl
theorem num_nb (l:List UInt8) (j a w:Nat) (h:a + w<=8):Fld.num l (8 * j + a) w=nb l j / 2 ^ (8 - a - w) % 2 ^ w:=by
  rw [Fld.num_byte l j a w h,nb_get]
theorem unp_six {l:List UInt8} (h:l.length=6):Fld.unpE wid l=0/\Fld.unpV wid l=flds l:=by
  have e:Fld.unpE wid l=0:=by
    unfold Fld.unpE
    rw [if_pos allW_wid,if_pos ⟨by rw [h,tot_wid],(Fld.restB_iff _ _).2 (fun i h1 h2=>by rw [tot_wid] at h1; omega)⟩]
  refine ⟨e,?_⟩
  unfold Fld.unpV
  rw [if_pos e,nats_wid]
  have b0:=nb_lt l 0
  have b1:=nb_lt l 1
  have b2:=nb_lt l 2
  have b3:=nb_lt l 3
  have b4:=nb_lt l 4
  have b5:=nb_lt l 5
  show [Fld.num l 0 3,Fld.num l 3 1,Fld.num l 4 1,Fld.num l 5 11,Fld.num l 16 2,Fld.num l 18 14,Fld.num l 32 16]=flds l
  have n0:=num_nb l 0 0 3 (by omega)
  have n1:=num_nb l 0 3 1 (by omega)
  have n2:=num_nb l 0 4 1 (by omega)
  have n3:=num_nb l 0 5 3 (by omega)
  have n4:=num_nb l 1 0 8 (by omega)
  have n5:=num_nb l 2 0 2 (by omega)
  have n6:=num_nb l 2 2 6 (by omega)
  have n7:=num_nb l 3 0 8 (by omega)
  have n8:=num_nb l 4 0 8 (by omega)
  have n9:=num_nb l 5 0 8 (by omega)
  have a1:=Fld.num_add l 5 3 8
  have a2:=Fld.num_add l 18 6 8
  have a3:=Fld.num_add l 32 8 8
  simp only [Nat.mul_zero,Nat.zero_add,Nat.add_zero,Nat.reduceMul,Nat.reduceAdd,Nat.reduceSub,Nat.reducePow,Nat.div_one] at n0 n1 n2 n3 n4 n5 n6 n7 n8 n9 a1 a2 a3
  unfold flds
  rw [a1,a2,a3,n0,n1,n2,n3,n4,n5,n6,n7,n8,n9]
  clear a1 a2 a3 n0 n1 n2 n3 n4 n5 n6 n7 n8 n9 e
  simp only [List.cons.injEq,and_true]
  refine ⟨?_,?_,?_,?_,?_,?_,?_⟩ <;> first | trivial | omega
theorem pack_six {l:List UInt8} (h:l.length=6):Fld.packE wid (flds l)=0/\Fld.packV wid (flds l)=l:=by
  have u:=unp_six h
  have p:=Fld.pack_unp wid l u.1
  rwa [u.2] at p
def hnum (p:Pkt):List Nat:=[0,if p.cmd=true then 1 else 0,0,p.ap.toNat,p.fl.toNat,p.ct.toNat,p.da.size - 1]
def hdr (p:Pkt):List UInt8:=six (fst p) (snd p) (p.da.size - 1) []
theorem hdr_len (p:Pkt):(hdr p).length=6:=rfl
theorem hdr_enc (p:Pkt):enc p=hdr p ++ p.da.data.toList:=rfl
theorem flds_hdr {p:Pkt} (h:Ok p):flds (hdr p)=hnum p:=by
  have f:=fst_lt h
  have s:=snd_lt h
  obtain ⟨⟨a0,a1⟩,⟨f0,f1⟩,⟨c0,c1⟩,d0,d1⟩:=h
  obtain ⟨h0,h1,h2,h3,h4,h5⟩:=six_at (fst p) (snd p) (p.da.size - 1) [] (by omega) s (by omega)
  unfold flds hdr
  rw [h0,h1,h2,h3,h4,h5]
  unfold hnum fst snd
  simp only [List.cons.injEq,and_true]
  split <;> omega
theorem pack_hdr {p:Pkt} (h:Ok p):Fld.packE wid (hnum p)=0/\Fld.packV wid (hnum p)=hdr p:=by
  have:=pack_six (hdr_len p)
  rwa [flds_hdr h] at this
def good (l:List UInt8):Bool:=decide (nb l 0 / 32=0) && (decide (nb l 0 / 8 % 2=0) && decide (nb l 4 * 256 + nb l 5 + 1<=1024))
def headed (l:List UInt8):Pkt:=⟨decide (nb l 0 / 16 % 2=1),((nb l 0 % 8 * 256 + nb l 1:Nat):Int),((nb l 2 / 64:Nat):Int),((nb l 2 % 64 * 256 + nb l 3:Nat):Int),⟨#[]⟩⟩
def pad (l:List UInt8):List UInt8:=l.take 6 ++ List.replicate (6 - l.length) 0
theorem pad_len (l:List UInt8):(pad l).length=6:=by
  unfold pad
  simp
  omega
theorem nb_out {l:List UInt8} {i:Nat} (h:l.length<=i):nb l i=0:=by
  rw [nb_get,List.getD_eq_getElem?_getD,List.getElem?_eq_none h]
  rfl
theorem pad_nb (l:List UInt8) (i:Nat) (h:i < 6):nb (pad l) i=nb l i:=by
  by_cases g:i < l.length
  · rw [nb_get,nb_get]
    unfold pad
    rw [List.getD_eq_getElem?_getD,List.getElem?_append_left (by simp; omega),List.getElem?_take,if_pos h,<-List.getD_eq_getElem?_getD]
  rw [nb_out (l:=l) (by omega),nb_get]
  unfold pad
  rw [List.getD_eq_getElem?_getD,List.getElem?_append_right (by simp; omega),List.getElem?_replicate]
  split <;> rfl
theorem pad_good (l:List UInt8):good (pad l)=true ↔ ¬ Bad l:=by
  have b0:=nb_lt l 0
  have b4:=nb_lt l 4
  have b5:=nb_lt l 5
  unfold good Bad
  rw [pad_nb l 0 (by omega),pad_nb l 4 (by omega),pad_nb l 5 (by omega)]
  simp only [Bool.and_eq_true,decide_eq_true_eq]
  by_cases g0:0 < l.length
  · by_cases g4:4 < l.length
    · omega
    have:=nb_out (l:=l) (i:=4) (by omega)
    have:=nb_out (l:=l) (i:=5) (by omega)
    omega
  have:=nb_out (l:=l) (i:=0) (by omega)
  have:=nb_out (l:=l) (i:=4) (by omega)
  have:=nb_out (l:=l) (i:=5) (by omega)
  omega
theorem headed_pkt {l:List UInt8} (h:¬ Bad l) (h6:6<=l.length):{ headed (pad l) with da:=⟨((l.take (len l)).drop 6).toArray⟩ }=pkt l:=by
  have b0:=nb_lt l 0
  have b2:=nb_lt l 2
  have b3:=nb_lt l 3
  have g:nb l 0 < 32/\nb l 0 / 8 % 2=0:=by unfold Bad at h; omega
  unfold headed pkt thd
  rw [pad_nb l 0 (by omega),pad_nb l 1 (by omega),pad_nb l 2 (by omega),pad_nb l 3 (by omega)]
  simp only [Pkt.mk.injEq,and_true]
  refine ⟨?_,trivial,?_,?_⟩
  · apply decide_eq_decide.2
    omega
  · omega
  omega
end Pk
end Go.Proofs.YtchfkncbemjepaaGreat
/- Layer 9, the landed program: the small functions, Valid, headWidths. -/
namespace Go.Proofs.YtchfkncbemjepaaGreat
open Go.RowKit Go.Shelf

theorem isAPID_any (n:Int) (w:World):Calls Tryz.prog 123 #[.int .i64 n] w fun e w'=>e=.returned (.bool (decide (0<=n/\n<=2047)))/\w=w':=by
  by_cases g0:(0:Int)<=n
  · have t0:decide ((0:Int)<=n)=true:=decide_eq_true g0
    by_cases g1:n<=2047
    · have t1:decide (n<=2047)=true:=decide_eq_true g1
      have E:=Lib.hid (show decide (0<=n/\n<=2047)=true from decide_eq_true ⟨g0,g1⟩)
      clear g0 g1
      rw [E.out]
      go_enter Tryz.func123,Tryz.ntmps123
      go_wp2_with fail
      go_ret
      exact ⟨rfl,rfl⟩
    have t1:decide (n<=2047)=false:=decide_eq_false g1
    have E:=Lib.hid (show decide (0<=n/\n<=2047)=false from decide_eq_false (fun h=>g1 h.2))
    clear g0 g1
    rw [E.out]
    go_enter Tryz.func123,Tryz.ntmps123
    go_wp2_with fail
    go_ret
    exact ⟨rfl,rfl⟩
  have t0:decide ((0:Int)<=n)=false:=decide_eq_false g0
  have E:=Lib.hid (show decide (0<=n/\n<=2047)=false from decide_eq_false (fun h=>g0 h.1))
  clear g0
  rw [E.out]
  go_enter Tryz.func123,Tryz.ntmps123
  go_wp2_with fail
  go_ret
  exact ⟨rfl,rfl⟩
theorem isFlags_any (n:Int) (w:World):Calls Tryz.prog 124 #[.int .i64 n] w fun e w'=>e=.returned (.bool (decide (0<=n/\n<=3)))/\w=w':=by
  by_cases g0:(0:Int)<=n
  · have t0:decide ((0:Int)<=n)=true:=decide_eq_true g0
    by_cases g1:n<=3
    · have t1:decide (n<=3)=true:=decide_eq_true g1
      have E:=Lib.hid (show decide (0<=n/\n<=3)=true from decide_eq_true ⟨g0,g1⟩)
      clear g0 g1
      rw [E.out]
      go_enter Tryz.func124,Tryz.ntmps124
      go_wp2_with fail
      go_ret
      exact ⟨rfl,rfl⟩
    have t1:decide (n<=3)=false:=decide_eq_false g1
    have E:=Lib.hid (show decide (0<=n/\n<=3)=false from decide_eq_false (fun h=>g1 h.2))
    clear g0 g1
    rw [E.out]
    go_enter Tryz.func124,Tryz.ntmps124
    go_wp2_with fail
    go_ret
    exact ⟨rfl,rfl⟩
  have t0:decide ((0:Int)<=n)=false:=decide_eq_false g0
  have E:=Lib.hid (show decide (0<=n/\n<=3)=false from decide_eq_false (fun h=>g0 h.1))
  clear g0
  rw [E.out]
  go_enter Tryz.func124,Tryz.ntmps124
  go_wp2_with fail
  go_ret
  exact ⟨rfl,rfl⟩
theorem isCount_any (n:Int) (w:World):Calls Tryz.prog 125 #[.int .i64 n] w fun e w'=>e=.returned (.bool (decide (0<=n/\n<=16383)))/\w=w':=by
  by_cases g0:(0:Int)<=n
  · have t0:decide ((0:Int)<=n)=true:=decide_eq_true g0
    by_cases g1:n<=16383
    · have t1:decide (n<=16383)=true:=decide_eq_true g1
      have E:=Lib.hid (show decide (0<=n/\n<=16383)=true from decide_eq_true ⟨g0,g1⟩)
      clear g0 g1
      rw [E.out]
      go_enter Tryz.func125,Tryz.ntmps125
      go_wp2_with fail
      go_ret
      exact ⟨rfl,rfl⟩
    have t1:decide (n<=16383)=false:=decide_eq_false g1
    have E:=Lib.hid (show decide (0<=n/\n<=16383)=false from decide_eq_false (fun h=>g1 h.2))
    clear g0 g1
    rw [E.out]
    go_enter Tryz.func125,Tryz.ntmps125
    go_wp2_with fail
    go_ret
    exact ⟨rfl,rfl⟩
  have t0:decide ((0:Int)<=n)=false:=decide_eq_false g0
  have E:=Lib.hid (show decide (0<=n/\n<=16383)=false from decide_eq_false (fun h=>g0 h.1))
  clear g0
  rw [E.out]
  go_enter Tryz.func125,Tryz.ntmps125
  go_wp2_with fail
  go_ret
  exact ⟨rfl,rfl⟩
theorem isSize_any (n:Int) (w:World):Calls Tryz.prog 103 #[.int .i64 n] w fun e w'=>e=.returned (.bool (decide (1<=n/\n<=1024)))/\w=w':=by
  by_cases g0:(1:Int)<=n
  · have t0:decide ((1:Int)<=n)=true:=decide_eq_true g0
    by_cases g1:n<=1024
    · have t1:decide (n<=1024)=true:=decide_eq_true g1
      have E:=Lib.hid (show decide (1<=n/\n<=1024)=true from decide_eq_true ⟨g0,g1⟩)
      clear g0 g1
      rw [E.out]
      go_enter Tryz.func103,Tryz.ntmps103
      go_wp2_with fail
      go_ret
      exact ⟨rfl,rfl⟩
    have t1:decide (n<=1024)=false:=decide_eq_false g1
    have E:=Lib.hid (show decide (1<=n/\n<=1024)=false from decide_eq_false (fun h=>g1 h.2))
    clear g0 g1
    rw [E.out]
    go_enter Tryz.func103,Tryz.ntmps103
    go_wp2_with fail
    go_ret
    exact ⟨rfl,rfl⟩
  have t0:decide ((1:Int)<=n)=false:=decide_eq_false g0
  have E:=Lib.hid (show decide (1<=n/\n<=1024)=false from decide_eq_false (fun h=>g0 h.1))
  clear g0
  rw [E.out]
  go_enter Tryz.func103,Tryz.ntmps103
  go_wp2_with fail
  go_ret
  exact ⟨rfl,rfl⟩
theorem pvalid_any (p:Pkt) (hs:p.da.size<=maxLen) (w:World):Calls Tryz.prog 98 #[pkVal p] w fun e w'=>e=.returned (.bool (decide (Pk.Ok p)))/\Below w.heap.size w w':=by
  unfold maxLen at hs
  have C:=pk_new p w
  have B:=Lib.hid (ba (Below.refl w.heap.size w) (.cells #[.bool p.cmd,.int .i64 p.ap,.int .i64 p.fl,.int .i64 p.ct,.string p.da] 125))
  have OKE:Hid (decide (Pk.Ok p)=decide ((0<=p.ap/\p.ap<=2047)/\(0<=p.fl/\p.fl<=3)/\(0<=p.ct/\p.ct<=16383)/\1<=p.da.size/\p.da.size<=1024)):=Lib.hid rfl
  obtain ⟨b,hb⟩:∃ b,decide (Pk.Ok p)=b:=⟨_,rfl⟩
  rw [hb] at OKE ⊢
  clear hb
  obtain ⟨cmd,ap,fl,ct,da⟩:=p
  unfold pkVal
  simp only at B OKE hs ⊢
  obtain ⟨D,hD⟩:∃ D,da.size=D:=⟨_,rfl⟩
  rw [hD] at OKE hs
  obtain ⟨w1,hw1⟩:∃ w1,w.alloc (.cells #[.bool cmd,.int .i64 ap,.int .i64 fl,.int .i64 ct,.string da] 125)=w1:=⟨_,rfl⟩
  obtain ⟨X,hX⟩:∃ X,w.heap.size=X:=⟨_,rfl⟩
  simp only at C
  rw [hw1,hX] at C
  have c0:w1.cell? ⟨X,0,none⟩=some (.bool cmd):=C.cell (j:=0) (by omega)
  have c1:w1.cell? ⟨X,1,none⟩=some (.int .i64 ap):=C.cell (j:=1) (by omega)
  have c2:w1.cell? ⟨X,2,none⟩=some (.int .i64 fl):=C.cell (j:=2) (by omega)
  have c3:w1.cell? ⟨X,3,none⟩=some (.int .i64 ct):=C.cell (j:=3) (by omega)
  have c4:w1.cell? ⟨X,4,none⟩=some (.string da):=C.cell (j:=4) (by omega)
  rw [hw1] at B
  have HW:=Lib.hid hw1
  have HX:=Lib.hid hX
  clear C hw1 hX
  have A0:=Lib.hid (fun w=>isAPID_any ap w)
  by_cases g0:¬ (0<=ap/\ap<=2047)
  · rw [decide_eq_false g0] at A0
    have E:=Lib.hid (show b=false by rw [OKE.out]; exact decide_eq_false (fun h=>by omega))
    clear g0 OKE
    go_enter Tryz.func98,Tryz.ntmps98
    go_wp2_with (simp only [HW.out,HX.out])
    (with_reducible refine (A0.out _).mono ?_)
    rintro e w' ⟨rfl,rfl⟩
    go_wp2_with fail
    go_ret
    exact ⟨by rw [E.out]; rfl,by first | exact B.out | (have:=B.out; rw [HX.out] at this; exact this)⟩
  replace g0:=Decidable.of_not_not g0
  rw [decide_eq_true g0] at A0
  have A1:=Lib.hid (fun w=>isFlags_any fl w)
  by_cases g1:¬ (0<=fl/\fl<=3)
  · rw [decide_eq_false g1] at A1
    have E:=Lib.hid (show b=false by rw [OKE.out]; exact decide_eq_false (fun h=>by omega))
    clear g0 g1 OKE
    go_enter Tryz.func98,Tryz.ntmps98
    go_wp2_with (simp only [HW.out,HX.out])
    (with_reducible refine (A0.out _).mono ?_)
    rintro e w' ⟨rfl,rfl⟩
    go_wp2_with fail
    (with_reducible refine (A1.out _).mono ?_)
    rintro e w' ⟨rfl,rfl⟩
    go_wp2_with fail
    go_ret
    exact ⟨by rw [E.out]; rfl,by first | exact B.out | (have:=B.out; rw [HX.out] at this; exact this)⟩
  replace g1:=Decidable.of_not_not g1
  rw [decide_eq_true g1] at A1
  have A2:=Lib.hid (fun w=>isCount_any ct w)
  by_cases g2:¬ (0<=ct/\ct<=16383)
  · rw [decide_eq_false g2] at A2
    have E:=Lib.hid (show b=false by rw [OKE.out]; exact decide_eq_false (fun h=>by omega))
    clear g0 g1 g2 OKE
    go_enter Tryz.func98,Tryz.ntmps98
    go_wp2_with (simp only [HW.out,HX.out])
    (with_reducible refine (A0.out _).mono ?_)
    rintro e w' ⟨rfl,rfl⟩
    go_wp2_with fail
    (with_reducible refine (A1.out _).mono ?_)
    rintro e w' ⟨rfl,rfl⟩
    go_wp2_with fail
    (with_reducible refine (A2.out _).mono ?_)
    rintro e w' ⟨rfl,rfl⟩
    go_wp2_with fail
    go_ret
    exact ⟨by rw [E.out]; rfl,by first | exact B.out | (have:=B.out; rw [HX.out] at this; exact this)⟩
  replace g2:=Decidable.of_not_not g2
  rw [decide_eq_true g2] at A2
  have A3:=Lib.hid (fun w=>isSize_any (D:Int) w)
  by_cases g3:¬ (1<=(D:Int)/\(D:Int)<=1024)
  · rw [decide_eq_false g3] at A3
    have E:=Lib.hid (show b=false by rw [OKE.out]; exact decide_eq_false (fun h=>by omega))
    clear g0 g1 g2 g3 OKE
    go_enter Tryz.func98,Tryz.ntmps98
    go_wp2_with (simp only [HW.out,HX.out])
    (with_reducible refine (A0.out _).mono ?_)
    rintro e w' ⟨rfl,rfl⟩
    go_wp2_with fail
    (with_reducible refine (A1.out _).mono ?_)
    rintro e w' ⟨rfl,rfl⟩
    go_wp2_with fail
    (with_reducible refine (A2.out _).mono ?_)
    rintro e w' ⟨rfl,rfl⟩
    go_wp2_with fail
    (with_reducible refine (A3.out _).mono ?_)
    rintro e w' ⟨rfl,rfl⟩
    go_wp2_with fail
    go_ret
    exact ⟨by rw [E.out]; rfl,by first | exact B.out | (have:=B.out; rw [HX.out] at this; exact this)⟩
  replace g3:=Decidable.of_not_not g3
  rw [decide_eq_true g3] at A3
  have E:=Lib.hid (show b=true by rw [OKE.out]; exact decide_eq_true ⟨g0,g1,g2,by omega,by omega⟩)
  clear g0 g1 g2 g3 OKE
  go_enter Tryz.func98,Tryz.ntmps98
  go_wp2_with (simp only [HW.out,HX.out])
  (with_reducible refine (A0.out _).mono ?_)
  rintro e w' ⟨rfl,rfl⟩
  go_wp2_with fail
  (with_reducible refine (A1.out _).mono ?_)
  rintro e w' ⟨rfl,rfl⟩
  go_wp2_with fail
  (with_reducible refine (A2.out _).mono ?_)
  rintro e w' ⟨rfl,rfl⟩
  go_wp2_with fail
  (with_reducible refine (A3.out _).mono ?_)
  rintro e w' ⟨rfl,rfl⟩
  go_wp2_with fail
  go_ret
  exact ⟨by rw [E.out]; rfl,by first | exact B.out | (have:=B.out; rw [HX.out] at this; exact this)⟩
theorem headWidths_any (w:World):Calls Tryz.prog 143 #[] w fun e w'=>∃ B,e=.returned (.slice (some ⟨B,0,none⟩) 7 7)/\FReads .i64 w' (some ⟨B,0,none⟩) Pk.wid/\Below w.heap.size w w':=by
  have HB:=Lib.hid (ba (Below.refl w.heap.size w) (.cells #[.int .i64 3,.int .i64 1,.int .i64 1,.int .i64 11,.int .i64 2,.int .i64 14,.int .i64 16] 3))
  have HC:=Lib.hid (fun j=>World.cell?_alloc_new w #[.int .i64 3,.int .i64 1,.int .i64 1,.int .i64 11,.int .i64 2,.int .i64 14,.int .i64 16] 3 j)
  have HS:=Lib.hid (World.size_alloc w (.cells #[.int .i64 3,.int .i64 1,.int .i64 1,.int .i64 11,.int .i64 2,.int .i64 14,.int .i64 16] 3))
  go_enter Tryz.func143,Tryz.ntmps143
  go_wp2_with fail
  go_ret
  refine ⟨w.heap.size,rfl,.inr ⟨_,_,rfl,by rw [HS.out]; omega,fun j hj=>?_⟩,HB.out⟩
  rw [Nat.zero_add]
  refine (HC.out j).trans ?_
  match j,hj with
  | 0,_=>rfl
  | 1,_=>rfl
  | 2,_=>rfl
  | 3,_=>rfl
  | 4,_=>rfl
  | 5,_=>rfl
  | 6,_=>rfl
end Go.Proofs.YtchfkncbemjepaaGreat
/- Layer 9, the landed program: written: the header whose fields have some values. -/
namespace Go.Proofs.YtchfkncbemjepaaGreat
open Go.RowKit Go.Shelf

theorem nums_reads {w:World} {B n:Nat} {vs:List Nat} (hn:vs.length=n) (h:Nums w B n (fun j=>vs.getD j 0)) (hB:B < w.heap.size):FReads .u64 w (some ⟨B,0,none⟩) (vs.map Int.ofNat):=.inr ⟨B,0,rfl,hB,fun j hj=>by
  rw [List.length_map,hn] at hj
  rw [Nat.zero_add,(h j hj).1,getD_ofNat _ _ (by omega)]⟩

theorem written_any (b o c:Nat) (vs:List Nat) (hv:vs.length=7) (hb:∀ j,j < 7->vs.getD j 0<=1000000) (w:World) (R:FReads .i64 w (some ⟨b,o,none⟩) (vs.map Int.ofNat)):
    Calls Tryz.prog 126 #[.slice (some ⟨b,o,none⟩) 7 c] w fun e w'=>e=.returned (.string ⟨(Fld.packV Pk.wid vs).toArray⟩)/\Below w.heap.size w w':=by
  obtain ⟨b1,o1,e1,lb,cl⟩:=R.cell (by rw [List.length_map]; omega)
  cases e1
  have CL:=Lib.hid (show ∀ j,j < 7->w.cell? ⟨b,o + j,none⟩=some (.int .i64 (vs.getD j 0:Nat)) from fun j hj=>by
    rw [cl j (by rw [List.length_map]; omega),getD_ofNat _ _ (by omega)])
  have HV:=Lib.hid hv
  have HBD:=Lib.hid hb
  have HWD:=Lib.hid (fun w=>headWidths_any w)
  have PA:=Lib.hid (fun a1 B w (R1:FReads .i64 w a1 Pk.wid) (R2:FReads .u64 w (some ⟨B,0,none⟩) (vs.map Int.ofNat))=>pack_any a1 (some ⟨B,0,none⟩) 7 7 Pk.wid vs (by decide) (by omega) (by decide) (by decide) (fun j hj=>by have:=hb j (by omega); omega) w R1 R2)
  rw [hv,show Pk.wid.length=7 from rfl] at PA
  obtain ⟨V,hV⟩:∃ V:ByteArray,⟨(Fld.packV Pk.wid vs).toArray⟩=V:=⟨_,rfl⟩
  obtain ⟨E,hE⟩:∃ E,Fld.packE Pk.wid vs=E:=⟨_,rfl⟩
  rw [hV,hE] at PA
  rw [hV]
  clear cl hv hb R hV hE
  obtain ⟨i0,hi,hz0,hz1,hz2⟩:=info_parts info_u64
  go_enter Tryz.func126,Tryz.ntmps126
  go_wp2_with (at_make; refine wpList_make_full _ rfl _ _ 190 rfl w.heap.size 185 i0 (.int .u64 0) 1 Tryz.underlying190 hi hz0 hz1 .i64 .i64 _ _ 7 rfl rfl (by first | rfl | omega) (by first | rfl | omega) (by rw [hz2]; omega) (by unfold maxLen; omega) (Nat.le_refl _) ?_; intro w2 hown hgrow)
  obtain ⟨hnu,hBf⟩:=nums_made hown (fun j hj=>made_zero64 7 j hj)
  have hb2:Below w.heap.size w w2:=(Below.refl _ _).grown hgrow (Nat.le_refl _) (fun k e=>by cases e)
  obtain ⟨B,hB⟩:∃ B,w.heap.size=B:=⟨_,rfl⟩
  rw [hB] at hnu hBf hb2 lb ⊢
  have HNU:=Lib.hid hnu
  have HB2:=Lib.hid hb2
  have HBE:=Lib.hid hB
  clear hb2 hown hgrow hB hi hz0 hz1 hz2 hnu
  go_loopw [13] (fun i wr=>∃ k:Nat,k<=7/\i=.int .i64 k/\Nums wr B 7 (fun j=>if j < k then vs.getD j 0 else 0)/\Below B w wr/\B < wr.heap.size) (fun i _=>7 - (intOf i).toNat)
  case atStart=>exact ⟨0,Nat.zero_le _,rfl,HNU.out,HB2.out,hBf⟩
  case round=>
    obtain ⟨k,hk,rfl,hnu,hB,hBs⟩:=hrel
    by_cases hlt:k < 7
    · have q3:=(hB.cell (p:=⟨b,o + k,none⟩) lb).trans (CL.out k hlt)
      have x1:=HBD.out k hlt
      obtain ⟨x,hx⟩:∃ x,vs.getD k 0=x:=⟨_,rfl⟩
      rw [hx] at q3 x1
      obtain ⟨n1,n2⟩:=hnu k hlt
      have NN:=Lib.hid (hnu.set (g:=fun j=>if j < k + 1 then vs.getD j 0 else 0) k x hlt (by rw [if_pos (by omega)]; exact hx) (fun j hj hjk=>by
        by_cases e:j < k
        · rw [if_pos e,if_pos (by omega)]
        rw [if_neg e,if_neg (by omega)]))
      have BB:=Lib.hid (hB.setCell (p:=⟨B,k,none⟩) (Nat.le_refl _) (.int .u64 x))
      clear hnu hB hx
      go_wp2_with fail
      go_roundw
      case rel=>exact ⟨k + 1,by omega,by go_num,NN.out,BB.out,by simpa [World.setCell] using hBs⟩
      case measure=>simp [intOf]; omega
    obtain rfl:k=7:=by omega
    have HN:=Lib.hid (show Nums wr B 7 (fun j=>vs.getD j 0) from fun j hj=>by
      have h:=hnu j hj
      dsimp only at h
      rwa [if_pos hj] at h)
    have HB3:=Lib.hid hB
    have BS:=Lib.hid hBs
    clear hnu hB hBs hlt hk
    go_wp2_with fail
    (with_reducible refine (HWD.out _).mono ?_)
    rintro e w4 ⟨B4,rfl,F4,h4⟩
    have R2:=nums_reads HV.out (HN.out.below h4 BS.out) (Nat.lt_of_lt_of_le BS.out h4.size)
    have P2:=Lib.hid (PA.out _ B w4 F4 R2)
    have B5:=Lib.hid (HB3.out.trans (h4.mono (by have:=BS.out; omega)))
    clear F4 R2 h4
    go_wp2_with fail
    (with_reducible refine P2.out.mono ?_)
    rintro e w5 ⟨rfl,h5⟩
    have B6:=Lib.hid (B5.out.trans (h5.mono (by have:=HBE.out; have:=B5.out.size; omega)))
    clear h5
    go_wp2_with fail
    go_ret
    exact ⟨rfl,by rw [HBE.out]; exact B6.out⟩
end Go.Proofs.YtchfkncbemjepaaGreat
/- Layer 9, the landed program: the header of a packet, Put. -/
namespace Go.Proofs.YtchfkncbemjepaaGreat
open Go.RowKit Go.Shelf

theorem hnum_reads {w:World} {c A F C D:Nat} (ci:Int) (hc:ci=(c:Nat)):FReads .i64 (w.alloc (.cells #[.int .i64 0,.int .i64 ci,.int .i64 0,.int .i64 (A:Nat),.int .i64 (F:Nat),.int .i64 (C:Nat),.int .i64 (D:Nat)] 3)) (some ⟨w.heap.size,0,none⟩) ([0,c,0,A,F,C,D].map Int.ofNat):=by
  subst hc
  refine .inr ⟨_,_,rfl,by rw [World.size_alloc]; omega,fun j hj=>?_⟩
  rw [Nat.zero_add]
  refine (World.cell?_alloc_new w _ _ j).trans ?_
  match j,hj with
  | 0,_=>rfl
  | 1,_=>rfl
  | 2,_=>rfl
  | 3,_=>rfl
  | 4,_=>rfl
  | 5,_=>rfl
  | 6,_=>rfl
theorem header_any (p:Pkt) (h:Pk.Ok p) (w:World):Calls Tryz.prog 99 #[pkVal p] w fun e w'=>e=.returned (.string (bs (Pk.hdr p)))/\Below w.heap.size w w':=by
  have C:=pk_new p w
  have B:=Lib.hid (ba (Below.refl w.heap.size w) (.cells #[.bool p.cmd,.int .i64 p.ap,.int .i64 p.fl,.int .i64 p.ct,.string p.da] 125))
  have PH:=Lib.hid (Pk.pack_hdr h).2
  obtain ⟨R,hR⟩:∃ R,bs (Pk.hdr p)=R:=⟨_,rfl⟩
  have HR:=Lib.hid hR
  rw [hR]
  obtain ⟨cmd,ap,fl,ct,da⟩:=p
  obtain ⟨⟨a0,a1⟩,⟨f0,f1⟩,⟨t0,t1⟩,d0,d1⟩:=h
  obtain ⟨A,rfl⟩:=Int.eq_ofNat_of_zero_le a0
  obtain ⟨F,rfl⟩:=Int.eq_ofNat_of_zero_le f0
  obtain ⟨T,rfl⟩:=Int.eq_ofNat_of_zero_le t0
  simp only at a1 f1 t1 d0 d1
  obtain ⟨D,hD⟩:∃ D,da.size=D:=⟨_,rfl⟩
  obtain ⟨E,hE⟩:∃ E,D - 1=E:=⟨_,rfl⟩
  unfold Pk.hnum at PH
  simp only [hD,hE] at PH d0 d1
  have e1:IntKind.i64.wrap ((D:Int) - 1)=(E:Int):=by rw [IntKind.wrap_i64]; omega
  have e2:(D:Int) - 1=(E:Int):=by omega
  have z1:A<=2047:=by omega
  have z2:F<=3:=by omega
  have z3:T<=16383:=by omega
  have z4:E<=1023:=by omega
  have HD:=Lib.hid hD
  have sn:=HD.out
  unfold pkVal
  simp only
  clear hR hD hE a0 a1 f0 f1 t0 t1 d0 d1
  obtain ⟨w1,hw1⟩:∃ w1,w.alloc (.cells #[.bool cmd,.int .i64 (A:Int),.int .i64 (F:Int),.int .i64 (T:Int),.string da] 125)=w1:=⟨_,rfl⟩
  obtain ⟨X,hX⟩:∃ X,w.heap.size=X:=⟨_,rfl⟩
  simp only at C B
  rw [hw1,hX] at C
  have c0:w1.cell? ⟨X,0,none⟩=some (.bool cmd):=C.cell (j:=0) (by omega)
  have c1:w1.cell? ⟨X,1,none⟩=some (.int .i64 (A:Int)):=C.cell (j:=1) (by omega)
  have c2:w1.cell? ⟨X,2,none⟩=some (.int .i64 (F:Int)):=C.cell (j:=2) (by omega)
  have c3:w1.cell? ⟨X,3,none⟩=some (.int .i64 (T:Int)):=C.cell (j:=3) (by omega)
  have c4:w1.cell? ⟨X,4,none⟩=some (.string da):=C.cell (j:=4) (by omega)
  rw [hw1] at B
  have lX:=C.lt
  have HW:=Lib.hid hw1
  have HX:=Lib.hid hX
  clear C hw1 hX
  cases cmd with
  | false=>
    have PV:=Lib.hid (show (⟨(Fld.packV Pk.wid [0,0,0,A,F,T,E]).toArray⟩:ByteArray)=R from (by
      have h:=PH.out
      simp only [Int.toNat_natCast,Bool.false_eq_true,if_false] at h
      rw [h]
      exact HR.out))
    have BN:=Lib.hid (ba (Below.refl w1.heap.size w1) (.cells #[.int .i64 0,.int .i64 0,.int .i64 0,.int .i64 (A:Nat),.int .i64 (F:Nat),.int .i64 (T:Nat),.int .i64 (E:Nat)] 3))
    have WR:=Lib.hid (written_any w1.heap.size 0 7 [0,0,0,A,F,T,E] rfl (fun j hj=>by
      match j,hj with
      | 0,_=>simp
      | 1,_=>simp
      | 2,_=>simp
      | 3,_=>simp; omega
      | 4,_=>simp; omega
      | 5,_=>simp; omega
      | 6,_=>simp; omega) _ (hnum_reads (w:=w1) (c:=0) (A:=A) (F:=F) (C:=T) (D:=E) 0 rfl))
    rw [PV.out] at WR
    go_enter Tryz.func99,Tryz.ntmps99
    go_wp2_with (simp only [HW.out,HX.out])
    (with_reducible refine WR.out.mono ?_)
    rintro e w2 ⟨rfl,h2⟩
    have B2:=Lib.hid (bt B.out (bt BN.out h2))
    clear h2
    go_wp2_with fail
    go_ret
    exact ⟨rfl,by first | exact B2.out | (have:=B2.out; rw [HX.out] at this; exact this)⟩
  | true=>
    have PV:=Lib.hid (show (⟨(Fld.packV Pk.wid [0,1,0,A,F,T,E]).toArray⟩:ByteArray)=R from (by
      have h:=PH.out
      simp only [Int.toNat_natCast,if_true] at h
      rw [h]
      exact HR.out))
    have BN:=Lib.hid (ba (Below.refl w1.heap.size w1) (.cells #[.int .i64 0,.int .i64 1,.int .i64 0,.int .i64 (A:Nat),.int .i64 (F:Nat),.int .i64 (T:Nat),.int .i64 (E:Nat)] 3))
    have WR:=Lib.hid (written_any w1.heap.size 0 7 [0,1,0,A,F,T,E] rfl (fun j hj=>by
      match j,hj with
      | 0,_=>simp
      | 1,_=>simp
      | 2,_=>simp
      | 3,_=>simp; omega
      | 4,_=>simp; omega
      | 5,_=>simp; omega
      | 6,_=>simp; omega) _ (hnum_reads (w:=w1) (c:=1) (A:=A) (F:=F) (C:=T) (D:=E) 1 rfl))
    rw [PV.out] at WR
    go_enter Tryz.func99,Tryz.ntmps99
    go_wp2_with (simp only [HW.out,HX.out])
    (with_reducible refine WR.out.mono ?_)
    rintro e w2 ⟨rfl,h2⟩
    have B2:=Lib.hid (bt B.out (bt BN.out h2))
    clear h2
    go_wp2_with fail
    go_ret
    exact ⟨rfl,by first | exact B2.out | (have:=B2.out; rw [HX.out] at this; exact this)⟩
structure PtRegion (X:Nat) (cmd:Bool) (ap fl ct:Int) (da H:ByteArray) (A:Act) (w0:World) (s:Nat->Bool) (a:Act) (w:World):Prop where
  off:Off [7,8,9,10,11,2,3] a A
  before:Below w0.heap.size w0 w
  t0:s 0=true->a.eval (.tmp 7)=.agg #[.bool cmd,.int .i64 ap,.int .i64 fl,.int .i64 ct,.string da]
  t1:s 1=true->a.eval (.tmp 8)=.string H
  t2:s 2=true->a.eval (.tmp 9)=.pointer (some ⟨X,4,none⟩)
  t3:s 3=true->a.eval (.tmp 10)=.string da
  t4:s 4=true->a.eval (.tmp 11)=.string (H ++ da)
  t5:s 5=true->a.eval (.tmp 2)=.string (H ++ da)
  t6:s 6=true->a.eval (.tmp 3)=.int .i64 0
theorem ptRegion {id:Nat} {d:Bool} {l:List Oper} {A:Act} {w:World} {Q:Exit->Act->World->Prop} (X:Nat) (cmd:Bool) (ap fl ct:Int) (da H:ByteArray)
    (lX:X < w.heap.size) (hH:H.size=6) (hD:da.size<=1024)
    (c0:w.cell? ⟨X,0,none⟩=some (.bool cmd))
    (c1:w.cell? ⟨X,1,none⟩=some (.int .i64 ap))
    (c2:w.cell? ⟨X,2,none⟩=some (.int .i64 fl))
    (c3:w.cell? ⟨X,3,none⟩=some (.int .i64 ct))
    (c4:w.cell? ⟨X,4,none⟩=some (.string da))
    (HD:∀ w,Calls Tryz.prog 99 #[.agg #[.bool cmd,.int .i64 ap,.int .i64 fl,.int .i64 ct,.string da]] w fun e w'=>e=.returned (.string H)/\Below w.heap.size w w')
    (hB:tableL d l.toArray (fun i=>match i with | 0=>[] | 1=>[0] | 2=>[] | 3=>[2] | 4=>[1,3] | 5=>[4] | 6=>[] | _=>[]) (fun i=>match i with | 0=>[] | 1=>[] | 2=>[] | 3=>[] | 4=>[] | 5=>[] | 6=>[] | _=>[])=true) (hl:l.length=7)
    (h0:pick l 0=some (.load 125 (.tmp 1),some 7))
    (h1:pick l 1=some (.call { callee:=.value (.func 99),args:=#[.tmp 7],argTypes:=#[125] },some 8))
    (h2:pick l 2=some (.fieldAddr 125 (.tmp 1) 4,some 9))
    (h3:pick l 3=some (.load 9 (.tmp 9),some 10))
    (h4:pick l 4=some (.binOp .add 9 (.tmp 8) (.tmp 10) 9,some 11))
    (h5:pick l 5=some (.assign (.tmp 11),some 2))
    (h6:pick l 6=some (.assign (.const (.int .i64 0)),some 3))
    (hs:A.tmps.size=12)
    (x1:A.eval (.tmp 1)=.pointer (some ⟨X,0,none⟩))
    (h:∀ w1,Below w.heap.size w w1->Q .normal (((((((A.put (some 7) (.agg #[.bool cmd,.int .i64 ap,.int .i64 fl,.int .i64 ct,.string da])).put (some 8) (.string H)).put (some 9) (.pointer (some ⟨X,4,none⟩))).put (some 10) (.string da)).put (some 11) (.string (H ++ da))).put (some 2) (.string (H ++ da))).put (some 3) (.int .i64 0)) w1):
    (Code.region id l.toArray d).wp Tryz.prog Q A w:=by
  refine wp_region_invL (by kernel_rfl) _ _ hB (PtRegion X cmd ap fl ct da H A w) ⟨Off.refl _ _,Below.refl _ _,by simp,by simp,by simp,by simp,by simp,by simp,by simp⟩ ⟨Off.refl _ _,(Below.refl _ _).drew,by simp,by simp,by simp,by simp,by simp,by simp,by simp⟩ ?_ ?_
  · intro s a w' S i' o ho hsi hT K hK
    have sz:a.tmps.size=12:=by rw [S.off.2.1]; exact hs
    have il:i' < 7:=by have:=(List.getElem?_eq_some_iff.1 ho).1; omega
    have y1:a.eval (.tmp 1)=.pointer (some ⟨X,0,none⟩):=by rw [S.off.eval (by decide)]; exact x1
    match i',il,ho,hsi,hT with
    | 0,_,ho,hsi,hT=>
      obtain ⟨e1,e2⟩:=pick_of h0 ho
      have BW:=S.before
      have cl0:=(BW.cell (p:=⟨X,0,none⟩) lX).trans c0
      have cl1:=(BW.cell (p:=⟨X,1,none⟩) lX).trans c1
      have cl2:=(BW.cell (p:=⟨X,2,none⟩) lX).trans c2
      have cl3:=(BW.cell (p:=⟨X,3,none⟩) lX).trans c3
      have cl4:=(BW.cell (p:=⟨X,4,none⟩) lX).trans c4
      refine step_val (v:=.agg #[.bool cmd,.int .i64 ap,.int .i64 fl,.int .i64 ct,.string da]) (by simp only [execOp,e1,y1]; go_simp) (hK _ _ ?_)
      rw [e2]
      exact ⟨ofp S.off,S.before,ev_ (by omega),kp S.t1,kp S.t2,kp S.t3,kp S.t4,kp S.t5,kp S.t6⟩
    | 1,_,ho,hsi,hT=>
      obtain ⟨e1,e2⟩:=pick_of h1 ho
      have D0:s 0=true:=list_pos hT (d:=0) (by decide)
      have BW:=S.before
      refine step_call 99 (fun args w=>by go_simp) _ _ e1 #[.agg #[.bool cmd,.int .i64 ap,.int .i64 fl,.int .i64 ct,.string da]] (by simp only [List.map_toArray,List.map_cons,List.map_nil,S.t0 D0]) ((HD w').mono ?_)
      rintro e w2 ⟨rfl,BB⟩
      refine ⟨_,rfl,hK _ _ ?_⟩
      rw [e2]
      exact ⟨ofp S.off,bt BW BB,kp S.t0,ev_ (by omega),kp S.t2,kp S.t3,kp S.t4,kp S.t5,kp S.t6⟩
    | 2,_,ho,hsi,hT=>
      obtain ⟨e1,e2⟩:=pick_of h2 ho
      refine step_val (v:=.pointer (some ⟨X,4,none⟩)) (by simp only [execOp,e1,y1]; go_simp) (hK _ _ ?_)
      rw [e2]
      exact ⟨ofp S.off,S.before,kp S.t0,kp S.t1,ev_ (by omega),kp S.t3,kp S.t4,kp S.t5,kp S.t6⟩
    | 3,_,ho,hsi,hT=>
      obtain ⟨e1,e2⟩:=pick_of h3 ho
      have D2:s 2=true:=list_pos hT (d:=2) (by decide)
      have BW:=S.before
      have cl4:=(BW.cell (p:=⟨X,4,none⟩) lX).trans c4
      refine step_val (v:=.string da) (by simp only [execOp,e1,S.t2 D2]; go_simp) (hK _ _ ?_)
      rw [e2]
      exact ⟨ofp S.off,S.before,kp S.t0,kp S.t1,kp S.t2,ev_ (by omega),kp S.t4,kp S.t5,kp S.t6⟩
    | 4,_,ho,hsi,hT=>
      obtain ⟨e1,e2⟩:=pick_of h4 ho
      have D1:s 1=true:=list_pos hT (d:=1) (by decide)
      have D3:s 3=true:=list_pos hT (d:=3) (by decide)
      refine step_val (v:=.string (H ++ da)) (by simp only [execOp,e1,S.t1 D1,S.t3 D3]; go_simp; omega) (hK _ _ ?_)
      rw [e2]
      exact ⟨ofp S.off,S.before,kp S.t0,kp S.t1,kp S.t2,kp S.t3,ev_ (by omega),kp S.t5,kp S.t6⟩
    | 5,_,ho,hsi,hT=>
      obtain ⟨e1,e2⟩:=pick_of h5 ho
      have D4:s 4=true:=list_pos hT (d:=4) (by decide)
      refine step_val (v:=.string (H ++ da)) (by simp only [execOp,e1,S.t4 D4]; go_simp) (hK _ _ ?_)
      rw [e2]
      exact ⟨ofp S.off,S.before,kp S.t0,kp S.t1,kp S.t2,kp S.t3,kp S.t4,ev_ (by omega),kp S.t6⟩
    | 6,_,ho,hsi,hT=>
      obtain ⟨e1,e2⟩:=pick_of h6 ho
      refine step_val (v:=.int .i64 0) (by simp only [execOp,e1]; go_simp) (hK _ _ ?_)
      rw [e2]
      exact ⟨ofp S.off,S.before,kp S.t0,kp S.t1,kp S.t2,kp S.t3,kp S.t4,kp S.t5,ev_ (by omega)⟩
  intro s a w' S hall
  have a0:=hall 0 (by omega)
  have a1:=hall 1 (by omega)
  have a2:=hall 2 (by omega)
  have a3:=hall 3 (by omega)
  have a4:=hall 4 (by omega)
  have a5:=hall 5 (by omega)
  have a6:=hall 6 (by omega)
  have e:=off_norm _ (by intro d hd; simp at hd; omega) S.off
  simp only [List.foldl,S.t0 a0,S.t1 a1,S.t2 a2,S.t3 a3,S.t4 a4,S.t5 a5,S.t6 a6] at e
  rw [e]
  exact h _ S.before
theorem pput_any (p:Pkt) (hs:p.da.size<=maxLen) (w:World):Calls Tryz.prog 58 #[pkVal p] w fun e w'=>e=.returned (if Pk.Ok p then .tuple #[.string (bs (Pk.enc p)),.int .i64 0] else .tuple #[.string ⟨#[]⟩,.int .i64 2])/\Below w.heap.size w w':=by
  have C:=pk_new p w
  have B:=Lib.hid (ba (Below.refl w.heap.size w) (.cells #[.bool p.cmd,.int .i64 p.ap,.int .i64 p.fl,.int .i64 p.ct,.string p.da] 125))
  have VA:=Lib.hid (fun w=>pvalid_any p hs w)
  by_cases h:Pk.Ok p
  · rw [if_pos h]
    rw [decide_eq_true h] at VA
    have HD:=Lib.hid (fun w=>header_any p h w)
    have HE:=Lib.hid (show bs (Pk.enc p)=bs (Pk.hdr p) ++ p.da by rw [Pk.hdr_enc,<-bs_app,bs_self])
    have HS:=Lib.hid (show (bs (Pk.hdr p)).size=6 by rw [bs_size]; rfl)
    have DS:=Lib.hid h.2.2.2.2
    obtain ⟨H,hH⟩:∃ H,bs (Pk.hdr p)=H:=⟨_,rfl⟩
    rw [hH] at HD HE HS
    rw [HE.out]
    clear h hH hs
    obtain ⟨cmd,ap,fl,ct,da⟩:=p
    unfold pkVal at VA HD ⊢
    simp only at VA HD DS ⊢
    obtain ⟨w1,hw1⟩:∃ w1,w.alloc (.cells #[.bool cmd,.int .i64 ap,.int .i64 fl,.int .i64 ct,.string da] 125)=w1:=⟨_,rfl⟩
    obtain ⟨X,hX⟩:∃ X,w.heap.size=X:=⟨_,rfl⟩
    simp only at C B
    rw [hw1,hX] at C
    have c0:w1.cell? ⟨X,0,none⟩=some (.bool cmd):=C.cell (j:=0) (by omega)
    have c1:w1.cell? ⟨X,1,none⟩=some (.int .i64 ap):=C.cell (j:=1) (by omega)
    have c2:w1.cell? ⟨X,2,none⟩=some (.int .i64 fl):=C.cell (j:=2) (by omega)
    have c3:w1.cell? ⟨X,3,none⟩=some (.int .i64 ct):=C.cell (j:=3) (by omega)
    have c4:w1.cell? ⟨X,4,none⟩=some (.string da):=C.cell (j:=4) (by omega)
    rw [hw1] at B
    have lX:=C.lt
    have HW:=Lib.hid hw1
    have HX:=Lib.hid hX
    clear C hw1 hX
    go_enter Tryz.func58,Tryz.ntmps58
    go_wp2_with (simp only [HW.out,HX.out])
    (with_reducible refine (VA.out _).mono ?_)
    rintro e w2 ⟨rfl,h2⟩
    have B2:=Lib.hid (bt B.out h2)
    have c0:=(h2.cell (p:=⟨X,0,none⟩) lX).trans c0
    have c1:=(h2.cell (p:=⟨X,1,none⟩) lX).trans c1
    have c2:=(h2.cell (p:=⟨X,2,none⟩) lX).trans c2
    have c3:=(h2.cell (p:=⟨X,3,none⟩) lX).trans c3
    have c4:=(h2.cell (p:=⟨X,4,none⟩) lX).trans c4
    have lX2:=Nat.lt_of_lt_of_le lX h2.size
    clear h2
    go_upto_region 3 with fail
    refine ptRegion X cmd ap fl ct da H lX2 HS.out DS.out c0 c1 c2 c3 c4 HD.out (by kernel_rfl) rfl rfl rfl rfl rfl rfl rfl rfl rfl rfl ?_
    intro w3 h3
    have B3:=Lib.hid (bt B2.out h3)
    clear h3
    simp only [Act.put,List.setIfInBounds_toArray,List.set_cons_succ,List.set_cons_zero]
    go_wp2_with fail
    go_ret2
    exact ⟨rfl,by first | exact B3.out | (have:=B3.out; rw [HX.out] at this; exact this)⟩
  rw [if_neg h]
  rw [decide_eq_false h] at VA
  clear h hs
  obtain ⟨cmd,ap,fl,ct,da⟩:=p
  unfold pkVal at VA ⊢
  simp only at VA ⊢
  obtain ⟨w1,hw1⟩:∃ w1,w.alloc (.cells #[.bool cmd,.int .i64 ap,.int .i64 fl,.int .i64 ct,.string da] 125)=w1:=⟨_,rfl⟩
  obtain ⟨X,hX⟩:∃ X,w.heap.size=X:=⟨_,rfl⟩
  simp only at C B
  rw [hw1,hX] at C
  have c0:w1.cell? ⟨X,0,none⟩=some (.bool cmd):=C.cell (j:=0) (by omega)
  have c1:w1.cell? ⟨X,1,none⟩=some (.int .i64 ap):=C.cell (j:=1) (by omega)
  have c2:w1.cell? ⟨X,2,none⟩=some (.int .i64 fl):=C.cell (j:=2) (by omega)
  have c3:w1.cell? ⟨X,3,none⟩=some (.int .i64 ct):=C.cell (j:=3) (by omega)
  have c4:w1.cell? ⟨X,4,none⟩=some (.string da):=C.cell (j:=4) (by omega)
  rw [hw1] at B
  have lX:=C.lt
  have HW:=Lib.hid hw1
  have HX:=Lib.hid hX
  clear C hw1 hX
  go_enter Tryz.func58,Tryz.ntmps58
  go_wp2_with (simp only [HW.out,HX.out])
  (with_reducible refine (VA.out _).mono ?_)
  rintro e w2 ⟨rfl,h2⟩
  have B2:=Lib.hid (bt B.out h2)
  clear h2
  go_wp2_with fail
  go_ret2
  exact ⟨rfl,by first | exact B2.out | (have:=B2.out; rw [HX.out] at this; exact this)⟩
end Go.Proofs.YtchfkncbemjepaaGreat
