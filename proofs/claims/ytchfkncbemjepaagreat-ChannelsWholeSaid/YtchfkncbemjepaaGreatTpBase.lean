/- TpBase -/
import Derived.Test.YtchfkncbemjepaaGreatTmFlip
import Derived.Test.YtchfkncbemjepaaGreatPpHead
set_option linter.unusedVariables false
set_option maxRecDepth 100000
set_option maxHeartbeats 4000000
/- Layer 10, the landed program: the fields of a header and the control word, as what Unpack and Get read and Pack writes. Plain mathematics. -/
namespace Go.Proofs.YtchfkncbemjepaaGreat

namespace Tm
def wid:List Int:=[2,8,3,3,8,8,5,11]
def flds (l:List UInt8):List Nat:=[Pk.nb l 0 / 64,Pk.nb l 0 % 64 * 4 + Pk.nb l 1 / 64,Pk.nb l 1 / 8 % 8,Pk.nb l 1 % 8,Pk.nb l 2,Pk.nb l 3,Pk.nb l 4 / 8,Pk.nb l 4 % 8 * 256 + Pk.nb l 5]
theorem nats_wid:Fld.nats wid=[2,8,3,3,8,8,5,11]:=rfl
theorem allW_wid:Fld.allW wid=true:=by decide
theorem tot_wid:Fld.tot (Fld.nats wid)=48:=rfl
theorem unp_hdr {l:List UInt8} (h:l.length=6):Fld.unpE wid l=0/\Fld.unpV wid l=flds l:=by
  have e:Fld.unpE wid l=0:=by
    unfold Fld.unpE
    rw [if_pos allW_wid,if_pos ⟨by rw [h,tot_wid],(Fld.restB_iff _ _).2 (fun i h1 h2=>by rw [tot_wid] at h1; omega)⟩]
  refine ⟨e,?_⟩
  unfold Fld.unpV
  rw [if_pos e,nats_wid]
  have b0:=Pk.nb_lt l 0
  have b1:=Pk.nb_lt l 1
  have b2:=Pk.nb_lt l 2
  have b3:=Pk.nb_lt l 3
  have b4:=Pk.nb_lt l 4
  have b5:=Pk.nb_lt l 5
  show [Fld.num l 0 2,Fld.num l 2 8,Fld.num l 10 3,Fld.num l 13 3,Fld.num l 16 8,Fld.num l 24 8,Fld.num l 32 5,Fld.num l 37 11]=flds l
  have n0:=Pk.num_nb l 0 0 2 (by omega)
  have n1:=Pk.num_nb l 0 2 6 (by omega)
  have n2:=Pk.num_nb l 1 0 2 (by omega)
  have n3:=Pk.num_nb l 1 2 3 (by omega)
  have n4:=Pk.num_nb l 1 5 3 (by omega)
  have n5:=Pk.num_nb l 2 0 8 (by omega)
  have n6:=Pk.num_nb l 3 0 8 (by omega)
  have n7:=Pk.num_nb l 4 0 5 (by omega)
  have n8:=Pk.num_nb l 4 5 3 (by omega)
  have n9:=Pk.num_nb l 5 0 8 (by omega)
  have a1:=Fld.num_add l 2 6 2
  have a2:=Fld.num_add l 37 3 8
  simp only [Nat.mul_zero,Nat.zero_add,Nat.add_zero,Nat.reduceMul,Nat.reduceAdd,Nat.reduceSub,Nat.reducePow,Nat.div_one] at n0 n1 n2 n3 n4 n5 n6 n7 n8 n9 a1 a2
  unfold flds
  rw [a1,a2,n0,n1,n2,n3,n4,n5,n6,n7,n8,n9]
  clear a1 a2 n0 n1 n2 n3 n4 n5 n6 n7 n8 n9 e
  simp only [List.cons.injEq,and_true]
  refine ⟨?_,?_,?_,?_,?_,?_,?_,?_⟩ <;> first | trivial | omega
theorem num32 (l:List UInt8) (e:Nat):Fld.num l (8 * e) 32=num l e * 65536 + num l (e + 2):=by
  have a1:=Fld.num_add l (8 * e) 16 16
  have a2:=Fld.num_add l (8 * e) 8 8
  have a3:=Fld.num_add l (8 * e + 16) 8 8
  have n0:=Pk.num_nb l e 0 8 (by omega)
  have n1:=Pk.num_nb l (e + 1) 0 8 (by omega)
  have n2:=Pk.num_nb l (e + 2) 0 8 (by omega)
  have n3:=Pk.num_nb l (e + 3) 0 8 (by omega)
  have b0:=Pk.nb_lt l e
  have b1:=Pk.nb_lt l (e + 1)
  have b2:=Pk.nb_lt l (e + 2)
  have b3:=Pk.nb_lt l (e + 3)
  rw [show 8 * (e + 1)=8 * e + 8 by omega] at n1
  rw [show 8 * (e + 2)=8 * e + 16 by omega] at n2
  rw [show 8 * (e + 3)=8 * e + 16 + 8 by omega] at n3
  simp only [Nat.add_zero,Nat.reduceAdd,Nat.reduceSub,Nat.reducePow,Nat.div_one] at n0 n1 n2 n3 a1 a2 a3
  unfold num
  rw [a1,a2,a3,n0,n1,n2,n3,show e + 2 + 1=e + 3 from rfl]
  omega
def hnum (f:Tmf):List Nat:=[0,f.cr.toNat,f.ch.toNat,0,f.ma.toNat,f.ct.toNat,0,f.fi.toNat]
def hdr (f:Tmf):List UInt8:=Pk.six (f.cr.toNat * 64 + f.ch.toNat * 8) (f.ma.toNat * 256 + f.ct.toNat) f.fi.toNat []
theorem hdr_len (f:Tmf):(hdr f).length=6:=rfl
def wrd (n:Nat):List UInt8:=Pk.hd (n / 65536) ++ Pk.hd (n % 65536)
theorem wrd_len (n:Nat):(wrd n).length=4:=rfl
theorem body_cut (f:Tmf):body f=hdr f ++ (f.da.data.toList ++ wrd f.wo):=rfl
theorem flds_hdr {f:Tmf} (h:Ok f):flds (hdr f)=hnum f:=by
  obtain ⟨⟨⟨a0,a1⟩,⟨a2,a3⟩,⟨a4,a5⟩,⟨a6,a7⟩,a8,a9⟩,a10⟩:=h
  obtain ⟨b0,b1,b2,b3,b4,b5⟩:=Pk.six_at (f.cr.toNat * 64 + f.ch.toNat * 8) (f.ma.toNat * 256 + f.ct.toNat) f.fi.toNat [] (by omega) (by omega) (by omega)
  unfold flds hdr
  rw [b0,b1,b2,b3,b4,b5]
  unfold hnum
  simp only [List.cons.injEq,and_true]
  refine ⟨?_,?_,?_,?_,?_,?_,?_,?_⟩ <;> omega
theorem pack_hdr {f:Tmf} (h:Ok f):Fld.packE wid (hnum f)=0/\Fld.packV wid (hnum f)=hdr f:=by
  have u:=unp_hdr (hdr_len f)
  have p:=Fld.pack_unp wid (hdr f) u.1
  rw [u.2] at p
  rwa [flds_hdr h] at p
theorem wrd_num (n:Nat) (h:n < 4294967296):num (wrd n) 0=n / 65536/\num (wrd n) 2=n % 65536:=by
  unfold wrd
  refine ⟨num_hd _ (by omega) _,?_⟩
  rw [num_app _ _ (k:=0) (by rw [Pk.hd_len])]
  have:=num_hd (n % 65536) (by omega) []
  rwa [List.append_nil] at this
theorem pack_wrd (n:Nat) (h:n < 4294967296):Fld.packE [32] [n]=0/\Fld.packV [32] [n]=wrd n:=by
  have e:Fld.unpE [32] (wrd n)=0:=by
    unfold Fld.unpE
    rw [if_pos (by decide),if_pos ⟨by rw [wrd_len]; rfl,(Fld.restB_iff _ _).2 (fun i h1 h2=>by
      rw [wrd_len] at h2
      rw [show Fld.tot (Fld.nats [32])=32 from rfl] at h1
      omega)⟩]
  have v:Fld.unpV [32] (wrd n)=[n]:=by
    unfold Fld.unpV
    rw [if_pos e]
    show [Fld.num (wrd n) 0 32]=[n]
    have:=num32 (wrd n) 0
    rw [Nat.mul_zero] at this
    obtain ⟨w1,w2⟩:=wrd_num n h
    rw [this,w1,w2]
    congr 1
    omega
  have p:=Fld.pack_unp [32] (wrd n) e
  rwa [v] at p
def prs (m:List UInt8):Tmf:=⟨(Pk.nb m 0 % 64 * 4 + Pk.nb m 1 / 64:Nat),(Pk.nb m 1 / 8 % 8:Nat),(Pk.nb m 2:Nat),(Pk.nb m 3:Nat),(Pk.nb m 4 % 8 * 256 + Pk.nb m 5:Nat),⟨((m.take (m.length - 4)).drop 6).toArray⟩,num m (m.length - 4) * 65536 + num m (m.length - 2)⟩
theorem prs_wo (m:List UInt8):(prs m).wo < 4294967296:=by
  have h1:=num_lt m (m.length - 4)
  have h2:=num_lt m (m.length - 2)
  show num m (m.length - 4) * 65536 + num m (m.length - 2) < _
  omega
theorem dec_wo (m:List UInt8):(dec m).wo < 4294967296:=by
  have h1:=num_lt m (m.length - 6)
  have h2:=num_lt m (m.length - 4)
  show num m (m.length - 6) * 65536 + num m (m.length - 4) < _
  omega
theorem prs_body {f:Tmf} (ok:Ok f) (hw:f.wo < 4294967296):prs (body f)=f:=by
  have bl:=body_len f
  have dl:f.da.data.toList.length=f.da.size:=ls f.da
  obtain ⟨⟨⟨a0,a1⟩,⟨a2,a3⟩,⟨a4,a5⟩,⟨a6,a7⟩,a8,a9⟩,a10⟩:=ok
  obtain ⟨b0,b1,b2,b3,b4,b5⟩:=Pk.six_at (f.cr.toNat * 64 + f.ch.toNat * 8) (f.ma.toNat * 256 + f.ct.toNat) f.fi.toNat (f.da.data.toList ++ wrd f.wo) (by omega) (by omega) (by omega)
  have hb:body f=Pk.six (f.cr.toNat * 64 + f.ch.toNat * 8) (f.ma.toNat * 256 + f.ct.toNat) f.fi.toNat (f.da.data.toList ++ wrd f.wo):=rfl
  rw [<-hb] at b0 b1 b2 b3 b4 b5
  obtain ⟨w1,w2⟩:=wrd_num f.wo hw
  have h4:num (body f) (f.da.size + 10 - 4)=f.wo / 65536:=by
    rw [hb,num_six _ _ _ _ (k:=f.da.size) (by omega),num_app _ _ (k:=0) (by omega),w1]
  have h5:num (body f) (f.da.size + 10 - 2)=f.wo % 65536:=by
    rw [hb,num_six _ _ _ _ (k:=f.da.size + 2) (by omega),num_app _ _ (k:=2) (by omega),w2]
  have hda:((body f).take (f.da.size + 10 - 4)).drop 6=f.da.data.toList:=by
    rw [List.drop_take,hb,Pk.six_drop,show f.da.size + 10 - 4 - 6=f.da.data.toList.length by omega,List.take_left]
  unfold prs
  rw [bl,h4,h5,hda,b0,b1,b2,b3,b4,b5]
  have c1:(((f.cr.toNat * 64 + f.ch.toNat * 8) / 256 % 64 * 4 + (f.cr.toNat * 64 + f.ch.toNat * 8) % 256 / 64:Nat):Int)=f.cr:=by omega
  have c2:(((f.cr.toNat * 64 + f.ch.toNat * 8) % 256 / 8 % 8:Nat):Int)=f.ch:=by omega
  have c3:(((f.ma.toNat * 256 + f.ct.toNat) / 256:Nat):Int)=f.ma:=by omega
  have c4:(((f.ma.toNat * 256 + f.ct.toNat) % 256:Nat):Int)=f.ct:=by omega
  have c5:((f.fi.toNat / 256 % 8 * 256 + f.fi.toNat % 256:Nat):Int)=f.fi:=by omega
  have c6:(⟨f.da.data.toList.toArray⟩:ByteArray)=f.da:=bs_self f.da
  have c7:f.wo / 65536 * 65536 + f.wo % 65536=f.wo:=by omega
  rw [c1,c2,c3,c4,c5,c6,c7]
theorem get_prs {l:List UInt8} (h1:44<=l.length) (h2:l.length<=212) (h3:num l (l.length - 2)=(Crc.sum16 (l.take (l.length - 2))).toNat):get l=if Ok (prs (l.take (l.length - 2)))/\enc (prs (l.take (l.length - 2)))=l then (prs (l.take (l.length - 2)),0) else (tm0,6):=by
  by_cases g:Ok (prs (l.take (l.length - 2)))/\enc (prs (l.take (l.length - 2)))=l
  · rw [if_pos g]
    have:=get_enc g.1 (prs_wo _)
    rwa [g.2] at this
  rw [if_neg g]
  unfold get
  rw [if_neg (by omega),if_neg (by rw [h3]; exact fun q=>q rfl)]
  rw [if_neg]
  rintro ⟨o1,o2⟩
  have t:=take_body (dec l)
  rw [o2] at t
  have p:=prs_body o1 (dec_wo l)
  rw [<-t] at p
  rw [p] at g
  exact g ⟨o1,o2⟩
end Tm
end Go.Proofs.YtchfkncbemjepaaGreat
/- Layer 10, the landed program: the small functions, isFrame, headWidths. -/
namespace Go.Proofs.YtchfkncbemjepaaGreat
open Go.RowKit

theorem tbyte_any (n:Int) (w:World):Calls Tryz.prog 111 #[.int .i64 n] w fun e w'=>e=.returned (.bool (decide (0<=n/\n<=255)))/\w=w':=by
  by_cases g0:(0:Int)<=n
  · have t0:decide ((0:Int)<=n)=true:=decide_eq_true g0
    by_cases g1:n<=255
    · have t1:decide (n<=255)=true:=decide_eq_true g1
      have E:=Lib.hid (show decide (0<=n/\n<=255)=true from decide_eq_true ⟨g0,g1⟩)
      clear g0 g1
      rw [E.out]
      go_enter Tryz.func111,Tryz.ntmps111
      go_wp2_with fail
      go_ret
      exact ⟨rfl,rfl⟩
    have t1:decide (n<=255)=false:=decide_eq_false g1
    have E:=Lib.hid (show decide (0<=n/\n<=255)=false from decide_eq_false (fun h=>g1 h.2))
    clear g0 g1
    rw [E.out]
    go_enter Tryz.func111,Tryz.ntmps111
    go_wp2_with fail
    go_ret
    exact ⟨rfl,rfl⟩
  have t0:decide ((0:Int)<=n)=false:=decide_eq_false g0
  have E:=Lib.hid (show decide (0<=n/\n<=255)=false from decide_eq_false (fun h=>g0 h.1))
  clear g0
  rw [E.out]
  go_enter Tryz.func111,Tryz.ntmps111
  go_wp2_with fail
  go_ret
  exact ⟨rfl,rfl⟩
theorem tsize_any (n:Int) (w:World):Calls Tryz.prog 59 #[.int .i64 n] w fun e w'=>e=.returned (.bool (decide (32<=n/\n<=200)))/\w=w':=by
  by_cases g0:(32:Int)<=n
  · have t0:decide ((32:Int)<=n)=true:=decide_eq_true g0
    by_cases g1:n<=200
    · have t1:decide (n<=200)=true:=decide_eq_true g1
      have E:=Lib.hid (show decide (32<=n/\n<=200)=true from decide_eq_true ⟨g0,g1⟩)
      clear g0 g1
      rw [E.out]
      go_enter Tryz.func59,Tryz.ntmps59
      go_wp2_with fail
      go_ret
      exact ⟨rfl,rfl⟩
    have t1:decide (n<=200)=false:=decide_eq_false g1
    have E:=Lib.hid (show decide (32<=n/\n<=200)=false from decide_eq_false (fun h=>g1 h.2))
    clear g0 g1
    rw [E.out]
    go_enter Tryz.func59,Tryz.ntmps59
    go_wp2_with fail
    go_ret
    exact ⟨rfl,rfl⟩
  have t0:decide ((32:Int)<=n)=false:=decide_eq_false g0
  have E:=Lib.hid (show decide (32<=n/\n<=200)=false from decide_eq_false (fun h=>g0 h.1))
  clear g0
  rw [E.out]
  go_enter Tryz.func59,Tryz.ntmps59
  go_wp2_with fail
  go_ret
  exact ⟨rfl,rfl⟩
theorem tfirst_any (n:Int) (D:Nat) (w:World):Calls Tryz.prog 112 #[.int .i64 n,.int .i64 (D:Nat)] w fun e w'=>e=.returned (.bool (decide ((0<=n/\n < (D:Int))\/n=2046\/n=2047)))/\w=w':=by
  have T:∀ (p q:Prop) [Decidable p] [Decidable q],(p->q)->decide p=true->decide q=true:=fun p q _ _ h e=>decide_eq_true (h (of_decide_eq_true e))
  clear T
  by_cases g0:(0:Int)<=n
  · have t0:decide ((0:Int)<=n)=true:=decide_eq_true g0
    by_cases g1:n < (D:Int)
    · have t1:decide (n < (D:Int))=true:=decide_eq_true g1
      have E:=Lib.hid (show decide ((0<=n/\n < (D:Int))\/n=2046\/n=2047)=true from decide_eq_true (.inl ⟨g0,g1⟩))
      clear g0 g1
      rw [E.out]
      go_enter Tryz.func112,Tryz.ntmps112
      go_wp2_with fail
      go_ret
      exact ⟨rfl,rfl⟩
    have t1:decide (n < (D:Int))=false:=decide_eq_false g1
    by_cases g2:n=2046
    · have t2:(n == 2046)=true:=by simp; exact g2
      have E:=Lib.hid (show decide ((0<=n/\n < (D:Int))\/n=2046\/n=2047)=true from decide_eq_true (.inr (.inl g2)))
      clear g0 g1 g2
      rw [E.out]
      go_enter Tryz.func112,Tryz.ntmps112
      go_wp2_with fail
      go_ret
      exact ⟨rfl,rfl⟩
    have t2:(n == 2046)=false:=by simp; exact g2
    by_cases g3:n=2047
    · have t3:(n == 2047)=true:=by simp; exact g3
      have E:=Lib.hid (show decide ((0<=n/\n < (D:Int))\/n=2046\/n=2047)=true from decide_eq_true (.inr (.inr g3)))
      clear g0 g1 g2 g3
      rw [E.out]
      go_enter Tryz.func112,Tryz.ntmps112
      go_wp2_with fail
      go_ret
      exact ⟨rfl,rfl⟩
    have t3:(n == 2047)=false:=by simp; exact g3
    have E:=Lib.hid (show decide ((0<=n/\n < (D:Int))\/n=2046\/n=2047)=false from decide_eq_false (fun h=>by omega))
    clear g0 g1 g2 g3
    rw [E.out]
    go_enter Tryz.func112,Tryz.ntmps112
    go_wp2_with fail
    go_ret
    exact ⟨rfl,rfl⟩
  have t0:decide ((0:Int)<=n)=false:=decide_eq_false g0
  have t2:(n == 2046)=false:=by simp; omega
  have t3:(n == 2047)=false:=by simp; omega
  have E:=Lib.hid (show decide ((0<=n/\n < (D:Int))\/n=2046\/n=2047)=false from decide_eq_false (fun h=>by omega))
  clear g0
  rw [E.out]
  go_enter Tryz.func112,Tryz.ntmps112
  go_wp2_with fail
  go_ret
  exact ⟨rfl,rfl⟩
theorem tframe_any (f:Tmf) (hs:f.da.size<=9223372036854775807) (w:World):Calls Tryz.prog 80 #[tmVal f] w fun e w'=>e=.returned (.bool (decide (Tm.Ok f)))/\Below w.heap.size w w':=by
  have OKE:Hid (decide (Tm.Ok f)=decide (((0<=f.cr/\f.cr<=255)/\(0<=f.ma/\f.ma<=255)/\(0<=f.ct/\f.ct<=255)/\(0<=f.ch/\f.ch<=7)/\32<=f.da.size/\f.da.size<=200)/\((0<=f.fi/\f.fi < f.da.size)\/f.fi=2046\/f.fi=2047))):=Lib.hid rfl
  obtain ⟨b,hb⟩:∃ b,decide (Tm.Ok f)=b:=⟨_,rfl⟩
  rw [hb] at OKE ⊢
  clear hb
  obtain ⟨cr,ch,ma,ct,fi,da,wo⟩:=f
  unfold tmVal
  simp only at OKE hs ⊢
  obtain ⟨D,hD⟩:∃ D,da.size=D:=⟨_,rfl⟩
  rw [hD] at OKE hs
  have A0:=Lib.hid (fun w=>tbyte_any cr w)
  by_cases g0:¬ (0<=cr/\cr<=255)
  · rw [decide_eq_false g0] at A0
    have E:=Lib.hid (show b=false by rw [OKE.out]; exact decide_eq_false (fun h=>by omega))
    clear g0 OKE
    go_enter Tryz.func80,Tryz.ntmps80
    go_wp2_with (refine bx_tm rfl (.tmp 0) rfl (some 1) rfl cr ch ma ct fi da wo rfl ?_; intro X w1 HX Sw1 CX Bw1 c0 c1 c2 c3 c4 c5 c6)
    (with_reducible refine (A0.out _).mono ?_)
    rintro e w' ⟨rfl,rfl⟩
    go_wp2_with fail
    go_ret
    exact ⟨by rw [E.out]; rfl,Bw1.out⟩
  replace g0:=Decidable.of_not_not g0
  rw [decide_eq_true g0] at A0
  by_cases g1:¬ ((0:Int)<=ch)
  · have t1:decide ((0:Int)<=ch)=false:=decide_eq_false g1
    have E:=Lib.hid (show b=false by rw [OKE.out]; exact decide_eq_false (fun h=>by omega))
    clear g0 g1 OKE
    go_enter Tryz.func80,Tryz.ntmps80
    go_wp2_with (refine bx_tm rfl (.tmp 0) rfl (some 1) rfl cr ch ma ct fi da wo rfl ?_; intro X w1 HX Sw1 CX Bw1 c0 c1 c2 c3 c4 c5 c6)
    (with_reducible refine (A0.out _).mono ?_)
    rintro e w' ⟨rfl,rfl⟩
    go_wp2_with fail
    go_ret
    exact ⟨by rw [E.out]; rfl,Bw1.out⟩
  replace g1:=Decidable.of_not_not g1
  have t1:decide ((0:Int)<=ch)=true:=decide_eq_true g1
  by_cases g2:¬ (ch < (8:Int))
  · have t2:decide (ch < (8:Int))=false:=decide_eq_false g2
    have E:=Lib.hid (show b=false by rw [OKE.out]; exact decide_eq_false (fun h=>by omega))
    clear g0 g1 g2 OKE
    go_enter Tryz.func80,Tryz.ntmps80
    go_wp2_with (refine bx_tm rfl (.tmp 0) rfl (some 1) rfl cr ch ma ct fi da wo rfl ?_; intro X w1 HX Sw1 CX Bw1 c0 c1 c2 c3 c4 c5 c6)
    (with_reducible refine (A0.out _).mono ?_)
    rintro e w' ⟨rfl,rfl⟩
    go_wp2_with fail
    go_ret
    exact ⟨by rw [E.out]; rfl,Bw1.out⟩
  replace g2:=Decidable.of_not_not g2
  have t2:decide (ch < (8:Int))=true:=decide_eq_true g2
  have A3:=Lib.hid (fun w=>tbyte_any ma w)
  by_cases g3:¬ (0<=ma/\ma<=255)
  · rw [decide_eq_false g3] at A3
    have E:=Lib.hid (show b=false by rw [OKE.out]; exact decide_eq_false (fun h=>by omega))
    clear g0 g1 g2 g3 OKE
    go_enter Tryz.func80,Tryz.ntmps80
    go_wp2_with (refine bx_tm rfl (.tmp 0) rfl (some 1) rfl cr ch ma ct fi da wo rfl ?_; intro X w1 HX Sw1 CX Bw1 c0 c1 c2 c3 c4 c5 c6)
    (with_reducible refine (A0.out _).mono ?_)
    rintro e w' ⟨rfl,rfl⟩
    go_wp2_with fail
    (with_reducible refine (A3.out _).mono ?_)
    rintro e w' ⟨rfl,rfl⟩
    go_wp2_with fail
    go_ret
    exact ⟨by rw [E.out]; rfl,Bw1.out⟩
  replace g3:=Decidable.of_not_not g3
  rw [decide_eq_true g3] at A3
  have A4:=Lib.hid (fun w=>tbyte_any ct w)
  by_cases g4:¬ (0<=ct/\ct<=255)
  · rw [decide_eq_false g4] at A4
    have E:=Lib.hid (show b=false by rw [OKE.out]; exact decide_eq_false (fun h=>by omega))
    clear g0 g1 g2 g3 g4 OKE
    go_enter Tryz.func80,Tryz.ntmps80
    go_wp2_with (refine bx_tm rfl (.tmp 0) rfl (some 1) rfl cr ch ma ct fi da wo rfl ?_; intro X w1 HX Sw1 CX Bw1 c0 c1 c2 c3 c4 c5 c6)
    (with_reducible refine (A0.out _).mono ?_)
    rintro e w' ⟨rfl,rfl⟩
    go_wp2_with fail
    (with_reducible refine (A3.out _).mono ?_)
    rintro e w' ⟨rfl,rfl⟩
    go_wp2_with fail
    (with_reducible refine (A4.out _).mono ?_)
    rintro e w' ⟨rfl,rfl⟩
    go_wp2_with fail
    go_ret
    exact ⟨by rw [E.out]; rfl,Bw1.out⟩
  replace g4:=Decidable.of_not_not g4
  rw [decide_eq_true g4] at A4
  have A5:=Lib.hid (fun w=>tsize_any (D:Int) w)
  by_cases g5:¬ (32<=(D:Int)/\(D:Int)<=200)
  · rw [decide_eq_false g5] at A5
    have E:=Lib.hid (show b=false by rw [OKE.out]; exact decide_eq_false (fun h=>by omega))
    clear g0 g1 g2 g3 g4 g5 OKE
    go_enter Tryz.func80,Tryz.ntmps80
    go_wp2_with (refine bx_tm rfl (.tmp 0) rfl (some 1) rfl cr ch ma ct fi da wo rfl ?_; intro X w1 HX Sw1 CX Bw1 c0 c1 c2 c3 c4 c5 c6)
    (with_reducible refine (A0.out _).mono ?_)
    rintro e w' ⟨rfl,rfl⟩
    go_wp2_with fail
    (with_reducible refine (A3.out _).mono ?_)
    rintro e w' ⟨rfl,rfl⟩
    go_wp2_with fail
    (with_reducible refine (A4.out _).mono ?_)
    rintro e w' ⟨rfl,rfl⟩
    go_wp2_with fail
    (with_reducible refine (A5.out _).mono ?_)
    rintro e w' ⟨rfl,rfl⟩
    go_wp2_with fail
    go_ret
    exact ⟨by rw [E.out]; rfl,Bw1.out⟩
  replace g5:=Decidable.of_not_not g5
  rw [decide_eq_true g5] at A5
  have A6:=Lib.hid (fun w=>tfirst_any fi D w)
  by_cases g6:¬ ((0<=fi/\fi < (D:Int))\/fi=2046\/fi=2047)
  · rw [decide_eq_false g6] at A6
    have E:=Lib.hid (show b=false by rw [OKE.out]; exact decide_eq_false (fun h=>by omega))
    clear g0 g1 g2 g3 g4 g5 g6 OKE
    go_enter Tryz.func80,Tryz.ntmps80
    go_wp2_with (refine bx_tm rfl (.tmp 0) rfl (some 1) rfl cr ch ma ct fi da wo rfl ?_; intro X w1 HX Sw1 CX Bw1 c0 c1 c2 c3 c4 c5 c6)
    (with_reducible refine (A0.out _).mono ?_)
    rintro e w' ⟨rfl,rfl⟩
    go_wp2_with fail
    (with_reducible refine (A3.out _).mono ?_)
    rintro e w' ⟨rfl,rfl⟩
    go_wp2_with fail
    (with_reducible refine (A4.out _).mono ?_)
    rintro e w' ⟨rfl,rfl⟩
    go_wp2_with fail
    (with_reducible refine (A5.out _).mono ?_)
    rintro e w' ⟨rfl,rfl⟩
    go_wp2_with fail
    (with_reducible refine (A6.out _).mono ?_)
    rintro e w' ⟨rfl,rfl⟩
    go_wp2_with fail
    go_ret
    exact ⟨by rw [E.out]; rfl,Bw1.out⟩
  replace g6:=Decidable.of_not_not g6
  rw [decide_eq_true g6] at A6
  have E:=Lib.hid (show b=true by rw [OKE.out]; exact decide_eq_true (by omega))
  clear g0 g1 g2 g3 g4 g5 g6 OKE
  go_enter Tryz.func80,Tryz.ntmps80
  go_wp2_with (refine bx_tm rfl (.tmp 0) rfl (some 1) rfl cr ch ma ct fi da wo rfl ?_; intro X w1 HX Sw1 CX Bw1 c0 c1 c2 c3 c4 c5 c6)
  (with_reducible refine (A0.out _).mono ?_)
  rintro e w' ⟨rfl,rfl⟩
  go_wp2_with fail
  (with_reducible refine (A3.out _).mono ?_)
  rintro e w' ⟨rfl,rfl⟩
  go_wp2_with fail
  (with_reducible refine (A4.out _).mono ?_)
  rintro e w' ⟨rfl,rfl⟩
  go_wp2_with fail
  (with_reducible refine (A5.out _).mono ?_)
  rintro e w' ⟨rfl,rfl⟩
  go_wp2_with fail
  (with_reducible refine (A6.out _).mono ?_)
  rintro e w' ⟨rfl,rfl⟩
  go_wp2_with fail
  go_ret
  exact ⟨by rw [E.out]; rfl,Bw1.out⟩
theorem twidths_any (w:World):Calls Tryz.prog 115 #[] w fun e w'=>∃ B,e=.returned (.slice (some ⟨B,0,none⟩) 8 8)/\FReads .i64 w' (some ⟨B,0,none⟩) Tm.wid/\Below w.heap.size w w':=by
  have HB:=Lib.hid (ba (Below.refl w.heap.size w) (.cells #[.int .i64 2,.int .i64 8,.int .i64 3,.int .i64 3,.int .i64 8,.int .i64 8,.int .i64 5,.int .i64 11] 3))
  have HC:=Lib.hid (fun j=>World.cell?_alloc_new w #[.int .i64 2,.int .i64 8,.int .i64 3,.int .i64 3,.int .i64 8,.int .i64 8,.int .i64 5,.int .i64 11] 3 j)
  have HS:=Lib.hid (World.size_alloc w (.cells #[.int .i64 2,.int .i64 8,.int .i64 3,.int .i64 3,.int .i64 8,.int .i64 8,.int .i64 5,.int .i64 11] 3))
  go_enter Tryz.func115,Tryz.ntmps115
  go_wp2_with fail
  go_ret
  refine ⟨w.heap.size,rfl,.inr ⟨_,_,rfl,by rw [HS.out]; omega,fun j hj=>?_⟩,HB.out⟩
  rw [Nat.zero_add]
  refine (HC.out j).trans ?_
  match j,hj with
  | 0,_=>rfl
  | 1,_=>rfl
  | 2,_=>rfl
  | 3,_=>rfl
  | 4,_=>rfl
  | 5,_=>rfl
  | 6,_=>rfl
  | 7,_=>rfl
end Go.Proofs.YtchfkncbemjepaaGreat
