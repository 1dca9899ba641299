/- ChDemL -/
import Derived.ProofKit
import Derived.OpenShut
import Derived.ChangeKeysEq
import Derived.Laws.StructEq
import Derived.Test.YtchfkncbemjepaaGreatRcDNew
import Derived.Test.YtchfkncbemjepaaGreatChSame
set_option linter.unusedVariables false
set_option maxRecDepth 100000
set_option maxHeartbeats 16000000
/- ChannelsDemux: for every sequence of frames, Feed of a demux of layer 11 returns what the document says, for every input. -/
namespace Go.Proofs.YtchfkncbemjepaaGreat
open Go.ChangeShapes Go.WideShapes Go.ChangeAt Go.RowKit

namespace channelsDemux
structure DD (B:Nat) (w0 wr:World) (n5 n6 D E:Nat) (x:Ch.Dx):Prop where
  pd:PD wr n5 D x
  qd:QD wr n6 E x
  ok:x.Ok
  iv:x.Inv
  b:Below B w0 wr
  s5:n5<=wr.heap.size
  s6:n6<=wr.heap.size
  h5:B<=n5
  h6:B<=n6
structure DH (B:Nat) (w0 wr:World) (n5 n6 D E:Nat) (x y:Ch.Dx):Prop where
  pd:PD wr n5 D y
  qd:QD wr n6 E x
  ok:x.Ok
  iv:x.Inv
  b:Below B w0 wr
  s5:n5<=wr.heap.size
  s6:n6<=wr.heap.size
  h5:B<=n5
  h6:B<=n6
section
variable {B n5 n6 D E:Nat} {w0 wr w':World} {x y:Ch.Dx}
theorem DD.below (h:DD B w0 wr n5 n6 D E x) (hb:Below wr.heap.size wr w'):DD B w0 w' n5 n6 D E x:=
  ⟨h.pd.below hb,h.qd.below hb,h.ok,h.iv,h.b.trans (hb.mono (Nat.le_trans h.h5 h.s5)),Nat.le_trans h.s5 hb.size,Nat.le_trans h.s6 hb.size,h.h5,h.h6⟩
theorem DH.below (h:DH B w0 wr n5 n6 D E x y) (hb:Below wr.heap.size wr w'):DH B w0 w' n5 n6 D E x y:=
  ⟨h.pd.below hb,h.qd.below hb,h.ok,h.iv,h.b.trans (hb.mono (Nat.le_trans h.h5 h.s5)),Nat.le_trans h.s5 hb.size,Nat.le_trans h.s6 hb.size,h.h5,h.h6⟩
theorem DD.feedX (h:DD B w0 wr n5 n6 D E x) (s:ByteArray) (hs:s.size<=1000000):
    Calls Tryz.prog 22 #[.pointer (some ⟨D,0,none⟩),.string s] wr fun e w'=>∃ sa ca,e=.returned (.tuple #[avVal (.slice sa (x.feed s).1.pk.length ca) (x.feed s).1,.int .i64 (x.feed s).2.1])/\w'.ownsRow wr.heap.size 9 1 (.slice sa (x.feed s).1.pk.length ca) (x.feed s).1.pk.length (bsVs (x.feed s).1.pk)/\DH B w0 w' n5 n6 D E x (x.feed s).2.2:=by
  have F:=dFeed_any h.pd h.ok h.s5 s hs
  unfold Fd at F
  refine F.mono ?_
  rintro e w2 ⟨v,rfl,row,q2,k2⟩
  obtain ⟨a,cc,rfl⟩:=own_form row
  have nE:E ≠ D:=ty_ne h.qd.dt h.pd.dt (by decide)
  exact ⟨a,cc,rfl,row,q2,h.qd.keep (k2.rest E h.qd.dt.lt nE),h.ok,h.iv,h.b.trans (k2.below.mono h.h5),Nat.le_trans h.s5 k2.below.size,Nat.le_trans h.s6 k2.below.size,h.h5,h.h6⟩
theorem DH.feedY {s:ByteArray} (h:DH B w0 wr n5 n6 D E x (x.feed s).2.2) (hs:s.size<=1000000):
    Calls Tryz.prog 23 #[.pointer (some ⟨E,0,none⟩),.string s] wr fun e w'=>∃ sb cb,e=.returned (.tuple #[avVal (.slice sb (x.feed s).1.pk.length cb) (x.feed s).1,.int .i64 (x.feed s).2.1])/\w'.ownsRow wr.heap.size 9 1 (.slice sb (x.feed s).1.pk.length cb) (x.feed s).1.pk.length (bsVs (x.feed s).1.pk)/\DD B w0 w' n5 n6 D E (x.feed s).2.2/\KF n6 (·=E) (·=E) wr w':=by
  have F:=rFeed_any h.qd h.s6 s hs h.ok h.iv
  unfold Fq at F
  refine F.mono ?_
  rintro e w2 ⟨v,rfl,row,q2,k2⟩
  obtain ⟨a,cc,rfl⟩:=own_form row
  have nE:D ≠ E:=ty_ne h.pd.dt h.qd.dt (by decide)
  exact ⟨a,cc,rfl,row,⟨h.pd.keep (k2.rest D h.pd.dt.lt nE),q2,h.ok.feed s,h.iv.feed s,h.b.trans (k2.below.mono h.h6),Nat.le_trans h.s5 k2.below.size,Nat.le_trans h.s6 k2.below.size,h.h5,h.h6⟩,k2⟩
end
theorem walk_long (craft size:Int) (a:Option Addr) (cap:Nat) (l:List ByteArray) (hl:300 < l.length) (w:World):Calls Tryz.prog 4 #[.int .i64 craft,.int .i64 size,.slice a l.length cap] w fun e w'=>e=.returned (.bool true)/\Below w.heap.size w w':=by
  have SH:=Lib.hid (fun w=>cshown_any w)
  have t1:decide (300 < (l.length:Int))=true:=decide_eq_true (by omega)
  have t1n:decide (300 < l.length)=true:=decide_eq_true hl
  go_enter Tryz.func4,Tryz.ntmps4
  go_wp2_with fail
  (with_reducible refine (SH.out _).mono ?_)
  rintro e w2 ⟨rfl,h2⟩
  have B2:=Lib.hid h2
  clear h2
  go_wp2_with fail
  go_ret
  exact ⟨rfl,B2.out⟩
theorem walk_bad (craft size:Int) (a:Option Addr) (cap:Nat) (l:List ByteArray) (hl:l.length<=300) (hbad:¬ NdOk craft size) (w:World):Calls Tryz.prog 4 #[.int .i64 craft,.int .i64 size,.slice a l.length cap] w fun e w'=>e=.returned (.bool true)/\Below w.heap.size w w':=by
  have SH:=Lib.hid (fun w=>cshown_any w)
  obtain ⟨N,hN⟩:∃ N,l.length=N:=⟨_,rfl⟩
  rw [hN] at hl ⊢
  have t1:decide (300 < (N:Int))=false:=decide_eq_false (by omega)
  have t1n:decide (300 < N)=false:=decide_eq_false (by omega)
  have NW:Hid (∀ w,Calls Tryz.prog 20 #[.int .i64 craft,.int .i64 size] w fun e w'=>e=.returned (.tuple #[.pointer none,.int .i64 2])/\Below w.heap.size w w'):=Lib.hid (fun w=>by
    refine (newDemux_any craft size w).mono ?_
    rintro e w' ⟨hb,⟨_,e1⟩ | ⟨hn,_⟩⟩
    · exact ⟨e1,hb⟩
    exact absurd hn hbad)
  have NY:Hid (∀ w,Calls Tryz.prog 21 #[.int .i64 craft,.int .i64 size] w fun e w'=>e=.returned (.tuple #[.pointer none,.int .i64 2])/\Below w.heap.size w w'):=Lib.hid (fun w=>by
    refine (rnewDemux_any craft size w).mono ?_
    rintro e w' ⟨hb,⟨_,e1⟩ | ⟨hn,_⟩⟩
    · exact ⟨e1,hb⟩
    exact absurd hn hbad)
  clear hbad hl hN
  go_enter Tryz.func4,Tryz.ntmps4
  go_wp2_with fail
  (with_reducible refine (SH.out _).mono ?_)
  rintro e w2 ⟨rfl,h2⟩
  have B2:=Lib.hid h2
  clear h2
  go_wp2_with fail
  (with_reducible refine (NW.out _).mono ?_)
  rintro e w3 ⟨rfl,h3⟩
  have B3:=Lib.hid (bt B2.out h3)
  clear h3
  go_wp2_with fail
  (with_reducible refine (NY.out _).mono ?_)
  rintro e w4 ⟨rfl,h4⟩
  have B4:=Lib.hid (bt B3.out h4)
  clear h4
  go_wp2_with fail
  refine wp_loop_rounds 1 ?_
  rw [rounds_succ]
  by_cases h0:0 < N
  · have q0:decide ((0:Int) < (N:Int))=true:=decide_eq_true (by omega)
    have q0n:decide (0 < N)=true:=decide_eq_true h0
    go_wp2_with fail
    go_ret
    exact ⟨rfl,B4.out⟩
  have q0:decide ((0:Int) < (N:Int))=false:=decide_eq_false (by omega)
  have q0n:decide (0 < N)=false:=decide_eq_false h0
  go_wp2_with fail
  go_ret
  exact ⟨rfl,B4.out⟩
theorem walk_ok (craft size:Int) (a:Option Addr) (cap:Nat) (l:List ByteArray) (hl:l.length<=300) (hok:NdOk craft size) (w:World) (R:Strs w a l):Calls Tryz.prog 4 #[.int .i64 craft,.int .i64 size,.slice a l.length cap] w fun e w'=>e=.returned (.bool true)/\Below w.heap.size w w':=by
  have SH:=Lib.hid (fun w=>cshown_any w)
  obtain ⟨N,hN⟩:∃ N,l.length=N:=⟨_,rfl⟩
  have HN:=Lib.hid hN
  rw [hN] at hl ⊢
  have t1:decide (300 < (N:Int))=false:=decide_eq_false (by omega)
  have t1n:decide (300 < N)=false:=decide_eq_false (by omega)
  obtain ⟨x0,hx0⟩:∃ z,Ch.Dx.new size.toNat craft.toNat=z:=⟨_,rfl⟩
  have OX:=Lib.hid (show x0.Ok by
    rw [<-hx0]
    obtain ⟨g1,g2⟩:=hok
    exact Ch.Dx.Ok.new (by omega) (by omega) (by omega))
  have IX:=Lib.hid (show x0.Inv by rw [<-hx0]; exact Ch.Dx.Inv.new _ _)
  have NW:Hid (∀ w,Calls Tryz.prog 20 #[.int .i64 craft,.int .i64 size] w fun e w'=>∃ D,e=.returned (.tuple #[.pointer (some ⟨D,0,none⟩),.int .i64 0])/\PD w' w.heap.size D x0/\Below w.heap.size w w'):=Lib.hid (fun w=>by
    refine (newDemux_any craft size w).mono ?_
    rintro e w' ⟨hb,⟨hn,_⟩ | ⟨_,D,e1,p⟩⟩
    · exact absurd hok hn
    rw [hx0] at p
    exact ⟨D,e1,p,hb⟩)
  have NY:Hid (∀ w,Calls Tryz.prog 21 #[.int .i64 craft,.int .i64 size] w fun e w'=>∃ D,e=.returned (.tuple #[.pointer (some ⟨D,0,none⟩),.int .i64 0])/\QD w' w.heap.size D x0/\Below w.heap.size w w'):=Lib.hid (fun w=>by
    refine (rnewDemux_any craft size w).mono ?_
    rintro e w' ⟨hb,⟨hn,_⟩ | ⟨_,D,e1,p⟩⟩
    · exact absurd hok hn
    rw [hx0] at p
    exact ⟨D,e1,p,hb⟩)
  have nqD:=Lib.hid (fun X w=>eqlD_not ⟨X,0,none⟩ w)
  have HR0:=Lib.hid R
  clear hok hN hx0 R
  go_enter Tryz.func4,Tryz.ntmps4
  go_wp2_with fail
  (with_reducible refine (SH.out _).mono ?_)
  rintro e w2 ⟨rfl,h2⟩
  have B2:=Lib.hid h2
  clear h2
  go_wp2_with fail
  (with_reducible refine (NW.out _).mono ?_)
  rintro e w3 ⟨D,rfl,P3,h3⟩
  have HP3:=Lib.hid P3
  have B3:=Lib.hid (bt B2.out h3)
  have S3:=Lib.hid h3.size
  clear P3 h3
  go_wp2_with fail
  (with_reducible refine (NY.out _).mono ?_)
  rintro e w4 ⟨E,rfl,Q4,h4⟩
  have B4:=Lib.hid (bt B3.out h4)
  have M4:Hid (DD w.heap.size w w4 w2.heap.size w3.heap.size D E x0):=Lib.hid ⟨HP3.out.below h4,Q4,OX.out,IX.out,B4.out,Nat.le_trans S3.out h4.size,h4.size,B2.out.size,B3.out.size⟩
  have n4:=nqD.out D w4
  obtain ⟨n5,hn5⟩:∃ n,w2.heap.size=n:=⟨_,rfl⟩
  obtain ⟨n6,hn6⟩:∃ n,w3.heap.size=n:=⟨_,rfl⟩
  rw [hn5,hn6] at M4
  clear h4 Q4 HP3 B2 B3 B4 S3 NW NY OX IX hn5 hn6
  go_wp2_with fail
  go_loopw [11] (fun x11 wr=>∃ (i:Nat) (x:Ch.Dx),i<=N/\x11=.int .i64 i/\DD w.heap.size w wr n5 n6 D E x) (fun x11 _=>N - (intOf x11).toNat)
  case atStart=>exact ⟨0,x0,Nat.zero_le _,rfl,M4.out⟩
  case round=>
    obtain ⟨i,x,hi,rfl,hm⟩:=hrel
    have HM:=Lib.hid hm
    clear hm M4 n4
    by_cases hlt:i < N
    · obtain ⟨s,hz⟩:∃ z,l[i]?=some z:=⟨l[i]'(by have:=HN.out; omega),List.getElem?_eq_getElem (by have:=HN.out; omega)⟩
      rcases HR0.out with e0 | ⟨Bk,off,rfl,hBl,hz2⟩
      · rw [e0] at hz; cases hz
      obtain ⟨hz3,hz4⟩:=hz2 i _ hz
      have ZR:=Lib.hid (fun W (b:Below w.heap.size w W)=>show W.cell? ⟨Bk,off + i,none⟩=some (.string s) from (b.cell (p:=⟨Bk,off + i,none⟩) hBl).trans hz3)
      have hsm:s.size<=9223372036854775807:=by unfold maxLen at hz4; exact Nat.le_trans hz4 (by omega)
      have c0:=ZR.out wr HM.out.b
      have i0:(0:Int)<=(i:Int):=by omega
      have i1:(i:Int) < (N:Int):=by omega
      have i2:(i:Int) < 301:=by omega
      have HI1:=Lib.hid (show i + 1<=N from hlt)
      clear hz hz2 hz3 hz4 hlt hi
      by_cases hz:2000 < s.size
      · have q1:decide ((2000:Int) < (s.size:Int))=true:=decide_eq_true (by omega)
        have q1n:decide (2000 < s.size)=true:=decide_eq_true hz
        clear hz
        go_wp2_with fail
        go_ret
        exact ⟨rfl,HM.out.b⟩
      have q1:decide ((2000:Int) < (s.size:Int))=false:=decide_eq_false (by omega)
      have q1n:decide (2000 < s.size)=false:=decide_eq_false hz
      have FXC:=Lib.hid (HM.out.feedX s (by omega))
      have SZ:=Lib.hid (show s.size<=1000000 by omega)
      have FEW:=Lib.hid (feed_few x HM.out.ok s)
      obtain ⟨⟨av,er,x2⟩,hr⟩:∃ r,x.feed s=r:=⟨_,rfl⟩
      have HR:=Lib.hid hr
      rw [hr] at FXC FEW
      dsimp only at FXC FEW
      clear hz hr HM
      go_wp2_with fail
      (with_reducible refine FXC.out.mono ?_)
      rintro e w5 ⟨sa,ca,rfl,hrow,hdh⟩
      have RX:=Lib.hid hrow
      have DH5:=Lib.hid hdh
      clear hrow hdh FXC c0
      go_upto_region 15 with (first
        | ((with_reducible refine atList ?_); refine wpList_newT rfl (.alloc 51) rfl (some 12) rfl #[.int .i64 0,.bool false,.int .i64 0,.int .i64 0,.slice none 0 0,.int .i64 0,.int .u32 0] 51 (fun X=>.pointer (some ⟨X,0,none⟩)) 7 (aC (.slice none 0 0) Ch.av0) (arC_cells (.slice none 0 0) Ch.av0) (alloc_ar rfl) ?_; intro P w6 HP SP CP BP TP)
        | ((with_reducible refine atList ?_); refine wpList_setAllT rfl 51 (.tmp 12) (.tmp 66) rfl P 7 [.int .i64 (av.ch:Nat),.bool av.db,.int .i64 (av.lo:Nat),.int .i64 (av.mi:Nat),.slice sa av.pk.length ca,.int .i64 (av.br:Nat),.int .u32 (av.wo:Nat)] _ (aC (.slice sa av.pk.length ca) av) CP.out rfl (arC_list (.slice sa av.pk.length ca) av) rfl rfl info_ar (by simp [Value.oneCell']) ?_; intro w7 Cw7 Uw7 Sw7 Vw7))
      have B57:=Lib.hid (show Below w5.heap.size w5 w7 from But.under BP.out Uw7.out (by have:=HP.out; omega))
      have RX7:=Lib.hid (own_below RX.out B57.out)
      have DH7:=Lib.hid (DH5.out.below B57.out)
      have TP7:=Lib.hid (Vw7.out _ TP.out)
      have CP7:=Lib.hid Cw7.out
      have c7:=ZR.out w7 DH7.out.b
      have FYC:=Lib.hid (DH.feedY (s:=s) (by rw [HR.out]; exact DH7.out) SZ.out)
      rw [HR.out] at FYC
      dsimp only at FYC
      clear RX DH5 HP SP CP BP TP Cw7 Uw7 Sw7 Vw7 B57
      go_wp2_with fail
      (with_reducible refine FYC.out.mono ?_)
      rintro e w8 ⟨sb,cb,rfl,hrow,hdd,hk⟩
      have RY:=Lib.hid hrow
      have DD8:=Lib.hid hdd
      have kE:∀ g t,TyB w7 g t->t ≠ 108->w8.heap[g]?=w7.heap[g]?:=fun g t T ht=>hk.rest g T.lt (fun e=>ty_ne T DH7.out.qd.dt ht e)
      have CP8:=Lib.hid (CP7.out.of_block (kE _ _ TP7.out (by decide)))
      have RX8:=Lib.hid (own_keep RX7.out (fun g hg hl=>kE g _ (own_ty RX7.out hg).2 (by decide)))
      clear hrow hdd hk kE FYC CP7 RX7 TP7 c7
      go_upto_region 16 with (first
        | ((with_reducible refine atList ?_); refine wpList_newT rfl (.alloc 51) rfl (some 14) rfl #[.int .i64 0,.bool false,.int .i64 0,.int .i64 0,.slice none 0 0,.int .i64 0,.int .u32 0] 51 (fun X=>.pointer (some ⟨X,0,none⟩)) 7 (aC (.slice none 0 0) Ch.av0) (arC_cells (.slice none 0 0) Ch.av0) (alloc_ar rfl) ?_; intro Q w9 HQ SQ CQ BQ TQ)
        | ((with_reducible refine atList ?_); refine wpList_setAllT rfl 51 (.tmp 14) (.tmp 75) rfl Q 7 [.int .i64 (av.ch:Nat),.bool av.db,.int .i64 (av.lo:Nat),.int .i64 (av.mi:Nat),.slice sb av.pk.length cb,.int .i64 (av.br:Nat),.int .u32 (av.wo:Nat)] _ (aC (.slice sb av.pk.length cb) av) CQ.out rfl (arC_list (.slice sb av.pk.length cb) av) rfl rfl info_ar (by simp [Value.oneCell']) ?_; intro w10 Cw10 Uw10 Sw10 Vw10))
      have B810:=Lib.hid (show Below w8.heap.size w8 w10 from But.under BQ.out Uw10.out (by have:=HQ.out; omega))
      have RX10:=Lib.hid (own_below RX8.out B810.out)
      have RY10:=Lib.hid (own_below RY.out B810.out)
      have CP10:=Lib.hid (CP8.out.below B810.out)
      have DD10:=Lib.hid (DD8.out.below B810.out)
      have SM:=Lib.hid (same_some av.ch av.lo av.mi av.br av.wo av.db av.pk sa sb ca cb _ _ FEW.out w10 RX10.out RY10.out)
      have CQ10:=Lib.hid Cw10.out
      clear RX8 RY CP8 DD8 HQ SQ CQ BQ TQ Cw10 Uw10 Sw10 Vw10 B810 RX10 RY10
      go_wp2_with (first
        | ((with_reducible refine atList ?_); refine wpList_getAll rfl 51 (.tmp 12) rfl P 7 [.int .i64 (av.ch:Nat),.bool av.db,.int .i64 (av.lo:Nat),.int .i64 (av.mi:Nat),.slice sa av.pk.length ca,.int .i64 (av.br:Nat),.int .u32 (av.wo:Nat)] (aC (.slice sa av.pk.length ca) av) _ CP10.out rfl (arC_list (.slice sa av.pk.length ca) av) rfl Tryz.underlying51 rfl info_ar ?_)
        | ((with_reducible refine atList ?_); refine wpList_getAll rfl 51 (.tmp 14) rfl Q 7 [.int .i64 (av.ch:Nat),.bool av.db,.int .i64 (av.lo:Nat),.int .i64 (av.mi:Nat),.slice sb av.pk.length cb,.int .i64 (av.br:Nat),.int .u32 (av.wo:Nat)] (aC (.slice sb av.pk.length cb) av) _ CQ10.out rfl (arC_list (.slice sb av.pk.length cb) av) rfl Tryz.underlying51 rfl info_ar ?_))
      (with_reducible refine SM.out.mono ?_)
      rintro e w11 ⟨rfl,h11⟩
      have DD11:=Lib.hid (DD10.out.below h11)
      have er1:(er != er)=false:=by simp
      clear h11 SM
      go_wp2_with fail
      go_roundw
      case rel=>exact ⟨i + 1,x2,HI1.out,by go_num,DD11.out⟩
      case measure=>simp [intOf]; have:=HI1.out; omega
    obtain rfl:i=N:=by omega
    have q0:decide ((i:Int) < (i:Int))=false:=decide_eq_false (by omega)
    have q0n:decide (i < i)=false:=decide_eq_false (by omega)
    clear hlt hi
    go_wp2_with fail
    go_ret
    exact ⟨rfl,HM.out.b⟩
theorem walk (craft:Int) (hc:(Lit.int .i64 craft).wf=true) (size:Int) (hs:(Lit.int .i64 size).wf=true) (a:Option Addr) (cap:Nat) (l:List ByteArray) (h1:l.length<=cap) (h2:cap<=maxLen) (w:World) (R:Strs w a l):Calls Tryz.prog 4 #[.int .i64 craft,.int .i64 size,.slice a l.length cap] w fun e w'=>e=.returned (.bool true)/\Below w.heap.size w w':=by
  by_cases hl:300 < l.length
  · exact walk_long craft size a cap l hl w
  by_cases hok:NdOk craft size
  · exact walk_ok craft size a cap l (by omega) hok w R
  exact walk_bad craft size a cap l (by omega) hok w

theorem lifted (os:Os) (started:os.Started) (H:Type) (enc:TypeId × Value->H):
    ReturnsInHanded {} Tryz.checked os 4 .any (Rows.channelsDemuxSpec.pre6 enc Tryz.prog Tryz.f4 Rows.channelsDemuxRow.domain false) (Rows.channelsDemuxSpec.post enc Tryz.prog Tryz.f4 false true false false):=by
  refine returnsInHanded_of_change (C:=Tryz.checked) own started (by kernel_rfl) Tryz.func4
    (ChangeSpec.witness6 (enc:=enc) (C:=Tryz.checked) false ⟨#[],#[.int .i64 0,.int .i64 0,.slice none 0 0],[]⟩ 8 (by kernel_rfl) (by kernel_rfl) (by kernel_rfl) (by kernel_rfl)) ?_
  intro W base args ds gs before hval0 hW _ _
  have hval:∀ (j:Nat) t v,Tryz.f4.params[j]?=some t->args[j]?=some v->Value.okWide Tryz.prog W .any base t v:=hval0
  have hW':=hW
  obtain ⟨p,q,hA0,hV,rfl,hfz,hnd⟩:=hW
  have hA:DataW.TrodAll enc Tryz.prog W 0 (fun _=>true) true Tryz.f4.params.toList args.toList ds p:=hA0
  rw [Tryz.params4] at hA hval
  obtain ⟨v0,vs0,d0,ds0,p0,q0,hargs,rfl,rfl,h0,r0⟩:=trodAll_cons hA
  obtain ⟨v1,vs1,d1,ds1,p1,q1,rfl,rfl,rfl,h1,r1⟩:=trodAll_cons r0
  obtain ⟨v2,vs2,d2,ds2,p2,q2,rfl,rfl,rfl,h2,r2⟩:=trodAll_cons r1
  obtain ⟨rfl,rfl,rfl⟩:=trodAll_nil r2
  obtain rfl:args=#[v0,v1,v2]:=by cases args; simp_all
  obtain ⟨rfl,rfl⟩:=trodVars_none hV
  obtain ⟨a0,rfl,rfl,rfl,w0⟩:=open_int Tryz.underlying3 (hval 0 3 v0 rfl rfl) h0
  obtain ⟨a1,rfl,rfl,rfl,w1⟩:=open_int Tryz.underlying3 (hval 1 3 v1 rfl rfl) h1
  obtain ⟨x2,y2,z2,e2⟩:=okWide_slice Tryz.underlying43 (hval 2 43 v2 rfl rfl)
  have S2:=strs_arg (by rw [e2]; rfl) h2
  clear e2
  obtain ⟨ao2,zs2,cap2,rfl,l2,m2,R2,shut2⟩:=S2
  clear hA0 hval0
  simp only [List.append_nil] at hW'
  refine (walk a0 w0 a1 w1 ao2 cap2 zs2 l2 m2 W R2).mono fun e W' ⟨he,hg⟩=>?_
  subst he
  exact ⟨_,rfl,post_of_below (pa:=([] ++ ([] ++ (p2 ++ [])))) (pv:=[]) hW' (fun _ _ _=>trodAll_cons_mk (shut_bool Tryz.underlying4 _) trodAll_mk0) (fun sp hsp=>(trodAll_cons_mk (shut_int Tryz.underlying3 w0) (trodAll_cons_mk (shut_int Tryz.underlying3 w1) (trodAll_cons_mk (shut2 W' hg sp (fun q hq=>hsp q (by simp [hq]))) trodAll_mk0)))) (fun _ _=>rfl) (by simp)
    hg (ok_one (by kernel_rfl) rfl (okWide_bool_mk Tryz.underlying4 _))⟩

theorem proved:Rows.ChannelsDemuxSaid:=
  OpenClaim.holds_of_wide 4 Tryz.f4 rfl rfl rfl rfl rfl rfl rfl ⟨rfl,rfl,rfl,rfl,rfl⟩ rfl rfl rfl rfl rfl (by kernel_rfl) Tryz.func4 (by kernel_rfl)
    (of_decide_eq_true (by kernel_rfl)) (by unfold Func.isWrapper; first | (rw [if_pos (by decide +kernel)]; kernel_rfl) | (rw [if_neg (by decide +kernel)]; exact ⟨rfl,rfl⟩))
    (fun os started H enc _=>lifted os started H enc)
#print axioms proved
end channelsDemux
end Go.Proofs.YtchfkncbemjepaaGreat
