/- ChClear -/
import Derived.Test.YtchfkncbemjepaaGreatChNew
import Derived.Test.YtchfkncbemjepaaGreatChNext
set_option linter.unusedVariables false
set_option maxRecDepth 100000
set_option maxHeartbeats 4000000
/- Layer 11, the landed program: Clear of a mux. -/
namespace Go.Proofs.YtchfkncbemjepaaGreat
open Go.RowKit

theorem PM.congr {w:World} {n0 M:Nat} {x x':Ch.Mx} {X:Nat->Nat} {va vb:Nat->Value} (h:PM w n0 M x X va vb) (hn:x'.n=x.n) (hc:x'.craft=x.craft) (hm:x'.ma=x.ma)
    (h1:∀ i,i < 8->x'.pr i=x.pr i) (h2:∀ i,i < 8->x'.sh i=x.sh i) (h3:∀ i,i < 8->x'.fl i=x.fl i) (h4:∀ i,i < 8->x'.ct i=x.ct i) (h5:∀ i,i < 8->x'.cr i=x.cr i):PM w n0 M x' X va vb:=by
  refine ⟨h.xl,h.ty,h.c.congr (fun j hj=>?_),fun i hi=>?_,h.ap⟩
  · unfold mC
    by_cases h4':4<=j
    · rw [if_pos h4',if_pos h4']
      have hq:(j - 4) / 6 < 8:=by omega
      have hk:(j - 4) % 6 < 6:=by omega
      match (j - 4) % 6,hk with
      | 0,_=>rfl
      | 1,_=>rfl
      | 2,_=>exact congrArg (fun z:Nat=>Value.int .i64 z) (h1 _ hq).symm
      | 3,_=>exact congrArg (fun z:Nat=>Value.int .i64 z) (h2 _ hq).symm
      | 4,_=>exact congrArg (fun z:Nat=>Value.int .i64 z) (h5 _ hq).symm
      | 5,_=>exact congrArg (fun z:Nat=>Value.int .i64 z) (h4 _ hq).symm
    rw [if_neg h4',if_neg h4']
    match j,h4' with
    | 0,_=>rfl
    | 1,_=>exact congrArg (fun z:Nat=>Value.int .i64 z) hc.symm
    | 2,_=>exact congrArg (fun z:Nat=>Value.int .i64 z) hn.symm
    | 3,_=>exact congrArg (fun z:Nat=>Value.int .i64 z) hm.symm
    | j + 4,h=>exact absurd (by omega) h
  rw [hn,h3 i hi]
  exact h.f i hi
def clrI (x:Ch.Mx) (i:Nat):Ch.Mx:={ x with ma:=0,fl:=fun j=>if j < i then s0 else x.fl j,ct:=fun j=>if j < i then 0 else x.ct j,cr:=fun j=>if j < i then 0 else x.cr j }
theorem upd_lt {α:Type} (f:Nat->α) (i:Nat) (a:α):Ch.upd (fun j=>if j < i then a else f j) i a=fun j=>if j < i + 1 then a else f j:=by
  funext j
  unfold Ch.upd
  by_cases e:j=i
  · subst e
    rw [if_pos rfl,if_pos (by omega)]
  rw [if_neg e]
  show (if j < i then a else f j)=_
  by_cases g:j < i
  · rw [if_pos g,if_pos (by omega)]
  rw [if_neg g,if_neg (by omega)]
theorem clrI_fl (x:Ch.Mx) (i:Nat):(clrI x 0).fl i=x.fl i:=by
  show (if i < 0 then s0 else x.fl i)=x.fl i
  exact if_neg (Nat.not_lt_zero i)
theorem clrI_ct (x:Ch.Mx) (i:Nat):(clrI x 0).ct i=x.ct i:=by
  show (if i < 0 then 0 else x.ct i)=x.ct i
  exact if_neg (Nat.not_lt_zero i)
theorem clrI_cr (x:Ch.Mx) (i:Nat):(clrI x 0).cr i=x.cr i:=by
  show (if i < 0 then 0 else x.cr i)=x.cr i
  exact if_neg (Nat.not_lt_zero i)
theorem clrI_step (x:Ch.Mx) (i:Nat):{ clrI x i with fl:=Ch.upd (clrI x i).fl i s0,cr:=Ch.upd (clrI x i).cr i 0,ct:=Ch.upd (clrI x i).ct i 0 }=clrI x (i + 1):=by
  unfold clrI
  simp only
  rw [upd_lt,upd_lt,upd_lt]
theorem mClear_any {w:World} {n0 M:Nat} {x:Ch.Mx} {X:Nat->Nat} {va vb:Nat->Value} (h:PM w n0 M x X va vb) (hn0:n0<=w.heap.size):
    Calls Tryz.prog 14 #[.pointer (some ⟨M,0,none⟩)] w fun e w'=>(∃ v,e=.returned v)/\∃ va' vb',PM w' n0 M x.clr X va' vb'/\KF n0 (SM M X va vb) (SM M X va' vb') w w':=by
  have MD:=Lib.hid (mmade_any h.own)
  have HP:=Lib.hid h
  have MC:=Lib.hid (mC_ma M x X 0)
  clear h
  go_enter Tryz.func14,Tryz.ntmps14
  go_wp2_with fail
  (with_reducible refine MD.out.mono ?_)
  rintro e w' ⟨rfl,rfl⟩
  go_wp2_with (((with_reducible refine atList ?_); refine wpList_setT rfl (.store 3 (.tmp 9) (.const (.int .i64 0))) rfl M 3 52 (.int .i64 ((0:Nat):Int)) _ _ HP.out.c (by omega) MC.out (store_int rfl rfl rfl (HP.out.c.cell (j:=3) (by omega)) (HP.out.c.frozen (j:=3) (by omega))) ?_; intro w1 C1 U1 S1 V1))
  have P1:=Lib.hid ((HP.out.setM (x':={ x with ma:=0 }) U1.out C1.out (V1.out _ HP.out.ty) rfl rfl).congr (x':=clrI x 0) rfl rfl rfl (fun _ _=>rfl) (fun _ _=>rfl) (fun i _=>clrI_fl x i) (fun i _=>clrI_ct x i) (fun i _=>clrI_cr x i))
  have K1:=Lib.hid (HP.out.kfM U1.out)
  go_loopw [10] (fun x10 wr=>∃ (i:Nat) (va' vb':Nat->Value),i<=8/\x10=.int .i64 i/\PM wr n0 M (clrI x i) X va' vb'/\KF n0 (SM M X va vb) (SM M X va' vb') w wr) (fun x10 _=>8 - (intOf x10).toNat)
  case atStart=>exact ⟨0,_,_,Nat.zero_le _,rfl,P1.out,K1.out⟩
  case round=>
    obtain ⟨i,va',vb',hi,rfl,hP,hK⟩:=hrel
    have PR:=Lib.hid hP
    have KR:=Lib.hid hK
    clear hP hK
    by_cases hlt:i < 8
    · have i1:(i:Int) < 8:=by omega
      have i0:(0:Int)<=(i:Int):=by omega
      have c0:wr.cell? ⟨M,4 + i * 6,none⟩=some (.pointer (some ⟨X i,0,none⟩)):=PR.out.out hlt (k:=0) (by omega)
      have VC:=Lib.hid (vclear (PR.out.f i hlt))
      have Q4:=Lib.hid (show 4 + i * 6 + 4 < 52 by omega)
      have Q5:=Lib.hid (show 4 + i * 6 + 5 < 52 by omega)
      have HI:=Lib.hid hlt
      have M4:=Lib.hid (mC_cr M { clrI x i with fl:=Ch.upd (clrI x i).fl i s0 } X i 0)
      have M5:=Lib.hid (mC_ct M { clrI x i with fl:=Ch.upd (clrI x i).fl i s0,cr:=Ch.upd (clrI x i).cr i 0 } X i 0)
      have CS:=Lib.hid (clrI_step x i)
      obtain ⟨q,hq⟩:∃ q,4 + i * 6=q:=⟨_,rfl⟩
      rw [hq] at c0 Q4 Q5 M4 M5
      go_wp2_with fail
      (refine VC.out.mono ?_)
      rintro e w2 ⟨⟨v,rfl⟩,va2,vb2,P2,K2⟩
      have R:=PR.out.setF HI.out P2 K2
      have P3:=Lib.hid R.1
      have K3:=Lib.hid (KR.out.trans R.2)
      clear R P2 K2 c0 hq
      go_wp2_with (first
        | ((with_reducible refine atList ?_); refine wpList_setT rfl (.store 3 (.tmp 26) (.const (.int .i64 0))) rfl M (q + 4) 52 (.int .i64 ((0:Nat):Int)) _ _ P3.out.c Q4.out M4.out (store_int rfl rfl rfl (P3.out.c.cell Q4.out) (P3.out.c.frozen Q4.out)) ?_; intro w4 C4 U4 S4 V4; have P4:=Lib.hid (P3.out.setM (x':={ clrI x i with fl:=Ch.upd (clrI x i).fl i s0,cr:=Ch.upd (clrI x i).cr i 0 }) U4.out C4.out (V4.out _ P3.out.ty) rfl rfl))
        | ((with_reducible refine atList ?_); refine wpList_setT rfl (.store 3 (.tmp 28) (.const (.int .i64 0))) rfl M (q + 5) 52 (.int .i64 ((0:Nat):Int)) _ _ P4.out.c Q5.out M5.out (store_int rfl rfl rfl (P4.out.c.cell Q5.out) (P4.out.c.frozen Q5.out)) ?_; intro w5 C5 U5 S5 V5; have P5:=Lib.hid (P4.out.setM (x':={ clrI x i with fl:=Ch.upd (clrI x i).fl i s0,cr:=Ch.upd (clrI x i).cr i 0,ct:=Ch.upd (clrI x i).ct i 0 }) U5.out C5.out (V5.out _ P4.out.ty) rfl rfl)))
      have K5:=Lib.hid (K3.out.trans ((P3.out.kfM U4.out).trans (P4.out.kfM U5.out)))
      go_roundw
      case rel=>exact ⟨i + 1,_,_,by omega,by go_num,by rw [<-CS.out]; exact P5.out,K5.out⟩
      case measure=>simp [intOf]; omega
    obtain rfl:8=i:=by omega
    go_wp2_with fail
    first | go_ret | go_end0 | refine bodyPost_end (results_none rfl _ _ _) rfl ?_ | refine bodyPost_ret (results_none rfl _ _ _) rfl ?_
    refine ⟨⟨_,rfl⟩,va',vb',PR.out.congr rfl rfl rfl (fun _ _=>rfl) (fun _ _=>rfl) (fun i h=>?_) (fun i h=>?_) (fun i h=>?_),KR.out⟩
    · exact (if_pos h).symm
    · exact (if_pos h).symm
    exact (if_pos h).symm
end Go.Proofs.YtchfkncbemjepaaGreat
