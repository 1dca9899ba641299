/- ChSmall -/
import Derived.Test.YtchfkncbemjepaaGreatChAll
set_option linter.unusedVariables false
set_option maxRecDepth 100000
/- Layer 11, the landed program: Add and Waiting of a mux. -/
namespace Go.Proofs.YtchfkncbemjepaaGreat
open Go.RowKit

section
variable {w:World} {n0 M:Nat} {x:Ch.Mx} {X:Nat->Nat} {va vb:Nat->Value}
theorem mAdd_no (h:PM w n0 M x X va vb) (c:Int) (hc:¬ (0<=c/\c < 8)) (p:ByteArray):Calls Tryz.prog 12 #[.pointer (some ⟨M,0,none⟩),.int .i64 c,.string p] w fun e w'=>e=.returned (.int .i64 2)/\w=w':=by
  have MD:=Lib.hid (mmade_any h.own)
  have CN:=Lib.hid (cchan_any c w)
  rw [decide_eq_false hc] at CN
  clear h hc
  go_enter Tryz.func12,Tryz.ntmps12
  go_wp2_with fail
  (with_reducible refine MD.out.mono ?_)
  rintro e w' ⟨rfl,rfl⟩
  go_wp2_with fail
  (with_reducible refine CN.out.mono ?_)
  rintro e w' ⟨rfl,rfl⟩
  go_wp2_with fail
  go_ret
  exact ⟨rfl,rfl⟩
theorem mAdd_any (h:PM w n0 M x X va vb) (o:x.Ok) (hn0:n0<=w.heap.size) (c:Nat) (hc:c < 8) (p:ByteArray) (hp:p.size<=2000):
    Calls Tryz.prog 12 #[.pointer (some ⟨M,0,none⟩),.int .i64 (c:Nat),.string p] w fun e w'=>e=.returned (.int .i64 (acV (x.fl c) p))/\∃ va' vb',PM w' n0 M (x.add c p) X va' vb'/\KF n0 (SM M X va vb) (SM M X va' vb') w w':=by
  have MD:=Lib.hid (mmade_any h.own)
  have CN:=Lib.hid (cchan_any (c:Int) w)
  rw [decide_eq_true (show 0<=(c:Int)/\(c:Int) < 8 by omega)] at CN
  have c0:w.cell? ⟨M,4 + c * 6,none⟩=some (.pointer (some ⟨X c,0,none⟩)):=h.out hc (k:=0) (by omega)
  have i0:(0:Int)<=(c:Int):=by omega
  have i1:(c:Int) < 8:=by omega
  have VA:=Lib.hid (vadd (h.f c hc) (o.fl c hc) hn0 p hp)
  have HP:=Lib.hid h
  have HC:=Lib.hid hc
  clear h o hn0 hp hc
  go_enter Tryz.func12,Tryz.ntmps12
  go_wp2_with fail
  (with_reducible refine MD.out.mono ?_)
  rintro e w' ⟨rfl,rfl⟩
  go_wp2_with fail
  (with_reducible refine CN.out.mono ?_)
  rintro e w' ⟨rfl,rfl⟩
  go_wp2_with fail
  (refine VA.out.mono ?_)
  rintro e w1 ⟨rfl,va',vb',P1,K1⟩
  have R:=Lib.hid (HP.out.setF HC.out P1 K1)
  clear P1 K1
  go_wp2_with fail
  go_ret
  exact ⟨rfl,_,_,R.out.1,R.out.2⟩
theorem mWaiting_any (h:PM w n0 M x X va vb) (o:x.Ok) (c:Nat) (hc:c < 8):
    Calls Tryz.prog 18 #[.pointer (some ⟨M,0,none⟩),.int .i64 (c:Nat)] w fun e w'=>e=.returned (.int .i64 (x.wt c:Nat))/\∃ m,w'=w.drewN m:=by
  have MD:=Lib.hid (mmade_any h.own)
  have CN:=Lib.hid (cchan_any (c:Int) w)
  rw [decide_eq_true (show 0<=(c:Int)/\(c:Int) < 8 by omega)] at CN
  have c0:w.cell? ⟨M,4 + c * 6,none⟩=some (.pointer (some ⟨X c,0,none⟩)):=h.out hc (k:=0) (by omega)
  have i0:(0:Int)<=(c:Int):=by omega
  have i1:(c:Int) < 8:=by omega
  have VW:=Lib.hid (vwait (h.f c hc) (o.fl c hc))
  clear h o hc
  go_enter Tryz.func18,Tryz.ntmps18
  go_wp2_with fail
  (with_reducible refine MD.out.mono ?_)
  rintro e w' ⟨rfl,rfl⟩
  go_wp2_with fail
  (with_reducible refine CN.out.mono ?_)
  rintro e w' ⟨rfl,rfl⟩
  go_wp2_with fail
  (refine VW.out.mono ?_)
  rintro e w1 ⟨rfl,m,rfl⟩
  go_wp2_with fail
  go_ret
  exact ⟨rfl,m,rfl⟩
end
end Go.Proofs.YtchfkncbemjepaaGreat
