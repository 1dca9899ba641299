/- PpParsed -/
import Derived.Test.YtchfkncbemjepaaGreatPpHead
import Derived.Test.YtchfkncbemjepaaGreatPkGet
import Derived.Test.YtchfkncbemjepaaGreatPkJoin
import Derived.Test.YtchfkncbemjepaaGreatTyKit
set_option linter.unusedVariables false
set_option maxRecDepth 100000
set_option maxHeartbeats 8000000
/- Layer 9, the landed program: read, which puts the numbers of a header into their places. -/
namespace Go.Proofs.YtchfkncbemjepaaGreat
open Go.RowKit Go.Shelf

theorem unpack_hdr (B:Nat) (s:ByteArray) (hs:s.size=6) (w:World) (R:FReads .i64 w (some ⟨B,0,none⟩) Pk.wid):Calls Tryz.prog 118 #[.slice (some ⟨B,0,none⟩) 7 7,.string s] w fun e w'=>
    ∃ N off cap,e=.returned (.tuple #[.slice (some ⟨N,off,none⟩) 7 cap,.int .i64 0])/\(w.heap.size<=N/\N < w'.heap.size)/\(∀ j,j < 7->w'.cell? ⟨N,off + j,none⟩=some (.int .u64 ((Pk.flds s.data.toList).getD j 0:Nat)))/\Below w.heap.size w w':=by
  have u:=Pk.unp_six (l:=s.data.toList) (by rw [ls,hs])
  refine (unpack_any (some ⟨B,0,none⟩) 7 Pk.wid s (by decide) (by decide) (by decide) (by omega) w R).mono ?_
  rintro e w' ⟨a,cap,he,hc,hr,hb,hn⟩
  rw [u.2] at he hr
  rw [u.1] at he
  obtain ⟨N,off,rfl,lN,cN⟩:=hr.cell (by show 0 < 7; omega)
  refine ⟨N,off,cap,he,⟨hn N off rfl,lN⟩,fun j hj=>?_,hb⟩
  rw [cN j hj,getD_ofNat _ _ hj]
def One (w:World) (b:Nat) (v:Int):Prop:=Cel w b 1 (fun _=>.int .i64 v)
def Plc (w:World) (Y0 Y1 Y2 Y3 X:Nat) (f:Nat->Nat) (k:Nat):Prop:=
  One w Y0 (if 0 < k then f 0 else 0:Nat)/\One w Y1 (if 1 < k then f 1 else 0:Nat)/\One w Y2 (if 2 < k then f 2 else 0:Nat)/\Cel w X 5 (pkCel ⟨false,(if 3 < k then f 3 else 0:Nat),(if 4 < k then f 4 else 0:Nat),(if 5 < k then f 5 else 0:Nat),⟨#[]⟩⟩)/\One w Y3 (if 6 < k then f 6 else 0:Nat)
def plcP (Y0 Y1 Y2 Y3 X:Nat) (j:Nat):Value:=match j with
  | 0=>.pointer (some ⟨Y0,0,none⟩) | 1=>.pointer (some ⟨Y1,0,none⟩) | 2=>.pointer (some ⟨Y2,0,none⟩) | 3=>.pointer (some ⟨X,1,none⟩) | 4=>.pointer (some ⟨X,2,none⟩) | 5=>.pointer (some ⟨X,3,none⟩) | _=>.pointer (some ⟨Y3,0,none⟩)
def Apart5 (a b c d e:Nat):Prop:=(a ≠ b/\a ≠ c/\a ≠ d/\a ≠ e)/\(b ≠ c/\b ≠ d/\b ≠ e)/\(c ≠ d/\c ≠ e)/\d ≠ e
theorem plc_0 {w:World} {Y0 Y1 Y2 Y3 X:Nat} {f:Nat->Nat} (A:Apart5 Y0 Y1 Y2 Y3 X) (h:Plc w Y0 Y1 Y2 Y3 X f 0):Plc (w.setCell ⟨Y0,0,none⟩ (.int .i64 (f 0:Nat))) Y0 Y1 Y2 Y3 X f 1:=by
  obtain ⟨⟨a1,a2,a3,a4⟩,⟨a5,a6,a7⟩,⟨a8,a9⟩,a10⟩:=A
  obtain ⟨h0,h1,h2,hx,h3⟩:=h
  refine ⟨?_,?_,?_,?_,?_⟩
  · refine (Cel.set h0 0 _).congr (fun j hj=>?_)
    obtain rfl:j=0:=by omega
    rfl
  · exact Cel.setOther h1 (by omega) _
  · exact Cel.setOther h2 (by omega) _
  · exact hx.setOther (by omega) _
  exact Cel.setOther h3 (by omega) _
theorem plc_1 {w:World} {Y0 Y1 Y2 Y3 X:Nat} {f:Nat->Nat} (A:Apart5 Y0 Y1 Y2 Y3 X) (h:Plc w Y0 Y1 Y2 Y3 X f 1):Plc (w.setCell ⟨Y1,0,none⟩ (.int .i64 (f 1:Nat))) Y0 Y1 Y2 Y3 X f 2:=by
  obtain ⟨⟨a1,a2,a3,a4⟩,⟨a5,a6,a7⟩,⟨a8,a9⟩,a10⟩:=A
  obtain ⟨h0,h1,h2,hx,h3⟩:=h
  refine ⟨?_,?_,?_,?_,?_⟩
  · exact Cel.setOther h0 (by omega) _
  · refine (Cel.set h1 0 _).congr (fun j hj=>?_)
    obtain rfl:j=0:=by omega
    rfl
  · exact Cel.setOther h2 (by omega) _
  · exact hx.setOther (by omega) _
  exact Cel.setOther h3 (by omega) _
theorem plc_2 {w:World} {Y0 Y1 Y2 Y3 X:Nat} {f:Nat->Nat} (A:Apart5 Y0 Y1 Y2 Y3 X) (h:Plc w Y0 Y1 Y2 Y3 X f 2):Plc (w.setCell ⟨Y2,0,none⟩ (.int .i64 (f 2:Nat))) Y0 Y1 Y2 Y3 X f 3:=by
  obtain ⟨⟨a1,a2,a3,a4⟩,⟨a5,a6,a7⟩,⟨a8,a9⟩,a10⟩:=A
  obtain ⟨h0,h1,h2,hx,h3⟩:=h
  refine ⟨?_,?_,?_,?_,?_⟩
  · exact Cel.setOther h0 (by omega) _
  · exact Cel.setOther h1 (by omega) _
  · refine (Cel.set h2 0 _).congr (fun j hj=>?_)
    obtain rfl:j=0:=by omega
    rfl
  · exact hx.setOther (by omega) _
  exact Cel.setOther h3 (by omega) _
theorem plc_3 {w:World} {Y0 Y1 Y2 Y3 X:Nat} {f:Nat->Nat} (A:Apart5 Y0 Y1 Y2 Y3 X) (h:Plc w Y0 Y1 Y2 Y3 X f 3):Plc (w.setCell ⟨X,1,none⟩ (.int .i64 (f 3:Nat))) Y0 Y1 Y2 Y3 X f 4:=by
  obtain ⟨⟨a1,a2,a3,a4⟩,⟨a5,a6,a7⟩,⟨a8,a9⟩,a10⟩:=A
  obtain ⟨h0,h1,h2,hx,h3⟩:=h
  refine ⟨?_,?_,?_,?_,?_⟩
  · exact Cel.setOther h0 (by omega) _
  · exact Cel.setOther h1 (by omega) _
  · exact Cel.setOther h2 (by omega) _
  · refine (hx.set 1 _).congr (fun j hj=>?_)
    match j,hj with
    | 0,_=>rfl
    | 1,_=>rfl
    | 2,_=>rfl
    | 3,_=>rfl
    | 4,_=>rfl
  exact Cel.setOther h3 (by omega) _
theorem plc_4 {w:World} {Y0 Y1 Y2 Y3 X:Nat} {f:Nat->Nat} (A:Apart5 Y0 Y1 Y2 Y3 X) (h:Plc w Y0 Y1 Y2 Y3 X f 4):Plc (w.setCell ⟨X,2,none⟩ (.int .i64 (f 4:Nat))) Y0 Y1 Y2 Y3 X f 5:=by
  obtain ⟨⟨a1,a2,a3,a4⟩,⟨a5,a6,a7⟩,⟨a8,a9⟩,a10⟩:=A
  obtain ⟨h0,h1,h2,hx,h3⟩:=h
  refine ⟨?_,?_,?_,?_,?_⟩
  · exact Cel.setOther h0 (by omega) _
  · exact Cel.setOther h1 (by omega) _
  · exact Cel.setOther h2 (by omega) _
  · refine (hx.set 2 _).congr (fun j hj=>?_)
    match j,hj with
    | 0,_=>rfl
    | 1,_=>rfl
    | 2,_=>rfl
    | 3,_=>rfl
    | 4,_=>rfl
  exact Cel.setOther h3 (by omega) _
theorem plc_5 {w:World} {Y0 Y1 Y2 Y3 X:Nat} {f:Nat->Nat} (A:Apart5 Y0 Y1 Y2 Y3 X) (h:Plc w Y0 Y1 Y2 Y3 X f 5):Plc (w.setCell ⟨X,3,none⟩ (.int .i64 (f 5:Nat))) Y0 Y1 Y2 Y3 X f 6:=by
  obtain ⟨⟨a1,a2,a3,a4⟩,⟨a5,a6,a7⟩,⟨a8,a9⟩,a10⟩:=A
  obtain ⟨h0,h1,h2,hx,h3⟩:=h
  refine ⟨?_,?_,?_,?_,?_⟩
  · exact Cel.setOther h0 (by omega) _
  · exact Cel.setOther h1 (by omega) _
  · exact Cel.setOther h2 (by omega) _
  · refine (hx.set 3 _).congr (fun j hj=>?_)
    match j,hj with
    | 0,_=>rfl
    | 1,_=>rfl
    | 2,_=>rfl
    | 3,_=>rfl
    | 4,_=>rfl
  exact Cel.setOther h3 (by omega) _
theorem plc_6 {w:World} {Y0 Y1 Y2 Y3 X:Nat} {f:Nat->Nat} (A:Apart5 Y0 Y1 Y2 Y3 X) (h:Plc w Y0 Y1 Y2 Y3 X f 6):Plc (w.setCell ⟨Y3,0,none⟩ (.int .i64 (f 6:Nat))) Y0 Y1 Y2 Y3 X f 7:=by
  obtain ⟨⟨a1,a2,a3,a4⟩,⟨a5,a6,a7⟩,⟨a8,a9⟩,a10⟩:=A
  obtain ⟨h0,h1,h2,hx,h3⟩:=h
  refine ⟨?_,?_,?_,?_,?_⟩
  · exact Cel.setOther h0 (by omega) _
  · exact Cel.setOther h1 (by omega) _
  · exact Cel.setOther h2 (by omega) _
  · exact hx.setOther (by omega) _
  refine (Cel.set h3 0 _).congr (fun j hj=>?_)
  obtain rfl:j=0:=by omega
  rfl
theorem plc_step {w:World} {Y0 Y1 Y2 Y3 X:Nat} {f:Nat->Nat} (A:Apart5 Y0 Y1 Y2 Y3 X) {k:Nat} (hk:k < 7) (h:Plc w Y0 Y1 Y2 Y3 X f k):∃ tb to0 old,plcP Y0 Y1 Y2 Y3 X k=.pointer (some ⟨tb,to0,none⟩)/\(tb=Y0\/tb=Y1\/tb=Y2\/tb=Y3\/tb=X)/\w.cell? ⟨tb,to0,none⟩=some old/\w.frozen? ⟨tb,to0,none⟩=false/\Plc (w.setCell ⟨tb,to0,none⟩ (.int .i64 (f k:Nat))) Y0 Y1 Y2 Y3 X f (k + 1):=by
  match k,hk with
  | 0,_=>exact ⟨Y0,0,_,rfl,by omega,Cel.cell h.1 (j:=0) (by omega),Cel.frozen h.1 (by omega),plc_0 A h⟩
  | 1,_=>exact ⟨Y1,0,_,rfl,by omega,Cel.cell h.2.1 (j:=0) (by omega),Cel.frozen h.2.1 (by omega),plc_1 A h⟩
  | 2,_=>exact ⟨Y2,0,_,rfl,by omega,Cel.cell h.2.2.1 (j:=0) (by omega),Cel.frozen h.2.2.1 (by omega),plc_2 A h⟩
  | 3,_=>exact ⟨X,1,_,rfl,by omega,Cel.cell h.2.2.2.1 (j:=1) (by omega),Cel.frozen h.2.2.2.1 (by omega),plc_3 A h⟩
  | 4,_=>exact ⟨X,2,_,rfl,by omega,Cel.cell h.2.2.2.1 (j:=2) (by omega),Cel.frozen h.2.2.2.1 (by omega),plc_4 A h⟩
  | 5,_=>exact ⟨X,3,_,rfl,by omega,Cel.cell h.2.2.2.1 (j:=3) (by omega),Cel.frozen h.2.2.2.1 (by omega),plc_5 A h⟩
  | 6,_=>exact ⟨Y3,0,_,rfl,by omega,Cel.cell h.2.2.2.2 (j:=0) (by omega),Cel.frozen h.2.2.2.2 (by omega),plc_6 A h⟩

theorem pread_any (s:ByteArray) (hs:s.size=6) (Y0 Y1 Y2 Y3 X PB n0:Nat) (A:Apart5 Y0 Y1 Y2 Y3 X) (AP:PB ≠ Y0/\PB ≠ Y1/\PB ≠ Y2/\PB ≠ Y3/\PB ≠ X) (L:n0<=Y0/\n0<=Y1/\n0<=Y2/\n0<=Y3/\n0<=X) (w:World)
    (C:Plc w Y0 Y1 Y2 Y3 X (fun j=>(Pk.flds s.data.toList).getD j 0) 0) (CP:Cel w PB 7 (plcP Y0 Y1 Y2 Y3 X)):
    Calls Tryz.prog 150 #[.string s,.slice (some ⟨PB,0,none⟩) 7 7] w fun e w'=>e=.returned (.tuple #[])/\Plc w' Y0 Y1 Y2 Y3 X (fun j=>(Pk.flds s.data.toList).getD j 0) 7/\Below n0 w w':=by
  have HWD:=Lib.hid (fun w=>headWidths_any w)
  have UN:=Lib.hid (fun B w (R:FReads .i64 w (some ⟨B,0,none⟩) Pk.wid)=>unpack_hdr B s hs w R)
  obtain ⟨f,hf⟩:∃ f:Nat->Nat,(fun j=>(Pk.flds s.data.toList).getD j 0)=f:=⟨_,rfl⟩
  have fb:∀ j,j < 7->f j<=100000:=fun j hj=>by
    rw [<-hf]
    have b0:=Pk.nb_lt s.data.toList 0
    have b1:=Pk.nb_lt s.data.toList 1
    have b2:=Pk.nb_lt s.data.toList 2
    have b3:=Pk.nb_lt s.data.toList 3
    have b4:=Pk.nb_lt s.data.toList 4
    have b5:=Pk.nb_lt s.data.toList 5
    match j,hj with
    | 0,_=>show Pk.nb s.data.toList 0 / 32<=100000; omega
    | 1,_=>show Pk.nb s.data.toList 0 / 16 % 2<=100000; omega
    | 2,_=>show Pk.nb s.data.toList 0 / 8 % 2<=100000; omega
    | 3,_=>show Pk.nb s.data.toList 0 % 8 * 256 + Pk.nb s.data.toList 1<=100000; omega
    | 4,_=>show Pk.nb s.data.toList 2 / 64<=100000; omega
    | 5,_=>show Pk.nb s.data.toList 2 % 64 * 256 + Pk.nb s.data.toList 3<=100000; omega
    | 6,_=>show Pk.nb s.data.toList 4 * 256 + Pk.nb s.data.toList 5<=100000; omega
  have HF:=Lib.hid hf
  have FB:=Lib.hid fb
  have HA:=Lib.hid A
  have HAP:=Lib.hid AP
  have HL:=Lib.hid L
  rw [hf] at C ⊢
  have HC:=Lib.hid C
  have HP:=Lib.hid CP
  clear hf fb A AP L C CP hs
  go_enter Tryz.func150,Tryz.ntmps150
  go_wp2_with fail
  (with_reducible refine (HWD.out _).mono ?_)
  rintro e w1 ⟨B,rfl,F1,h1⟩
  have U1:=Lib.hid (UN.out B w1 F1)
  have H1:=Lib.hid h1
  clear F1 h1
  go_wp2_with fail
  (with_reducible refine U1.out.mono ?_)
  rintro e w2 ⟨N,off,cap,rfl,⟨N1,N2⟩,cN,h2⟩
  have CN:=Lib.hid (show ∀ j,j < 7->w2.cell? ⟨N,off + j,none⟩=some (.int .u64 (f j:Nat)) from fun j hj=>by rw [cN j hj,<-HF.out])
  have H2:=Lib.hid (bt H1.out h2)
  have NW:=Lib.hid (Nat.le_trans H1.out.size N1)
  have C2:Plc w2 Y0 Y1 Y2 Y3 X f 0:=by
    obtain ⟨q0,q1,q2,qx,q3⟩:=HC.out
    exact ⟨Cel.below q0 H2.out,Cel.below q1 H2.out,Cel.below q2 H2.out,qx.below H2.out,Cel.below q3 H2.out⟩
  have P2:=Lib.hid (HP.out.below H2.out)
  have NN:=Lib.hid (show N ≠ Y0/\N ≠ Y1/\N ≠ Y2/\N ≠ Y3/\N ≠ X from by
    obtain ⟨q0,q1,q2,qx,q3⟩:=HC.out
    have:=q0.1
    have:=q1.1
    have:=q2.1
    have:=qx.1
    have:=q3.1
    have:=NW.out
    omega)
  have C2:=Lib.hid C2
  have HC0:=Lib.hid (show Y0 < w.heap.size from HC.out.1.1)
  clear cN h2 N1 HC HP H1
  go_wp2_with fail
  go_loopw [16] (fun i wr=>∃ k:Nat,k<=7/\i=.int .i64 k/\Plc wr Y0 Y1 Y2 Y3 X f k/\wr.heap[N]?=w2.heap[N]?/\wr.heap[PB]?=w2.heap[PB]?/\Below n0 w2 wr) (fun i _=>7 - (intOf i).toNat)
  case atStart=>exact ⟨0,Nat.zero_le _,rfl,C2.out,rfl,rfl,Below.refl _ _⟩
  case round=>
    obtain ⟨k,hk,rfl,hc,hN,hP,hB⟩:=hrel
    by_cases hlt:k < 7
    · have cn:wr.cell? ⟨N,off + k,none⟩=some (.int .u64 (f k:Nat)):=by
        have h:=CN.out k hlt
        unfold World.cell? at h ⊢
        rw [hN]
        exact h
      have cp:=(P2.out.of_block hP).cell (j:=k) hlt
      have fk:=FB.out k hlt
      obtain ⟨tb,to0,old,ep,et,cc,fr,hs⟩:=plc_step HA.out hlt hc
      rw [ep] at cp
      have CC:=Lib.hid hs
      have NB:=Lib.hid ((Below.heap_setCell wr ⟨tb,to0,none⟩ (.int .i64 (f k:Nat)) N (by have:=NN.out; show N ≠ tb; omega)).trans hN)
      have PP:=Lib.hid ((Below.heap_setCell wr ⟨tb,to0,none⟩ (.int .i64 (f k:Nat)) PB (by have:=HAP.out; show PB ≠ tb; omega)).trans hP)
      have BB:=Lib.hid (hB.setCell (p:=⟨tb,to0,none⟩) (by have:=HL.out; show n0<=tb; omega) (.int .i64 (f k:Nat)))
      obtain ⟨x,hx⟩:∃ x,f k=x:=⟨_,rfl⟩
      rw [hx] at cn fk CC NB PP BB
      clear hx hc hN hP hB ep et hs
      go_wp2_with fail
      go_roundw
      case rel=>exact ⟨k + 1,by omega,by go_num,CC.out,NB.out,PP.out,BB.out⟩
      case measure=>simp [intOf]; omega
    obtain rfl:k=7:=by omega
    have HCC:=Lib.hid hc
    have HBB:=Lib.hid (show Below n0 w wr from (H2.out.mono (by have:=HL.out; have:=HC0.out; omega)).trans hB)
    clear hc hN hP hB hlt hk
    go_wp2_with fail
    go_end0
    exact ⟨rfl,HCC.out,HBB.out⟩
end Go.Proofs.YtchfkncbemjepaaGreat
/- Layer 9: lists of packets in memory; the reference's Split. -/
namespace Go.Proofs.YtchfkncbemjepaaGreat
open Go.RowKit

theorem pk_cells (p:Pkt):∀ j,j < 5->(#[.bool p.cmd,.int .i64 p.ap,.int .i64 p.fl,.int .i64 p.ct,.string p.da]:Array Value)[j]?=some (pkCel p j):=fun j hj=>by
  match j,hj with
  | 0,_=>rfl
  | 1,_=>rfl
  | 2,_=>rfl
  | 3,_=>rfl
  | 4,_=>rfl
theorem pk_list (p:Pkt):∀ j,j < 5->([.bool p.cmd,.int .i64 p.ap,.int .i64 p.fl,.int .i64 p.ct,.string p.da]:List Value)[j]?=some (pkCel p j):=fun j hj=>by
  match j,hj with
  | 0,_=>rfl
  | 1,_=>rfl
  | 2,_=>rfl
  | 3,_=>rfl
  | 4,_=>rfl
theorem pk_info:(Tryz.prog.info? 125).map (·.size)=some 5:=by kernel_rfl
def cutOk (ap ct most:Int) (n:Nat):Prop:=(0<=ap/\ap<=2046)/\(0<=ct/\ct<=16383)/\(1<=most/\most<=1024)/\n ≠ 0
instance (ap ct most:Int) (n:Nat):Decidable (cutOk ap ct most n):=by unfold cutOk; infer_instance
end Go.Proofs.YtchfkncbemjepaaGreat
/- Layer 9, the landed program: parsed, what a header says. -/
namespace Go.Proofs.YtchfkncbemjepaaGreat
open Go.RowKit Go.Shelf

theorem one_cells {v:Value}:∀ j,j < 1->(#[v]:Array Value)[j]?=some ((fun _=>v) j):=fun j hj=>by
  obtain rfl:j=0:=by omega
  rfl
theorem build_plc {ev:Operand->Value} {w:World} {o:Oper} {x0 x1 x2 x3 x4 x5 x6:Operand} {Y0 Y1 Y2 X Y3:Nat} (h:o.op=.buildSlice 230 7 #[(0,x0),(1,x1),(2,x2),(3,x3),(4,x4),(5,x5),(6,x6)])
    (h0:ev x0=.pointer (some ⟨Y0,0,none⟩)) (h1:ev x1=.pointer (some ⟨Y1,0,none⟩)) (h2:ev x2=.pointer (some ⟨Y2,0,none⟩)) (h3:ev x3=.pointer (some ⟨X,1,none⟩)) (h4:ev x4=.pointer (some ⟨X,2,none⟩)) (h5:ev x5=.pointer (some ⟨X,3,none⟩)) (h6:ev x6=.pointer (some ⟨Y3,0,none⟩)):
    (execOp ev o).run Tryz.prog w=.ok (.value (.slice (some ⟨w.heap.size,0,none⟩) 7 7)) (w.alloc (.cells #[.pointer (some ⟨Y0,0,none⟩),.pointer (some ⟨Y1,0,none⟩),.pointer (some ⟨Y2,0,none⟩),.pointer (some ⟨X,1,none⟩),.pointer (some ⟨X,2,none⟩),.pointer (some ⟨X,3,none⟩),.pointer (some ⟨Y3,0,none⟩)] 227)):=by
  simp only [execOp,h]; go_simp
def psV (l:List UInt8):Value:=if Pk.good l=true then .tuple #[pkVal (Pk.headed l),.int .i64 (Pk.nb l 4 * 256 + Pk.nb l 5 + 1:Nat),.bool true] else .tuple #[pkVal pk0,.int .i64 0,.bool false]
theorem parsed_any (s:ByteArray) (hs:s.size=6) (w:World):Calls Tryz.prog 141 #[.string s] w fun e w'=>e=.returned (psV s.data.toList)/\Below w.heap.size w w':=by
  have RD:=Lib.hid (pread_any s hs)
  have SZ:=Lib.hid (fun (n:Int) w=>isSize_any n w)
  have VP:=Lib.hid (show psV s.data.toList=if Pk.good s.data.toList=true then .tuple #[pkVal (Pk.headed s.data.toList),.int .i64 (Pk.nb s.data.toList 4 * 256 + Pk.nb s.data.toList 5 + 1:Nat),.bool true] else .tuple #[pkVal pk0,.int .i64 0,.bool false] from rfl)
  obtain ⟨V,hV⟩:∃ V,psV s.data.toList=V:=⟨_,rfl⟩
  rw [hV] at VP ⊢
  clear hV
  obtain ⟨l,hl⟩:∃ l,s.data.toList=l:=⟨_,rfl⟩
  rw [hl] at RD VP
  have b0:=Pk.nb_lt l 0
  have b1:=Pk.nb_lt l 1
  have b2:=Pk.nb_lt l 2
  have b3:=Pk.nb_lt l 3
  have b4:=Pk.nb_lt l 4
  have b5:=Pk.nb_lt l 5
  have FE:(fun j=>(Pk.flds l).getD j 0)=fun j=>match j with | 0=>Pk.nb l 0 / 32 | 1=>Pk.nb l 0 / 16 % 2 | 2=>Pk.nb l 0 / 8 % 2 | 3=>Pk.nb l 0 % 8 * 256 + Pk.nb l 1 | 4=>Pk.nb l 2 / 64 | 5=>Pk.nb l 2 % 64 * 256 + Pk.nb l 3 | 6=>Pk.nb l 4 * 256 + Pk.nb l 5 | _=>0:=by
    funext j
    match j with
    | 0=>rfl
    | 1=>rfl
    | 2=>rfl
    | 3=>rfl
    | 4=>rfl
    | 5=>rfl
    | 6=>rfl
    | _ + 7=>rfl
  rw [FE] at RD
  unfold Pk.good Pk.headed at VP
  obtain ⟨f0,h0⟩:∃ f,Pk.nb l 0 / 32=f:=⟨_,rfl⟩
  obtain ⟨f1,h1⟩:∃ f,Pk.nb l 0 / 16 % 2=f:=⟨_,rfl⟩
  obtain ⟨f2,h2⟩:∃ f,Pk.nb l 0 / 8 % 2=f:=⟨_,rfl⟩
  obtain ⟨f3,h3⟩:∃ f,Pk.nb l 0 % 8 * 256 + Pk.nb l 1=f:=⟨_,rfl⟩
  obtain ⟨f4,h4⟩:∃ f,Pk.nb l 2 / 64=f:=⟨_,rfl⟩
  obtain ⟨f5,h5⟩:∃ f,Pk.nb l 2 % 64 * 256 + Pk.nb l 3=f:=⟨_,rfl⟩
  obtain ⟨f6,h6⟩:∃ f,Pk.nb l 4 * 256 + Pk.nb l 5=f:=⟨_,rfl⟩
  obtain ⟨sz,h7⟩:∃ f,f6 + 1=f:=⟨_,rfl⟩
  simp only [h0,h1,h2,h3,h4,h5,h6,h7] at RD VP
  have g6:f6<=65535:=by omega
  have p1:IntKind.i64.wrap ((f6:Int) + 1)=(sz:Int):=by rw [IntKind.wrap_i64]; omega
  have p2:(f6:Int) + 1=(sz:Int):=by omega
  have H7:=Lib.hid h7
  clear h0 h1 h2 h3 h4 h5 h6 h7 FE hl b0 b1 b2 b3 b4 b5
  go_enter Tryz.func141,Tryz.ntmps141
  go_upto_region 2 with (first
    | (refine wpList_new rfl (.alloc 125) rfl (some 2) rfl #[.bool false,.int .i64 0,.int .i64 0,.int .i64 0,.string ⟨#[]⟩] 125 (fun X=>.pointer (some ⟨X,0,none⟩)) 5 (pkCel pk0) (pk_cells pk0) (alloc_pk rfl) ?_; intro X w1 HX Sw1 CX Bw1)
    | (refine wpList_new rfl (.alloc 3) rfl (some 5) rfl #[.int .i64 0] 3 (fun X=>.pointer (some ⟨X,0,none⟩)) 1 (fun _=>.int .i64 0) one_cells (alloc_int rfl) ?_; intro Y0 w2 HY0 Sw2 CY0 Bw2)
    | (refine wpList_new rfl (.alloc 3) rfl (some 6) rfl #[.int .i64 0] 3 (fun X=>.pointer (some ⟨X,0,none⟩)) 1 (fun _=>.int .i64 0) one_cells (alloc_int rfl) ?_; intro Y1 w3 HY1 Sw3 CY1 Bw3)
    | (refine wpList_new rfl (.alloc 3) rfl (some 7) rfl #[.int .i64 0] 3 (fun X=>.pointer (some ⟨X,0,none⟩)) 1 (fun _=>.int .i64 0) one_cells (alloc_int rfl) ?_; intro Y2 w4 HY2 Sw4 CY2 Bw4)
    | (refine wpList_new rfl (.alloc 3) rfl (some 8) rfl #[.int .i64 0] 3 (fun X=>.pointer (some ⟨X,0,none⟩)) 1 (fun _=>.int .i64 0) one_cells (alloc_int rfl) ?_; intro Y3 w5 HY3 Sw5 CY3 Bw5))
  have E0:=Lib.hid (show Y0=X + 1/\Y1=X + 2/\Y2=X + 3/\Y3=X + 4/\w5.heap.size=X + 5/\w.heap.size=X from by
    have:=HX.out
    have:=Sw1.out
    have:=HY0.out
    have:=Sw2.out
    have:=HY1.out
    have:=Sw3.out
    have:=HY2.out
    have:=Sw4.out
    have:=HY3.out
    have:=Sw5.out
    omega)
  have D0:=Lib.hid (show Plc w5 Y0 Y1 Y2 Y3 X (fun j=>match j with | 0=>f0 | 1=>f1 | 2=>f2 | 3=>f3 | 4=>f4 | 5=>f5 | 6=>f6 | _=>0) 0 from
    ⟨Cel.below (CY0.out) (bt Bw3.out (bt Bw4.out Bw5.out)),Cel.below CY1.out (bt Bw4.out Bw5.out),Cel.below CY2.out Bw5.out,CX.out.below (bt Bw2.out (bt Bw3.out (bt Bw4.out Bw5.out))),CY3.out⟩)
  have B5:=Lib.hid (bt Bw1.out (bt Bw2.out (bt Bw3.out (bt Bw4.out Bw5.out))))
  clear HX Sw1 HY0 Sw2 HY1 Sw3 HY2 Sw4 HY3 Sw5 CX CY0 CY1 CY2 CY3 Bw1 Bw2 Bw3 Bw4 Bw5
  go_wp2_with (refine wpList_new rfl (.buildSlice 230 7 #[(0,.tmp 5),(1,.tmp 6),(2,.tmp 7),(3,.tmp 10),(4,.tmp 11),(5,.tmp 12),(6,.tmp 8)]) rfl (some 13) rfl #[.pointer (some ⟨Y0,0,none⟩),.pointer (some ⟨Y1,0,none⟩),.pointer (some ⟨Y2,0,none⟩),.pointer (some ⟨X,1,none⟩),.pointer (some ⟨X,2,none⟩),.pointer (some ⟨X,3,none⟩),.pointer (some ⟨Y3,0,none⟩)] 227 (fun X=>.slice (some ⟨X,0,none⟩) 7 7) 7 (plcP Y0 Y1 Y2 Y3 X) (fun j hj=>by match j,hj with | 0,_=>rfl | 1,_=>rfl | 2,_=>rfl | 3,_=>rfl | 4,_=>rfl | 5,_=>rfl | 6,_=>rfl) (build_plc rfl rfl rfl rfl rfl rfl rfl rfl) ?_; intro PB w6 HPB Sw6 CPB Bw6)
  have R6:=Lib.hid (RD.out Y0 Y1 Y2 Y3 X PB w.heap.size (by have:=E0.out; unfold Apart5; omega) (by have:=E0.out; have:=HPB.out; omega) (by have:=E0.out; omega) w6 (by
    obtain ⟨q0,q1,q2,qx,q3⟩:=D0.out
    exact ⟨Cel.below q0 Bw6.out,Cel.below q1 Bw6.out,Cel.below q2 Bw6.out,qx.below Bw6.out,Cel.below q3 Bw6.out⟩) CPB.out)
  have B6:=Lib.hid (bt B5.out Bw6.out)
  clear D0 B5 HPB Sw6 CPB Bw6
  (with_reducible refine R6.out.mono ?_)
  rintro e w7 ⟨rfl,D7,h7⟩
  have B7:=Lib.hid (B6.out.trans h7)
  obtain ⟨q0,q1,q2,qx,q3⟩:=D7
  have q0:Cel w7 Y0 1 (fun _=>.int .i64 (f0:Nat)):=q0
  have q1:Cel w7 Y1 1 (fun _=>.int .i64 (f1:Nat)):=q1
  have q2:Cel w7 Y2 1 (fun _=>.int .i64 (f2:Nat)):=q2
  have qx:Cel w7 X 5 (pkCel ⟨false,(f3:Nat),(f4:Nat),(f5:Nat),⟨#[]⟩⟩):=qx
  have q3:Cel w7 Y3 1 (fun _=>.int .i64 (f6:Nat)):=q3
  have c0:=q0.cell (j:=0) (by omega)
  have c1:=q1.cell (j:=0) (by omega)
  have c2:=q2.cell (j:=0) (by omega)
  have c3:=q3.cell (j:=0) (by omega)
  have Q3:=Lib.hid q3
  have QX:=Lib.hid qx
  have LX:=Lib.hid (show w.heap.size<=X by have:=E0.out; omega)
  have NY:=Lib.hid (show Y3 ≠ X by have:=E0.out; omega)
  clear q0 q1 q2 qx q3 h7 R6 B6 RD
  by_cases g0:f0=0
  · have z0:((f0:Int) != 0)=false:=by simp; omega
    by_cases g2:f2=0
    · have z2:((f2:Int) != 0)=false:=by simp; omega
      have A:=Lib.hid (fun w=>SZ.out (sz:Int) w)
      by_cases g3:sz<=1024
      · rw [decide_eq_true (show 1<=(sz:Int)/\(sz:Int)<=1024 by have:=H7.out; omega)] at A
        obtain ⟨c,hc⟩:∃ c,decide (f1=1)=c:=⟨_,rfl⟩
        have z4:((f1:Int) == 1)=c:=by
          rw [<-hc]
          by_cases e:f1=1
          · subst e; rfl
          rw [decide_eq_false e]; simp; omega
        have E:=Lib.hid (show V=.tuple #[pkVal ⟨c,(f3:Nat),(f4:Nat),(f5:Nat),⟨#[]⟩⟩,.int .i64 (sz:Nat),.bool true] from by
          rw [VP.out,decide_eq_true g0,decide_eq_true g2,decide_eq_true g3,hc]
          rfl)
        clear hc g0 g2 g3 VP
        go_wp2_with fail
        (with_reducible refine (A.out _).mono ?_)
        rintro e w' ⟨rfl,rfl⟩
        go_wp2_with (first
          | (refine wpList_set rfl (.store 4 (.tmp 30) (.tmp 29)) rfl X 0 5 (.bool c) _ (pkCel ⟨c,(f3:Nat),(f4:Nat),(f5:Nat),⟨#[]⟩⟩) QX.out (by omega) (fun j hj=>by match j,hj with | 0,_=>rfl | 1,_=>rfl | 2,_=>rfl | 3,_=>rfl | 4,_=>rfl) (store_bool rfl rfl rfl (QX.out.cell (j:=0) (by omega)) (QX.out.frozen (j:=0) (by omega))) ?_; intro w8 C8 U8 S8; have c38:=Cel.cell (Q3.out.but U8.out NY.out) (j:=0) (by omega))
          | (refine wpList_getAll rfl 125 (.tmp 2) rfl X 5 [.bool c,.int .i64 (f3:Nat),.int .i64 (f4:Nat),.int .i64 (f5:Nat),.string ⟨#[]⟩] _ _ C8.out rfl (pk_list ⟨c,(f3:Nat),(f4:Nat),(f5:Nat),⟨#[]⟩⟩) rfl Tryz.underlying125 rfl pk_info ?_)
          | (refine wpList_setAll rfl 125 (.tmp 2) (.tmp 31) rfl X 5 [.bool c,.int .i64 (f3:Nat),.int .i64 (f4:Nat),.int .i64 (f5:Nat),.string ⟨#[]⟩] _ (pkCel ⟨c,(f3:Nat),(f4:Nat),(f5:Nat),⟨#[]⟩⟩) C8.out rfl (pk_list ⟨c,(f3:Nat),(f4:Nat),(f5:Nat),⟨#[]⟩⟩) rfl rfl pk_info (by simp [Value.oneCell']) ?_; intro w9 C9 U9 S9))
        refine bodyPost_ret (v:=.tuple #[.agg #[.bool c,.int .i64 (f3:Nat),.int .i64 (f4:Nat),.int .i64 (f5:Nat),.string ⟨#[]⟩],.int .i64 (sz:Nat),.bool true]) (results_cell_t2 Tryz.results141 _ _ X [.bool c,.int .i64 (f3:Nat),.int .i64 (f4:Nat),.int .i64 (f5:Nat),.string ⟨#[]⟩] _ rfl (C9.out.rangeAll _ rfl (pk_list ⟨c,(f3:Nat),(f4:Nat),(f5:Nat),⟨#[]⟩⟩)) Tryz.underlying125 rfl pk_info) rfl ⟨by rw [E.out]; rfl,But.under (But.under B7.out U8.out LX.out) U9.out LX.out⟩
      rw [decide_eq_false (show ¬ (1<=(sz:Int)/\(sz:Int)<=1024) by omega)] at A
      have E:=Lib.hid (show V=.tuple #[pkVal pk0,.int .i64 0,.bool false] from by
        rw [VP.out,if_neg (by simp only [Bool.and_eq_true,decide_eq_true_eq]; omega)])
      clear g0 g2 g3 VP
      go_wp2_with fail
      (with_reducible refine (A.out _).mono ?_)
      rintro e w' ⟨rfl,rfl⟩
      go_wp2_with (refine wpList_setAll rfl 125 (.tmp 2) (.tmp 27) rfl X 5 [.bool false,.int .i64 0,.int .i64 0,.int .i64 0,.string ⟨#[]⟩] _ (pkCel pk0) QX.out rfl (pk_list pk0) rfl rfl pk_info (by simp [Value.oneCell']) ?_; intro w9 C9 U9 S9)
      refine bodyPost_ret (v:=.tuple #[pkVal pk0,.int .i64 0,.bool false]) (results_cell_t2 Tryz.results141 _ _ X [.bool false,.int .i64 0,.int .i64 0,.int .i64 0,.string ⟨#[]⟩] _ rfl (C9.out.rangeAll _ rfl (pk_list pk0)) Tryz.underlying125 rfl pk_info) rfl ⟨by rw [E.out],But.under B7.out U9.out LX.out⟩
    have z2:((f2:Int) != 0)=true:=by simp; omega
    have E:=Lib.hid (show V=.tuple #[pkVal pk0,.int .i64 0,.bool false] from by
      rw [VP.out,if_neg (by simp only [Bool.and_eq_true,decide_eq_true_eq]; omega)])
    clear g0 g2 VP
    go_wp2_with (refine wpList_setAll rfl 125 (.tmp 2) (.tmp 27) rfl X 5 [.bool false,.int .i64 0,.int .i64 0,.int .i64 0,.string ⟨#[]⟩] _ (pkCel pk0) QX.out rfl (pk_list pk0) rfl rfl pk_info (by simp [Value.oneCell']) ?_; intro w9 C9 U9 S9)
    refine bodyPost_ret (v:=.tuple #[pkVal pk0,.int .i64 0,.bool false]) (results_cell_t2 Tryz.results141 _ _ X [.bool false,.int .i64 0,.int .i64 0,.int .i64 0,.string ⟨#[]⟩] _ rfl (C9.out.rangeAll _ rfl (pk_list pk0)) Tryz.underlying125 rfl pk_info) rfl ⟨by rw [E.out],But.under B7.out U9.out LX.out⟩
  have z0:((f0:Int) != 0)=true:=by simp; omega
  have E:=Lib.hid (show V=.tuple #[pkVal pk0,.int .i64 0,.bool false] from by
    rw [VP.out,if_neg (by simp only [Bool.and_eq_true,decide_eq_true_eq]; omega)])
  clear g0 VP
  go_wp2_with (refine wpList_setAll rfl 125 (.tmp 2) (.tmp 27) rfl X 5 [.bool false,.int .i64 0,.int .i64 0,.int .i64 0,.string ⟨#[]⟩] _ (pkCel pk0) QX.out rfl (pk_list pk0) rfl rfl pk_info (by simp [Value.oneCell']) ?_; intro w9 C9 U9 S9)
  refine bodyPost_ret (v:=.tuple #[pkVal pk0,.int .i64 0,.bool false]) (results_cell_t2 Tryz.results141 _ _ X [.bool false,.int .i64 0,.int .i64 0,.int .i64 0,.string ⟨#[]⟩] _ rfl (C9.out.rangeAll _ rfl (pk_list pk0)) Tryz.underlying125 rfl pk_info) rfl ⟨by rw [E.out],But.under B7.out U9.out LX.out⟩
end Go.Proofs.YtchfkncbemjepaaGreat
