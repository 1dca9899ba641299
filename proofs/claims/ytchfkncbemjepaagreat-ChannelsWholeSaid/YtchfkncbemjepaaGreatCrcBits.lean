/- CrcBits -/
import Derived.Test.YtchfkncbemjepaaGreatCrcRow
set_option linter.unusedVariables false
set_option maxRecDepth 100000
/- The contracts of crc's shift16, shift32, afterZero, byteSums over this program. -/
namespace Go.Proofs.YtchfkncbemjepaaGreat
open Go.RowKit

theorem shift16_any (r:BitVec 16) (w:World):
    Calls Tryz.prog 145 #[.int .u16 (r.toNat:Nat)] w fun e w'=>e=.returned (.int .u16 ((Crc.L16 r).toNat:Nat))/\w=w':=by
  have hr:r.toNat < 65536:=r.isLt
  have e1:=one_more r
  have e2:=xor16 (r <<< 1) 0x1021#16
  rw [show ((0x1021#16).toNat:Int)=4129 from rfl] at e2
  by_cases g:r.toNat / 32768=1
  · have e:Crc.L16 r=(r <<< 1) ^^^ 0x1021#16:=by unfold Crc.L16; rw [Crc.bit16_15,decide_eq_true g]; rfl
    have h1:((r.toNat:Int) / 32768 != 0)=true:=by simp; omega
    rw [e]
    obtain ⟨p,hp⟩:∃ p,(r <<< 1) ^^^ 0x1021#16=p:=⟨_,rfl⟩
    rw [hp] at e2 ⊢
    obtain ⟨q,hq⟩:∃ p,r <<< 1=p:=⟨_,rfl⟩
    rw [hq] at e1 e2
    clear e g hp hq
    go_enter Tryz.func145,Tryz.ntmps145
    go_wp2_with fail
    go_ret
    exact ⟨rfl,rfl⟩
  have e:Crc.L16 r=r <<< 1:=by unfold Crc.L16; rw [Crc.bit16_15,decide_eq_false g]; rfl
  have h1:((r.toNat:Int) / 32768 != 0)=false:=by simp; omega
  rw [e]
  obtain ⟨q,hq⟩:∃ p,r <<< 1=p:=⟨_,rfl⟩
  rw [hq] at e1 ⊢
  clear e g e2 hq
  go_enter Tryz.func145,Tryz.ntmps145
  go_wp2_with fail
  go_ret
  exact ⟨rfl,rfl⟩

theorem afterZero16_any (r:BitVec 16) (w:World):
    Calls Tryz.prog 151 #[.func (.func 145) #[] #[],.int .u16 (r.toNat:Nat)] w fun e w'=>e=.returned (.int .u16 ((Crc.Z16 r).toNat:Nat))/\w=w':=by
  have H:=Lib.hid (fun r w=>shift16_any r w)
  go_enter Tryz.func151,Tryz.ntmps151
  go_wp2_with fail
  go_loop [1,5] (fun x i=>∃ k:Nat,k<=8/\i=.int .i64 k/\x=.int .u16 ((Crc.it Crc.L16 k r).toNat:Nat)) (fun _ i=>8 - (intOf i).toNat)
  case atStart=>exact ⟨0,Nat.zero_le _,rfl,rfl⟩
  case round=>
    obtain ⟨k,hk,rfl,rfl⟩:=hrel
    by_cases hlt:k < 8
    · have e:Crc.L16 (Crc.it Crc.L16 k r)=Crc.it Crc.L16 (k + 1) r:=rfl
      have C:=Lib.hid (H.out (Crc.it Crc.L16 k r))
      rw [e] at C
      obtain ⟨x,hx⟩:∃ x,Crc.it Crc.L16 k r=x:=⟨_,rfl⟩
      obtain ⟨y,hy⟩:∃ x,Crc.it Crc.L16 (k + 1) r=x:=⟨_,rfl⟩
      rw [hx,hy] at C
      rw [hx]
      have HY:=Lib.hid hy
      clear hx hy e H
      go_wp2_with fail
      (with_reducible refine (C.out _).mono ?_)
      rintro e w' ⟨rfl,rfl⟩
      go_wp2_with fail
      go_round
      case rel=>exact ⟨k + 1,by omega,by go_num,by rw [HY.out]⟩
      case measure=>simp [intOf]; omega
    obtain rfl:k=8:=by omega
    go_wp2_with fail
    go_ret
    exact ⟨rfl,rfl⟩
theorem zero16x256 (w:World):Sem.run Tryz.prog (zeroValue 218) w=.ok (.agg (arrK .u16 256 (fun _=>0))) w:=by rw [arrK_zero]; kernel_rfl
theorem u16x256:Tryz.prog.underlying 218=some (.array 256 162):=by kernel_rfl
theorem i16x256 (f:Nat->Nat):(Tryz.prog.info? 218).map (·.size)=some (arrK .u16 256 f).size:=by rw [arrK_size]; kernel_rfl
theorem afterByte16 (p:Nat) (hp:p < 256) (w:World):
    Calls Tryz.prog 151 #[.func (.func 145) #[] #[],.int .u16 ((p:Int) * 256)] w fun e w'=>e=.returned (.int .u16 ((Crc.T16 p).toNat:Nat))/\w=w':=by
  have h:=afterZero16_any (BitVec.ofNat 16 p <<< 8) w
  rw [show ((BitVec.ofNat 16 p <<< 8).toNat:Int)=(p:Int) * 256 by rw [BitVec.toNat_shiftLeft,Nat.shiftLeft_eq,BitVec.toNat_ofNat]; omega] at h
  exact h
abbrev Sums16:=RowK .u16 256 218
theorem byteSums16_any (w:World):
    Calls Tryz.prog 144 #[.func (.func 145) #[] #[],.int .i64 8] w fun e w'=>e=.returned (.agg (arrK .u16 256 (fun x=>(Crc.T16 x).toNat)))/\Below w.heap.size w w':=by
  have Z:=Lib.hid (fun w=>zero16x256 w)
  have AZ:=Lib.hid (fun r w=>afterZero16_any r w)
  go_enter Tryz.func144,Tryz.ntmps144
  go_wp2_with (simp only [Z.out])
  go_loopw [6] (fun b wr=>∃ k:Nat,k<=8/\b=.int .i64 (2 ^ k:Nat)/\Below w.heap.size w wr/\Sums16 wr w.heap.size (fun _=>0)/\Sums16 wr (w.heap.size + 1) (fun x=>if x < 2 ^ k then (Crc.T16 x).toNat else 0)) (fun b _=>256 - (intOf b).toNat)
  case atStart=>
    refine ⟨0,by omega,rfl,ba (ba (Below.refl w.heap.size w) _) _,(RowK.new w .u16 256 218 (fun _=>0)).alloc _,?_⟩
    have:=RowK.new (w.alloc (.cells (arrK .u16 256 (fun _=>0)) 218)) .u16 256 218 (fun _=>0)
    rw [World.size_alloc] at this
    refine this.congr (fun i _=>?_)
    by_cases h:i < 1
    · obtain rfl:i=0:=by omega
      rw [Crc.T16_zero]; rfl
    rw [if_neg (by simpa using h)]
  case round=>
    obtain ⟨k,hk,rfl,hB,R0,R1⟩:=hrel
    by_cases hlt:k < 8
    · obtain ⟨p,hp⟩:∃ p,2 ^ k=p:=⟨_,rfl⟩
      have hp2:p<=128:=by have:=Nat.pow_le_pow_right (n:=2) (by omega) (show k<=7 by omega); omega
      rw [hp] at R1 ⊢
      have HB:=Lib.hid hB
      have HR0:=Lib.hid R0
      have HR1:=Lib.hid R1
      have HP:=Lib.hid hp
      have HK:=Lib.hid hlt
      have b1:decide ((p:Int) < 256)=true:=by simp; omega
      have C:=Lib.hid (afterByte16 p (by omega))
      obtain ⟨tp,htp⟩:∃ x,Crc.T16 p=x:=⟨_,rfl⟩
      rw [htp] at C
      have HTP:=Lib.hid htp
      clear hB R0 R1 hp hk Z AZ hlt htp
      go_wp2_with fail
      (with_reducible refine (C.out _).mono ?_)
      rintro e w' ⟨rfl,rfl⟩
      go_wp2_with fail
      go_loopw [20] (fun i w2=>∃ j:Nat,j<=p/\i=.int .i64 j/\Below w.heap.size w w2/\Sums16 w2 w.heap.size (fun _=>0)/\Sums16 w2 (w.heap.size + 1) (fun x=>if x < p + j then (Crc.T16 x).toNat else 0)) (fun i _=>p - (intOf i).toNat)
      case atStart=>exact ⟨0,by omega,rfl,HB.out,HR0.out,HR1.out⟩
      case round=>
        obtain ⟨j,hj,rfl,hB,R0,R1⟩:=hrel
        by_cases hlt:j < p
        · have cj:=R1.cell (i:=j) (by omega)
          have fz:=R1.frozen (p + j)
          have cp:=R1.cell (i:=p + j) (by omega)
          rw [if_pos (by omega)] at cj
          have ex:=xor16 tp (Crc.T16 j)
          rw [<-HTP.out] at ex
          have S:=Crc.T16_xor k j (by have:=HP.out; omega)
          rw [HP.out] at S
          rw [<-S] at ex
          rw [HTP.out] at ex
          obtain ⟨tj,htj⟩:∃ x,Crc.T16 j=x:=⟨_,rfl⟩
          obtain ⟨ts,hts⟩:∃ x,Crc.T16 (p + j)=x:=⟨_,rfl⟩
          rw [htj] at ex cj
          rw [hts] at ex
          have HB2:=Lib.hid hB
          have Q0:=Lib.hid R0
          have Q1:=Lib.hid R1
          have HTS:=Lib.hid hts
          have s1:IntKind.i64.wrap ((p:Int) + (j:Int))=((p + j:Nat):Int):=by rw [IntKind.wrap_i64]; omega
          obtain ⟨q,hq⟩:∃ q,p + j=q:=⟨_,rfl⟩
          rw [hq] at s1 fz cp
          have HQ:=Lib.hid hq
          have q1:(q:Int) < 256:=by omega
          have q2:(j:Int) < 256:=by omega
          clear hB R0 R1 S hts htj hq
          go_wp2_with fail
          go_roundw
          case rel=>
            refine ⟨j + 1,by omega,by go_num,HB2.out.setCell (p:=⟨w.heap.size + 1,q,none⟩) (show w.heap.size<=w.heap.size + 1 by omega) _,Q0.out.setOther (by omega) _,(Q1.out.set q ts.toNat).congr (fun x hx=>?_)⟩
            have hq:=HQ.out
            by_cases e:x=q
            · subst e
              rw [if_pos rfl,if_pos (by omega),<-HTS.out,hq]
            rw [if_neg e]
            by_cases g:x < p + j
            · rw [if_pos g,if_pos (by omega)]
            rw [if_neg g,if_neg (by omega)]
          case measure=>simp [intOf]; omega
        obtain rfl:j=p:=by omega
        have e:2 ^ (k + 1)=j + j:=by rw [Nat.pow_succ,HP.out]; omega
        have HB2:=Lib.hid hB
        have Q0:=Lib.hid R0
        rw [<-e] at R1
        have Q1:=Lib.hid R1
        have HE:=Lib.hid e
        have s1:IntKind.i64.wrap ((j:Int) * 2)=((j + j:Nat):Int):=by rw [IntKind.wrap_i64]; omega
        obtain ⟨q,hq⟩:∃ q,j + j=q:=⟨_,rfl⟩
        rw [hq] at s1 HE
        have hq2:q<=256:=by omega
        have hq3:j < q:=by have:=HP.out; have:=Nat.pow_pos (n:=k) (show 0 < 2 by omega); omega
        have HQ:=Lib.hid hq
        clear hB R0 R1 e hq
        go_wp2_with fail
        go_roundw
        case rel=>
          refine ⟨k + 1,by have:=HK.out; omega,?_,HB2.out,Q0.out,Q1.out⟩
          rw [HE.out]
        case measure=>simp [intOf]; try omega
    obtain rfl:k=8:=by omega
    have HB:=Lib.hid hB
    have HR0:=Lib.hid R0
    have HR1:=Lib.hid (show Sums16 wr (w.heap.size + 1) (fun x=>(Crc.T16 x).toNat) from R1.congr (fun x hx=>by rw [if_pos (by omega)]))
    clear hB R0 R1 Z AZ
    rw [show ((2 ^ 8:Nat):Int)=256 from rfl]
    go_upto_region 11 with fail
    refine wp_region_lit ?_
    refine wpList_load_row rfl 218 (.tmp 5) rfl (w.heap.size + 1) rfl _ _ _ _ HR1.out u16x256 rfl (i16x256 _) ?_
    simp only [Act.put,List.setIfInBounds_toArray,List.set_cons_succ,List.set_cons_zero]
    refine wpList_store_row rfl 218 (.tmp 4) (.tmp 33) rfl w.heap.size (arrK .u16 256 (fun x=>(Crc.T16 x).toNat)) rfl rfl _ _ HR0.out (i16x256 _) (by rw [arrK_size,arrK_size]) (arrK_one _ _ _) ?_
    refine wpList_nil ?_
    simp only [Exit.then]
    rename (∀ (a:Act) (w:World),Code.wp _ Code.ret _ a w->_)=>hK
    apply hK
    apply wp_ret
    exact bodyPost_ret (v:=.agg (arrK .u16 256 (fun x=>(Crc.T16 x).toNat))) (results_cell_row Tryz.results144 _ _ w.heap.size 218 (arrK .u16 256 (fun x=>(Crc.T16 x).toNat)) (0,0) _ rfl (setRow_heap _ _ _ _ _ _ HR0.out) u16x256 rfl (i16x256 _)) rfl ⟨rfl,below_setRow HB.out (by omega) _⟩
end Go.Proofs.YtchfkncbemjepaaGreat
/- The contracts of crc's Next16, Next32, Sum16, Sum32 over this program. -/
namespace Go.Proofs.YtchfkncbemjepaaGreat
open Go.RowKit

theorem byte_get (s:ByteArray) (i:Nat) (h:i < s.size):s.data.toList[i]'(by simpa using h)=s[i]:=by
  simp only [Array.getElem_toList]; rfl
theorem take_all {s:ByteArray} {n:Nat} (hs:s.size=n):s.data.toList.take n=s.data.toList:=List.take_of_length_le (by simp; omega)
structure Step16 (r:BitVec 16) (c X Y h m t z:Nat):Prop where
  e1:IntKind.u16.wrap ((X:Int) * 256)=(Y:Int)
  e2:(X:Int) / 256=(h:Int)
  hh:h < 256
  e3:bits .xor .u8 (h:Int) (c:Int)=(m:Int)
  hm:m < 256
  e4:(Crc.T16 m).toNat=t
  e5:bits .xor .u16 (Y:Int) (t:Int)=(z:Int)
theorem step16 (r:BitVec 16) (c X:Nat) (hc:c < 256) (hX:r.toNat=X):∃ Y h m t,Step16 r c X Y h m t (Crc.S16 r c).toNat:=by
  subst hX
  have hr:r.toNat < 65536:=r.isLt
  have h1:r.toNat / 256 < 256:=by omega
  refine ⟨(r <<< 8).toNat,r.toNat / 256,(r.toNat / 256) ^^^ c,_,⟨shl16 r 8,by simp,h1,u8_xor_nat _ _ h1 hc,Nat.xor_lt_two_pow (n:=8) h1 hc,rfl,?_⟩⟩
  rw [Crc.table16 r c hc]
  exact xor16 _ _
theorem next16_any (r:BitVec 16) (s:ByteArray) (n:Nat) (hs:s.size=n) (hn:n<=70000) (w:World):
    Calls Tryz.prog 131 #[.int .u16 (r.toNat:Nat),.string s] w fun e w'=>e=.returned (.int .u16 ((Crc.next16 r s.data.toList).toNat:Nat))/\Below w.heap.size w w':=by
  have Z:=Lib.hid (fun w=>zero16x256 w)
  have BS:=Lib.hid (fun w=>byteSums16_any w)
  have HS:=Lib.hid hs
  obtain ⟨x,hx⟩:∃ x,r.toNat=x:=⟨_,rfl⟩
  rw [hx]
  have HX:=Lib.hid hx
  clear hx hs
  go_enter Tryz.func131,Tryz.ntmps131
  go_wp2_with fail
  (with_reducible refine (BS.out _).mono ?_)
  rintro e w1 ⟨rfl,hB⟩
  have HB:=Lib.hid hB
  clear hB
  go_wp2_with (first
    | (rw [Z.out])
    | (refine wpList_store_row rfl 218 (.tmp 5) (.tmp 7) rfl w1.heap.size (arrK .u16 256 (fun x=>(Crc.T16 x).toNat)) rfl rfl _ _ (RowK.new w1 .u16 256 218 (fun _=>0)) (i16x256 _) (by rw [arrK_size,arrK_size]) (arrK_one _ _ _) ?_))
  try rw [show Tryz.zeroCells218=arrK .u16 256 (fun _=>0) from by kernel_rfl]
  have R:=Lib.hid (show Sums16 ((w1.alloc (.cells (arrK .u16 256 (fun _=>0)) 218)).setRow w1.heap.size (arrK .u16 256 (fun x=>(Crc.T16 x).toNat))) w1.heap.size (fun x=>(Crc.T16 x).toNat) from setRow_heap _ _ _ _ _ _ (RowK.new w1 .u16 256 218 (fun _=>0)))
  have HB2:=Lib.hid (show Below w.heap.size w ((w1.alloc (.cells (arrK .u16 256 (fun _=>0)) 218)).setRow w1.heap.size (arrK .u16 256 (fun x=>(Crc.T16 x).toNat))) from below_setRow (ba HB.out _) HB.out.size _)
  obtain ⟨v,hv⟩:∃ v,v=r:=⟨_,rfl⟩
  obtain ⟨w2,hw2⟩:∃ w2,((w1.alloc (.cells (arrK .u16 256 (fun _=>0)) 218)).setRow w1.heap.size (arrK .u16 256 (fun x=>(Crc.T16 x).toNat)))=w2:=⟨_,rfl⟩
  rw [hw2] at R HB2 ⊢
  rw [<-HX.out,<-hv]
  have HV:=Lib.hid hv
  clear hw2 HB Z BS HX hv
  go_loop [0,10] (fun st i=>∃ k:Nat,k<=n/\i=.int .i64 k/\st=.int .u16 ((Crc.N16 v (s.data.toList.take k)).toNat:Nat)) (fun _ i=>n - (intOf i).toNat)
  case atStart=>exact ⟨0,Nat.zero_le _,rfl,rfl⟩
  case round=>
    obtain ⟨k,hk,rfl,rfl⟩:=hrel
    by_cases hlt:k < n
    · have l1:k < s.size:=by have:=HS.out; omega
      have S:=Crc.N16_take v s.data.toList k (by simpa using l1)
      rw [byte_get s k l1] at S
      obtain ⟨y,hy⟩:∃ y,Crc.N16 v (s.data.toList.take k)=y:=⟨_,rfl⟩
      rw [hy] at S ⊢
      obtain ⟨X,hX⟩:∃ y',y.toNat=y':=⟨_,rfl⟩
      obtain ⟨Y,h,m,t,E⟩:=step16 y s[k].toNat X (UInt8.toNat_lt _) hX
      rw [hX]
      rw [<-S] at E
      obtain ⟨z,hz⟩:∃ z,(Crc.N16 v (s.data.toList.take (k + 1))).toNat=z:=⟨_,rfl⟩
      rw [hz] at E
      have HZ:=Lib.hid hz
      obtain ⟨e1,e2,hh,e3,hm,e4,e5⟩:=E
      have cm:=R.out.cell (i:=m) hm
      rw [e4] at cm
      clear S hy hX hz e4
      go_wp2_with fail
      go_round
      case rel=>exact ⟨k + 1,by omega,by go_num,by rw [HZ.out]⟩
      case measure=>simp [intOf]; omega
    obtain rfl:k=n:=by omega
    have l1:¬ k < s.size:=by have:=HS.out; omega
    rw [take_all HS.out]
    go_wp2_with fail
    go_ret
    exact ⟨by rw [HV.out]; rfl,HB2.out⟩
theorem sum16_any (s:ByteArray) (hs:s.size<=70000) (w:World):
    Calls Tryz.prog 113 #[.string s] w fun e w'=>e=.returned (.int .u16 ((Crc.sum16 s.data.toList).toNat:Nat))/\Below w.heap.size w w':=by
  have N:=Lib.hid (fun w=>next16_any 0xffff#16 s s.size rfl hs w)
  rw [show ((0xffff#16).toNat:Int)=65535 from rfl] at N
  go_enter Tryz.func113,Tryz.ntmps113
  go_wp2_with fail
  (with_reducible refine (N.out _).mono ?_)
  rintro e w1 ⟨rfl,hB⟩
  have HB:=Lib.hid hB
  clear hB
  go_wp2_with fail
  go_ret
  exact ⟨rfl,HB.out⟩
end Go.Proofs.YtchfkncbemjepaaGreat
/- The contracts of perigeeref03's bit16, bit32, Next16, Next32, Sum16, Sum32 over this program. -/
namespace Go.Proofs.YtchfkncbemjepaaGreat
open Go.RowKit

end Go.Proofs.YtchfkncbemjepaaGreat
/- Layer 3's Close16 and Open16 alone, free of the texts on joined sums (the same names as in CrcJoin: import this one or that one). -/
namespace Go.Proofs.YtchfkncbemjepaaGreat
open Go.RowKit

namespace Crc
def close (l:List UInt8):List UInt8:=l ++ [UInt8.ofNat ((sum16 l).toNat / 256),UInt8.ofNat ((sum16 l).toNat % 256)]
end Crc
theorem cl_back (w:World) (b cap:Nat) (l:List UInt8) (h:∀ j,j < l.length->w.cell? ⟨b,j,none⟩=some (.int .u8 ((l.getD j 0).toNat:Nat))):(convert 103 9 (.slice (some ⟨b,0,none⟩) l.length cap)).run Tryz.prog w=.ok (.string ⟨l.toArray⟩) w:=
  run_convert_bytes_back w 103 9 5 ⟨b,0,none⟩ cap l Tryz.underlying103 Tryz.underlying5 Tryz.underlying9 (fun j hj=>by
    have e:(⟨b,0,none⟩:Addr).add j=⟨b,j,none⟩:=by unfold Addr.add; split <;> simp_all
    rw [e,h j hj]
    simp [List.getD_eq_getElem?_getD,List.getElem?_eq_getElem hj])

theorem pair_bytes (w:World) (h l:Nat) (h8:h < 256) (l8:l < 256):
    (convert 103 9 (.slice (some ⟨w.heap.size,0,none⟩) 2 2)).run Tryz.prog (w.alloc (.cells #[.int .u8 (h:Nat),.int .u8 (l:Nat)] 5))=.ok (.string ⟨#[UInt8.ofNat h,UInt8.ofNat l]⟩) (w.alloc (.cells #[.int .u8 (h:Nat),.int .u8 (l:Nat)] 5)):=by
  have c0:(w.alloc (.cells #[.int .u8 (h:Nat),.int .u8 (l:Nat)] 5)).cell? ⟨w.heap.size,0,none⟩=some (.int .u8 (h:Nat)):=World.cell?_alloc_new w _ _ 0
  have c1:(w.alloc (.cells #[.int .u8 (h:Nat),.int .u8 (l:Nat)] 5)).cell? ⟨w.heap.size,1,none⟩=some (.int .u8 (l:Nat)):=World.cell?_alloc_new w _ _ 1
  exact cl_back _ w.heap.size 2 [UInt8.ofNat h,UInt8.ofNat l] (fun j hj=>by
    match j,hj with
    | 0,_=>rw [c0]; simp [Nat.mod_eq_of_lt h8]
    | 1,_=>rw [c1]; simp [Nat.mod_eq_of_lt l8])
theorem add_bytes (s:ByteArray) (l:List UInt8):s ++ (⟨l.toArray⟩:ByteArray)=⟨(s.data.toList ++ l).toArray⟩:=by
  apply ByteArray.ext
  simp
theorem take_bytes (s:ByteArray) (n:Nat):(s.extract 0 n).data.toList=s.data.toList.take n:=by
  simp
theorem bytes_self (s:ByteArray):(⟨s.data.toList.toArray⟩:ByteArray)=s:=by
  apply ByteArray.ext
  simp
theorem beq_no {s t:ByteArray} (h:s ≠ t):(s == t)=false:=by
  rw [Bool.eq_false_iff]
  intro e
  exact h (by
    have:s.data == t.data:=e
    cases s
    cases t
    simp_all)
namespace Crc
def openE (l:List UInt8):Int:=if l.length < 2\/close (l.take (l.length - 2)) ≠ l then 6 else 0
def openV (l:List UInt8):List UInt8:=if openE l=0 then l.take (l.length - 2) else []
end Crc
theorem close16_any (s:ByteArray) (hs:s.size<=70000) (w:World):
    Calls Tryz.prog 81 #[.string s] w fun e w'=>e=.returned (.string ⟨(Crc.close s.data.toList).toArray⟩)/\Below w.heap.size w w':=by
  have N:=Lib.hid (fun w=>sum16_any s hs w)
  obtain ⟨r,hr⟩:∃ r,Crc.sum16 s.data.toList=r:=⟨_,rfl⟩
  rw [hr] at N
  have hlt:r.toNat < 65536:=r.isLt
  obtain ⟨X,hX⟩:∃ X,r.toNat=X:=⟨_,rfl⟩
  rw [hX] at N hlt
  obtain ⟨h,hh⟩:∃ h,X / 256=h:=⟨_,rfl⟩
  obtain ⟨l,hl⟩:∃ h,X % 256=h:=⟨_,rfl⟩
  have e1:(X:Int) / 256=(h:Int):=by omega
  have e2:(X:Int) % 256=(l:Int):=by omega
  have h8:h < 256:=by omega
  have l8:l < 256:=by omega
  have Q:=Lib.hid (show s ++ (⟨#[UInt8.ofNat h,UInt8.ofNat l]⟩:ByteArray)=⟨(Crc.close s.data.toList).toArray⟩ by
    rw [<-hh,<-hl,<-hX,<-hr]
    exact add_bytes s _)
  clear hr hX hh hl hlt
  go_enter Tryz.func81,Tryz.ntmps81
  go_wp2_with fail
  (with_reducible refine (N.out _).mono ?_)
  rintro e w1 ⟨rfl,hB⟩
  have B1:=Lib.hid (ba hB (.cells #[.int .u8 (h:Nat),.int .u8 (l:Nat)] 5))
  have CV:=Lib.hid (pair_bytes w1 h l h8 l8)
  clear hB
  go_wp2_with (simp only [CV.out])
  go_ret
  exact ⟨by rw [<-Q.out]; rfl,B1.out⟩
theorem open16_any (s:ByteArray) (hs:s.size<=70000) (w:World):
    Calls Tryz.prog 89 #[.string s] w fun e w'=>e=.returned (.tuple #[.string ⟨(Crc.openV s.data.toList).toArray⟩,.int .i64 (Crc.openE s.data.toList)])/\Below w.heap.size w w':=by
  have ls:s.data.toList.length=s.size:=by simp
  by_cases h2:s.size < 2
  · have e:Crc.openE s.data.toList=6:=if_pos (.inl (by rw [ls]; exact h2))
    have ev:Crc.openV s.data.toList=[]:=if_neg (by rw [e]; omega)
    rw [e,ev]
    have B:=Lib.hid (Below.refl w.heap.size w)
    clear e ev ls
    go_enter Tryz.func89,Tryz.ntmps89
    go_wp2_with fail
    go_ret2
    exact ⟨rfl,B.out⟩
  have C:=Lib.hid (fun w=>close16_any (s.extract 0 (s.size - 2)) (by simp; omega) w)
  rw [take_bytes] at C
  by_cases g:Crc.close (s.data.toList.take (s.size - 2))=s.data.toList
  · have e:Crc.openE s.data.toList=0:=if_neg (by rw [ls]; intro h; rcases h with h | h; exact h2 h; exact h g)
    have ev:Crc.openV s.data.toList=s.data.toList.take (s.size - 2):=by unfold Crc.openV; rw [if_pos e,ls]
    rw [e,ev]
    rw [g,bytes_self] at C
    have EX:=Lib.hid (show (⟨(s.data.toList.take (s.size - 2)).toArray⟩:ByteArray)=s.extract 0 (s.size - 2) by rw [<-take_bytes,bytes_self])
    have q1:(s == s)=true:=by show (s.data == s.data)=true; simp
    clear e ev ls g
    go_enter Tryz.func89,Tryz.ntmps89
    go_wp2_with fail
    (with_reducible refine (C.out _).mono ?_)
    rintro e w1 ⟨rfl,hB⟩
    have HB:=Lib.hid hB
    clear hB
    go_wp2_with fail
    go_ret2
    exact ⟨by rw [EX.out]; rfl,HB.out⟩
  have e:Crc.openE s.data.toList=6:=if_pos (.inr (by rw [ls]; exact g))
  have ev:Crc.openV s.data.toList=[]:=if_neg (by rw [e]; omega)
  rw [e,ev]
  obtain ⟨t,ht⟩:∃ t:ByteArray,(⟨(Crc.close (s.data.toList.take (s.size - 2))).toArray⟩:ByteArray)=t:=⟨_,rfl⟩
  rw [ht] at C
  have ne:t ≠ s:=by
    intro h
    exact g (congrArg (fun q:ByteArray=>q.data.toList) (ht.trans h))
  have q1:=beq_no ne
  have q2:(t.toList == s.toList)=false:=by rw [<-beq_toListBytes,q1]
  clear e ev ls g ht ne
  go_enter Tryz.func89,Tryz.ntmps89
  go_wp2_with fail
  (with_reducible refine (C.out _).mono ?_)
  rintro e w1 ⟨rfl,hB⟩
  have HB:=Lib.hid hB
  clear hB
  go_wp2_with fail
  go_ret2
  exact ⟨rfl,HB.out⟩
end Go.Proofs.YtchfkncbemjepaaGreat
/- Registers that take bits, and changes within a window of bits: plain mathematics. -/
namespace Go.Proofs.YtchfkncbemjepaaGreat
namespace Crc
section
variable {W:Nat}
def top (e:Nat->BitVec W) (f:Nat->Bool):Nat->BitVec W
  | 0=>0#W
  | n + 1=>top e f n ^^^ (if f n then e n else 0#W)
variable {L:BitVec W->BitVec W} {e:Nat->BitVec W} {π:Nat->Nat}
end
def hb (l:List UInt8) (p:Nat):Bool:=decide ((l.getD (p / 8) 0).toNat / 2 ^ (7 - p % 8) % 2=1)
def lb (l:List UInt8) (p:Nat):Bool:=decide ((l.getD (p / 8) 0).toNat / 2 ^ (p % 8) % 2=1)
def inv (l:List UInt8) (j d:Nat):List UInt8:=l.set j (UInt8.ofNat ((l.getD j 0).toNat ^^^ 2 ^ d))
def short (l:List UInt8) (k c:Nat):Nat->List UInt8
  | 0=>l
  | i + 1=>if i < 16/\c / 2 ^ i % 2=1 then inv (short l k c i) ((k + i) / 8) (7 - (k + i) % 8) else short l k c i
def long (l:List UInt8) (k c:Nat):Nat->List UInt8
  | 0=>l
  | i + 1=>if c / 2 ^ i % 2=1 then inv (long l k c i) ((k + i) / 8) ((k + i) % 8) else long l k c i
end Crc
end Go.Proofs.YtchfkncbemjepaaGreat
