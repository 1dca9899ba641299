/- F2e -/
import Derived.RangeFuncNested
import Derived.RangeFuncBound
import Derived.RangeFuncCalls
import Derived.RangeFuncLeaves
import Derived.Shelf.Abstract
import Derived.Shelf.RegionOpen
import Derived.WalkKit
import Derived.OwnWalkIn
import Derived.TacticsInMore
import Derived.LoopNIn
import Derived.LoopIn
import Derived.Lib.Hide
import Derived.Lib.BitFns
import Derived.StillTailTactics
import Derived.OrdersIn
import Derived.TacticsIn
import Derived.Lib.QuoteBits
import Derived.Laws.BitsAllLaws
import Derived.Handy
import Derived.Laws.IdiomStrings
import Derived.Below
import Derived.Lib.ItoaNum
import Derived.OwnWalk
import Derived.ArgAppend
import Derived.BigQuiet
import Derived.Deep.QuietTactic
import Derived.Test.YtchfkncbemjepaaGreatChecked
import Derived.Test.YtchfkncbemjepaaGreatLen
set_option linter.unusedVariables false
set_option maxRecDepth 100000
set_option maxHeartbeats 4000000
/- FldMath, FldRead, StillIn, FldWrite of layer 2 as one text, under names of their own. -/
/- Bits of strings of bytes: plain mathematics. -/
namespace Go.Proofs.YtchfkncbemjepaaGreat
namespace Fld
def bit (l:List UInt8) (i:Nat):Nat:=(l.getD (i / 8) 0).toNat / 2 ^ (7 - i % 8) % 2
theorem bit_lt (l:List UInt8) (i:Nat):bit l i < 2:=by unfold bit; omega
def num (l:List UInt8) (p:Nat):Nat->Nat
  | 0=>0
  | k + 1=>2 * num l p k + bit l (p + k)
theorem num_lt (l:List UInt8) (p:Nat):∀ k,num l p k < 2 ^ k
  | 0=>by simp [num]
  | k + 1=>by
    have a:=num_lt l p k
    have b:=bit_lt l (p + k)
    have e:2 ^ (k + 1)=2 * 2 ^ k:=by rw [Nat.pow_succ]; omega
    unfold num
    omega
abbrev Bit:={ x:Nat // x < 2 }
def val (xs:List Bit):Nat:=xs.foldl (fun n x=>2 * n + x.1) 0
theorem val_snoc (xs:List Bit) (x:Bit):val (xs ++ [x])=2 * val xs + x.1:=by unfold val; simp
theorem val_lt (xs:List Bit):val xs < 2 ^ xs.length:=by
  suffices h:∀ (xs:List Bit) (n k:Nat),n < 2 ^ k->xs.foldl (fun n x=>2 * n + x.1) n < 2 ^ (k + xs.length) by
    have:=h xs 0 0 (by simp)
    simpa [val] using this
  intro xs
  induction xs with
  | nil=>intro n k h; simpa using h
  | cons x xs ih=>
    intro n k h
    have e:2 ^ (k + 1)=2 * 2 ^ k:=by rw [Nat.pow_succ]; omega
    have hx:=x.2
    have:=ih (2 * n + x.1) (k + 1) (by omega)
    rw [List.foldl_cons,List.length_cons,show k + (xs.length + 1)=k + 1 + xs.length by omega]
    exact this
def upto {α:Type} (f:Nat->α) (k:Nat):List α:=(List.range k).map f
theorem upto_succ {α:Type} (f:Nat->α) (k:Nat):upto f (k + 1)=upto f k ++ [f k]:=by simp [upto,List.range_succ]
theorem upto_length {α:Type} (f:Nat->α) (k:Nat):(upto f k).length=k:=by simp [upto]
def fbit (l:List UInt8) (p k:Nat):Bit:=⟨bit l (p + k),bit_lt _ _⟩
theorem val_fbit (l:List UInt8) (p:Nat):∀ k,val (upto (fbit l p) k)=num l p k
  | 0=>rfl
  | k + 1=>by rw [upto_succ,val_snoc,val_fbit l p k]; rfl
def nbit (v w k:Nat):Bit:=⟨v / 2 ^ (w - 1 - k) % 2,by omega⟩
def setB (c d x:Nat):Nat:=c - c / 2 ^ d % 2 * 2 ^ d + x * 2 ^ d
def set (l:List UInt8) (i x:Nat):List UInt8:=l.set (i / 8) (UInt8.ofNat (setB (l.getD (i / 8) 0).toNat (7 - i % 8) x))
theorem set_length (l:List UInt8) (i x:Nat):(set l i x).length=l.length:=by unfold set; simp
theorem set_at (l:List UInt8) (i x:Nat) (h:i / 8 < l.length):(set l i x).getD (i / 8) 0=UInt8.ofNat (setB (l.getD (i / 8) 0).toNat (7 - i % 8) x):=by
  unfold set
  rw [List.getD_eq_getElem?_getD,List.getElem?_set_self h]
  rfl
theorem set_off (l:List UInt8) (i x j:Nat) (h:j ≠ i / 8):(set l i x).getD j 0=l.getD j 0:=by
  unfold set
  rw [List.getD_eq_getElem?_getD,List.getElem?_set_ne (by omega),<-List.getD_eq_getElem?_getD]
def put (l:List UInt8) (p w v:Nat):Nat->List UInt8
  | 0=>l
  | k + 1=>set (put l p w v k) (p + k) (v / 2 ^ (w - 1 - k) % 2)
theorem put_length (l:List UInt8) (p w v:Nat):∀ k,(put l p w v k).length=l.length
  | 0=>rfl
  | k + 1=>by unfold put; rw [set_length,put_length l p w v k]
def puts (l:List UInt8) (p:Nat):List Bit->List UInt8
  | []=>l
  | x :: xs=>puts (set l p x.1) (p + 1) xs
theorem puts_snoc (x:Bit):∀ (xs:List Bit) (l:List UInt8) (p:Nat),puts l p (xs ++ [x])=set (puts l p xs) (p + xs.length) x.1
  | [],_,_=>rfl
  | y :: ys,l,p=>by
    rw [List.cons_append,puts,puts,puts_snoc x ys,List.length_cons,show p + 1 + ys.length=p + (ys.length + 1) by omega]
theorem puts_length:∀ (xs:List Bit) (l:List UInt8) (p:Nat),(puts l p xs).length=l.length
  | [],_,_=>rfl
  | y :: ys,l,p=>by rw [puts,puts_length ys,set_length]
theorem puts_nbit (l:List UInt8) (p w v:Nat):∀ k,puts l p (upto (nbit v w) k)=put l p w v k
  | 0=>rfl
  | k + 1=>by rw [upto_succ,puts_snoc,upto_length,puts_nbit l p w v k]; rfl
end Fld
end Go.Proofs.YtchfkncbemjepaaGreat
/- The contracts of package fields' iterators and of read over this program. -/
namespace Go.Proofs.YtchfkncbemjepaaGreat
open Go.RowKit Go.Shelf
attribute [local go_sem] Oper.semAt_some

theorem f2_cell_new_l (w:World) (v:Value) (t:TypeId):(w.alloc (.cells #[v] t)).cell? ⟨w.heap.size,0,none⟩=some v/\(w.alloc (.cells #[v] t)).frozen? ⟨w.heap.size,0,none⟩=false:=by
  constructor <;> go_simp
theorem cell_alloc_l {W:World} {a:Addr} {v:Value} (o:Obj) (h:W.cell? a=some v):(W.alloc o).cell? a=some v:=cell_kept h (World.grownBy_alloc W o none) (fun r e=>by cases e)
theorem frozen_alloc_l {W:World} {a:Addr} {v:Value} (o:Obj) (h:W.cell? a=some v) (hf:W.frozen? a=false):(W.alloc o).frozen? a=false:=(frozen_kept h (World.grownBy_alloc W o none) (fun r e=>by cases e)).trans hf
def Mid (lo hi:Nat) (W W':World):Prop:=∀ b o v,lo<=b->b < hi->W.cell? ⟨b,o,none⟩=some v->W'.cell? ⟨b,o,none⟩=some v
theorem Mid.refl (lo hi:Nat) (W:World):Mid lo hi W W:=fun _ _ _ _ _ h=>h
theorem Mid.trans {lo hi:Nat} {A B C:World} (h:Mid lo hi A B) (k:Mid lo hi B C):Mid lo hi A C:=fun b o v a c d=>k b o v a c (h b o v a c d)
theorem Mid.setCell {lo hi:Nat} {A B:World} (h:Mid lo hi A B) (b o:Nat) (v:Value) (hb:b < lo\/hi<=b):Mid lo hi A (B.setCell ⟨b,o,none⟩ v):=fun b' o' v' h1 h2 h3=>by
  exact (World.cell?_setCell_other (h:=by intro e; cases e; omega) ..).trans (h b' o' v' h1 h2 h3)
theorem mid_b {lo hi:Nat} {w:World} (hn:hi<=w.heap.size) (W:World) (l:Nat) (o o':Obj) (hl:w.heap.size<=l) (h:W.heap[l]?=some o) (hc:o.isCells=false) (_:o.isWalk=false):Mid lo hi W (W.putObj l o'):=
  fun b q v _ _ hv=>cell_kept hv (grownBy_putObj' W l o') (fun r e=>by cases e; exact ⟨_,h,hc⟩)

theorem f2_byte_at (s:ByteArray) (i:Nat) (h:i < s.size):s.data.toList.getD i 0=s[i]:=by
  have h':i < s.data.toList.length:=by simpa using h
  rw [List.getD_eq_getElem?_getD,List.getElem?_eq_getElem h']
  rfl
theorem bit_walk (s:ByteArray) (i:Nat) (h:i / 8 < s.size):bits .and .u64 (IntKind.u64.wrap ((s[i / 8].toNat:Int) / 2 ^ (7 - i % 8))) 1=(Fld.bit s.data.toList i:Int):=by
  have b:s[i / 8].toNat < 256:=s[i / 8].toNat_lt
  have d:s[i / 8].toNat / 2 ^ (7 - i % 8)<=s[i / 8].toNat:=Nat.div_le_self _ _
  have e:((s[i / 8].toNat:Int) / 2 ^ (7 - i % 8))=((s[i / 8].toNat / 2 ^ (7 - i % 8):Nat):Int):=by
    rw [Int.natCast_ediv]; simp
  rw [e]
  unfold Fld.bit
  rw [f2_byte_at s _ h]
  generalize s[i / 8].toNat / 2 ^ (7 - i % 8)=q at *
  have e2:IntKind.u64.wrap (q:Int)=(q:Int):=by rw [IntKind.wrap_u64]; omega
  rw [e2]
  have:=bits_and_u64_nat q 1 (by omega) (by omega)
  rw [Nat.and_one_is_mod] at this
  exact this

theorem fieldBits1_in (F:Fence) (n:Nat) (hF:F.fn 153) (hro:F.round=none) (hn:1<=n) (l Ba Bw Bs lo hi p wd:Nat) (s:ByteArray) (hs:s.size<=70000) (hin:p + wd<=8 * s.size)
    (ha:lo<=Ba/\Ba < hi) (hw:lo<=Bw/\Bw < hi) (hb:lo<=Bs/\Bs < hi) (J Jx:List Fld.Bit->World->Prop)
    (hY:∀ pre x W,J pre W->pre.length < wd->YieldAt F (n - 1) Tryz.prog l #[.int .u64 (x.1:Nat)] W fun e W'=>
      (e=.returned (.bool true)/\J (pre ++ [x]) W'/\Mid lo hi W W')\/(e=.returned (.bool false)/\Jx (pre ++ [x]) W'))
    (W:World) (c1:W.cell? ⟨Ba,0,none⟩=some (.int .i64 p)) (c2:W.cell? ⟨Bw,0,none⟩=some (.int .i64 wd)) (c3:W.cell? ⟨Bs,0,none⟩=some (.string s)) (h0:J [] W):
    CallsIn F n Tryz.prog 153 #[.func (.yield l) #[] #[],.pointer (some ⟨Ba,0,none⟩),.pointer (some ⟨Bw,0,none⟩),.pointer (some ⟨Bs,0,none⟩)] W fun e W'=>(∃ v,e=.returned v) ∧
      ((∃ ys,ys=Fld.upto (Fld.fbit s.data.toList p) wd/\J ys W')\/(∃ pre,(∃ k,k<=wd/\pre=Fld.upto (Fld.fbit s.data.toList p) k)/\Jx pre W')):=by
  refine callsIn_of_wp Tryz.func153 rfl hF ?_ hro
  simp only [Tryz.ntmps153,List.size_toArray,List.length_cons,List.length_nil,Nat.reduceAdd,Nat.reduceSub,Array.replicate_succ,Array.replicate_zero,List.push_toArray,List.append_toArray,List.nil_append,List.cons_append]
  gi_wp2
  gi_loopw [5] (fun i wr=>∃ k:Nat,k<=wd/\i=.int .i64 ((p + k:Nat):Int)/\J (Fld.upto (Fld.fbit s.data.toList p) k) wr/\Mid lo hi W wr)
    (fun i _=>p + wd - (intOf i).toNat)
  case atStart=>exact ⟨0,Nat.zero_le _,rfl,h0,Mid.refl _ _ _⟩
  case round=>
    obtain ⟨k,hk,rfl,hJs,hnx⟩:=hrel
    have d1:=hnx _ _ _ ha.1 ha.2 c1
    have d2:=hnx _ _ _ hw.1 hw.2 c2
    have d3:=hnx _ _ _ hb.1 hb.2 c3
    by_cases hlt:k < wd
    · obtain ⟨fn,tmps,assign,body,hy,hR⟩:=hY _ (Fld.fbit s.data.toList p k) wr hJs (by rw [Fld.upto_length]; exact hlt)
      have q1:(p + k) / 8 < s.size:=by omega
      have q2:=bit_walk s (p + k) q1
      have q3:((Fld.fbit s.data.toList p k).1:Int)=(Fld.bit s.data.toList (p + k):Int):=rfl
      rw [q3] at hy
      have q4:=Fld.upto_succ (Fld.fbit s.data.toList p) k
      rw [<-q4] at hR
      clear q3
      have Q4:=Lib.hid q4
      clear q4
      gi_wp2
      refine hR.mono ?_
      rintro e W3 (⟨rfl,hJ3,hk3⟩ | ⟨rfl,hJx3⟩)
      · gi_wp2
        go_roundw
        case rel=>exact ⟨k + 1,by omega,by go_num,hJ3,hnx.trans hk3⟩
        case measure=>simp [intOf]; omega
      gi_wp2
      refine bodyPost_ret (results_none rfl _ _ _) rfl ?_
      exact ⟨⟨_,rfl⟩,.inr ⟨_,⟨k + 1,by omega,rfl⟩,hJx3⟩⟩
    obtain rfl:k=wd:=by omega
    gi_wp2
    go_end0
    exact ⟨⟨_,rfl⟩,.inl ⟨_,rfl,hJs⟩⟩

theorem fieldBits_in (F:Fence) (n:Nat) (hF:F.fn 149) (hro:F.round=none) (s:ByteArray) (p wd:Int) (w:World):
    CallsIn F n Tryz.prog 149 #[.string s,.int .i64 p,.int .i64 wd] w fun e w'=>e=.returned (.func (.func 153) #[] #[.pointer (some ⟨w.heap.size + 1,0,none⟩),.pointer (some ⟨w.heap.size + 1 + 1,0,none⟩),.pointer (some ⟨w.heap.size,0,none⟩)]) ∧
      w'=((w.alloc (.cells #[.string s] 9)).alloc (.cells #[.int .i64 p] 3)).alloc (.cells #[.int .i64 wd] 3):=by
  refine callsIn_of_wp Tryz.func149 rfl hF ?_ hro
  simp only [Tryz.ntmps149,List.size_toArray,List.length_cons,List.length_nil,Nat.reduceAdd,Nat.reduceSub,Array.replicate_succ,Array.replicate_zero,List.push_toArray,List.append_toArray,List.nil_append,List.cons_append]
  gi_wp2
  go_ret
  exact ⟨rfl,rfl⟩

theorem fieldBits_stops (F:Fence) (n:Nat) (hF:F.fn 153) (hro:F.round=none) (hn:1<=n) (lo p wd:Nat) (s:ByteArray) (hs:s.size<=70000) (hin:p + wd<=8 * s.size) (w:World) (hz:w.heap.size=lo + 3)
    (c3:w.cell? ⟨lo,0,none⟩=some (.string s)) (c1:w.cell? ⟨lo + 1,0,none⟩=some (.int .i64 p)) (c2:w.cell? ⟨lo + 1 + 1,0,none⟩=some (.int .i64 wd)):
    SeqStopsK F n Tryz.prog 153 #[.pointer (some ⟨lo + 1,0,none⟩),.pointer (some ⟨lo + 1 + 1,0,none⟩),.pointer (some ⟨lo,0,none⟩)] (fun x:Fld.Bit=>#[Value.int .u64 (x.1:Nat)]) (Mid lo (lo + 3))
      (fun ys=>ys=Fld.upto (Fld.fbit s.data.toList p) wd) (fun _=>True) wd w:=fun l J Jx W hW _ _ hY h0=>by
  have g1:=(hW.cell (p:=⟨lo + 1,0,none⟩) (by simp; omega)).trans c1
  have g2:=(hW.cell (p:=⟨lo + 1 + 1,0,none⟩) (by simp; omega)).trans c2
  have g3:=(hW.cell (p:=⟨lo,0,none⟩) (by simp; omega)).trans c3
  refine (fieldBits1_in F n hF hro hn l (lo + 1) (lo + 1 + 1) lo lo (lo + 3) p wd s hs hin ⟨by omega,by omega⟩ ⟨by omega,by omega⟩ ⟨by omega,by omega⟩ J Jx hY W g1 g2 g3 h0).mono ?_
  rintro e W' ⟨he,h | ⟨pre,_,hj⟩⟩
  · exact ⟨he,.inl h⟩
  exact ⟨he,.inr ⟨pre,trivial,hj⟩⟩

theorem or_low (m x:Nat) (hm:m < 9223372036854775808) (hx:x < 2):bits .or .u64 ((m:Int) * 2) (x:Int)=((2 * m + x:Nat):Int):=by
  have h:=bits_or_u64_nat (m * 2) x (by omega) (by omega)
  have e:m * 2 ||| x=2 * m + x:=by
    have:=Nat.two_pow_add_eq_or_of_lt (i:=1) (b:=x) (by simpa using hx) m
    rw [Nat.mul_comm]
    simpa using this.symm
  rw [e] at h
  simpa using h

theorem read_in (F:Fence) (n:Nat) (h1:F.fn 139) (h2:F.fn 149) (h3:F.fn 153) (hro:F.round=none) (hn:3<=n) (s:ByteArray) (p wd:Nat) (hs:s.size<=70000) (hin:p + wd<=8 * s.size) (hwd:wd<=64) (w:World):
    CallsIn F n Tryz.prog 139 #[.string s,.int .i64 p,.int .i64 wd] w fun e W'=>e=.returned (.int .u64 (Fld.num s.data.toList p wd:Nat))/\Below w.heap.size w W':=by
  have hn1:1<=n:=by omega
  refine callsIn_of_wp_marks Tryz.func139 rfl h1 ?_ hro
  simp only [Tryz.ntmps139,List.size_toArray,List.length_cons,List.length_nil,Nat.reduceAdd,Nat.reduceSub,Array.replicate_succ,Array.replicate_zero,List.push_toArray,List.append_toArray,List.nil_append,List.cons_append]
  gi_wp2_with (gi_at_call 149; refine (fieldBits_in F (n - 1) h2 hro _ _ _ _).mono ?_; rintro e w' ⟨rfl,rfl⟩)
  have s1:=f2_cell_new_l w (.int .u64 0) 185
  have s2:=f2_cell_new_l (w.alloc (.cells #[.int .u64 0] 185)) (.string s) 9
  have s3:=f2_cell_new_l ((w.alloc (.cells #[.int .u64 0] 185)).alloc (.cells #[.string s] 9)) (.int .i64 p) 3
  have s4:=f2_cell_new_l (((w.alloc (.cells #[.int .u64 0] 185)).alloc (.cells #[.string s] 9)).alloc (.cells #[.int .i64 p] 3)) (.int .i64 wd) 3
  simp only [World.size_alloc] at s2 s3 s4
  have hB0:Below w.heap.size w ((((w.alloc (.cells #[.int .u64 0] 185)).alloc (.cells #[.string s] 9)).alloc (.cells #[.int .i64 p] 3)).alloc (.cells #[.int .i64 wd] 3)):=
    ((((Below.refl _ w).alloc (Nat.le_refl _) _).alloc (by simp) _).alloc (by simp; omega) _).alloc (by simp; omega) _
  refine wpIn_rangeFunc_ownF hro hn1 (gf:=153) (lb:=#[.pointer (some ⟨w.heap.size + 1 + 1,0,none⟩),.pointer (some ⟨w.heap.size + 1 + 1 + 1,0,none⟩),.pointer (some ⟨w.heap.size + 1,0,none⟩)]) rfl h3 (enters_of Tryz.func153 (by kernel_rfl) rfl)
    (fieldBits_stops F (n - 1) h3 hro (by omega) (w.heap.size + 1) p wd s hs hin _ (by simp) (cell_alloc_l _ (cell_alloc_l _ s2.1)) (cell_alloc_l _ s3.1) s4.1) (fun h k=>h.trans k) (mid_b (by simp)) (Below.refl _ _) (fun _=>rfl)
    (fun pre W=>(W.cell? ⟨w.heap.size,0,none⟩=some (.int .u64 (Fld.val pre:Nat))/\W.frozen? ⟨w.heap.size,0,none⟩=false)/\Below w.heap.size w W)
    (fun _ _ _=>False)
    (OwnFrom.and (Own.from (fun s A B row hs hg hr=>⟨cell_kept hs.1 hg hr,(frozen_kept hs.1 hg hr).trans hs.2⟩) _) (ownFrom_below (Nat.le_refl _) (by simp; omega)))
    (fun _ _ _ _ _ hs _ _=>hs)
    ⟨⟨cell_alloc_l _ (cell_alloc_l _ (cell_alloc_l _ s1.1)),frozen_alloc_l _ (cell_alloc_l _ (cell_alloc_l _ s1.1)) (frozen_alloc_l _ (cell_alloc_l _ s1.1) (frozen_alloc_l _ s1.1 s1.2))⟩,hB0⟩
    (fun x=>{ tmps:=#[.string s,.int .i64 p,.int .i64 wd,undef,undef,undef,.int .u64 0,.pointer (some ⟨w.heap.size,0,none⟩),.int .u64 (x.1:Nat),.string s,.int .i64 p,.int .i64 wd,
      .func (.func 153) #[] #[.pointer (some ⟨w.heap.size + 1 + 1,0,none⟩),.pointer (some ⟨w.heap.size + 1 + 1 + 1,0,none⟩),.pointer (some ⟨w.heap.size + 1,0,none⟩)],.int .u64 (x.1:Nat),undef,undef,undef,undef,undef],defers:=[] }) ?assign ?body ?done ?stop
  case assign=>
    intro l x W K hK
    gi_wp2
    exact hK
  case body=>
    rintro l pre x W ⟨⟨hc,hf⟩,hB⟩ hl
    have b1:=Fld.val_lt pre
    have b2:Fld.val pre < 9223372036854775808:=by
      have:=Nat.pow_le_pow_right (n:=2) (by omega) (show pre.length<=63 by omega)
      have e:(2:Nat) ^ 63=9223372036854775808:=by decide
      omega
    have b3:=or_low _ _ b2 x.2
    rw [<-Fld.val_snoc] at b3
    clear b1
    gi_wp2
    exact ⟨KeepsOthers.setCell _ _ _,(Mid.refl _ _ _).setCell _ _ _ (by omega),⟨World.cell?_setCell_same' _ _ _ (by rw [hc]; rfl),by rw [World.frozen?_setCell]; exact hf⟩,hB.setCell (p:=⟨w.heap.size,0,none⟩) (Nat.le_refl _) _⟩
  case done=>
    rintro D ys W hD rfl ⟨⟨hc,_⟩,hB⟩ hK
    gi_wp2
    refine ⟨by simp,.inl ⟨_,_,rfl,run_takeDeferred hK,?_⟩⟩
    exact ⟨_,results_tmp rfl _ _ _,by rw [Fld.val_fbit]; rfl,hB.trans (belowK_b (w:=w) (Nat.le_refl _) W D _ _ (by simp at hD; omega) hK rfl rfl)⟩
  case stop=>
    rintro D c pre W _ _ h _
    exact h.elim
end Go.Proofs.YtchfkncbemjepaaGreat
/- A region that draws its order, all of whose operations but a forced tail only read, inside a round of a range over a function (at the wide fence): one walk in the order of the text. -/
namespace Go.Proofs.YtchfkncbemjepaaGreat
section
variable {P:Program} {ops:Array Oper} {md:Region.Mode} {w:World} {l:Nat} {n:Nat}

def noDefer (ops:Array Oper):Bool:=ops.all fun o=>match o.op with | .defer _=>false | _=>true
theorem noDefer_spec {o:Oper} {i:Nat} (h:noDefer ops=true) (ho:ops[i]?=some o):∀ c,o.op ≠ .defer c:=by
  intro c hc
  unfold noDefer at h
  rw [Array.all_eq_true'] at h
  have:=h o (Array.mem_of_getElem? ho)
  rw [hc] at this
  cases this

theorem wpIn_of_still {o:Oper} {a:Act} {K:Act->Prop} {K':Act->World->Prop} {Q':Exit->Act->World->Prop} (hd:∀ c,o.op ≠ .defer c) (h:∀ a,K a->K' a w) (hh:o.still P a w K):o.wpIn (Fence.wide.inRound l) n P a w K' Q':=by
  unfold Oper.still at hh
  unfold Oper.wpIn
  refine ⟨fun _ _=>trivial,?_⟩
  rw [Oper.semAt_eq _ _ _ hd]
  generalize (execOp a.eval o).run P w=r at *
  cases r with
  | ok x w'=>
    cases x <;> simp only [Oper.stillUpon] at hh <;> simp only [Oper.uponIn]
    case enter f args=>
      obtain ⟨rfl,v,hc,hn⟩:=hh
      refine ⟨fun hz=>(by cases hz),?_⟩
      have hc':CallsIn Fence.wide (n - 1) P f args w' (fun e w''=>e=.returned v/\w''=w'):=callsIn_wide.2 hc
      have hc2:CallsIn (Fence.wide.inRound l) (n - 1) P f args w' (fun e w''=>e=.returned v/\w''=w'):=hc'
      exact hc2.mono fun e w'' ⟨he,hw⟩=>by subst he; subst hw; exact h _ hn
    all_goals (obtain ⟨rfl,h2⟩:=hh; exact h _ h2)
  | halt x w'=>simp only [Oper.stillUpon] at hh

theorem wpOpIn_of_still {i:Nat} {a:Act} {K:Act->Prop} {K':Act->World->Prop} {Q':Exit->Act->World->Prop} (hd:noDefer ops=true) (h:∀ a,K a->K' a w) (hh:stOp P ops w i K a):wpOpIn (Fence.wide.inRound l) n P ops Q' i K' a w:=by
  unfold stOp at hh
  unfold wpOpIn
  split
  · rename_i ho; simp only [ho] at hh; exact h _ hh
  rename_i o ho
  simp only [ho] at hh
  split
  · rename_i hw; simp only [hw,if_true] at hh; exact wpIn_of_still (noDefer_spec hd ho) h hh
  rename_i hw; simp only [hw] at hh; exact ⟨fun _ _=>trivial,h _ hh⟩

theorem anyIn_of_head {m g:Nat} {L:Array Bool->Act->Prop} {Q':Exit->Act->World->Prop} (hd:noDefer ops=true) (hL:∀ listed a,L listed a->wpAnyIn (Fence.wide.inRound l) n P md ops Q' g listed a w):
    ∀ (f:Nat) (listed:Array Bool) (a:Act),wpAnyL P md ops w m L f listed a->wpAnyIn (Fence.wide.inRound l) n P md ops Q' (f + g) listed a w
  | 0,listed,a,h=>by rw [Nat.zero_add]; exact hL _ _ h
  | f + 1,listed,a,h=>by
    rw [show f + 1 + g=(f + g) + 1 by omega]
    exact ⟨fun h0=>absurd h0 h.1,fun i hi=>wpOpIn_of_still hd (fun a' h'=>anyIn_of_head hd hL f _ a' h') (h.2 i hi).2⟩

theorem anyIn_of_seq {F:Fence} {Q':Exit->Act->World->Prop}:∀ (xs:List Oper) (k:Nat) (listed:Array Bool) (a:Act) (w:World),(∀ j,xs[j]?=ops[k + j]?) →
    Region.seqB md ops xs.length k listed=true->wpListIn F n P ops Q' xs a w->wpAnyIn F n P md ops Q' xs.length listed a w
  | [],_,_,_,_,_,hB,h=>⟨by simpa [Region.seqB] using hB,h⟩
  | o :: xs,k,listed,a,w,hl,hB,h=>by
    have h0:ops[k]?=some o:=by simpa using (hl 0).symm
    simp only [List.length_cons,Region.seqB,Bool.and_eq_true,decide_eq_true_eq] at hB
    refine ⟨fun h1=>(by rw [hB.1] at h1; cases h1),fun i hi=>?_⟩
    rw [hB.1] at hi
    have hik:i=k:=by simpa using hi
    subst hik
    have hw:wpOpIn F n P ops Q' i (wpListIn F n P ops Q' xs) a w:=by unfold wpOpIn; simp only [h0]; exact h
    exact wpOpIn_mono (fun a' w' h'=>anyIn_of_seq xs (i + 1) _ a' w' (fun j=>by have:=hl (j + 1); simpa [Nat.add_assoc,Nat.add_comm 1 j] using this) hB.2 h') hw

theorem wpIn_region_still_tail {id:Nat} {Q:Exit->Act->World->Prop} {a:Act} {w:World} {xs:List Oper} (m:Nat) (hm:P.follows .mixedOrders=true) (hd:noDefer xs.toArray=true) (hB:Region.lexTailB .any xs.toArray m=true)
    (h:wpStill P xs.toArray { w with drawn:=w.drawn + 1 } (fun a'=>wpListIn (Fence.wide.inRound l) n P xs.toArray Q (xs.drop m) a' { w with drawn:=w.drawn + 1 }) (xs.take m) a):(Code.region id xs.toArray true).wpIn (Fence.wide.inRound l) n P Q a w:=by
  simp only [Region.lexTailB,Bool.and_eq_true,decide_eq_true_eq] at hB
  obtain ⟨⟨⟨⟨hsel,hn⟩,hs⟩,hc⟩,hlex⟩:=hB
  have hn':m < xs.length:=by simpa using hn
  have htl:(xs.take m).length=m:=by simp; omega
  have hdl:(xs.drop m).length=xs.toArray.size - m:=by simp
  have inv0:HeadInv .any xs.toArray m (Array.replicate xs.toArray.size false):=
    ⟨by simp,fun j oj _ hl=>(by rw [getD_replicate_false] at hl; cases hl),fun t _ ht=>getD_in (by simpa using ht) (getD_replicate_false _ _)⟩
  have H:=wpAnyL_lex (md:=.any) (g:=xs.toArray.size - m) hsel hs hc hn (xs.take m) 0 _ a (fun j hj=>by
    have hj':j < m:=by rw [htl] at hj; exact hj
    simp [hj']) (by simpa using htl) inv0 (by rw [htl]; exact hlex) h
  refine wpIn_region_any hm ?_
  have:=anyIn_of_head (Q':=Q) (n:=n) (l:=l) (g:=xs.toArray.size - m) hd (fun listed a' hL=>by
    have:=anyIn_of_seq (md:=.any) (F:=Fence.wide.inRound l) (n:=n) (Q':=Q) (xs.drop m) m listed a' { w with drawn:=w.drawn + 1 } (fun j=>by simp [List.getElem?_drop]) (by rw [hdl]; exact hL.1) hL.2
    rwa [hdl] at this) _ _ _ H
  rw [htl,show m + (xs.toArray.size - m)=xs.toArray.size by omega] at this
  exact this
end
end Go.Proofs.YtchfkncbemjepaaGreat
/- The contracts of package fields' numberBits and write over this program. -/
namespace Go.Proofs.YtchfkncbemjepaaGreat
open Go.RowKit Go.Shelf
attribute [local go_sem] Oper.semAt_some

theorem nbit_walk (v i:Nat) (hv:v < 18446744073709551616):bits .and .u64 ((v:Int) / 2 ^ i) 1=((v / 2 ^ i % 2:Nat):Int):=by
  have d:v / 2 ^ i<=v:=Nat.div_le_self _ _
  have e:((v:Int) / 2 ^ i)=((v / 2 ^ i:Nat):Int):=by
    rw [Int.natCast_ediv]; simp
  rw [e]
  generalize v / 2 ^ i=q at *
  have:=bits_and_u64_nat q 1 (by omega) (by omega)
  rw [Nat.and_one_is_mod] at this
  exact this

theorem numberBits1_in (F:Fence) (n:Nat) (hF:F.fn 152) (hro:F.round=none) (hn:1<=n) (l Bw Bv lo hi wd v:Nat) (hv:v < 18446744073709551616) (hwd:wd<=64)
    (hw:lo<=Bw/\Bw < hi) (hb:lo<=Bv/\Bv < hi) (J Jx:List Fld.Bit->World->Prop)
    (hY:∀ pre x W,J pre W->pre.length < wd->YieldAt F (n - 1) Tryz.prog l #[.int .u64 (x.1:Nat)] W fun e W'=>
      (e=.returned (.bool true)/\J (pre ++ [x]) W'/\Mid lo hi W W')\/(e=.returned (.bool false)/\Jx (pre ++ [x]) W'))
    (W:World) (c1:W.cell? ⟨Bw,0,none⟩=some (.int .i64 wd)) (c2:W.cell? ⟨Bv,0,none⟩=some (.int .u64 v)) (h0:J [] W):
    CallsIn F n Tryz.prog 152 #[.func (.yield l) #[] #[],.pointer (some ⟨Bw,0,none⟩),.pointer (some ⟨Bv,0,none⟩)] W fun e W'=>(∃ v,e=.returned v) ∧
      ((∃ ys,ys=Fld.upto (Fld.nbit v wd) wd/\J ys W')\/(∃ pre,(∃ k,k<=wd/\pre=Fld.upto (Fld.nbit v wd) k)/\Jx pre W')):=by
  refine callsIn_of_wp Tryz.func152 rfl hF ?_ hro
  simp only [Tryz.ntmps152,List.size_toArray,List.length_cons,List.length_nil,Nat.reduceAdd,Nat.reduceSub,Array.replicate_succ,Array.replicate_zero,List.push_toArray,List.append_toArray,List.nil_append,List.cons_append]
  gi_wp2
  gi_loopw [4] (fun i wr=>∃ k:Nat,k<=wd/\i=.int .i64 ((wd:Int) - 1 - (k:Int))/\J (Fld.upto (Fld.nbit v wd) k) wr/\Mid lo hi W wr)
    (fun i _=>(intOf i + 1).toNat)
  case atStart=>exact ⟨0,Nat.zero_le _,by go_num,h0,Mid.refl _ _ _⟩
  case round=>
    obtain ⟨k,hk,rfl,hJs,hnx⟩:=hrel
    have d1:=hnx _ _ _ hw.1 hw.2 c1
    have d2:=hnx _ _ _ hb.1 hb.2 c2
    by_cases hlt:k < wd
    · obtain ⟨fn,tmps,assign,body,hy,hR⟩:=hY _ (Fld.nbit v wd k) wr hJs (by rw [Fld.upto_length]; exact hlt)
      obtain ⟨j,hj⟩:∃ j:Nat,wd - 1 - k=j:=⟨_,rfl⟩
      have q2:=nbit_walk v j hv
      have q3:((Fld.nbit v wd k).1:Int)=(v:Int) / 2 ^ j % 2:=by
        show ((v / 2 ^ (wd - 1 - k) % 2:Nat):Int)=_
        rw [hj]; simp
      rw [q3] at hy
      have q4:=Fld.upto_succ (Fld.nbit v wd) k
      rw [<-q4] at hR
      clear q3
      have Q4:=Lib.hid q4
      clear q4
      have hj2:(wd:Int) - 1 - (k:Int)=(j:Int):=by omega
      rw [hj2]
      have hj3:j < 64:=by omega
      have Q5:=Lib.hid hj2
      have Q6:=Lib.hid hj
      clear hj hj2
      gi_wp2
      refine hR.mono ?_
      rintro e W3 (⟨rfl,hJ3,hk3⟩ | ⟨rfl,hJx3⟩)
      · gi_wp2
        go_roundw
        case rel=>exact ⟨k + 1,by omega,by have:=Q5.out; rw [show (wd:Int) - 1 - ((k + 1:Nat):Int)=(j:Int) - 1 by omega],hJ3,hnx.trans hk3⟩
        case measure=>simp [intOf]
      gi_wp2
      refine bodyPost_ret (results_none rfl _ _ _) rfl ?_
      exact ⟨⟨_,rfl⟩,.inr ⟨_,⟨k + 1,by omega,rfl⟩,hJx3⟩⟩
    obtain rfl:k=wd:=by omega
    have e:(k:Int) - 1 - (k:Int)=-1:=by omega
    rw [e]
    clear e
    gi_wp2
    go_end0
    exact ⟨⟨_,rfl⟩,.inl ⟨_,rfl,hJs⟩⟩

theorem numberBits_in (F:Fence) (n:Nat) (hF:F.fn 148) (hro:F.round=none) (v wd:Int) (w:World):
    CallsIn F n Tryz.prog 148 #[.int .u64 v,.int .i64 wd] w fun e w'=>e=.returned (.func (.func 152) #[] #[.pointer (some ⟨w.heap.size + 1,0,none⟩),.pointer (some ⟨w.heap.size,0,none⟩)]) ∧
      w'=(w.alloc (.cells #[.int .u64 v] 185)).alloc (.cells #[.int .i64 wd] 3):=by
  refine callsIn_of_wp Tryz.func148 rfl hF ?_ hro
  simp only [Tryz.ntmps148,List.size_toArray,List.length_cons,List.length_nil,Nat.reduceAdd,Nat.reduceSub,Array.replicate_succ,Array.replicate_zero,List.push_toArray,List.append_toArray,List.nil_append,List.cons_append]
  gi_wp2
  go_ret
  exact ⟨rfl,rfl⟩

theorem numberBits_stops (F:Fence) (n:Nat) (hF:F.fn 152) (hro:F.round=none) (hn:1<=n) (lo v wd:Nat) (hv:v < 18446744073709551616) (hwd:wd<=64) (w:World) (hz:w.heap.size=lo + 2)
    (c1:w.cell? ⟨lo,0,none⟩=some (.int .u64 v)) (c2:w.cell? ⟨lo + 1,0,none⟩=some (.int .i64 wd)):
    SeqStopsK F n Tryz.prog 152 #[.pointer (some ⟨lo + 1,0,none⟩),.pointer (some ⟨lo,0,none⟩)] (fun x:Fld.Bit=>#[Value.int .u64 (x.1:Nat)]) (Mid lo (lo + 2))
      (fun ys=>ys=Fld.upto (Fld.nbit v wd) wd) (fun _=>True) wd w:=fun l J Jx W hW _ _ hY h0=>by
  have g1:=(hW.cell (p:=⟨lo,0,none⟩) (by simp; omega)).trans c1
  have g2:=(hW.cell (p:=⟨lo + 1,0,none⟩) (by simp; omega)).trans c2
  refine (numberBits1_in F n hF hro hn l (lo + 1) lo lo (lo + 2) wd v hv hwd ⟨by omega,by omega⟩ ⟨by omega,by omega⟩ J Jx hY W g2 g1 h0).mono ?_
  rintro e W' ⟨he,h | ⟨pre,_,hj⟩⟩
  · exact ⟨he,.inl h⟩
  exact ⟨he,.inr ⟨pre,trivial,hj⟩⟩

theorem addr_ne {b o b' o':Nat} (h:b ≠ b'):(⟨b,o,none⟩:Addr) ≠ ⟨b',o',none⟩:=fun e=>h (congrArg Addr.block e)
theorem addr_ne_off {b o b' o':Nat} (h:o ≠ o'):(⟨b,o,none⟩:Addr) ≠ ⟨b',o',none⟩:=fun e=>h (congrArg Addr.off e)
theorem setB_all:∀ y,y < 256->∀ d,d < 8->∀ x,x < 2->(y &&& (255 - 2 ^ d)) ||| (x * 2 ^ d)=Fld.setB y d x/\Fld.setB y d x < 256:=by decide +kernel
theorem set_walk (y d x:Nat) (hy:y < 256) (hd:d<=7) (hx:x < 2):
    bits .or .u8 (bits .andNot .u8 (y:Int) (IntKind.u8.wrap (2 ^ d))) (IntKind.u8.wrap (IntKind.u8.wrap (x:Int) * 2 ^ d))=(Fld.setB y d x:Int):=by
  have p1:2 ^ d<=2 ^ 7:=Nat.pow_le_pow_right (by omega) hd
  have e0:((2:Int) ^ d)=((2 ^ d:Nat):Int):=by simp
  have p2:x * 2 ^ d<=1 * 2 ^ 7:=Nat.mul_le_mul (by omega) p1
  have ea:IntKind.u8.wrap ((2:Int) ^ d)=((2 ^ d:Nat):Int):=by
    rw [e0]
    generalize 2 ^ d=t at *
    rw [IntKind.wrap_u8]; omega
  have eb:IntKind.u8.wrap (x:Int)=(x:Int):=by rw [IntKind.wrap_u8]; omega
  have ec:IntKind.u8.wrap ((x:Int) * 2 ^ d)=((x * 2 ^ d:Nat):Int):=by
    rw [e0,<-Int.natCast_mul]
    generalize x * 2 ^ d=t at *
    rw [IntKind.wrap_u8]; omega
  rw [ea,eb,ec,u8_andNot_nat y (2 ^ d) hy (by omega)]
  have l:y &&& (255 - 2 ^ d)<=y:=Nat.and_le_left
  rw [u8_or_nat _ _ (by omega) (by omega),(setB_all y hy d (by omega) x hx).1]

theorem Mid.drew {lo hi:Nat} {A B:World} (h:Mid lo hi A B):Mid lo hi A B.drew:=h
def Holds (W:World) (b:Nat) (l:List UInt8):Prop:=∀ j,j < l.length->W.cell? ⟨b,j,none⟩=some (.int .u8 ((l.getD j 0).toNat:Nat))/\W.frozen? ⟨b,j,none⟩=false

theorem write_in (n:Nat) (hn:3<=n)
    (b cap p wd v n₀:Nat) (l:List UInt8) (hl:l.length<=70000) (hin:p + wd<=8 * l.length) (hwd:wd<=64) (hv:v < 18446744073709551616) (w:World) (hb:b < w.heap.size) (hn₀:n₀<=b) (hh:Holds w b l):
    CallsIn Fence.wide n Tryz.prog 136 #[.slice (some ⟨b,0,none⟩) l.length cap,.int .i64 p,.int .i64 wd,.int .u64 v] w fun e W'=>(∃ v,e=.returned v)/\Holds W' b (Fld.put l p wd v wd)/\Below n₀ w W':=by
  have hn1:1<=n:=by omega
  refine callsIn_of_wp_marks Tryz.func136 rfl trivial ?_ rfl
  simp only [Tryz.ntmps136,List.size_toArray,List.length_cons,List.length_nil,Nat.reduceAdd,Nat.reduceSub,Array.replicate_succ,Array.replicate_zero,List.push_toArray,List.append_toArray,List.nil_append,List.cons_append]
  gi_wp2_with (refine ⟨trivial,?_⟩; gi_at_call 148; refine (numberBits_in Fence.wide (n - 1) trivial rfl _ _ _).mono ?_; rintro e w' ⟨rfl,rfl⟩)
  have s1:=f2_cell_new_l w (.slice (some ⟨b,0,none⟩) l.length cap) 103
  have s2:=f2_cell_new_l (w.alloc (.cells #[.slice (some ⟨b,0,none⟩) l.length cap] 103)) (.int .i64 p) 3
  have s3:=f2_cell_new_l ((w.alloc (.cells #[.slice (some ⟨b,0,none⟩) l.length cap] 103)).alloc (.cells #[.int .i64 p] 3)) (.int .u64 v) 185
  have s4:=f2_cell_new_l (((w.alloc (.cells #[.slice (some ⟨b,0,none⟩) l.length cap] 103)).alloc (.cells #[.int .i64 p] 3)).alloc (.cells #[.int .u64 v] 185)) (.int .i64 wd) 3
  simp only [World.size_alloc] at s2 s3 s4
  have hB0:Below n₀ w ((((w.alloc (.cells #[.slice (some ⟨b,0,none⟩) l.length cap] 103)).alloc (.cells #[.int .i64 p] 3)).alloc (.cells #[.int .u64 v] 185)).alloc (.cells #[.int .i64 wd] 3)):=
    ((((Below.refl _ w).alloc (by omega) _).alloc (by simp; omega) _).alloc (by simp; omega) _).alloc (by simp; omega) _
  refine wpIn_rangeFunc_ownF (F:=Fence.wide) Fence.wide_round hn1 (gf:=152) (lb:=#[.pointer (some ⟨w.heap.size + 1 + 1 + 1,0,none⟩),.pointer (some ⟨w.heap.size + 1 + 1,0,none⟩)]) rfl trivial (enters_of Tryz.func152 (by kernel_rfl) rfl)
    (numberBits_stops Fence.wide (n - 1) trivial rfl (by omega) (w.heap.size + 1 + 1) v wd hv hwd _ (by simp) (cell_alloc_l _ s3.1) s4.1) (fun h k=>h.trans k) (mid_b (by simp)) (Below.refl _ _) (fun _=>rfl)
    (fun pre W=>((W.cell? ⟨w.heap.size,0,none⟩=some (.slice (some ⟨b,0,none⟩) l.length cap)/\W.cell? ⟨w.heap.size + 1,0,none⟩=some (.int .i64 ((p + pre.length:Nat):Int))/\W.frozen? ⟨w.heap.size + 1,0,none⟩=false)/\Holds W b (Fld.puts l p pre))/\Below n₀ w W)
    (fun _ _ _=>False)
    (OwnFrom.and (Own.from (fun s A B row hs hg hr=>⟨⟨cell_kept hs.1.1 hg hr,cell_kept hs.1.2.1 hg hr,(frozen_kept hs.1.2.1 hg hr).trans hs.1.2.2⟩,fun j h=>⟨cell_kept (hs.2 j h).1 hg hr,(frozen_kept (hs.2 j h).1 hg hr).trans (hs.2 j h).2⟩⟩) _) (ownFrom_below (by omega) (by simp; omega)))
    (fun _ _ _ _ _ hs _ _=>hs)
    ⟨⟨⟨cell_alloc_l _ (cell_alloc_l _ (cell_alloc_l _ s1.1)),cell_alloc_l _ (cell_alloc_l _ s2.1),frozen_alloc_l _ (cell_alloc_l _ s2.1) (frozen_alloc_l _ s2.1 s2.2)⟩,
      fun j h=>⟨cell_alloc_l _ (cell_alloc_l _ (cell_alloc_l _ (cell_alloc_l _ (hh j h).1))),frozen_alloc_l _ (cell_alloc_l _ (cell_alloc_l _ (cell_alloc_l _ (hh j h).1))) (frozen_alloc_l _ (cell_alloc_l _ (cell_alloc_l _ (hh j h).1)) (frozen_alloc_l _ (cell_alloc_l _ (hh j h).1) (frozen_alloc_l _ (hh j h).1 (hh j h).2)))⟩⟩,hB0⟩
    (fun x=>{ tmps:=#[.slice (some ⟨b,0,none⟩) l.length cap,.int .i64 p,.int .i64 wd,.int .u64 v,.pointer (some ⟨w.heap.size,0,none⟩),.pointer (some ⟨w.heap.size + 1,0,none⟩),undef,undef,.int .u64 (x.1:Nat),undef,.int .u64 v,.int .i64 wd,
      .func (.func 152) #[] #[.pointer (some ⟨w.heap.size + 1 + 1 + 1,0,none⟩),.pointer (some ⟨w.heap.size + 1 + 1,0,none⟩)],.int .u64 (x.1:Nat),undef,undef,undef,undef,undef,undef,undef,undef,undef,undef,undef,undef,undef,undef,undef,undef,undef,undef,undef,undef,undef,undef],defers:=[] }) ?assign ?body ?done ?stop
  case assign=>
    intro l x W K hK
    gi_wp2
    exact hK
  case body=>
    rintro r pre x W ⟨⟨⟨c1,c2,f2⟩,hh⟩,hB⟩ hlen
    obtain ⟨q,hq⟩:∃ q,p + pre.length=q:=⟨_,rfl⟩
    rw [hq] at c2
    have q1:q / 8 < l.length:=by omega
    have q2:q<=600000:=by omega
    have ml:=Fld.puts_length pre l p
    obtain ⟨m,hm⟩:∃ m,Fld.puts l p pre=m:=⟨_,rfl⟩
    rw [hm] at hh ml
    obtain ⟨c3,f3⟩:=hh (q / 8) (by omega)
    obtain ⟨d,hd⟩:∃ d:Nat,7 - q % 8=d:=⟨_,rfl⟩
    obtain ⟨j,hj⟩:∃ j:Nat,q / 8=j:=⟨_,rfl⟩
    have hd7:d<=7:=by omega
    have e1:IntKind.i64.wrap (j:Int)=(j:Int):=by rw [IntKind.wrap_i64]; omega
    have e2:7 - (q:Int) % 8=(d:Int):=by omega
    have e3:(q:Int) / 8=(j:Int):=by omega
    have jl:j < l.length:=by omega
    have jl':(j:Int) < (l.length:Int):=by omega
    rw [hj] at c3 f3
    obtain ⟨y,hy⟩:∃ y:Nat,(m.getD j 0).toNat=y:=⟨_,rfl⟩
    have y8:y < 256:=by rw [<-hy]; exact UInt8.toNat_lt _
    rw [hy] at c3
    have HY:=Lib.hid hy
    clear hy
    have HD:=Lib.hid hd
    have HJ:=Lib.hid hj
    have HQ:=Lib.hid hq
    have HM:=Lib.hid hm
    have HH:=Lib.hid hh
    have ML:=Lib.hid ml
    clear hd hj hq hm hh ml
    have e4:=set_walk y d x.1 y8 hd7 x.2
    obtain ⟨z,hz⟩:∃ z:Nat,Fld.setB y d x.1=z:=⟨_,rfl⟩
    rw [hz] at e4
    have HZ:=Lib.hid hz
    clear hz
    gi_wp2
    refine wpIn_region_still_tail 16 (by kernel_rfl) (by kernel_rfl) (by kernel_rfl) ?_
    simp only [List.take_succ_cons,List.take_zero,List.drop_succ_cons,List.drop_zero]
    repeat still_step
    refine wpStill_nil ?_
    gi_wp2
    have k1:(⟨b,j,none⟩:Addr) ≠ ⟨w.heap.size,0,none⟩:=addr_ne (by omega)
    have k2:(⟨w.heap.size + 1,0,none⟩:Addr) ≠ ⟨w.heap.size,0,none⟩:=addr_ne (by omega)
    have k3:(⟨b,j,none⟩:Addr) ≠ ⟨w.heap.size + 1,0,none⟩:=addr_ne (by omega)
    refine ⟨((KeepsOthers.setCell _ _ _).trans (KeepsOthers.setCell _ _ _)).trans (KeepsOthers.drew _),(((Mid.refl _ _ _).setCell _ _ _ (by omega)).setCell _ _ _ (by omega)).drew,⟨⟨?_,?_,?_⟩,?_⟩,((hB.setCell (p:=⟨b,j,none⟩) hn₀ _).setCell (p:=⟨w.heap.size + 1,0,none⟩) (by simp; omega) _).drew⟩
    · exact ((World.cell?_setCell_other (h:=k2) ..).trans (World.cell?_setCell_other (h:=k1) ..)).trans c1
    · have e5:((p + (pre ++ [x]).length:Nat):Int)=(q:Int) + 1:=by have:=HQ.out; simp; omega
      rw [e5]
      exact World.cell?_setCell_same' _ _ _ (by rw [World.cell?_setCell_other (h:=k3),c2]; rfl)
    · show (World.setCell _ _ _).frozen? _=_
      rw [World.frozen?_setCell,World.frozen?_setCell]
      exact f2
    rw [Fld.puts_snoc,HM.out,HQ.out]
    intro i hi
    rw [Fld.set_length] at hi
    have k4:(⟨w.heap.size + 1,0,none⟩:Addr) ≠ ⟨b,i,none⟩:=addr_ne (by omega)
    have e6:=HH.out i hi
    refine ⟨?_,?_⟩
    · refine (World.cell?_setCell_other (h:=k4) ..).trans ?_
      by_cases hij:i=j
      · subst hij
        rw [World.cell?_setCell_same' _ _ _ (by rw [c3]; rfl),<-HJ.out,Fld.set_at _ _ _ (by have:=HJ.out; have:=ML.out; omega),HJ.out,HY.out,HD.out,HZ.out]
        have hz:=HZ.out
        have hz2:=(setB_all y y8 d (by omega) x.1 x.2).2
        rw [UInt8.toNat_ofNat_of_lt' (by rw [<-hz]; exact hz2)]
      rw [World.cell?_setCell_other (h:=addr_ne_off (fun e=>hij e.symm)),Fld.set_off _ _ _ _ (by have:=HJ.out; omega)]
      exact e6.1
    show (World.setCell _ _ _).frozen? _=_
    rw [World.frozen?_setCell,World.frozen?_setCell]
    exact e6.2
  case done=>
    rintro D ys W hD rfl ⟨⟨_,hh'⟩,hB⟩ hK
    gi_wp2
    rw [Fld.puts_nbit] at hh'
    refine ⟨by simp,.inl ⟨_,_,rfl,run_takeDeferred hK,?_⟩⟩
    have hz:w.heap.size<=D:=by simp at hD; omega
    exact ⟨_,results_none rfl _ _ _,⟨_,rfl⟩,fun j h=>⟨cell_kept (hh' j h).1 (grownBy_putObj' W D _) (fun r e=>by cases e; exact ⟨_,hK,rfl⟩),(frozen_kept (hh' j h).1 (grownBy_putObj' W D _) (fun r e=>by cases e; exact ⟨_,hK,rfl⟩)).trans (hh' j h).2⟩,hB.trans (belowK_b (w:=w) (by omega) W D _ _ hz hK rfl rfl)⟩
  case stop=>
    rintro D c pre W _ _ h _
    exact h.elim
end Go.Proofs.YtchfkncbemjepaaGreat
/- FldGet, FldPut, FldList of layer 2 as one text, under names of their own. -/
/- The contracts of package fields' functions on one field over this program. -/
namespace Go.Proofs.YtchfkncbemjepaaGreat
open Go.RowKit Go.Shelf

namespace Fld
def isW (wd:Int):Bool:=decide (1<=wd) && decide (wd<=64)
theorem isW_iff (wd:Int):isW wd=true ↔ 1<=wd/\wd<=64:=by unfold isW; simp
theorem isW_not (wd:Int):isW wd=false ↔ ¬ (1<=wd/\wd<=64):=by rw [<-isW_iff]; simp
def ok (n:Nat) (p wd:Int):Prop:=(1<=wd/\wd<=64)/\0<=p/\p<=8 * (n:Int) - wd
instance (n:Nat) (p wd:Int):Decidable (ok n p wd):=by unfold ok; infer_instance
def chk (n:Nat) (p wd:Int):Int:=if 65536 < n then 3 else if ok n p wd then 0 else 2
theorem chk_long {n:Nat} {p wd:Int} (h:65536 < n):chk n p wd=3:=if_pos h
theorem chk_ok {n:Nat} {p wd:Int} (h:¬ 65536 < n) (k:ok n p wd):chk n p wd=0:=by unfold chk; rw [if_neg h,if_pos k]
theorem chk_bad {n:Nat} {p wd:Int} (h:¬ 65536 < n) (k:¬ ok n p wd):chk n p wd=2:=by unfold chk; rw [if_neg h,if_neg k]
end Fld
theorem ret_int {k:IntKind} {a b:Int} (h:a=b):Ending.returned (.int k a)=.returned (.int k b):=by rw [h]

theorem isWidth_any (wd:Int) (w:World):Calls Tryz.prog 146 #[.int .i64 wd] w fun e w'=>e=.returned (.bool (Fld.isW wd))/\w=w':=by
  by_cases h:1<=wd
  · go_enter Tryz.func146,Tryz.ntmps146
    go_wp2
    go_ret
    exact ⟨by unfold Fld.isW; simp [h],rfl⟩
  have h':decide (1<=wd)=false:=by simpa using h
  go_enter Tryz.func146,Tryz.ntmps146
  go_wp2
  go_ret
  exact ⟨by unfold Fld.isW; simp [h'],rfl⟩

theorem check_any (s:ByteArray) (p wd:Int) (hs:s.size<=70000) (w:World):
    Calls Tryz.prog 140 #[.string s,.int .i64 p,.int .i64 wd] w fun e w'=>e=.returned (.int .i64 (Fld.chk s.size p wd))/\w=w':=by
  by_cases h:65536 < s.size
  · go_enter Tryz.func140,Tryz.ntmps140
    go_wp2
    go_ret
    exact ⟨ret_int (Fld.chk_long h).symm,rfl⟩
  by_cases k:Fld.isW wd=true
  · have k':=(Fld.isW_iff wd).1 k
    obtain ⟨k1,k2⟩:=k'
    by_cases m:p < 0
    · have e:Fld.chk s.size p wd=2:=Fld.chk_bad h (fun x=>by unfold Fld.ok at x; omega)
      rw [e]
      clear e
      go_enter Tryz.func140,Tryz.ntmps140
      go_wp2_with (go_at_call 146; refine (isWidth_any _ _).mono ?_; rintro e w' ⟨rfl,rfl⟩)
      go_ret
      exact ⟨rfl,rfl⟩
    have m':decide (p < 0)=false:=by simpa using m
    by_cases q:8 * (s.size:Int) - wd < p
    · have e:Fld.chk s.size p wd=2:=Fld.chk_bad h (fun x=>by unfold Fld.ok at x; omega)
      rw [e]
      clear e
      go_enter Tryz.func140,Tryz.ntmps140
      go_wp2_with (go_at_call 146; refine (isWidth_any _ _).mono ?_; rintro e w' ⟨rfl,rfl⟩)
      go_ret
      exact ⟨rfl,rfl⟩
    have e:Fld.chk s.size p wd=0:=Fld.chk_ok h (by unfold Fld.ok; omega)
    rw [e]
    clear e
    go_enter Tryz.func140,Tryz.ntmps140
    go_wp2_with (go_at_call 146; refine (isWidth_any _ _).mono ?_; rintro e w' ⟨rfl,rfl⟩)
    go_ret
    exact ⟨rfl,rfl⟩
  have k0:Fld.isW wd=false:=by simpa using k
  have e:Fld.chk s.size p wd=2:=Fld.chk_bad h (fun x=>by have:=(Fld.isW_not wd).1 k0; unfold Fld.ok at x; exact this x.1)
  rw [e]
  clear e k
  go_enter Tryz.func140,Tryz.ntmps140
  go_wp2_with (go_at_call 146; refine (isWidth_any _ _).mono ?_; rintro e w' ⟨rfl,rfl⟩)
  go_ret
  exact ⟨rfl,rfl⟩

theorem read_any (s:ByteArray) (p wd:Nat) (hs:s.size<=70000) (hin:p + wd<=8 * s.size) (hwd:wd<=64) (w:World):
    Calls Tryz.prog 139 #[.string s,.int .i64 p,.int .i64 wd] w fun e W'=>e=.returned (.int .u64 (Fld.num s.data.toList p wd:Nat))/\Below w.heap.size w W':=
  callsIn_wide.1 (read_in Fence.wide 3 trivial trivial trivial rfl (by omega) s p wd hs hin hwd w)

namespace Fld
def getV (l:List UInt8) (p wd:Int):Nat:=if chk l.length p wd=0 then num l p.toNat wd.toNat else 0
end Fld

theorem get_any (s:ByteArray) (p wd:Int) (hs:s.size<=70000) (w:World):
    Calls Tryz.prog 119 #[.string s,.int .i64 p,.int .i64 wd] w fun e w'=>e=.returned (.tuple #[.int .u64 (Fld.getV s.data.toList p wd:Nat),.int .i64 (Fld.chk s.size p wd)])/\Below w.heap.size w w':=by
  have hl:s.data.toList.length=s.size:=by simp
  have C:=Lib.hid (check_any s p wd hs)
  unfold Fld.getV
  rw [hl]
  by_cases h:Fld.chk s.size p wd=0
  · rw [h] at C ⊢
    rw [if_pos rfl]
    have k:Fld.ok s.size p wd/\¬ 65536 < s.size:=by
      unfold Fld.chk at h
      split at h
      · cases h
      split at h
      · exact ⟨‹_›,‹_›⟩
      cases h
    obtain ⟨⟨⟨k1,k2⟩,k3,k4⟩,k5⟩:=k
    obtain ⟨a,rfl⟩:=Int.eq_ofNat_of_zero_le k3
    obtain ⟨b,rfl⟩:=Int.eq_ofNat_of_zero_le (show 0<=wd by omega)
    have R:=Lib.hid (read_any s a b hs (by omega) (by omega))
    clear h hl
    show Calls _ _ _ _ fun e w'=>e=.returned (.tuple #[.int .u64 (Fld.num s.data.toList a b:Nat),.int .i64 0])/\_
    go_enter Tryz.func119,Tryz.ntmps119
    go_wp2_with fail
    refine (C.out _).mono ?_
    rintro e w' ⟨rfl,rfl⟩
    go_wp2_with fail
    refine (R.out _).mono ?_
    rintro e w' ⟨rfl,hB⟩
    go_wp2_with fail
    go_ret2
    exact ⟨rfl,hB⟩
  rw [if_neg h]
  obtain ⟨c,hc⟩:∃ c,Fld.chk s.size p wd=c:=⟨_,rfl⟩
  rw [hc] at C h ⊢
  have h':(c == 0)=false:=by simpa using h
  have h'':(c != 0)=true:=by simpa using h
  have B:=Below.refl w.heap.size w
  clear h hl hc
  go_enter Tryz.func119,Tryz.ntmps119
  go_wp2_with fail
  refine (C.out _).mono ?_
  rintro e w' ⟨rfl,rfl⟩
  go_wp2_with fail
  go_ret2
  exact ⟨rfl,B⟩
end Go.Proofs.YtchfkncbemjepaaGreat
/- The contracts of package fields' Signed, fits, replaced, Put, PutSigned, Flip over this program. -/
namespace Go.Proofs.YtchfkncbemjepaaGreat
open Go.RowKit Go.Shelf

namespace Fld
def two (v wd:Nat):Int:=if v < 2 ^ (wd - 1) then v else (v:Int) - 2 ^ wd
end Fld

theorem bitLen_lt (v k:Nat) (hv:v < 18446744073709551616) (hk:k<=64):Lib.bitLen v<=k ↔ v < 2 ^ k:=by
  constructor
  · intro h
    by_cases z:v=0
    · subst z; exact Nat.pow_pos (by omega)
    have:=(Lib.bitLenAux_bounds 64 v (by simpa using hv) z).2.2
    exact Nat.lt_of_lt_of_le this (Nat.pow_le_pow_right (by omega) h)
  exact Lib.bitLen_le v k hk

namespace Fld
def fitsB (v wd:Nat):Bool:=decide (v < 2 ^ wd)
end Fld
theorem fits_any (v wd:Nat) (hv:v < 18446744073709551616) (hk:wd<=64) (w:World):
    Calls Tryz.prog 134 #[.int .u64 v,.int .i64 wd] w fun e w'=>e=.returned (.bool (Fld.fitsB v wd))/\w=w':=by
  have e:Fld.fitsB v wd=decide (Lib.bitLen v<=wd):=by unfold Fld.fitsB; rw [decide_eq_decide]; exact (bitLen_lt v wd hv hk).symm
  have L:=Lib.hid (fun w=>len64_any v w (by omega) (by omega))
  rw [e]
  clear e
  go_enter Tryz.func134,Tryz.ntmps134
  go_wp2_with fail
  refine (L.out _).mono ?_
  rintro e w' ⟨rfl,rfl⟩
  go_wp2_with fail
  go_ret
  refine ⟨?_,rfl⟩
  simp

theorem write_any (b cap p wd v n₀:Nat) (l:List UInt8) (hl:l.length<=70000) (hin:p + wd<=8 * l.length) (hwd:wd<=64) (hv:v < 18446744073709551616) (w:World) (hb:b < w.heap.size) (hn₀:n₀<=b) (hh:Holds w b l):
    Calls Tryz.prog 136 #[.slice (some ⟨b,0,none⟩) l.length cap,.int .i64 p,.int .i64 wd,.int .u64 v] w fun e W'=>(∃ v,e=.returned v)/\Holds W' b (Fld.put l p wd v wd)/\Below n₀ w W':=
  callsIn_wide.1 (write_in 3 (by omega) b cap p wd v n₀ l hl hin hwd hv w hb hn₀ hh)

theorem back_bytes (w:World) (b cap:Nat) (l:List UInt8) (h:Holds w b l):(convert 103 9 (.slice (some ⟨b,0,none⟩) l.length cap)).run Tryz.prog w=.ok (.string ⟨l.toArray⟩) w:=
  run_convert_bytes_back w 103 9 5 ⟨b,0,none⟩ cap l Tryz.underlying103 Tryz.underlying5 Tryz.underlying9 (fun j hj=>by
    have e:(⟨b,0,none⟩:Addr).add j=⟨b,j,none⟩:=by unfold Addr.add; split <;> simp_all
    rw [e,(h j hj).1]
    simp [List.getD_eq_getElem?_getD,List.getElem?_eq_getElem hj])

namespace Fld
def fitsS (v:Int) (wd:Nat):Prop:=-2 ^ (wd - 1)<=v/\v < 2 ^ (wd - 1)
instance (v:Int) (wd:Nat):Decidable (fitsS v wd):=by unfold fitsS; infer_instance
end Fld
theorem empty_str:(⟨([]:List UInt8).toArray⟩:ByteArray)={ data:=#[] }:=rfl

namespace Fld
end Fld
end Go.Proofs.YtchfkncbemjepaaGreat
/- The contracts of the functions on lists of widths over this program: the program's areWidths, total, filled, the reference's all, bits. -/
namespace Go.Proofs.YtchfkncbemjepaaGreat
open Go.RowKit Go.Shelf

def FReads (k:IntKind) (w:World) (a:Option Addr) (zs:List Int):Prop:=zs=[]\/∃ b off,a=some ⟨b,off,none⟩/\b < w.heap.size/\∀ j,j < zs.length->w.cell? ⟨b,off + j,none⟩=some (.int k (zs.getD j 0))
theorem FReads.below {k:IntKind} {w w':World} {a:Option Addr} {zs:List Int} (h:FReads k w a zs) (hb:Below w.heap.size w w'):FReads k w' a zs:=by
  rcases h with h | ⟨b,off,rfl,hl,hc⟩
  · exact .inl h
  exact .inr ⟨b,off,rfl,Nat.lt_of_lt_of_le hl hb.size,fun j hj=>(hb.cell (p:=⟨b,off + j,none⟩) hl).trans (hc j hj)⟩

namespace Fld
def allW (zs:List Int):Bool:=zs.all isW
def tot (ns:List Nat):Nat:=ns.sum
theorem allW_take_succ (zs:List Int) (k:Nat) (h:k < zs.length):allW (zs.take (k + 1))=(allW (zs.take k) && isW (zs.getD k 0)):=by
  unfold allW
  rw [List.take_succ_eq_append_getElem h,List.all_append]
  simp [List.getD,List.getElem?_eq_getElem h]
theorem allW_false (zs:List Int) (k:Nat) (h:k < zs.length) (e:isW (zs.getD k 0)=false):allW zs=false:=by
  unfold allW
  rw [List.all_eq_false]
  refine ⟨zs.getD k 0,?_,by rw [e]; decide⟩
  simp [List.getD,List.getElem?_eq_getElem h]
theorem tot_take_succ (ns:List Nat) (k:Nat) (h:k < ns.length):tot (ns.take (k + 1))=tot (ns.take k) + ns.getD k 0:=by
  unfold tot
  rw [List.take_succ_eq_append_getElem h,List.sum_append]
  simp [List.getD,List.getElem?_eq_getElem h]
theorem tot_le (ns:List Nat) (c:Nat) (h:∀ j,j < ns.length->ns.getD j 0<=c):∀ k,k<=ns.length->tot (ns.take k)<=k * c
  | 0,_=>by simp [tot]
  | k + 1,hk=>by
    rw [tot_take_succ ns k hk]
    have:=tot_le ns c h k (by omega)
    have:=h k hk
    rw [Nat.add_mul]
    omega
end Fld

theorem areWidths_any (a:Option Addr) (cap:Nat) (zs:List Int) (hl:zs.length<=600) (w:World) (h:FReads .i64 w a zs):
    Calls Tryz.prog 132 #[.slice a zs.length cap] w fun e w'=>e=.returned (.bool (Fld.allW zs))/\w=w':=by
  rcases h with rfl | ⟨b,off,rfl,hlt,hc⟩
  · show Calls _ _ #[.slice a 0 cap] _ _
    go_enter Tryz.func132,Tryz.ntmps132
    go_wp2_with fail
    refine wp_loop_rounds 1 ?_
    rw [rounds_succ]
    go_wp2_with fail
    go_ret
    exact ⟨rfl,rfl⟩
  obtain ⟨n,hn⟩:∃ n,zs.length=n:=⟨_,rfl⟩
  rw [hn] at hl hc ⊢
  have HC:=Lib.hid hc
  have HN:=Lib.hid hn
  have IW:=Lib.hid (fun z w=>isWidth_any z w)
  clear hc hn
  go_enter Tryz.func132,Tryz.ntmps132
  go_wp2_with fail
  go_loop [7] (fun i=>∃ k:Nat,k<=n/\i=.int .i64 k/\Fld.allW (zs.take k)=true) (fun i=>n - (intOf i).toNat)
  case atStart=>exact ⟨0,Nat.zero_le _,rfl,rfl⟩
  case round=>
    obtain ⟨k,hk,rfl,ha⟩:=hrel
    by_cases hlt2:k < n
    · have hcell:=HC.out k hlt2
      obtain ⟨z,hz⟩:∃ z,zs.getD k 0=z:=⟨_,rfl⟩
      rw [hz] at hcell
      have S:=Fld.allW_take_succ zs k (by have:=HN.out; omega)
      rw [ha,hz] at S
      by_cases e:Fld.isW z=true
      · have SS:=Lib.hid (S.trans (show (true && Fld.isW z)=true by rw [e]; rfl))
        have HZ:=Lib.hid hz
        clear S hz ha
        go_wp2_with fail
        refine (IW.out _ _).mono ?_
        rintro e w' ⟨rfl,rfl⟩
        go_wp2_with fail
        go_round
        case rel=>exact ⟨k + 1,by omega,by go_num,SS.out⟩
        case measure=>simp [intOf]; omega
      have e0:Fld.isW z=false:=by simpa using e
      have AF:=Fld.allW_false zs k (by have:=HN.out; omega) (by rw [hz]; exact e0)
      have AFF:=Lib.hid AF
      clear S hz ha AF e
      go_wp2_with fail
      refine (IW.out _ _).mono ?_
      rintro e w' ⟨rfl,rfl⟩
      go_wp2_with fail
      go_ret
      exact ⟨by rw [AFF.out]; rfl,rfl⟩
    obtain rfl:k=n:=by omega
    have ha':Fld.allW zs=true:=by rw [<-HN.out,List.take_length] at ha; exact ha
    have HA:=Lib.hid ha'
    clear ha ha'
    go_wp2_with fail
    go_ret
    exact ⟨by rw [HA.out]; rfl,rfl⟩

theorem total_any (a:Option Addr) (cap:Nat) (ns:List Nat) (hl:ns.length<=600) (hb:∀ j,j < ns.length->ns.getD j 0<=64) (w:World) (h:FReads .i64 w a (ns.map Int.ofNat)):
    Calls Tryz.prog 133 #[.slice a ns.length cap] w fun e w'=>e=.returned (.int .i64 (Fld.tot ns:Nat))/\w=w':=by
  rcases h with h0 | ⟨b,off,rfl,hlt,hc⟩
  · obtain rfl:ns=[]:=by simpa using h0
    show Calls _ _ #[.slice a 0 cap] _ _
    go_enter Tryz.func133,Tryz.ntmps133
    go_wp2_with fail
    refine wp_loop_rounds 1 ?_
    rw [rounds_succ]
    go_wp2_with fail
    go_ret
    exact ⟨rfl,rfl⟩
  have tl:=Fld.tot_le ns 64 hb
  have cell:∀ j,j < ns.length->w.cell? ⟨b,off + j,none⟩=some (.int .i64 (ns.getD j 0:Nat)):=fun j hj=>by
    have:=hc j (by simpa using hj)
    rw [this]
    simp [List.getD,List.getElem?_eq_getElem hj]
  obtain ⟨n,hn⟩:∃ n,ns.length=n:=⟨_,rfl⟩
  have st:=Fld.tot_take_succ ns
  rw [hn] at hl cell hb tl st ⊢
  have HC:=Lib.hid cell
  have HN:=Lib.hid hn
  have TL:=Lib.hid tl
  have HB:=Lib.hid hb
  have ST:=Lib.hid st
  clear hc hn tl hb cell st
  go_enter Tryz.func133,Tryz.ntmps133
  go_wp2_with fail
  go_loop [3,8] (fun t i=>∃ k:Nat,k<=n/\i=.int .i64 k/\t=.int .i64 (Fld.tot (ns.take k):Nat)) (fun _ i=>n - (intOf i).toNat)
  case atStart=>exact ⟨0,Nat.zero_le _,rfl,rfl⟩
  case round=>
    obtain ⟨k,hk,rfl,rfl⟩:=hrel
    by_cases hlt2:k < n
    · have hcell:=HC.out k hlt2
      have S:=ST.out k hlt2
      have t1:=TL.out k hk
      have t2:=HB.out k hlt2
      obtain ⟨z,hz⟩:∃ z,ns.getD k 0=z:=⟨_,rfl⟩
      rw [hz] at hcell S t2
      obtain ⟨t,ht⟩:∃ t,Fld.tot (ns.take k)=t:=⟨_,rfl⟩
      rw [ht] at S t1 ⊢
      have SS:=Lib.hid S
      have t3:t<=40000:=by omega
      clear S hz ht t1
      go_wp2_with fail
      go_round
      case rel=>exact ⟨k + 1,by omega,by go_num,by rw [SS.out]; go_num⟩
      case measure=>simp [intOf]; omega
    obtain rfl:k=n:=by omega
    have e:ns.take k=ns:=by rw [<-HN.out,List.take_length]
    rw [e]
    clear e
    go_wp2_with fail
    go_ret
    exact ⟨rfl,rfl⟩

namespace Fld
def fill (ns:List Nat):List Nat:=if tot ns % 8=0 then ns else ns ++ [8 - tot ns % 8]
theorem fill_tot (ns:List Nat):tot (fill ns) % 8=0/\tot ns<=tot (fill ns)/\tot (fill ns)<=tot ns + 7:=by
  unfold fill
  split
  · omega
  have:tot (ns ++ [8 - tot ns % 8])=tot ns + (8 - tot ns % 8):=by unfold tot; simp
  omega
theorem fill_length (ns:List Nat):(fill ns).length<=ns.length + 1:=by
  unfold fill
  split <;> simp
theorem fill_le (ns:List Nat) (h:∀ j,j < ns.length->ns.getD j 0<=64):∀ j,j < (fill ns).length->(fill ns).getD j 0<=64:=by
  unfold fill
  split
  · exact h
  intro j hj
  by_cases e:j < ns.length
  · have:=h j e
    simpa [List.getD,List.getElem?_append_left e] using this
  have:j=ns.length:=by simp at hj; omega
  subst this
  simp [List.getD]
  omega
end Fld
theorem info_int:(Tryz.prog.info? 3).map (fun i=>(i.zero,i.size,i.bytes))=some (some (.int .i64 0),1,8):=by kernel_rfl

def Filled (ns:List Nat) (w:World) (e:Ending) (w':World):Prop:=∃ a' cap',e=.returned (.slice a' (Fld.fill ns).length cap')/\(Fld.fill ns).length<=cap'/\FReads .i64 w' a' ((Fld.fill ns).map Int.ofNat)/\Below w.heap.size w w'

theorem getD_ofNat (ns:List Nat) (j:Nat) (h:j < ns.length):(ns.map Int.ofNat).getD j 0=(ns.getD j 0:Nat):=by
  simp [List.getD,List.getElem?_eq_getElem h]

theorem reads_own {k:IntKind} {w:World} {base e:Nat} {a:Option Addr} {n cap:Nat} {zs:List Int} (h:w.ownsRow base e 1 (.slice a n cap) n (zs.map (Value.int k))):FReads k w a zs/\n=zs.length/\n<=cap:=by
  obtain ⟨hl,h⟩:=h
  have hn:n=zs.length:=by simpa using hl.symm
  rcases h with ⟨hv,h0⟩ | ⟨g,c,cur,hv,hb,hg,hnc,hm,hsz,ht⟩
  · simp only [Value.slice.injEq] at hv
    exact ⟨.inl (List.eq_nil_of_length_eq_zero (by omega)),hn,by omega⟩
  simp only [Value.slice.injEq] at hv
  obtain ⟨rfl,_,rfl⟩:=hv
  refine ⟨.inr ⟨g,0,rfl,(Array.getElem?_eq_some_iff.1 hg).1,fun j hj=>?_⟩,hn,hnc⟩
  have e1:w.cell? ⟨g,0 + j,none⟩=cur[j]?:=by
    unfold World.cell?
    rw [hg]
    simp
  have e2:(cur.toList.take (n * 1))[j]?=cur[j]?:=by
    rw [List.getElem?_take_of_lt (by omega)]
    simp
  rw [e1,<-e2,ht,List.getElem?_map]
  simp [List.getD,List.getElem?_eq_getElem hj]

theorem add_addr (b off j:Nat):(⟨b,off,none⟩:Addr).add j=⟨b,off + j,none⟩:=by unfold Addr.add; split <;> simp_all
theorem cells_add {k:IntKind} {w:World} {b off:Nat} {zs:List Int} (hc:∀ j,j < zs.length->w.cell? ⟨b,off + j,none⟩=some (.int k (zs.getD j 0))):
    ∀ b',some (⟨b,off,none⟩:Addr)=some b'->∀ j u,(zs.map (Value.int k))[j]?=some u->w.cell? (b'.add j)=some u:=by
  intro b' e j u hu
  cases e
  have hj:j < zs.length:=by
    have:=(List.getElem?_eq_some_iff.1 hu).1
    simpa using this
  rw [add_addr,hc j hj]
  rw [List.getElem?_map,List.getElem?_eq_getElem hj] at hu
  simp [List.getD,List.getElem?_eq_getElem hj]
  simpa using hu
theorem f2_cell_one {w:World} {v:Value} {t:TypeId}:∀ j u,[v][j]?=some u->(w.alloc (.cells #[v] t)).cell? ((⟨w.heap.size,0,none⟩:Addr).add j)=some u:=by
  intro j u hu
  have hj:j < 1:=by
    have:=(List.getElem?_eq_some_iff.1 hu).1
    simpa using this
  obtain rfl:j=0:=by omega
  rw [add_addr]
  have:=(f2_cell_new_l w v t).1
  simp at hu
  subst hu
  exact this
theorem own_slice {w:World} {base e n:Nat} {v:Value} {xs:List Value} (h:w.ownsRow base e 1 v n xs):∃ a cap,v=.slice a n cap:=by
  rcases h.2 with ⟨rfl,rfl⟩ | ⟨g,c,_,rfl,_⟩
  · exact ⟨none,0,rfl⟩
  exact ⟨_,c,rfl⟩

theorem filled_any (a:Option Addr) (cap:Nat) (ns:List Nat) (hl:ns.length<=599) (hcap:ns.length<=cap) (hcm:cap<=9223372036854775807) (hb:∀ j,j < ns.length->ns.getD j 0<=64) (w:World) (h:FReads .i64 w a (ns.map Int.ofNat)):
    Calls Tryz.prog 135 #[.slice a ns.length cap] w (Filled ns w):=by
  have T:=Lib.hid (total_any a cap ns (by omega) hb w h)
  by_cases c:Fld.tot ns % 8=0
  · have e:Fld.fill ns=ns:=if_pos c
    have R:Filled ns w (.returned (.slice a ns.length cap)) w:=by
      refine ⟨a,cap,by rw [e],by rw [e]; exact hcap,by rw [e]; exact h,Below.refl _ _⟩
    have RR:=Lib.hid R
    have tb:=Fld.tot_le ns 64 hb ns.length (Nat.le_refl _)
    rw [List.take_length] at tb
    obtain ⟨t,ht⟩:∃ t,Fld.tot ns=t:=⟨_,rfl⟩
    rw [ht] at T c tb
    have c':(t:Int) % 8=0:=by omega
    have t1:t<=40000:=by omega
    clear h e R hb ht tb
    go_enter Tryz.func135,Tryz.ntmps135
    go_wp2_with fail
    refine T.out.mono ?_
    rintro e w' ⟨rfl,rfl⟩
    go_wp2_with fail
    go_ret
    exact RR.out
  have e:Fld.fill ns=ns ++ [8 - Fld.tot ns % 8]:=if_neg c
  have tb:=Fld.tot_le ns 64 hb ns.length (Nat.le_refl _)
  rw [List.take_length] at tb
  rcases h with h0 | ⟨b,off,rfl,hlt,hc⟩
  · obtain rfl:ns=[]:=by simpa using h0
    exact absurd rfl c
  obtain ⟨t,ht⟩:∃ t,Fld.tot ns=t:=⟨_,rfl⟩
  rw [ht] at T c tb e
  obtain ⟨r,hr⟩:∃ r,t % 8=r:=⟨_,rfl⟩
  rw [hr] at c e
  have r1:(t:Int) % 8=(r:Int):=by omega
  have r2:((r:Int) == 0)=false:=by simp; omega
  have r3:r < 8:=by omega
  have t1:t<=40000:=by omega
  obtain ⟨n,hn⟩:∃ n,ns.length=n:=⟨_,rfl⟩
  have HE:=Lib.hid e
  have HN:=Lib.hid hn
  have HC:=Lib.hid hc
  rw [hn] at T hl hcap ⊢
  clear hc hb ht hr c e hn tb
  go_enter Tryz.func135,Tryz.ntmps135
  go_wp2_with fail
  refine T.out.mono ?_
  rintro e w' ⟨rfl,rfl⟩
  obtain ⟨i0,hi,hz0,hz1,hz2⟩:=info_parts info_int
  have OC:=Lib.hid (cells_add (k:=.i64) (w:=w.alloc (.cells #[.int .i64 (8 - (r:Int))] 3)) (b:=b) (off:=off) (zs:=ns.map Int.ofNat) (fun j hj=>(World.cell?_alloc_lt (h:=hlt) ..).trans (HC.out j hj)))
  have HL:=Lib.hid (show ((ns.map Int.ofNat).map (Value.int .i64)).length=n * 1 by simp [HN.out])
  have BB:=Lib.hid (((Below.refl w.heap.size w).alloc (Nat.le_refl _) (.cells #[.int .i64 (8 - (r:Int))] 3)))
  go_wp2_with (at_builtin; refine wpList_append_grows _ rfl _ _ 72 rfl 3 i0 (.int .i64 0) 1 8 Tryz.underlying72 hi hz0 hz1 hz2 rfl (by decide) (some ⟨b,off,none⟩) n n ((ns.map Int.ofNat).map (Value.int .i64)) rfl (fun h=>by cases h) HL.out OC.out ⟨w.heap.size,0,none⟩ 1 1 [.int .i64 (8 - (r:Int))] rfl rfl f2_cell_one (by simp [Value.oneCell']) (by omega) (by unfold maxLen; omega) (by omega) ?_; intro v' w' hown hgrow)
  go_ret
  obtain ⟨a',cap',rfl⟩:=own_slice hown
  have e1:(ns.map Int.ofNat).map (Value.int .i64) ++ [.int .i64 (8 - (r:Int))]=((Fld.fill ns).map Int.ofNat).map (Value.int .i64):=by
    rw [HE.out,List.map_append,List.map_append]
    have:(8 - (r:Int))=Int.ofNat (8 - r):=by show _=((8 - r:Nat):Int); omega
    rw [this]
    rfl
  rw [e1] at hown
  obtain ⟨q1,q2,q3⟩:=reads_own hown
  have q4:n + 1=(Fld.fill ns).length:=by rw [HE.out]; simp [HN.out]
  exact ⟨a',cap',by rw [<-q4]; rfl,by omega,q1,BB.out.trans ((Below.refl _ _).grown hgrow (by simp) (fun k e=>by cases e))⟩
end Go.Proofs.YtchfkncbemjepaaGreat
/- FldPack, FldPack2 of layer 2 as one text, under names of their own. -/
/- The contract of package fields' Pack over this program. -/
namespace Go.Proofs.YtchfkncbemjepaaGreat
open Go.RowKit Go.Shelf

namespace Fld
def pk (l:List UInt8) (ns vs:List Nat):Nat->List UInt8
  | 0=>l
  | k + 1=>put (pk l ns vs k) (tot (ns.take k)) (ns.getD k 0) (vs.getD k 0) (ns.getD k 0)
theorem pk_length (l:List UInt8) (ns vs:List Nat):∀ k,(pk l ns vs k).length=l.length
  | 0=>rfl
  | k + 1=>by unfold pk; rw [put_length,pk_length l ns vs k]
def fitAll (ns vs:List Nat):Bool:=(List.range ns.length).all fun i=>fitsB (vs.getD i 0) (ns.getD i 0)
theorem fitAll_no (ns vs:List Nat) (k:Nat) (h:k < ns.length) (e:fitsB (vs.getD k 0) (ns.getD k 0)=false):fitAll ns vs=false:=by
  unfold fitAll
  rw [List.all_eq_false]
  exact ⟨k,by simpa using h,by rw [e]; decide⟩
theorem fitAll_yes (ns vs:List Nat) (h:∀ i,i < ns.length->fitsB (vs.getD i 0) (ns.getD i 0)=true):fitAll ns vs=true:=by
  unfold fitAll
  rw [List.all_eq_true]
  intro i hi
  exact h i (by simpa using hi)
def nats (zs:List Int):List Nat:=zs.map Int.toNat
def packE (zs:List Int) (vs:List Nat):Int:=if vs.length=zs.length/\allW zs=true then (if fitAll (nats zs) vs=true then 0 else 7) else 2
def zeros (n:Nat):List UInt8:=List.replicate n 0
def packB (ns vs:List Nat):List UInt8:=pk (zeros ((tot ns + 7) / 8)) ns vs ns.length
def packS (ns vs:List Nat):List UInt8:=if fitAll ns vs=true then packB ns vs else []
def packK (ns vs:List Nat):Int:=if fitAll ns vs=true then 0 else 7
theorem packS_no {ns vs:List Nat} (h:fitAll ns vs=false):packS ns vs=[]/\packK ns vs=7:=by unfold packS packK; rw [h]; exact ⟨rfl,rfl⟩
theorem packS_yes {ns vs:List Nat} (h:fitAll ns vs=true):packS ns vs=packB ns vs/\packK ns vs=0:=by unfold packS packK; rw [h]; exact ⟨rfl,rfl⟩
def packV (zs:List Int) (vs:List Nat):List UInt8:=if packE zs vs=0 then packB (nats zs) vs else []
theorem nats_length (zs:List Int):(nats zs).length=zs.length:=by simp [nats]
theorem allW_mem {zs:List Int} (h:allW zs=true) (j:Nat) (hj:j < zs.length):1<=zs.getD j 0/\zs.getD j 0<=64:=by
  unfold allW at h
  rw [List.all_eq_true] at h
  have:=h (zs.getD j 0) (by simp [List.getD,List.getElem?_eq_getElem hj])
  exact (isW_iff _).1 this
theorem nats_get {zs:List Int} (h:allW zs=true) (j:Nat) (hj:j < zs.length):((nats zs).getD j 0:Int)=zs.getD j 0/\1<=(nats zs).getD j 0/\(nats zs).getD j 0<=64:=by
  have:=allW_mem h j hj
  have e:(nats zs).getD j 0=(zs.getD j 0).toNat:=by simp [nats,List.getD,List.getElem?_eq_getElem hj]
  rw [e]
  omega
theorem nats_map {zs:List Int} (h:allW zs=true):(nats zs).map Int.ofNat=zs:=by
  apply List.ext_getElem
  · simp [nats]
  intro i h1 h2
  have:=allW_mem h i h2
  simp [List.getD,List.getElem?_eq_getElem h2] at this
  simp [nats]
  omega
theorem tot_mono (ns:List Nat) (k:Nat):tot (ns.take k)<=tot ns:=by
  have:tot (ns.take k) + tot (ns.drop k)=tot ns:=by unfold tot; rw [<-List.sum_append,List.take_append_drop]
  omega
theorem fill_bytes (ns:List Nat):tot (fill ns) / 8=(tot ns + 7) / 8:=by
  have:=fill_tot ns
  omega
end Fld
theorem f2_info_u8:(Tryz.prog.info? 5).map (fun i=>(i.zero,i.size,i.bytes))=some (some (.int .u8 0),1,1):=by kernel_rfl

theorem FReads.cell {k:IntKind} {w:World} {a:Option Addr} {zs:List Int} (h:FReads k w a zs) (hz:0 < zs.length):∃ b off,a=some ⟨b,off,none⟩/\b < w.heap.size/\∀ j,j < zs.length->w.cell? ⟨b,off + j,none⟩=some (.int k (zs.getD j 0)):=by
  rcases h with rfl | h
  · simp at hz
  exact h

theorem holds_made {w:World} {base b n cap:Nat} {zs:List Value} (h:w.ownsRow base 5 1 (.slice (some ⟨b,0,none⟩) n cap) n zs) (hz:∀ j,j < n->zs[j]?=some (.int .u8 0)):Holds w b (Fld.zeros n):=by
  obtain ⟨hl,h⟩:=h
  rcases h with ⟨hv,_⟩ | ⟨g,c,cur,hv,hb,hg,hnc,hm,hsz,ht⟩
  · simp at hv
  simp only [Value.slice.injEq,Option.some.injEq,Addr.mk.injEq] at hv
  obtain ⟨⟨rfl,_,_⟩,_,rfl⟩:=hv
  intro j hj
  have hj':j < n:=by simpa [Fld.zeros] using hj
  have e1:w.cell? ⟨b,j,none⟩=cur[j]?:=by
    unfold World.cell?
    rw [hg]
    simp
  have e2:(cur.toList.take (n * 1))[j]?=cur[j]?:=by
    rw [List.getElem?_take_of_lt (by omega)]
    simp
  refine ⟨?_,?_⟩
  · rw [e1,<-e2,ht,hz j hj']
    simp [Fld.zeros,List.getD,hj']
  unfold World.frozen?
  rw [hg]
  simp
theorem made_zero (n j:Nat) (h:j < n):(madeCells (Value.int IntKind.u8 0).cells (n * 1)).toList[j]?=some (.int .u8 0):=by
  unfold madeCells
  simp [Value.cells,h,Nat.mod_one]

theorem pack_ok (b1 o1 cap1 b2 o2 cap2:Nat) (zs:List Int) (vs:List Nat) (n:Nat) (hz:zs.length=n) (hv:vs.length=n) (n0:0 < n) (hl:n<=500) (hc1:n<=cap1) (hm1:cap1<=9223372036854775807) (hvb:∀ j,j < n->vs.getD j 0 < 18446744073709551616)
    (hw:Fld.allW zs=true) (w:World) (l1:b1 < w.heap.size) (l2:b2 < w.heap.size)
    (c1:∀ j,j < n->w.cell? ⟨b1,o1 + j,none⟩=some (.int .i64 ((Fld.nats zs).getD j 0:Nat))) (c2:∀ j,j < n->w.cell? ⟨b2,o2 + j,none⟩=some (.int .u64 (vs.getD j 0:Nat))):
    Calls Tryz.prog 114 #[.slice (some ⟨b1,o1,none⟩) n cap1,.slice (some ⟨b2,o2,none⟩) n cap2] w fun e w'=>
      e=.returned (.tuple #[.string ⟨(Fld.packS (Fld.nats zs) vs).toArray⟩,.int .i64 (Fld.packK (Fld.nats zs) vs)])/\Below w.heap.size w w':=by
  have nl:(Fld.nats zs).length=n:=by rw [Fld.nats_length,hz]
  have nb:∀ j,j < n->1<=(Fld.nats zs).getD j 0/\(Fld.nats zs).getD j 0<=64:=fun j hj=>(Fld.nats_get hw j (by omega)).2
  have R1:FReads .i64 w (some ⟨b1,o1,none⟩) zs:=.inr ⟨b1,o1,rfl,l1,fun j hj=>by rw [c1 j (by omega),(Fld.nats_get hw j hj).1]⟩
  have A:=Lib.hid (areWidths_any (some ⟨b1,o1,none⟩) cap1 zs (by omega) w R1)
  rw [hw,hz] at A
  obtain ⟨ns,hns⟩:∃ ns,Fld.nats zs=ns:=⟨_,rfl⟩
  have R2:FReads .i64 w (some ⟨b1,o1,none⟩) (ns.map Int.ofNat):=by rw [<-hns,Fld.nats_map hw]; exact R1
  rw [hns] at nl nb c1 ⊢
  have T:=Lib.hid (total_any (some ⟨b1,o1,none⟩) cap1 ns (by omega) (fun j hj=>(nb j (by omega)).2) w R2)
  have FI:=Lib.hid (filled_any (some ⟨b1,o1,none⟩) cap1 ns (by omega) (by omega) hm1 (fun j hj=>(nb j (by omega)).2) w R2)
  have tb:=Fld.tot_le ns 64 (fun j hj=>(nb j (by omega)).2) ns.length (Nat.le_refl _)
  rw [List.take_length] at tb
  obtain ⟨t,ht⟩:∃ t,Fld.tot ns=t:=⟨_,rfl⟩
  rw [ht] at T tb
  rw [nl] at T FI
  have t1:t<=40000:=by omega
  have fillL:=Fld.fill_le ns (fun j hj=>(nb j (by omega)).2)
  have fillN:=Fld.fill_length ns
  have FITS:=Lib.hid (fun v k (a:v < 18446744073709551616) (b:k<=64) (w:World)=>fits_any v k a b w)
  have FY:=Lib.hid (Fld.fitAll_yes ns vs)
  have FN:=Lib.hid (Fld.fitAll_no ns vs)
  have HC1:=Lib.hid c1
  have HC2:=Lib.hid c2
  have NL:=Lib.hid nl
  have NB:=Lib.hid nb
  have VB:=Lib.hid hvb
  have TT:=Lib.hid ht
  have FL:=Lib.hid fillL
  have FLN:=Lib.hid fillN
  clear c1 c2 nl nb hvb ht hns hz hv hw R1 R2 tb fillL fillN
  go_enter Tryz.func114,Tryz.ntmps114
  go_wp2_with fail
  refine A.out.mono ?_
  rintro e w' ⟨rfl,rfl⟩
  go_wp2_with fail
  refine T.out.mono ?_
  rintro e w' ⟨rfl,rfl⟩
  go_wp2_with fail
  go_loop [27] (fun i=>∃ k:Nat,k<=n/\i=.int .i64 k/\∀ i,i < k->Fld.fitsB (vs.getD i 0) (ns.getD i 0)=true) (fun i=>n - (intOf i).toNat)
  case atStart=>exact ⟨0,Nat.zero_le _,rfl,fun i hi=>by omega⟩
  case round=>
    obtain ⟨k,hk,rfl,ha⟩:=hrel
    have HA:=Lib.hid ha
    clear ha
    by_cases hlt:k < n
    · have q1:=HC1.out k hlt
      have q2:=HC2.out k hlt
      have F:=Lib.hid (FITS.out (vs.getD k 0) (ns.getD k 0) (VB.out k hlt) (NB.out k hlt).2)
      obtain ⟨x,hx⟩:∃ x,ns.getD k 0=x:=⟨_,rfl⟩
      obtain ⟨y,hy⟩:∃ y,vs.getD k 0=y:=⟨_,rfl⟩
      rw [hx] at q1 F
      rw [hy] at q2 F
      by_cases f:Fld.fitsB y x=true
      · rw [f] at F
        have ST:=Lib.hid (show ∀ i,i < k + 1->Fld.fitsB (vs.getD i 0) (ns.getD i 0)=true from fun i hi=>by
          by_cases e:i=k
          · subst e; rw [hx,hy]; exact f
          exact HA.out i (by omega))
        clear f hx hy
        go_wp2_with fail
        refine (F.out _).mono ?_
        rintro e w' ⟨rfl,rfl⟩
        go_wp2_with fail
        go_round
        case rel=>exact ⟨k + 1,by omega,by go_num,ST.out⟩
        case measure=>simp [intOf]; omega
      have f0:Fld.fitsB y x=false:=by simpa using f
      rw [f0] at F
      have FF:=Lib.hid (FN.out k (by rw [NL.out]; exact hlt) (by rw [hx,hy]; exact f0))
      have B:=Lib.hid (Below.refl w.heap.size w)
      clear f f0 hx hy
      go_wp2_with fail
      refine (F.out _).mono ?_
      rintro e w' ⟨rfl,rfl⟩
      go_wp2_with fail
      go_ret2
      exact ⟨by rw [(Fld.packS_no FF.out).1,(Fld.packS_no FF.out).2]; rfl,B.out⟩
    obtain rfl:n=k:=by omega
    have FF:=Lib.hid (FY.out (fun i hi=>HA.out i (by rw [<-NL.out]; exact hi)))
    go_wp2_with fail
    refine FI.out.mono ?_
    rintro e w1 ⟨a',cap',rfl,hfc,hfr,hfb⟩
    have T2:=Lib.hid (total_any a' cap' (Fld.fill ns) (by have:=FLN.out; have:=NL.out; omega) FL.out w1 hfr)
    obtain ⟨t2,ht2⟩:∃ t,Fld.tot (Fld.fill ns)=t:=⟨_,rfl⟩
    have e8:t2 / 8=(t + 7) / 8:=by have:=Fld.fill_bytes ns; rw [TT.out,ht2] at this; exact this
    have t3:t2<=50000:=by have:=(Fld.fill_tot ns).2.2; rw [TT.out,ht2] at this; omega
    rw [ht2] at T2
    have HFB:=Lib.hid hfb
    obtain ⟨m,hm⟩:∃ m,(t + 7) / 8=m:=⟨_,rfl⟩
    have e9:(t2:Int) / 8=(m:Int):=by omega
    have m1:m<=50000:=by omega
    have HM:=Lib.hid hm
    clear hfb hfr ht2 hm e8 hfc
    go_wp2_with fail
    refine T2.out.mono ?_
    rintro e w' ⟨rfl,rfl⟩
    obtain ⟨i0,hi,hz0,hz1,hz2⟩:=info_parts f2_info_u8
    go_wp2_with (at_make; refine wpList_make_full _ rfl _ _ 103 rfl w1.heap.size 5 i0 (.int .u8 0) 1 Tryz.underlying103 hi hz0 hz1 .i64 .i64 _ _ m rfl rfl rfl rfl (by rw [hz2]; omega) (by unfold maxLen; omega) (Nat.le_refl _) ?_; intro w2 hown hgrow)
    obtain ⟨hBl,hBf⟩:Below w1.heap.size w1 w2/\w1.heap.size < w2.heap.size:=⟨(Below.refl _ _).grown hgrow (Nat.le_refl _) (fun k e=>by cases e),by
      rcases hown.2 with ⟨h,_⟩ | ⟨g,c,cur,hv,hb,hg,_⟩
      · simp at h
      simp only [Value.slice.injEq,Option.some.injEq,Addr.mk.injEq] at hv
      obtain ⟨⟨e,_,_⟩,_,_⟩:=hv
      rw [e]
      exact (Array.getElem?_eq_some_iff.1 hg).1⟩
    have HM2:=Lib.hid (holds_made hown (fun j hj=>made_zero m j hj))
    obtain ⟨B,hB⟩:∃ B,w1.heap.size=B:=⟨_,rfl⟩
    rw [hB] at HM2 hBf ⊢
    have hwB:w.heap.size<=B:=by rw [<-hB]; exact HFB.out.size
    have HB2:=Lib.hid (show Below w.heap.size w w2 from HFB.out.trans (hBl.mono HFB.out.size))
    clear hBl hown hgrow hB hi hz0 hz1 hz2
    go_loopw [9,47] (fun p i wr=>∃ k:Nat,k<=n/\i=.int .i64 k/\p=.int .i64 (Fld.tot (ns.take k):Nat)/\Holds wr B (Fld.pk (Fld.zeros m) ns vs k)/\Below w.heap.size w wr/\B < wr.heap.size) (fun _ i _=>n - (intOf i).toNat)
    case atStart=>exact ⟨0,Nat.zero_le _,rfl,rfl,HM2.out,HB2.out,hBf⟩
    case round=>
      obtain ⟨k,hk,rfl,rfl,hh,hB,hBs⟩:=hrel
      by_cases hlt:k < n
      · have q1:=(hB.cell (p:=⟨b1,o1 + k,none⟩) l1).trans (HC1.out k hlt)
        have q2:=(hB.cell (p:=⟨b2,o2 + k,none⟩) l2).trans (HC2.out k hlt)
        have pl:=Fld.pk_length (Fld.zeros m) ns vs k
        rw [show (Fld.zeros m).length=m by simp [Fld.zeros]] at pl
        have ts:=Fld.tot_take_succ ns k (by rw [NL.out]; exact hlt)
        have tm:=Fld.tot_mono ns (k + 1)
        have nb:=NB.out k hlt
        have vb:=VB.out k hlt
        have mm:=HM.out
        have st:Fld.pk (Fld.zeros m) ns vs (k + 1)=Fld.put (Fld.pk (Fld.zeros m) ns vs k) (Fld.tot (ns.take k)) (ns.getD k 0) (vs.getD k 0) (ns.getD k 0):=rfl
        rw [TT.out] at tm
        obtain ⟨x,hx⟩:∃ x,ns.getD k 0=x:=⟨_,rfl⟩
        obtain ⟨y,hy⟩:∃ y,vs.getD k 0=y:=⟨_,rfl⟩
        obtain ⟨p,hp⟩:∃ p,Fld.tot (ns.take k)=p:=⟨_,rfl⟩
        obtain ⟨p',hp'⟩:∃ p,Fld.tot (ns.take (k + 1))=p:=⟨_,rfl⟩
        obtain ⟨l,hl'⟩:∃ l,Fld.pk (Fld.zeros m) ns vs k=l:=⟨_,rfl⟩
        rw [hx] at q1 ts nb st
        rw [hy] at q2 vb st
        rw [hp] at ts st ⊢
        rw [hp'] at ts tm
        rw [hl'] at hh pl st
        have WR:=Lib.hid (write_any B m p x y w.heap.size l (by omega) (by omega) nb.2 vb wr hBs hwB hh)
        rw [pl] at WR
        have ST:=Lib.hid st
        have TS:=Lib.hid ts
        have HP:=Lib.hid hp'
        have HB:=Lib.hid hB
        have p1:p<=50000:=by omega
        have x1:x<=64:=nb.2
        clear hh hB st ts hx hy hp hp' hl' pl tm mm
        go_wp2_with fail
        (with_reducible refine WR.out.mono ?_)
        rintro e w4 ⟨⟨v0,rfl⟩,hh4,hB4⟩
        have q3:=(hB4.cell (p:=⟨b1,o1 + k,none⟩) l1).trans q1
        have HH4:=Lib.hid hh4
        have HB4:=Lib.hid (HB.out.trans hB4)
        have HS4:=Lib.hid (show B < w4.heap.size from Nat.lt_of_lt_of_le hBs hB4.size)
        clear hh4 hB4
        go_wp2_with fail
        go_roundw
        case rel=>exact ⟨k + 1,by omega,by go_num,by rw [HP.out,TS.out]; go_num,by rw [ST.out]; exact HH4.out,HB4.out,HS4.out⟩
        case measure=>simp [intOf]; omega
      obtain rfl:n=k:=by omega
      have bb:=back_bytes wr B m _ hh
      rw [Fld.pk_length,show (Fld.zeros m).length=m by simp [Fld.zeros]] at bb
      have e1:Fld.pk (Fld.zeros m) ns vs n=Fld.packB ns vs:=by unfold Fld.packB; rw [TT.out,HM.out,NL.out]
      rw [e1] at bb
      have HB:=Lib.hid hB
      clear hh hB e1
      go_wp2_with fail
      go_ret2
      exact ⟨by rw [(Fld.packS_yes FF.out).1,(Fld.packS_yes FF.out).2]; rfl,HB.out⟩
end Go.Proofs.YtchfkncbemjepaaGreat
/- The contract of package fields' Pack over this program, for all widths and values. -/
namespace Go.Proofs.YtchfkncbemjepaaGreat
open Go.RowKit Go.Shelf

theorem pack_len (a1 a2:Option Addr) (n1 cap1 n2 cap2:Nat) (h:n2 ≠ n1) (h1:n1<=600) (h2:n2<=600) (w:World):
    Calls Tryz.prog 114 #[.slice a1 n1 cap1,.slice a2 n2 cap2] w fun e w'=>e=.returned (.tuple #[.string { data:=#[] },.int .i64 2])/\w=w':=by
  have k1:((n2:Int) == (n1:Int))=false:=by simp; omega
  have k2:((n2:Int) != (n1:Int))=true:=by simp; omega
  go_enter Tryz.func114,Tryz.ntmps114
  go_wp2_with fail
  go_ret2
  exact ⟨rfl,rfl⟩

theorem pack_bad (a1 a2:Option Addr) (cap1 cap2:Nat) (zs:List Int) (n:Nat) (hn:zs.length=n) (hl:n<=600) (hw:Fld.allW zs=false) (w:World) (R1:FReads .i64 w a1 zs):
    Calls Tryz.prog 114 #[.slice a1 n cap1,.slice a2 n cap2] w fun e w'=>e=.returned (.tuple #[.string { data:=#[] },.int .i64 2])/\w=w':=by
  have A:=Lib.hid (areWidths_any a1 cap1 zs (by omega) w R1)
  rw [hw,hn] at A
  clear hw hn R1
  go_enter Tryz.func114,Tryz.ntmps114
  go_wp2_with fail
  (with_reducible refine A.out.mono ?_)
  rintro e w' ⟨rfl,rfl⟩
  go_wp2_with fail
  go_ret2
  exact ⟨rfl,rfl⟩

theorem pack_empty (a1 a2:Option Addr) (cap1 cap2:Nat) (hm1:cap1<=9223372036854775807) (w:World):
    Calls Tryz.prog 114 #[.slice a1 0 cap1,.slice a2 0 cap2] w fun e w'=>e=.returned (.tuple #[.string { data:=#[] },.int .i64 0])/\Below w.heap.size w w':=by
  have A:Hid (Calls Tryz.prog 132 #[.slice a1 0 cap1] w fun e w'=>e=.returned (.bool true)/\w=w'):=Lib.hid (areWidths_any a1 cap1 [] (by simp) w (.inl rfl))
  have T:Hid (∀ a c w,Calls Tryz.prog 133 #[.slice a 0 c] w fun e w'=>e=.returned (.int .i64 0)/\w=w'):=Lib.hid (fun a c w=>total_any a c [] (by simp) (by simp) w (.inl rfl))
  have FI:Hid (Calls Tryz.prog 135 #[.slice a1 0 cap1] w (Filled [] w)):=Lib.hid (filled_any a1 cap1 [] (by simp) (by simp) hm1 (by simp) w (.inl rfl))
  go_enter Tryz.func114,Tryz.ntmps114
  go_wp2_with fail
  (with_reducible refine A.out.mono ?_)
  rintro e w' ⟨rfl,rfl⟩
  go_wp2_with fail
  (with_reducible refine (T.out _ _ _).mono ?_)
  rintro e w' ⟨rfl,rfl⟩
  go_wp2_with fail
  refine wp_loop_rounds 1 ?_
  rw [rounds_succ]
  go_wp2_with fail
  (with_reducible refine FI.out.mono ?_)
  rintro e w1 ⟨a',cap',rfl,hfc,hfr,hfb⟩
  have e0:(Fld.fill []).length=0:=rfl
  rw [e0]
  have HFB:=Lib.hid hfb
  clear hfb hfr hfc e0
  go_wp2_with fail
  (with_reducible refine (T.out _ _ _).mono ?_)
  rintro e w' ⟨rfl,rfl⟩
  obtain ⟨i0,hi,hz0,hz1,hz2⟩:=info_parts f2_info_u8
  go_wp2_with (at_make; refine wpList_make_full _ rfl _ _ 103 rfl w1.heap.size 5 i0 (.int .u8 0) 1 Tryz.underlying103 hi hz0 hz1 .i64 .i64 _ _ 0 rfl rfl rfl rfl (by rw [hz2]; omega) (by unfold maxLen; omega) (Nat.le_refl _) ?_; intro w2 hown hgrow)
  have HB2:=Lib.hid (show Below w.heap.size w w2 from HFB.out.trans (((Below.refl _ _).grown hgrow (Nat.le_refl _) (fun k e=>by cases e)).mono HFB.out.size))
  have bb:(convert 103 9 (.slice (some ⟨w1.heap.size,0,none⟩) 0 0)).run Tryz.prog w2=.ok (.string { data:=#[] }) w2:=back_bytes w2 w1.heap.size 0 [] (fun j h=>by simp at h)
  clear hown hgrow hi hz0 hz1 hz2
  refine wp_loop_rounds 1 ?_
  rw [rounds_succ]
  go_wp2_with fail
  go_ret2
  exact ⟨rfl,HB2.out⟩

theorem pack_any (a1 a2:Option Addr) (cap1 cap2:Nat) (zs:List Int) (vs:List Nat) (hz:zs.length<=500) (hv:vs.length<=500) (hc1:zs.length<=cap1) (hm1:cap1<=9223372036854775807) (vb:∀ j,j < vs.length->vs.getD j 0 < 18446744073709551616)
    (w:World) (R1:FReads .i64 w a1 zs) (R2:FReads .u64 w a2 (vs.map Int.ofNat)):
    Calls Tryz.prog 114 #[.slice a1 zs.length cap1,.slice a2 vs.length cap2] w fun e w'=>e=.returned (.tuple #[.string ⟨(Fld.packV zs vs).toArray⟩,.int .i64 (Fld.packE zs vs)])/\Below w.heap.size w w':=by
  by_cases hlen:vs.length=zs.length
  · by_cases hw:Fld.allW zs=true
    · by_cases h0:zs.length=0
      · have e1:zs=[]:=List.eq_nil_of_length_eq_zero h0
        have e2:vs=[]:=List.eq_nil_of_length_eq_zero (by omega)
        subst e1
        subst e2
        exact pack_empty a1 a2 cap1 cap2 hm1 w
      obtain ⟨b1,o1,rfl,l1,c1⟩:=R1.cell (by omega)
      obtain ⟨b2,o2,rfl,l2,c2⟩:=R2.cell (by simp; omega)
      have P:=pack_ok b1 o1 cap1 b2 o2 cap2 zs vs zs.length rfl hlen (by omega) hz hc1 hm1 (fun j hj=>vb j (by omega)) hw w l1 l2 (fun j hj=>by rw [c1 j hj,(Fld.nats_get hw j hj).1])
        (fun j hj=>by rw [c2 j (by simp; omega),getD_ofNat _ _ (by omega)])
      rw [hlen]
      have e1:Fld.packE zs vs=Fld.packK (Fld.nats zs) vs:=by unfold Fld.packE Fld.packK; rw [if_pos ⟨hlen,hw⟩]
      have e2:Fld.packV zs vs=Fld.packS (Fld.nats zs) vs:=by
        unfold Fld.packV
        rw [e1]
        unfold Fld.packK Fld.packS
        split <;> simp
      rw [e1,e2]
      exact P
    have hw0:Fld.allW zs=false:=by simpa using hw
    have e1:Fld.packE zs vs=2:=by unfold Fld.packE; rw [if_neg (by intro h; exact hw h.2)]
    have e2:Fld.packV zs vs=[]:=by unfold Fld.packV; rw [e1,if_neg (by omega)]
    rw [e1,e2,hlen,empty_str]
    exact (pack_bad a1 a2 cap1 cap2 zs zs.length rfl (by omega) hw0 w R1).mono fun e w' ⟨he,hw⟩=>⟨he,by rw [<-hw]; exact Below.refl _ _⟩
  have e1:Fld.packE zs vs=2:=by unfold Fld.packE; rw [if_neg (by intro h; exact hlen h.1)]
  have e2:Fld.packV zs vs=[]:=by unfold Fld.packV; rw [e1,if_neg (by omega)]
  rw [e1,e2,empty_str]
  exact (pack_len a1 a2 zs.length cap1 vs.length cap2 hlen (by omega) (by omega) w).mono fun e w' ⟨he,hw⟩=>⟨he,by rw [<-hw]; exact Below.refl _ _⟩
end Go.Proofs.YtchfkncbemjepaaGreat
/- FldBits, FldUnpack, FldUnpack2 of layer 2 as one text, under names of their own. -/
/- Bits of strings that were changed: plain mathematics. -/
namespace Go.Proofs.YtchfkncbemjepaaGreat
theorem len_ne {m n:Nat} (h:m ≠ n):((m:Int) == (n:Int))=false/\((m:Int) != (n:Int))=true:=by constructor <;> (simp; omega)
namespace Fld
theorem bit_of (l:List UInt8) (j d:Nat) (h:d < 8):bit l (8 * j + d)=(l.getD j 0).toNat / 2 ^ (7 - d) % 2:=by
  unfold bit
  rw [show (8 * j + d) / 8=j by omega,show (8 * j + d) % 8=d by omega]
theorem setB_bit:∀ y,y < 256->∀ d,d < 8->∀ x,x < 2->setB y d x < 256/\∀ e,e < 8->setB y d x / 2 ^ e % 2=if e=d then x else y / 2 ^ e % 2:=by decide +kernel
theorem bit_set (l:List UInt8) (i x k:Nat) (hi:i / 8 < l.length) (hx:x < 2):bit (set l i x) k=if k=i then x else bit l k:=by
  have hy:(l.getD (i / 8) 0).toNat < 256:=UInt8.toNat_lt _
  obtain ⟨h1,h2⟩:=setB_bit _ hy (7 - i % 8) (by omega) x hx
  unfold bit
  by_cases e:k / 8=i / 8
  · rw [e,set_at l i x hi,UInt8.toNat_ofNat_of_lt' h1,h2 (7 - k % 8) (by omega)]
    by_cases f:k=i
    · subst f; rw [if_pos rfl,if_pos rfl]
    rw [if_neg (by omega),if_neg f]
  rw [set_off l i x (k / 8) e,if_neg (by intro f; subst f; exact e rfl)]
theorem ext_bits (a b:List UInt8) (h:a.length=b.length) (k:∀ i,i < 8 * a.length->bit a i=bit b i):a=b:=by
  apply List.ext_getElem h
  intro j h1 h2
  have e:∀ d,d < 8->(a.getD j 0).toNat / 2 ^ (7 - d) % 2=(b.getD j 0).toNat / 2 ^ (7 - d) % 2:=fun d hd=>by
    rw [<-bit_of a j d hd,<-bit_of b j d hd]
    exact k _ (by omega)
  have e0:=e 0 (by omega)
  have e1:=e 1 (by omega)
  have e2:=e 2 (by omega)
  have e3:=e 3 (by omega)
  have e4:=e 4 (by omega)
  have e5:=e 5 (by omega)
  have e6:=e 6 (by omega)
  have e7:=e 7 (by omega)
  have hx:(a.getD j 0).toNat < 256:=UInt8.toNat_lt _
  have hy:(b.getD j 0).toNat < 256:=UInt8.toNat_lt _
  have ga:a.getD j 0=a[j]:=by simp [List.getD,h1]
  have gb:b.getD j 0=b[j]:=by simp [List.getD,h2]
  rw [ga,gb] at e0 e1 e2 e3 e4 e5 e6 e7
  rw [ga] at hx
  rw [gb] at hy
  apply UInt8.toNat_inj.1
  generalize a[j].toNat=x at *
  generalize b[j].toNat=y at *
  clear e k ga gb h
  simp only [Nat.reduceSub,Nat.reducePow] at e0 e1 e2 e3 e4 e5 e6 e7
  omega
theorem bit_put (l:List UInt8) (p w v:Nat) (h:p + w<=8 * l.length):∀ m,m<=w->∀ k,bit (put l p w v m) k=if p<=k/\k < p + m then v / 2 ^ (w - 1 - (k - p)) % 2 else bit l k
  | 0,_,k=>by unfold put; rw [if_neg (by omega)]
  | m + 1,hm,k=>by
    unfold put
    rw [bit_set _ _ _ _ (by rw [put_length]; omega) (Nat.mod_lt _ (by omega)),bit_put l p w v h m (by omega) k]
    by_cases e:k=p + m
    · subst e
      rw [if_pos rfl,if_pos (by omega),show p + m - p=m by omega]
    rw [if_neg e]
    by_cases f:p<=k/\k < p + m
    · rw [if_pos f,if_pos (by omega)]
    rw [if_neg f,if_neg (by omega)]
end Fld
end Go.Proofs.YtchfkncbemjepaaGreat
/- The contract of package fields' Unpack over this program. -/
namespace Go.Proofs.YtchfkncbemjepaaGreat
open Go.RowKit Go.Shelf

namespace Fld
def uv (l:List UInt8) (fs:List Nat) (k:Nat):Nat:=num l (tot (fs.take k)) (fs.getD k 0)
def restB (l:List UInt8) (p:Nat):Bool:=(List.range (8 * l.length)).all fun i=>decide (i < p) || decide (bit l i=0)
theorem restB_iff (l:List UInt8) (p:Nat):restB l p=true ↔ ∀ i,p<=i->i < 8 * l.length->bit l i=0:=by
  unfold restB
  rw [List.all_eq_true]
  constructor
  · intro h i a b
    have:=h i (by simpa using b)
    simp at this
    omega
  intro h i hi
  have:=h i
  simp at hi ⊢
  omega
theorem num_zero (l:List UInt8) (p:Nat):∀ w,num l p w=0 ↔ ∀ i,i < w->bit l (p + i)=0
  | 0=>by simp [num]
  | w + 1=>by
    unfold num
    constructor
    · intro h i hi
      by_cases e:i=w
      · subst e; omega
      exact (num_zero l p w).1 (by omega) i (by omega)
    intro h
    have:=(num_zero l p w).2 (fun i hi=>h i (by omega))
    have:=h w (by omega)
    omega
def unpE (zs:List Int) (l:List UInt8):Int:=
  if allW zs=true then (if l.length=(tot (nats zs) + 7) / 8/\restB l (tot (nats zs))=true then 0 else 6) else 2
def vals (ns:List Nat) (l:List UInt8):List Nat:=(List.range ns.length).map (uv l ns)
theorem vals_length (ns:List Nat) (l:List UInt8):(vals ns l).length=ns.length:=by simp [vals]
theorem vals_get (ns:List Nat) (l:List UInt8) (j:Nat) (h:j < ns.length):(vals ns l).getD j 0=uv l ns j:=by simp [vals,List.getD,h]
def unpV (zs:List Int) (l:List UInt8):List Nat:=if unpE zs l=0 then vals (nats zs) l else []
theorem fill_take (ns:List Nat) (j:Nat) (h:j<=ns.length):(fill ns).take j=ns.take j:=by
  unfold fill
  split
  · rfl
  rw [List.take_append_of_le_length h]
theorem fill_get (ns:List Nat) (j:Nat) (h:j < ns.length):(fill ns).getD j 0=ns.getD j 0:=by
  unfold fill
  split
  · rfl
  simp [List.getD,List.getElem?_append_left h]
theorem uv_fill (l:List UInt8) (ns:List Nat) (j:Nat) (h:j < ns.length):uv l (fill ns) j=uv l ns j:=by
  unfold uv
  rw [fill_take ns j (by omega),fill_get ns j h]
end Fld
theorem info_u64:(Tryz.prog.info? 185).map (fun i=>(i.zero,i.size,i.bytes))=some (some (.int .u64 0),1,8):=by kernel_rfl

def Unpacked (zs:List Int) (l:List UInt8) (w:World) (e:Ending) (w':World):Prop:=
  ∃ a' cap',e=.returned (.tuple #[.slice a' (Fld.unpV zs l).length cap',.int .i64 (Fld.unpE zs l)])/\(Fld.unpV zs l).length<=cap'/\FReads .u64 w' a' ((Fld.unpV zs l).map Int.ofNat)/\Below w.heap.size w w'/\∀ b off,a'=some ⟨b,off,none⟩->w.heap.size<=b
theorem unpacked_no {zs:List Int} {l:List UInt8} {w w':World} {x:Int} (h:Fld.unpE zs l=x) (hx:x ≠ 0) (hb:Below w.heap.size w w'):Unpacked zs l w (.returned (.tuple #[.slice none 0 0,.int .i64 x])) w':=by
  have e:Fld.unpV zs l=[]:=by unfold Fld.unpV; rw [h,if_neg hx]
  exact ⟨none,0,by rw [e,h]; rfl,by rw [e]; exact Nat.le_refl _,.inl (by rw [e]; rfl),hb,fun b off h=>by cases h⟩
def Nums (W:World) (b m:Nat) (f:Nat->Nat):Prop:=∀ j,j < m->W.cell? ⟨b,j,none⟩=some (.int .u64 (f j:Nat))/\W.frozen? ⟨b,j,none⟩=false
theorem Nums.set {W:World} {b m:Nat} {f g:Nat->Nat} (h:Nums W b m f) (k x:Nat) (hk:k < m) (hx:g k=x) (hg:∀ j,j < m->j ≠ k->g j=f j):Nums (W.setCell ⟨b,k,none⟩ (.int .u64 x)) b m g:=by
  intro j hj
  obtain ⟨h1,h2⟩:=h j hj
  refine ⟨?_,by rw [World.frozen?_setCell]; exact h2⟩
  by_cases e:j=k
  · subst e
    rw [World.cell?_setCell_same' _ _ _ (by rw [h1]; rfl),hx]
  rw [World.cell?_setCell_other (h:=addr_ne_off (fun x=>e x.symm)),hg j hj e]
  exact h1
theorem Nums.below {W W':World} {b m:Nat} {f:Nat->Nat} (h:Nums W b m f) (hb:Below W.heap.size W W') (hl:b < W.heap.size):Nums W' b m f:=fun j hj=>
  ⟨(hb.cell (p:=⟨b,j,none⟩) hl).trans (h j hj).1,(hb.frozen (p:=⟨b,j,none⟩) hl).trans (h j hj).2⟩
theorem nums_made {w:World} {base b n cap:Nat} {zs:List Value} (h:w.ownsRow base 185 1 (.slice (some ⟨b,0,none⟩) n cap) n zs) (hz:∀ j,j < n->zs[j]?=some (.int .u64 0)):Nums w b n (fun _=>0)/\b < w.heap.size:=by
  obtain ⟨hl,h⟩:=h
  rcases h with ⟨hv,_⟩ | ⟨g,c,cur,hv,hb,hg,hnc,hm,hsz,ht⟩
  · simp at hv
  simp only [Value.slice.injEq,Option.some.injEq,Addr.mk.injEq] at hv
  obtain ⟨⟨rfl,_,_⟩,_,rfl⟩:=hv
  refine ⟨fun j hj=>?_,(Array.getElem?_eq_some_iff.1 hg).1⟩
  have e1:w.cell? ⟨b,j,none⟩=cur[j]?:=by
    unfold World.cell?
    rw [hg]
    simp
  have e2:(cur.toList.take (n * 1))[j]?=cur[j]?:=by
    rw [List.getElem?_take_of_lt (by omega)]
    simp
  refine ⟨?_,?_⟩
  · rw [e1,<-e2,ht,hz j hj]
    rfl
  unfold World.frozen?
  rw [hg]
  simp
theorem made_zero64 (n j:Nat) (h:j < n):(madeCells (Value.int IntKind.u64 0).cells (n * 1)).toList[j]?=some (.int .u64 0):=by
  unfold madeCells
  simp [Value.cells,h,Nat.mod_one]

theorem unp_bad (a:Option Addr) (cap:Nat) (zs:List Int) (s:ByteArray) (n:Nat) (hn:zs.length=n) (hl:n<=500) (hs:s.size<=5000) (hw:Fld.allW zs=false) (w:World) (R:FReads .i64 w a zs):
    Calls Tryz.prog 118 #[.slice a n cap,.string s] w (Unpacked zs s.data.toList w):=by
  have A:=Lib.hid (areWidths_any a cap zs (by omega) w R)
  rw [hw,hn] at A
  have Q:=Lib.hid (unpacked_no (l:=s.data.toList) (show Fld.unpE zs s.data.toList=2 by unfold Fld.unpE; rw [hw]; rfl) (by omega) (Below.refl w.heap.size w))
  clear hw hn R
  go_enter Tryz.func118,Tryz.ntmps118
  go_wp2_with fail
  (with_reducible refine A.out.mono ?_)
  rintro e w' ⟨rfl,rfl⟩
  go_wp2_with fail
  go_ret2
  exact Q.out

theorem unp_len (a:Option Addr) (cap:Nat) (zs:List Int) (s:ByteArray) (n:Nat) (hn:zs.length=n) (hl:n<=500) (hc:n<=cap) (hm:cap<=9223372036854775807) (hs:s.size<=5000) (hw:Fld.allW zs=true) (hne:s.size ≠ (Fld.tot (Fld.nats zs) + 7) / 8) (w:World) (R:FReads .i64 w a zs):
    Calls Tryz.prog 118 #[.slice a n cap,.string s] w (Unpacked zs s.data.toList w):=by
  have ls:s.data.toList.length=s.size:=by simp
  have A:=Lib.hid (areWidths_any a cap zs (by omega) w R)
  rw [hw,hn] at A
  have uE:Fld.unpE zs s.data.toList=6:=by unfold Fld.unpE; rw [if_pos hw,if_neg (by rw [ls]; intro h; exact hne h.1)]
  have nl:(Fld.nats zs).length=n:=by rw [Fld.nats_length,hn]
  have nb:∀ j,j < (Fld.nats zs).length->(Fld.nats zs).getD j 0<=64:=fun j hj=>(Fld.nats_get hw j (by omega)).2.2
  have R2:FReads .i64 w a ((Fld.nats zs).map Int.ofNat):=by rw [Fld.nats_map hw]; exact R
  have FI:=Lib.hid (filled_any a cap (Fld.nats zs) (by omega) (by omega) hm nb w R2)
  rw [nl] at FI
  have tb:=Fld.tot_le (Fld.nats zs) 64 nb (Fld.nats zs).length (Nat.le_refl _)
  rw [List.take_length] at tb
  have FL:=Lib.hid (Fld.fill_le (Fld.nats zs) nb)
  have fll:=Fld.fill_length (Fld.nats zs)
  have ft:=Fld.fill_tot (Fld.nats zs)
  obtain ⟨fs,hfs⟩:∃ fs,Fld.fill (Fld.nats zs)=fs:=⟨_,rfl⟩
  have FLN:=Lib.hid (show fs.length<=501 by rw [<-hfs]; omega)
  obtain ⟨t2,ht2⟩:∃ t,Fld.tot fs=t:=⟨_,rfl⟩
  rw [hfs,ht2] at ft
  have HF:=Lib.hid hfs
  have HT:=Lib.hid ht2
  obtain ⟨q1,q2⟩:=len_ne (show t2 ≠ 8 * s.size by omega)
  have q3:((t2:Int) == 8 * (s.size:Int))=false:=by simp; omega
  have q4:((t2:Int) != 8 * (s.size:Int))=true:=by simp; omega
  have t9:t2<=50000:=by omega
  have UE:=Lib.hid uE
  clear hw hn R R2 tb ft fll nb nl hne hfs ht2 ls uE
  go_enter Tryz.func118,Tryz.ntmps118
  go_wp2_with fail
  (with_reducible refine A.out.mono ?_)
  rintro e w' ⟨rfl,rfl⟩
  go_wp2_with fail
  (with_reducible refine FI.out.mono ?_)
  rintro e w1 ⟨a',cap',rfl,hfc,hfr,hfb⟩
  rw [HF.out] at hfr ⊢
  have T2:=Lib.hid (total_any a' cap' fs (by have:=FLN.out; omega) (by rw [<-HF.out]; exact FL.out) w1 hfr)
  rw [HT.out] at T2
  have HFB:=Lib.hid hfb
  clear hfb hfr hfc
  go_wp2_with fail
  (with_reducible refine T2.out.mono ?_)
  rintro e w' ⟨rfl,rfl⟩
  go_wp2_with fail
  go_ret2
  exact unpacked_no UE.out (by omega) HFB.out
end Go.Proofs.YtchfkncbemjepaaGreat
/- The contract of package fields' Unpack over this program, where the length fits. -/
namespace Go.Proofs.YtchfkncbemjepaaGreat
open Go.RowKit Go.Shelf

theorem unp_values {zs:List Int} {l:List UInt8} {w w':World} {B n cap:Nat} (h:Fld.unpE zs l=0) (hn:(Fld.nats zs).length=n) (hc:n<=cap) (hB:B < w'.heap.size) (hv:∀ j,j < n->w'.cell? ⟨B,j,none⟩=some (.int .u64 (Fld.uv l (Fld.nats zs) j:Nat))) (hb:Below w.heap.size w w') (hwB:w.heap.size<=B):
    Unpacked zs l w (.returned (.tuple #[.slice (some ⟨B,0,none⟩) n cap,.int .i64 0])) w':=by
  have e:Fld.unpV zs l=Fld.vals (Fld.nats zs) l:=by unfold Fld.unpV; rw [if_pos h]
  have el:(Fld.unpV zs l).length=n:=by rw [e,Fld.vals_length,hn]
  refine ⟨some ⟨B,0,none⟩,cap,by rw [el,h],by rw [el]; exact hc,.inr ⟨B,0,rfl,hB,fun j hj=>?_⟩,hb,fun b off h=>by cases h; exact hwB⟩
  have hj':j < n:=by rw [List.length_map,el] at hj; exact hj
  rw [Nat.zero_add,hv j hj',getD_ofNat _ _ (by rw [el]; exact hj'),e,Fld.vals_get _ _ _ (by rw [hn]; exact hj')]

theorem unp_ok (a:Option Addr) (cap:Nat) (zs:List Int) (s:ByteArray) (n:Nat) (hn:zs.length=n) (n0:0 < n) (hl:n<=500) (hc:n<=cap) (hm:cap<=9223372036854775807) (hs:s.size<=5000) (hw:Fld.allW zs=true) (heq:s.size=(Fld.tot (Fld.nats zs) + 7) / 8) (w:World) (R:FReads .i64 w a zs):
    Calls Tryz.prog 118 #[.slice a n cap,.string s] w (Unpacked zs s.data.toList w):=by
  have ls:s.data.toList.length=s.size:=by simp
  have A:=Lib.hid (areWidths_any a cap zs (by omega) w R)
  rw [hw,hn] at A
  have nl:(Fld.nats zs).length=n:=by rw [Fld.nats_length,hn]
  have nb:∀ j,j < (Fld.nats zs).length->(Fld.nats zs).getD j 0<=64:=fun j hj=>(Fld.nats_get hw j (by omega)).2.2
  have R2:FReads .i64 w a ((Fld.nats zs).map Int.ofNat):=by rw [Fld.nats_map hw]; exact R
  have FI:=Lib.hid (filled_any a cap (Fld.nats zs) (by omega) (by omega) hm nb w R2)
  rw [nl] at FI
  have tb:=Fld.tot_le (Fld.nats zs) 64 nb (Fld.nats zs).length (Nat.le_refl _)
  rw [List.take_length] at tb
  have fb:=Fld.fill_le (Fld.nats zs) nb
  have FL:=Lib.hid fb
  have fll:=Fld.fill_length (Fld.nats zs)
  have ft:=Fld.fill_tot (Fld.nats zs)
  have UVF:=Lib.hid (Fld.uv_fill s.data.toList (Fld.nats zs))
  have fse:(Fld.tot (Fld.nats zs) % 8=0/\Fld.fill (Fld.nats zs)=Fld.nats zs)\/(Fld.tot (Fld.nats zs) % 8 ≠ 0/\Fld.fill (Fld.nats zs)=Fld.nats zs ++ [8 - Fld.tot (Fld.nats zs) % 8]):=by
    unfold Fld.fill
    split
    · exact .inl ⟨‹_›,rfl⟩
    exact .inr ⟨‹_›,rfl⟩
  have FSE:=Lib.hid fse
  obtain ⟨fs,hfs⟩:∃ fs,Fld.fill (Fld.nats zs)=fs:=⟨_,rfl⟩
  obtain ⟨m,hm'⟩:∃ m,fs.length=m:=⟨_,rfl⟩
  have mn:n<=m/\m<=n + 1:=by
    rcases fse with ⟨_,e⟩ | ⟨_,e⟩
    · rw [hfs] at e; rw [<-hm',e,nl]; omega
    rw [hfs] at e; rw [<-hm',e,List.length_append,nl]; simp
  have tt:Fld.tot fs=8 * s.size:=by rw [hfs] at ft; omega
  have TM:=Lib.hid (Fld.tot_mono fs)
  have TS:=Lib.hid (Fld.tot_take_succ fs)
  have HF:=Lib.hid hfs
  have HT:=Lib.hid tt
  have HM:=Lib.hid hm'
  obtain ⟨q1,q2⟩:((8 * (s.size:Int)) == 8 * (s.size:Int))=true/\((8 * (s.size:Int)) != 8 * (s.size:Int))=false:=by constructor <;> simp
  have HW:=Lib.hid hw
  have HEQ:=Lib.hid heq
  have NL:=Lib.hid nl
  have LS:=Lib.hid ls
  obtain ⟨m1,m2⟩:=mn
  clear hw hn R R2 tb ft fll nb nl hfs ls heq fb tt hm' fse
  go_enter Tryz.func118,Tryz.ntmps118
  go_wp2_with fail
  (with_reducible refine A.out.mono ?_)
  rintro e w' ⟨rfl,rfl⟩
  go_wp2_with fail
  (with_reducible refine FI.out.mono ?_)
  rintro e w1 ⟨a',cap',rfl,hfc,hfr,hfb⟩
  rw [HF.out] at hfr hfc ⊢
  rw [HM.out] at hfc ⊢
  have T2:=Lib.hid (total_any a' cap' fs (by have:=HM.out; omega) (by rw [<-HF.out]; exact FL.out) w1 hfr)
  rw [HT.out,HM.out] at T2
  have HFB:=Lib.hid hfb
  obtain ⟨bA,oA,rfl,lA,cA⟩:=hfr.cell (by rw [List.length_map,HM.out]; omega)
  have CA:=Lib.hid (fun j (h:j < m)=>(cA j (by rw [List.length_map,HM.out]; exact h)).trans (by rw [getD_ofNat _ _ (by rw [HM.out]; exact h)]:some (Value.int IntKind.i64 ((fs.map Int.ofNat).getD j 0))=some (.int .i64 (fs.getD j 0:Nat))))
  clear hfb hfr cA
  have t8:((8 * s.size:Nat):Int)=8 * (s.size:Int):=by omega
  rw [t8] at T2
  clear t8
  go_wp2_with fail
  (with_reducible refine T2.out.mono ?_)
  rintro e w' ⟨rfl,rfl⟩
  obtain ⟨i0,hi,hz0,hz1,hz2⟩:=info_parts info_u64
  go_wp2_with (at_make; refine wpList_make_full _ rfl _ _ 190 rfl w1.heap.size 185 i0 (.int .u64 0) 1 Tryz.underlying190 hi hz0 hz1 .i64 .i64 _ _ m rfl rfl rfl rfl (by rw [hz2]; omega) (by unfold maxLen; omega) (Nat.le_refl _) ?_; intro w2 hown hgrow)
  obtain ⟨hnu,hBf⟩:=nums_made hown (fun j hj=>made_zero64 m j hj)
  have hb2:Below w1.heap.size w1 w2:=(Below.refl _ _).grown hgrow (Nat.le_refl _) (fun k e=>by cases e)
  obtain ⟨B,hB⟩:∃ B,w1.heap.size=B:=⟨_,rfl⟩
  rw [hB] at hnu hBf hb2 lA ⊢
  have hwB:w.heap.size<=B:=by rw [<-hB]; exact HFB.out.size
  have HNU:=Lib.hid hnu
  have HB2:=Lib.hid hb2
  have HBE:=Lib.hid hB
  clear hb2 hown hgrow hB hi hz0 hz1 hz2 hnu
  go_loopw [8,33] (fun p i wr=>∃ k:Nat,k<=m/\i=.int .i64 k/\p=.int .i64 (Fld.tot (fs.take k):Nat)/\Nums wr B m (fun j=>if j < k then Fld.uv s.data.toList fs j else 0)/\Below B w1 wr/\B < wr.heap.size) (fun _ i _=>m - (intOf i).toNat)
  case atStart=>exact ⟨0,Nat.zero_le _,rfl,rfl,HNU.out,HB2.out,hBf⟩
  case round=>
    obtain ⟨k,hk,rfl,rfl,hnu,hB,hBs⟩:=hrel
    by_cases hlt:k < m
    · have q3:=(hB.cell (p:=⟨bA,oA + k,none⟩) lA).trans (CA.out k hlt)
      have ts:=TS.out k (by rw [HM.out]; exact hlt)
      have tm:=TM.out (k + 1)
      rw [HT.out] at tm
      have fb:=FL.out k (by rw [HF.out,HM.out]; exact hlt)
      rw [HF.out] at fb
      have uvk:Fld.uv s.data.toList fs k=Fld.num s.data.toList (Fld.tot (fs.take k)) (fs.getD k 0):=rfl
      obtain ⟨x,hx⟩:∃ x,fs.getD k 0=x:=⟨_,rfl⟩
      obtain ⟨p,hp⟩:∃ p,Fld.tot (fs.take k)=p:=⟨_,rfl⟩
      obtain ⟨p',hp'⟩:∃ p,Fld.tot (fs.take (k + 1))=p:=⟨_,rfl⟩
      obtain ⟨u,hu⟩:∃ u,Fld.num s.data.toList p x=u:=⟨_,rfl⟩
      rw [hx] at q3 ts fb uvk
      rw [hp] at ts uvk ⊢
      rw [hp'] at ts tm
      rw [hu] at uvk
      have RD:=Lib.hid (read_any s p x (by omega) (by omega) fb wr)
      rw [hu] at RD
      have TS2:=Lib.hid ts
      have HP:=Lib.hid hp'
      have UK:=Lib.hid uvk
      have HNU2:=Lib.hid hnu
      have HB3:=Lib.hid hB
      have p1:p<=50000:=by omega
      clear hnu hB ts hx hp hp' tm uvk hu
      go_wp2_with fail
      (with_reducible refine RD.out.mono ?_)
      rintro e w4 ⟨rfl,hB4⟩
      have N4:=HNU2.out.below hB4 hBs
      obtain ⟨n1,n2⟩:=N4 k hlt
      have NN:=Lib.hid (N4.set (g:=fun j=>if j < k + 1 then Fld.uv s.data.toList fs j else 0) k u hlt (by rw [if_pos (by omega)]; exact UK.out) (fun j hj hjk=>by
        by_cases e:j < k
        · rw [if_pos e,if_pos (by omega)]
        rw [if_neg e,if_neg (by omega)]))
      have BB4:=Lib.hid ((HB3.out.trans (hB4.mono (by omega))).setCell (p:=⟨B,k,none⟩) (Nat.le_refl _) (.int .u64 u))
      have BS4:B < w4.heap.size:=Nat.lt_of_lt_of_le hBs hB4.size
      clear N4 hB4
      go_wp2_with fail
      go_roundw
      case rel=>exact ⟨k + 1,by omega,by go_num,by rw [HP.out,TS2.out]; go_num,NN.out,BB4.out,by simpa [World.setCell] using BS4⟩
      case measure=>simp [intOf]; omega
    obtain rfl:m=k:=by omega
    have HNU2:=Lib.hid hnu
    have HB3:=Lib.hid hB
    have HBW:=Lib.hid (show Below w.heap.size w wr from HFB.out.trans (hB.mono hwB))
    clear hnu hB
    have k1:¬ m < m:=Nat.lt_irrefl _
    have NC:=Lib.hid (show ∀ j,j < m->wr.cell? ⟨B,j,none⟩=some (.int .u64 (Fld.uv s.data.toList fs j:Nat)) from fun j hj=>by
      have h:=(HNU2.out j hj).1
      dsimp only at h
      rwa [if_pos hj] at h)
    rcases FSE.out with ⟨hr,e⟩ | ⟨hr,e⟩
    · have fn:fs=Fld.nats zs:=by rw [<-HF.out]; exact e
      obtain rfl:n=m:=by rw [<-NL.out,<-fn]; exact HM.out
      have hu0:Fld.unpE zs s.data.toList=0:=by
        unfold Fld.unpE
        rw [if_pos HW.out,if_pos ⟨by rw [LS.out]; exact HEQ.out,(Fld.restB_iff _ _).2 (fun i h1 h2=>by have:=HEQ.out; rw [LS.out] at h2; omega)⟩]
      have QQ:=Lib.hid (unp_values (w:=w) (w':=wr) (cap:=n) hu0 NL.out (Nat.le_refl _) hBs (fun j hj=>by rw [<-fn]; exact NC.out j hj) HBW.out hwB)
      clear hu0 hr e fn
      go_wp2_with fail
      refine wp_loop_rounds 1 ?_
      rw [rounds_succ]
      go_wp2_with fail
      go_ret2
      exact QQ.out
    have fn:fs=Fld.nats zs ++ [8 - Fld.tot (Fld.nats zs) % 8]:=by rw [<-HF.out]; exact e
    obtain rfl:m=n + 1:=by rw [<-HM.out,fn,List.length_append,NL.out]; rfl
    have hlast:=NC.out n (by omega)
    have ft:fs.take n=Fld.nats zs:=by rw [fn,List.take_left' NL.out]
    have fg:fs.getD n 0=8 - Fld.tot (Fld.nats zs) % 8:=by rw [fn]; simp [List.getD,<-NL.out]
    have hz:Fld.uv s.data.toList fs n=0 ↔ Fld.restB s.data.toList (Fld.tot (Fld.nats zs))=true:=by
      unfold Fld.uv
      rw [ft,fg,Fld.num_zero,Fld.restB_iff,LS.out]
      have:=HEQ.out
      constructor
      · intro h i h1 h2
        have:=h (i - Fld.tot (Fld.nats zs)) (by omega)
        rwa [show Fld.tot (Fld.nats zs) + (i - Fld.tot (Fld.nats zs))=i by omega] at this
      intro h i hi
      exact h _ (by omega) (by omega)
    obtain ⟨x,hx⟩:∃ x,Fld.uv s.data.toList fs n=x:=⟨_,rfl⟩
    rw [hx] at hlast hz
    by_cases xz:x=0
    · have hu0:Fld.unpE zs s.data.toList=0:=by
        unfold Fld.unpE
        rw [if_pos HW.out,if_pos ⟨by rw [LS.out]; exact HEQ.out,hz.1 xz⟩]
      have QQ:=Lib.hid (unp_values (w:=w) (w':=wr) (cap:=n) hu0 NL.out (Nat.le_refl _) hBs (fun j hj=>by
        have h:=NC.out j (by omega)
        rw [<-HF.out,UVF.out j (by rw [NL.out]; exact hj)] at h
        exact h) HBW.out hwB)
      subst xz
      clear hu0 hr e fn ft fg hz hx
      go_wp2_with fail
      go_loop [55] (fun i=>∃ k:Nat,k<=1/\i=.int .i64 k) (fun i=>1 - (intOf i).toNat)
      case atStart=>exact ⟨0,by omega,rfl⟩
      case round=>
        obtain ⟨k,hk,rfl⟩:=hrel
        by_cases k0:k=0
        · subst k0
          go_wp2_with fail
          go_round
          case rel=>exact ⟨1,by omega,by go_num⟩
          case measure=>simp [intOf]
        obtain rfl:k=1:=by omega
        go_wp2_with fail
        go_ret2
        exact QQ.out
    have hu0:Fld.unpE zs s.data.toList=6:=by
      unfold Fld.unpE
      rw [if_pos HW.out,if_neg (fun h=>xz (hz.2 h.2))]
    have QQ:=Lib.hid (unpacked_no hu0 (by omega) HBW.out)
    have x1:((x:Int) == 0)=false:=by simp; omega
    have x2:((x:Int) != 0)=true:=by simp; omega
    clear hu0 hr e fn ft fg hz hx xz
    go_wp2_with fail
    go_loop [55] (fun i=>i=.int .i64 0) (fun i=>1)
    case atStart=>rfl
    case round=>
      obtain rfl:=hrel
      go_wp2_with fail
      go_ret2
      exact QQ.out
end Go.Proofs.YtchfkncbemjepaaGreat
/- FldKeeps, FldUnpack3 of layer 2 as one text, under names of their own. -/
/- FieldsKeeps: of every string of at most 5000 bytes, every place and every number: what the program's Put writes, its Get reads; the bits outside stay; two fields without a common bit can be put in any order. No condition. -/
namespace Go.Proofs.YtchfkncbemjepaaGreat
open Go.ChangeShapes Go.WideShapes Go.ChangeAt Go.RowKit

namespace Fld
end Fld
end Go.Proofs.YtchfkncbemjepaaGreat
/- The contract of package fields' Unpack over this program, for all widths and strings of at most 5000 bytes; and what Pack and Unpack say of each other. -/
namespace Go.Proofs.YtchfkncbemjepaaGreat
open Go.RowKit Go.Shelf

theorem unp_empty (a:Option Addr) (cap:Nat) (hm1:cap<=9223372036854775807) (s:ByteArray) (hs:s.size=0) (w:World):
    Calls Tryz.prog 118 #[.slice a 0 cap,.string s] w (Unpacked [] s.data.toList w):=by
  have A:Hid (Calls Tryz.prog 132 #[.slice a 0 cap] w fun e w'=>e=.returned (.bool true)/\w=w'):=Lib.hid (areWidths_any a cap [] (by simp) w (.inl rfl))
  have T:Hid (∀ a c w,Calls Tryz.prog 133 #[.slice a 0 c] w fun e w'=>e=.returned (.int .i64 0)/\w=w'):=Lib.hid (fun a c w=>total_any a c [] (by simp) (by simp) w (.inl rfl))
  have FI:Hid (Calls Tryz.prog 135 #[.slice a 0 cap] w (Filled [] w)):=Lib.hid (filled_any a cap [] (by simp) (by simp) hm1 (by simp) w (.inl rfl))
  have sn:s.data.toList=[]:=List.eq_nil_of_length_eq_zero (by simpa using hs)
  have UE:Hid (Fld.unpE [] s.data.toList=0/\Fld.unpV [] s.data.toList=[]):=Lib.hid (by rw [sn]; exact ⟨rfl,rfl⟩)
  have h1:(s.size:Int)=0:=by omega
  have HS:=Lib.hid h1
  have h2:s.size<=0:=by omega
  clear hs h1 sn
  go_enter Tryz.func118,Tryz.ntmps118
  go_wp2_with fail
  (with_reducible refine A.out.mono ?_)
  rintro e w' ⟨rfl,rfl⟩
  go_wp2_with fail
  (with_reducible refine FI.out.mono ?_)
  rintro e w1 ⟨a',cap',rfl,hfc,hfr,hfb⟩
  have e0:(Fld.fill []).length=0:=rfl
  rw [e0]
  have HFB:=Lib.hid hfb
  clear hfb hfr hfc e0
  go_wp2_with fail
  (with_reducible refine (T.out _ _ _).mono ?_)
  rintro e w' ⟨rfl,rfl⟩
  obtain ⟨i0,hi,hz0,hz1,hz2⟩:=info_parts info_u64
  have q1:((0:Int) == 8 * (s.size:Int))=true:=by have:=HS.out; simp; omega
  have q2:((0:Int) != 8 * (s.size:Int))=false:=by have:=HS.out; simp; omega
  go_wp2_with (at_make; refine wpList_make_full _ rfl _ _ 190 rfl w1.heap.size 185 i0 (.int .u64 0) 1 Tryz.underlying190 hi hz0 hz1 .i64 .i64 _ _ 0 rfl rfl rfl rfl (by rw [hz2]; omega) (by unfold maxLen; omega) (Nat.le_refl _) ?_; intro w2 hown hgrow)
  have HB2:=Lib.hid (show Below w.heap.size w w2 from HFB.out.trans (((Below.refl _ _).grown hgrow (Nat.le_refl _) (fun k e=>by cases e)).mono HFB.out.size))
  clear hown hgrow hi hz0 hz1 hz2
  refine wp_loop_rounds 1 ?_
  rw [rounds_succ]
  go_wp2_with fail
  refine wp_loop_rounds 1 ?_
  rw [rounds_succ]
  go_wp2_with fail
  go_ret2
  exact ⟨some ⟨w1.heap.size,0,none⟩,0,by rw [UE.out.1,UE.out.2]; rfl,by rw [UE.out.2]; exact Nat.le_refl _,.inl (by rw [UE.out.2]; rfl),HB2.out,fun b off h=>by cases h; exact HFB.out.size⟩

theorem unpack_any (a:Option Addr) (cap:Nat) (zs:List Int) (s:ByteArray) (hz:zs.length<=500) (hc:zs.length<=cap) (hm:cap<=9223372036854775807) (hs:s.size<=5000) (w:World) (R:FReads .i64 w a zs):
    Calls Tryz.prog 118 #[.slice a zs.length cap,.string s] w (Unpacked zs s.data.toList w):=by
  by_cases hw:Fld.allW zs=true
  · by_cases he:s.size=(Fld.tot (Fld.nats zs) + 7) / 8
    · by_cases h0:zs.length=0
      · have e1:zs=[]:=List.eq_nil_of_length_eq_zero h0
        subst e1
        exact unp_empty a cap hm s he w
      exact unp_ok a cap zs s zs.length rfl (by omega) hz hc hm hs hw he w R
    exact unp_len a cap zs s zs.length rfl hz hc hm hs hw he w R
  exact unp_bad a cap zs s zs.length rfl hz hs (by simpa using hw) w R

namespace Fld
theorem pk_bits (l:List UInt8) (ns vs:List Nat) (hb:tot ns<=8 * l.length):∀ k,k<=ns.length->∀ i,
    (tot (ns.take k)<=i->bit (pk l ns vs k) i=bit l i)/\(∀ j,j < k->tot (ns.take j)<=i->i < tot (ns.take (j + 1))->bit (pk l ns vs k) i=vs.getD j 0 / 2 ^ (ns.getD j 0 - 1 - (i - tot (ns.take j))) % 2)
  | 0,_,i=>⟨fun _=>rfl,fun j hj=>by omega⟩
  | k + 1,hk,i=>by
    obtain ⟨h1,h2⟩:=pk_bits l ns vs hb k (by omega) i
    have ts:=tot_take_succ ns k (by omega)
    have tm:=tot_mono ns (k + 1)
    have bp:=bit_put (pk l ns vs k) (tot (ns.take k)) (ns.getD k 0) (vs.getD k 0) (by rw [pk_length]; omega) (ns.getD k 0) (Nat.le_refl _) i
    constructor
    · intro h
      unfold pk
      rw [bp,if_neg (by omega)]
      exact h1 (by omega)
    intro j hj h3 h4
    unfold pk
    rw [bp]
    by_cases e:j=k
    · subst e
      rw [if_pos (by omega)]
    have:tot (ns.take (j + 1))<=tot (ns.take k):=by
      have:=tot_mono (ns.take k) (j + 1)
      rwa [List.take_take,Nat.min_eq_left (by omega)] at this
    rw [if_neg (by omega)]
    exact h2 j (by omega) h3 h4
theorem zeros_bit (n i:Nat):bit (zeros n) i=0:=by
  unfold bit zeros
  have:(List.replicate n (0:UInt8)).getD (i / 8) 0=0:=by
    rw [List.getD_eq_getElem?_getD,List.getElem?_replicate]
    split <;> rfl
  rw [this]
  simp
theorem packB_length (ns vs:List Nat):(packB ns vs).length=(tot ns + 7) / 8:=by unfold packB; rw [pk_length]; simp [zeros]
theorem vals_fit (ns:List Nat) (l:List UInt8):fitAll ns (vals ns l)=true:=by
  apply fitAll_yes
  intro i hi
  rw [vals_get ns l i hi]
  exact decide_eq_true (num_lt _ _ _)
theorem div_bit (l:List UInt8) (p:Nat):∀ w j,j < w->num l p w / 2 ^ (w - 1 - j) % 2=bit l (p + j)
  | 0,j,h=>by omega
  | w + 1,j,h=>by
    have b:=bit_lt l (p + w)
    by_cases e:j=w
    · subst e
      unfold num
      rw [show j + 1 - 1 - j=0 by omega]
      simp
      omega
    have i:=div_bit l p w j (by omega)
    unfold num
    rw [show w + 1 - 1 - j=(w - 1 - j) + 1 by omega,Nat.pow_succ,Nat.mul_comm (2 ^ (w - 1 - j)) 2,<-Nat.div_div_eq_div_mul,show (2 * num l p w + bit l (p + w)) / 2=num l p w by omega]
    exact i
theorem find_field (ns:List Nat) (i:Nat):∀ k,k<=ns.length->i < tot (ns.take k)->∃ j,j < k/\tot (ns.take j)<=i/\i < tot (ns.take (j + 1))
  | 0,_,h=>by simp [tot] at h
  | k + 1,hk,h=>by
    by_cases e:i < tot (ns.take k)
    · obtain ⟨j,h1,h2,h3⟩:=find_field ns i k (by omega) e
      exact ⟨j,by omega,h2,h3⟩
    exact ⟨k,by omega,by omega,h⟩
theorem pack_unp (zs:List Int) (l:List UInt8) (h:unpE zs l=0):packE zs (unpV zs l)=0/\packV zs (unpV zs l)=l:=by
  have hv:unpV zs l=vals (nats zs) l:=by unfold unpV; rw [if_pos h]
  unfold unpE at h
  split at h
  · rename_i hw
    split at h
    · rename_i hc
      obtain ⟨hl,hr⟩:=hc
      have hf:=vals_fit (nats zs) l
      have e:packE zs (vals (nats zs) l)=0:=by
        unfold packE
        rw [if_pos ⟨by rw [vals_length,nats_length],hw⟩,if_pos hf]
      rw [hv]
      refine ⟨e,?_⟩
      unfold packV
      rw [if_pos e]
      apply ext_bits
      · rw [packB_length,hl]
      intro i hi
      rw [packB_length] at hi
      have pb:=pk_bits (zeros ((tot (nats zs) + 7) / 8)) (nats zs) (vals (nats zs) l) (by simp [zeros]; omega) (nats zs).length (Nat.le_refl _) i
      unfold packB
      by_cases e2:tot (nats zs)<=i
      · rw [pb.1 (by rw [List.take_length]; exact e2),zeros_bit]
        exact ((restB_iff _ _).1 hr i e2 (by omega)).symm
      obtain ⟨j,h1,h2,h3⟩:=find_field (nats zs) i (nats zs).length (Nat.le_refl _) (by rw [List.take_length]; omega)
      have ts:=tot_take_succ (nats zs) j h1
      rw [pb.2 j h1 h2 h3,vals_get _ _ _ h1]
      unfold uv
      rw [div_bit l _ _ _ (by omega),show tot ((nats zs).take j) + (i - tot ((nats zs).take j))=i by omega]
    cases h
  cases h
end Fld
end Go.Proofs.YtchfkncbemjepaaGreat
