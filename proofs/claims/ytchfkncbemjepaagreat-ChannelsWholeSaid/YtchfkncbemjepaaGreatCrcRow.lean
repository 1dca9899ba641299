/- CrcRow -/
import Derived.Lib.Strings
import Derived.Lib.Small
import Derived.Lib.Hide
import Derived.Lib.Walk
import Derived.Lib.QuoteBits
import Derived.Laws.BitsAllLaws
import Derived.Deep.OwnRows
import Derived.Laws.CopyOwn
import Derived.Deep.WholeRow
import Derived.BigQuiet
import Derived.Deep.QuietTactic
import Derived.Deep.LoopGhost
import Derived.Deep.DeepCutAuto
import Derived.Deep.CutBlock
import Derived.Deep.RegionLaw
import Derived.StillTailTactics
import Derived.Below
import Derived.Handy
import Derived.OwnWalk
import Derived.ArgAppend
import Derived.Test.YtchfkncbemjepaaGreatChecked
set_option linter.unusedVariables false
/- Registers, additive maps, matrices over bits, powers: plain mathematics of layer 3. -/
namespace Go.Proofs.YtchfkncbemjepaaGreat
namespace Crc
section
variable {W:Nat}
def Lin (f:BitVec W->BitVec W):Prop:=∀ x y,f (x ^^^ y)=f x ^^^ f y
theorem Lin.zero {f:BitVec W->BitVec W} (h:Lin f):f 0#W=0#W:=by
  have:=h 0#W 0#W
  rw [BitVec.xor_self] at this
  rw [this,BitVec.xor_self]
theorem Lin.comp {f g:BitVec W->BitVec W} (hf:Lin f) (hg:Lin g):Lin (fun x=>f (g x)):=fun x y=>by show f (g (x ^^^ y))=_; rw [hg,hf]
theorem Lin.xor {f g:BitVec W->BitVec W} (hf:Lin f) (hg:Lin g):Lin (fun x=>f x ^^^ g x):=fun x y=>by
  show f (x ^^^ y) ^^^ g (x ^^^ y)=(f x ^^^ g x) ^^^ (f y ^^^ g y)
  rw [hf,hg]
  ac_rfl
def unit (i:Nat):BitVec W:=1#W <<< i
theorem unit_bit (i j:Nat):(unit i:BitVec W).getLsbD j=(decide (j < W) && decide (j=i)):=by
  unfold unit
  rw [BitVec.getLsbD_shiftLeft,BitVec.getLsbD_one]
  by_cases h:j < W
  · by_cases e:j=i
    · subst e; simp [h]; omega
    simp [h,e]
    omega
  simp [h]
def img (c:Nat->BitVec W) (r:BitVec W):Nat->BitVec W
  | 0=>0#W
  | k + 1=>if r.getLsbD k then img c r k ^^^ c k else img c r k
theorem img_congr {c d:Nat->BitVec W} (r:BitVec W):∀ k,(∀ i,i < k->c i=d i)->img c r k=img d r k
  | 0,_=>rfl
  | k + 1,h=>by
    unfold img
    rw [img_congr r k (fun i hi=>h i (by omega)),h k (by omega)]
theorem img_lin {f:BitVec W->BitVec W} (h:Lin f) (r:BitVec W):∀ k,img (fun i=>f (unit i)) r k=f (img unit r k)
  | 0=>h.zero.symm
  | k + 1=>by
    unfold img
    split
    · rw [img_lin h r k,<-h]
    exact img_lin h r k
theorem img_unit_bit (r:BitVec W):∀ k j,(img unit r k).getLsbD j=(decide (j < k) && r.getLsbD j)
  | 0,j=>by simp [img]
  | k + 1,j=>by
    unfold img
    split
    · rename_i h
      rw [BitVec.getLsbD_xor,img_unit_bit r k j,unit_bit]
      by_cases e:j=k
      · subst e
        have:j < W:=BitVec.lt_of_getLsbD h
        simp [h,this]
      by_cases g:j < k
      · simp [g,e]; intro _; omega
      have:¬ j < k + 1:=by omega
      simp [g,e,this]
    rename_i h
    rw [img_unit_bit r k j]
    by_cases e:j=k
    · subst e
      simp at h
      simp [h]
    by_cases g:j < k
    · have:j < k + 1:=by omega
      simp [g,this]
    have:¬ j < k + 1:=by omega
    simp [g,this]
theorem img_unit (r:BitVec W):img unit r W=r:=by
  apply BitVec.eq_of_getLsbD_eq
  intro i hi
  rw [img_unit_bit]
  simp [hi]
theorem img_eq {f:BitVec W->BitVec W} (h:Lin f) (r:BitVec W):img (fun i=>f (unit i)) r W=f r:=by rw [img_lin h,img_unit]
theorem Lin.ext {f g:BitVec W->BitVec W} (hf:Lin f) (hg:Lin g) (h:∀ i,i < W->f (unit i)=g (unit i)) (r:BitVec W):f r=g r:=by
  rw [<-img_eq hf,<-img_eq hg]
  exact img_congr r W h
def it (f:BitVec W->BitVec W):Nat->BitVec W->BitVec W
  | 0,x=>x
  | n + 1,x=>f (it f n x)
theorem it_lin {f:BitVec W->BitVec W} (h:Lin f):∀ n,Lin (it f n)
  | 0=>fun _ _=>rfl
  | n + 1=>fun x y=>by show f (it f n (x ^^^ y))=f (it f n x) ^^^ f (it f n y); rw [it_lin h n,h]
end

def L16 (r:BitVec 16):BitVec 16:=if r.getLsbD 15 then (r <<< 1) ^^^ 0x1021#16 else r <<< 1
theorem lin16:Lin L16:=fun x y=>by
  unfold L16
  rw [BitVec.getLsbD_xor,BitVec.shiftLeft_xor_distrib]
  cases x.getLsbD 15 <;> cases y.getLsbD 15 <;> simp
  · ac_rfl
  · ac_rfl
  rw [show ∀ a b p:BitVec 16,(a ^^^ p) ^^^ (b ^^^ p)=(a ^^^ b) ^^^ (p ^^^ p) by intros; ac_rfl,BitVec.xor_self,BitVec.xor_zero]
def Z16:BitVec 16->BitVec 16:=it L16 8
theorem linZ16:Lin Z16:=it_lin lin16 8
def S16 (r:BitVec 16) (c:Nat):BitVec 16:=Z16 (r ^^^ (BitVec.ofNat 16 c <<< 8))
def T16 (x:Nat):BitVec 16:=Z16 (BitVec.ofNat 16 x <<< 8)
theorem units16:∀ i,i < 16->Z16 (unit i)=(unit i <<< 8) ^^^ Z16 ((unit i >>> 8) <<< 8):=by decide +kernel
theorem linShl {W:Nat} (k:Nat):Lin (fun x:BitVec W=>x <<< k):=fun x y=>BitVec.shiftLeft_xor_distrib x y k
theorem linShr {W:Nat} (k:Nat):Lin (fun x:BitVec W=>x >>> k):=fun x y=>BitVec.ushiftRight_xor_distrib x y k
theorem split16 (r:BitVec 16):Z16 r=(r <<< 8) ^^^ Z16 ((r >>> 8) <<< 8):=
  linZ16.ext ((linShl 8).xor (linZ16.comp ((linShl 8).comp (linShr 8)))) units16 r
theorem table16 (r:BitVec 16) (c:Nat) (hc:c < 256):S16 r c=(r <<< 8) ^^^ T16 ((r.toNat / 256) ^^^ c):=by
  unfold S16 T16
  rw [split16,BitVec.shiftLeft_xor_distrib]
  have e1:(BitVec.ofNat 16 c <<< 8) <<< 8=0#16:=by
    rw [<-BitVec.shiftLeft_add]
    exact BitVec.shiftLeft_eq_zero (by omega)
  have e2:((r ^^^ (BitVec.ofNat 16 c <<< 8)) >>> 8)=BitVec.ofNat 16 ((r.toNat / 256) ^^^ c):=by
    rw [BitVec.ushiftRight_xor_distrib]
    apply BitVec.eq_of_toNat_eq
    rw [BitVec.toNat_xor,BitVec.toNat_ushiftRight,BitVec.toNat_ushiftRight,BitVec.toNat_shiftLeft,BitVec.toNat_ofNat,BitVec.toNat_ofNat]
    have h1:r.toNat < 65536:=r.isLt
    have h2:r.toNat / 256 < 2 ^ 8:=by omega
    have h3:=Nat.xor_lt_two_pow h2 (show c < 2 ^ 8 by omega)
    rw [Nat.mod_eq_of_lt (a:=r.toNat / 256 ^^^ c) (by omega),Nat.shiftRight_eq_div_pow,Nat.shiftRight_eq_div_pow,Nat.shiftLeft_eq]
    congr 1
    omega
  rw [e1,e2,BitVec.xor_zero]
theorem lower_xor (k x:Nat) (h:x < 2 ^ k):2 ^ k + x=2 ^ k ^^^ x:=by
  have e:=Nat.two_pow_add_eq_or_of_lt h 1
  rw [Nat.mul_one] at e
  rw [e]
  apply Nat.eq_of_testBit_eq
  intro i
  rw [Nat.testBit_xor,Nat.testBit_or,Nat.testBit_two_pow]
  by_cases g:k=i
  · subst g
    rw [Nat.testBit_lt_two_pow h]
    simp
  simp [g]
theorem T16_xor (k x:Nat) (h:x < 2 ^ k):T16 (2 ^ k + x)=T16 (2 ^ k) ^^^ T16 x:=by
  unfold T16
  rw [<-linZ16,lower_xor k x h,BitVec.ofNat_xor,BitVec.shiftLeft_xor_distrib]
theorem T16_zero:T16 0=0#16:=by decide +kernel
theorem bit16_15 (r:BitVec 16):r.getLsbD 15=decide (r.toNat / 32768=1):=by
  have h1:r.toNat < 65536:=r.isLt
  show r.toNat.testBit 15=_
  rw [Nat.testBit_eq_decide_div_mod_eq]
  by_cases g:r.toNat / 32768=1
  · rw [decide_eq_true (show r.toNat / 2 ^ 15 % 2=1 by omega),decide_eq_true g]
  rw [decide_eq_false (show ¬ r.toNat / 2 ^ 15 % 2=1 by omega),decide_eq_false g]
def N16 (r:BitVec 16) (l:List UInt8):BitVec 16:=l.foldl (fun r c=>S16 r c.toNat) r
theorem N16_take (r:BitVec 16) (l:List UInt8) (k:Nat) (h:k < l.length):N16 r (l.take (k + 1))=S16 (N16 r (l.take k)) l[k].toNat:=by
  unfold N16
  rw [List.take_succ_eq_append_getElem h,List.foldl_append]
  rfl
def next16 (r:BitVec 16) (l:List UInt8):BitVec 16:=N16 r l
def sum16 (l:List UInt8):BitVec 16:=next16 0xffff#16 l
end Crc
end Go.Proofs.YtchfkncbemjepaaGreat
/- Blocks of whole rows of numbers of one kind; operations on numbers as registers. -/
namespace Go.Proofs.YtchfkncbemjepaaGreat
open Go.RowKit

theorem bt {w a b:World} (h:Below w.heap.size w a) (k:Below a.heap.size a b):Below w.heap.size w b:=h.trans (k.mono h.size)
theorem ba {w a:World} (h:Below w.heap.size w a) (o:Obj):Below w.heap.size w (a.alloc o):=h.alloc h.size o
theorem below_drewN {B:Nat} {a w:World} (h:Below B a w) (n:Nat):Below B a (w.drewN n):=⟨h.os,h.tape,h.output,h.size,h.block⟩

def arrK (k:IntKind) (n:Nat) (f:Nat->Nat):Array Value:=Array.ofFn (n:=n) (fun j=>.int k (f j:Nat))
theorem arrK_size (k:IntKind) (n:Nat) (f:Nat->Nat):(arrK k n f).size=n:=by simp [arrK]
theorem arrK_get (k:IntKind) (n:Nat) (f:Nat->Nat) (i:Nat) (h:i < n):(arrK k n f)[i]?=some (.int k (f i:Nat)):=by simp [arrK,h]
theorem arrK_one (k:IntKind) (n:Nat) (f:Nat->Nat):(arrK k n f).all (·.oneCell')=true:=by
  rw [Array.all_eq_true]
  intro i hi
  simp [arrK,Value.oneCell']
theorem arrK_congr {k:IntKind} {n:Nat} {f g:Nat->Nat} (h:∀ i,i < n->f i=g i):arrK k n f=arrK k n g:=by
  unfold arrK
  congr 1
  funext j
  rw [h j j.isLt]
theorem arrK_zero (k:IntKind) (n:Nat):arrK k n (fun _=>0)=Array.replicate n (.int k 0):=by
  apply Array.ext_getElem?
  intro i
  by_cases h:i < n
  · rw [arrK_get k n _ i h]; simp [h]
  rw [Array.getElem?_eq_none (by rw [arrK_size]; omega),Array.getElem?_eq_none (by simp; omega)]

def RowK (k:IntKind) (n:Nat) (t:TypeId) (w:World) (b:Nat) (f:Nat->Nat):Prop:=w.heap[b]?=some (.cells (arrK k n f) t (0,0))
namespace RowK
variable {k:IntKind} {n:Nat} {t:TypeId} {w:World} {b:Nat} {f g:Nat->Nat}
theorem is (h:RowK k n t w b f):w.rowIs b t n (fun j=>.int k (f j:Nat)):=⟨_,h,arrK_size k n f,fun i hi=>arrK_get k n f i hi⟩
theorem of_is (h:w.rowIs b t n (fun j=>.int k (f j:Nat))):RowK k n t w b f:=by
  obtain ⟨c,h1,h2,h3⟩:=h
  have e:c=arrK k n f:=by
    apply Array.ext_getElem?
    intro i
    by_cases hi:i < n
    · rw [h3 i hi,arrK_get k n f i hi]
    rw [Array.getElem?_eq_none (by omega),Array.getElem?_eq_none (by rw [arrK_size]; omega)]
  subst e
  exact h1
theorem cell (h:RowK k n t w b f) {i:Nat} (hi:i < n):w.cell? ⟨b,i,none⟩=some (.int k (f i:Nat)):=h.is.cell hi
theorem frozen (h:RowK k n t w b f) (i:Nat):w.frozen? ⟨b,i,none⟩=false:=h.is.frozen i
theorem lt (h:RowK k n t w b f):b < w.heap.size:=h.is.lt
theorem congr (h:RowK k n t w b f) (e:∀ i,i < n->f i=g i):RowK k n t w b g:=by unfold RowK; rw [<-arrK_congr e]; exact h
theorem set (h:RowK k n t w b f) (i m:Nat):RowK k n t (w.setCell ⟨b,i,none⟩ (.int k (m:Nat))) b (fun j=>if j=i then m else f j):=
  of_is ((h.is.set i (.int k (m:Nat))).congr (fun j hj=>by split <;> rfl))
theorem setOther (h:RowK k n t w b f) {c i:Nat} (hb:b ≠ c) (v:Value):RowK k n t (w.setCell ⟨c,i,none⟩ v) b f:=of_is (h.is.setOther hb v)
theorem alloc (h:RowK k n t w b f) (o:Obj):RowK k n t (w.alloc o) b f:=of_is (h.is.alloc o)
theorem below {w':World} (h:RowK k n t w b f) (hb:Below w.heap.size w w'):RowK k n t w' b f:=by unfold RowK; rw [hb.block b h.lt]; exact h
theorem drewN (h:RowK k n t w b f) (m:Nat):RowK k n t (w.drewN m) b f:=h
theorem new (w:World) (k:IntKind) (n:Nat) (t:TypeId) (f:Nat->Nat):RowK k n t (w.alloc (.cells (arrK k n f) t)) w.heap.size f:=heap_alloc_last w _
end RowK

theorem xor16 (x y:BitVec 16):bits .xor .u16 (x.toNat:Int) (y.toNat:Int)=((x ^^^ y).toNat:Int):=by
  rw [u16_xor_nat _ _ x.isLt y.isLt,BitVec.toNat_xor]
theorem shl16 (x:BitVec 16) (k:Nat):IntKind.u16.wrap ((x.toNat:Int) * 2 ^ k)=((x <<< k).toNat:Int):=by
  rw [IntKind.wrap_u16,BitVec.toNat_shiftLeft,Nat.shiftLeft_eq]
  simp
theorem one_more (x:BitVec 16):IntKind.u16.wrap ((x.toNat:Int) * 2)=((x <<< 1).toNat:Int):=shl16 x 1
end Go.Proofs.YtchfkncbemjepaaGreat
