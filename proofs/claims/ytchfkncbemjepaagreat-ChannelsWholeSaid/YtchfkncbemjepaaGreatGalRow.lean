/- GalRow -/
import Derived.Test.YtchfkncbemjepaaGreatCrcRow
set_option linter.unusedVariables false
/- The field of 256 elements as registers of eight bits: products, powers, logarithms. -/
namespace Go.Proofs.YtchfkncbemjepaaGreat
namespace Gal
open Crc (Lin unit img it)
def dbl (a:BitVec 8):BitVec 8:=if a.getLsbD 7 then (a <<< 1) ^^^ 0x1d#8 else a <<< 1
theorem lin:Lin dbl:=fun x y=>by
  unfold dbl
  rw [BitVec.getLsbD_xor,BitVec.shiftLeft_xor_distrib]
  cases x.getLsbD 7 <;> cases y.getLsbD 7 <;> simp
  · ac_rfl
  · ac_rfl
  rw [show ∀ a b p:BitVec 8,(a ^^^ p) ^^^ (b ^^^ p)=(a ^^^ b) ^^^ (p ^^^ p) by intros; ac_rfl,BitVec.xor_self,BitVec.xor_zero]
def mul (a b:BitVec 8):BitVec 8:=img (fun i=>it dbl i a) b 8
theorem img_xor_r {W:Nat} (c:Nat->BitVec W) (r s:BitVec W):∀ k,img c (r ^^^ s) k=img c r k ^^^ img c s k
  | 0=>by simp [img]
  | k + 1=>by
    unfold img
    rw [BitVec.getLsbD_xor,img_xor_r c r s k]
    cases r.getLsbD k <;> cases s.getLsbD k <;> simp
    · ac_rfl
    · ac_rfl
    rw [show ∀ a b p:BitVec W,(a ^^^ p) ^^^ (b ^^^ p)=(a ^^^ b) ^^^ (p ^^^ p) by intros; ac_rfl,BitVec.xor_self,BitVec.xor_zero]
theorem img_xor_c {W:Nat} (c d:Nat->BitVec W) (r:BitVec W):∀ k,img (fun i=>c i ^^^ d i) r k=img c r k ^^^ img d r k
  | 0=>by simp [img]
  | k + 1=>by
    unfold img
    rw [img_xor_c c d r k]
    cases r.getLsbD k <;> simp
    ac_rfl
theorem mul_xor (a b c:BitVec 8):mul a (b ^^^ c)=mul a b ^^^ mul a c:=img_xor_r _ _ _ _
theorem xor_mul (a b c:BitVec 8):mul (a ^^^ b) c=mul a c ^^^ mul b c:=by
  unfold mul
  rw [<-img_xor_c]
  congr 1
  funext i
  exact Crc.it_lin lin i a b
theorem linr (a:BitVec 8):Lin (mul a):=fun x y=>mul_xor a x y
theorem linl (b:BitVec 8):Lin (fun a=>mul a b):=fun x y=>xor_mul x y b
theorem comm8:∀ i,i < 8->∀ j,j < 8->mul (unit i) (unit j)=mul (unit j) (unit i):=by decide +kernel
theorem mul_comm (a b:BitVec 8):mul a b=mul b a:=
  (linl b).ext (linr b) (fun i hi=>(linr (unit i)).ext (linl (unit i)) (fun j hj=>comm8 i hi j hj) b) a
theorem assoc8:∀ i,i < 8->∀ j,j < 8->∀ k,k < 8->mul (mul (unit i) (unit j)) (unit k)=mul (unit i) (mul (unit j) (unit k)):=by decide +kernel
theorem mul_assoc (a b c:BitVec 8):mul (mul a b) c=mul a (mul b c):=
  Lin.ext (f:=fun a=>mul (mul a b) c) (g:=fun a=>mul a (mul b c)) ((linl c).comp (linl b)) (linl _) (fun i hi=>
    Lin.ext (f:=fun b=>mul (mul (unit i) b) c) (g:=fun b=>mul (unit i) (mul b c)) ((linl c).comp (linr (unit i))) ((linr (unit i)).comp (linl c)) (fun j hj=>
      Lin.ext (f:=fun c=>mul (mul (unit i) (unit j)) c) (g:=fun c=>mul (unit i) (mul (unit j) c)) (linr _) ((linr (unit i)).comp (linr (unit j))) (fun k hk=>assoc8 i hi j hj k hk) c) b) a
theorem mul_zero (a:BitVec 8):mul a 0#8=0#8:=(linr a).zero
theorem one8:∀ i,i < 8->mul 1#8 (unit i)=unit i:=by decide +kernel
theorem one_mul (a:BitVec 8):mul 1#8 a=a:=Lin.ext (f:=mul 1#8) (g:=fun a=>a) (linr _) (fun _ _=>rfl) one8 a
theorem mul_one (a:BitVec 8):mul a 1#8=a:=by rw [mul_comm,one_mul]

def pw (k:Nat):BitVec 8:=it dbl k 1#8
def lgL:List Nat:=[0,0,1,25,2,50,26,198,3,223,51,238,27,104,199,75,4,100,224,14,52,141,239,129,28,193,105,248,200,8,76,113,5,138,101,47,225,36,15,33,53,147,142,218,240,18,130,69,29,181,194,125,106,39,249,185,201,154,9,120,77,228,114,166,6,191,139,98,102,221,48,253,226,152,37,179,16,145,34,136,54,208,148,206,143,150,219,189,241,210,19,92,131,56,70,64,30,66,182,163,195,72,126,110,107,58,40,84,250,133,186,61,202,94,155,159,10,21,121,43,78,212,229,172,115,243,167,87,7,112,192,247,140,128,99,13,103,74,222,237,49,197,254,24,227,165,153,119,38,184,180,124,17,68,146,217,35,32,137,46,55,63,209,91,149,188,207,205,144,135,151,178,220,252,190,97,242,86,211,171,20,42,93,158,132,60,57,83,71,109,65,162,31,45,67,216,183,123,164,118,196,23,73,236,127,12,111,246,108,161,59,82,41,157,85,170,251,96,134,177,187,204,62,90,203,89,95,176,156,169,160,81,11,245,22,235,122,117,44,215,79,174,213,233,230,231,173,232,116,214,244,234,168,80,88,175]
def lg (a:BitVec 8):Nat:=lgL.getD a.toNat 0
def inv (a:BitVec 8):BitVec 8:=pw ((255 - lg a) % 255)
def tab (i:Nat):Nat:=if i < 255 then (pw i).toNat else lg (BitVec.ofNat 8 (i - 255))
end Gal
end Go.Proofs.YtchfkncbemjepaaGreat
/- Polynomials over the field of 256 elements: strings of bytes, trimmed; sums, products, quotients, values, derivatives. -/
namespace Go.Proofs.YtchfkncbemjepaaGreat
namespace Gal
def co (l:List UInt8) (i:Nat):BitVec 8:=(l.getD i 0).toBitVec
theorem co_nat (l:List UInt8) (i:Nat):(co l i).toNat=(l.getD i 0).toNat:=rfl
theorem ext {l m:List UInt8} (hl:l.length=m.length) (h:∀ i,i < l.length->co l i=co m i):l=m:=by
  apply List.ext_getElem hl
  intro i h1 h2
  have:=h i h1
  unfold co at this
  rw [List.getD_eq_getElem?_getD,List.getD_eq_getElem?_getD,List.getElem?_eq_getElem h1,List.getElem?_eq_getElem h2] at this
  exact UInt8.toBitVec_inj.1 this
def tn (f:Nat->BitVec 8):Nat->Nat
  | 0=>0
  | n + 1=>if f n=0#8 then tn f n else n + 1
def nn (l:List UInt8):Nat:=tn (co l) l.length
def coefs (f:Nat->BitVec 8) (n:Nat):List UInt8:=(List.range n).map (fun i=>UInt8.ofBitVec (f i))
theorem coefs_length (f:Nat->BitVec 8) (n:Nat):(coefs f n).length=n:=by simp [coefs]

def sh (i:Nat) (g:Nat->BitVec 8) (k:Nat):BitVec 8:=if i<=k then g (k - i) else 0#8
def conv:Nat->(Nat->BitVec 8)->(Nat->BitVec 8)->Nat->BitVec 8
  | 0,_,_,_=>0#8
  | n + 1,f,g,k=>conv n f g k ^^^ mul (f n) (sh n g k)
def left (f g:Nat->BitVec 8) (m top:Nat) (v:BitVec 8):Nat->Nat->BitVec 8
  | 0,j=>f j
  | r + 1,j=>left f g m top v r j ^^^ mul (mul (left f g m top v r (m - 1 - r + top)) v) (sh (m - 1 - r) g j)
def rounds (p q:List UInt8):Nat:=nn p - (nn q - 1)
def vv (q:List UInt8):BitVec 8:=inv (co q (nn q - 1))
end Gal
end Go.Proofs.YtchfkncbemjepaaGreat
/- Bytes in memory: blocks of bytes, worlds that differ in one block alone; exclusive or of bytes. -/
namespace Go.Proofs.YtchfkncbemjepaaGreat
open Go.RowKit

structure But (c:Nat) (w w':World):Prop where
  below:Below c w w'
  rest:∀ b,b < w.heap.size->b ≠ c->w'.heap[b]?=w.heap[b]?
namespace But
variable {c:Nat} {w w1 w2:World}
theorem refl (c:Nat) (w:World):But c w w:=⟨Below.refl _ _,fun _ _ _=>rfl⟩
theorem trans (h:But c w w1) (k:But c w1 w2):But c w w2:=
  ⟨h.below.trans k.below,fun b hb hc=>(k.rest b (Nat.lt_of_lt_of_le hb h.below.size) hc).trans (h.rest b hb hc)⟩
theorem of_below (h:Below w.heap.size w w1) (hc:c<=w.heap.size):But c w w1:=⟨h.mono hc,fun b hb _=>h.block b hb⟩
theorem setCell (h:But c w w1) (i:Nat) (v:Value):But c w (w1.setCell ⟨c,i,none⟩ v):=
  ⟨h.below.setCell (p:=⟨c,i,none⟩) (Nat.le_refl _) v,fun b hb hc=>by
    rw [Below.heap_setCell _ _ _ _ (show b ≠ c from hc)]
    exact h.rest b hb hc⟩
theorem drew (h:But c w w1):But c w w1.drew:=⟨h.below.drew,h.rest⟩
theorem row {k:IntKind} {n b:Nat} {t:TypeId} {f:Nat->Nat} (h:But c w w1) (R:RowK k n t w b f) (hb:b ≠ c):RowK k n t w1 b f:=by
  unfold RowK
  rw [h.rest b R.lt hb]
  exact R
end But
theorem addr_off {b o b' o':Nat} (h:o ≠ o'):(⟨b,o,none⟩:Addr) ≠ ⟨b',o',none⟩:=fun e=>h (congrArg Addr.off e)
def NumsK (k:IntKind) (W:World) (b m:Nat) (f:Nat->Nat):Prop:=b < W.heap.size/\∀ j,j < m->W.cell? ⟨b,j,none⟩=some (.int k (f j:Nat))/\W.frozen? ⟨b,j,none⟩=false
namespace NumsK
variable {k:IntKind} {W W':World} {b m:Nat} {f g:Nat->Nat}
theorem cell (h:NumsK k W b m f) {j:Nat} (hj:j < m):W.cell? ⟨b,j,none⟩=some (.int k (f j:Nat)):=(h.2 j hj).1
theorem frozen (h:NumsK k W b m f) {j:Nat} (hj:j < m):W.frozen? ⟨b,j,none⟩=false:=(h.2 j hj).2
theorem congr (h:NumsK k W b m f) (e:∀ j,j < m->f j=g j):NumsK k W b m g:=⟨h.1,fun j hj=>by rw [<-e j hj]; exact h.2 j hj⟩
theorem set (h:NumsK k W b m f) (i x:Nat) (hi:i < m) (hx:g i=x) (hg:∀ j,j < m->j ≠ i->g j=f j):NumsK k (W.setCell ⟨b,i,none⟩ (.int k x)) b m g:=by
  refine ⟨by rw [World.size_setCell]; exact h.1,fun j hj=>?_⟩
  obtain ⟨h1,h2⟩:=h.2 j hj
  refine ⟨?_,by rw [World.frozen?_setCell]; exact h2⟩
  by_cases e:j=i
  · subst e
    rw [World.cell?_setCell_same' _ _ _ (by rw [h1]; rfl),hx]
  rw [World.cell?_setCell_other (h:=addr_off (fun x=>e x.symm)),hg j hj e]
  exact h1
theorem setOther (h:NumsK k W b m f) {c i:Nat} (hc:c ≠ b) (v:Value):NumsK k (W.setCell ⟨c,i,none⟩ v) b m f:=by
  refine ⟨by rw [World.size_setCell]; exact h.1,fun j hj=>?_⟩
  obtain ⟨h1,h2⟩:=h.2 j hj
  exact ⟨by rw [World.cell?_setCell_other (h:=fun e=>hc (congrArg Addr.block e))]; exact h1,by rw [World.frozen?_setCell]; exact h2⟩
theorem of_block (h:NumsK k W b m f) (e:W'.heap[b]?=W.heap[b]?):NumsK k W' b m f:=by
  refine ⟨?_,fun j hj=>?_⟩
  · apply Nat.lt_of_not_le
    intro hh
    rw [Array.getElem?_eq_none hh,Array.getElem?_eq_getElem h.1] at e
    cases e
  obtain ⟨h1,h2⟩:=h.2 j hj
  exact ⟨(World.cell?_of_block (w:=W) (a:=⟨b,j,none⟩) e).trans h1,(World.frozen?_of_block (w:=W) (a:=⟨b,j,none⟩) e).trans h2⟩
theorem below (h:NumsK k W b m f) (hb:Below W.heap.size W W'):NumsK k W' b m f:=h.of_block (hb.block b h.1)
theorem alloc (h:NumsK k W b m f) (o:Obj):NumsK k (W.alloc o) b m f:=h.of_block (Below.heap_alloc _ _ _ h.1)
theorem but {c:Nat} (h:NumsK k W b m f) (hb:But c W W') (hc:b ≠ c):NumsK k W' b m f:=h.of_block (hb.rest b h.1 hc)
end NumsK
theorem byte_get (s:ByteArray) (i:Nat) (h:i < s.size):s.data.toList[i]'(by simpa using h)=s[i]:=by
  simp only [Array.getElem_toList]; rfl
theorem bytes_self (s:ByteArray):(⟨s.data.toList.toArray⟩:ByteArray)=s:=by
  apply ByteArray.ext
  simp
theorem beq_no {s t:ByteArray} (h:s ≠ t):(s == t)=false:=by
  rw [Bool.eq_false_iff]
  intro e
  exact h (by
    have:s.data == t.data:=e
    cases s
    cases t
    simp_all)
theorem take_bytes (s:ByteArray) (n:Nat):(s.extract 0 n).data.toList=s.data.toList.take n:=by
  simp
end Go.Proofs.YtchfkncbemjepaaGreat
