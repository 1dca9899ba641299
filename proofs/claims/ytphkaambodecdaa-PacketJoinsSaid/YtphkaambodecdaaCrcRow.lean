/- Blocks of whole rows of numbers of one kind; operations on numbers as registers. -/
import Derived.Test.YtphkaambodecdaaCrcMath
import Derived.Test.YtphkaambodecdaaChecked
import Derived.Lib.Strings
import Derived.Lib.Small
import Derived.Lib.Hide
import Derived.Lib.Walk
import Derived.Lib.QuoteBits
import Derived.Laws.BitsAllLaws
import Derived.Deep.OwnRows
import Derived.Laws.CopyOwn
import Derived.Deep.WholeRow
import Derived.BigQuiet
import Derived.Deep.QuietTactic
import Derived.Deep.LoopGhost
import Derived.Deep.DeepCutAuto
import Derived.Deep.CutBlock
import Derived.Deep.RegionLaw
import Derived.StillTailTactics
import Derived.Below
import Derived.Handy
import Derived.OwnWalk
import Derived.ArgAppend
namespace Go.Proofs.Ytphkaambodecdaa
open Go.RowKit
set_option linter.unusedVariables false

theorem bt {w a b : World} (h : Below w.heap.size w a) (k : Below a.heap.size a b) : Below w.heap.size w b := h.trans (k.mono h.size)
theorem ba {w a : World} (h : Below w.heap.size w a) (o : Obj) : Below w.heap.size w (a.alloc o) := h.alloc h.size o
theorem below_drewN {B : Nat} {a w : World} (h : Below B a w) (n : Nat) : Below B a (w.drewN n) := ⟨h.os, h.tape, h.output, h.size, h.block⟩

/-- n numbers of a kind. -/
def arrK (k : IntKind) (n : Nat) (f : Nat → Nat) : Array Value := Array.ofFn (n := n) (fun j => .int k (f j : Nat))
theorem arrK_size (k : IntKind) (n : Nat) (f : Nat → Nat) : (arrK k n f).size = n := by simp [arrK]
theorem arrK_get (k : IntKind) (n : Nat) (f : Nat → Nat) (i : Nat) (h : i < n) : (arrK k n f)[i]? = some (.int k (f i : Nat)) := by simp [arrK, h]
theorem arrK_one (k : IntKind) (n : Nat) (f : Nat → Nat) : (arrK k n f).all (·.oneCell') = true := by
  rw [Array.all_eq_true]
  intro i hi
  simp [arrK, Value.oneCell']
theorem arrK_congr {k : IntKind} {n : Nat} {f g : Nat → Nat} (h : ∀ i, i < n → f i = g i) : arrK k n f = arrK k n g := by
  unfold arrK
  congr 1
  funext j
  rw [h j j.isLt]
theorem arrK_zero (k : IntKind) (n : Nat) : arrK k n (fun _ => 0) = Array.replicate n (.int k 0) := by
  apply Array.ext_getElem?
  intro i
  by_cases h : i < n
  · rw [arrK_get k n _ i h]; simp [h]
  · rw [Array.getElem?_eq_none (by rw [arrK_size]; omega), Array.getElem?_eq_none (by simp; omega)]

/-- A block of n numbers of a kind. -/
def RowK (k : IntKind) (n : Nat) (t : TypeId) (w : World) (b : Nat) (f : Nat → Nat) : Prop := w.heap[b]? = some (.cells (arrK k n f) t (0, 0))
namespace RowK
variable {k : IntKind} {n : Nat} {t : TypeId} {w : World} {b : Nat} {f g : Nat → Nat}
theorem is (h : RowK k n t w b f) : w.rowIs b t n (fun j => .int k (f j : Nat)) := ⟨_, h, arrK_size k n f, fun i hi => arrK_get k n f i hi⟩
theorem of_is (h : w.rowIs b t n (fun j => .int k (f j : Nat))) : RowK k n t w b f := by
  obtain ⟨c, h1, h2, h3⟩ := h
  have e : c = arrK k n f := by
    apply Array.ext_getElem?
    intro i
    by_cases hi : i < n
    · rw [h3 i hi, arrK_get k n f i hi]
    · rw [Array.getElem?_eq_none (by omega), Array.getElem?_eq_none (by rw [arrK_size]; omega)]
  subst e
  exact h1
theorem cell (h : RowK k n t w b f) {i : Nat} (hi : i < n) : w.cell? ⟨b, i, none⟩ = some (.int k (f i : Nat)) := h.is.cell hi
theorem frozen (h : RowK k n t w b f) (i : Nat) : w.frozen? ⟨b, i, none⟩ = false := h.is.frozen i
theorem lt (h : RowK k n t w b f) : b < w.heap.size := h.is.lt
theorem congr (h : RowK k n t w b f) (e : ∀ i, i < n → f i = g i) : RowK k n t w b g := by unfold RowK; rw [← arrK_congr e]; exact h
theorem set (h : RowK k n t w b f) (i m : Nat) : RowK k n t (w.setCell ⟨b, i, none⟩ (.int k (m : Nat))) b (fun j => if j = i then m else f j) :=
  of_is ((h.is.set i (.int k (m : Nat))).congr (fun j hj => by split <;> rfl))
theorem setOther (h : RowK k n t w b f) {c i : Nat} (hb : b ≠ c) (v : Value) : RowK k n t (w.setCell ⟨c, i, none⟩ v) b f := of_is (h.is.setOther hb v)
theorem alloc (h : RowK k n t w b f) (o : Obj) : RowK k n t (w.alloc o) b f := of_is (h.is.alloc o)
theorem below {w' : World} (h : RowK k n t w b f) (hb : Below w.heap.size w w') : RowK k n t w' b f := by unfold RowK; rw [hb.block b h.lt]; exact h
theorem drewN (h : RowK k n t w b f) (m : Nat) : RowK k n t (w.drewN m) b f := h
theorem new (w : World) (k : IntKind) (n : Nat) (t : TypeId) (f : Nat → Nat) : RowK k n t (w.alloc (.cells (arrK k n f) t)) w.heap.size f := heap_alloc_last w _
end RowK

theorem xor16 (x y : BitVec 16) : bits .xor .u16 (x.toNat : Int) (y.toNat : Int) = ((x ^^^ y).toNat : Int) := by
  rw [u16_xor_nat _ _ x.isLt y.isLt, BitVec.toNat_xor]
theorem xor32 (x y : BitVec 32) : bits .xor .u32 (x.toNat : Int) (y.toNat : Int) = ((x ^^^ y).toNat : Int) := by
  rw [u32_xor_nat _ _ x.isLt y.isLt, BitVec.toNat_xor]
theorem shl16 (x : BitVec 16) (k : Nat) : IntKind.u16.wrap ((x.toNat : Int) * 2 ^ k) = ((x <<< k).toNat : Int) := by
  rw [IntKind.wrap_u16, BitVec.toNat_shiftLeft, Nat.shiftLeft_eq]
  simp
theorem shl32 (x : BitVec 32) (k : Nat) : IntKind.u32.wrap ((x.toNat : Int) * 2 ^ k) = ((x <<< k).toNat : Int) := by
  rw [IntKind.wrap_u32', BitVec.toNat_shiftLeft, Nat.shiftLeft_eq]
  simp
theorem shr16 (x : BitVec 16) (k : Nat) : (x.toNat : Int) / 2 ^ k = ((x >>> k).toNat : Int) := by
  rw [BitVec.toNat_ushiftRight, Nat.shiftRight_eq_div_pow]
  simp
theorem shr32 (x : BitVec 32) (k : Nat) : (x.toNat : Int) / 2 ^ k = ((x >>> k).toNat : Int) := by
  rw [BitVec.toNat_ushiftRight, Nat.shiftRight_eq_div_pow]
  simp
theorem one_more (x : BitVec 16) : IntKind.u16.wrap ((x.toNat : Int) * 2) = ((x <<< 1).toNat : Int) := shl16 x 1
theorem one_less (x : BitVec 32) : (x.toNat : Int) / (2 : Int) = ((x >>> 1).toNat : Int) := shr32 x 1
theorem bit_int (c j : Nat) : ((c / 2 ^ j % 2 : Nat) : Int) = ((c : Int) / 2 ^ j).tmod 2 := by
  rw [Int.tmod_eq_emod_of_nonneg (Int.ediv_nonneg (by omega) (Int.pow_nonneg (by omega)))]
  simp
end Go.Proofs.Ytphkaambodecdaa
