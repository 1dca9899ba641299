/- The contract of perigeeref05's locator over this program. -/
import Derived.Test.YtlpjhmafplljaaaDoorBlkLocR
import Derived.Test.YtlpjhmafplljaaaDoorBlkDec
namespace Go.Proofs.YtlpjhmafplljaaaDoor
open Go.RowKit
set_option linter.unusedVariables false

theorem co_zeros (P : List UInt8) (j : Nat) : Gal.co (P ++ Gal.coefs (fun _ => 0#8) 16) j = Gal.co P j := by
  by_cases h : j < P.length
  · unfold Gal.co
    rw [List.getD_eq_getElem?_getD, List.getElem?_append_left h, ← List.getD_eq_getElem?_getD]
  · rw [Gal.co_out (l := P) (by omega)]
    by_cases h2 : j < P.length + 16
    · have : (P ++ Gal.coefs (fun _ => 0#8) 16).getD j 0 = 0 := by
        rw [List.getD_eq_getElem?_getD, List.getElem?_append_right (by omega), ← List.getD_eq_getElem?_getD]
        simp [Gal.coefs, show j - P.length < 16 by omega]
      simpa [Gal.co] using congrArg UInt8.toBitVec this
    · rw [Gal.co_out (by rw [List.length_append, Gal.coefs_length]; omega)]
/-- One byte as a string. -/
theorem one_str (w : World) (h : BitVec 8) :
    (convert 33 9 (.slice (some ⟨w.heap.size, 0, none⟩) 1 1)).run Tryd.prog (w.alloc (.cells #[.int .u8 (h.toNat : Nat)] 5)) = .ok (.string ⟨#[UInt8.ofBitVec h]⟩) (w.alloc (.cells #[.int .u8 (h.toNat : Nat)] 5)) := by
  have c0 : (w.alloc (.cells #[.int .u8 (h.toNat : Nat)] 5)).cell? ⟨w.heap.size, 0, none⟩ = some (.int .u8 (h.toNat : Nat)) := World.cell?_alloc_new w _ _ 0
  exact run_convert_bytes_back (P := Tryd.prog) _ 33 9 5 ⟨w.heap.size, 0, none⟩ 1 [UInt8.ofBitVec h] Tryd.underlying33 Tryd.underlying5 Tryd.underlying9 (fun j hj => by
    have e : (⟨w.heap.size, 0, none⟩ : Addr).add j = ⟨w.heap.size, j, none⟩ := by unfold Addr.add; split <;> simp_all
    rw [e]
    match j, hj with
    | 0, _ => rw [c0]; rfl)
/-- What locator does. -/
def Located (T : Nat → BitVec 8) (k e : Nat) (w : World) (en : Ending) (w' : World) : Prop :=
  Below w.heap.size w w' ∧ ((∃ y, Blk.Solves (Blk.locM T k e) e y 1#8 ∧ (∀ z, Blk.Solves (Blk.locM T k e) e z 1#8 → ∀ r, r < e → z r = y r) ∧ en = .returned (.tuple #[.string ⟨(1 :: Gal.coefs y e).toArray⟩, .bool true])) ∨
    (∃ z i, i < e ∧ z i = 1#8 ∧ Blk.Solves (Blk.locM T k e) e z 0#8 ∧ en = .returned (.tuple #[.string ⟨#[1]⟩, .bool false])))
/-- The syndromes with the factors of the places of l. -/
def twisted (b : List UInt8) (l : List Nat) : Nat → BitVec 8 := Blk.twist (Blk.elem b.length) l (Gal.co (Gal.coefs (Blk.syn b) 8))
end Go.Proofs.YtlpjhmafplljaaaDoor
