/- The contract of perigeeref05's mended over this program. -/
import Derived.Test.YtlpjhmafplljaaaDoorBlkRows
import Derived.Test.YtlpjhmafplljaaaDoorBlkMendR
namespace Go.Proofs.YtlpjhmafplljaaaDoor
open Go.RowKit
set_option linter.unusedVariables false

namespace Blk
/-- b with k bytes changed. -/
def patch (b : List UInt8) (l : List Nat) (y : Nat → BitVec 8) : Nat → Nat → BitVec 8
  | 0 => Gal.co b
  | k + 1 => fun p => if p = l.getD k 0 then patch b l y k p ^^^ y k else patch b l y k p
end Blk
theorem info_bytes : (Tryd.prog.info? 33).map (fun i => (i.zero, i.size, i.bytes)) = some (some (.slice none 0 0), 1, 24) := by kernel_rfl
/-- What mended does. -/
def Mended (b : List UInt8) (l : List Nat) (w : World) (e : Ending) (w' : World) : Prop :=
  Below w.heap.size w w' ∧ ((∃ y, Blk.Solves (Blk.mendM b l) l.length y 1#8 ∧ (∀ z, Blk.Solves (Blk.mendM b l) l.length z 1#8 → ∀ r, r < l.length → z r = y r) ∧ e = .returned (.tuple #[.string ⟨(Gal.coefs (Blk.patch b l y l.length) b.length).toArray⟩, .bool (decide (Blk.Code (Gal.coefs (Blk.patch b l y l.length) b.length)))])) ∨
    (∃ z i, i < l.length ∧ z i = 1#8 ∧ Blk.Solves (Blk.mendM b l) l.length z 0#8 ∧ e = .returned (.tuple #[.string ⟨#[]⟩, .bool false])))
end Go.Proofs.YtlpjhmafplljaaaDoor
