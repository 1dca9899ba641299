/- Parameters of 16 and 32 bits as registers. -/
import Derived.Test.YtkgnhdggfeiheaaRowKit
import Derived.Test.YtkgnhdggfeiheaaCrcAwake
namespace Go.Proofs.Ytkgnhdggfeiheaa
open Go.ChangeShapes Go.WideShapes Go.ChangeAt Go.RowKit
theorem bounds16 {x : Int} (h : (Lit.int .u16 x).wf = true) : ∃ r : BitVec 16, x = (r.toNat : Int) := by
  obtain ⟨h1, h2⟩ := bounds_u16 h
  exact ⟨BitVec.ofNat 16 x.toNat, by rw [BitVec.toNat_ofNat]; omega⟩
theorem bounds32 {x : Int} (h : (Lit.int .u32 x).wf = true) : ∃ r : BitVec 32, x = (r.toNat : Int) := by
  obtain ⟨h1, h2⟩ := bounds_u32 h
  exact ⟨BitVec.ofNat 32 x.toNat, by rw [BitVec.toNat_ofNat]; omega⟩
end Go.Proofs.Ytkgnhdggfeiheaa
