/- PkTake -/
import Derived.Test.YtchfkncbemjepaaGreatPkJoin
/- Layer 9: the reference's Take and Get. -/
namespace Go.Proofs.YtchfkncbemjepaaGreat
open Go.RowKit
set_option linter.unusedVariables false

/-- The packet of nothing. -/
def pk0 : Pkt := ⟨false, 0, 0, 0, ⟨#[]⟩⟩
/-- A new packet. -/
def AlP (n0 : Nat) (v : Value) (w : World) : Prop := ∃ g, v = .pointer (some ⟨g, 0, none⟩) ∧ n0 ≤ g ∧ Cel w g 5 (pkCel pk0)
theorem AlP.mono {n0 : Nat} {v : Value} {w w' : World} (h : AlP n0 v w) (hb : Below w.heap.size w w') : AlP n0 v w' := by
  obtain ⟨g, e, h1, h2⟩ := h
  exact ⟨g, e, h1, h2.below hb⟩
section
variable {P : Program}
end
/-- What Take returns. -/
def tkV : Pk.Res → Value
  | .ok p n => .tuple #[pkVal p, .int .i64 (n : Nat), .int .i64 0]
  | .none => .tuple #[pkVal pk0, .int .i64 0, .int .i64 4]
  | .form => .tuple #[pkVal pk0, .int .i64 0, .int .i64 6]
end Go.Proofs.YtchfkncbemjepaaGreat
