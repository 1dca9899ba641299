/-
  NARROWER THAN 'FOR EVERY INPUT', by the rows' own cells (each row's printed sentence says how): FixedCircle: laid · FixedKnown: laid.
  DERIVED. THE GIVEN ROWS OF THIS SEAT. 2 by the template 'for every input the law returns true; each argument reads behind the call as it read before'; 0 by the template 'total and deterministic' (their statements: YtdbhplmjkkegmabDoorTotals.lean).
  GIVEN WITH THE SEED: the statements are not yours to turn. If you find one false, say at which input.
  Laid BY PROGRAM, IN A SANDBOX (cutbox-rows.mjs): the forced cells as the released guide's own fill.sh prints them over the translation 643b69a80c3f7fdc… (all of the seat's roots in one cut). By AI agents, Wed Nov 11 2026. No macro, syntax, notation, axiom, sorry.
-/
import Derived.Test.YtdbhplmjkkegmabDoorChecked
import GoSem.Claim
import GoSem.ClaimJoined
import GoSem.ClaimMapViews
import Derived.JoinedTies
import Derived.KernelRfl
namespace Go.Proofs.YtdbhplmjkkegmabDoor
/- THE CELL 'sum', in the pinned program and in every row, IS THE sha256 OF THE DUMP (.gsa) THAT YtdbhplmjkkegmabDoorProg.lean LOADS. Nothing in Lean hashes anything: it is a label: what it is worth is what the hold of that sum in a sandbox is worth. -/
noncomputable def Tryd.pinned : Pinned := { name := "ytdbhplmjkkegmabdoor", sum := "643b69a80c3f7fdc8419ea259676b154ead511c7a2e24f5da41aa15fa3cf4d88", checked := Tryd.checked }
namespace Rows
def none {H : Type} : Left H := { results := [], args := [] }

/- WHAT THE LISTED PACKAGE-LEVEL VARIABLES READ AS WHEN THE CALL BEGINS. Each datum BY PROGRAM (the guide's laid-datum.mjs) off the statement by which the dump's own 'gosem.cut.vars' lays the variable. In a bare row this is a premise. The card (YtdbhplmjkkegmabDoorCards.lean) ties it to the program's text. -/
def laid_perigee_fixed_series {H : Type} : DataW H := .agg [.agg [.lit (.int .i64 27), .lit (.int .i64 2959), .lit (.int .i64 213044), .lit (.int .i64 8947849), .lit (.int .i64 178956971), .lit (.int .i64 1073741824)], .agg [.lit (.int .i64 296), .lit (.int .i64 26631), .lit (.int .i64 1491308), .lit (.int .i64 44739243), .lit (.int .i64 536870912), .lit (.int .i64 1073741824)]]

/-- 'perigeelaw01.FixedCircle': WHATEVER THE INPUT: true; the input reads as it did. -/
def fixedCircleSpec : ChangeSpec := { name := "fixedCircle", fn := fun _ => fun
  | [d] => { results := [.lit (.bool true)], args := [d] }
  | _ => none }
def fixedCircleRow : OpenClaim := { program := "ytdbhplmjkkegmabdoor", sum := "643b69a80c3f7fdc8419ea259676b154ead511c7a2e24f5da41aa15fa3cf4d88", func := "perigee/perigeelaw01.FixedCircle", spec := "fixedCircle", inPlace := ["math/bits.Add64"], unfollowed := true, recurses := true, named := ["perigee/fixed.series", "math/bits.divideError", "math/bits.overflowError"], apart := false, laid := [("perigee/fixed.series", laid_perigee_fixed_series)] }
def FixedCircleSaid : Prop := fixedCircleRow.holds Tryd.pinned (OpenSpec.ofChange fixedCircleSpec)

/-- ITS FALSE NEIGHBOUR: 'it returns false'. Refute it at one input. -/
def fixedCircleWrong : ChangeSpec := { name := "fixedCircle", fn := fun _ => fun
  | [d] => { results := [.lit (.bool false)], args := [d] }
  | _ => none }
def FixedCircleWrongFalsely : Prop := fixedCircleRow.holds Tryd.pinned (OpenSpec.ofChange fixedCircleWrong)

/-- 'perigeelaw01.FixedKnown': WHATEVER THE INPUT: true; the input reads as it did. -/
def fixedKnownSpec : ChangeSpec := { name := "fixedKnown", fn := fun _ => fun
  | [] => { results := [.lit (.bool true)], args := [] }
  | _ => none }
def fixedKnownRow : OpenClaim := { program := "ytdbhplmjkkegmabdoor", sum := "643b69a80c3f7fdc8419ea259676b154ead511c7a2e24f5da41aa15fa3cf4d88", func := "perigee/perigeelaw01.FixedKnown", spec := "fixedKnown", inPlace := ["math/bits.Add64"], unfollowed := true, recurses := true, named := ["math/bits.divideError", "math/bits.overflowError", "perigee/fixed.series"], apart := false, laid := [("perigee/fixed.series", laid_perigee_fixed_series)] }
def FixedKnownSaid : Prop := fixedKnownRow.holds Tryd.pinned (OpenSpec.ofChange fixedKnownSpec)

/-- ITS FALSE NEIGHBOUR: 'it returns false'. Refute it at one input. -/
def fixedKnownWrong : ChangeSpec := { name := "fixedKnown", fn := fun _ => fun
  | [] => { results := [.lit (.bool false)], args := [] }
  | _ => none }
def FixedKnownWrongFalsely : Prop := fixedKnownRow.holds Tryd.pinned (OpenSpec.ofChange fixedKnownWrong)

/- THE SECOND FORM. 'bulk': how many values and letters a reading holds, each counted each time it is reached (what is shared counts as often as it is met; a slice's spare places count too). A statement '..UptoSaid' is the law's where the arguments, and the package variables that the reading takes, are together of bulk at most 1048576: NARROWER than '..Said'. Prove '..Said' where nothing that the law and all that it calls make is longer than what came in: it says more and counts as full. Else prove '..UptoSaid'. A law counts once. -/
mutual
def uptoBulk {H : Type} : DataW H → Nat
  | .lit (.string bytes) => bytes.length + 1
  | .lit _ => 1
  | .nil => 1
  | .ptr d => uptoBulk d + 1
  | .slice elems spare => uptoBulkAll elems + uptoBulkAll spare + 1
  | .agg parts => uptoBulkAll parts + 1
  | .iface _ d => uptoBulk d + 1
  | .map entries => uptoBulkEntries entries + 1
  | .held _ => 1
def uptoBulkAll {H : Type} : List (DataW H) → Nat
  | [] => 0
  | d :: r => uptoBulk d + uptoBulkAll r
def uptoBulkEntries {H : Type} : List (Lit × DataW H) → Nat
  | [] => 0
  | x :: r => uptoBulkEntry x + uptoBulkEntries r
def uptoBulkEntry {H : Type} : Lit × DataW H → Nat
  | (.string bytes, d) => bytes.length + uptoBulk d + 1
  | (_, d) => uptoBulk d + 1
 end
def uptoSmall : (H : Type) → List (DataW H) → Bool := fun _ ds => decide (uptoBulkAll ds ≤ 1048576)
def OpenSpec.upto (s : _root_.Go.ChangeSpec) : _root_.Go.OpenSpec := { _root_.Go.OpenSpec.ofChange s with cond := some uptoSmall }

/-- 'perigeelaw01.FixedCircle', WHERE WHAT IT READS IS OF BULK AT MOST 1048576: true; the input reads as it did. -/
def fixedCircleUptoRow : OpenClaim := { program := "ytdbhplmjkkegmabdoor", sum := "643b69a80c3f7fdc8419ea259676b154ead511c7a2e24f5da41aa15fa3cf4d88", func := "perigee/perigeelaw01.FixedCircle", spec := "fixedCircle", inPlace := ["math/bits.Add64"], unfollowed := true, recurses := true, named := ["perigee/fixed.series", "math/bits.divideError", "math/bits.overflowError"], apart := false, laid := [("perigee/fixed.series", laid_perigee_fixed_series)], narrowed := true }
def FixedCircleUptoSaid : Prop := fixedCircleUptoRow.holds Tryd.pinned (OpenSpec.upto fixedCircleSpec)

/-- 'perigeelaw01.FixedKnown', WHERE WHAT IT READS IS OF BULK AT MOST 1048576: true; the input reads as it did. -/
def fixedKnownUptoRow : OpenClaim := { program := "ytdbhplmjkkegmabdoor", sum := "643b69a80c3f7fdc8419ea259676b154ead511c7a2e24f5da41aa15fa3cf4d88", func := "perigee/perigeelaw01.FixedKnown", spec := "fixedKnown", inPlace := ["math/bits.Add64"], unfollowed := true, recurses := true, named := ["math/bits.divideError", "math/bits.overflowError", "perigee/fixed.series"], apart := false, laid := [("perigee/fixed.series", laid_perigee_fixed_series)], narrowed := true }
def FixedKnownUptoSaid : Prop := fixedKnownUptoRow.holds Tryd.pinned (OpenSpec.upto fixedKnownSpec)

end Rows
end Go.Proofs.YtdbhplmjkkegmabDoor
