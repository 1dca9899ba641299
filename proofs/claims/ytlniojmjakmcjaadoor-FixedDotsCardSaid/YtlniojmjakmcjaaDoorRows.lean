/-
  NARROWER THAN 'FOR EVERY INPUT', by the rows' own cells (each row's printed sentence says how): FixedRatios: laid · FixedRoots: laid · FixedDots: laid · FixedWaves: laid.
  DERIVED. THE GIVEN ROWS OF THIS SEAT. 4 by the template 'for every input the law returns true; each argument reads behind the call as it read before'; 0 by the template 'total and deterministic' (their statements: YtlniojmjakmcjaaDoorTotals.lean).
  GIVEN WITH THE SEED: the statements are not yours to turn. If you find one false, say at which input.
  Laid BY PROGRAM, IN A SANDBOX (cutbox-rows.mjs): the forced cells as the released guide's own fill.sh prints them over the translation 413fdbd4588435d5… (all of the seat's roots in one cut). By AI agents, Wed Nov 11 2026. No macro, syntax, notation, axiom, sorry.
-/
import Derived.Test.YtlniojmjakmcjaaDoorChecked
import GoSem.Claim
import GoSem.ClaimJoined
import GoSem.ClaimMapViews
import Derived.JoinedTies
import Derived.KernelRfl
namespace Go.Proofs.YtlniojmjakmcjaaDoor
/- THE CELL 'sum', in the pinned program and in every row, IS THE sha256 OF THE DUMP (.gsa) THAT YtlniojmjakmcjaaDoorProg.lean LOADS. Nothing in Lean hashes anything: it is a label: what it is worth is what the hold of that sum in a sandbox is worth. -/
noncomputable def Tryd.pinned : Pinned := { name := "ytlniojmjakmcjaadoor", sum := "413fdbd4588435d5f4e035d34fe3214c7a901c6ded9742b93f3c2cb0c5ed9e96", checked := Tryd.checked }
namespace Rows
def none {H : Type} : Left H := { results := [], args := [] }

/- WHAT THE LISTED PACKAGE-LEVEL VARIABLES READ AS WHEN THE CALL BEGINS. Each datum BY PROGRAM (the guide's laid-datum.mjs) off the statement by which the dump's own 'gosem.cut.vars' lays the variable. In a bare row this is a premise. The card (YtlniojmjakmcjaaDoorCards.lean) ties it to the program's text. -/
def laid_perigee_fixed_series {H : Type} : DataW H := .agg [.agg [.lit (.int .i64 27), .lit (.int .i64 2959), .lit (.int .i64 213044), .lit (.int .i64 8947849), .lit (.int .i64 178956971), .lit (.int .i64 1073741824)], .agg [.lit (.int .i64 296), .lit (.int .i64 26631), .lit (.int .i64 1491308), .lit (.int .i64 44739243), .lit (.int .i64 536870912), .lit (.int .i64 1073741824)]]

/-- 'perigeelaw01.FixedRatios': WHATEVER THE INPUT: true; the input reads as it did. -/
def fixedRatiosSpec : ChangeSpec := { name := "fixedRatios", fn := fun _ => fun
  | [d1, d2, d3] => { results := [.lit (.bool true)], args := [d1, d2, d3] }
  | _ => none }
def fixedRatiosRow : OpenClaim := { program := "ytlniojmjakmcjaadoor", sum := "413fdbd4588435d5f4e035d34fe3214c7a901c6ded9742b93f3c2cb0c5ed9e96", func := "perigee/perigeelaw01.FixedRatios", spec := "fixedRatios", inPlace := ["math/bits.Add64"], unfollowed := true, recurses := true, named := ["math/bits.divideError", "math/bits.overflowError", "perigee/fixed.series"], apart := false, laid := [("perigee/fixed.series", laid_perigee_fixed_series)] }
def FixedRatiosSaid : Prop := fixedRatiosRow.holds Tryd.pinned (OpenSpec.ofChange fixedRatiosSpec)

/-- ITS FALSE NEIGHBOUR: 'it returns false'. Refute it at one input. -/
def fixedRatiosWrong : ChangeSpec := { name := "fixedRatios", fn := fun _ => fun
  | [d1, d2, d3] => { results := [.lit (.bool false)], args := [d1, d2, d3] }
  | _ => none }
def FixedRatiosWrongFalsely : Prop := fixedRatiosRow.holds Tryd.pinned (OpenSpec.ofChange fixedRatiosWrong)

/-- 'perigeelaw01.FixedRoots': WHATEVER THE INPUT: true; the input reads as it did. -/
def fixedRootsSpec : ChangeSpec := { name := "fixedRoots", fn := fun _ => fun
  | [d1, d2] => { results := [.lit (.bool true)], args := [d1, d2] }
  | _ => none }
def fixedRootsRow : OpenClaim := { program := "ytlniojmjakmcjaadoor", sum := "413fdbd4588435d5f4e035d34fe3214c7a901c6ded9742b93f3c2cb0c5ed9e96", func := "perigee/perigeelaw01.FixedRoots", spec := "fixedRoots", inPlace := ["math/bits.Add64"], unfollowed := true, recurses := true, named := ["math/bits.divideError", "math/bits.overflowError", "perigee/fixed.series"], apart := false, laid := [("perigee/fixed.series", laid_perigee_fixed_series)] }
def FixedRootsSaid : Prop := fixedRootsRow.holds Tryd.pinned (OpenSpec.ofChange fixedRootsSpec)

/-- ITS FALSE NEIGHBOUR: 'it returns false'. Refute it at one input. -/
def fixedRootsWrong : ChangeSpec := { name := "fixedRoots", fn := fun _ => fun
  | [d1, d2] => { results := [.lit (.bool false)], args := [d1, d2] }
  | _ => none }
def FixedRootsWrongFalsely : Prop := fixedRootsRow.holds Tryd.pinned (OpenSpec.ofChange fixedRootsWrong)

/-- 'perigeelaw01.FixedDots': WHATEVER THE INPUT: true; the input reads as it did. -/
def fixedDotsSpec : ChangeSpec := { name := "fixedDots", fn := fun _ => fun
  | [d1, d2] => { results := [.lit (.bool true)], args := [d1, d2] }
  | _ => none }
def fixedDotsRow : OpenClaim := { program := "ytlniojmjakmcjaadoor", sum := "413fdbd4588435d5f4e035d34fe3214c7a901c6ded9742b93f3c2cb0c5ed9e96", func := "perigee/perigeelaw01.FixedDots", spec := "fixedDots", inPlace := ["math/bits.Add64"], unfollowed := true, recurses := true, named := ["math/bits.divideError", "math/bits.overflowError", "perigee/fixed.series"], apart := false, laid := [("perigee/fixed.series", laid_perigee_fixed_series)] }
def FixedDotsSaid : Prop := fixedDotsRow.holds Tryd.pinned (OpenSpec.ofChange fixedDotsSpec)

/-- ITS FALSE NEIGHBOUR: 'it returns false'. Refute it at one input. -/
def fixedDotsWrong : ChangeSpec := { name := "fixedDots", fn := fun _ => fun
  | [d1, d2] => { results := [.lit (.bool false)], args := [d1, d2] }
  | _ => none }
def FixedDotsWrongFalsely : Prop := fixedDotsRow.holds Tryd.pinned (OpenSpec.ofChange fixedDotsWrong)

/-- 'perigeelaw01.FixedWaves': WHATEVER THE INPUT: true; the input reads as it did. -/
def fixedWavesSpec : ChangeSpec := { name := "fixedWaves", fn := fun _ => fun
  | [d] => { results := [.lit (.bool true)], args := [d] }
  | _ => none }
def fixedWavesRow : OpenClaim := { program := "ytlniojmjakmcjaadoor", sum := "413fdbd4588435d5f4e035d34fe3214c7a901c6ded9742b93f3c2cb0c5ed9e96", func := "perigee/perigeelaw01.FixedWaves", spec := "fixedWaves", inPlace := ["math/bits.Add64"], unfollowed := true, recurses := true, named := ["perigee/fixed.series", "math/bits.divideError", "math/bits.overflowError"], apart := false, laid := [("perigee/fixed.series", laid_perigee_fixed_series)] }
def FixedWavesSaid : Prop := fixedWavesRow.holds Tryd.pinned (OpenSpec.ofChange fixedWavesSpec)

/-- ITS FALSE NEIGHBOUR: 'it returns false'. Refute it at one input. -/
def fixedWavesWrong : ChangeSpec := { name := "fixedWaves", fn := fun _ => fun
  | [d] => { results := [.lit (.bool false)], args := [d] }
  | _ => none }
def FixedWavesWrongFalsely : Prop := fixedWavesRow.holds Tryd.pinned (OpenSpec.ofChange fixedWavesWrong)

/- THE SECOND FORM. 'bulk': how many values and letters a reading holds, each counted each time it is reached (what is shared counts as often as it is met; a slice's spare places count too). A statement '..UptoSaid' is the law's where the arguments, and the package variables that the reading takes, are together of bulk at most 1048576: NARROWER than '..Said'. Prove '..Said' where nothing that the law and all that it calls make is longer than what came in: it says more and counts as full. Else prove '..UptoSaid'. A law counts once. -/
mutual
def uptoBulk {H : Type} : DataW H → Nat
  | .lit (.string bytes) => bytes.length + 1
  | .lit _ => 1
  | .nil => 1
  | .ptr d => uptoBulk d + 1
  | .slice elems spare => uptoBulkAll elems + uptoBulkAll spare + 1
  | .agg parts => uptoBulkAll parts + 1
  | .iface _ d => uptoBulk d + 1
  | .map entries => uptoBulkEntries entries + 1
  | .held _ => 1
def uptoBulkAll {H : Type} : List (DataW H) → Nat
  | [] => 0
  | d :: r => uptoBulk d + uptoBulkAll r
def uptoBulkEntries {H : Type} : List (Lit × DataW H) → Nat
  | [] => 0
  | x :: r => uptoBulkEntry x + uptoBulkEntries r
def uptoBulkEntry {H : Type} : Lit × DataW H → Nat
  | (.string bytes, d) => bytes.length + uptoBulk d + 1
  | (_, d) => uptoBulk d + 1
 end
def uptoSmall : (H : Type) → List (DataW H) → Bool := fun _ ds => decide (uptoBulkAll ds ≤ 1048576)
def OpenSpec.upto (s : _root_.Go.ChangeSpec) : _root_.Go.OpenSpec := { _root_.Go.OpenSpec.ofChange s with cond := some uptoSmall }

/-- 'perigeelaw01.FixedRatios', WHERE WHAT IT READS IS OF BULK AT MOST 1048576: true; the input reads as it did. -/
def fixedRatiosUptoRow : OpenClaim := { program := "ytlniojmjakmcjaadoor", sum := "413fdbd4588435d5f4e035d34fe3214c7a901c6ded9742b93f3c2cb0c5ed9e96", func := "perigee/perigeelaw01.FixedRatios", spec := "fixedRatios", inPlace := ["math/bits.Add64"], unfollowed := true, recurses := true, named := ["math/bits.divideError", "math/bits.overflowError", "perigee/fixed.series"], apart := false, laid := [("perigee/fixed.series", laid_perigee_fixed_series)], narrowed := true }
def FixedRatiosUptoSaid : Prop := fixedRatiosUptoRow.holds Tryd.pinned (OpenSpec.upto fixedRatiosSpec)

/-- 'perigeelaw01.FixedRoots', WHERE WHAT IT READS IS OF BULK AT MOST 1048576: true; the input reads as it did. -/
def fixedRootsUptoRow : OpenClaim := { program := "ytlniojmjakmcjaadoor", sum := "413fdbd4588435d5f4e035d34fe3214c7a901c6ded9742b93f3c2cb0c5ed9e96", func := "perigee/perigeelaw01.FixedRoots", spec := "fixedRoots", inPlace := ["math/bits.Add64"], unfollowed := true, recurses := true, named := ["math/bits.divideError", "math/bits.overflowError", "perigee/fixed.series"], apart := false, laid := [("perigee/fixed.series", laid_perigee_fixed_series)], narrowed := true }
def FixedRootsUptoSaid : Prop := fixedRootsUptoRow.holds Tryd.pinned (OpenSpec.upto fixedRootsSpec)

/-- 'perigeelaw01.FixedDots', WHERE WHAT IT READS IS OF BULK AT MOST 1048576: true; the input reads as it did. -/
def fixedDotsUptoRow : OpenClaim := { program := "ytlniojmjakmcjaadoor", sum := "413fdbd4588435d5f4e035d34fe3214c7a901c6ded9742b93f3c2cb0c5ed9e96", func := "perigee/perigeelaw01.FixedDots", spec := "fixedDots", inPlace := ["math/bits.Add64"], unfollowed := true, recurses := true, named := ["math/bits.divideError", "math/bits.overflowError", "perigee/fixed.series"], apart := false, laid := [("perigee/fixed.series", laid_perigee_fixed_series)], narrowed := true }
def FixedDotsUptoSaid : Prop := fixedDotsUptoRow.holds Tryd.pinned (OpenSpec.upto fixedDotsSpec)

/-- 'perigeelaw01.FixedWaves', WHERE WHAT IT READS IS OF BULK AT MOST 1048576: true; the input reads as it did. -/
def fixedWavesUptoRow : OpenClaim := { program := "ytlniojmjakmcjaadoor", sum := "413fdbd4588435d5f4e035d34fe3214c7a901c6ded9742b93f3c2cb0c5ed9e96", func := "perigee/perigeelaw01.FixedWaves", spec := "fixedWaves", inPlace := ["math/bits.Add64"], unfollowed := true, recurses := true, named := ["perigee/fixed.series", "math/bits.divideError", "math/bits.overflowError"], apart := false, laid := [("perigee/fixed.series", laid_perigee_fixed_series)], narrowed := true }
def FixedWavesUptoSaid : Prop := fixedWavesUptoRow.holds Tryd.pinned (OpenSpec.upto fixedWavesSpec)

end Rows
end Go.Proofs.YtlniojmjakmcjaaDoor
