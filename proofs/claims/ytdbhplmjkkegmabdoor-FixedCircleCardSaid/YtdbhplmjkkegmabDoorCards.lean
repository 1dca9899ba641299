/-
  DERIVED. GIVEN WITH THE SEED: THE CARDS: each row of YtdbhplmjkkegmabDoorRows.lean that lists a variable, with what it lists TIED to the program's text (the seventh form; the later family's looks); each row that meets fmt, with fmt's text TOLD by the authors' own Lean function (tested against real Go, not proved from fmt's source: count such statements apart). THE CARD IS WHAT COUNTS. Prove the row's statement (the work); the ties are given (YtdbhplmjkkegmabDoorTie.lean); close each card by the builder's one call (the guide's Derived/Test/ToyasCard.lean, 'card_holds'). Laid BY PROGRAM, IN A SANDBOX (cutbox-door.mjs). By AI agents, Wed Nov 11 2026. No macro, syntax, notation, axiom, sorry.
-/
import Derived.Test.YtdbhplmjkkegmabDoorRows
import GoSem.ClaimSeven
namespace Go.Proofs.YtdbhplmjkkegmabDoor
namespace Rows

/-- THE TIED CARD OF 'perigeelaw01.FixedCircle'. -/
def fixedCircleCard : Claim7 := { stood := { row := fixedCircleRow, standIns := [], harness := (true, "f76d23bef094efda9ce22458dd4a9f50ae0fd7d3714f09b19a7e0609423dfa16"), looks := false }, kinds := [], alts := [], laidByText := true, laidKinds := [.data], laidTests := true, laidLooks := .later }
def FixedCircleCardSaid : Prop := Claim7.holds Tryd.pinned (.plain (OpenSpec.ofChange fixedCircleSpec)) fixedCircleCard

/-- THE TIED CARD OF 'perigeelaw01.FixedKnown'. -/
def fixedKnownCard : Claim7 := { stood := { row := fixedKnownRow, standIns := [], harness := (true, "f76d23bef094efda9ce22458dd4a9f50ae0fd7d3714f09b19a7e0609423dfa16"), looks := false }, kinds := [], alts := [], laidByText := true, laidKinds := [.data], laidTests := true, laidLooks := .later }
def FixedKnownCardSaid : Prop := Claim7.holds Tryd.pinned (.plain (OpenSpec.ofChange fixedKnownSpec)) fixedKnownCard

/-- THE SECOND FORM's CARD OF 'perigeelaw01.FixedCircle'. -/
def fixedCircleUptoCard : Claim7 := { stood := { row := fixedCircleUptoRow, standIns := [], harness := (true, "f76d23bef094efda9ce22458dd4a9f50ae0fd7d3714f09b19a7e0609423dfa16"), looks := false }, kinds := [], alts := [], laidByText := true, laidKinds := [.data], laidTests := true, laidLooks := .later }
def FixedCircleUptoCardSaid : Prop := Claim7.holds Tryd.pinned (.plain (OpenSpec.upto fixedCircleSpec)) fixedCircleUptoCard

/-- THE SECOND FORM's CARD OF 'perigeelaw01.FixedKnown'. -/
def fixedKnownUptoCard : Claim7 := { stood := { row := fixedKnownUptoRow, standIns := [], harness := (true, "f76d23bef094efda9ce22458dd4a9f50ae0fd7d3714f09b19a7e0609423dfa16"), looks := false }, kinds := [], alts := [], laidByText := true, laidKinds := [.data], laidTests := true, laidLooks := .later }
def FixedKnownUptoCardSaid : Prop := Claim7.holds Tryd.pinned (.plain (OpenSpec.upto fixedKnownSpec)) fixedKnownUptoCard
end Rows
end Go.Proofs.YtdbhplmjkkegmabDoor
