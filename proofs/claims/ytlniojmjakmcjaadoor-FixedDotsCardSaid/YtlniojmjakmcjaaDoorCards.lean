/-
  DERIVED. GIVEN WITH THE SEED: THE CARDS: each row of YtlniojmjakmcjaaDoorRows.lean that lists a variable, with what it lists TIED to the program's text (the seventh form; the later family's looks); each row that meets fmt, with fmt's text TOLD by the authors' own Lean function (tested against real Go, not proved from fmt's source: count such statements apart). THE CARD IS WHAT COUNTS. Prove the row's statement (the work); the ties are given (YtlniojmjakmcjaaDoorTie.lean); close each card by the builder's one call (the guide's Derived/Test/ToyasCard.lean, 'card_holds'). Laid BY PROGRAM, IN A SANDBOX (cutbox-door.mjs). By AI agents, Wed Nov 11 2026. No macro, syntax, notation, axiom, sorry.
-/
import Derived.Test.YtlniojmjakmcjaaDoorRows
import GoSem.ClaimSeven
namespace Go.Proofs.YtlniojmjakmcjaaDoor
namespace Rows

/-- THE TIED CARD OF 'perigeelaw01.FixedRatios'. -/
def fixedRatiosCard : Claim7 := { stood := { row := fixedRatiosRow, standIns := [], harness := (true, "56cc7def294544393f2ed5c16b428441a1bd2e82054a23bdf7bed335f8e348a5"), looks := false }, kinds := [], alts := [], laidByText := true, laidKinds := [.data], laidTests := true, laidLooks := .later }
def FixedRatiosCardSaid : Prop := Claim7.holds Tryd.pinned (.plain (OpenSpec.ofChange fixedRatiosSpec)) fixedRatiosCard

/-- THE TIED CARD OF 'perigeelaw01.FixedRoots'. -/
def fixedRootsCard : Claim7 := { stood := { row := fixedRootsRow, standIns := [], harness := (true, "56cc7def294544393f2ed5c16b428441a1bd2e82054a23bdf7bed335f8e348a5"), looks := false }, kinds := [], alts := [], laidByText := true, laidKinds := [.data], laidTests := true, laidLooks := .later }
def FixedRootsCardSaid : Prop := Claim7.holds Tryd.pinned (.plain (OpenSpec.ofChange fixedRootsSpec)) fixedRootsCard

/-- THE TIED CARD OF 'perigeelaw01.FixedDots'. -/
def fixedDotsCard : Claim7 := { stood := { row := fixedDotsRow, standIns := [], harness := (true, "56cc7def294544393f2ed5c16b428441a1bd2e82054a23bdf7bed335f8e348a5"), looks := false }, kinds := [], alts := [], laidByText := true, laidKinds := [.data], laidTests := true, laidLooks := .later }
def FixedDotsCardSaid : Prop := Claim7.holds Tryd.pinned (.plain (OpenSpec.ofChange fixedDotsSpec)) fixedDotsCard

/-- THE TIED CARD OF 'perigeelaw01.FixedWaves'. -/
def fixedWavesCard : Claim7 := { stood := { row := fixedWavesRow, standIns := [], harness := (true, "56cc7def294544393f2ed5c16b428441a1bd2e82054a23bdf7bed335f8e348a5"), looks := false }, kinds := [], alts := [], laidByText := true, laidKinds := [.data], laidTests := true, laidLooks := .later }
def FixedWavesCardSaid : Prop := Claim7.holds Tryd.pinned (.plain (OpenSpec.ofChange fixedWavesSpec)) fixedWavesCard

/-- THE SECOND FORM's CARD OF 'perigeelaw01.FixedRatios'. -/
def fixedRatiosUptoCard : Claim7 := { stood := { row := fixedRatiosUptoRow, standIns := [], harness := (true, "56cc7def294544393f2ed5c16b428441a1bd2e82054a23bdf7bed335f8e348a5"), looks := false }, kinds := [], alts := [], laidByText := true, laidKinds := [.data], laidTests := true, laidLooks := .later }
def FixedRatiosUptoCardSaid : Prop := Claim7.holds Tryd.pinned (.plain (OpenSpec.upto fixedRatiosSpec)) fixedRatiosUptoCard

/-- THE SECOND FORM's CARD OF 'perigeelaw01.FixedRoots'. -/
def fixedRootsUptoCard : Claim7 := { stood := { row := fixedRootsUptoRow, standIns := [], harness := (true, "56cc7def294544393f2ed5c16b428441a1bd2e82054a23bdf7bed335f8e348a5"), looks := false }, kinds := [], alts := [], laidByText := true, laidKinds := [.data], laidTests := true, laidLooks := .later }
def FixedRootsUptoCardSaid : Prop := Claim7.holds Tryd.pinned (.plain (OpenSpec.upto fixedRootsSpec)) fixedRootsUptoCard

/-- THE SECOND FORM's CARD OF 'perigeelaw01.FixedDots'. -/
def fixedDotsUptoCard : Claim7 := { stood := { row := fixedDotsUptoRow, standIns := [], harness := (true, "56cc7def294544393f2ed5c16b428441a1bd2e82054a23bdf7bed335f8e348a5"), looks := false }, kinds := [], alts := [], laidByText := true, laidKinds := [.data], laidTests := true, laidLooks := .later }
def FixedDotsUptoCardSaid : Prop := Claim7.holds Tryd.pinned (.plain (OpenSpec.upto fixedDotsSpec)) fixedDotsUptoCard

/-- THE SECOND FORM's CARD OF 'perigeelaw01.FixedWaves'. -/
def fixedWavesUptoCard : Claim7 := { stood := { row := fixedWavesUptoRow, standIns := [], harness := (true, "56cc7def294544393f2ed5c16b428441a1bd2e82054a23bdf7bed335f8e348a5"), looks := false }, kinds := [], alts := [], laidByText := true, laidKinds := [.data], laidTests := true, laidLooks := .later }
def FixedWavesUptoCardSaid : Prop := Claim7.holds Tryd.pinned (.plain (OpenSpec.upto fixedWavesSpec)) fixedWavesUptoCard
end Rows
end Go.Proofs.YtlniojmjakmcjaaDoor
