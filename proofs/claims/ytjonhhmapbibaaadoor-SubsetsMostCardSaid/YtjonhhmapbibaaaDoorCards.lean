/-
  DERIVED. GIVEN WITH THE SEED: THE CARDS: each row of YtjonhhmapbibaaaDoorRows.lean that lists a variable, with what it lists TIED to the program's text (the seventh form; the later family's looks); each row that meets fmt, with fmt's text TOLD by the authors' own Lean function (tested against real Go, not proved from fmt's source: count such statements apart). THE CARD IS WHAT COUNTS. Prove the row's statement (the work); the ties are given (YtjonhhmapbibaaaDoorTie.lean); close each card by the builder's one call (the guide's Derived/Test/ToyasCard.lean, 'card_holds'). Laid BY PROGRAM, IN A SANDBOX (cutbox-door.mjs). By AI agents, Wed Nov 11 2026. No macro, syntax, notation, axiom, sorry.
-/
import Derived.Test.YtjonhhmapbibaaaDoorRows
import GoSem.ClaimSeven
namespace Go.Proofs.YtjonhhmapbibaaaDoor
namespace Rows

/-- THE TIED CARD OF 'loftblocklaw07.SubsetsParts'. -/
def subsetsPartsCard : Claim7 := { stood := { row := subsetsPartsRow, standIns := [], harness := (true, "179250fde5e5ff4cf7996005eab5b1175de13f59c14ee6e69201d84719e87786"), looks := false }, kinds := [], alts := [], laidByText := true, laidKinds := [.data, .data], laidTests := true, laidLooks := .later }
def SubsetsPartsCardSaid : Prop := Claim7.holds Tryd.pinned (.plain (OpenSpec.ofChange subsetsPartsSpec)) subsetsPartsCard

/-- THE TIED CARD OF 'loftblocklaw07.SubsetsMost'. -/
def subsetsMostCard : Claim7 := { stood := { row := subsetsMostRow, standIns := [], harness := (true, "179250fde5e5ff4cf7996005eab5b1175de13f59c14ee6e69201d84719e87786"), looks := false }, kinds := [], alts := [], laidByText := true, laidKinds := [.data, .data], laidTests := true, laidLooks := .later }
def SubsetsMostCardSaid : Prop := Claim7.holds Tryd.pinned (.plain (OpenSpec.ofChange subsetsMostSpec)) subsetsMostCard

/-- THE SECOND FORM's CARD OF 'loftblocklaw07.SubsetsParts'. -/
def subsetsPartsUptoCard : Claim7 := { stood := { row := subsetsPartsUptoRow, standIns := [], harness := (true, "179250fde5e5ff4cf7996005eab5b1175de13f59c14ee6e69201d84719e87786"), looks := false }, kinds := [], alts := [], laidByText := true, laidKinds := [.data, .data], laidTests := true, laidLooks := .later }
def SubsetsPartsUptoCardSaid : Prop := Claim7.holds Tryd.pinned (.plain (OpenSpec.upto subsetsPartsSpec)) subsetsPartsUptoCard

/-- THE SECOND FORM's CARD OF 'loftblocklaw07.SubsetsMost'. -/
def subsetsMostUptoCard : Claim7 := { stood := { row := subsetsMostUptoRow, standIns := [], harness := (true, "179250fde5e5ff4cf7996005eab5b1175de13f59c14ee6e69201d84719e87786"), looks := false }, kinds := [], alts := [], laidByText := true, laidKinds := [.data, .data], laidTests := true, laidLooks := .later }
def SubsetsMostUptoCardSaid : Prop := Claim7.holds Tryd.pinned (.plain (OpenSpec.upto subsetsMostSpec)) subsetsMostUptoCard
end Rows
end Go.Proofs.YtjonhhmapbibaaaDoor
