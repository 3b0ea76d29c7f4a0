/-
  DERIVED. GIVEN WITH THE SEED: THE CARDS: each row of YtabpnkpedcgcpaaDoorRows.lean that lists a variable, with what it lists TIED to the program's text (the seventh form; the later family's looks); each row that meets fmt, with fmt's text TOLD by the authors' own Lean function (tested against real Go, not proved from fmt's source: count such statements apart). THE CARD IS WHAT COUNTS. Prove the row's statement (the work); the ties are given (YtabpnkpedcgcpaaDoorTie.lean); close each card by the builder's one call (the guide's Derived/Test/ToyasCard.lean, 'card_holds'). Laid BY PROGRAM, IN A SANDBOX (cutbox-door.mjs). By AI agents, Wed Nov 11 2026. No macro, syntax, notation, axiom, sorry.
-/
import Derived.Test.YtabpnkpedcgcpaaDoorRows
import GoSem.ClaimSeven
namespace Go.Proofs.YtabpnkpedcgcpaaDoor
namespace Rows

/-- THE TIED CARD OF 'loftblocklaw09.PointsLists'. -/
def pointsListsCard : Claim7 := { stood := { row := pointsListsRow, standIns := [], harness := (true, "34a6b376dc19a50a4715d86e79d81bd9839629c71d04a0a4af352d4ef4b5267d"), looks := false }, kinds := [], alts := [], laidByText := true, laidKinds := [.data], laidTests := true, laidLooks := .later }
def PointsListsCardSaid : Prop := Claim7.holds Tryd.pinned (.plain (OpenSpec.ofChange pointsListsSpec)) pointsListsCard

/-- THE TIED CARD OF 'loftblocklaw09.PointsTurns'. -/
def pointsTurnsCard : Claim7 := { stood := { row := pointsTurnsRow, standIns := [], harness := (true, "34a6b376dc19a50a4715d86e79d81bd9839629c71d04a0a4af352d4ef4b5267d"), looks := false }, kinds := [], alts := [], laidByText := true, laidKinds := [.data], laidTests := true, laidLooks := .later }
def PointsTurnsCardSaid : Prop := Claim7.holds Tryd.pinned (.plain (OpenSpec.ofChange pointsTurnsSpec)) pointsTurnsCard

/-- THE TIED CARD OF 'loftblocklaw09.PointsCovered'. -/
def pointsCoveredCard : Claim7 := { stood := { row := pointsCoveredRow, standIns := [], harness := (true, "34a6b376dc19a50a4715d86e79d81bd9839629c71d04a0a4af352d4ef4b5267d"), looks := false }, kinds := [], alts := [], laidByText := true, laidKinds := [.data], laidTests := true, laidLooks := .later }
def PointsCoveredCardSaid : Prop := Claim7.holds Tryd.pinned (.plain (OpenSpec.ofChange pointsCoveredSpec)) pointsCoveredCard

/-- THE TIED CARD OF 'loftblocklaw09.PointsFlat'. -/
def pointsFlatCard : Claim7 := { stood := { row := pointsFlatRow, standIns := [], harness := (true, "34a6b376dc19a50a4715d86e79d81bd9839629c71d04a0a4af352d4ef4b5267d"), looks := false }, kinds := [], alts := [], laidByText := true, laidKinds := [.data], laidTests := true, laidLooks := .later }
def PointsFlatCardSaid : Prop := Claim7.holds Tryd.pinned (.plain (OpenSpec.ofChange pointsFlatSpec)) pointsFlatCard

/-- THE SECOND FORM's CARD OF 'loftblocklaw09.PointsLists'. -/
def pointsListsUptoCard : Claim7 := { stood := { row := pointsListsUptoRow, standIns := [], harness := (true, "34a6b376dc19a50a4715d86e79d81bd9839629c71d04a0a4af352d4ef4b5267d"), looks := false }, kinds := [], alts := [], laidByText := true, laidKinds := [.data], laidTests := true, laidLooks := .later }
def PointsListsUptoCardSaid : Prop := Claim7.holds Tryd.pinned (.plain (OpenSpec.upto pointsListsSpec)) pointsListsUptoCard

/-- THE SECOND FORM's CARD OF 'loftblocklaw09.PointsTurns'. -/
def pointsTurnsUptoCard : Claim7 := { stood := { row := pointsTurnsUptoRow, standIns := [], harness := (true, "34a6b376dc19a50a4715d86e79d81bd9839629c71d04a0a4af352d4ef4b5267d"), looks := false }, kinds := [], alts := [], laidByText := true, laidKinds := [.data], laidTests := true, laidLooks := .later }
def PointsTurnsUptoCardSaid : Prop := Claim7.holds Tryd.pinned (.plain (OpenSpec.upto pointsTurnsSpec)) pointsTurnsUptoCard

/-- THE SECOND FORM's CARD OF 'loftblocklaw09.PointsCovered'. -/
def pointsCoveredUptoCard : Claim7 := { stood := { row := pointsCoveredUptoRow, standIns := [], harness := (true, "34a6b376dc19a50a4715d86e79d81bd9839629c71d04a0a4af352d4ef4b5267d"), looks := false }, kinds := [], alts := [], laidByText := true, laidKinds := [.data], laidTests := true, laidLooks := .later }
def PointsCoveredUptoCardSaid : Prop := Claim7.holds Tryd.pinned (.plain (OpenSpec.upto pointsCoveredSpec)) pointsCoveredUptoCard

/-- THE SECOND FORM's CARD OF 'loftblocklaw09.PointsFlat'. -/
def pointsFlatUptoCard : Claim7 := { stood := { row := pointsFlatUptoRow, standIns := [], harness := (true, "34a6b376dc19a50a4715d86e79d81bd9839629c71d04a0a4af352d4ef4b5267d"), looks := false }, kinds := [], alts := [], laidByText := true, laidKinds := [.data], laidTests := true, laidLooks := .later }
def PointsFlatUptoCardSaid : Prop := Claim7.holds Tryd.pinned (.plain (OpenSpec.upto pointsFlatSpec)) pointsFlatUptoCard
end Rows
end Go.Proofs.YtabpnkpedcgcpaaDoor
