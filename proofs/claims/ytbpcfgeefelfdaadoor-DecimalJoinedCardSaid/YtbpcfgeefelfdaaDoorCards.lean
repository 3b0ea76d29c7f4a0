/-
  DERIVED. GIVEN WITH THE SEED: THE CARDS: each row of YtbpcfgeefelfdaaDoorRows.lean that lists a variable, with what it lists TIED to the program's text (the seventh form; the later family's looks); each row that meets fmt, with fmt's text TOLD by the authors' own Lean function (tested against real Go, not proved from fmt's source: count such statements apart). THE CARD IS WHAT COUNTS. Prove the row's statement (the work); the ties are given (YtbpcfgeefelfdaaDoorTie.lean); close each card by the builder's one call (the guide's Derived/Test/ToyasCard.lean, 'card_holds'). Laid BY PROGRAM, IN A SANDBOX (cutbox-door.mjs). By AI agents, Wed Nov 11 2026. No macro, syntax, notation, axiom, sorry.
-/
import Derived.Test.YtbpcfgeefelfdaaDoorRows
import GoSem.ClaimSeven
namespace Go.Proofs.YtbpcfgeefelfdaaDoor
namespace Rows

/-- THE TIED CARD OF 'loftblocklaw01.DecimalJoined'. -/
def decimalJoinedCard : Claim7 := { stood := { row := decimalJoinedRow, standIns := [], harness := (true, "72c179a8ed7345488bfc6563ab9e6cb242162d49ae11e23bb2ca61f42d07a17c"), looks := false }, kinds := [], alts := [], laidByText := true, laidKinds := [.data, .pinned], laidTests := true, laidLooks := .later }
def DecimalJoinedCardSaid : Prop := Claim7.holds Tryd.pinned (.plain (OpenSpec.ofChange decimalJoinedSpec)) decimalJoinedCard

/-- THE SECOND FORM's CARD OF 'loftblocklaw01.DecimalJoined'. -/
def decimalJoinedUptoCard : Claim7 := { stood := { row := decimalJoinedUptoRow, standIns := [], harness := (true, "72c179a8ed7345488bfc6563ab9e6cb242162d49ae11e23bb2ca61f42d07a17c"), looks := false }, kinds := [], alts := [], laidByText := true, laidKinds := [.data, .pinned], laidTests := true, laidLooks := .later }
def DecimalJoinedUptoCardSaid : Prop := Claim7.holds Tryd.pinned (.plain (OpenSpec.upto decimalJoinedSpec)) decimalJoinedUptoCard
end Rows
end Go.Proofs.YtbpcfgeefelfdaaDoor
