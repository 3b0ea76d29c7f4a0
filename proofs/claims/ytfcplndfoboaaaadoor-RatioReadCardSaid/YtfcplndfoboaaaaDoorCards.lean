/-
  DERIVED. GIVEN WITH THE SEED: THE CARDS: each row of YtfcplndfoboaaaaDoorRows.lean that lists a variable, with what it lists TIED to the program's text (the seventh form; the later family's looks); each row that meets fmt, with fmt's text TOLD by the authors' own Lean function (tested against real Go, not proved from fmt's source: count such statements apart). THE CARD IS WHAT COUNTS. Prove the row's statement (the work); the ties are given (YtfcplndfoboaaaaDoorTie.lean); close each card by the builder's one call (the guide's Derived/Test/ToyasCard.lean, 'card_holds'). Laid BY PROGRAM, IN A SANDBOX (cutbox-door.mjs). By AI agents, Wed Nov 11 2026. No macro, syntax, notation, axiom, sorry.
-/
import Derived.Test.YtfcplndfoboaaaaDoorRows
import GoSem.ClaimSeven
namespace Go.Proofs.YtfcplndfoboaaaaDoor
namespace Rows

/-- THE TIED CARD OF 'loftblocklaw02.RatioTexts'. -/
def ratioTextsCard : Claim7 := { stood := { row := ratioTextsRow, standIns := [], harness := (true, "180d96d81d6e4bfb2f43305458fe71a21b0f803c567c3a526bf0b0e1ce335e06"), looks := true }, kinds := [], alts := [], laidByText := true, laidKinds := [.data, .data, .data, .sentinel, .sentinel], laidTests := true, laidLooks := .later }
def RatioTextsCardSaid : Prop := Claim7.holds Tryd.pinned (.plain (OpenSpec.ofChange ratioTextsSpec)) ratioTextsCard

/-- THE TIED CARD OF 'loftblocklaw02.RatioRead'. -/
def ratioReadCard : Claim7 := { stood := { row := ratioReadRow, standIns := [], harness := (true, "180d96d81d6e4bfb2f43305458fe71a21b0f803c567c3a526bf0b0e1ce335e06"), looks := true }, kinds := [], alts := [], laidByText := true, laidKinds := [.data, .data, .data, .sentinel, .sentinel], laidTests := true, laidLooks := .later }
def RatioReadCardSaid : Prop := Claim7.holds Tryd.pinned (.plain (OpenSpec.ofChange ratioReadSpec)) ratioReadCard

/-- THE SECOND FORM's CARD OF 'loftblocklaw02.RatioTexts'. -/
def ratioTextsUptoCard : Claim7 := { stood := { row := ratioTextsUptoRow, standIns := [], harness := (true, "180d96d81d6e4bfb2f43305458fe71a21b0f803c567c3a526bf0b0e1ce335e06"), looks := true }, kinds := [], alts := [], laidByText := true, laidKinds := [.data, .data, .data, .sentinel, .sentinel], laidTests := true, laidLooks := .later }
def RatioTextsUptoCardSaid : Prop := Claim7.holds Tryd.pinned (.plain (OpenSpec.upto ratioTextsSpec)) ratioTextsUptoCard

/-- THE SECOND FORM's CARD OF 'loftblocklaw02.RatioRead'. -/
def ratioReadUptoCard : Claim7 := { stood := { row := ratioReadUptoRow, standIns := [], harness := (true, "180d96d81d6e4bfb2f43305458fe71a21b0f803c567c3a526bf0b0e1ce335e06"), looks := true }, kinds := [], alts := [], laidByText := true, laidKinds := [.data, .data, .data, .sentinel, .sentinel], laidTests := true, laidLooks := .later }
def RatioReadUptoCardSaid : Prop := Claim7.holds Tryd.pinned (.plain (OpenSpec.upto ratioReadSpec)) ratioReadUptoCard
end Rows
end Go.Proofs.YtfcplndfoboaaaaDoor
