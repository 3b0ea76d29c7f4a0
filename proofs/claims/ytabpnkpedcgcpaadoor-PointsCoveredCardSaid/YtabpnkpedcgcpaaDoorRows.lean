/-
  NARROWER THAN 'FOR EVERY INPUT', by the rows' own cells (each row's printed sentence says how): PointsLists: laid · PointsTurns: laid · PointsCovered: laid · PointsFlat: laid.
  DERIVED. THE GIVEN ROWS OF THIS SEAT. 4 by the template 'for every input the law returns true; each argument reads behind the call as it read before'; 0 by the template 'total and deterministic' (their statements: YtabpnkpedcgcpaaDoorTotals.lean).
  GIVEN WITH THE SEED: the statements are not yours to turn. If you find one false, say at which input.
  Laid BY PROGRAM, IN A SANDBOX (cutbox-rows.mjs): the forced cells as the released guide's own fill.sh prints them over the translation 88b31b398603e9a4… (all of the seat's roots in one cut). By AI agents, Wed Nov 11 2026. No macro, syntax, notation, axiom, sorry.
-/
import Derived.Test.YtabpnkpedcgcpaaDoorChecked
import GoSem.Claim
import GoSem.ClaimJoined
import GoSem.ClaimMapViews
import Derived.JoinedTies
import Derived.KernelRfl
namespace Go.Proofs.YtabpnkpedcgcpaaDoor
/- THE CELL 'sum', in the pinned program and in every row, IS THE sha256 OF THE DUMP (.gsa) THAT YtabpnkpedcgcpaaDoorProg.lean LOADS. Nothing in Lean hashes anything: it is a label: what it is worth is what the hold of that sum in a sandbox is worth. -/
noncomputable def Tryd.pinned : Pinned := { name := "ytabpnkpedcgcpaadoor", sum := "88b31b398603e9a44b22dc8cd34c971aaf15332cdcdc83c9fe5b1185ad02e240", checked := Tryd.checked }
namespace Rows
def none {H : Type} : Left H := { results := [], args := [] }

/- WHAT THE LISTED PACKAGE-LEVEL VARIABLES READ AS WHEN THE CALL BEGINS. Each datum BY PROGRAM (the guide's laid-datum.mjs) off the statement by which the dump's own 'gosem.cut.vars' lays the variable. In a bare row this is a premise. The card (YtabpnkpedcgcpaaDoorCards.lean) ties it to the program's text. -/
def laid_loftblock_points_pairs {H : Type} : DataW H := .agg [.agg [.lit (.int .i64 1), .lit (.int .i64 2)], .agg [.lit (.int .i64 2), .lit (.int .i64 0)], .agg [.lit (.int .i64 0), .lit (.int .i64 1)]]

/-- 'loftblocklaw09.PointsLists': WHATEVER THE INPUT: true; the input reads as it did. -/
def pointsListsSpec : ChangeSpec := { name := "pointsLists", fn := fun _ => fun
  | [d1, d2] => { results := [.lit (.bool true)], args := [d1, d2] }
  | _ => none }
def pointsListsRow : OpenClaim := { program := "ytabpnkpedcgcpaadoor", sum := "88b31b398603e9a44b22dc8cd34c971aaf15332cdcdc83c9fe5b1185ad02e240", func := "loftblock/loftblocklaw09.PointsLists", spec := "pointsLists", inPlace := ["math/bits.Add64"], unfollowed := true, recurses := true, named := ["loftblock/points.pairs"], apart := false, laid := [("loftblock/points.pairs", laid_loftblock_points_pairs)] }
def PointsListsSaid : Prop := pointsListsRow.holds Tryd.pinned (OpenSpec.ofChange pointsListsSpec)

/-- ITS FALSE NEIGHBOUR: 'it returns false'. Refute it at one input. -/
def pointsListsWrong : ChangeSpec := { name := "pointsLists", fn := fun _ => fun
  | [d1, d2] => { results := [.lit (.bool false)], args := [d1, d2] }
  | _ => none }
def PointsListsWrongFalsely : Prop := pointsListsRow.holds Tryd.pinned (OpenSpec.ofChange pointsListsWrong)

/-- 'loftblocklaw09.PointsTurns': WHATEVER THE INPUT: true; the input reads as it did. -/
def pointsTurnsSpec : ChangeSpec := { name := "pointsTurns", fn := fun _ => fun
  | [d1, d2, d3, d4, d5] => { results := [.lit (.bool true)], args := [d1, d2, d3, d4, d5] }
  | _ => none }
def pointsTurnsRow : OpenClaim := { program := "ytabpnkpedcgcpaadoor", sum := "88b31b398603e9a44b22dc8cd34c971aaf15332cdcdc83c9fe5b1185ad02e240", func := "loftblock/loftblocklaw09.PointsTurns", spec := "pointsTurns", inPlace := ["math/bits.Add64"], unfollowed := true, recurses := true, named := ["loftblock/points.pairs"], apart := false, laid := [("loftblock/points.pairs", laid_loftblock_points_pairs)] }
def PointsTurnsSaid : Prop := pointsTurnsRow.holds Tryd.pinned (OpenSpec.ofChange pointsTurnsSpec)

/-- ITS FALSE NEIGHBOUR: 'it returns false'. Refute it at one input. -/
def pointsTurnsWrong : ChangeSpec := { name := "pointsTurns", fn := fun _ => fun
  | [d1, d2, d3, d4, d5] => { results := [.lit (.bool false)], args := [d1, d2, d3, d4, d5] }
  | _ => none }
def PointsTurnsWrongFalsely : Prop := pointsTurnsRow.holds Tryd.pinned (OpenSpec.ofChange pointsTurnsWrong)

/-- 'loftblocklaw09.PointsCovered': WHATEVER THE INPUT: true; the input reads as it did. -/
def pointsCoveredSpec : ChangeSpec := { name := "pointsCovered", fn := fun _ => fun
  | [d1, d2, d3, d4, d5] => { results := [.lit (.bool true)], args := [d1, d2, d3, d4, d5] }
  | _ => none }
def pointsCoveredRow : OpenClaim := { program := "ytabpnkpedcgcpaadoor", sum := "88b31b398603e9a44b22dc8cd34c971aaf15332cdcdc83c9fe5b1185ad02e240", func := "loftblock/loftblocklaw09.PointsCovered", spec := "pointsCovered", unfollowed := true, recurses := true, named := ["loftblock/points.pairs"], apart := false, laid := [("loftblock/points.pairs", laid_loftblock_points_pairs)] }
def PointsCoveredSaid : Prop := pointsCoveredRow.holds Tryd.pinned (OpenSpec.ofChange pointsCoveredSpec)

/-- ITS FALSE NEIGHBOUR: 'it returns false'. Refute it at one input. -/
def pointsCoveredWrong : ChangeSpec := { name := "pointsCovered", fn := fun _ => fun
  | [d1, d2, d3, d4, d5] => { results := [.lit (.bool false)], args := [d1, d2, d3, d4, d5] }
  | _ => none }
def PointsCoveredWrongFalsely : Prop := pointsCoveredRow.holds Tryd.pinned (OpenSpec.ofChange pointsCoveredWrong)

/-- 'loftblocklaw09.PointsFlat': WHATEVER THE INPUT: true; the input reads as it did. -/
def pointsFlatSpec : ChangeSpec := { name := "pointsFlat", fn := fun _ => fun
  | [d1, d2, d3] => { results := [.lit (.bool true)], args := [d1, d2, d3] }
  | _ => none }
def pointsFlatRow : OpenClaim := { program := "ytabpnkpedcgcpaadoor", sum := "88b31b398603e9a44b22dc8cd34c971aaf15332cdcdc83c9fe5b1185ad02e240", func := "loftblock/loftblocklaw09.PointsFlat", spec := "pointsFlat", inPlace := ["math/bits.Add64"], unfollowed := true, recurses := true, named := ["loftblock/points.pairs"], apart := false, laid := [("loftblock/points.pairs", laid_loftblock_points_pairs)] }
def PointsFlatSaid : Prop := pointsFlatRow.holds Tryd.pinned (OpenSpec.ofChange pointsFlatSpec)

/-- ITS FALSE NEIGHBOUR: 'it returns false'. Refute it at one input. -/
def pointsFlatWrong : ChangeSpec := { name := "pointsFlat", fn := fun _ => fun
  | [d1, d2, d3] => { results := [.lit (.bool false)], args := [d1, d2, d3] }
  | _ => none }
def PointsFlatWrongFalsely : Prop := pointsFlatRow.holds Tryd.pinned (OpenSpec.ofChange pointsFlatWrong)

/- THE SECOND FORM. 'bulk': how many values and letters a reading holds, each counted each time it is reached (what is shared counts as often as it is met; a slice's spare places count too). A statement '..UptoSaid' is the law's where the arguments, and the package variables that the reading takes, are together of bulk at most 1048576: NARROWER than '..Said'. Prove '..Said' where nothing that the law and all that it calls make is longer than what came in: it says more and counts as full. Else prove '..UptoSaid'. A law counts once. -/
mutual
def uptoBulk {H : Type} : DataW H → Nat
  | .lit (.string bytes) => bytes.length + 1
  | .lit _ => 1
  | .nil => 1
  | .ptr d => uptoBulk d + 1
  | .slice elems spare => uptoBulkAll elems + uptoBulkAll spare + 1
  | .agg parts => uptoBulkAll parts + 1
  | .iface _ d => uptoBulk d + 1
  | .map entries => uptoBulkEntries entries + 1
  | .held _ => 1
def uptoBulkAll {H : Type} : List (DataW H) → Nat
  | [] => 0
  | d :: r => uptoBulk d + uptoBulkAll r
def uptoBulkEntries {H : Type} : List (Lit × DataW H) → Nat
  | [] => 0
  | x :: r => uptoBulkEntry x + uptoBulkEntries r
def uptoBulkEntry {H : Type} : Lit × DataW H → Nat
  | (.string bytes, d) => bytes.length + uptoBulk d + 1
  | (_, d) => uptoBulk d + 1
 end
def uptoSmall : (H : Type) → List (DataW H) → Bool := fun _ ds => decide (uptoBulkAll ds ≤ 1048576)
def OpenSpec.upto (s : _root_.Go.ChangeSpec) : _root_.Go.OpenSpec := { _root_.Go.OpenSpec.ofChange s with cond := some uptoSmall }

/-- 'loftblocklaw09.PointsLists', WHERE WHAT IT READS IS OF BULK AT MOST 1048576: true; the input reads as it did. -/
def pointsListsUptoRow : OpenClaim := { program := "ytabpnkpedcgcpaadoor", sum := "88b31b398603e9a44b22dc8cd34c971aaf15332cdcdc83c9fe5b1185ad02e240", func := "loftblock/loftblocklaw09.PointsLists", spec := "pointsLists", inPlace := ["math/bits.Add64"], unfollowed := true, recurses := true, named := ["loftblock/points.pairs"], apart := false, laid := [("loftblock/points.pairs", laid_loftblock_points_pairs)], narrowed := true }
def PointsListsUptoSaid : Prop := pointsListsUptoRow.holds Tryd.pinned (OpenSpec.upto pointsListsSpec)

/-- 'loftblocklaw09.PointsTurns', WHERE WHAT IT READS IS OF BULK AT MOST 1048576: true; the input reads as it did. -/
def pointsTurnsUptoRow : OpenClaim := { program := "ytabpnkpedcgcpaadoor", sum := "88b31b398603e9a44b22dc8cd34c971aaf15332cdcdc83c9fe5b1185ad02e240", func := "loftblock/loftblocklaw09.PointsTurns", spec := "pointsTurns", inPlace := ["math/bits.Add64"], unfollowed := true, recurses := true, named := ["loftblock/points.pairs"], apart := false, laid := [("loftblock/points.pairs", laid_loftblock_points_pairs)], narrowed := true }
def PointsTurnsUptoSaid : Prop := pointsTurnsUptoRow.holds Tryd.pinned (OpenSpec.upto pointsTurnsSpec)

/-- 'loftblocklaw09.PointsCovered', WHERE WHAT IT READS IS OF BULK AT MOST 1048576: true; the input reads as it did. -/
def pointsCoveredUptoRow : OpenClaim := { program := "ytabpnkpedcgcpaadoor", sum := "88b31b398603e9a44b22dc8cd34c971aaf15332cdcdc83c9fe5b1185ad02e240", func := "loftblock/loftblocklaw09.PointsCovered", spec := "pointsCovered", unfollowed := true, recurses := true, named := ["loftblock/points.pairs"], apart := false, laid := [("loftblock/points.pairs", laid_loftblock_points_pairs)], narrowed := true }
def PointsCoveredUptoSaid : Prop := pointsCoveredUptoRow.holds Tryd.pinned (OpenSpec.upto pointsCoveredSpec)

/-- 'loftblocklaw09.PointsFlat', WHERE WHAT IT READS IS OF BULK AT MOST 1048576: true; the input reads as it did. -/
def pointsFlatUptoRow : OpenClaim := { program := "ytabpnkpedcgcpaadoor", sum := "88b31b398603e9a44b22dc8cd34c971aaf15332cdcdc83c9fe5b1185ad02e240", func := "loftblock/loftblocklaw09.PointsFlat", spec := "pointsFlat", inPlace := ["math/bits.Add64"], unfollowed := true, recurses := true, named := ["loftblock/points.pairs"], apart := false, laid := [("loftblock/points.pairs", laid_loftblock_points_pairs)], narrowed := true }
def PointsFlatUptoSaid : Prop := pointsFlatUptoRow.holds Tryd.pinned (OpenSpec.upto pointsFlatSpec)

end Rows
end Go.Proofs.YtabpnkpedcgcpaaDoor
