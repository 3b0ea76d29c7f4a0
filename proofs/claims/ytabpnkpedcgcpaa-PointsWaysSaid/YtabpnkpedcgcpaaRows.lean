/-
  No cell of these rows narrows 'for every input' (looked for: loops, veiled, ifaces, maps, wideKeys, modest, calm, conditions, laid).
  DERIVED. THE GIVEN ROWS OF THIS SEAT. 4 by the template 'for every input the law returns true; each argument reads behind the call as it read before'; 0 by the template 'total and deterministic' (their statements: YtabpnkpedcgcpaaTotals.lean).
  GIVEN WITH THE SEED: the statements are not yours to turn. If you find one false, say at which input.
  Laid BY PROGRAM, IN A SANDBOX (cutbox-rows.mjs): the forced cells as the released guide's own fill.sh prints them over the translation 188774559d10fa46… (all of the seat's roots in one cut). By AI agents, Wed Nov 11 2026. No macro, syntax, notation, axiom, sorry.
-/
import Derived.Test.YtabpnkpedcgcpaaChecked
import GoSem.Claim
import GoSem.ClaimJoined
import GoSem.ClaimMapViews
import Derived.JoinedTies
import Derived.KernelRfl
namespace Go.Proofs.Ytabpnkpedcgcpaa
/- THE CELL 'sum', in the pinned program and in every row, IS THE sha256 OF THE DUMP (.gsa) THAT YtabpnkpedcgcpaaProg.lean LOADS. Nothing in Lean hashes anything: it is a label: what it is worth is what the hold of that sum in a sandbox is worth. -/
noncomputable def Try.pinned : Pinned := { name := "ytabpnkpedcgcpaa", sum := "188774559d10fa46bc51752210a6a552b9107552d3abd13d80a9918ca2e0dc5f", checked := Try.checked }
namespace Rows
def none {H : Type} : Left H := { results := [], args := [] }

/-- 'loftblocklaw08.QuadraticValues': WHATEVER THE INPUT: true; the input reads as it did. -/
def quadraticValuesSpec : ChangeSpec := { name := "quadraticValues", fn := fun _ => fun
  | [d1, d2] => { results := [.lit (.bool true)], args := [d1, d2] }
  | _ => none }
def quadraticValuesRow : OpenClaim := { program := "ytabpnkpedcgcpaa", sum := "188774559d10fa46bc51752210a6a552b9107552d3abd13d80a9918ca2e0dc5f", func := "loftblock/loftblocklaw08.QuadraticValues", spec := "quadraticValues", inPlace := ["math/bits.Sub64", "math/bits.Add64"], unfollowed := true, recurses := true, named := ["math/bits.divideError", "math/bits.overflowError"], apart := false }
def QuadraticValuesSaid : Prop := quadraticValuesRow.holds Try.pinned (OpenSpec.ofChange quadraticValuesSpec)

/-- ITS FALSE NEIGHBOUR: 'it returns false'. Refute it at one input. -/
def quadraticValuesWrong : ChangeSpec := { name := "quadraticValues", fn := fun _ => fun
  | [d1, d2] => { results := [.lit (.bool false)], args := [d1, d2] }
  | _ => none }
def QuadraticValuesWrongFalsely : Prop := quadraticValuesRow.holds Try.pinned (OpenSpec.ofChange quadraticValuesWrong)

/-- 'loftblocklaw09.PointsLengths': WHATEVER THE INPUT: true; the input reads as it did. -/
def pointsLengthsSpec : ChangeSpec := { name := "pointsLengths", fn := fun _ => fun
  | [d1, d2, d3] => { results := [.lit (.bool true)], args := [d1, d2, d3] }
  | _ => none }
def pointsLengthsRow : OpenClaim := { program := "ytabpnkpedcgcpaa", sum := "188774559d10fa46bc51752210a6a552b9107552d3abd13d80a9918ca2e0dc5f", func := "loftblock/loftblocklaw09.PointsLengths", spec := "pointsLengths", unfollowed := true, recurses := true, apart := false }
def PointsLengthsSaid : Prop := pointsLengthsRow.holds Try.pinned (OpenSpec.ofChange pointsLengthsSpec)

/-- ITS FALSE NEIGHBOUR: 'it returns false'. Refute it at one input. -/
def pointsLengthsWrong : ChangeSpec := { name := "pointsLengths", fn := fun _ => fun
  | [d1, d2, d3] => { results := [.lit (.bool false)], args := [d1, d2, d3] }
  | _ => none }
def PointsLengthsWrongFalsely : Prop := pointsLengthsRow.holds Try.pinned (OpenSpec.ofChange pointsLengthsWrong)

/-- 'loftblocklaw09.PointsBetween': WHATEVER THE INPUT: true; the input reads as it did. -/
def pointsBetweenSpec : ChangeSpec := { name := "pointsBetween", fn := fun _ => fun
  | [d1, d2, d3, d4, d5] => { results := [.lit (.bool true)], args := [d1, d2, d3, d4, d5] }
  | _ => none }
def pointsBetweenRow : OpenClaim := { program := "ytabpnkpedcgcpaa", sum := "188774559d10fa46bc51752210a6a552b9107552d3abd13d80a9918ca2e0dc5f", func := "loftblock/loftblocklaw09.PointsBetween", spec := "pointsBetween", unfollowed := true, recurses := true, apart := false }
def PointsBetweenSaid : Prop := pointsBetweenRow.holds Try.pinned (OpenSpec.ofChange pointsBetweenSpec)

/-- ITS FALSE NEIGHBOUR: 'it returns false'. Refute it at one input. -/
def pointsBetweenWrong : ChangeSpec := { name := "pointsBetween", fn := fun _ => fun
  | [d1, d2, d3, d4, d5] => { results := [.lit (.bool false)], args := [d1, d2, d3, d4, d5] }
  | _ => none }
def PointsBetweenWrongFalsely : Prop := pointsBetweenRow.holds Try.pinned (OpenSpec.ofChange pointsBetweenWrong)

/-- 'loftblocklaw09.PointsWays': WHATEVER THE INPUT: true; the input reads as it did. -/
def pointsWaysSpec : ChangeSpec := { name := "pointsWays", fn := fun _ => fun
  | [d1, d2, d3] => { results := [.lit (.bool true)], args := [d1, d2, d3] }
  | _ => none }
def pointsWaysRow : OpenClaim := { program := "ytabpnkpedcgcpaa", sum := "188774559d10fa46bc51752210a6a552b9107552d3abd13d80a9918ca2e0dc5f", func := "loftblock/loftblocklaw09.PointsWays", spec := "pointsWays", unfollowed := true, recurses := true, apart := false }
def PointsWaysSaid : Prop := pointsWaysRow.holds Try.pinned (OpenSpec.ofChange pointsWaysSpec)

/-- ITS FALSE NEIGHBOUR: 'it returns false'. Refute it at one input. -/
def pointsWaysWrong : ChangeSpec := { name := "pointsWays", fn := fun _ => fun
  | [d1, d2, d3] => { results := [.lit (.bool false)], args := [d1, d2, d3] }
  | _ => none }
def PointsWaysWrongFalsely : Prop := pointsWaysRow.holds Try.pinned (OpenSpec.ofChange pointsWaysWrong)

/- THE SECOND FORM. 'bulk': how many values and letters a reading holds, each counted each time it is reached (what is shared counts as often as it is met; a slice's spare places count too). A statement '..UptoSaid' is the law's where the arguments, and the package variables that the reading takes, are together of bulk at most 1048576: NARROWER than '..Said'. Prove '..Said' where nothing that the law and all that it calls make is longer than what came in: it says more and counts as full. Else prove '..UptoSaid'. A law counts once. -/
mutual
def uptoBulk {H : Type} : DataW H → Nat
  | .lit (.string bytes) => bytes.length + 1
  | .lit _ => 1
  | .nil => 1
  | .ptr d => uptoBulk d + 1
  | .slice elems spare => uptoBulkAll elems + uptoBulkAll spare + 1
  | .agg parts => uptoBulkAll parts + 1
  | .iface _ d => uptoBulk d + 1
  | .map entries => uptoBulkEntries entries + 1
  | .held _ => 1
def uptoBulkAll {H : Type} : List (DataW H) → Nat
  | [] => 0
  | d :: r => uptoBulk d + uptoBulkAll r
def uptoBulkEntries {H : Type} : List (Lit × DataW H) → Nat
  | [] => 0
  | x :: r => uptoBulkEntry x + uptoBulkEntries r
def uptoBulkEntry {H : Type} : Lit × DataW H → Nat
  | (.string bytes, d) => bytes.length + uptoBulk d + 1
  | (_, d) => uptoBulk d + 1
 end
def uptoSmall : (H : Type) → List (DataW H) → Bool := fun _ ds => decide (uptoBulkAll ds ≤ 1048576)
def OpenSpec.upto (s : _root_.Go.ChangeSpec) : _root_.Go.OpenSpec := { _root_.Go.OpenSpec.ofChange s with cond := some uptoSmall }

/-- 'loftblocklaw08.QuadraticValues', WHERE WHAT IT READS IS OF BULK AT MOST 1048576: true; the input reads as it did. -/
def quadraticValuesUptoRow : OpenClaim := { program := "ytabpnkpedcgcpaa", sum := "188774559d10fa46bc51752210a6a552b9107552d3abd13d80a9918ca2e0dc5f", func := "loftblock/loftblocklaw08.QuadraticValues", spec := "quadraticValues", inPlace := ["math/bits.Sub64", "math/bits.Add64"], unfollowed := true, recurses := true, named := ["math/bits.divideError", "math/bits.overflowError"], apart := false, narrowed := true }
def QuadraticValuesUptoSaid : Prop := quadraticValuesUptoRow.holds Try.pinned (OpenSpec.upto quadraticValuesSpec)

/-- 'loftblocklaw09.PointsLengths', WHERE WHAT IT READS IS OF BULK AT MOST 1048576: true; the input reads as it did. -/
def pointsLengthsUptoRow : OpenClaim := { program := "ytabpnkpedcgcpaa", sum := "188774559d10fa46bc51752210a6a552b9107552d3abd13d80a9918ca2e0dc5f", func := "loftblock/loftblocklaw09.PointsLengths", spec := "pointsLengths", unfollowed := true, recurses := true, apart := false, narrowed := true }
def PointsLengthsUptoSaid : Prop := pointsLengthsUptoRow.holds Try.pinned (OpenSpec.upto pointsLengthsSpec)

/-- 'loftblocklaw09.PointsBetween', WHERE WHAT IT READS IS OF BULK AT MOST 1048576: true; the input reads as it did. -/
def pointsBetweenUptoRow : OpenClaim := { program := "ytabpnkpedcgcpaa", sum := "188774559d10fa46bc51752210a6a552b9107552d3abd13d80a9918ca2e0dc5f", func := "loftblock/loftblocklaw09.PointsBetween", spec := "pointsBetween", unfollowed := true, recurses := true, apart := false, narrowed := true }
def PointsBetweenUptoSaid : Prop := pointsBetweenUptoRow.holds Try.pinned (OpenSpec.upto pointsBetweenSpec)

/-- 'loftblocklaw09.PointsWays', WHERE WHAT IT READS IS OF BULK AT MOST 1048576: true; the input reads as it did. -/
def pointsWaysUptoRow : OpenClaim := { program := "ytabpnkpedcgcpaa", sum := "188774559d10fa46bc51752210a6a552b9107552d3abd13d80a9918ca2e0dc5f", func := "loftblock/loftblocklaw09.PointsWays", spec := "pointsWays", unfollowed := true, recurses := true, apart := false, narrowed := true }
def PointsWaysUptoSaid : Prop := pointsWaysUptoRow.holds Try.pinned (OpenSpec.upto pointsWaysSpec)

end Rows
end Go.Proofs.Ytabpnkpedcgcpaa
