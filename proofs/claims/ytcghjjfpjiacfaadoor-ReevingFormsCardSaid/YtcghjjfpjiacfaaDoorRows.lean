/-
  NARROWER THAN 'FOR EVERY INPUT', by the rows' own cells (each row's printed sentence says how): PointsLists: laid · ReevingForms: laid · ReevingPulls: laid · ReevingAdds: laid · ReevingTurned: laid · ReevingSheaves: laid.
  DERIVED. THE GIVEN ROWS OF THIS SEAT. 6 by the template 'for every input the law returns true; each argument reads behind the call as it read before'; 0 by the template 'total and deterministic' (their statements: YtcghjjfpjiacfaaDoorTotals.lean).
  GIVEN WITH THE SEED: the statements are not yours to turn. If you find one false, say at which input.
  Laid BY PROGRAM, IN A SANDBOX (cutbox-rows.mjs): the forced cells as the released guide's own fill.sh prints them over the translation b2ce5792d5a4411e… (all of the seat's roots in one cut). By AI agents, Wed Nov 11 2026. No macro, syntax, notation, axiom, sorry.
-/
import Derived.Test.YtcghjjfpjiacfaaDoorChecked
import GoSem.Claim
import GoSem.ClaimJoined
import GoSem.ClaimMapViews
import Derived.JoinedTies
import Derived.KernelRfl
namespace Go.Proofs.YtcghjjfpjiacfaaDoor
/- THE CELL 'sum', in the pinned program and in every row, IS THE sha256 OF THE DUMP (.gsa) THAT YtcghjjfpjiacfaaDoorProg.lean LOADS. Nothing in Lean hashes anything: it is a label: what it is worth is what the hold of that sum in a sandbox is worth. -/
noncomputable def Tryd.pinned : Pinned := { name := "ytcghjjfpjiacfaadoor", sum := "b2ce5792d5a4411ef2c645c523ee2a55282fd1d82b794836179d4b1f13a1cc62", checked := Tryd.checked }
namespace Rows
def none {H : Type} : Left H := { results := [], args := [] }

/- WHAT THE LISTED PACKAGE-LEVEL VARIABLES READ AS WHEN THE CALL BEGINS. Each datum BY PROGRAM (the guide's laid-datum.mjs) off the statement by which the dump's own 'gosem.cut.vars' lays the variable. In a bare row this is a premise. The card (YtcghjjfpjiacfaaDoorCards.lean) ties it to the program's text. -/
def laid_loftblock_points_pairs {H : Type} : DataW H := .agg [.agg [.lit (.int .i64 1), .lit (.int .i64 2)], .agg [.lit (.int .i64 2), .lit (.int .i64 0)], .agg [.lit (.int .i64 0), .lit (.int .i64 1)]]
def laid_math_bits_deBruijn32tab {H : Type} : DataW H := .agg [.lit (.int .u8 0), .lit (.int .u8 1), .lit (.int .u8 28), .lit (.int .u8 2), .lit (.int .u8 29), .lit (.int .u8 14), .lit (.int .u8 24), .lit (.int .u8 3), .lit (.int .u8 30), .lit (.int .u8 22), .lit (.int .u8 20), .lit (.int .u8 15), .lit (.int .u8 25), .lit (.int .u8 17), .lit (.int .u8 4), .lit (.int .u8 8), .lit (.int .u8 31), .lit (.int .u8 27), .lit (.int .u8 13), .lit (.int .u8 23), .lit (.int .u8 21), .lit (.int .u8 19), .lit (.int .u8 16), .lit (.int .u8 7), .lit (.int .u8 26), .lit (.int .u8 12), .lit (.int .u8 18), .lit (.int .u8 6), .lit (.int .u8 11), .lit (.int .u8 5), .lit (.int .u8 10), .lit (.int .u8 9)]
def laid_math_bits_deBruijn64tab {H : Type} : DataW H := .agg [.lit (.int .u8 0), .lit (.int .u8 1), .lit (.int .u8 56), .lit (.int .u8 2), .lit (.int .u8 57), .lit (.int .u8 49), .lit (.int .u8 28), .lit (.int .u8 3), .lit (.int .u8 61), .lit (.int .u8 58), .lit (.int .u8 42), .lit (.int .u8 50), .lit (.int .u8 38), .lit (.int .u8 29), .lit (.int .u8 17), .lit (.int .u8 4), .lit (.int .u8 62), .lit (.int .u8 47), .lit (.int .u8 59), .lit (.int .u8 36), .lit (.int .u8 45), .lit (.int .u8 43), .lit (.int .u8 51), .lit (.int .u8 22), .lit (.int .u8 53), .lit (.int .u8 39), .lit (.int .u8 33), .lit (.int .u8 30), .lit (.int .u8 24), .lit (.int .u8 18), .lit (.int .u8 12), .lit (.int .u8 5), .lit (.int .u8 63), .lit (.int .u8 55), .lit (.int .u8 48), .lit (.int .u8 27), .lit (.int .u8 60), .lit (.int .u8 41), .lit (.int .u8 37), .lit (.int .u8 16), .lit (.int .u8 46), .lit (.int .u8 35), .lit (.int .u8 44), .lit (.int .u8 21), .lit (.int .u8 52), .lit (.int .u8 32), .lit (.int .u8 23), .lit (.int .u8 11), .lit (.int .u8 54), .lit (.int .u8 26), .lit (.int .u8 40), .lit (.int .u8 15), .lit (.int .u8 34), .lit (.int .u8 20), .lit (.int .u8 31), .lit (.int .u8 10), .lit (.int .u8 25), .lit (.int .u8 14), .lit (.int .u8 19), .lit (.int .u8 9), .lit (.int .u8 13), .lit (.int .u8 8), .lit (.int .u8 7), .lit (.int .u8 6)]
def laid_internal_strconv_uint64pow10 {H : Type} : DataW H := .agg [.lit (.int .u64 1), .lit (.int .u64 10), .lit (.int .u64 100), .lit (.int .u64 1000), .lit (.int .u64 10000), .lit (.int .u64 100000), .lit (.int .u64 1000000), .lit (.int .u64 10000000), .lit (.int .u64 100000000), .lit (.int .u64 1000000000), .lit (.int .u64 10000000000), .lit (.int .u64 100000000000), .lit (.int .u64 1000000000000), .lit (.int .u64 10000000000000), .lit (.int .u64 100000000000000), .lit (.int .u64 1000000000000000), .lit (.int .u64 10000000000000000), .lit (.int .u64 100000000000000000), .lit (.int .u64 1000000000000000000), .lit (.int .u64 10000000000000000000)]

/-- 'loftblocklaw09.PointsLists': WHATEVER THE INPUT: true; the input reads as it did. -/
def pointsListsSpec : ChangeSpec := { name := "pointsLists", fn := fun _ => fun
  | [d1, d2] => { results := [.lit (.bool true)], args := [d1, d2] }
  | _ => none }
def pointsListsRow : OpenClaim := { program := "ytcghjjfpjiacfaadoor", sum := "b2ce5792d5a4411ef2c645c523ee2a55282fd1d82b794836179d4b1f13a1cc62", func := "loftblock/loftblocklaw09.PointsLists", spec := "pointsLists", inPlace := ["math/bits.Add64"], unfollowed := true, recurses := true, named := ["loftblock/points.pairs"], apart := false, laid := [("loftblock/points.pairs", laid_loftblock_points_pairs)] }
def PointsListsSaid : Prop := pointsListsRow.holds Tryd.pinned (OpenSpec.ofChange pointsListsSpec)

/-- ITS FALSE NEIGHBOUR: 'it returns false'. Refute it at one input. -/
def pointsListsWrong : ChangeSpec := { name := "pointsLists", fn := fun _ => fun
  | [d1, d2] => { results := [.lit (.bool false)], args := [d1, d2] }
  | _ => none }
def PointsListsWrongFalsely : Prop := pointsListsRow.holds Tryd.pinned (OpenSpec.ofChange pointsListsWrong)

/-- 'loftblocklaw10.ReevingForms': WHATEVER THE INPUT: true; the input reads as it did. -/
def reevingFormsSpec : ChangeSpec := { name := "reevingForms", fn := fun _ => fun
  | [d1, d2] => { results := [.lit (.bool true)], args := [d1, d2] }
  | _ => none }
def reevingFormsRow : OpenClaim := { program := "ytcghjjfpjiacfaadoor", sum := "b2ce5792d5a4411ef2c645c523ee2a55282fd1d82b794836179d4b1f13a1cc62", func := "loftblock/loftblocklaw10.ReevingForms", spec := "reevingForms", inPlace := ["internal/bytealg.IndexByteString", "internal/abi.NoEscape", "internal/bytealg.MakeNoZero"], unfollowed := true, recurses := true, named := ["internal/strconv.uint64pow10", "math/bits.deBruijn32tab", "math/bits.deBruijn64tab"], apart := false, laid := [("math/bits.deBruijn32tab", laid_math_bits_deBruijn32tab), ("math/bits.deBruijn64tab", laid_math_bits_deBruijn64tab), ("internal/strconv.uint64pow10", laid_internal_strconv_uint64pow10)] }
def ReevingFormsSaid : Prop := reevingFormsRow.holds Tryd.pinned (OpenSpec.ofChange reevingFormsSpec)

/-- ITS FALSE NEIGHBOUR: 'it returns false'. Refute it at one input. -/
def reevingFormsWrong : ChangeSpec := { name := "reevingForms", fn := fun _ => fun
  | [d1, d2] => { results := [.lit (.bool false)], args := [d1, d2] }
  | _ => none }
def ReevingFormsWrongFalsely : Prop := reevingFormsRow.holds Tryd.pinned (OpenSpec.ofChange reevingFormsWrong)

/-- 'loftblocklaw10.ReevingPulls': WHATEVER THE INPUT: true; the input reads as it did. -/
def reevingPullsSpec : ChangeSpec := { name := "reevingPulls", fn := fun _ => fun
  | [d1, d2] => { results := [.lit (.bool true)], args := [d1, d2] }
  | _ => none }
def reevingPullsRow : OpenClaim := { program := "ytcghjjfpjiacfaadoor", sum := "b2ce5792d5a4411ef2c645c523ee2a55282fd1d82b794836179d4b1f13a1cc62", func := "loftblock/loftblocklaw10.ReevingPulls", spec := "reevingPulls", inPlace := ["internal/bytealg.IndexByteString", "internal/abi.NoEscape", "internal/bytealg.MakeNoZero"], unfollowed := true, recurses := true, named := ["internal/strconv.uint64pow10", "math/bits.deBruijn32tab", "math/bits.deBruijn64tab"], apart := false, laid := [("math/bits.deBruijn32tab", laid_math_bits_deBruijn32tab), ("math/bits.deBruijn64tab", laid_math_bits_deBruijn64tab), ("internal/strconv.uint64pow10", laid_internal_strconv_uint64pow10)] }
def ReevingPullsSaid : Prop := reevingPullsRow.holds Tryd.pinned (OpenSpec.ofChange reevingPullsSpec)

/-- ITS FALSE NEIGHBOUR: 'it returns false'. Refute it at one input. -/
def reevingPullsWrong : ChangeSpec := { name := "reevingPulls", fn := fun _ => fun
  | [d1, d2] => { results := [.lit (.bool false)], args := [d1, d2] }
  | _ => none }
def ReevingPullsWrongFalsely : Prop := reevingPullsRow.holds Tryd.pinned (OpenSpec.ofChange reevingPullsWrong)

/-- 'loftblocklaw10.ReevingAdds': WHATEVER THE INPUT: true; the input reads as it did. -/
def reevingAddsSpec : ChangeSpec := { name := "reevingAdds", fn := fun _ => fun
  | [d] => { results := [.lit (.bool true)], args := [d] }
  | _ => none }
def reevingAddsRow : OpenClaim := { program := "ytcghjjfpjiacfaadoor", sum := "b2ce5792d5a4411ef2c645c523ee2a55282fd1d82b794836179d4b1f13a1cc62", func := "loftblock/loftblocklaw10.ReevingAdds", spec := "reevingAdds", inPlace := ["internal/bytealg.IndexByteString", "internal/abi.NoEscape", "internal/bytealg.MakeNoZero"], unfollowed := true, recurses := true, named := ["internal/strconv.uint64pow10", "math/bits.deBruijn32tab", "math/bits.deBruijn64tab"], apart := false, laid := [("math/bits.deBruijn32tab", laid_math_bits_deBruijn32tab), ("math/bits.deBruijn64tab", laid_math_bits_deBruijn64tab), ("internal/strconv.uint64pow10", laid_internal_strconv_uint64pow10)] }
def ReevingAddsSaid : Prop := reevingAddsRow.holds Tryd.pinned (OpenSpec.ofChange reevingAddsSpec)

/-- ITS FALSE NEIGHBOUR: 'it returns false'. Refute it at one input. -/
def reevingAddsWrong : ChangeSpec := { name := "reevingAdds", fn := fun _ => fun
  | [d] => { results := [.lit (.bool false)], args := [d] }
  | _ => none }
def ReevingAddsWrongFalsely : Prop := reevingAddsRow.holds Tryd.pinned (OpenSpec.ofChange reevingAddsWrong)

/-- 'loftblocklaw10.ReevingTurned': WHATEVER THE INPUT: true; the input reads as it did. -/
def reevingTurnedSpec : ChangeSpec := { name := "reevingTurned", fn := fun _ => fun
  | [d] => { results := [.lit (.bool true)], args := [d] }
  | _ => none }
def reevingTurnedRow : OpenClaim := { program := "ytcghjjfpjiacfaadoor", sum := "b2ce5792d5a4411ef2c645c523ee2a55282fd1d82b794836179d4b1f13a1cc62", func := "loftblock/loftblocklaw10.ReevingTurned", spec := "reevingTurned", inPlace := ["internal/bytealg.IndexByteString", "internal/abi.NoEscape", "internal/bytealg.MakeNoZero"], unfollowed := true, recurses := true, named := ["internal/strconv.uint64pow10", "math/bits.deBruijn32tab", "math/bits.deBruijn64tab"], apart := false, laid := [("math/bits.deBruijn32tab", laid_math_bits_deBruijn32tab), ("math/bits.deBruijn64tab", laid_math_bits_deBruijn64tab), ("internal/strconv.uint64pow10", laid_internal_strconv_uint64pow10)] }
def ReevingTurnedSaid : Prop := reevingTurnedRow.holds Tryd.pinned (OpenSpec.ofChange reevingTurnedSpec)

/-- ITS FALSE NEIGHBOUR: 'it returns false'. Refute it at one input. -/
def reevingTurnedWrong : ChangeSpec := { name := "reevingTurned", fn := fun _ => fun
  | [d] => { results := [.lit (.bool false)], args := [d] }
  | _ => none }
def ReevingTurnedWrongFalsely : Prop := reevingTurnedRow.holds Tryd.pinned (OpenSpec.ofChange reevingTurnedWrong)

/-- 'loftblocklaw10.ReevingSheaves': WHATEVER THE INPUT: true; the input reads as it did. -/
def reevingSheavesSpec : ChangeSpec := { name := "reevingSheaves", fn := fun _ => fun
  | [d1, d2, d3, d4, d5] => { results := [.lit (.bool true)], args := [d1, d2, d3, d4, d5] }
  | _ => none }
def reevingSheavesRow : OpenClaim := { program := "ytcghjjfpjiacfaadoor", sum := "b2ce5792d5a4411ef2c645c523ee2a55282fd1d82b794836179d4b1f13a1cc62", func := "loftblock/loftblocklaw10.ReevingSheaves", spec := "reevingSheaves", inPlace := ["internal/bytealg.IndexByteString", "internal/abi.NoEscape", "internal/bytealg.MakeNoZero", "slices.overlaps[loftblock/api.Hold]"], unfollowed := true, recurses := true, named := ["internal/strconv.uint64pow10", "math/bits.deBruijn32tab", "math/bits.deBruijn64tab"], apart := false, laid := [("math/bits.deBruijn32tab", laid_math_bits_deBruijn32tab), ("math/bits.deBruijn64tab", laid_math_bits_deBruijn64tab), ("internal/strconv.uint64pow10", laid_internal_strconv_uint64pow10)] }
def ReevingSheavesSaid : Prop := reevingSheavesRow.holds Tryd.pinned (OpenSpec.ofChange reevingSheavesSpec)

/-- ITS FALSE NEIGHBOUR: 'it returns false'. Refute it at one input. -/
def reevingSheavesWrong : ChangeSpec := { name := "reevingSheaves", fn := fun _ => fun
  | [d1, d2, d3, d4, d5] => { results := [.lit (.bool false)], args := [d1, d2, d3, d4, d5] }
  | _ => none }
def ReevingSheavesWrongFalsely : Prop := reevingSheavesRow.holds Tryd.pinned (OpenSpec.ofChange reevingSheavesWrong)

/- THE SECOND FORM. 'bulk': how many values and letters a reading holds, each counted each time it is reached (what is shared counts as often as it is met; a slice's spare places count too). A statement '..UptoSaid' is the law's where the arguments, and the package variables that the reading takes, are together of bulk at most 1048576: NARROWER than '..Said'. Prove '..Said' where nothing that the law and all that it calls make is longer than what came in: it says more and counts as full. Else prove '..UptoSaid'. A law counts once. -/
mutual
def uptoBulk {H : Type} : DataW H → Nat
  | .lit (.string bytes) => bytes.length + 1
  | .lit _ => 1
  | .nil => 1
  | .ptr d => uptoBulk d + 1
  | .slice elems spare => uptoBulkAll elems + uptoBulkAll spare + 1
  | .agg parts => uptoBulkAll parts + 1
  | .iface _ d => uptoBulk d + 1
  | .map entries => uptoBulkEntries entries + 1
  | .held _ => 1
def uptoBulkAll {H : Type} : List (DataW H) → Nat
  | [] => 0
  | d :: r => uptoBulk d + uptoBulkAll r
def uptoBulkEntries {H : Type} : List (Lit × DataW H) → Nat
  | [] => 0
  | x :: r => uptoBulkEntry x + uptoBulkEntries r
def uptoBulkEntry {H : Type} : Lit × DataW H → Nat
  | (.string bytes, d) => bytes.length + uptoBulk d + 1
  | (_, d) => uptoBulk d + 1
 end
def uptoSmall : (H : Type) → List (DataW H) → Bool := fun _ ds => decide (uptoBulkAll ds ≤ 1048576)
def OpenSpec.upto (s : _root_.Go.ChangeSpec) : _root_.Go.OpenSpec := { _root_.Go.OpenSpec.ofChange s with cond := some uptoSmall }

/-- 'loftblocklaw09.PointsLists', WHERE WHAT IT READS IS OF BULK AT MOST 1048576: true; the input reads as it did. -/
def pointsListsUptoRow : OpenClaim := { program := "ytcghjjfpjiacfaadoor", sum := "b2ce5792d5a4411ef2c645c523ee2a55282fd1d82b794836179d4b1f13a1cc62", func := "loftblock/loftblocklaw09.PointsLists", spec := "pointsLists", inPlace := ["math/bits.Add64"], unfollowed := true, recurses := true, named := ["loftblock/points.pairs"], apart := false, laid := [("loftblock/points.pairs", laid_loftblock_points_pairs)], narrowed := true }
def PointsListsUptoSaid : Prop := pointsListsUptoRow.holds Tryd.pinned (OpenSpec.upto pointsListsSpec)

/-- 'loftblocklaw10.ReevingForms', WHERE WHAT IT READS IS OF BULK AT MOST 1048576: true; the input reads as it did. -/
def reevingFormsUptoRow : OpenClaim := { program := "ytcghjjfpjiacfaadoor", sum := "b2ce5792d5a4411ef2c645c523ee2a55282fd1d82b794836179d4b1f13a1cc62", func := "loftblock/loftblocklaw10.ReevingForms", spec := "reevingForms", inPlace := ["internal/bytealg.IndexByteString", "internal/abi.NoEscape", "internal/bytealg.MakeNoZero"], unfollowed := true, recurses := true, named := ["internal/strconv.uint64pow10", "math/bits.deBruijn32tab", "math/bits.deBruijn64tab"], apart := false, laid := [("math/bits.deBruijn32tab", laid_math_bits_deBruijn32tab), ("math/bits.deBruijn64tab", laid_math_bits_deBruijn64tab), ("internal/strconv.uint64pow10", laid_internal_strconv_uint64pow10)], narrowed := true }
def ReevingFormsUptoSaid : Prop := reevingFormsUptoRow.holds Tryd.pinned (OpenSpec.upto reevingFormsSpec)

/-- 'loftblocklaw10.ReevingPulls', WHERE WHAT IT READS IS OF BULK AT MOST 1048576: true; the input reads as it did. -/
def reevingPullsUptoRow : OpenClaim := { program := "ytcghjjfpjiacfaadoor", sum := "b2ce5792d5a4411ef2c645c523ee2a55282fd1d82b794836179d4b1f13a1cc62", func := "loftblock/loftblocklaw10.ReevingPulls", spec := "reevingPulls", inPlace := ["internal/bytealg.IndexByteString", "internal/abi.NoEscape", "internal/bytealg.MakeNoZero"], unfollowed := true, recurses := true, named := ["internal/strconv.uint64pow10", "math/bits.deBruijn32tab", "math/bits.deBruijn64tab"], apart := false, laid := [("math/bits.deBruijn32tab", laid_math_bits_deBruijn32tab), ("math/bits.deBruijn64tab", laid_math_bits_deBruijn64tab), ("internal/strconv.uint64pow10", laid_internal_strconv_uint64pow10)], narrowed := true }
def ReevingPullsUptoSaid : Prop := reevingPullsUptoRow.holds Tryd.pinned (OpenSpec.upto reevingPullsSpec)

/-- 'loftblocklaw10.ReevingAdds', WHERE WHAT IT READS IS OF BULK AT MOST 1048576: true; the input reads as it did. -/
def reevingAddsUptoRow : OpenClaim := { program := "ytcghjjfpjiacfaadoor", sum := "b2ce5792d5a4411ef2c645c523ee2a55282fd1d82b794836179d4b1f13a1cc62", func := "loftblock/loftblocklaw10.ReevingAdds", spec := "reevingAdds", inPlace := ["internal/bytealg.IndexByteString", "internal/abi.NoEscape", "internal/bytealg.MakeNoZero"], unfollowed := true, recurses := true, named := ["internal/strconv.uint64pow10", "math/bits.deBruijn32tab", "math/bits.deBruijn64tab"], apart := false, laid := [("math/bits.deBruijn32tab", laid_math_bits_deBruijn32tab), ("math/bits.deBruijn64tab", laid_math_bits_deBruijn64tab), ("internal/strconv.uint64pow10", laid_internal_strconv_uint64pow10)], narrowed := true }
def ReevingAddsUptoSaid : Prop := reevingAddsUptoRow.holds Tryd.pinned (OpenSpec.upto reevingAddsSpec)

/-- 'loftblocklaw10.ReevingTurned', WHERE WHAT IT READS IS OF BULK AT MOST 1048576: true; the input reads as it did. -/
def reevingTurnedUptoRow : OpenClaim := { program := "ytcghjjfpjiacfaadoor", sum := "b2ce5792d5a4411ef2c645c523ee2a55282fd1d82b794836179d4b1f13a1cc62", func := "loftblock/loftblocklaw10.ReevingTurned", spec := "reevingTurned", inPlace := ["internal/bytealg.IndexByteString", "internal/abi.NoEscape", "internal/bytealg.MakeNoZero"], unfollowed := true, recurses := true, named := ["internal/strconv.uint64pow10", "math/bits.deBruijn32tab", "math/bits.deBruijn64tab"], apart := false, laid := [("math/bits.deBruijn32tab", laid_math_bits_deBruijn32tab), ("math/bits.deBruijn64tab", laid_math_bits_deBruijn64tab), ("internal/strconv.uint64pow10", laid_internal_strconv_uint64pow10)], narrowed := true }
def ReevingTurnedUptoSaid : Prop := reevingTurnedUptoRow.holds Tryd.pinned (OpenSpec.upto reevingTurnedSpec)

/-- 'loftblocklaw10.ReevingSheaves', WHERE WHAT IT READS IS OF BULK AT MOST 1048576: true; the input reads as it did. -/
def reevingSheavesUptoRow : OpenClaim := { program := "ytcghjjfpjiacfaadoor", sum := "b2ce5792d5a4411ef2c645c523ee2a55282fd1d82b794836179d4b1f13a1cc62", func := "loftblock/loftblocklaw10.ReevingSheaves", spec := "reevingSheaves", inPlace := ["internal/bytealg.IndexByteString", "internal/abi.NoEscape", "internal/bytealg.MakeNoZero", "slices.overlaps[loftblock/api.Hold]"], unfollowed := true, recurses := true, named := ["internal/strconv.uint64pow10", "math/bits.deBruijn32tab", "math/bits.deBruijn64tab"], apart := false, laid := [("math/bits.deBruijn32tab", laid_math_bits_deBruijn32tab), ("math/bits.deBruijn64tab", laid_math_bits_deBruijn64tab), ("internal/strconv.uint64pow10", laid_internal_strconv_uint64pow10)], narrowed := true }
def ReevingSheavesUptoSaid : Prop := reevingSheavesUptoRow.holds Tryd.pinned (OpenSpec.upto reevingSheavesSpec)

end Rows
end Go.Proofs.YtcghjjfpjiacfaaDoor
