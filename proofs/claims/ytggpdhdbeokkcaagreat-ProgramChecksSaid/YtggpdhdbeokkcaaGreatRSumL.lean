/- Layer 2: lists of fractions, and their sums: what they come to, and the reference's All. -/
import Derived.Test.YtggpdhdbeokkcaaGreatROps
import Derived.Test.YtggpdhdbeokkcaaGreatRRef9
import Derived.Test.YtggpdhdbeokkcaaGreatRLawStore
namespace Go.Proofs.YtggpdhdbeokkcaaGreat
set_option linter.unusedVariables false
open Go.RowKit Go.Shelf

structure FrI (x : Int × Int) : Prop where
 n0 : -9223372036854775808 ≤ x.1
 n1 : x.1 ≤ 9223372036854775807
 d0 : -9223372036854775808 ≤ x.2
 d1 : x.2 ≤ 9223372036854775807
end Go.Proofs.YtggpdhdbeokkcaaGreat
