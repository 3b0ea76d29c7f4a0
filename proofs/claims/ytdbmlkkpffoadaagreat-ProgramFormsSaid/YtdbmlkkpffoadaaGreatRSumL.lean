/- Layer 2: lists of fractions, and their sums: what they come to, and the reference's All. -/
import Derived.Test.YtdbmlkkpffoadaaGreatROps
import Derived.Test.YtdbmlkkpffoadaaGreatRRef9
import Derived.Test.YtdbmlkkpffoadaaGreatRLawStore
namespace Go.Proofs.YtdbmlkkpffoadaaGreat
set_option linter.unusedVariables false
open Go.RowKit Go.Shelf

structure FrI (x : Int × Int) : Prop where
  n0 : -9223372036854775808 ≤ x.1
  n1 : x.1 ≤ 9223372036854775807
  d0 : -9223372036854775808 ≤ x.2
  d1 : x.2 ≤ 9223372036854775807
end Go.Proofs.YtdbmlkkpffoadaaGreat
