/- Layer 2: lists of fractions, and their sums: what they come to, and the reference's All. -/
import Derived.Test.YtdbmlkkpffoadaaROps
import Derived.Test.YtdbmlkkpffoadaaRRef9
import Derived.Test.YtdbmlkkpffoadaaRLawStore
namespace Go.Proofs.Ytdbmlkkpffoadaa
set_option linter.unusedVariables false
open Go.RowKit Go.Shelf

end Go.Proofs.Ytdbmlkkpffoadaa
