/- The reference of layer 2: magnitudes of two words: order, sums, differences, halves, products. -/
import Derived.Test.YtdbmlkkpffoadaaRLawMath2
namespace Go.Proofs.Ytdbmlkkpffoadaa
set_option linter.unusedVariables false
open Go.RowKit Go.Shelf

end Go.Proofs.Ytdbmlkkpffoadaa
