/- The reference of layer 2: the product of two words; opposites, integers as fractions. -/
import Derived.Test.YtdbmlkkpffoadaaRRef1
namespace Go.Proofs.Ytdbmlkkpffoadaa
set_option linter.unusedVariables false
open Go.RowKit Go.Shelf

end Go.Proofs.Ytdbmlkkpffoadaa
