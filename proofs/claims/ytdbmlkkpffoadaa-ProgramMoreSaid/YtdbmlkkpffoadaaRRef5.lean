/- The reference of layer 2: the greatest common divisor of two magnitudes. -/
import Derived.Test.YtdbmlkkpffoadaaRRef3
namespace Go.Proofs.Ytdbmlkkpffoadaa
set_option linter.unusedVariables false
open Go.RowKit Go.Shelf

end Go.Proofs.Ytdbmlkkpffoadaa
