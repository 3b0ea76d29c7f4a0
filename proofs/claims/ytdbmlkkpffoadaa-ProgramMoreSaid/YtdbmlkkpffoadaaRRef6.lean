/- The reference of layer 2: the greatest common divisor: the walk. -/
import Derived.Test.YtdbmlkkpffoadaaRRef5
namespace Go.Proofs.Ytdbmlkkpffoadaa
set_option linter.unusedVariables false
open Go.RowKit Go.Shelf

end Go.Proofs.Ytdbmlkkpffoadaa
