/- The reference of layer 2: the fraction with a value. -/
import Derived.Test.YtdbmlkkpffoadaaRRef4
import Derived.Test.YtdbmlkkpffoadaaRRef6
namespace Go.Proofs.Ytdbmlkkpffoadaa
set_option linter.unusedVariables false
open Go.RowKit Go.Shelf

end Go.Proofs.Ytdbmlkkpffoadaa
