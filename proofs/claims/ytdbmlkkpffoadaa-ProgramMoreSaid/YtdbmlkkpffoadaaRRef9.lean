/- The reference of layer 2: Valid. -/
import Derived.Test.YtdbmlkkpffoadaaRRef7
namespace Go.Proofs.Ytdbmlkkpffoadaa
set_option linter.unusedVariables false
open Go.RowKit Go.Shelf

end Go.Proofs.Ytdbmlkkpffoadaa
