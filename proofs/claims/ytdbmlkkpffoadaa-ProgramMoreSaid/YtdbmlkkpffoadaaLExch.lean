/- Layer 4: two rows are exchanged, one with the other sign. -/
import Derived.Test.YtdbmlkkpffoadaaLBase
import Derived.Test.YtdbmlkkpffoadaaREach
namespace Go.Proofs.Ytdbmlkkpffoadaa
set_option linter.unusedVariables false
open Go.RowKit Go.Shelf

end Go.Proofs.Ytdbmlkkpffoadaa
