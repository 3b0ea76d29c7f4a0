/- Layer 4: two rows are exchanged, one with the other sign. -/
import Derived.Test.YtdbmlkkpffoadaaGreatLBase
import Derived.Test.YtdbmlkkpffoadaaGreatREach
namespace Go.Proofs.YtdbmlkkpffoadaaGreat
set_option linter.unusedVariables false
open Go.RowKit Go.Shelf

end Go.Proofs.YtdbmlkkpffoadaaGreat
