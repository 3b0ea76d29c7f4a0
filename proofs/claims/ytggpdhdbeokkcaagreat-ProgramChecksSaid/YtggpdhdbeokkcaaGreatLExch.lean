/- Layer 4: two rows are exchanged, one with the other sign. -/
import Derived.Test.YtggpdhdbeokkcaaGreatLBase
import Derived.Test.YtggpdhdbeokkcaaGreatREach
namespace Go.Proofs.YtggpdhdbeokkcaaGreat
set_option linter.unusedVariables false
open Go.RowKit Go.Shelf

end Go.Proofs.YtggpdhdbeokkcaaGreat
