/- Layer 4: what two eliminations of one matrix share; sums of products are exact. -/
import Derived.Test.YtdbmlkkpffoadaaGreatLM
import Derived.Test.YtdbmlkkpffoadaaGreatRLawMath
namespace Go.Proofs.YtdbmlkkpffoadaaGreat
set_option linter.unusedVariables false

end Go.Proofs.YtdbmlkkpffoadaaGreat
