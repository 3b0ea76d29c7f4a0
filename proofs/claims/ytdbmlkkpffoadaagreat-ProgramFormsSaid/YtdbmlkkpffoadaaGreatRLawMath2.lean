/- Plain mathematics of the order of fractions. -/
import Derived.Test.YtdbmlkkpffoadaaGreatRLawMath
namespace Go.Proofs.YtdbmlkkpffoadaaGreat
set_option linter.unusedVariables false

end Go.Proofs.YtdbmlkkpffoadaaGreat
