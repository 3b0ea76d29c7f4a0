/- Plain mathematics of the order of fractions. -/
import Derived.Test.YtdbmlkkpffoadaaRLawMath
namespace Go.Proofs.Ytdbmlkkpffoadaa
set_option linter.unusedVariables false

end Go.Proofs.Ytdbmlkkpffoadaa
