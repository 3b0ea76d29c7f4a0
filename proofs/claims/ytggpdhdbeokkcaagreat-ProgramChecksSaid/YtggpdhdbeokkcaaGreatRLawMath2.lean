/- Plain mathematics of the order of fractions. -/
import Derived.Test.YtggpdhdbeokkcaaGreatRLawMath
namespace Go.Proofs.YtggpdhdbeokkcaaGreat
set_option linter.unusedVariables false

end Go.Proofs.YtggpdhdbeokkcaaGreat
