/- Cmp, Floor, Ceil and Make of package ratio. -/
import Derived.Test.YtggpdhdbeokkcaaGreatROps
namespace Go.Proofs.YtggpdhdbeokkcaaGreat
set_option linter.unusedVariables false
open Go.RowKit Go.Shelf

def cmpT (an ad bn bd : Int) : Int × Int := if vB an ad = true ∧ vB bn bd = true then (sgn (an * bd + -bn * ad), 0) else (0, 1)
def makeT (num den : Int) : Int × Int × Int := if den = 0 then (0, 0, 16) else redT (if den < 0 then -num else num) (den.natAbs : Int)
theorem two {a b c d : Int} (h : (a, b) = (c, d)) : a = c ∧ b = d := by injection h with h1 h2; exact ⟨h1, h2⟩

end Go.Proofs.YtggpdhdbeokkcaaGreat
