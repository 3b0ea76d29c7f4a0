/- The leaves of package ratio: the absolute value, the greatest common divisor. -/
import Derived.Test.YtabpnkpedcgcpaaDoorRows
import Derived.Test.YtabpnkpedcgcpaaDoorRMath
import Derived.WalkKit
import Derived.WalkSpells
import Derived.WalkLawsBesides
import Derived.Deep.QuietTactic
import Derived.BigQuiet
import Derived.Lib.Hide
namespace Go.Proofs.YtabpnkpedcgcpaaDoor
set_option linter.unusedVariables false
open Go.RowKit

theorem r_int {k : IntKind} {a b : Int} (h : a = b) : Ending.returned (.int k a) = .returned (.int k b) := by rw [h]
theorem abs_bd {n : Int} (h0 : -9223372036854775808 ≤ n) (h1 : n ≤ 9223372036854775807) : (n.natAbs : Int) ≤ 9223372036854775808 := by omega

end Go.Proofs.YtabpnkpedcgcpaaDoor
