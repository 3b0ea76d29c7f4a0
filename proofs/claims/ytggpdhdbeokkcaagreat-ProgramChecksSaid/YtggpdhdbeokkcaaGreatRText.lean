/- Text of package ratio. -/
import Derived.Test.YtggpdhdbeokkcaaGreatRMake
import Derived.Lib.AppendIntMem
import Derived.Lib.ItoaLen
import Derived.Laws.Concat
namespace Go.Proofs.YtggpdhdbeokkcaaGreat
set_option linter.unusedVariables false
open Go.RowKit Go.Shelf

/-- The table of the powers of ten reads as it is laid, whatever is done from block B on. -/
abbrev Pow10 (B : Nat) (w : World) : Prop := Lib.TabBelow Tryz.prog B w "internal/strconv.uint64pow10" .u64 Lib.pow10Tab

end Go.Proofs.YtggpdhdbeokkcaaGreat
