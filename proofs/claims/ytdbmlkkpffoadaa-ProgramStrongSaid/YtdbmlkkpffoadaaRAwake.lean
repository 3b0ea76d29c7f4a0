/- The examples of the chapter hold: awake returns true. -/
import Derived.Test.YtdbmlkkpffoadaaRText
namespace Go.Proofs.Ytdbmlkkpffoadaa
set_option linter.unusedVariables false
open Go.RowKit Go.Shelf

theorem ex_add : addT 1 6 1 10 = (4, 15, 0) := by decide +kernel
theorem ex_mul : mulT 1152921504606846976 1 1 1152921504606846976 = (1, 1, 0) := by decide +kernel
theorem ex_make : makeT (-6) 4 = (-3, 2, 0) := by decide +kernel
theorem ex_valid : vB 4 15 = true := by decide +kernel
theorem ex_text : textT (-3) 2 = ([45, 51, 47, 50], 0) := by
  have h : vB (-3) 2 = true := by decide +kernel
  unfold textT txt
  rw [if_pos h, if_neg (by decide)]
  have h1 : Lib.itoa (-3) = [45, 51] := by
    unfold Lib.itoa
    rw [if_pos (by decide)]
    simp [Lib.decDigits_one]
  have h2 : Lib.itoa 2 = [50] := by
    unfold Lib.itoa
    rw [if_neg (by decide)]
    exact Lib.decDigits_one (i := 2) (by decide)
  rw [h1, h2]; rfl

end Go.Proofs.Ytdbmlkkpffoadaa
