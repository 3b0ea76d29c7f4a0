/- The reference of layer 2: Make, Valid, Floor, Ceil. -/
import Derived.Test.YtfcplndfoboaaaaDoorRRef7
namespace Go.Proofs.YtfcplndfoboaaaaDoor
set_option linter.unusedVariables false
open Go.RowKit Go.Shelf

theorem made_make {num den : Int} (hz : ¬ den = 0) : makeT num den = madeT (num.natAbs : Int) (decide (num < 0) != decide (den < 0)) (den.natAbs : Int) := by
  unfold makeT madeT
  rw [if_neg hz, if_neg (show ¬ (den.natAbs : Int) = 0 by omega)]
  rcases Int.lt_or_le num 0 with h1 | h1 <;> rcases Int.lt_or_le den 0 with h2 | h2
  · simp only [h1, h2, decide_true]
    rw [show (num.natAbs : Int) = -num by omega]; rfl
  · simp only [h1, show ¬ den < 0 by omega, decide_true, decide_false]
    rw [show -(num.natAbs : Int) = num by omega]; rfl
  · simp only [h2, show ¬ num < 0 by omega, decide_true, decide_false]
    rw [show (num.natAbs : Int) = num by omega]; rfl
  · simp only [show ¬ num < 0 by omega, show ¬ den < 0 by omega, decide_false]
    rw [show (num.natAbs : Int) = num by omega]; rfl

end Go.Proofs.YtfcplndfoboaaaaDoor
