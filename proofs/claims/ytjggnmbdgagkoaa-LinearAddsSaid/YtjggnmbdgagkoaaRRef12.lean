/- The reference of layer 2: what Times and Over specify is what mulT and divT say. -/
import Derived.Test.YtjggnmbdgagkoaaRRef11
namespace Go.Proofs.Ytjggnmbdgagkoaa
set_option linter.unusedVariables false

theorem sign_mul (a b : Int) : (if (!(decide (a < 0) == decide (b < 0))) = true then -((a.natAbs : Int) * (b.natAbs : Int)) else (a.natAbs : Int) * (b.natAbs : Int)) = a * b := by
  rcases Int.lt_or_le a 0 with h1 | h1 <;> rcases Int.lt_or_le b 0 with h2 | h2
  · rw [if_neg (by simp [h1, h2]), show (a.natAbs : Int) = -a by omega, show (b.natAbs : Int) = -b by omega, Int.neg_mul_neg]
  · rw [if_pos (by simp [h1, show ¬ b < 0 by omega]), show (a.natAbs : Int) = -a by omega, show (b.natAbs : Int) = b by omega, Int.neg_mul, Int.neg_neg]
  · rw [if_pos (by simp [h2, show ¬ a < 0 by omega]), show (a.natAbs : Int) = a by omega, show (b.natAbs : Int) = -b by omega, Int.mul_neg, Int.neg_neg]
  · rw [if_neg (by simp [show ¬ a < 0 by omega, show ¬ b < 0 by omega]), show (a.natAbs : Int) = a by omega, show (b.natAbs : Int) = b by omega]

theorem mul_made {an ad bn bd : Int} (va : Vld an ad) (vb : Vld bn bd) : mulT an ad bn bd = madeT ((an.natAbs : Int) * (bn.natAbs : Int)) (!(decide (an < 0) == decide (bn < 0))) ((ad.natAbs : Int) * (bd.natAbs : Int)) := by
  unfold mulT
  rw [okT_yes (vB_yes va) (vB_yes vb)]
  unfold madeT
  have a1 := va.d1
  have b1 := vb.d1
  rw [show (ad.natAbs : Int) = ad by omega, show (bd.natAbs : Int) = bd by omega]
  have hp := Int.mul_pos (show 0 < ad by omega) (show 0 < bd by omega)
  rw [if_neg (by omega), sign_mul]

theorem div_made {an ad bn bd : Int} (va : Vld an ad) (vb : Vld bn bd) : divT an ad bn bd = madeT ((an.natAbs : Int) * (bd.natAbs : Int)) (!(decide (an < 0) == decide (bn < 0))) ((ad.natAbs : Int) * (bn.natAbs : Int)) := by
  unfold divT
  rw [okT_yes (vB_yes va) (vB_yes vb)]
  unfold madeT
  have a1 := va.d1
  have b1 := vb.d1
  rw [show (ad.natAbs : Int) = ad by omega, show (bd.natAbs : Int) = bd by omega]
  by_cases hz : bn = 0
  · subst hz
    rw [if_pos rfl, if_pos (by simp)]
  · rw [if_neg hz]
    rcases Int.lt_or_le bn 0 with h2 | h2
    · have hp := Int.mul_pos (show 0 < ad by omega) (show 0 < -bn by omega)
      rw [if_pos h2, show (bn.natAbs : Int) = -bn by omega, if_neg (by omega)]
      congr 1
      rcases Int.lt_or_le an 0 with h1 | h1
      · rw [if_neg (by simp [h1, h2]), show (an.natAbs : Int) = -an by omega, Int.mul_neg, Int.neg_mul]
      · rw [if_pos (by simp [h2, show ¬ an < 0 by omega]), show (an.natAbs : Int) = an by omega, Int.mul_neg]
    · have hp := Int.mul_pos (show 0 < ad by omega) (show 0 < bn by omega)
      rw [if_neg (show ¬ bn < 0 by omega), show (bn.natAbs : Int) = bn by omega, if_neg (by omega)]
      congr 1
      rcases Int.lt_or_le an 0 with h1 | h1
      · rw [if_pos (by simp [h1, show ¬ bn < 0 by omega]), show (an.natAbs : Int) = -an by omega, Int.neg_mul, Int.neg_neg]
      · rw [if_neg (by simp [show ¬ an < 0 by omega, show ¬ bn < 0 by omega]), show (an.natAbs : Int) = an by omega]

end Go.Proofs.Ytjggnmbdgagkoaa
