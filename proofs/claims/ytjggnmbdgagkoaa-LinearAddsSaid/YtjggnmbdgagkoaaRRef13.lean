/- The reference of layer 2: what Add, Sub and Cmp specify is what addT, subT and cmpT say. -/
import Derived.Test.YtjggnmbdgagkoaaRRef12
namespace Go.Proofs.Ytjggnmbdgagkoaa
set_option linter.unusedVariables false

def addR (an bn X Y D : Int) : Int × Int × Int := if decide (an < 0) = decide (bn < 0) then madeT (X + Y) (decide (an < 0)) D else if X < Y then madeT (Y - X) (decide (bn < 0)) D else madeT (X - Y) (decide (an < 0)) D
def cmpR (an bn X Y : Int) : Int := if an < 0 ∧ 0 ≤ bn then -1 else if 0 ≤ an ∧ bn < 0 then 1 else if X = Y then 0 else if decide (X < Y) = decide (0 ≤ an) then -1 else 1

theorem add_made {an ad bn bd : Int} (va : Vld an ad) (vb : Vld bn bd) : addT an ad bn bd = addR an bn ((an.natAbs : Int) * (bd.natAbs : Int)) ((bn.natAbs : Int) * (ad.natAbs : Int)) ((ad.natAbs : Int) * (bd.natAbs : Int)) := by
  unfold addT addR
  rw [okT_yes (vB_yes va) (vB_yes vb)]
  unfold madeT
  have a1 := va.d1
  have b1 := vb.d1
  rw [show (ad.natAbs : Int) = ad by omega, show (bd.natAbs : Int) = bd by omega]
  have hp := Int.mul_pos (show 0 < ad by omega) (show 0 < bd by omega)
  simp only [if_neg (show ¬ ad * bd = 0 by omega)]
  rcases Int.lt_or_le an 0 with h1 | h1 <;> rcases Int.lt_or_le bn 0 with h2 | h2
  · have e1 : decide (an < 0) = true := by simpa using h1
    have e2 : decide (bn < 0) = true := by simpa using h2
    rw [e1, e2, if_pos rfl, if_pos rfl, show (an.natAbs : Int) = -an by omega, show (bn.natAbs : Int) = -bn by omega]
    congr 1
    rw [Int.neg_mul, Int.neg_mul]; omega
  · have e1 : decide (an < 0) = true := by simpa using h1
    have e2 : decide (bn < 0) = false := by simpa using h2
    rw [e1, e2, if_neg (by simp), show (an.natAbs : Int) = -an by omega, show (bn.natAbs : Int) = bn by omega, Int.neg_mul]
    split
    · rw [if_neg (by simp)]; congr 1; omega
    · rw [if_pos rfl]; congr 1; omega
  · have e1 : decide (an < 0) = false := by simpa using h1
    have e2 : decide (bn < 0) = true := by simpa using h2
    rw [e1, e2, if_neg (by simp), show (an.natAbs : Int) = an by omega, show (bn.natAbs : Int) = -bn by omega, Int.neg_mul]
    split
    · rw [if_pos rfl]; congr 1; omega
    · rw [if_neg (by simp)]; congr 1; omega
  · have e1 : decide (an < 0) = false := by simpa using h1
    have e2 : decide (bn < 0) = false := by simpa using h2
    rw [e1, e2, if_pos rfl, if_neg (by simp), show (an.natAbs : Int) = an by omega, show (bn.natAbs : Int) = bn by omega]

theorem sub_add (an ad bn bd : Int) : subT an ad bn bd = addT an ad (-bn) bd := by
  unfold subT addT
  have e : vB (-bn) bd = vB bn bd := by
    rw [Bool.eq_iff_iff]
    exact ⟨fun h => by have := (vB_vld h).neg; rw [Int.neg_neg] at this; exact vB_yes this, fun h => vB_yes (vB_vld h).neg⟩
  unfold okT
  rw [e]

theorem cmp_made {an ad bn bd : Int} (va : Vld an ad) (vb : Vld bn bd) : sgn (an * bd + -bn * ad) = cmpR an bn ((an.natAbs : Int) * (bd.natAbs : Int)) ((bn.natAbs : Int) * (ad.natAbs : Int)) := by
  unfold cmpR
  have a1 := va.d1
  have b1 := vb.d1
  rw [show (ad.natAbs : Int) = ad by omega, show (bd.natAbs : Int) = bd by omega, Int.neg_mul]
  have s1 : ∀ z : Int, z < 0 → sgn z = -1 := fun z hz => by unfold sgn; grind
  have s2 : ∀ z : Int, 0 < z → sgn z = 1 := fun z hz => by unfold sgn; grind
  have s3 : sgn 0 = 0 := by unfold sgn; rfl
  rcases Int.lt_or_le an 0 with h1 | h1 <;> rcases Int.lt_or_le bn 0 with h2 | h2
  · have e1 : decide (0 ≤ an) = false := by simp; omega
    rw [if_neg (by omega), if_neg (by omega), e1, show (an.natAbs : Int) = -an by omega, show (bn.natAbs : Int) = -bn by omega, Int.neg_mul, Int.neg_mul]
    split
    · rw [show an * bd + -(bn * ad) = 0 by omega, s3]
    · split
      · rename_i h3 h4
        rw [s1 _ (by simp at h4; omega)]
      · rename_i h3 h4
        rw [s2 _ (by simp at h4; omega)]
  · rw [if_pos ⟨h1, h2⟩, s1]
    have := Int.mul_neg_of_neg_of_pos h1 (show 0 < bd by omega)
    have := Int.mul_nonneg h2 (show 0 ≤ ad by omega)
    omega
  · rw [if_neg (by omega), if_pos ⟨h1, h2⟩, s2]
    have := Int.mul_neg_of_neg_of_pos h2 (show 0 < ad by omega)
    have := Int.mul_nonneg h1 (show 0 ≤ bd by omega)
    omega
  · have e1 : decide (0 ≤ an) = true := by simpa using h1
    rw [if_neg (by omega), if_neg (by omega), e1, show (an.natAbs : Int) = an by omega, show (bn.natAbs : Int) = bn by omega]
    split
    · rw [show an * bd + -(bn * ad) = 0 by omega, s3]
    · split
      · rename_i h3 h4
        rw [s1 _ (by simp at h4; omega)]
      · rename_i h3 h4
        rw [s2 _ (by simp at h4; omega)]

end Go.Proofs.Ytjggnmbdgagkoaa
