/- Layer 3: products of spans, as numbers. -/
import Derived.Test.YtknbhpnhnhfbpaaS5
namespace Go.Proofs.Ytknbhpnhnhfbpaa
set_option linter.unusedVariables false

def inM (p : Int) : Prop := -1152921504606846976 ≤ p ∧ p ≤ 1152921504606846976
instance (p : Int) : Decidable (inM p) := by unfold inM; exact inferInstance
theorem qT_one (x y : Int) : qT x y 1 = if inM (x * y) then (x * y, x * y, true) else (0, 0, false) := by
  unfold qT qN qC
  simp only [show ¬ (1 : Int) < 0 by decide, if_false]
  generalize x * y = p
  rw [show (((1 : Int).natAbs : Nat) : Int) = 1 by decide, Int.ediv_one, Int.ediv_one, Int.neg_neg]
  by_cases h : inM p
  · rw [if_pos h, if_pos (by unfold inM at h; omega)]
  · rw [if_neg h, if_neg (by unfold inM at h; omega)]
theorem arS_yes {x y lo hi : Int} {r : List (Int × Int × Int)} (h : inM (x * y)) : arS ((x, y, 1) :: r) lo hi = arS r (min lo (x * y)) (max hi (x * y)) := by
  show (if (qT x y 1).2.2 = true then _ else _) = _
  rw [qT_one, if_pos h, if_pos rfl]
theorem arS_no {x y lo hi : Int} {r : List (Int × Int × Int)} (h : ¬ inM (x * y)) : arS ((x, y, 1) :: r) lo hi = (0, 0, 5) := by
  show (if (qT x y 1).2.2 = true then _ else _) = _
  rw [qT_one, if_neg h, if_neg (by simp)]
def mul4 (p q r s : Int) : Int × Int × Int := if inM p ∧ inM q ∧ inM r ∧ inM s then (min (min (min p q) r) s, max (max (max p q) r) s, 0) else (0, 0, 5)
theorem mulS_eq (al ah bl bh : Int) : mulS al ah bl bh = mul4 (al * bl) (al * bh) (ah * bl) (ah * bh) := by
  unfold mulS mul4
  by_cases hp : inM (al * bl)
  · rw [arS_yes hp]
    by_cases hq : inM (al * bh)
    · rw [arS_yes hq]
      by_cases hr : inM (ah * bl)
      · rw [arS_yes hr]
        by_cases hs : inM (ah * bh)
        · rw [arS_yes hs, if_pos ⟨hp, hq, hr, hs⟩]
          unfold inM at *
          rw [show min 1152921504606846976 (al * bl) = al * bl by omega, show max (-1152921504606846976) (al * bl) = al * bl by omega]
          rfl
        · rw [arS_no hs, if_neg (fun h => hs h.2.2.2)]
      · rw [arS_no hr, if_neg (fun h => hr h.2.2.1)]
    · rw [arS_no hq, if_neg (fun h => hq h.2.1)]
  · rw [arS_no hp, if_neg (fun h => hp h.1)]
theorem mul4_swap (p q r s : Int) : mul4 p q r s = mul4 p r q s := by
  unfold mul4
  by_cases h : inM p ∧ inM q ∧ inM r ∧ inM s
  · rw [if_pos h, if_pos ⟨h.1, h.2.2.1, h.2.1, h.2.2.2⟩, show min (min p q) r = min (min p r) q by omega, show max (max p q) r = max (max p r) q by omega]
  · rw [if_neg h, if_neg (fun g => h ⟨g.1, g.2.2.1, g.2.1, g.2.2.2⟩)]
theorem mulS_comm (al ah bl bh : Int) : mulS al ah bl bh = mulS bl bh al ah := by
  rw [mulS_eq, mulS_eq, mul4_swap, Int.mul_comm al bl, Int.mul_comm ah bl, Int.mul_comm al bh, Int.mul_comm ah bh]
theorem okS_swap (al ah bl bh : Int) (t : Int × Int × Int) : okS al ah bl bh t = okS bl bh al ah t := by
  unfold okS
  by_cases h : sV al ah = true ∧ sV bl bh = true
  · rw [if_pos h, if_pos ⟨h.2, h.1⟩]
  · rw [if_neg h, if_neg (fun g => h ⟨g.2, g.1⟩)]
theorem sMul_comm (al ah bl bh : Int) : sMul al ah bl bh = sMul bl bh al ah := by
  unfold sMul; rw [okS_swap, mulS_comm]
theorem sAdd_comm (al ah bl bh : Int) : sAdd al ah bl bh = sAdd bl bh al ah := by
  unfold sAdd; rw [okS_swap, Int.add_comm al, Int.add_comm ah]

end Go.Proofs.Ytknbhpnhnhfbpaa
