/- Layer 3: products and quotients of numbers of spans lie between those of the ends. -/
import Derived.Test.YtknbhpnhnhfbpaaSMath
namespace Go.Proofs.Ytknbhpnhnhfbpaa
set_option linter.unusedVariables false

theorem lin_bd {c l t h : Int} (h1 : l ≤ t) (h2 : t ≤ h) : min (c * l) (c * h) ≤ c * t ∧ c * t ≤ max (c * l) (c * h) := by
  rcases Int.lt_or_le c 0 with hc | hc
  · have a := Int.mul_le_mul_of_nonpos_left (show c ≤ 0 by omega) h1
    have b := Int.mul_le_mul_of_nonpos_left (show c ≤ 0 by omega) h2
    omega
  · have a := Int.mul_le_mul_of_nonneg_left h1 hc
    have b := Int.mul_le_mul_of_nonneg_left h2 hc
    omega
theorem mul_bd4 {al ah bl bh x y : Int} (x1 : al ≤ x) (x2 : x ≤ ah) (y1 : bl ≤ y) (y2 : y ≤ bh) :
    min (min (min (al * bl) (al * bh)) (ah * bl)) (ah * bh) ≤ x * y ∧ x * y ≤ max (max (max (al * bl) (al * bh)) (ah * bl)) (ah * bh) := by
  have a := lin_bd (c := x) y1 y2
  have b := lin_bd (c := bl) x1 x2
  have c := lin_bd (c := bh) x1 x2
  rw [Int.mul_comm bl, Int.mul_comm bl, Int.mul_comm bl] at b
  rw [Int.mul_comm bh, Int.mul_comm bh, Int.mul_comm bh] at c
  omega
theorem mul4_ok {p q r s n d : Int} (h : mul4 p q r s = (n, d, 0)) : inM p ∧ inM q ∧ inM r ∧ inM s ∧ n = min (min (min p q) r) s ∧ d = max (max (max p q) r) s := by
  unfold mul4 at h
  split at h
  · rename_i g
    injection h with h1 h2
    injection h2 with h2 h3
    exact ⟨g.1, g.2.1, g.2.2.1, g.2.2.2, h1.symm, h2.symm⟩
  · injection h with h1 h2
    injection h2 with h2 h3
    exact absurd h3 (by decide)
theorem mul4_err {p q r s n d e : Int} (h : mul4 p q r s = (n, d, e)) : e = 0 ∨ e = 5 := by
  unfold mul4 at h
  split at h
  · injection h with h1 h2
    injection h2 with h2 h3
    exact .inl h3.symm
  · injection h with h1 h2
    injection h2 with h2 h3
    exact .inr h3.symm

/-- The quotient, rounded down, and up. -/
def fl (x c : Int) : Int := qN x 1 c / qC c
def ce (x c : Int) : Int := -(-qN x 1 c / qC c)
theorem fl_pos {x c : Int} (h : 0 < c) : fl x c = x / c := by
  unfold fl qN qC
  rw [if_neg (by omega), Int.mul_one, show ((c.natAbs : Nat) : Int) = c by omega]
theorem fl_neg {x c : Int} (h : c < 0) : fl x c = -x / -c := by
  unfold fl qN qC
  rw [if_pos h, Int.mul_one, show ((c.natAbs : Nat) : Int) = -c by omega]
theorem ce_fl (x c : Int) : ce x c = -fl (-x) c := by
  unfold ce fl qN
  rw [Int.mul_one, Int.mul_one]
  split <;> rfl
theorem ediv_den_nonneg {x b c : Int} (hx : 0 ≤ x) (hb : 0 < b) (h : b ≤ c) : x / c ≤ x / b := by
  rw [Int.le_ediv_iff_mul_le hb]
  have q0 : 0 ≤ x / c := Int.ediv_nonneg hx (by omega)
  have := Int.mul_le_mul_of_nonneg_left h q0
  have := Int.ediv_mul_le x (show c ≠ 0 by omega)
  omega
theorem ediv_den_neg {x b c : Int} (hx : x < 0) (hb : 0 < b) (h : b ≤ c) : x / b ≤ x / c := by
  rw [Int.le_ediv_iff_mul_le (by omega)]
  have q0 : x / b < 0 := Int.ediv_neg_of_neg_of_pos hx hb
  have := Int.mul_le_mul_of_nonpos_left (show x / b ≤ 0 by omega) h
  have := Int.ediv_mul_le x (show b ≠ 0 by omega)
  omega
theorem div_bd {al ah bl bh x y : Int} (x1 : al ≤ x) (x2 : x ≤ ah) (b0 : 0 < bl) (y1 : bl ≤ y) (y2 : y ≤ bh) :
    min (min (min (al / bl) (al / bh)) (ah / bl)) (ah / bh) ≤ x / y := by
  have e1 : al / y ≤ x / y := Int.ediv_le_ediv (by omega) x1
  have e2 : min (al / bl) (al / bh) ≤ al / y := by
    rcases Int.lt_or_le al 0 with h | h
    · have := ediv_den_neg h b0 y1; omega
    · have := ediv_den_nonneg h (show 0 < y by omega) y2; omega
  omega
theorem fl_bd {al ah bl bh x y : Int} (x1 : al ≤ x) (x2 : x ≤ ah) (hb : ¬ (bl ≤ 0 ∧ 0 ≤ bh)) (y1 : bl ≤ y) (y2 : y ≤ bh) :
    min (min (min (fl al bl) (fl al bh)) (fl ah bl)) (fl ah bh) ≤ fl x y := by
  by_cases c : 0 < bl
  · rw [fl_pos c, fl_pos (show 0 < bh by omega), fl_pos c, fl_pos (show 0 < bh by omega), fl_pos (show 0 < y by omega)]
    exact div_bd x1 x2 c y1 y2
  · rw [fl_neg (show bl < 0 by omega), fl_neg (show bh < 0 by omega), fl_neg (show bl < 0 by omega), fl_neg (show bh < 0 by omega), fl_neg (show y < 0 by omega)]
    have h := div_bd (al := -ah) (ah := -al) (bl := -bh) (bh := -bl) (x := -x) (y := -y) (by omega) (by omega) (by omega) (by omega) (by omega)
    omega
theorem ce_bd {al ah bl bh x y : Int} (x1 : al ≤ x) (x2 : x ≤ ah) (hb : ¬ (bl ≤ 0 ∧ 0 ≤ bh)) (y1 : bl ≤ y) (y2 : y ≤ bh) :
    ce x y ≤ max (max (max (ce al bl) (ce al bh)) (ce ah bl)) (ce ah bh) := by
  have h := fl_bd (al := -ah) (ah := -al) (x := -x) (y := y) (by omega) (by omega) hb y1 y2
  rw [ce_fl, ce_fl, ce_fl, ce_fl, ce_fl]
  omega
theorem fl_in {x c : Int} (x0 : -1152921504606846976 ≤ x) (x1 : x ≤ 1152921504606846976) (hc : c ≠ 0) : inM (fl x c) := by
  have key : ∀ y d : Int, -1152921504606846976 ≤ y → y ≤ 1152921504606846976 → 0 < d → inM (y / d) := by
    intro y d h0 h1 hd
    have a : -1152921504606846976 ≤ y / d := (Int.le_ediv_iff_mul_le hd).2 (by have := Int.mul_le_mul_of_nonneg_left (show 1 ≤ d by omega) (show (0:Int) ≤ 1152921504606846976 by omega); omega)
    have b : y / d < 1152921504606846977 := (Int.ediv_lt_iff_lt_mul hd).2 (by have := Int.mul_le_mul_of_nonneg_left (show 1 ≤ d by omega) (show (0:Int) ≤ 1152921504606846977 by omega); omega)
    exact ⟨a, by omega⟩
  rcases Int.lt_or_le c 0 with h | h
  · rw [fl_neg h]; exact key _ _ (by omega) (by omega) (by omega)
  · rw [fl_pos (show 0 < c by omega)]; exact key _ _ x0 x1 (by omega)
theorem ce_in {x c : Int} (x0 : -1152921504606846976 ≤ x) (x1 : x ≤ 1152921504606846976) (hc : c ≠ 0) : inM (ce x c) := by
  have h := fl_in (x := -x) (c := c) (by omega) (by omega) hc
  rw [ce_fl]
  unfold inM at *
  omega
theorem fl_le_ce {x c : Int} (hc : c ≠ 0) : fl x c ≤ ce x c := by
  unfold fl ce
  have hq : 0 < qC c := by unfold qC; omega
  generalize qN x 1 c = n
  generalize qC c = d at *
  have a := Int.ediv_mul_le n (show d ≠ 0 by omega)
  have b := Int.ediv_mul_le (-n) (show d ≠ 0 by omega)
  rcases Int.lt_or_le (-(-n / d)) (n / d) with h | h
  · have := Int.mul_le_mul_of_nonneg_right (show n / d + -n / d ≥ 1 by omega) (show 0 ≤ d by omega)
    rw [Int.add_mul] at this
    omega
  · exact h
theorem qT_div {x c : Int} (x0 : -1152921504606846976 ≤ x) (x1 : x ≤ 1152921504606846976) (hc : c ≠ 0) : qT x 1 c = (fl x c, ce x c, true) := by
  unfold qT
  rw [if_pos]
  · rfl
  · unfold qN qC
    rw [Int.mul_one]
    have : (1 : Int) ≤ (c.natAbs : Int) := by omega
    have := Int.mul_le_mul_of_nonneg_left this (show (0 : Int) ≤ 1152921504606846976 by omega)
    split <;> omega
theorem divS_eq {al ah bl bh : Int} (va : SVd al ah) (vb : SVd bl bh) (hb : ¬ (bl ≤ 0 ∧ 0 ≤ bh)) :
    divS al ah bl bh = (min (min (min (fl al bl) (fl al bh)) (fl ah bl)) (fl ah bh), max (max (max (ce al bl) (ce al bh)) (ce ah bl)) (ce ah bh), 0) := by
  obtain ⟨va1, va2, va3⟩ := va
  obtain ⟨vb1, vb2, vb3⟩ := vb
  unfold divS
  rw [if_neg hb]
  have n1 : bl ≠ 0 := by omega
  have n2 : bh ≠ 0 := by omega
  have f := fl_in (x := al) (c := bl) (by omega) (by omega) n1
  have g := ce_in (x := al) (c := bl) (by omega) (by omega) n1
  simp only [arS, qT_div (show -1152921504606846976 ≤ al by omega) (show al ≤ 1152921504606846976 by omega) n1, qT_div (show -1152921504606846976 ≤ al by omega) (show al ≤ 1152921504606846976 by omega) n2, qT_div (show -1152921504606846976 ≤ ah by omega) (show ah ≤ 1152921504606846976 by omega) n1, qT_div (show -1152921504606846976 ≤ ah by omega) (show ah ≤ 1152921504606846976 by omega) n2, if_true]
  unfold inM at f g
  rw [show min 1152921504606846976 (fl al bl) = fl al bl by omega, show max (-1152921504606846976) (ce al bl) = ce al bl by omega]

end Go.Proofs.Ytknbhpnhnhfbpaa
