/- Plain mathematics: sums and products of fractions in lowest terms. Nothing here speaks of Go. -/
import Derived.Test.YtggpdhdbeokkcaaGreatRMath
namespace Go.Proofs.YtggpdhdbeokkcaaGreat
set_option linter.unusedVariables false

theorem gcd_mod (c m : Nat) : Nat.gcd c (m % c) = Nat.gcd c m := by rw [Nat.gcd_rec c m, Nat.gcd_comm]

theorem tdiv_exact {a l : Int} (hl : 0 < l) (h : l ∣ a) : l * a.tdiv l = a ∧ (a.tdiv l).natAbs = a.natAbs / l.natAbs := ⟨Int.mul_tdiv_cancel' h, Int.natAbs_tdiv _ _⟩

theorem mul_bd {a b : Int} (ha0 : -1152921504606846976 ≤ a) (ha1 : a ≤ 1152921504606846976) (hb0 : -1152921504606846976 ≤ b) (hb1 : b ≤ 1152921504606846976) : -1329227995784915872903807060280344576 ≤ a * b ∧ a * b ≤ 1329227995784915872903807060280344576 := by
 have h := Nat.mul_le_mul (show a.natAbs ≤ 1152921504606846976 by omega) (show b.natAbs ≤ 1152921504606846976 by omega)
 rw [← Int.natAbs_mul] at h
 omega

theorem plus_fit {an ad bn bd c N s : Int} (va : Vld an ad) (vb : Vld bn bd) (hc : c = (Int.gcd ad bd : Nat)) (hN : N = an * (bd / c) + bn * (ad / c)) (hs : s = (Nat.gcd c.natAbs N.natAbs : Nat)) :
  0 < c ∧ c ≤ ad ∧ c ≤ bd ∧ 0 < s ∧ s ≤ c ∧ 0 < ad / c ∧ ad / c ≤ ad ∧ 0 < bd / c ∧ bd / c ≤ bd ∧ 0 < bd / s ∧ bd / s ≤ bd ∧ fitT (N.tdiv s) (ad / c * (bd / s)) = redT (an * bd + bn * ad) (ad * bd) := by
 have a1 := va.d1
 have b1 := vb.d1
 obtain ⟨A, rfl⟩ := Int.eq_ofNat_of_zero_le (show 0 ≤ ad by omega)
 obtain ⟨B, rfl⟩ := Int.eq_ofNat_of_zero_le (show 0 ≤ bd by omega)
 have hcn : c = ((Nat.gcd A B : Nat) : Int) := by rw [hc]; rfl
 clear hc
 subst hcn
 rw [Int.natAbs_natCast] at hs
 subst hs
 have c0 : 0 < Nat.gcd A B := Nat.gcd_pos_of_pos_left _ (by omega)
 have k1 : Nat.gcd A B ∣ A := Nat.gcd_dvd_left _ _
 have k2 : Nat.gcd A B ∣ B := Nat.gcd_dvd_right _ _
 have co := plus_co (an := an.natAbs) (ad := A) (bn := bn.natAbs) (bd := B) (c := Nat.gcd A B) (N := N) (a := an) (b := bn) rfl rfl va.co vb.co rfl c0 (by rw [hN]; simp) rfl
 generalize hg : Nat.gcd A B = c at *
 have s0 : 0 < Nat.gcd c N.natAbs := Nat.gcd_pos_of_pos_left _ c0
 have k3 : Nat.gcd c N.natAbs ∣ c := Nat.gcd_dvd_left _ _
 have k4 : Nat.gcd c N.natAbs ∣ N.natAbs := Nat.gcd_dvd_right _ _
 generalize hs : Nat.gcd c N.natAbs = s at *
 obtain ⟨u, hu⟩ := k1
 obtain ⟨v, hv⟩ := k2
 obtain ⟨t, ht⟩ := k3
 have e1 : (A : Int) / (c : Int) = (u : Int) := by rw [hu, Int.natCast_mul, Int.mul_ediv_cancel_left _ (by omega)]
 have e2 : (B : Int) / (c : Int) = (v : Int) := by rw [hv, Int.natCast_mul, Int.mul_ediv_cancel_left _ (by omega)]
 have hBs : B = s * (t * v) := by rw [hv, ht, Nat.mul_assoc]
 have e3 : (B : Int) / (s : Int) = ((t * v : Nat) : Int) := by rw [hBs, Int.natCast_mul, Int.mul_ediv_cancel_left _ (by omega)]
 have u0 : 0 < u := Nat.pos_of_ne_zero (fun h => by subst h; simp at hu; omega)
 have v0 : 0 < v := Nat.pos_of_ne_zero (fun h => by subst h; simp at hv; omega)
 have t0 : 0 < t := Nat.pos_of_ne_zero (fun h => by subst h; simp at ht; omega)
 have tv0 : 0 < t * v := Nat.mul_pos t0 v0
 have l1 : c ≤ A := by rw [hu]; exact Nat.le_mul_of_pos_right _ u0
 have l2 : c ≤ B := by rw [hv]; exact Nat.le_mul_of_pos_right _ v0
 have l3 : s ≤ c := by rw [ht]; exact Nat.le_mul_of_pos_right _ t0
 have l4 : u ≤ A := by rw [hu]; exact Nat.le_mul_of_pos_left _ c0
 have l5 : v ≤ B := by rw [hv]; exact Nat.le_mul_of_pos_left _ c0
 have l6 : t * v ≤ B := by rw [hBs]; exact Nat.le_mul_of_pos_left _ s0
 rw [e1, e2, e3]
 rw [e1, e2] at hN
 obtain ⟨x1, x2⟩ := tdiv_exact (a := N) (l := (s : Int)) (by omega) (Int.ofNat_dvd_left.2 k4)
 rw [Int.natAbs_natCast] at x2
 refine ⟨by omega, by omega, by omega, by omega, by omega, by omega, by omega, by omega, by omega, by omega, by omega, ?_⟩
 refine (redT_of (Int.mul_pos (by omega) (by omega)) (Int.mul_pos (by omega) (by omega)) ?_ ?_).symm
 ·have e4 : A / c = u := by rw [hu]; exact Nat.mul_div_cancel_left _ c0
  have e5 : B / s = t * v := by rw [hBs]; exact Nat.mul_div_cancel_left _ s0
  rw [e4, e5, ← x2] at co
  have : Int.gcd (N.tdiv ↑s) ((u : Int) * ((t * v : Nat) : Int)) = Nat.gcd (N.tdiv ↑s).natAbs (u * (t * v)) := by
   unfold Int.gcd
   rw [Int.natAbs_mul, Int.natAbs_natCast, Int.natAbs_natCast]
  rw [this]; exact co
 ·have y1 : (an * (B : Int) + bn * (A : Int)) = (c : Int) * N := by
   rw [hN, hu, hv]
   simp only [Int.natCast_mul]
   grind
  have y2 : (A : Int) = (c : Int) * u := by rw [hu]; simp
  have y3 : (B : Int) = (s : Int) * ((t * v : Nat) : Int) := by rw [hBs]; simp
  rw [y1]
  generalize N.tdiv ↑s = n at *
  generalize ((t * v : Nat) : Int) = tv at *
  rw [← x1, y3, y2]
  grind

theorem times_fit {an ad bn bd l r : Int} (va : Vld an ad) (vb : Vld bn bd) (hl : l = (Int.gcd an bd : Nat)) (hr : r = (Int.gcd bn ad : Nat)) :
  0 < l ∧ l ≤ bd ∧ 0 < r ∧ r ≤ ad ∧ (an.tdiv l).natAbs ≤ an.natAbs ∧ (bn.tdiv r).natAbs ≤ bn.natAbs ∧ 0 < ad / r ∧ ad / r ≤ ad ∧ 0 < bd / l ∧ bd / l ≤ bd ∧ fitT (an.tdiv l * bn.tdiv r) (ad / r * (bd / l)) = redT (an * bn) (ad * bd) := by
 have a1 := va.d1
 have b1 := vb.d1
 have hl0 : 0 < Int.gcd an bd := Int.gcd_pos_of_ne_zero_right _ (by omega)
 have hr0 : 0 < Int.gcd bn ad := Int.gcd_pos_of_ne_zero_right _ (by omega)
 have l1 : l ∣ an := hl ▸ Int.gcd_dvd_left _ _
 have l2 : l ∣ bd := hl ▸ Int.gcd_dvd_right _ _
 have r1 : r ∣ bn := hr ▸ Int.gcd_dvd_left _ _
 have r2 : r ∣ ad := hr ▸ Int.gcd_dvd_right _ _
 have co := times_co (an := an.natAbs) (ad := ad.natAbs) (bn := bn.natAbs) (bd := bd.natAbs) (l := l.natAbs) (r := r.natAbs) va.co vb.co (by rw [hl]; rfl) (by rw [hr]; rfl) (by omega) (by omega)
 have l0 : 0 < l := by omega
 have r0 : 0 < r := by omega
 clear hl hr hl0 hr0
 obtain ⟨x1, x2⟩ := tdiv_exact l0 l1
 obtain ⟨y1, y2⟩ := tdiv_exact r0 r1
 have z1 := Int.mul_ediv_cancel' r2
 have z2 := Int.mul_ediv_cancel' l2
 have p1 : 0 < ad / r := by
  rcases Int.lt_or_le 0 (ad / r) with h | h
  ·exact h
  ·have := Int.mul_le_mul_of_nonneg_left h (Int.le_of_lt r0); rw [z1, Int.mul_zero] at this; omega
 have p2 : 0 < bd / l := by
  rcases Int.lt_or_le 0 (bd / l) with h | h
  ·exact h
  ·have := Int.mul_le_mul_of_nonneg_left h (Int.le_of_lt l0); rw [z2, Int.mul_zero] at this; omega
 have q1 : (ad / r).natAbs = ad.natAbs / r.natAbs := by have h := Int.natAbs_tdiv ad r; rw [Int.tdiv_eq_ediv_of_nonneg (by omega)] at h; exact h
 have q2 : (bd / l).natAbs = bd.natAbs / l.natAbs := by have h := Int.natAbs_tdiv bd l; rw [Int.tdiv_eq_ediv_of_nonneg (by omega)] at h; exact h
 refine ⟨l0, Int.le_of_dvd (by omega) l2, r0, Int.le_of_dvd (by omega) r2, by rw [x2]; exact Nat.div_le_self _ _, by rw [y2]; exact Nat.div_le_self _ _, p1, Int.ediv_le_self _ (by omega), p2, Int.ediv_le_self _ (by omega), ?_⟩
 refine (redT_of (Int.mul_pos (by omega) (by omega)) (Int.mul_pos p1 p2) ?_ ?_).symm
 ·unfold Int.gcd
  rw [Int.natAbs_mul, Int.natAbs_mul, x2, y2, q1, q2]
  exact co
 ·generalize an.tdiv l = n1 at *
  generalize bn.tdiv r = n2 at *
  generalize ad / r = d1 at *
  generalize bd / l = d2 at *
  rw [← x1, ← y1, ← z1, ← z2]
  grind

/-- A number over a number that is not 0. -/
theorem make_fit {num den : Int} {g : Nat} (h : den ≠ 0) (hg : g = Nat.gcd num.natAbs den.natAbs) : 0 < g ∧ g ≤ den.natAbs ∧
  fitT (if (num < 0 ∧ den < 0) ∨ (0 ≤ num ∧ 0 ≤ den) then ((num.natAbs / g : Nat) : Int) else -((num.natAbs / g : Nat) : Int)) ((den.natAbs / g : Nat) : Int) = redT (if den < 0 then -num else num) (den.natAbs : Int) := by
 have g0 : 0 < g := hg ▸ Nat.gcd_pos_of_pos_right _ (by omega)
 have k1 : g ∣ num.natAbs := hg ▸ Nat.gcd_dvd_left _ _
 have k2 : g ∣ den.natAbs := hg ▸ Nat.gcd_dvd_right _ _
 have co : Nat.Coprime (num.natAbs / g) (den.natAbs / g) := by rw [hg]; exact Nat.coprime_div_gcd_div_gcd (by omega)
 have x1 := Nat.mul_div_cancel' k1
 have x2 := Nat.mul_div_cancel' k2
 have le := Nat.le_of_dvd (by omega) k2
 generalize num.natAbs / g = n at *
 generalize den.natAbs / g = d at *
 have d0 : 0 < d := Nat.pos_of_ne_zero (fun h => by subst h; simp at x2; omega)
 refine ⟨g0, le, (redT_of (by omega) (by omega) ?_ ?_).symm⟩
 ·split
  ·exact co
  ·unfold Int.gcd; rw [Int.natAbs_neg]; exact co
 ·have y1 : (num.natAbs : Int) = (g : Int) * n := by rw [← x1]; simp
  have y2 : (den.natAbs : Int) = (g : Int) * d := by rw [← x2]; simp
  have e : (if den < 0 then -num else num) = if (num < 0 ∧ den < 0) ∨ (0 ≤ num ∧ 0 ≤ den) then (num.natAbs : Int) else -(num.natAbs : Int) := by
   split <;> split <;> omega
  rw [e, y2, y1]
  split <;> grind

end Go.Proofs.YtggpdhdbeokkcaaGreat
