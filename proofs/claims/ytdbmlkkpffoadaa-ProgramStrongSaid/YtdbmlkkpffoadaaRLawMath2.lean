/- Plain mathematics of the order of fractions. -/
import Derived.Test.YtdbmlkkpffoadaaRLawMath
namespace Go.Proofs.Ytdbmlkkpffoadaa
set_option linter.unusedVariables false

theorem sgn_zero_iff {z : Int} : sgn z = 0 ↔ z = 0 := by unfold sgn; split <;> (try split) <;> omega
theorem sgn_pos_iff {z : Int} : 0 < sgn z ↔ 0 < z := by unfold sgn; split <;> (try split) <;> omega
theorem sgn_neg_iff {z : Int} : sgn z < 0 ↔ z < 0 := by unfold sgn; split <;> (try split) <;> omega
theorem sgn_le {z : Int} : sgn z ≤ 0 ↔ z ≤ 0 := by unfold sgn; split <;> (try split) <;> omega
theorem sgn_opp (z : Int) : sgn (-z) = -sgn z := by unfold sgn; split <;> (try split) <;> (try split) <;> (try split) <;> omega
theorem sgn_bd (z : Int) : -1 ≤ sgn z ∧ sgn z ≤ 1 := by unfold sgn; split <;> (try split) <;> omega
theorem sgn_eq {u v : Int} (h1 : 0 < u ↔ 0 < v) (h2 : u < 0 ↔ v < 0) : sgn u = sgn v := by unfold sgn; split <;> split <;> (try split) <;> (try split) <;> omega
theorem pos_scale {z P : Int} (hP : 0 < P) : (0 < z * P ↔ 0 < z) ∧ (z * P < 0 ↔ z < 0) := by
  constructor
  · constructor
    · intro h
      rcases Int.lt_or_le 0 z with h' | h'
      · exact h'
      · have := Int.mul_le_mul_of_nonneg_right h' (Int.le_of_lt hP); rw [Int.zero_mul] at this; omega
    · intro h; exact Int.mul_pos h hP
  · constructor
    · intro h
      rcases Int.lt_or_le z 0 with h' | h'
      · exact h'
      · have := Int.mul_le_mul_of_nonneg_right h' (Int.le_of_lt hP); rw [Int.zero_mul] at this; omega
    · intro h; exact Int.mul_neg_of_neg_of_pos h hP
theorem sgn_scale {u v P Q : Int} (hP : 0 < P) (hQ : 0 < Q) (h : u * P = v * Q) : sgn u = sgn v := by
  obtain ⟨a1, a2⟩ := pos_scale (z := u) hP
  obtain ⟨b1, b2⟩ := pos_scale (z := v) hQ
  rw [h] at a1 a2
  exact sgn_eq (a1.symm.trans b1) (a2.symm.trans b2)
theorem sgn_mul (a b : Int) : sgn (a * b) = sgn a * sgn b := by
  rcases Int.lt_trichotomy a 0 with ha | ha | ha
  · have e : a * b = -b * -a := by grind
    rw [show sgn a = -1 by unfold sgn; rw [if_neg (by omega), if_pos ha], e, sgn_scale (u := -b * -a) (v := -b) (P := 1) (Q := -a) (by decide) (by omega) (by omega), sgn_opp]
    omega
  · subst ha; simp [sgn]
  · have e : a * b = b * a := Int.mul_comm _ _
    rw [show sgn a = 1 by unfold sgn; rw [if_neg (by omega), if_neg (by omega)], e, sgn_scale (u := b * a) (v := b) (P := 1) (Q := a) (by decide) ha (by omega)]
    omega

theorem cmp_vld {an ad bn bd : Int} (va : Vld an ad) (vb : Vld bn bd) : cmpT an ad bn bd = (sgn (an * bd + -bn * ad), 0) := by
  unfold cmpT; rw [if_pos ⟨vB_yes va, vB_yes vb⟩]
theorem cmp_bad {an ad bn bd : Int} (h : ¬ (Vld an ad ∧ Vld bn bd)) : cmpT an ad bn bd = (0, 1) := by
  unfold cmpT
  rw [if_neg]
  rintro ⟨h1, h2⟩
  exact h ⟨vB_vld h1, vB_vld h2⟩
theorem cmp_swap {an ad bn bd : Int} (va : Vld an ad) (vb : Vld bn bd) : cmpT bn bd an ad = (-sgn (an * bd + -bn * ad), 0) := by
  rw [cmp_vld vb va, ← sgn_opp]
  congr 2
  grind
theorem cmp_zero {an ad bn bd : Int} (va : Vld an ad) (vb : Vld bn bd) : sgn (an * bd + -bn * ad) = 0 ↔ (an = bn ∧ ad = bd) := by
  rw [sgn_zero_iff]
  constructor
  · intro h
    exact uniq (by have := va.d1; omega) (by have := vb.d1; omega) va.co vb.co (by grind)
  · rintro ⟨rfl, rfl⟩; grind
theorem sub_sign {an ad bn bd n d : Int} (va : Vld an ad) (vb : Vld bn bd) (v : Vld n d) (h : n * (ad * bd) = (an * bd + -bn * ad) * d) : (0 < n ↔ 0 < sgn (an * bd + -bn * ad)) ∧ (n < 0 ↔ sgn (an * bd + -bn * ad) < 0) := by
  have e := sgn_scale (dpos va vb) (show 0 < d by have := v.d1; omega) h
  rw [← e]
  exact ⟨sgn_pos_iff.symm, sgn_neg_iff.symm⟩
theorem cmp_add {an ad bn bd cn cd xn xd yn yd : Int} (va : Vld an ad) (vb : Vld bn bd) (vc : Vld cn cd) (vx : Vld xn xd) (vy : Vld yn yd) (hx : xn * (ad * cd) = (an * cd + cn * ad) * xd) (hy : yn * (bd * cd) = (bn * cd + cn * bd) * yd) :
    cmpT xn xd yn yd = (sgn (an * bd + -bn * ad), 0) := by
  rw [cmp_vld vx vy, sgn_scale (u := xn * yd + -yn * xd) (v := an * bd + -bn * ad) (P := ad * cd * (bd * cd)) (Q := cd * cd * (xd * yd)) (Int.mul_pos (dpos va vc) (dpos vb vc)) (Int.mul_pos (dpos vc vc) (dpos vx vy)) ?_]
  calc (xn * yd + -yn * xd) * (ad * cd * (bd * cd)) = (xn * (ad * cd)) * yd * (bd * cd) - (yn * (bd * cd)) * xd * (ad * cd) := by grind
    _ = (an * cd + cn * ad) * xd * yd * (bd * cd) - (bn * cd + cn * bd) * yd * xd * (ad * cd) := by rw [hx, hy]
    _ = (an * bd + -bn * ad) * (cd * cd * (xd * yd)) := by grind
theorem cmp_mul {an ad bn bd cn cd xn xd yn yd : Int} (va : Vld an ad) (vb : Vld bn bd) (vc : Vld cn cd) (vx : Vld xn xd) (vy : Vld yn yd) (hx : xn * (ad * cd) = an * cn * xd) (hy : yn * (bd * cd) = bn * cn * yd) :
    cmpT xn xd yn yd = (sgn cn * sgn (an * bd + -bn * ad), 0) := by
  rw [cmp_vld vx vy, ← sgn_mul, sgn_scale (u := xn * yd + -yn * xd) (v := cn * (an * bd + -bn * ad)) (P := ad * cd * (bd * cd)) (Q := cd * (xd * yd)) (Int.mul_pos (dpos va vc) (dpos vb vc)) (Int.mul_pos (by have := vc.d1; omega) (dpos vx vy)) ?_]
  calc (xn * yd + -yn * xd) * (ad * cd * (bd * cd)) = (xn * (ad * cd)) * yd * (bd * cd) - (yn * (bd * cd)) * xd * (ad * cd) := by grind
    _ = (an * cn * xd) * yd * (bd * cd) - (bn * cn * yd) * xd * (ad * cd) := by rw [hx, hy]
    _ = (cn * (an * bd + -bn * ad)) * (cd * (xd * yd)) := by grind

theorem make_int {p : Int} (h0 : -1152921504606846976 ≤ p) (h1 : p ≤ 1152921504606846976) : Vld p 1 ∧ makeT p 1 = (p, 1, 0) := by
  have v : Vld p 1 := ⟨by decide, by decide, h0, h1, by simp⟩
  refine ⟨v, ?_⟩
  unfold makeT
  rw [if_neg (by decide), if_neg (by decide)]
  exact redT_vld v

/-- What Floor and Ceil are: the numbers around a fraction. -/
structure Around (n d p q : Int) : Prop where
  p0 : -1152921504606846976 ≤ p
  p1 : p ≤ 1152921504606846976
  q0 : -1152921504606846976 ≤ q
  q1 : q ≤ 1152921504606846976
  lo : p * d + -n * 1 ≤ 0
  hi : n * 1 + -q * d ≤ 0
  le : p * d + -n * 1 = 0 ↔ d = 1
  he : n * 1 + -q * d = 0 ↔ d = 1
  pq : p = q ↔ d = 1
  df : q - p ≤ 1

theorem around {n d : Int} (v : Vld n d) : Around n d (n / d) (-(-n / d)) := by
  have d1 := v.d1
  have n1 := v.n1
  have n2 := v.n2
  have e1 := Int.mul_ediv_add_emod n d
  have e2 := Int.mul_ediv_add_emod (-n) d
  have r0 := Int.emod_nonneg n (show d ≠ 0 by omega)
  have r1 := Int.emod_lt_of_pos n (show 0 < d by omega)
  have s0 := Int.emod_nonneg (-n) (show d ≠ 0 by omega)
  have s1 := Int.emod_lt_of_pos (-n) (show 0 < d by omega)
  have a1 : (n / d).natAbs ≤ n.natAbs := Int.natAbs_ediv_le_natAbs _ _
  have a2 : (-n / d).natAbs ≤ (-n).natAbs := Int.natAbs_ediv_le_natAbs _ _
  have one : d ∣ n → d = 1 := fun h => by
    have h1 : d.natAbs ∣ Int.gcd n d := Nat.dvd_gcd (Int.natAbs_dvd_natAbs.2 h) (Nat.dvd_refl _)
    rw [v.co] at h1
    have := Nat.le_of_dvd (by decide) h1
    omega
  generalize hp : n / d = p at *
  generalize hq : -n / d = q at *
  generalize n % d = r at *
  generalize -n % d = s at *
  have c1 : d * p = p * d := Int.mul_comm _ _
  have c2 : d * q = q * d := Int.mul_comm _ _
  have c3 : -(-q) * d = q * d := by rw [Int.neg_neg]
  have sum : (p + q) * d = -(r + s) := by rw [Int.add_mul]; omega
  have pqle : p + q ≤ 0 := by
    rcases Int.lt_or_le 0 (p + q) with h | h
    · have := Int.mul_pos h (show 0 < d by omega); omega
    · exact h
  have pqge : -2 < p + q := by
    rcases Int.lt_or_le (-2) (p + q) with h | h
    · exact h
    · have := Int.mul_le_mul_of_nonneg_right h (show 0 ≤ d by omega); omega
  refine ⟨by omega, by omega, by omega, by omega, by omega, by omega, ?_, ?_, ?_, by omega⟩
  · constructor
    · intro h; exact one ⟨p, by omega⟩
    · intro h; subst h; omega
  · constructor
    · intro h; exact one ⟨-q, by rw [Int.mul_neg]; omega⟩
    · intro h; subst h; omega
  · constructor
    · intro h
      have : p + q = 0 := by omega
      rw [this, Int.zero_mul] at sum
      exact one ⟨p, by omega⟩
    · intro h; subst h; omega

end Go.Proofs.Ytdbmlkkpffoadaa
