/- Plain mathematics of fractions: lowest terms, integers of two words, a long division, the binary algorithm. Nothing here speaks of Go. -/
namespace Go.Proofs.YtcghjjfpjiacfaaDoor
set_option linter.unusedVariables false

/-- What a pair of coprime integers, the second one positive, gives as a fraction with an error number. -/
def fitT (n d : Int) : Int × Int × Int :=
  if -1152921504606846976 ≤ n ∧ n ≤ 1152921504606846976 ∧ d ≤ 1152921504606846976 then (n, d, 0) else (0, 0, 5)

/-- The fraction with the value p / q, q positive. -/
def redT (p q : Int) : Int × Int × Int := fitT (p / (Int.gcd p q : Nat)) (q / (Int.gcd p q : Nat))

structure Vld (n d : Int) : Prop where
  d1 : 1 ≤ d
  d2 : d ≤ 1152921504606846976
  n1 : -1152921504606846976 ≤ n
  n2 : n ≤ 1152921504606846976
  co : Int.gcd n d = 1

theorem uniq {n d n' d' : Int} (hd : 0 < d) (hd' : 0 < d') (c : Int.gcd n d = 1) (c' : Int.gcd n' d' = 1) (h : n * d' = n' * d) : n = n' ∧ d = d' := by
  have e : n.natAbs * d'.natAbs = n'.natAbs * d.natAbs := by rw [← Int.natAbs_mul, ← Int.natAbs_mul, h]
  have c1 : Nat.Coprime d.natAbs n.natAbs := Nat.Coprime.symm c
  have c2 : Nat.Coprime d'.natAbs n'.natAbs := Nat.Coprime.symm c'
  have a1 : d.natAbs ∣ d'.natAbs := c1.dvd_of_dvd_mul_left (by rw [e]; exact Nat.dvd_mul_left _ _)
  have a2 : d'.natAbs ∣ d.natAbs := c2.dvd_of_dvd_mul_left (by rw [← e]; exact Nat.dvd_mul_left _ _)
  have a3 : d = d' := by have := Nat.dvd_antisymm a1 a2; omega
  subst a3
  exact ⟨Int.eq_of_mul_eq_mul_right (by omega) h, rfl⟩

theorem gcd_parts (p q : Int) (hq : 0 < q) : ∃ g : Int, 0 < g ∧ g = ((Int.gcd p q : Nat) : Int) ∧ p = g * (p / g) ∧ q = g * (q / g) ∧ Int.gcd (p / g) (q / g) = 1 ∧ 0 < q / g := by
  have hg : 0 < Int.gcd p q := Int.gcd_pos_of_ne_zero_right _ (by omega)
  have hgi : (0 : Int) < ((Int.gcd p q : Nat) : Int) := by omega
  have e1 := (Int.mul_ediv_cancel' (Int.gcd_dvd_left p q)).symm
  have e2 := (Int.mul_ediv_cancel' (Int.gcd_dvd_right p q)).symm
  refine ⟨_, hgi, rfl, e1, e2, Int.gcd_ediv_gcd_ediv_gcd (by omega), ?_⟩
  refine Int.lt_of_mul_lt_mul_left (a := ((Int.gcd p q : Nat) : Int)) ?_ (by omega)
  omega

/-- The main lemma: a pair of coprime integers with the value p / q. -/
theorem redT_of {p q n d : Int} (hq : 0 < q) (hd : 0 < d) (c : Int.gcd n d = 1) (h : n * q = p * d) : redT p q = fitT n d := by
  obtain ⟨g, hg, hge, e1, e2, hc, hp⟩ := gcd_parts p q hq
  have := uniq hp hd hc c (by
    have : g * (p / g * d) = g * (n * (q / g)) := by
      calc g * (p / g * d) = (g * (p / g)) * d := by grind
        _ = p * d := by rw [← e1]
        _ = n * q := h.symm
        _ = n * (g * (q / g)) := by rw [← e2]
        _ = g * (n * (q / g)) := by grind
    exact Int.eq_of_mul_eq_mul_left (by omega) this)
  unfold redT
  rw [← hge, this.1, this.2]

theorem redT_eq {p q p' q' : Int} (hq : 0 < q) (hq' : 0 < q') (h : p * q' = p' * q) : redT p q = redT p' q' := by
  obtain ⟨g, hg, hge, e1, e2, hc, hp⟩ := gcd_parts p' q' hq'
  rw [redT_of hq hp hc]
  · unfold redT; rw [← hge]
  · refine Int.eq_of_mul_eq_mul_left (a := g) (by omega) ?_
    calc g * (p' / g * q) = (g * (p' / g)) * q := by grind
      _ = p' * q := by rw [← e1]
      _ = p * q' := h.symm
      _ = p * (g * (q' / g)) := by rw [← e2]
      _ = g * (p * (q' / g)) := by grind

theorem fitT_vld {n d : Int} (h : Vld n d) : fitT n d = (n, d, 0) := by
  unfold fitT; rw [if_pos ⟨h.n1, h.n2, h.d2⟩]

theorem redT_vld {n d : Int} (h : Vld n d) : redT n d = (n, d, 0) := by
  rw [redT_of (by have := h.d1; omega) (by have := h.d1; omega) h.co rfl, fitT_vld h]

/-- A value that fits: the fraction is valid and has the value; and a value that does not fit. -/
theorem redT_cases (p q : Int) (hq : 0 < q) : (∃ n d, redT p q = (n, d, 0) ∧ Vld n d ∧ n * q = p * d) ∨ redT p q = (0, 0, 5) := by
  obtain ⟨g, hg, hge, e1, e2, hc, hp⟩ := gcd_parts p q hq
  have hr : redT p q = fitT (p / g) (q / g) := by unfold redT; rw [← hge]
  rw [hr]
  unfold fitT
  split
  · rename_i h
    refine .inl ⟨_, _, rfl, ⟨by omega, h.2.2, h.1, h.2.1, hc⟩, ?_⟩
    calc p / g * q = p / g * (g * (q / g)) := by rw [← e2]
      _ = (g * (p / g)) * (q / g) := by grind
      _ = p * (q / g) := by rw [← e1]
  · exact .inr rfl

/-- The sum: what is shared with the common divisor of the denominators. -/
theorem plus_co {an ad bn bd c s : Nat} {N : Int} {a b : Int} (ha : a.natAbs = an) (hb : b.natAbs = bn) (ca : Nat.Coprime an ad) (cb : Nat.Coprime bn bd)
    (hc : c = Nat.gcd ad bd) (hc0 : 0 < c) (hN : N = a * ((bd / c : Nat) : Int) + b * ((ad / c : Nat) : Int)) (hs : s = Nat.gcd c N.natAbs) :
    Nat.Coprime (N.natAbs / s) (ad / c * (bd / s)) := by
  have k1 : c ∣ ad := hc ▸ Nat.gcd_dvd_left _ _
  have k2 : c ∣ bd := hc ▸ Nat.gcd_dvd_right _ _
  have hs0 : 0 < s := hs ▸ Nat.gcd_pos_of_pos_left _ hc0
  have k3 : s ∣ c := hs ▸ Nat.gcd_dvd_left _ _
  have k4 : s ∣ N.natAbs := hs ▸ Nat.gcd_dvd_right _ _
  have cd : Nat.Coprime (ad / c) (bd / c) := by
    rw [hc]; exact Nat.coprime_div_gcd_div_gcd (by omega)
  -- any common divisor of N and ad / c divides a * (bd / c)
  have n1 : Nat.Coprime N.natAbs (ad / c) := by
    refine Nat.Coprime.symm ?_
    have x1 : Nat.Coprime (ad / c) (an * (bd / c)) :=
      Nat.Coprime.mul_right (Nat.Coprime.coprime_dvd_left (Nat.div_dvd_of_dvd k1) ca.symm) cd
    have x2 : Nat.gcd (ad / c) N.natAbs ∣ an * (bd / c) := by
      have y1 : (((Nat.gcd (ad / c) N.natAbs : Nat)) : Int) ∣ N := Int.ofNat_dvd_left.2 (Nat.gcd_dvd_right _ _)
      have y2 : (((Nat.gcd (ad / c) N.natAbs : Nat)) : Int) ∣ b * ((ad / c : Nat) : Int) := Int.dvd_mul_of_dvd_right (Int.natCast_dvd_natCast.2 (Nat.gcd_dvd_left _ _))
      have y3 : (((Nat.gcd (ad / c) N.natAbs : Nat)) : Int) ∣ a * ((bd / c : Nat) : Int) := by
        have : a * ((bd / c : Nat) : Int) = N - b * ((ad / c : Nat) : Int) := by rw [hN]; omega
        rw [this]; exact Int.dvd_sub y1 y2
      have := Int.ofNat_dvd_left.1 y3
      rwa [Int.natAbs_mul, ha, Int.natAbs_natCast] at this
    exact Nat.eq_one_of_dvd_one (x1 ▸ Nat.dvd_gcd (Nat.gcd_dvd_left _ _) x2)
  have n2 : Nat.Coprime N.natAbs (bd / c) := by
    refine Nat.Coprime.symm ?_
    have x1 : Nat.Coprime (bd / c) (bn * (ad / c)) :=
      Nat.Coprime.mul_right (Nat.Coprime.coprime_dvd_left (Nat.div_dvd_of_dvd k2) cb.symm) cd.symm
    have x2 : Nat.gcd (bd / c) N.natAbs ∣ bn * (ad / c) := by
      have y1 : (((Nat.gcd (bd / c) N.natAbs : Nat)) : Int) ∣ N := Int.ofNat_dvd_left.2 (Nat.gcd_dvd_right _ _)
      have y2 : (((Nat.gcd (bd / c) N.natAbs : Nat)) : Int) ∣ a * ((bd / c : Nat) : Int) := Int.dvd_mul_of_dvd_right (Int.natCast_dvd_natCast.2 (Nat.gcd_dvd_left _ _))
      have y3 : (((Nat.gcd (bd / c) N.natAbs : Nat)) : Int) ∣ b * ((ad / c : Nat) : Int) := by
        have : b * ((ad / c : Nat) : Int) = N - a * ((bd / c : Nat) : Int) := by rw [hN]; omega
        rw [this]; exact Int.dvd_sub y1 y2
      have := Int.ofNat_dvd_left.1 y3
      rwa [Int.natAbs_mul, hb, Int.natAbs_natCast] at this
    exact Nat.eq_one_of_dvd_one (x1 ▸ Nat.dvd_gcd (Nat.gcd_dvd_left _ _) x2)
  have n3 : Nat.Coprime (N.natAbs / s) (c / s) := by
    have := Nat.coprime_div_gcd_div_gcd (m := c) (n := N.natAbs) (by omega)
    rw [← hs] at this
    exact this.symm
  have hd : N.natAbs / s ∣ N.natAbs := Nat.div_dvd_of_dvd k4
  have hb : bd / s = bd / c * (c / s) := by
    obtain ⟨u, rfl⟩ := k2
    obtain ⟨v, rfl⟩ := k3
    have hv : 0 < s * v := hc0
    rw [Nat.mul_div_cancel_left _ hv, Nat.mul_div_cancel_left _ hs0, Nat.mul_assoc, Nat.mul_div_cancel_left _ hs0, Nat.mul_comm]
  rw [hb]
  exact Nat.Coprime.mul_right (Nat.Coprime.coprime_dvd_left hd n1) (Nat.Coprime.mul_right (Nat.Coprime.coprime_dvd_left hd n2) n3)

/-- The product: each numerator without what it shares with the other denominator. -/
theorem times_co {an ad bn bd l r : Nat} (ca : Nat.Coprime an ad) (cb : Nat.Coprime bn bd) (hl : l = Nat.gcd an bd) (hr : r = Nat.gcd bn ad) (h1 : 0 < ad) (h2 : 0 < bd) :
    Nat.Coprime (an / l * (bn / r)) (ad / r * (bd / l)) := by
  have l0 : 0 < l := hl ▸ Nat.gcd_pos_of_pos_right _ h2
  have r0 : 0 < r := hr ▸ Nat.gcd_pos_of_pos_right _ h1
  have l1 : l ∣ an := hl ▸ Nat.gcd_dvd_left _ _
  have l2 : l ∣ bd := hl ▸ Nat.gcd_dvd_right _ _
  have r1 : r ∣ bn := hr ▸ Nat.gcd_dvd_left _ _
  have r2 : r ∣ ad := hr ▸ Nat.gcd_dvd_right _ _
  have a1 : Nat.Coprime (an / l) (bd / l) := by rw [hl]; exact Nat.coprime_div_gcd_div_gcd (by omega)
  have a2 : Nat.Coprime (bn / r) (ad / r) := by rw [hr]; exact Nat.coprime_div_gcd_div_gcd (by omega)
  have a3 : Nat.Coprime (an / l) (ad / r) := (ca.coprime_dvd_left (Nat.div_dvd_of_dvd l1)).coprime_dvd_right (Nat.div_dvd_of_dvd r2)
  have a4 : Nat.Coprime (bn / r) (bd / l) := (cb.coprime_dvd_left (Nat.div_dvd_of_dvd r1)).coprime_dvd_right (Nat.div_dvd_of_dvd l2)
  exact Nat.Coprime.mul_left (Nat.Coprime.mul_right a3 a1) (Nat.Coprime.mul_right a2 a4)

/-! Integers of 128 bits in two words. -/
def hiW (z : Int) : Int := z / 18446744073709551616 % 18446744073709551616
def loW (z : Int) : Int := z % 18446744073709551616
def bor (x y : Int) : Int := if x < y then 1 else 0
def sgn (z : Int) : Int := if z = 0 then 0 else if z < 0 then -1 else 1

theorem hiW_bd (z : Int) : 0 ≤ hiW z ∧ hiW z < 18446744073709551616 := by unfold hiW; omega
theorem loW_bd (z : Int) : 0 ≤ loW z ∧ loW z < 18446744073709551616 := by unfold loW; omega
theorem W_of {z : Int} (h0 : 0 ≤ z) (h1 : z < 340282366920938463463374607431768211456) : z = hiW z * 18446744073709551616 + loW z := by unfold hiW loW; omega
theorem W_eq {z h l : Int} (h0 : 0 ≤ h) (h1 : h < 18446744073709551616) (l0 : 0 ≤ l) (l1 : l < 18446744073709551616) (e : z = h * 18446744073709551616 + l) : hiW z = h ∧ loW z = l := by unfold hiW loW; omega
theorem W_small {z : Int} (h0 : 0 ≤ z) (h1 : z < 18446744073709551616) : hiW z = 0 ∧ loW z = z := by unfold hiW loW; omega

theorem plus_lo (x y : Int) : (loW x + loW y) % 18446744073709551616 = loW (x + y) := by unfold loW; omega
theorem plus_hi (x y : Int) : (hiW x + hiW y + (loW x + loW y) / 18446744073709551616) % 18446744073709551616 = hiW (x + y) := by unfold hiW loW; omega
theorem neg_lo (x : Int) : (-loW x) % 18446744073709551616 = loW (-x) := by unfold loW; omega
theorem neg_hi (x : Int) : (-hiW x - bor 0 (loW x)) % 18446744073709551616 = hiW (-x) := by
  unfold hiW loW bor
  split <;> omega
theorem bor_bd (x y : Int) : 0 ≤ bor x y ∧ bor x y ≤ 1 := by unfold bor; split <;> omega
theorem sub_lo (x y : Int) : (loW x - loW y) % 18446744073709551616 = loW (x - y) := by unfold loW; omega
theorem sub_hi (x y : Int) : (hiW x - hiW y - bor (loW x) (loW y)) % 18446744073709551616 = hiW (x - y) := by
  unfold hiW loW bor
  split <;> omega
theorem sgn_zero {z : Int} (h0 : -170141183460469231731687303715884105728 ≤ z) (h1 : z < 170141183460469231731687303715884105728) : (hiW z = 0 ∧ loW z = 0) ↔ z = 0 := by unfold hiW loW; omega
theorem sgn_neg {z : Int} (h0 : -170141183460469231731687303715884105728 ≤ z) (h1 : z < 170141183460469231731687303715884105728) : 9223372036854775808 ≤ hiW z ↔ z < 0 := by unfold hiW; omega
theorem num_no {z : Int} (h0 : 0 ≤ z) (h1 : z < 170141183460469231731687303715884105728) : (hiW z = 0 ∧ loW z ≤ 1152921504606846976) ↔ z ≤ 1152921504606846976 := by unfold hiW loW; omega

/-! One half of a long division: a guess of a quotient's digit, lowered at most twice. -/
structure Guess (v1 v0 u d q r : Int) : Prop where
  eq : q * v1 + r = u
  ge : u * 4294967296 + d < (q + 1) * (v1 * 4294967296 + v0)
  q0 : 0 ≤ q
  q1 : q ≤ 4294967297
  r0 : 0 ≤ r

/-- The digit: the quotient of u * 2^32 + d by v1 * 2^32 + v0. -/
structure Digit (v u d q : Int) : Prop where
  lo : q * v ≤ u * 4294967296 + d
  hi : u * 4294967296 + d < q * v + v
  q0 : 0 ≤ q
  q1 : q < 4294967296

theorem guess_start {v1 v0 u d : Int} (h1 : 2147483648 ≤ v1) (h00 : 0 ≤ v0) (h0 : v0 < 4294967296) (hu0 : 0 ≤ u) (hu : u < v1 * 4294967296 + v0) (hd0 : 0 ≤ d) (hd : d < 4294967296) :
    Guess v1 v0 u d (u / v1) (u - u / v1 * v1) ∧ u - u / v1 * v1 < v1 := by
  have e := Int.mul_ediv_add_emod u v1
  have m0 := Int.emod_nonneg u (show v1 ≠ 0 by omega)
  have m1 := Int.emod_lt_of_pos u (show 0 < v1 by omega)
  have q0 : 0 ≤ u / v1 := Int.ediv_nonneg hu0 (by omega)
  have q1 : u / v1 < 4294967298 := Int.ediv_lt_of_lt_mul (by omega) (by omega)
  generalize u / v1 = q at *
  generalize u % v1 = r at *
  have c : v1 * q = q * v1 := Int.mul_comm _ _
  have z : 0 ≤ q * v0 := Int.mul_nonneg q0 h00
  have x : (q + 1) * (v1 * 4294967296 + v0) = (q * v1) * 4294967296 + q * v0 + v1 * 4294967296 + v0 := by grind
  refine ⟨⟨by omega, ?_, q0, by omega, by omega⟩, by omega⟩
  rw [x]
  omega

theorem guess_down {v1 v0 u d q r : Int} (h1 : 2147483648 ≤ v1) (h00 : 0 ≤ v0) (hu0 : 0 ≤ u) (hu : u < v1 * 4294967296 + v0) (hd0 : 0 ≤ d) (hd : d < 4294967296) (g : Guess v1 v0 u d q r)
    (ht : 4294967296 ≤ q ∨ 4294967296 * r + d < q * v0) : 1 ≤ q ∧ Guess v1 v0 u d (q - 1) (r + v1) := by
  have e := g.eq
  have x : (q - 1 + 1) * (v1 * 4294967296 + v0) = (q * v1) * 4294967296 + q * v0 := by grind
  have x' : (q - 1) * v1 = q * v1 - v1 := by grind
  have lt : u * 4294967296 + d < (q * v1) * 4294967296 + q * v0 := by
    rcases ht with h | h
    · have := Int.mul_le_mul_of_nonneg_right h (show 0 ≤ v1 * 4294967296 + v0 by omega)
      have y : q * (v1 * 4294967296 + v0) = (q * v1) * 4294967296 + q * v0 := by grind
      rw [y] at this
      omega
    · omega
  have q1 : 1 ≤ q := by
    have := g.q0
    by_cases h : q = 0
    · subst h; simp at lt; omega
    · omega
  exact ⟨q1, by omega, by rw [x]; exact lt, by omega, by have := g.q1; omega, by have := g.r0; omega⟩

theorem guess_end {v1 v0 u d q r : Int} (h1 : 2147483648 ≤ v1) (h00 : 0 ≤ v0) (hu : u < v1 * 4294967296 + v0) (hd : d < 4294967296) (g : Guess v1 v0 u d q r) (ht : q * v0 ≤ 4294967296 * r + d) : Digit (v1 * 4294967296 + v0) u d q := by
  have e := g.eq
  have y : q * (v1 * 4294967296 + v0) = (q * v1) * 4294967296 + q * v0 := by grind
  have z : (q + 1) * (v1 * 4294967296 + v0) = q * (v1 * 4294967296 + v0) + (v1 * 4294967296 + v0) := by grind
  have ge := g.ge
  rw [z] at ge
  have lo : q * (v1 * 4294967296 + v0) ≤ u * 4294967296 + d := by rw [y]; omega
  refine ⟨lo, ge, g.q0, ?_⟩
  refine Int.lt_of_mul_lt_mul_right (a := v1 * 4294967296 + v0) ?_ (by omega)
  omega

theorem guess_break {v1 v0 u d q r : Int} (h1 : 2147483648 ≤ v1) (h00 : 0 ≤ v0) (h0 : v0 < 4294967296) (hu : u < v1 * 4294967296 + v0) (hd0 : 0 ≤ d) (hd : d < 4294967296) (g : Guess v1 v0 u d q r) (hq : q ≤ 4294967296) (hr : 4294967296 ≤ r) : Digit (v1 * 4294967296 + v0) u d q := by
  refine guess_end h1 h00 hu hd g ?_
  have := Int.mul_le_mul hq (show v0 ≤ 4294967295 by omega) h00 (by omega)
  omega

theorem guess_prod {v0 q : Int} (h00 : 0 ≤ v0) (h0 : v0 < 4294967296) (q0 : 0 ≤ q) (hq : q < 4294967296) : 0 ≤ q * v0 ∧ q * v0 < 18446744073709551616 := by
  have := Int.mul_le_mul (show q ≤ 4294967295 by omega) (show v0 ≤ 4294967295 by omega) h00 (by omega)
  exact ⟨Int.mul_nonneg q0 h00, by omega⟩

/-- The shift ahead of the division, and the one behind it. p = 2^s, p' = 2^(64 - s). -/
theorem norm_eq {hi lo p p' : Int} (hp : 0 < p) (hpp : p * p' = 18446744073709551616) : (hi * 18446744073709551616 + lo) * p = (hi * p + lo / p') * 18446744073709551616 + lo * p % 18446744073709551616 := by
  have e := Int.mul_ediv_add_emod (lo * p) 18446744073709551616
  have d : lo * p / 18446744073709551616 = lo / p' := by rw [← hpp, Int.mul_comm lo p, Int.mul_ediv_mul_of_pos _ _ hp]
  rw [d] at e
  grind

theorem norm_lt {hi lo p p' y : Int} (hp : 0 < p) (hpp : p * p' = 18446744073709551616) (h : hi < y) (l0 : 0 ≤ lo) (l1 : lo < 18446744073709551616) : 0 ≤ lo / p' ∧ lo / p' < p ∧ hi * p + lo / p' < y * p := by
  have hp' : 0 < p' := by
    rcases Int.lt_or_le 0 p' with h | h
    · exact h
    · have := Int.mul_le_mul_of_nonneg_left h (Int.le_of_lt hp)
      rw [Int.mul_zero] at this
      omega
  have a : lo / p' < p := Int.ediv_lt_of_lt_mul hp' (by omega)
  have b : (hi + 1) * p ≤ y * p := Int.mul_le_mul_of_nonneg_right (by omega) (by omega)
  have c : (hi + 1) * p = hi * p + p := by grind
  exact ⟨Int.ediv_nonneg l0 (by omega), a, by omega⟩

theorem norm_end {N p y Q R : Int} (hp : 0 < p) (hy : 0 < y) (h : N * p = y * p * Q + R) (r0 : 0 ≤ R) (r1 : R < y * p) : Q = N / y ∧ R / p = N % y := by
  have e : R = p * (N - y * Q) := by grind
  have s0 : 0 ≤ N - y * Q := by
    refine Int.le_of_mul_le_mul_left (a := p) ?_ hp
    omega
  have s1 : N - y * Q < y := by
    refine Int.lt_of_mul_lt_mul_left (a := p) ?_ (by omega)
    rw [← e, Int.mul_comm p y]; exact r1
  have q : N / y = Q := by
    have : N = (N - y * Q) + y * Q := by omega
    rw [this, Int.add_mul_ediv_left _ _ (by omega), Int.ediv_eq_zero_of_lt s0 s1]; omega
  refine ⟨q.symm, ?_⟩
  rw [e, Int.mul_ediv_cancel_left _ (by omega), Int.emod_def, q]

/-! The reference's binary algorithm. -/
theorem gcd_half_left {a b : Nat} (ha : a % 2 = 0) (hb : b % 2 = 1) : Nat.gcd (a / 2) b = Nat.gcd a b := by
  have e : a = 2 * (a / 2) := by omega
  have c : Nat.Coprime 2 b := by
    unfold Nat.Coprime; rw [Nat.gcd_rec, hb]; rfl
  conv => rhs; rw [e]
  exact (c.gcd_mul_left_cancel _).symm
theorem gcd_half_right {a b : Nat} (ha : a % 2 = 1) (hb : b % 2 = 0) : Nat.gcd a (b / 2) = Nat.gcd a b := by
  rw [Nat.gcd_comm, gcd_half_left hb ha, Nat.gcd_comm]
theorem gcd_half_both {a b : Nat} (ha : a % 2 = 0) (hb : b % 2 = 0) : 2 * Nat.gcd (a / 2) (b / 2) = Nat.gcd a b := by
  rw [← Nat.gcd_mul_left]
  congr 1 <;> omega
theorem gcd_minus {a b : Nat} (h : b ≤ a) : Nat.gcd (a - b) b = Nat.gcd a b := Nat.gcd_sub_self_left h
theorem odd_gcd_half_left {a b : Nat} (ha : a % 2 = 0) (hg : Nat.gcd a b % 2 = 1) : b % 2 = 1 := by
  by_cases h : b % 2 = 1
  · exact h
  · have := gcd_half_both ha (show b % 2 = 0 by omega)
    omega
theorem gcd_odd {a b : Nat} (h : a % 2 = 1 ∨ b % 2 = 1) : Nat.gcd a b % 2 = 1 := by
  have h1 := Nat.gcd_dvd_left a b
  have h2 := Nat.gcd_dvd_right a b
  obtain ⟨u, hu⟩ := h1
  obtain ⟨v, hv⟩ := h2
  by_cases e : Nat.gcd a b % 2 = 1
  · exact e
  · have e' : Nat.gcd a b = 2 * (Nat.gcd a b / 2) := by omega
    rw [e', Nat.mul_assoc] at hu hv
    omega

end Go.Proofs.YtcghjjfpjiacfaaDoor
