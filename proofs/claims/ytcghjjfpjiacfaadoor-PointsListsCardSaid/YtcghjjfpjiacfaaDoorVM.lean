/- Layer 9: the mathematics of points: turns, planes, what is covered, ways. -/
import Derived.Test.YtcghjjfpjiacfaaDoorRows
namespace Go.Proofs.YtcghjjfpjiacfaaDoor
set_option linter.unusedVariables false

/-- A point by its coordinates. -/
structure Pt where
  x : Int
  y : Int
  z : Int
def okc (n : Int) : Prop := -1048576 ≤ n ∧ n ≤ 1048576
def Pt.ok (p : Pt) : Prop := okc p.x ∧ okc p.y ∧ okc p.z
instance (n : Int) : Decidable (okc n) := by unfold okc; infer_instance
instance (p : Pt) : Decidable p.ok := by unfold Pt.ok; infer_instance
/-- The squared length. -/
def sqL (a b : Pt) : Int := (b.x - a.x) * (b.x - a.x) + (b.y - a.y) * (b.y - a.y) + (b.z - a.z) * (b.z - a.z)
/-- The turn before its sign is taken. -/
def tnI (a b c : Pt) : Int := (b.x - a.x) * (c.y - a.y) - (b.y - a.y) * (c.x - a.x)
def sgI (n : Int) : Int := if n < 0 then -1 else if 0 < n then 1 else 0
/-- Differences, cross products, and products. -/
def Pt.sub (b a : Pt) : Pt := ⟨b.x - a.x, b.y - a.y, b.z - a.z⟩
def Pt.crs (a b : Pt) : Pt := ⟨a.y * b.z - a.z * b.y, a.z * b.x - a.x * b.z, a.x * b.y - a.y * b.x⟩
def Pt.dot (a b : Pt) : Int := a.x * b.x + a.y * b.y + a.z * b.z
def Pt.zero (a : Pt) : Prop := a.x = 0 ∧ a.y = 0 ∧ a.z = 0
instance (p : Pt) : Decidable p.zero := by unfold Pt.zero; infer_instance
def det3 (u v w : Pt) : Int := (u.crs v).dot w

theorem det_swap12 (u v w : Pt) : det3 v u w = - det3 u v w := by unfold det3 Pt.crs Pt.dot; grind
theorem det_swap23 (u v w : Pt) : det3 u w v = - det3 u v w := by unfold det3 Pt.crs Pt.dot; grind
theorem det_same12 (u w : Pt) : det3 u u w = 0 := by unfold det3 Pt.crs Pt.dot; grind
theorem det_same23 (u w : Pt) : det3 u w w = 0 := by unfold det3 Pt.crs Pt.dot; grind
theorem det_zero1 (o v w : Pt) : det3 (o.sub o) v w = 0 := by unfold det3 Pt.crs Pt.dot Pt.sub; grind
theorem det_cramer (u v w n : Pt) (h : ¬ n.zero) (h1 : n.dot u = 0) (h2 : n.dot v = 0) (h3 : n.dot w = 0) : det3 u v w = 0 := by
  have hx : det3 u v w * n.x = (n.dot u) * (v.crs w).x + (n.dot v) * (w.crs u).x + (n.dot w) * (u.crs v).x := by unfold det3 Pt.crs Pt.dot; grind
  have hy : det3 u v w * n.y = (n.dot u) * (v.crs w).y + (n.dot v) * (w.crs u).y + (n.dot w) * (u.crs v).y := by unfold det3 Pt.crs Pt.dot; grind
  have hz : det3 u v w * n.z = (n.dot u) * (v.crs w).z + (n.dot v) * (w.crs u).z + (n.dot w) * (u.crs v).z := by unfold det3 Pt.crs Pt.dot; grind
  rw [h1, h2, h3] at hx hy hz
  simp only [Int.zero_mul, Int.add_zero] at hx hy hz
  rcases Int.mul_eq_zero.1 hx with e | e
  · exact e
  rcases Int.mul_eq_zero.1 hy with e2 | e2
  · exact e2
  rcases Int.mul_eq_zero.1 hz with e3 | e3
  · exact e3
  exact absurd ⟨e, e2, e3⟩ h

/-- All four of any points lie in one plane. -/
def FlatQ (n : Nat) (f : Nat → Pt) : Prop := ∀ a i j k, a < n → i < n → j < n → k < n → det3 ((f i).sub (f a)) ((f j).sub (f a)) ((f k).sub (f a)) = 0
/-- The same from the first point. -/
def FlatR (n : Nat) (f : Nat → Pt) : Prop := ∀ i j k, i < n → j < n → k < n → det3 ((f i).sub (f 0)) ((f j).sub (f 0)) ((f k).sub (f 0)) = 0
theorem flat_r (n : Nat) (f : Nat → Pt) : FlatR n f ↔ FlatQ n f := by
  constructor
  · intro h a i j k ha hi hj hk
    have h1 := h i j k hi hj hk
    have h2 := h a j k ha hj hk
    have h3 := h i a k hi ha hk
    have h4 := h i j a hi hj ha
    have : det3 ((f i).sub (f a)) ((f j).sub (f a)) ((f k).sub (f a)) = det3 ((f i).sub (f 0)) ((f j).sub (f 0)) ((f k).sub (f 0)) - det3 ((f a).sub (f 0)) ((f j).sub (f 0)) ((f k).sub (f 0)) - det3 ((f i).sub (f 0)) ((f a).sub (f 0)) ((f k).sub (f 0)) - det3 ((f i).sub (f 0)) ((f j).sub (f 0)) ((f a).sub (f 0)) := by
      unfold det3 Pt.crs Pt.dot Pt.sub; grind
    omega
  · intro h i j k hi hj hk
    exact h 0 i j k (by omega) hi hj hk
/-- The first normal is not zero: what is perpendicular to it decides. -/
theorem flat_of_normal (n : Nat) (f : Nat → Pt) (i j : Nat) (hi : i < n) (hj : j < n) (hz : ¬ (((f i).sub (f 0)).crs ((f j).sub (f 0))).zero) : (∀ k, k < n → (((f i).sub (f 0)).crs ((f j).sub (f 0))).dot ((f k).sub (f 0)) = 0) ↔ FlatQ n f := by
  rw [← flat_r]
  constructor
  · intro h a b c ha hb hc
    exact det_cramer _ _ _ _ hz (h a ha) (h b hb) (h c hc)
  · intro h k hk
    exact h i j k hi hj hk
theorem crs_swap (u v : Pt) (h : (u.crs v).zero) : (v.crs u).zero := by
  unfold Pt.zero Pt.crs at *; grind
theorem crs_same (u : Pt) : (u.crs u).zero := by unfold Pt.zero Pt.crs; grind
theorem flat_of_none (n : Nat) (f : Nat → Pt) (h : ∀ i j, i < n → j < i → (((f i).sub (f 0)).crs ((f j).sub (f 0))).zero) : FlatQ n f := by
  rw [← flat_r]
  intro i j k hi hj hk
  have hz : (((f i).sub (f 0)).crs ((f j).sub (f 0))).zero := by
    rcases Nat.lt_trichotomy j i with e | e | e
    · exact h i j hi e
    · rw [e]; exact crs_same _
    · exact crs_swap _ _ (h j i hj e)
  unfold det3 Pt.dot
  rw [hz.1, hz.2.1, hz.2.2]
  omega
theorem flat_of_ord (n : Nat) (f : Nat → Pt) : (∀ i k j, i < k → k < j → j < n → det3 ((f i).sub (f 0)) ((f k).sub (f 0)) ((f j).sub (f 0)) = 0) ↔ FlatQ n f := by
  rw [← flat_r]
  constructor
  · intro h
    have h2 : ∀ i j k, i < n → j < n → k < n → i < j → det3 ((f i).sub (f 0)) ((f j).sub (f 0)) ((f k).sub (f 0)) = 0 := by
      intro i j k hi hj hk hij
      rcases Nat.lt_trichotomy j k with e | e | e
      · exact h i j k hij e hk
      · rw [e]; exact det_same23 _ _
      rcases Nat.lt_trichotomy i k with e2 | e2 | e2
      · have := h i k j e2 e hj
        rw [det_swap23, this]; rfl
      · rw [e2, det_swap23, det_same12]; rfl
      · have := h k i j e2 hij hj
        rw [det_swap23, det_swap12, this]; rfl
    intro i j k hi hj hk
    rcases Nat.lt_trichotomy i j with e | e | e
    · exact h2 i j k hi hj hk e
    · rw [e]; exact det_same12 _ _
    · rw [det_swap12, h2 j i k hj hi hk e]; rfl
  · intro h i k j h1 h2 h3
    exact h i k j (by omega) (by omega) h3

/-- On the line between two points, or one of them. -/
def onS (p a b : Pt) : Prop := tnI a b p = 0 ∧ (p.x - a.x) * (p.x - b.x) ≤ 0 ∧ (p.y - a.y) * (p.y - b.y) ≤ 0
/-- Within three points. -/
def trS (p a b c : Pt) : Prop := (0 < tnI a b p ∧ 0 < tnI b c p ∧ 0 < tnI c a p) ∨ (tnI a b p < 0 ∧ tnI b c p < 0 ∧ tnI c a p < 0)
def InQ (p : Pt) (n : Nat) (f : Nat → Pt) : Prop := (∃ i j, i < n ∧ j < n ∧ onS p (f i) (f j)) ∨ (∃ i j k, i < n ∧ j < n ∧ k < n ∧ trS p (f i) (f j) (f k))
theorem onS_symm (p a b : Pt) (h : onS p a b) : onS p b a := by
  obtain ⟨h1, h2, h3⟩ := h
  refine ⟨?_, ?_, ?_⟩
  · unfold tnI at *; grind
  · rw [Int.mul_comm]; exact h2
  · rw [Int.mul_comm]; exact h3
theorem tn_rot (a b c : Pt) : tnI b c a = tnI a b c := by unfold tnI; grind
theorem tn_swap (a b c : Pt) : tnI b a c = - tnI a b c := by unfold tnI; grind
theorem tn_same (a p : Pt) : tnI a a p = 0 := by unfold tnI; grind
theorem trS_rot (p a b c : Pt) (h : trS p a b c) : trS p b c a := by
  rcases h with h | h
  · exact .inl ⟨h.2.1, h.2.2, h.1⟩
  · exact .inr ⟨h.2.1, h.2.2, h.1⟩
theorem trS_swap (p a b c : Pt) (h : trS p a b c) : trS p b a c := by
  have e1 := tn_swap a b p
  have e2 := tn_swap b c p
  have e3 := tn_swap c a p
  rcases h with h | h
  · exact .inr ⟨by omega, by omega, by omega⟩
  · exact .inl ⟨by omega, by omega, by omega⟩
theorem bary_x (p a b c : Pt) : (tnI b c p + tnI c a p + tnI a b p) * p.x = tnI b c p * a.x + tnI c a p * b.x + tnI a b p * c.x := by unfold tnI; grind
theorem bary_y (p a b c : Pt) : (tnI b c p + tnI c a p + tnI a b p) * p.y = tnI b c p * a.y + tnI c a p * b.y + tnI a b p * c.y := by unfold tnI; grind

/-- Neither less than all three nor greater. -/
def amg (p a b c : Int) : Prop := (a ≤ p ∨ b ≤ p ∨ c ≤ p) ∧ (p ≤ a ∨ p ≤ b ∨ p ≤ c)
/-- What the code tests of a triangle. -/
def inT (p a b c : Pt) : Prop := ¬ ((0 < tnI a b p ∨ 0 < tnI b c p ∨ 0 < tnI c a p) ∧ (tnI a b p < 0 ∨ tnI b c p < 0 ∨ tnI c a p < 0)) ∧ amg p.x a.x b.x c.x ∧ amg p.y a.y b.y c.y
theorem mul_nonpos_iff (u v : Int) : u * v ≤ 0 ↔ (u ≤ 0 ∧ 0 ≤ v) ∨ (0 ≤ u ∧ v ≤ 0) := by
  constructor
  · intro h
    rcases Int.lt_trichotomy u 0 with a | a | a
    · rcases Int.lt_trichotomy v 0 with b | b | b
      · have := Int.mul_pos_of_neg_of_neg a b; omega
      · omega
      · omega
    · subst a; rcases Int.lt_trichotomy v 0 with b | b | b <;> omega
    · rcases Int.lt_trichotomy v 0 with b | b | b
      · omega
      · omega
      · have := Int.mul_pos a b; omega
  · rintro (⟨h1, h2⟩ | ⟨h1, h2⟩)
    · exact Int.mul_nonpos_of_nonpos_of_nonneg h1 h2
    · exact Int.mul_nonpos_of_nonneg_of_nonpos h1 h2
/-- A weighted mean lies between. -/
theorem mean2 (t u p a b : Int) (ht : 0 ≤ t) (hu : 0 ≤ u) (hs : 0 < t + u) (h : (t + u) * p = t * a + u * b) : (p - a) * (p - b) ≤ 0 := by
  rw [mul_nonpos_iff]
  have e : t * (p - a) + u * (p - b) = 0 := by grind
  rcases Int.lt_trichotomy (p - a) 0 with x | x | x
  · rcases Int.lt_or_le (p - b) 0 with y | y
    · exfalso
      have h1 : t * (p - a) ≤ 0 := Int.mul_nonpos_of_nonneg_of_nonpos ht (by omega)
      have h2 : u * (p - b) ≤ 0 := Int.mul_nonpos_of_nonneg_of_nonpos hu (by omega)
      have h3 : t * (p - a) = 0 := by omega
      have h4 : u * (p - b) = 0 := by omega
      rcases Int.mul_eq_zero.1 h3 with z | z <;> rcases Int.mul_eq_zero.1 h4 with z2 | z2 <;> omega
    · omega
  · omega
  · rcases Int.lt_or_le 0 (p - b) with y | y
    · exfalso
      have h1 : 0 ≤ t * (p - a) := Int.mul_nonneg ht (by omega)
      have h2 : 0 ≤ u * (p - b) := Int.mul_nonneg hu (by omega)
      have h3 : t * (p - a) = 0 := by omega
      have h4 : u * (p - b) = 0 := by omega
      rcases Int.mul_eq_zero.1 h3 with z | z <;> rcases Int.mul_eq_zero.1 h4 with z2 | z2 <;> omega
    · omega
theorem mean3 (s t u p a b c : Int) (hs : 0 ≤ s) (ht : 0 ≤ t) (hu : 0 ≤ u) (hp : 0 < s + t + u) (h : (s + t + u) * p = s * a + t * b + u * c) : amg p a b c := by
  have e : s * (p - a) + t * (p - b) + u * (p - c) = 0 := by grind
  constructor
  · refine Decidable.byContradiction fun hn => ?_
    have h1 : s * (p - a) ≤ 0 := Int.mul_nonpos_of_nonneg_of_nonpos hs (by omega)
    have h2 : t * (p - b) ≤ 0 := Int.mul_nonpos_of_nonneg_of_nonpos ht (by omega)
    have h3 : u * (p - c) ≤ 0 := Int.mul_nonpos_of_nonneg_of_nonpos hu (by omega)
    have z1 : s * (p - a) = 0 := by omega
    have z2 : t * (p - b) = 0 := by omega
    have z3 : u * (p - c) = 0 := by omega
    rcases Int.mul_eq_zero.1 z1 with z | z <;> rcases Int.mul_eq_zero.1 z2 with y | y <;> rcases Int.mul_eq_zero.1 z3 with x | x <;> omega
  · refine Decidable.byContradiction fun hn => ?_
    have h1 : 0 ≤ s * (p - a) := Int.mul_nonneg hs (by omega)
    have h2 : 0 ≤ t * (p - b) := Int.mul_nonneg ht (by omega)
    have h3 : 0 ≤ u * (p - c) := Int.mul_nonneg hu (by omega)
    have z1 : s * (p - a) = 0 := by omega
    have z2 : t * (p - b) = 0 := by omega
    have z3 : u * (p - c) = 0 := by omega
    rcases Int.mul_eq_zero.1 z1 with z | z <;> rcases Int.mul_eq_zero.1 z2 with y | y <;> rcases Int.mul_eq_zero.1 z3 with x | x <;> omega
theorem inT_of_tr (p a b c : Pt) (h : trS p a b c) : inT p a b c := by
  have hx := bary_x p a b c
  have hy := bary_y p a b c
  rcases h with ⟨h1, h2, h3⟩ | ⟨h1, h2, h3⟩
  · exact ⟨by omega, mean3 _ _ _ _ _ _ _ (by omega) (by omega) (by omega) (by omega) hx, mean3 _ _ _ _ _ _ _ (by omega) (by omega) (by omega) (by omega) hy⟩
  · refine ⟨by omega, mean3 (- tnI b c p) (- tnI c a p) (- tnI a b p) _ _ _ _ (by omega) (by omega) (by omega) (by omega) (by grind), mean3 (- tnI b c p) (- tnI c a p) (- tnI a b p) _ _ _ _ (by omega) (by omega) (by omega) (by omega) (by grind)⟩
theorem inT_of_on (p a b : Pt) (h : onS p a b) : inT p a b b := by
  obtain ⟨h1, h2, h3⟩ := h
  rw [mul_nonpos_iff] at h2 h3
  have e1 := tn_same b p
  have e2 := tn_swap a b p
  refine ⟨by omega, ⟨by omega, by omega⟩, ⟨by omega, by omega⟩⟩
/-- On one line, and between by one coordinate: so by the other. -/
theorem on_of_x (p a b : Pt) (h : tnI a b p = 0) (hx : (p.x - a.x) * (p.x - b.x) ≤ 0) (hn : a.x ≠ b.x) : onS p a b := by
  refine ⟨h, hx, ?_⟩
  rw [mul_nonpos_iff] at hx
  have e : (b.x - p.x + (p.x - a.x)) * p.y = (b.x - p.x) * a.y + (p.x - a.x) * b.y := by unfold tnI at h; grind
  rcases hx with ⟨h1, h2⟩ | ⟨h1, h2⟩
  · refine mean2 (p.x - b.x) (a.x - p.x) _ _ _ (by omega) (by omega) (by omega) (by grind)
  · refine mean2 (b.x - p.x) (p.x - a.x) _ _ _ (by omega) (by omega) (by omega) e
theorem on_of_y (p a b : Pt) (h : tnI a b p = 0) (hy : (p.y - a.y) * (p.y - b.y) ≤ 0) (hn : a.y ≠ b.y) : onS p a b := by
  refine ⟨h, ?_, hy⟩
  rw [mul_nonpos_iff] at hy
  have e : (b.y - p.y + (p.y - a.y)) * p.x = (b.y - p.y) * a.x + (p.y - a.y) * b.x := by unfold tnI at h; grind
  rcases hy with ⟨h1, h2⟩ | ⟨h1, h2⟩
  · refine mean2 (p.y - b.y) (a.y - p.y) _ _ _ (by omega) (by omega) (by omega) (by grind)
  · refine mean2 (b.y - p.y) (p.y - a.y) _ _ _ (by omega) (by omega) (by omega) e
/-- All on one line. -/
theorem on_of_flat (p a b c : Pt) (h1 : tnI a b p = 0) (h2 : tnI b c p = 0) (h3 : tnI c a p = 0) (hx : amg p.x a.x b.x c.x) (hy : amg p.y a.y b.y c.y) : onS p a b ∨ onS p b c ∨ onS p c a := by
  obtain ⟨x1, x2⟩ := hx
  obtain ⟨y1, y2⟩ := hy
  by_cases e : a.x = b.x ∧ b.x = c.x
  · by_cases e2 : a.y = b.y ∧ b.y = c.y
    · left
      refine ⟨h1, ?_, ?_⟩
      · rw [mul_nonpos_iff]; omega
      · rw [mul_nonpos_iff]; omega
    · have hh : ∀ u v : Pt, tnI u v p = 0 → u.x = v.x → p.x = u.x → ((u.y ≤ p.y ∧ p.y ≤ v.y) ∨ (v.y ≤ p.y ∧ p.y ≤ u.y)) → onS p u v := by
        intro u v g1 g2 g3 g4
        refine ⟨g1, ?_, ?_⟩
        · rw [mul_nonpos_iff]; omega
        · rw [mul_nonpos_iff]; omega
      have px : p.x = a.x := by omega
      by_cases k1 : (a.y ≤ p.y ∧ p.y ≤ b.y) ∨ (b.y ≤ p.y ∧ p.y ≤ a.y)
      · exact .inl (hh a b h1 e.1 px k1)
      by_cases k2 : (b.y ≤ p.y ∧ p.y ≤ c.y) ∨ (c.y ≤ p.y ∧ p.y ≤ b.y)
      · exact .inr (.inl (hh b c h2 e.2 (by omega) k2))
      · exact .inr (.inr (hh c a h3 (by omega) (by omega) (by omega)))
  · have hh : ∀ u v : Pt, tnI u v p = 0 → u.x ≠ v.x → ((u.x ≤ p.x ∧ p.x ≤ v.x) ∨ (v.x ≤ p.x ∧ p.x ≤ u.x)) → onS p u v := by
      intro u v g1 g2 g4
      exact on_of_x p u v g1 (by rw [mul_nonpos_iff]; omega) g2
    by_cases k1 : a.x ≠ b.x ∧ ((a.x ≤ p.x ∧ p.x ≤ b.x) ∨ (b.x ≤ p.x ∧ p.x ≤ a.x))
    · exact .inl (hh a b h1 k1.1 k1.2)
    by_cases k2 : b.x ≠ c.x ∧ ((b.x ≤ p.x ∧ p.x ≤ c.x) ∨ (c.x ≤ p.x ∧ p.x ≤ b.x))
    · exact .inr (.inl (hh b c h2 k2.1 k2.2))
    · exact .inr (.inr (hh c a h3 (by omega) (by omega)))
/-- One side's turn is zero, the others' are not of both signs, and not both zero. -/
theorem on_of_edge (p a b c : Pt) (h : tnI a b p = 0) (hs : (0 ≤ tnI b c p ∧ 0 ≤ tnI c a p) ∨ (tnI b c p ≤ 0 ∧ tnI c a p ≤ 0)) (hn : ¬ (tnI b c p = 0 ∧ tnI c a p = 0)) : onS p a b := by
  have hx := bary_x p a b c
  have hy := bary_y p a b c
  rw [h] at hx hy
  simp only [Int.add_zero, Int.zero_mul] at hx hy
  rcases hs with ⟨h1, h2⟩ | ⟨h1, h2⟩
  · exact ⟨h, mean2 _ _ _ _ _ h1 h2 (by omega) hx, mean2 _ _ _ _ _ h1 h2 (by omega) hy⟩
  · exact ⟨h, mean2 (- tnI b c p) (- tnI c a p) _ _ _ (by omega) (by omega) (by omega) (by grind), mean2 (- tnI b c p) (- tnI c a p) _ _ _ (by omega) (by omega) (by omega) (by grind)⟩
theorem on_of_inT (p a b c : Pt) (h : inT p a b c) : onS p a b ∨ onS p b c ∨ onS p c a ∨ trS p a b c := by
  obtain ⟨h1, h2, h3⟩ := h
  by_cases z : tnI a b p = 0 ∧ tnI b c p = 0 ∧ tnI c a p = 0
  · rcases on_of_flat p a b c z.1 z.2.1 z.2.2 h2 h3 with k | k | k
    · exact .inl k
    · exact .inr (.inl k)
    · exact .inr (.inr (.inl k))
  by_cases e1 : tnI a b p = 0
  · exact .inl (on_of_edge p a b c e1 (by omega) (by omega))
  by_cases e2 : tnI b c p = 0
  · exact .inr (.inl (on_of_edge p b c a e2 (by omega) (by omega)))
  by_cases e3 : tnI c a p = 0
  · exact .inr (.inr (.inl (on_of_edge p c a b e3 (by omega) (by omega))))
  · refine .inr (.inr (.inr ?_))
    unfold trS
    omega
/-- The code's search is through triples in descending order. -/
theorem in_code (p : Pt) (n : Nat) (f : Nat → Pt) : (∃ i j k, i < n ∧ j ≤ i ∧ k ≤ j ∧ inT p (f i) (f j) (f k)) ↔ InQ p n f := by
  constructor
  · rintro ⟨i, j, k, hi, hj, hk, h⟩
    rcases on_of_inT p _ _ _ h with g | g | g | g
    · exact .inl ⟨i, j, hi, by omega, g⟩
    · exact .inl ⟨j, k, by omega, by omega, g⟩
    · exact .inl ⟨k, i, by omega, by omega, g⟩
    · exact .inr ⟨i, j, k, by omega, by omega, by omega, g⟩
  · rintro (⟨i, j, hi, hj, h⟩ | ⟨i, j, k, hi, hj, hk, h⟩)
    · by_cases e : j ≤ i
      · exact ⟨i, j, j, hi, e, Nat.le_refl _, inT_of_on p _ _ h⟩
      · exact ⟨j, i, i, hj, by omega, Nat.le_refl _, inT_of_on p _ _ (onS_symm p _ _ h)⟩
    · have r1 := trS_rot p _ _ _ h
      have r2 := trS_rot p _ _ _ r1
      have s0 := trS_swap p _ _ _ h
      have s1 := trS_swap p _ _ _ r1
      have s2 := trS_swap p _ _ _ r2
      by_cases a1 : j ≤ i
      · by_cases a2 : k ≤ j
        · exact ⟨i, j, k, hi, a1, a2, inT_of_tr _ _ _ _ h⟩
        · by_cases a3 : k ≤ i
          · exact ⟨i, k, j, hi, a3, by omega, inT_of_tr _ _ _ _ s2⟩
          · exact ⟨k, i, j, hk, by omega, a1, inT_of_tr _ _ _ _ r2⟩
      · by_cases a2 : k ≤ i
        · exact ⟨j, i, k, hj, by omega, a2, inT_of_tr _ _ _ _ s0⟩
        · by_cases a3 : k ≤ j
          · exact ⟨j, k, i, hj, a3, by omega, inT_of_tr _ _ _ _ r1⟩
          · exact ⟨k, j, i, hk, by omega, by omega, inT_of_tr _ _ _ _ s1⟩
theorem tr_ne (p a b c : Pt) (h : trS p a b c) : ¬ (tnI a b p = 0) ∧ ¬ (tnI b c p = 0) ∧ ¬ (tnI c a p = 0) := by
  rcases h with h | h <;> omega
/-- The reference's search. -/
theorem in_ref (p : Pt) (n : Nat) (f : Nat → Pt) : (∃ i k, i ≤ k ∧ k < n ∧ (onS p (f i) (f k) ∨ ∃ j, k < j ∧ j < n ∧ trS p (f i) (f k) (f j))) ↔ InQ p n f := by
  constructor
  · rintro ⟨i, k, h1, h2, h | ⟨j, h3, h4, h⟩⟩
    · exact .inl ⟨i, k, by omega, h2, h⟩
    · exact .inr ⟨i, k, j, by omega, h2, h4, h⟩
  · rintro (⟨i, j, hi, hj, h⟩ | ⟨i, j, k, hi, hj, hk, h⟩)
    · by_cases e : i ≤ j
      · exact ⟨i, j, e, hj, .inl h⟩
      · exact ⟨j, i, by omega, hi, .inl (onS_symm p _ _ h)⟩
    · have ne := tr_ne p _ _ _ h
      have n1 : i ≠ j := fun e => ne.1 (by rw [e]; exact tn_same _ _)
      have n2 : j ≠ k := fun e => ne.2.1 (by rw [e]; exact tn_same _ _)
      have n3 : k ≠ i := fun e => ne.2.2 (by rw [e]; exact tn_same _ _)
      have r1 := trS_rot p _ _ _ h
      have r2 := trS_rot p _ _ _ r1
      have s0 := trS_swap p _ _ _ h
      have s1 := trS_swap p _ _ _ r1
      have s2 := trS_swap p _ _ _ r2
      by_cases a1 : i < j
      · by_cases a2 : j < k
        · exact ⟨i, j, by omega, hj, .inr ⟨k, a2, hk, h⟩⟩
        · by_cases a3 : i < k
          · exact ⟨i, k, by omega, hk, .inr ⟨j, by omega, hj, s2⟩⟩
          · exact ⟨k, i, by omega, hi, .inr ⟨j, a1, hj, r2⟩⟩
      · by_cases a2 : i < k
        · exact ⟨j, i, by omega, hi, .inr ⟨k, a2, hk, s0⟩⟩
        · by_cases a3 : j < k
          · exact ⟨j, k, by omega, hk, .inr ⟨i, by omega, hi, r1⟩⟩
          · exact ⟨k, j, by omega, hj, .inr ⟨i, by omega, hi, s1⟩⟩
theorem not_in_beyond (p : Pt) (n : Nat) (f : Nat → Pt) (h : ∀ i, i < n → (f i).x < p.x) : ¬ InQ p n f := by
  rintro (⟨i, j, hi, hj, g⟩ | ⟨i, j, k, hi, hj, hk, g⟩)
  · have a := h i hi
    have b := h j hj
    have := g.2.1
    have := Int.mul_pos (show 0 < p.x - (f i).x by omega) (show 0 < p.x - (f j).x by omega)
    omega
  · have := (inT_of_tr p _ _ _ g).2.1
    have a := h i hi
    have b := h j hj
    have c := h k hk
    unfold amg at this
    omega
theorem in_own (n : Nat) (f : Nat → Pt) (i : Nat) (hi : i < n) : InQ (f i) n f := .inl ⟨i, i, hi, hi, by unfold onS tnI; refine ⟨by grind, by grind, by grind⟩⟩
theorem in_more (p : Pt) (n m : Nat) (f g : Nat → Pt) (hm : n ≤ m) (hg : ∀ i, i < n → g i = f i) (h : InQ p n f) : InQ p m g := by
  rcases h with ⟨i, j, hi, hj, h⟩ | ⟨i, j, k, hi, hj, hk, h⟩
  · exact .inl ⟨i, j, by omega, by omega, by rw [hg i hi, hg j hj]; exact h⟩
  · exact .inr ⟨i, j, k, by omega, by omega, by omega, by rw [hg i hi, hg j hj, hg k hk]; exact h⟩
theorem in_mid (m a b : Pt) (hx : 2 * m.x = a.x + b.x) (hy : 2 * m.y = a.y + b.y) : onS m a b := by
  refine ⟨?_, ?_, ?_⟩
  · unfold tnI
    have e : b.x = 2 * m.x - a.x := by omega
    have e2 : b.y = 2 * m.y - a.y := by omega
    rw [e, e2]; grind
  · rw [mul_nonpos_iff]; omega
  · rw [mul_nonpos_iff]; omega
def Pt.mov (p d : Pt) : Pt := ⟨p.x + d.x, p.y + d.y, p.z + d.z⟩
theorem tn_mov (a b c d : Pt) : tnI (a.mov d) (b.mov d) (c.mov d) = tnI a b c := by unfold tnI Pt.mov; grind
theorem sq_mov (a b d : Pt) : sqL (a.mov d) (b.mov d) = sqL a b := by
  unfold sqL Pt.mov
  have e1 : b.x + d.x - (a.x + d.x) = b.x - a.x := by omega
  have e2 : b.y + d.y - (a.y + d.y) = b.y - a.y := by omega
  have e3 : b.z + d.z - (a.z + d.z) = b.z - a.z := by omega
  simp only [e1, e2, e3]
theorem sub_mov (a b d : Pt) : (a.mov d).sub (b.mov d) = a.sub b := by
  unfold Pt.sub Pt.mov
  have e1 : a.x + d.x - (b.x + d.x) = a.x - b.x := by omega
  have e2 : a.y + d.y - (b.y + d.y) = a.y - b.y := by omega
  have e3 : a.z + d.z - (b.z + d.z) = a.z - b.z := by omega
  simp only [e1, e2, e3]
theorem on_mov (p a b d : Pt) : onS (p.mov d) (a.mov d) (b.mov d) ↔ onS p a b := by
  unfold onS
  rw [tn_mov]
  have e1 : (p.mov d).x - (a.mov d).x = p.x - a.x := by unfold Pt.mov; show p.x + d.x - (a.x + d.x) = _; omega
  have e2 : (p.mov d).y - (a.mov d).y = p.y - a.y := by unfold Pt.mov; show p.y + d.y - (a.y + d.y) = _; omega
  have e3 : (p.mov d).x - (b.mov d).x = p.x - b.x := by unfold Pt.mov; show p.x + d.x - (b.x + d.x) = _; omega
  have e4 : (p.mov d).y - (b.mov d).y = p.y - b.y := by unfold Pt.mov; show p.y + d.y - (b.y + d.y) = _; omega
  rw [e1, e2, e3, e4]
theorem in_mov (p d : Pt) (n : Nat) (f : Nat → Pt) : InQ (p.mov d) n (fun i => (f i).mov d) ↔ InQ p n f := by
  unfold InQ trS
  simp only [on_mov, tn_mov]
theorem flat_mov (d : Pt) (n : Nat) (f : Nat → Pt) : FlatQ n (fun i => (f i).mov d) ↔ FlatQ n f := by
  unfold FlatQ
  simp only [sub_mov]
theorem flat_sub (n m : Nat) (f g : Nat → Pt) (r : Nat → Nat) (hr : ∀ i, i < m → r i < n ∧ g i = f (r i)) (h : FlatQ n f) : FlatQ m g := by
  intro a i j k ha hi hj hk
  rw [(hr a ha).2, (hr i hi).2, (hr j hj).2, (hr k hk).2]
  exact h _ _ _ _ (hr a ha).1 (hr i hi).1 (hr j hj).1 (hr k hk).1
theorem flat_three (n : Nat) (f : Nat → Pt) (hn : n ≤ 3) : FlatQ n f := by
  rw [← flat_of_ord]
  intro i k j h1 h2 h3
  have : i = 0 := by omega
  rw [this]; exact det_zero1 _ _ _
theorem flat_level (n : Nat) (f : Nat → Pt) (z : Int) (h : ∀ i, i < n → (f i).z = z) : FlatQ n f := by
  intro a i j k ha hi hj hk
  unfold det3 Pt.crs Pt.dot Pt.sub
  simp only [h a ha, h i hi, h j hj, h k hk]
  grind
/-- No way over a third point is shorter. -/
theorem way (a b c : Pt) (x u v : Int) (hx : x * x ≤ sqL a b) (hu : sqL a c ≤ u * u) (hv : sqL c b ≤ v * v) (h0 : 0 ≤ u) (h1 : 0 ≤ v) : x ≤ u + v := by
  obtain ⟨p1, hp1⟩ : ∃ t, t = c.x - a.x := ⟨_, rfl⟩
  obtain ⟨p2, hp2⟩ : ∃ t, t = c.y - a.y := ⟨_, rfl⟩
  obtain ⟨p3, hp3⟩ : ∃ t, t = c.z - a.z := ⟨_, rfl⟩
  obtain ⟨q1, hq1⟩ : ∃ t, t = b.x - c.x := ⟨_, rfl⟩
  obtain ⟨q2, hq2⟩ : ∃ t, t = b.y - c.y := ⟨_, rfl⟩
  obtain ⟨q3, hq3⟩ : ∃ t, t = b.z - c.z := ⟨_, rfl⟩
  unfold sqL at hx hu hv
  rw [show b.x - a.x = p1 + q1 by omega, show b.y - a.y = p2 + q2 by omega, show b.z - a.z = p3 + q3 by omega] at hx
  rw [← hp1, ← hp2, ← hp3] at hu
  rw [← hq1, ← hq2, ← hq3] at hv
  obtain ⟨A, hA⟩ : ∃ t, t = p1 * p1 + p2 * p2 + p3 * p3 := ⟨_, rfl⟩
  obtain ⟨B, hB⟩ : ∃ t, t = q1 * q1 + q2 * q2 + q3 * q3 := ⟨_, rfl⟩
  obtain ⟨D, hD⟩ : ∃ t, t = p1 * q1 + p2 * q2 + p3 * q3 := ⟨_, rfl⟩
  have sqn : ∀ t : Int, 0 ≤ t * t := fun t => by rcases Int.le_total 0 t with k | k; · exact Int.mul_nonneg k k
                                                 · exact Int.mul_nonneg_of_nonpos_of_nonpos k k
  have hA0 : 0 ≤ A := by have := sqn p1; have := sqn p2; have := sqn p3; omega
  have hB0 : 0 ≤ B := by have := sqn q1; have := sqn q2; have := sqn q3; omega
  have cs : D * D ≤ A * B := by
    have e : A * B - D * D = (p1 * q2 - p2 * q1) * (p1 * q2 - p2 * q1) + (p2 * q3 - p3 * q2) * (p2 * q3 - p3 * q2) + (p3 * q1 - p1 * q3) * (p3 * q1 - p1 * q3) := by rw [hA, hB, hD]; grind
    have := sqn (p1 * q2 - p2 * q1); have := sqn (p2 * q3 - p3 * q2); have := sqn (p3 * q1 - p1 * q3)
    omega
  have hAu : A ≤ u * u := by omega
  have hBv : B ≤ v * v := by omega
  have ab : A * B ≤ (u * v) * (u * v) := by
    have k1 := Int.mul_le_mul hAu hBv hB0 (sqn u)
    have : u * u * (v * v) = (u * v) * (u * v) := by grind
    omega
  have huv : 0 ≤ u * v := Int.mul_nonneg h0 h1
  have hDuv : D ≤ u * v := by
    refine Decidable.byContradiction fun hn => ?_
    have k1 : u * v < D := by omega
    have k2 : (u * v) * (u * v) < D * D := by
      have a1 : (u * v) * (u * v) ≤ (u * v) * D := Int.mul_le_mul_of_nonneg_left (by omega) huv
      have a2 : (u * v) * D < D * D := Int.mul_lt_mul_of_pos_right k1 (by omega)
      omega
    omega
  have hxx : x * x ≤ (u + v) * (u + v) := by
    have e : (p1 + q1) * (p1 + q1) + (p2 + q2) * (p2 + q2) + (p3 + q3) * (p3 + q3) = A + B + 2 * D := by rw [hA, hB, hD]; grind
    have e2 : (u + v) * (u + v) = u * u + v * v + 2 * (u * v) := by grind
    omega
  refine Decidable.byContradiction fun hn => ?_
  have k1 : u + v < x := by omega
  have a1 : (u + v) * (u + v) ≤ (u + v) * x := Int.mul_le_mul_of_nonneg_left (by omega) (by omega)
  have a2 : (u + v) * x < x * x := Int.mul_lt_mul_of_pos_right k1 (by omega)
  omega
end Go.Proofs.YtcghjjfpjiacfaaDoor
