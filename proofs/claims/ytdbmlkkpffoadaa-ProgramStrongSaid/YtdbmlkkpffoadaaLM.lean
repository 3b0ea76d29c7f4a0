/- Determinants of integer vectors, as far as elimination without fractions wants them: linear in each vector, zero where two are equal, 1 at the unit vectors; a bound. Determinants by coordinates; Cramer's rule; what elimination without fractions keeps. What elimination without fractions keeps: all numbers are determinants, and each division leaves no remainder. Layer 4: the invariant of the elimination, column by column, and the bound of its numbers. Layer 4: what an elimination says when it has ended. -/
import Derived.Lib.Hide
namespace Go.Proofs.Ytdbmlkkpffoadaa
set_option linter.unusedVariables false

/-- The sum of f 0 .. f (n - 1). -/
def sumN : Nat → (Nat → Int) → Int
  | 0, _ => 0
  | n + 1, f => sumN n f + f n
theorem sumN_congr {n : Nat} {f g : Nat → Int} (h : ∀ i, i < n → f i = g i) : sumN n f = sumN n g := by
  induction n with
  | zero => rfl
  | succ n ih => unfold sumN; rw [ih (fun i hi => h i (by omega)), h n (by omega)]
theorem sumN_zero {n : Nat} {f : Nat → Int} (h : ∀ i, i < n → f i = 0) : sumN n f = 0 := by
  induction n with
  | zero => rfl
  | succ n ih => unfold sumN; rw [ih (fun i hi => h i (by omega)), h n (by omega)]; rfl
theorem sumN_add (n : Nat) (f g : Nat → Int) : sumN n (fun i => f i + g i) = sumN n f + sumN n g := by
  induction n with
  | zero => rfl
  | succ n ih =>
    show sumN n (fun i => f i + g i) + (f n + g n) = sumN n f + f n + (sumN n g + g n)
    rw [ih]; omega
theorem sumN_mul (n : Nat) (a : Int) (f : Nat → Int) : sumN n (fun i => a * f i) = a * sumN n f := by
  induction n with
  | zero => exact (Int.mul_zero a).symm
  | succ n ih => unfold sumN; rw [ih, Int.mul_add]
theorem sumN_one {n k : Nat} {f : Nat → Int} (hk : k < n) (h : ∀ i, i < n → i ≠ k → f i = 0) : sumN n f = f k := by
  induction n with
  | zero => omega
  | succ n ih =>
    unfold sumN
    by_cases e : k = n
    · subst e
      rw [sumN_zero (fun i hi => h i (by omega) (by omega))]; omega
    · rw [ih (by omega) (fun i hi => h i (by omega)), h n (by omega) (by omega)]; omega
theorem sumN_two {n j k : Nat} {f : Nat → Int} (hj : j < k) (hk : k < n) (h : ∀ i, i < n → i ≠ j → i ≠ k → f i = 0) : sumN n f = f j + f k := by
  induction n with
  | zero => omega
  | succ n ih =>
    unfold sumN
    by_cases e : k = n
    · subst e
      rw [sumN_one hj (fun i hi hn => h i (by omega) hn (by omega))]
    · rw [ih (by omega) (fun i hi => h i (by omega)), h n (by omega) (by omega) (by omega)]; omega
theorem sumN_abs {n : Nat} {f : Nat → Int} {b : Int} (h : ∀ i, i < n → -b ≤ f i ∧ f i ≤ b) : -(n * b) ≤ sumN n f ∧ sumN n f ≤ n * b := by
  induction n with
  | zero => simp [sumN]
  | succ n ih =>
    unfold sumN
    have h1 := ih (fun i hi => h i (by omega))
    have h2 := h n (by omega)
    have e : ((n + 1 : Nat) : Int) * b = n * b + b := by rw [Int.natCast_succ, Int.add_mul, Int.one_mul]
    rw [e]
    omega

abbrev Vec := Nat → Int
abbrev Sys := Nat → Vec
/-- The system with the vector k replaced. -/
def updV (U : Sys) (k : Nat) (x : Vec) : Sys := fun i => if i = k then x else U i
/-- The system without the vector k. -/
def skipV (k : Nat) (U : Sys) : Sys := fun i => if i < k then U i else U (i + 1)
/-- 1 or -1. -/
def sgP : Nat → Int
  | 0 => 1
  | n + 1 => - sgP n
theorem sgP_two (n : Nat) : sgP (n + n) = 1 := by
  induction n with
  | zero => rfl
  | succ n ih => rw [show n + 1 + (n + 1) = n + n + 1 + 1 by omega]; unfold sgP; unfold sgP; rw [ih]; rfl
theorem sgP_cases (n : Nat) : sgP n = 1 ∨ sgP n = -1 := by
  induction n with
  | zero => exact .inl rfl
  | succ n ih => unfold sgP; rcases ih with h | h <;> rw [h] <;> simp
/-- The determinant of m vectors of m numbers. -/
def detN : Nat → Sys → Int
  | 0, _ => 1
  | m + 1, U => sumN (m + 1) fun k => sgP (m + k) * (U k m * detN m (skipV k U))

theorem updV_self (U : Sys) (k : Nat) (x : Vec) : updV U k x k = x := if_pos rfl
theorem updV_ne (U : Sys) {k i : Nat} (x : Vec) (h : i ≠ k) : updV U k x i = U i := if_neg h
theorem updV_updV (U : Sys) (k : Nat) (x y : Vec) : updV (updV U k x) k y = updV U k y := by
  funext i; unfold updV; split <;> rfl
theorem updV_comm (U : Sys) {k l : Nat} (x y : Vec) (h : k ≠ l) : updV (updV U k x) l y = updV (updV U l y) k x := by
  funext i; unfold updV; by_cases h1 : i = k <;> by_cases h2 : i = l <;> simp [h1, h2]
  · omega
  · subst h1; simp [h]
  · subst h2; simp [Ne.symm h]
theorem updV_own (U : Sys) (k : Nat) : updV U k (U k) = U := by
  funext i; unfold updV; split
  · rename_i h; rw [h]
  · rfl
theorem skip_self (U : Sys) (k : Nat) (x : Vec) : skipV k (updV U k x) = skipV k U := by
  funext i; unfold skipV updV; split
  · rw [if_neg (by omega)]
  · rw [if_neg (by omega)]
theorem skip_lt (U : Sys) {k j : Nat} (x : Vec) (h : k < j) : skipV j (updV U k x) = updV (skipV j U) k x := by
  funext i; unfold skipV updV
  by_cases h1 : i = k
  · subst h1; simp [h]
  · simp only [h1, if_false]
    split
    · rfl
    · rw [if_neg (by omega)]
theorem skip_gt (U : Sys) {k j : Nat} (x : Vec) (h : j < k) : skipV j (updV U k x) = updV (skipV j U) (k - 1) x := by
  funext i; unfold skipV updV
  by_cases h1 : i = k - 1
  · subst h1; rw [if_neg (by omega), if_pos (by omega), if_pos rfl]
  · rw [if_neg h1]
    split
    · rename_i h2; rw [if_neg (by omega)]; exact (if_pos h2).symm
    · rename_i h2; rw [if_neg (by omega)]; exact (if_neg h2).symm

/-- Only the first m numbers of the first m vectors count. -/
theorem det_congr : ∀ (m : Nat) {U V : Sys}, (∀ i, i < m → ∀ c, c < m → U i c = V i c) → detN m U = detN m V := by
  intro m
  induction m with
  | zero => intro U V _; rfl
  | succ m ih =>
    intro U V h
    unfold detN
    refine sumN_congr fun k hk => ?_
    rw [h k hk m (by omega), ih (U := skipV k U) (V := skipV k V) (fun i hi c hc => by
      unfold skipV
      split
      · exact h i (by omega) c (by omega)
      · exact h (i + 1) (by omega) c (by omega))]

/-- Linear in each vector. -/
theorem det_lin : ∀ (m : Nat) (U : Sys) (k : Nat) (a b : Int) (x y : Vec), k < m →
    detN m (updV U k (fun c => a * x c + b * y c)) = a * detN m (updV U k x) + b * detN m (updV U k y) := by
  intro m
  induction m with
  | zero => intro U k a b x y h; omega
  | succ m ih =>
    intro U k a b x y h
    unfold detN
    rw [← sumN_mul, ← sumN_mul, ← sumN_add]
    refine sumN_congr fun j hj => ?_
    by_cases e : j = k
    · subst e
      simp only [updV_self, skip_self]
      generalize detN m (skipV j U) = d
      generalize sgP (m + j) = s
      generalize x m = p
      generalize y m = q
      grind
    · simp only [updV_ne U _ e]
      have ih2 : detN m (skipV j (updV U k (fun c => a * x c + b * y c))) = a * detN m (skipV j (updV U k x)) + b * detN m (skipV j (updV U k y)) := by
        by_cases hlt : k < j
        · rw [skip_lt U _ hlt, skip_lt U _ hlt, skip_lt U _ hlt]; exact ih _ _ _ _ _ _ (by omega)
        · rw [skip_gt U _ (by omega), skip_gt U _ (by omega), skip_gt U _ (by omega)]; exact ih _ _ _ _ _ _ (by omega)
      rw [ih2]
      generalize detN m (skipV j (updV U k x)) = d
      generalize detN m (skipV j (updV U k y)) = d2
      generalize sgP (m + j) = s
      generalize U j m = p
      grind
theorem det_mul (m : Nat) (U : Sys) (k : Nat) (a : Int) (x : Vec) (h : k < m) : detN m (updV U k (fun c => a * x c)) = a * detN m (updV U k x) := by
  have := det_lin m U k a 0 x x h
  rw [Int.zero_mul, Int.add_zero] at this
  rw [← this]; congr 2; funext c; omega
theorem det_zero (m : Nat) (U : Sys) (k : Nat) (h : k < m) (hz : ∀ c, c < m → U k c = 0) : detN m U = 0 := by
  have e : detN m U = detN m (updV U k (fun c => 0 * U k c)) := det_congr m (fun i hi c hc => by
    unfold updV; split
    · rename_i g; subst g; show U i c = 0 * U i c; rw [hz c hc, Int.mul_zero]
    · rfl)
  rw [e, det_mul m U k 0 (U k) h, Int.zero_mul]
/-- Linear over a sum of n vectors. -/
theorem det_sum (m : Nat) (U : Sys) (k : Nat) (h : k < m) (n : Nat) (f : Nat → Int) (x : Nat → Vec) : detN m (updV U k (fun c => sumN n fun i => f i * x i c)) = sumN n fun i => f i * detN m (updV U k (x i)) := by
  induction n with
  | zero => exact det_zero m _ k h (fun c _ => by rw [updV_self]; rfl)
  | succ n ih =>
    show detN m (updV U k (fun c => (sumN n fun i => f i * x i c) + f n * x n c)) = (sumN n fun i => f i * detN m (updV U k (x i))) + f n * detN m (updV U k (x n))
    rw [← ih]
    have := det_lin m U k 1 (f n) (fun c => sumN n fun i => f i * x i c) (x n) h
    rw [Int.one_mul] at this
    rw [← this]; congr 2; funext c; omega

/-- Zero where two neighbours are equal. -/
theorem det_next : ∀ (m : Nat) (U : Sys) (k : Nat), k + 1 < m → U k = U (k + 1) → detN m U = 0 := by
  intro m
  induction m with
  | zero => intro U k h; omega
  | succ m ih =>
    intro U k h e
    unfold detN
    rw [sumN_two (j := k) (k := k + 1) (by omega) h]
    · have es : skipV k U = skipV (k + 1) U := by
        funext i; unfold skipV
        by_cases h1 : i < k
        · rw [if_pos h1, if_pos (by omega)]
        · rw [if_neg h1]
          by_cases h2 : i = k
          · subst h2; rw [if_pos (by omega)]; exact e.symm
          · rw [if_neg (by omega)]
      rw [es, e, show m + (k + 1) = m + k + 1 by omega, show sgP (m + k + 1) = - sgP (m + k) from rfl]
      generalize sgP (m + k) = s
      generalize U (k + 1) m * detN m (skipV (k + 1) U) = t
      grind
    · intro j hj n1 n2
      have hz : detN m (skipV j U) = 0 := by
        by_cases hlt : j < k
        · refine ih _ (k - 1) (by omega) ?_
          unfold skipV
          rw [if_neg (by omega), if_neg (by omega), show k - 1 + 1 = k by omega]; exact e
        · refine ih _ k (by omega) ?_
          unfold skipV
          rw [if_pos (by omega), if_pos (by omega)]; exact e
      rw [hz, Int.mul_zero, Int.mul_zero]
/-- Two neighbours exchanged. -/
theorem det_swap1 (m : Nat) (U : Sys) (k : Nat) (x y : Vec) (h : k + 1 < m) : detN m (updV (updV U k x) (k + 1) y) = - detN m (updV (updV U k y) (k + 1) x) := by
  have hs : ∀ p q : Vec, detN m (updV (updV U k p) (k + 1) q) = detN m (updV (updV U k p) (k + 1) q) := fun _ _ => rfl
  have z : ∀ p : Vec, detN m (updV (updV U k p) (k + 1) p) = 0 := fun p => det_next m _ k h (by rw [updV_self, updV_ne _ _ (by omega), updV_self])
  have l1 : ∀ q : Vec, detN m (updV (updV U k (fun c => 1 * x c + 1 * y c)) (k + 1) q) = 1 * detN m (updV (updV U k x) (k + 1) q) + 1 * detN m (updV (updV U k y) (k + 1) q) := fun q => by
    rw [updV_comm U _ q (by omega), updV_comm U _ q (by omega), updV_comm U _ q (by omega)]
    exact det_lin m _ k 1 1 x y (by omega)
  have a := z (fun c => 1 * x c + 1 * y c)
  rw [det_lin m _ (k + 1) 1 1 x y h, l1 x, l1 y, z x, z y] at a
  omega
/-- Zero where two vectors are equal. -/
theorem det_alt : ∀ (d m : Nat) (U : Sys) (i : Nat), i + d + 1 < m → U i = U (i + d + 1) → detN m U = 0 := by
  intro d
  induction d with
  | zero => intro m U i h e; exact det_next m U i h e
  | succ d ih =>
    intro m U i h e
    have e1 : U = updV (updV U (i + d + 1) (U (i + d + 1))) (i + d + 1 + 1) (U (i + d + 1 + 1)) := by rw [updV_own, updV_own]
    rw [e1, det_swap1 m U (i + d + 1) _ _ (by omega)]
    rw [ih m _ i (by omega) ?_]
    · rfl
    · rw [updV_ne _ _ (by omega), updV_ne _ _ (by omega), updV_ne _ _ (by omega), updV_self]
      exact e
theorem det_eq (m : Nat) (U : Sys) (i j : Nat) (hi : i < m) (hj : j < m) (hne : i ≠ j) (e : U i = U j) : detN m U = 0 := by
  rcases Nat.lt_or_gt_of_ne hne with h | h
  · exact det_alt (j - i - 1) m U i (by omega) (by rw [show i + (j - i - 1) + 1 = j by omega]; exact e)
  · exact det_alt (i - j - 1) m U j (by omega) (by rw [show j + (i - j - 1) + 1 = i by omega]; exact e.symm)
/-- Two vectors exchanged. -/
theorem det_swap (m : Nat) (U : Sys) (i j : Nat) (x y : Vec) (hi : i < m) (hj : j < m) (hne : i ≠ j) : detN m (updV (updV U i x) j y) = - detN m (updV (updV U i y) j x) := by
  have z : ∀ p : Vec, detN m (updV (updV U i p) j p) = 0 := fun p => det_eq m _ i j hi hj hne (by rw [updV_self, updV_ne _ _ hne, updV_self])
  have l1 : ∀ q : Vec, detN m (updV (updV U i (fun c => 1 * x c + 1 * y c)) j q) = 1 * detN m (updV (updV U i x) j q) + 1 * detN m (updV (updV U i y) j q) := fun q => by
    rw [updV_comm U _ q hne, updV_comm U _ q hne, updV_comm U _ q hne]
    exact det_lin m _ i 1 1 x y hi
  have a := z (fun c => 1 * x c + 1 * y c)
  rw [det_lin m _ j 1 1 x y hj, l1 x, l1 y, z x, z y] at a
  omega

/-- The unit vectors. -/
def unitV : Sys := fun i c => if c = i then 1 else 0
theorem det_unit : ∀ (m k : Nat) (x : Vec), k < m → detN m (updV unitV k x) = x k := by
  have h1 : ∀ m, detN m unitV = 1 := by
    intro m
    induction m with
    | zero => rfl
    | succ m ih =>
      unfold detN
      rw [sumN_one (k := m) (by omega)]
      · rw [sgP_two, show unitV m m = 1 from if_pos rfl, Int.one_mul, Int.one_mul, ← ih]
        refine det_congr m fun i hi c hc => ?_
        unfold skipV; rw [if_pos hi]
      · intro i hi hn
        rw [show unitV i m = 0 from if_neg (by omega)]; simp
  intro m
  induction m with
  | zero => intro k x h; omega
  | succ m ih =>
    intro k x h
    unfold detN
    by_cases e : k = m
    · subst e
      rw [sumN_one (k := k) (by omega)]
      · rw [sgP_two, updV_self, skip_self, Int.one_mul, show detN k (skipV k unitV) = 1 from ?_, Int.mul_one]
        rw [← h1 k]
        refine det_congr k fun i hi c hc => ?_
        unfold skipV; rw [if_pos hi]
      · intro i hi hn
        rw [updV_ne _ _ hn, show unitV i k = 0 from if_neg (by omega)]; simp
    · rw [sumN_two (j := k) (k := m) (by omega) (by omega)]
      · rw [sgP_two, updV_ne unitV x (by omega : m ≠ k), show unitV m m = 1 from if_pos rfl]
        have z : detN m (skipV k (updV unitV k x)) = 0 := by
          rw [skip_self]
          refine det_zero m _ (m - 1) (by omega) fun c hc => ?_
          unfold skipV; rw [if_neg (by omega), show m - 1 + 1 = m by omega]
          exact if_neg (by omega)
        have y : detN m (skipV m (updV unitV k x)) = x k := by
          rw [← ih k x (by omega)]
          refine det_congr m fun i hi c hc => ?_
          unfold skipV; rw [if_pos hi]
        rw [z, y]; omega
      · intro i hi n1 n2
        rw [updV_ne _ _ n1, show unitV i m = 0 from if_neg (by omega)]; simp
theorem det_one (m : Nat) : detN m unitV = 1 := by
  cases m with
  | zero => rfl
  | succ m =>
    have := det_unit (m + 1) 0 (unitV 0) (by omega)
    rw [updV_own] at this
    rw [this]; rfl

/-- The product of c 0 .. c (n - 1). -/
def prodN : Nat → (Nat → Int) → Int
  | 0, _ => 1
  | n + 1, f => prodN n f * f n
def factN : Nat → Int
  | 0 => 1
  | 1 => 1
  | 2 => 2
  | 3 => 4
  | n + 4 => (n + 4 : Nat) * factN (n + 3)
theorem fact_step {m : Nat} (h : m ≠ 2) : factN (m + 1) = ((m + 1 : Nat) : Int) * factN m := by
  match m, h with
  | 0, _ => rfl
  | 1, _ => rfl
  | n + 3, _ => rfl
def skipC (k : Nat) (c : Nat → Int) : Nat → Int := fun i => if i < k then c i else c (i + 1)
theorem prod_skip : ∀ (n : Nat) (c : Nat → Int) (k : Nat), k ≤ n → prodN (n + 1) c = prodN n (skipC k c) * c k := by
  intro n
  induction n with
  | zero => intro c k h; rw [show k = 0 by omega]; rfl
  | succ n ih =>
    intro c k h
    by_cases e : k = n + 1
    · subst e
      show prodN (n + 1) c * c (n + 1) = _
      congr 1
      have : ∀ j, j ≤ n + 1 → prodN j c = prodN j (skipC (n + 1) c) := by
        intro j
        induction j with
        | zero => intro _; rfl
        | succ j ihj => intro hj; unfold prodN; rw [ihj (by omega)]; congr 1; unfold skipC; rw [if_pos (by omega)]
      exact this _ (by omega)
    · show prodN (n + 1) c * c (n + 1) = prodN n (skipC k c) * skipC k c n * c k
      rw [ih c k (by omega), show skipC k c n = c (n + 1) from if_neg (by omega), Int.mul_assoc, Int.mul_assoc, Int.mul_comm (c k)]
theorem prod_nn {n : Nat} {c : Nat → Int} (h : ∀ i, i < n → 0 ≤ c i) : 0 ≤ prodN n c := by
  induction n with
  | zero => show (0 : Int) ≤ 1; omega
  | succ n ih => exact Int.mul_nonneg (ih fun i hi => h i (by omega)) (h n (by omega))
theorem fact_nn : ∀ n, 0 ≤ factN n
  | 0 => by decide
  | 1 => by decide
  | 2 => by decide
  | 3 => by decide
  | n + 4 => Int.mul_nonneg (by omega) (fact_nn (n + 3))
theorem abs_mulL {a b x y : Int} (ha : -x ≤ a ∧ a ≤ x) (hb : -y ≤ b ∧ b ≤ y) : -(x * y) ≤ a * b ∧ a * b ≤ x * y := by
  have h1 : (a * b).natAbs ≤ (x * y).natAbs := by
    rw [Int.natAbs_mul, Int.natAbs_mul]
    exact Nat.mul_le_mul (by omega) (by omega)
  have h2 : 0 ≤ x * y := Int.mul_nonneg (by omega) (by omega)
  omega
/-- A bound: a number times the product of the vectors' bounds (4 for three vectors, so 480 for six). -/
theorem cross4 (b0 b1 b2 c0 c1 c2 p q s0 s1 s2 : Int) (hb0 : -p ≤ b0 ∧ b0 ≤ p) (hb1 : -p ≤ b1 ∧ b1 ≤ p) (hb2 : -p ≤ b2 ∧ b2 ≤ p) (hc0 : -q ≤ c0 ∧ c0 ≤ q) (hc1 : -q ≤ c1 ∧ c1 ≤ q) (hc2 : -q ≤ c2 ∧ c2 ≤ q) (h0 : s0 = 1 ∨ s0 = -1) (h1 : s1 = 1 ∨ s1 = -1) (h2 : s2 = 1 ∨ s2 = -1) :
    s0 * (b1 * c2 - b2 * c1) + s1 * (b2 * c0 - b0 * c2) + s2 * (b0 * c1 - b1 * c0) ≤ 4 * (p * q) := by
  have e : s0 * (b1 * c2 - b2 * c1) + s1 * (b2 * c0 - b0 * c2) + s2 * (b0 * c1 - b1 * c0) = b0 * (s2 * c1 - s1 * c2) + b1 * (s0 * c2 - s2 * c0) + b2 * (s1 * c0 - s0 * c1) := by grind
  rw [e]
  obtain ⟨y0, hy0⟩ : ∃ y, s2 * c1 - s1 * c2 = y := ⟨_, rfl⟩
  obtain ⟨y1, hy1⟩ : ∃ y, s0 * c2 - s2 * c0 = y := ⟨_, rfl⟩
  obtain ⟨y2, hy2⟩ : ∃ y, s1 * c0 - s0 * c1 = y := ⟨_, rfl⟩
  rw [hy0, hy1, hy2]
  have g0 := abs_mulL hb0 (show -(y0.natAbs : Int) ≤ y0 ∧ y0 ≤ y0.natAbs by omega)
  have g1 := abs_mulL hb1 (show -(y1.natAbs : Int) ≤ y1 ∧ y1 ≤ y1.natAbs by omega)
  have g2 := abs_mulL hb2 (show -(y2.natAbs : Int) ≤ y2 ∧ y2 ≤ y2.natAbs by omega)
  have hs : (y0.natAbs : Int) + y1.natAbs + y2.natAbs ≤ 4 * q := by
    rcases h0 with rfl | rfl <;> rcases h1 with rfl | rfl <;> rcases h2 with rfl | rfl <;> omega
  have hp : 0 ≤ p := by omega
  have g3 := Int.mul_le_mul_of_nonneg_left hs hp
  have e2 : p * ((y0.natAbs : Int) + y1.natAbs + y2.natAbs) = p * y0.natAbs + p * y1.natAbs + p * y2.natAbs := by grind
  have e3 : p * (4 * q) = 4 * (p * q) := by grind
  omega
theorem det3_abs (U : Sys) (c : Nat → Int) (h : ∀ k, k < 3 → ∀ i, i < 3 → - c k ≤ U k i ∧ U k i ≤ c k) : - (4 * prodN 3 c) ≤ detN 3 U ∧ detN 3 U ≤ 4 * prodN 3 c := by
  have e : detN 3 U = U 0 0 * (U 1 1 * U 2 2 - U 1 2 * U 2 1) + U 0 1 * (U 1 2 * U 2 0 - U 1 0 * U 2 2) + U 0 2 * (U 1 0 * U 2 1 - U 1 1 * U 2 0) := by
    simp [detN, sumN, sgP, skipV]
    grind
  have ep : prodN 3 c = c 0 * c 1 * c 2 := by simp [prodN]
  rw [e, ep]
  have a0 := h 0 (by omega) 0 (by omega)
  have a1 := h 0 (by omega) 1 (by omega)
  have a2 := h 0 (by omega) 2 (by omega)
  have cr := fun s0 s1 s2 => cross4 (U 1 0) (U 1 1) (U 1 2) (U 2 0) (U 2 1) (U 2 2) (c 1) (c 2) s0 s1 s2 (h 1 (by omega) 0 (by omega)) (h 1 (by omega) 1 (by omega)) (h 1 (by omega) 2 (by omega)) (h 2 (by omega) 0 (by omega)) (h 2 (by omega) 1 (by omega)) (h 2 (by omega) 2 (by omega))
  generalize U 1 1 * U 2 2 - U 1 2 * U 2 1 = x0 at *
  generalize U 1 2 * U 2 0 - U 1 0 * U 2 2 = x1 at *
  generalize U 1 0 * U 2 1 - U 1 1 * U 2 0 = x2 at *
  have g0 := abs_mulL a0 (show -(x0.natAbs : Int) ≤ x0 ∧ x0 ≤ x0.natAbs by omega)
  have g1 := abs_mulL a1 (show -(x1.natAbs : Int) ≤ x1 ∧ x1 ≤ x1.natAbs by omega)
  have g2 := abs_mulL a2 (show -(x2.natAbs : Int) ≤ x2 ∧ x2 ≤ x2.natAbs by omega)
  have hs : (x0.natAbs : Int) + x1.natAbs + x2.natAbs ≤ 4 * (c 1 * c 2) := by
    have c1 := cr 1 1 1 (.inl rfl) (.inl rfl) (.inl rfl)
    have c2 := cr 1 1 (-1) (.inl rfl) (.inl rfl) (.inr rfl)
    have c3 := cr 1 (-1) 1 (.inl rfl) (.inr rfl) (.inl rfl)
    have c4 := cr 1 (-1) (-1) (.inl rfl) (.inr rfl) (.inr rfl)
    have c5 := cr (-1) 1 1 (.inr rfl) (.inl rfl) (.inl rfl)
    have c6 := cr (-1) 1 (-1) (.inr rfl) (.inl rfl) (.inr rfl)
    have c7 := cr (-1) (-1) 1 (.inr rfl) (.inr rfl) (.inl rfl)
    have c8 := cr (-1) (-1) (-1) (.inr rfl) (.inr rfl) (.inr rfl)
    generalize c 1 * c 2 = Q at *
    omega
  have hp : 0 ≤ c 0 := by omega
  have g3 := Int.mul_le_mul_of_nonneg_left hs hp
  have e2 : c 0 * ((x0.natAbs : Int) + x1.natAbs + x2.natAbs) = c 0 * x0.natAbs + c 0 * x1.natAbs + c 0 * x2.natAbs := by grind
  have e3 : c 0 * (4 * (c 1 * c 2)) = 4 * (c 0 * c 1 * c 2) := by grind
  constructor <;> omega

theorem det_abs : ∀ (m : Nat) (U : Sys) (c : Nat → Int), (∀ k, k < m → ∀ i, i < m → - c k ≤ U k i ∧ U k i ≤ c k) → - (factN m * prodN m c) ≤ detN m U ∧ detN m U ≤ factN m * prodN m c := by
  intro m
  induction m with
  | zero =>
    intro U c _
    show -((1 : Int) * 1) ≤ 1 ∧ (1 : Int) ≤ 1 * 1
    decide
  | succ m ih =>
    intro U c h
    by_cases h2 : m = 2
    · subst h2
      exact det3_abs U c h
    have hb : ∀ k, k < m + 1 → -(factN m * prodN (m + 1) c) ≤ sgP (m + k) * (U k m * detN m (skipV k U)) ∧ sgP (m + k) * (U k m * detN m (skipV k U)) ≤ factN m * prodN (m + 1) c := by
      intro k hk
      have h1 := ih (skipV k U) (skipC k c) (fun j hj i hi => by
        unfold skipV skipC
        split
        · exact h j (by omega) i (by omega)
        · exact h (j + 1) (by omega) i (by omega))
      have h2 := abs_mulL (h k hk m (by omega)) h1
      have e : c k * (factN m * prodN m (skipC k c)) = factN m * prodN (m + 1) c := by
        rw [prod_skip m c k (by omega)]; grind
      rw [e] at h2
      rcases sgP_cases (m + k) with g | g <;> rw [g] <;> omega
    have := sumN_abs hb
    have e : ((m + 1 : Nat) : Int) * (factN m * prodN (m + 1) c) = factN (m + 1) * prodN (m + 1) c := by
      rw [fact_step h2, Int.mul_assoc]
    rw [e] at this
    exact this

end Go.Proofs.Ytdbmlkkpffoadaa

namespace Go.Proofs.Ytdbmlkkpffoadaa
set_option linter.unusedVariables false

theorem sgP_succ (n : Nat) : sgP (n + 1) = - sgP n := rfl
theorem sgP_add (a b : Nat) : sgP (a + b) = sgP a * sgP b := by
  induction b with
  | zero => show sgP a = sgP a * 1; omega
  | succ b ih => rw [← Nat.add_assoc, sgP_succ, sgP_succ, ih, Int.mul_neg]
theorem sum_pairs : ∀ (n : Nat) (f : Nat → Nat → Int), (∀ k l, l < k → k ≤ n → f k l = - f l (k - 1)) → sumN (n + 1) (fun k => sumN n (fun l => f k l)) = 0
  | 0, f, _ => rfl
  | n + 1, f, h => by
    show sumN (n + 1) (fun k => sumN n (fun l => f k l) + f k n) + sumN (n + 1) (fun l => f (n + 1) l) = 0
    rw [sumN_add, sum_pairs n f (fun k l h1 h2 => h k l h1 (by omega)), sumN_congr (n := n + 1) (f := fun l => f (n + 1) l) (g := fun l => (-1) * f l n) (fun l hl => by rw [h (n + 1) l hl (Nat.le_refl _)]; show - f l n = _; omega), sumN_mul]
    omega
theorem skip_skip (U : Sys) {k l : Nat} (h : l < k) : skipV l (skipV k U) = skipV (k - 1) (skipV l U) := by
  funext i
  unfold skipV
  by_cases h1 : i < l
  · rw [if_pos h1, if_pos (by omega), if_pos (by omega), if_pos h1]
  · rw [if_neg h1]
    by_cases h2 : i + 1 < k
    · rw [if_pos h2, if_pos (by omega), if_neg h1]
    · rw [if_neg h2, if_neg (by omega), if_neg (by omega)]
theorem det_clast (m : Nat) (U : Sys) (h : ∀ l, l < m + 2 → U l (m + 1) = U l m) : detN (m + 2) U = 0 := by
  have e : detN (m + 2) U = sumN (m + 1 + 1) (fun k => sumN (m + 1) (fun l => sgP (m + 1 + k) * (U k (m + 1) * (sgP (m + l) * (skipV k U l m * detN m (skipV l (skipV k U))))))) := by
    show sumN (m + 1 + 1) (fun k => sgP (m + 1 + k) * (U k (m + 1) * sumN (m + 1) (fun l => sgP (m + l) * (skipV k U l m * detN m (skipV l (skipV k U)))))) = _
    refine sumN_congr fun k _ => ?_
    rw [← sumN_mul, ← sumN_mul]
  rw [e]
  refine sum_pairs (m + 1) _ fun k l hl hk => ?_
  obtain ⟨q, rfl⟩ : ∃ q, k = q + 1 := ⟨k - 1, by omega⟩
  show sgP (m + 1 + (q + 1)) * (U (q + 1) (m + 1) * (sgP (m + l) * (skipV (q + 1) U l m * detN m (skipV l (skipV (q + 1) U))))) = - (sgP (m + 1 + l) * (U l (m + 1) * (sgP (m + (q + 1 - 1)) * (skipV l U (q + 1 - 1) m * detN m (skipV (q + 1 - 1) (skipV l U))))))
  rw [skip_skip U hl, show skipV (q + 1) U l = U l from if_pos hl, show q + 1 - 1 = q by omega, show skipV l U q = U (q + 1) from if_neg (by omega), h (q + 1) (by omega), h l (by omega)]
  rw [show m + 1 + (q + 1) = m + q + 1 + 1 by omega, sgP_succ, sgP_succ, show m + 1 + l = m + l + 1 by omega, sgP_succ]
  generalize detN m (skipV q (skipV l U)) = d
  generalize sgP (m + q) = s
  generalize sgP (m + l) = t
  grind
/-- Zero where two neighbouring coordinates are equal. -/
theorem det_cnext : ∀ (m : Nat) (W : Sys) (k : Nat), k + 1 < m → (∀ l, l < m → W l k = W l (k + 1)) → detN m W = 0 := by
  intro m
  induction m with
  | zero => intro W k h; omega
  | succ m ih =>
    intro W k h e
    by_cases hk : k + 1 = m
    · obtain ⟨q, rfl⟩ : ∃ q, m = q + 1 := ⟨m - 1, by omega⟩
      refine det_clast q W fun l hl => ?_
      rw [show q = k by omega]
      exact (e l hl).symm
    · unfold detN
      refine sumN_zero fun j hj => ?_
      rw [ih (skipV j W) k (by omega) (fun l hl => by
        unfold skipV
        split
        · exact e l (by omega)
        · exact e (l + 1) (by omega)), Int.mul_zero, Int.mul_zero]
/-- Linear in each coordinate. -/
theorem det_clin : ∀ (m : Nat) (W : Sys) (c : Nat) (a b : Int) (x y : Nat → Int), c < m →
    detN m (fun l i => if i = c then a * x l + b * y l else W l i) = a * detN m (fun l i => if i = c then x l else W l i) + b * detN m (fun l i => if i = c then y l else W l i) := by
  intro m
  induction m with
  | zero => intro W c a b x y h; omega
  | succ m ih =>
    intro W c a b x y h
    unfold detN
    rw [← sumN_mul, ← sumN_mul, ← sumN_add]
    refine sumN_congr fun k hk => ?_
    by_cases e : c = m
    · subst e
      have q : ∀ z : Nat → Int, detN c (skipV k (fun l i => if i = c then z l else W l i)) = detN c (skipV k W) := fun z => det_congr c fun l hl i hi => by
        unfold skipV
        split <;> exact if_neg (by omega)
      rw [q x, q y, q (fun l => a * x l + b * y l)]
      simp only [if_pos]
      generalize detN c (skipV k W) = d
      generalize sgP (c + k) = s
      generalize x k = u
      generalize y k = v
      grind
    · have q : ∀ z : Nat → Int, skipV k (fun l i => if i = c then z l else W l i) = fun l i => if i = c then (if l < k then z l else z (l + 1)) else skipV k W l i := fun z => by
        funext l i
        unfold skipV
        by_cases h1 : l < k
        · simp only [if_pos h1]
        · simp only [if_neg h1]
      have f : (fun (l i : Nat) => if i = c then (if l < k then a * x l + b * y l else a * x (l + 1) + b * y (l + 1)) else skipV k W l i) = fun l i => if i = c then a * (if l < k then x l else x (l + 1)) + b * (if l < k then y l else y (l + 1)) else skipV k W l i := by
        funext l i
        by_cases h1 : l < k
        · simp only [if_pos h1]
        · simp only [if_neg h1]
      rw [q x, q y, q (fun l => a * x l + b * y l), f, ih (skipV k W) c a b _ _ (by omega)]
      simp only [show ¬ m = c from fun g => e g.symm, if_false]
      generalize detN m _ = d
      generalize detN m _ = d2
      generalize sgP (m + k) = s
      generalize W k m = p
      grind

/-- The same by coordinates. -/
def detC (m : Nat) (U : Sys) : Int := detN m (fun l i => U i l)
theorem detC_upd (m : Nat) (U : Sys) (k : Nat) (z : Vec) : detC m (updV U k z) = detN m (fun l i => if i = k then z l else U i l) := by
  unfold detC
  congr 1
  funext l i
  unfold updV
  split <;> rfl
theorem detC_lin (m : Nat) (U : Sys) (k : Nat) (a b : Int) (x y : Vec) (h : k < m) : detC m (updV U k (fun c => a * x c + b * y c)) = a * detC m (updV U k x) + b * detC m (updV U k y) := by
  rw [detC_upd, detC_upd, detC_upd]
  exact det_clin m (fun l i => U i l) k a b x y h
theorem detC_next (m : Nat) (U : Sys) (k : Nat) (h : k + 1 < m) (e : U k = U (k + 1)) : detC m U = 0 :=
  det_cnext m _ k h fun l _ => congrFun e l
theorem detC_swap1 (m : Nat) (U : Sys) (k : Nat) (x y : Vec) (h : k + 1 < m) : detC m (updV (updV U k x) (k + 1) y) = - detC m (updV (updV U k y) (k + 1) x) := by
  have z : ∀ p : Vec, detC m (updV (updV U k p) (k + 1) p) = 0 := fun p => detC_next m _ k h (by rw [updV_self, updV_ne _ _ (by omega), updV_self])
  have l1 : ∀ q : Vec, detC m (updV (updV U k (fun c => 1 * x c + 1 * y c)) (k + 1) q) = 1 * detC m (updV (updV U k x) (k + 1) q) + 1 * detC m (updV (updV U k y) (k + 1) q) := fun q => by
    rw [updV_comm U _ q (by omega), updV_comm U _ q (by omega), updV_comm U _ q (by omega)]
    exact detC_lin m _ k 1 1 x y (by omega)
  have a := z (fun c => 1 * x c + 1 * y c)
  rw [detC_lin m _ (k + 1) 1 1 x y h, l1 x, l1 y, z x, z y] at a
  omega
theorem detC_alt : ∀ (d m : Nat) (U : Sys) (i : Nat), i + d + 1 < m → U i = U (i + d + 1) → detC m U = 0 := by
  intro d
  induction d with
  | zero => intro m U i h e; exact detC_next m U i h e
  | succ d ih =>
    intro m U i h e
    have e1 : U = updV (updV U (i + d + 1) (U (i + d + 1))) (i + d + 1 + 1) (U (i + d + 1 + 1)) := by rw [updV_own, updV_own]
    rw [e1, detC_swap1 m U (i + d + 1) _ _ (by omega)]
    rw [ih m _ i (by omega) ?_]
    · rfl
    · rw [updV_ne _ _ (by omega), updV_ne _ _ (by omega), updV_ne _ _ (by omega), updV_self]
      exact e
/-- Zero where a coordinate is the last one. -/
theorem det_ceq (m : Nat) (W : Sys) (i : Nat) (hi : i < m) (e : ∀ l, W l i = W l m) : detN (m + 1) W = 0 := by
  have h := detC_alt (m - i - 1) (m + 1) (fun i l => W l i) i (by omega) (by
    rw [show i + (m - i - 1) + 1 = m by omega]
    funext l
    exact e l)
  exact h

/-- The vectors V with x at t, those from r on before it moved. -/
def movY (V : Sys) (x : Vec) (r t : Nat) : Sys := fun l => if l < r then V l else if l < t then V (l + 1) else if l = t then x else V l
theorem mov_step (k : Nat) (V : Sys) (x : Vec) (r t : Nat) (h : r ≤ t) (ht : t + 1 < k) : detN k (movY V x r (t + 1)) = - detN k (movY V x r t) := by
  have e1 : movY V x r (t + 1) = updV (updV (movY V x r t) t (V (t + 1))) (t + 1) x := by
    funext l
    unfold updV movY
    (repeat' split) <;> first | rfl | (exfalso; omega) | (congr 1; omega)
  have e2 : movY V x r t = updV (updV (movY V x r t) t x) (t + 1) (V (t + 1)) := by
    funext l
    unfold updV movY
    (repeat' split) <;> first | rfl | (exfalso; omega) | (congr 1 <;> omega)
  rw [e1, det_swap1 k _ t _ _ ht, ← e2]
theorem mov_all (k : Nat) (V : Sys) (x : Vec) (r : Nat) : ∀ d, r + d < k → detN k (movY V x r (r + d)) = sgP d * detN k (updV V r x)
  | 0, h => by
    rw [show sgP 0 = 1 from rfl, Int.one_mul]
    congr 1
    funext l
    unfold movY updV
    by_cases h1 : l < r
    · rw [if_pos h1, if_neg (by omega)]
    · rw [if_neg h1, if_neg (by omega)]
      rfl
  | d + 1, h => by
    rw [← Nat.add_assoc, mov_step k V x r (r + d) (by omega) (by omega), mov_all k V x r d (by omega), sgP_succ, Int.neg_mul]
/-- One vector and one coordinate more. -/
theorem border (k : Nat) (V : Sys) (x : Vec) : detN (k + 1) (fun l => if l = k then x else V l) = detN k V * x k - sumN k (fun r => detN k (updV V r x) * V r k) := by
  show sumN k (fun r => sgP (k + r) * ((fun l => if l = k then x else V l) r k * detN k (skipV r (fun l => if l = k then x else V l)))) + sgP (k + k) * ((fun l => if l = k then x else V l) k k * detN k (skipV k (fun l => if l = k then x else V l))) = _
  have e1 : detN k (skipV k (fun l => if l = k then x else V l)) = detN k V := det_congr k fun l hl c _ => by
    show (if l < k then (if l = k then x else V l) else (if l + 1 = k then x else V (l + 1))) c = V l c
    rw [if_pos hl, if_neg (by omega)]
  have e2 : ∀ r, r < k → sgP (k + r) * ((fun l => if l = k then x else V l) r k * detN k (skipV r (fun l => if l = k then x else V l))) = (-1) * (detN k (updV V r x) * V r k) := fun r hr => by
    have q : detN k (skipV r (fun l => if l = k then x else V l)) = detN k (movY V x r (r + (k - 1 - r))) := det_congr k fun l hl c _ => by
      show (if l < r then (if l = k then x else V l) else (if l + 1 = k then x else V (l + 1))) c = (if l < r then V l else if l < r + (k - 1 - r) then V (l + 1) else if l = r + (k - 1 - r) then x else V l) c
      (repeat' split) <;> first | rfl | (exfalso; omega)
    rw [q, mov_all k V x r (k - 1 - r) (by omega)]
    show sgP (k + r) * ((if r = k then x else V r) k * (sgP (k - 1 - r) * detN k (updV V r x))) = _
    rw [if_neg (by omega)]
    have s : sgP (k + r) * sgP (k - 1 - r) = -1 := by
      rw [← sgP_add, show k + r + (k - 1 - r) = (k - 1) + (k - 1) + 1 by omega, sgP_succ, sgP_two]
    generalize detN k (updV V r x) = d at *
    generalize sgP (k + r) = s1 at *
    generalize sgP (k - 1 - r) = s2 at *
    generalize V r k = v
    have : s1 * (v * (s2 * d)) = (s1 * s2) * (v * d) := by grind
    rw [this, s]; grind
  rw [sumN_congr e2, sumN_mul, e1, sgP_two]
  show (-1) * sumN k (fun i => detN k (updV V i x) * V i k) + 1 * ((if k = k then x else V k) k * detN k V) = _
  rw [if_pos rfl, Int.mul_comm (x k)]
  omega
/-- Cramer's rule. -/
theorem cramer (k : Nat) (V : Sys) (x : Vec) (i : Nat) (hi : i < k) : detN k V * x i = sumN k (fun r => detN k (updV V r x) * V r i) := by
  have h := border k (fun l c => if c = k then V l i else V l c) (fun c => if c = k then x i else x c)
  rw [det_ceq k _ i hi (fun l => by
    by_cases h1 : l = k
    · rw [if_pos h1]; simp only [if_pos]; exact if_neg (by omega)
    · rw [if_neg h1]; simp only [if_pos]; exact if_neg (by omega))] at h
  have e1 : detN k (fun l c => if c = k then V l i else V l c) = detN k V := det_congr k fun l _ c hc => if_neg (by omega)
  have e2 : ∀ r, r < k → detN k (updV (fun l c => if c = k then V l i else V l c) r (fun c => if c = k then x i else x c)) * (fun l c => if c = k then V l i else V l c) r k = detN k (updV V r x) * V r i := fun r _ => by
    congr 1
    · refine det_congr k fun l _ c hc => ?_
      unfold updV
      by_cases h1 : l = r
      · rw [if_pos h1, if_pos h1]; exact if_neg (by omega)
      · rw [if_neg h1, if_neg h1]; exact if_neg (by omega)
    · exact if_pos rfl
  rw [e1, sumN_congr e2] at h
  simp only [if_pos] at h
  omega
theorem nondeg (k : Nat) (V : Sys) (hd : detN k V ≠ 0) (z : Nat → Int) (h : ∀ i, i < k → sumN k (fun l => z l * V l i) = 0) (l : Nat) (hl : l < k) : z l = 0 := by
  have e := det_sum k V l hl k z V
  rw [det_zero k _ l hl (fun c hc => by rw [updV_self]; exact h c hc), sumN_one hl (fun r hr hn => by
    rw [det_eq k _ l r hl hr (fun g => hn g.symm) (by rw [updV_self, updV_ne _ _ hn]), Int.mul_zero]), updV_own] at e
  rcases Int.mul_eq_zero.1 e.symm with g | g
  · exact g
  · exact absurd g hd

end Go.Proofs.Ytdbmlkkpffoadaa

namespace Go.Proofs.Ytdbmlkkpffoadaa
set_option linter.unusedVariables false

/-- The state after k pivots, in the columns p 0 .. p (k - 1); U: the rows as given, in the order of now; E: the rows of now; D: the last pivot. -/
structure ElimI (R : Nat) (U : Nat → Nat → Int) (k : Nat) (p : Nat → Nat) (E : Nat → Nat → Int) (D : Int) : Prop where
  d : D = detN k (fun l i => U i (p l))
  nz : D ≠ 0
  top : ∀ i j, i < k → E i j = detN k (updV (fun l i => U i (p l)) i (fun c => U c j))
  low : ∀ i j, k ≤ i → i < R → E i j = D * U i j - sumN k (fun l => E l j * U i (p l))

theorem elim_start (R : Nat) (U : Nat → Nat → Int) (p : Nat → Nat) : ElimI R U 0 p U 1 :=
  ⟨rfl, by decide, fun i j h => by omega, fun i j _ _ => by show U i j = 1 * U i j - 0; omega⟩

/-- The rows k and a exchanged, one with the other sign. -/
def exU (k a : Nat) (U : Nat → Nat → Int) : Nat → Nat → Int := fun i j => if i = k then U a j else if i = a then - U k j else U i j
theorem elim_swap {R : Nat} {U : Nat → Nat → Int} {k : Nat} {p : Nat → Nat} {E : Nat → Nat → Int} {D : Int} (h : ElimI R U k p E D) (a : Nat) (hk : k < a) (ha : a < R) : ElimI R (exU k a U) k p (exU k a E) D := by
  have eU : ∀ i j, i < k → exU k a U i j = U i j := fun i j hi => by unfold exU; rw [if_neg (by omega), if_neg (by omega)]
  have eE : ∀ i j, i < k → exU k a E i j = E i j := fun i j hi => by unfold exU; rw [if_neg (by omega), if_neg (by omega)]
  refine ⟨?_, h.nz, fun i j hi => ?_, fun i j hi hR => ?_⟩
  · rw [h.d]
    exact det_congr k fun l _ c hc => (eU c (p l) hc).symm
  · rw [eE i j hi, h.top i j hi]
    refine det_congr k fun l _ c hc => ?_
    unfold updV
    split
    · exact (eU c j hc).symm
    · exact (eU c (p l) hc).symm
  · have s : ∀ b, sumN k (fun l => exU k a E l j * U b (p l)) = sumN k (fun l => E l j * U b (p l)) := fun b => sumN_congr fun l hl => by rw [eE l j hl]
    by_cases h1 : i = k
    · subst h1
      have e1 : ∀ (X : Nat → Nat → Int) j, exU i a X i j = X a j := fun X j => if_pos rfl
      rw [e1 E, e1 U, h.low a j (by omega) ha]
      congr 1
      refine sumN_congr fun l hl => ?_
      rw [eE l j hl, e1 U]
    · by_cases h2 : i = a
      · subst h2
        have e1 : ∀ (X : Nat → Nat → Int) j, exU k i X i j = - X k j := fun X j => by unfold exU; rw [if_neg h1, if_pos rfl]
        rw [e1 E, e1 U, h.low k j (Nat.le_refl _) (by omega)]
        have q : sumN k (fun l => exU k i E l j * exU k i U i (p l)) = sumN k (fun l => (-1) * (E l j * U k (p l))) := sumN_congr fun l hl => by
          rw [eE l j hl, e1 U, Int.mul_neg]; omega
        rw [q, sumN_mul, Int.mul_neg]
        omega
      · have e1 : ∀ (X : Nat → Nat → Int) j, exU k a X i j = X i j := fun X j => by unfold exU; rw [if_neg h1, if_neg h2]
        rw [e1 E, e1 U, h.low i j hi hR]
        congr 1
        refine sumN_congr fun l hl => ?_
        rw [eE l j hl, e1 U]

def updP (p : Nat → Nat) (k c : Nat) : Nat → Nat := fun l => if l = k then c else p l
/-- A further pivot: the division by the last one leaves no remainder, and what comes out is the state after it. -/
theorem elim_step {R : Nat} {U : Nat → Nat → Int} {k : Nat} {p : Nat → Nat} {E : Nat → Nat → Int} {D : Int} (h : ElimI R U k p E D) (hk : k < R) (c : Nat) (hc : E k c ≠ 0) :
    ∃ E', ElimI R U (k + 1) (updP p k c) E' (E k c) ∧ (∀ j, E' k j = E k j) ∧ ∀ i j, i < R → i ≠ k → E' i j * D = E k c * E i j - E i c * E k j := by
  obtain ⟨V, hV⟩ : ∃ V : Sys, V = fun l i => U i (p l) := ⟨_, rfl⟩
  have hd : D = detN k V := by rw [h.d, hV]
  have ht : ∀ i j, i < k → E i j = detN k (updV V i (fun c => U c j)) := fun i j hi => by rw [h.top i j hi, hV]
  have hV' : (fun (l i : Nat) => U i (updP p k c l)) = fun l => if l = k then (fun i => U i c) else V l := by
    funext l i
    unfold updP
    rw [hV]
    by_cases g : l = k
    · rw [if_pos g, if_pos g]
    · rw [if_neg g, if_neg g]
  obtain ⟨V', eV'⟩ : ∃ V' : Sys, V' = fun l => if l = k then (fun i => U i c) else V l := ⟨_, rfl⟩
  -- the bordered determinants are the rows from k on
  have hb : ∀ j, detN (k + 1) (fun l => if l = k then (fun i => U i j) else V l) = E k j := fun j => by
    rw [border, h.low k j (Nat.le_refl _) hk, ← hd]
    congr 1
    refine sumN_congr fun l hl => ?_
    rw [ht l j hl, hV]
  have hT : ∀ j, detN (k + 1) (updV V' k (fun i => U i j)) = E k j := fun j => by
    rw [← hb j]
    refine det_congr _ fun l _ i _ => ?_
    unfold updV
    rw [eV']
    by_cases g : l = k
    · rw [if_pos g, if_pos g]
    · rw [if_neg g, if_neg g]
      show (if l = k then (fun i => U i c) else V l) i = _
      rw [if_neg g]
  have hD' : detN (k + 1) V' = E k c := by rw [eV']; exact hb c
  obtain ⟨T, eT⟩ : ∃ T : Nat → Nat → Int, T = fun l j => detN (k + 1) (updV V' l (fun i => U i j)) := ⟨_, rfl⟩
  have Tk : ∀ j, T k j = E k j := fun j => by rw [eT]; exact hT j
  have eV1 : ∀ l i, l < k → V' l i = U i (p l) := fun l i hl => by
    rw [eV']
    show (if l = k then (fun i => U i c) else V l) i = _
    rw [if_neg (by omega), hV]
  have eV2 : ∀ i, V' k i = U i c := fun i => by
    rw [eV']
    show (if k = k then (fun i => U i c) else V k) i = _
    rw [if_pos rfl]
  -- Cramer's rule before and behind
  have r0 : ∀ m j, m < k → D * U m j = sumN k (fun l => E l j * U m (p l)) := fun m j hm => by
    have q := cramer k V (fun i => U i j) m hm
    rw [← hd] at q
    show D * (fun i => U i j) m = _
    rw [q]
    refine sumN_congr fun l hl => ?_
    rw [ht l j hl, hV]
  have r1 : ∀ m j, m < k → E k c * U m j = sumN k (fun l => T l j * U m (p l)) + E k j * U m c := fun m j hm => by
    have q := cramer (k + 1) V' (fun i => U i j) m (by omega)
    rw [hD'] at q
    show E k c * (fun i => U i j) m = _
    rw [q]
    show sumN k (fun r => detN (k + 1) (updV V' r (fun i => U i j)) * V' r m) + detN (k + 1) (updV V' k (fun i => U i j)) * V' k m = _
    rw [hT j, eV2]
    congr 1
    refine sumN_congr fun l hl => ?_
    rw [eT, eV1 l m hl]
  have zl : ∀ j l, l < k → D * T l j = E k c * E l j - E l c * E k j := fun j l hl => by
    have z := nondeg k V (by rw [← hd]; exact h.nz) (fun l => D * T l j + (-(E k c)) * E l j + E k j * E l c) (fun m hm => by
      have e : sumN k (fun l => (D * T l j + (-(E k c)) * E l j + E k j * E l c) * V l m) = D * sumN k (fun l => T l j * U m (p l)) + (-(E k c)) * sumN k (fun l => E l j * U m (p l)) + E k j * sumN k (fun l => E l c * U m (p l)) := by
        rw [← sumN_mul, ← sumN_mul, ← sumN_mul, ← sumN_add, ← sumN_add]
        refine sumN_congr fun l _ => ?_
        rw [hV]
        show (D * T l j + (-(E k c)) * E l j + E k j * E l c) * U m (p l) = _
        grind
      rw [e, ← r0 m j hm, ← r0 m c hm]
      have := r1 m j hm
      generalize sumN k (fun l => T l j * U m (p l)) = S at *
      grind) l hl
    have z : D * T l j + (-(E k c)) * E l j + E k j * E l c = 0 := z
    grind
  refine ⟨fun i j => if i < k + 1 then T i j else E k c * U i j - sumN (k + 1) (fun l => T l j * U i (updP p k c l)), ⟨?_, hc, fun i j hi => ?_, fun i j hi hR => ?_⟩, fun j => ?_, fun i j hR hn => ?_⟩
  · rw [hV', ← eV', hD']
  · rw [hV', ← eV']
    show (if i < k + 1 then T i j else _) = _
    rw [if_pos hi, eT]
  · show (if i < k + 1 then T i j else _) = _
    rw [if_neg (by omega)]
    congr 1
    refine sumN_congr fun l hl => ?_
    rw [if_pos hl]
  · show (if k < k + 1 then T k j else _) = _
    rw [if_pos (by omega), Tk]
  · show (if i < k + 1 then T i j else _) * D = _
    by_cases g : i < k + 1
    · rw [if_pos g, Int.mul_comm, zl j i (by omega)]
    · rw [if_neg g]
      have e1 : sumN (k + 1) (fun l => T l j * U i (updP p k c l)) = sumN k (fun l => T l j * U i (p l)) + E k j * U i c := by
        show sumN k (fun l => T l j * U i (updP p k c l)) + T k j * U i (updP p k c k) = _
        rw [Tk, show updP p k c k = c from if_pos rfl]
        congr 1
        refine sumN_congr fun l hl => ?_
        rw [show updP p k c l = p l from if_neg (by omega)]
      have e2 : D * sumN k (fun l => T l j * U i (p l)) = E k c * sumN k (fun l => E l j * U i (p l)) + (-(E k j)) * sumN k (fun l => E l c * U i (p l)) := by
        rw [← sumN_mul, ← sumN_mul, ← sumN_mul, ← sumN_add]
        refine sumN_congr fun l hl => ?_
        rw [← Int.mul_assoc, zl j l hl]
        grind
      rw [e1, h.low i j (by omega) hR, h.low i c (by omega) hR]
      generalize sumN k (fun l => T l j * U i (p l)) = S at *
      generalize sumN k (fun l => E l j * U i (p l)) = S1 at *
      generalize sumN k (fun l => E l c * U i (p l)) = S2 at *
      grind

/-- Columns that are pivots are simple: the last pivot in one row, zeros in the others. -/
theorem elim_piv {R : Nat} {U : Nat → Nat → Int} {k : Nat} {p : Nat → Nat} {E : Nat → Nat → Int} {D : Int} (h : ElimI R U k p E D) (i l : Nat) (hl : l < k) (hi : i < R) : E i (p l) = if i = l then D else 0 := by
  have a : ∀ i, i < k → E i (p l) = if i = l then D else 0 := fun i hi => by
    rw [h.top i (p l) hi]
    by_cases g : i = l
    · subst g
      rw [if_pos rfl, h.d]
      exact congrArg _ (updV_own (fun l i => U i (p l)) i)
    · rw [if_neg g]
      exact det_eq k _ i l hi hl g (by rw [updV_self, updV_ne _ _ (fun e => g e.symm)])
  by_cases g : i < k
  · exact a i g
  · rw [if_neg (by omega), h.low i (p l) (by omega) hi]
    have e : sumN k (fun l2 => E l2 (p l) * U i (p l2)) = E l (p l) * U i (p l) := sumN_one hl fun r hr hn => by rw [a r hr, if_neg hn, Int.zero_mul]
    rw [e, a l hl, if_pos rfl]
    omega

end Go.Proofs.Ytdbmlkkpffoadaa

namespace Go.Proofs.Ytdbmlkkpffoadaa
set_option linter.unusedVariables false

/-- The greatest absolute values of the columns: those of the column m are right-hand sides. -/
def cB (m : Nat) : Nat → Int := fun j => if j = m then 67108864 else 32
theorem cB_nn (m j : Nat) : 0 ≤ cB m j := by unfold cB; split <;> omega
theorem prod_plain (m k : Nat) (q : Nat → Nat) (h : ∀ l, l < k → q l ≠ m) : prodN k (fun l => cB m (q l)) = 32 ^ k := by
  induction k with
  | zero => rfl
  | succ k ih =>
    show prodN k (fun l => cB m (q l)) * cB m (q k) = _
    rw [ih fun l hl => h l (by omega), Int.pow_succ]
    congr 1
    exact if_neg (h k (by omega))
theorem prod_cB (m k : Nat) (q : Nat → Nat) (inj : ∀ l l', l < k → l' < k → q l = q l' → l = l') : prodN k (fun l => cB m (q l)) * 32 ≤ 32 ^ k * 67108864 := by
  induction k with
  | zero => show (1 : Int) * 32 ≤ 1 * 67108864; decide
  | succ k ih =>
    show prodN k (fun l => cB m (q l)) * cB m (q k) * 32 ≤ 32 ^ (k + 1) * 67108864
    rw [Int.pow_succ]
    by_cases g : q k = m
    · rw [prod_plain m k q fun l hl e => by have := inj l k (by omega) (by omega) (by rw [e, g]); omega, show cB m (q k) = 67108864 from if_pos g]
      grind
    · have := ih fun l l' hl hl' => inj l l' (by omega) (by omega)
      rw [show cB m (q k) = 32 from if_neg g]
      omega
theorem det_small (m k : Nat) (q : Nat → Nat) (inj : ∀ l l', l < k → l' < k → q l = q l' → l = l') (h6 : k ≤ 6) (V : Sys) (h : ∀ l, l < k → ∀ i, i < k → - cB m (q l) ≤ V l i ∧ V l i ≤ cB m (q l)) :
    -1152921504606846976 ≤ detN k V ∧ detN k V ≤ 1152921504606846976 := by
  have d := det_abs k V (fun l => cB m (q l)) h
  have p := prod_cB m k q inj
  have n : 0 ≤ prodN k (fun l => cB m (q l)) := prod_nn fun i _ => cB_nn m _
  generalize prodN k (fun l => cB m (q l)) = P at *
  have pw : (32 : Int) ^ k ≤ 1073741824 := by
    rcases k with _ | _ | _ | _ | _ | _ | _ | k
    all_goals first | decide | omega
  have fa : factN k ≤ 480 := by
    rcases k with _ | _ | _ | _ | _ | _ | _ | k
    all_goals first | decide | omega
  have fn := fact_nn k
  have hP : P ≤ 2251799813685248 := by omega
  have : factN k * P ≤ 480 * 2251799813685248 := Int.mul_le_mul fa hP n (by decide)
  omega

theorem up_ge {p : Nat → Nat} {k : Nat} (up : ∀ l l', l < l' → l' < k → p l < p l') : ∀ l, l < k → l ≤ p l
  | 0, _ => Nat.zero_le _
  | l + 1, h => by have := up_ge up l (by omega); have := up l (l + 1) (by omega) h; omega
theorem up_gt {p : Nat → Nat} {k j : Nat} (up : ∀ l l', l < l' → l' < k → p l < p l') (hj : ∀ l, l < k → p l ≠ j) : ∀ l, l < k → j < p l → l + 1 ≤ p l
  | 0, _, h => by omega
  | l + 1, h, g => by
    have a := up l (l + 1) (by omega) h
    by_cases q : j < p l
    · have := up_gt up hj l (by omega) q; omega
    · have := hj l (by omega)
      have := up_ge up l (by omega)
      omega
theorem up_inj {p : Nat → Nat} {k : Nat} (up : ∀ l l', l < l' → l' < k → p l < p l') (l l' : Nat) (hl : l < k) (hl' : l' < k) (e : p l = p l') : l = l' := by
  rcases Nat.lt_trichotomy l l' with g | g | g
  · have := up l l' g hl'; omega
  · exact g
  · have := up l' l g hl; omega

theorem elim_small {R n m k : Nat} {U E : Nat → Nat → Int} {p : Nat → Nat} {D : Int} (el : ElimI R U k p E D) (hU : ∀ i j, i < R → j < n → - cB m j ≤ U i j ∧ U i j ≤ cB m j)
    (up : ∀ l l', l < l' → l' < k → p l < p l') (pn : ∀ l, l < k → p l < n) (hk : k ≤ R) (h6 : R ≤ 6 ∨ n ≤ 6) :
    (-1152921504606846976 ≤ D ∧ D ≤ 1152921504606846976) ∧ ∀ i j, i < R → j < n → -1152921504606846976 ≤ E i j ∧ E i j ≤ 1152921504606846976 := by
  have kn : k ≤ n := by
    cases k with
    | zero => omega
    | succ k => have := up_ge up k (by omega); have := pn k (by omega); omega
  have hD : -1152921504606846976 ≤ D ∧ D ≤ 1152921504606846976 := by
    rw [el.d]
    exact det_small m k p (up_inj up) (by omega) _ fun l hl i hi => hU i (p l) (by omega) (pn l hl)
  refine ⟨hD, fun i j hi hj => ?_⟩
  by_cases hp : ∃ l, l < k ∧ p l = j
  · obtain ⟨l, hl, rfl⟩ := hp
    rw [elim_piv el i l hl hi]
    split
    · exact hD
    · omega
  · have hne : ∀ l, l < k → p l ≠ j := fun l hl e => hp ⟨l, hl, e⟩
    by_cases hik : i < k
    · rw [el.top i j hik]
      refine det_small m k (fun l => if l = i then j else p l) (fun l l' hl hl' e => ?_) (by omega) _ fun l hl c hc => ?_
      · by_cases g : l = i <;> by_cases g' : l' = i
        · omega
        · simp only [if_pos g, if_neg g'] at e; exact absurd e.symm (hne l' hl')
        · simp only [if_neg g, if_pos g'] at e; exact absurd e (hne l hl)
        · simp only [if_neg g, if_neg g'] at e; exact up_inj up l l' hl hl' e
      · by_cases g : l = i
        · subst g
          rw [updV_self]; simp only [if_pos]; exact hU c j (by omega) hj
        · rw [updV_ne _ _ g]; simp only [if_neg g]; exact hU c (p l) (by omega) (pn l hl)
    · have k1 : k + 1 ≤ n := by
        cases k with
        | zero => omega
        | succ k =>
          by_cases q : j < p k
          · have := up_gt up hne k (by omega) q; have := pn k (by omega); omega
          · have := hne k (by omega); have := up_ge up k (by omega); omega
      have e : E i j = detN (k + 1) (fun l => if l = k then (fun c => if c = k then U i j else U c j) else (fun c => if c = k then U i (p l) else U c (p l))) := by
        rw [border k (fun l c => if c = k then U i (p l) else U c (p l)) (fun c => if c = k then U i j else U c j), el.low i j (by omega) hi]
        have e1 : detN k (fun l c => if c = k then U i (p l) else U c (p l)) = D := by
          rw [el.d]
          exact det_congr k fun l _ c hc => if_neg (by omega)
        rw [e1]
        simp only [if_pos]
        congr 1
        refine sumN_congr fun l hl => ?_
        rw [el.top l j hl]
        congr 1
        refine det_congr k fun l2 _ c hc => ?_
        unfold updV
        by_cases g : l2 = l
        · rw [if_pos g, if_pos g]; exact (if_neg (by omega)).symm
        · rw [if_neg g, if_neg g]; exact (if_neg (by omega)).symm
      rw [e]
      refine det_small m (k + 1) (fun l => if l = k then j else p l) (fun l l' hl hl' e => ?_) (by omega) _ fun l hl c hc => ?_
      · by_cases g : l = k <;> by_cases g' : l' = k
        · omega
        · simp only [if_pos g, if_neg g'] at e; exact absurd e.symm (hne l' (by omega))
        · simp only [if_neg g, if_pos g'] at e; exact absurd e (hne l (by omega))
        · simp only [if_neg g, if_neg g'] at e; exact up_inj up l l' (by omega) (by omega) e
      · by_cases g : l = k
        · simp only [if_pos g]
          by_cases q : c = k
          · rw [if_pos q]; exact hU i j hi hj
          · rw [if_neg q]; exact hU c j (by omega) hj
        · simp only [if_neg g]
          by_cases q : c = k
          · rw [if_pos q]; exact hU i (p l) hi (pn l (by omega))
          · rw [if_neg q]; exact hU c (p l) (by omega) (pn l (by omega))

/-- Rows exchanged, each time one with the other sign. -/
inductive Exd (R : Nat) (M : Nat → Nat → Int) : (Nat → Nat → Int) → Prop
  | refl : Exd R M M
  | step (U : Nat → Nat → Int) (k a : Nat) : Exd R M U → k < a → a < R → Exd R M (exU k a U)
/-- What holds for each column, and is kept by a row with the other sign, holds behind. -/
theorem Exd.all {R : Nat} {M U : Nat → Nat → Int} (h : Exd R M U) (T : (Nat → Int) → Prop) (hn : ∀ r, T r → T (fun j => - r j)) (h0 : ∀ i, i < R → T (M i)) : ∀ i, i < R → T (U i) := by
  induction h with
  | refl => exact h0
  | step U k a _ hk ha ih =>
    intro i hi
    have e : exU k a U i = if i = k then U a else if i = a then (fun j => - U k j) else U i := by
      funext j; unfold exU; split
      · rfl
      · split <;> rfl
    rw [e]
    split
    · exact ih a ha
    · split
      · exact hn _ (ih k (by omega))
      · exact ih i hi
theorem Exd.small {R n m : Nat} {M U : Nat → Nat → Int} (h : Exd R M U) (h0 : ∀ i j, i < R → j < n → - cB m j ≤ M i j ∧ M i j ≤ cB m j) : ∀ i j, i < R → j < n → - cB m j ≤ U i j ∧ U i j ≤ cB m j := fun i j hi hj =>
  h.all (fun r => ∀ j, j < n → - cB m j ≤ r j ∧ r j ≤ cB m j) (fun r hr j hj => by have := hr j hj; show - cB m j ≤ - r j ∧ - r j ≤ cB m j; omega) (fun i hi j hj => h0 i j hi hj) i hi j hj

/-- The state ahead of the column c. -/
structure EInv (R n m : Nat) (M U : Nat → Nat → Int) (k c : Nat) (p : Nat → Nat) (E : Nat → Nat → Int) (D : Int) : Prop where
  el : ElimI R U k p E D
  ex : Exd R M U
  kR : k ≤ R
  up : ∀ l l', l < l' → l' < k → p l < p l'
  lt : ∀ l, l < k → p l < c
  fr : ∀ j, j < c → (∀ l, l < k → p l ≠ j) → ∀ i, i < R → (∀ l, l < k → p l < j → l < i) → E i j = 0
  sm : ∀ i j, i < R → j < n → - cB m j ≤ M i j ∧ M i j ≤ cB m j
  r6 : R ≤ 6 ∨ n ≤ 6
  cn : c ≤ n
theorem EInv.start {R n m : Nat} {M : Nat → Nat → Int} (sm : ∀ i j, i < R → j < n → - cB m j ≤ M i j ∧ M i j ≤ cB m j) (r6 : R ≤ 6 ∨ n ≤ 6) (p : Nat → Nat) : EInv R n m M M 0 0 p M 1 :=
  ⟨elim_start R M p, .refl, Nat.zero_le _, fun _ _ _ h => absurd h (Nat.not_lt_zero _), fun _ h => absurd h (Nat.not_lt_zero _), fun _ h => absurd h (Nat.not_lt_zero _), sm, r6, Nat.zero_le _⟩
theorem EInv.small {R n m k c : Nat} {M U E : Nat → Nat → Int} {p : Nat → Nat} {D : Int} (h : EInv R n m M U k c p E D) :
    (-1152921504606846976 ≤ D ∧ D ≤ 1152921504606846976) ∧ ∀ i j, i < R → j < n → -1152921504606846976 ≤ E i j ∧ E i j ≤ 1152921504606846976 :=
  elim_small h.el (h.ex.small h.sm) h.up (fun l hl => by have := h.lt l hl; have := h.cn; omega) h.kR h.r6
theorem EInv.free {R n m k c : Nat} {M U E : Nat → Nat → Int} {p : Nat → Nat} {D : Int} (h : EInv R n m M U k c p E D) (hc : c < n) (z : ∀ i, k ≤ i → i < R → E i c = 0) : EInv R n m M U k (c + 1) p E D where
  el := h.el
  ex := h.ex
  kR := h.kR
  up := h.up
  lt l hl := by have := h.lt l hl; omega
  fr j hj hne i hi hl := by
    by_cases e : j = c
    · subst e
      refine z i ?_ hi
      cases k with
      | zero => omega
      | succ k => have := hl k (by omega) (h.lt k (by omega)); omega
    · exact h.fr j (by omega) hne i hi hl
  sm := h.sm
  r6 := h.r6
  cn := hc
theorem EInv.swap {R n m k c : Nat} {M U E : Nat → Nat → Int} {p : Nat → Nat} {D : Int} (h : EInv R n m M U k c p E D) (a : Nat) (hk : k < a) (ha : a < R) : EInv R n m M (exU k a U) k c p (exU k a E) D where
  el := elim_swap h.el a hk ha
  ex := .step U k a h.ex hk ha
  kR := h.kR
  up := h.up
  lt := h.lt
  fr j hj hne i hi hl := by
    unfold exU
    split
    · exact h.fr j hj hne a ha fun l hl _ => by omega
    · split
      · rw [h.fr j hj hne k (by omega) fun l hl _ => hl]; rfl
      · exact h.fr j hj hne i hi hl
  sm := h.sm
  r6 := h.r6
  cn := h.cn
theorem EInv.pivot {R n m k c : Nat} {M U E : Nat → Nat → Int} {p : Nat → Nat} {D : Int} (h : EInv R n m M U k c p E D) (hn : c < n) (hk : k < R) (hc : E k c ≠ 0) :
    ∃ E', EInv R n m M U (k + 1) (c + 1) (updP p k c) E' (E k c) ∧ (∀ j, E' k j = E k j) ∧ ∀ i j, i < R → i ≠ k → E' i j * D = E k c * E i j - E i c * E k j := by
  obtain ⟨E', h1, h2, h3⟩ := elim_step h.el hk c hc
  have pk : updP p k c k = c := if_pos rfl
  have pl : ∀ l, l < k → updP p k c l = p l := fun l hl => if_neg (by omega)
  refine ⟨E', ⟨h1, h.ex, hk, fun l l' g hl' => ?_, fun l hl => ?_, fun j hj hne i hi hl => ?_, h.sm, h.r6, hn⟩, h2, h3⟩
  · by_cases e : l' = k
    · subst e; rw [pk, pl l g]; exact h.lt l g
    · rw [pl l (by omega), pl l' (by omega)]; exact h.up l l' g (by omega)
  · by_cases e : l = k
    · subst e; rw [pk]; omega
    · rw [pl l (by omega)]; have := h.lt l (by omega); omega
  · have hjc : j ≠ c := fun e => hne k (by omega) (by rw [pk, e])
    have hne' : ∀ l, l < k → p l ≠ j := fun l hl e => hne l (by omega) (by rw [pl l hl]; exact e)
    have ek : E k j = 0 := h.fr j (by omega) hne' k hk fun l hl _ => hl
    by_cases e : i = k
    · subst e; rw [h2]; exact ek
    · have ei : E i j = 0 := h.fr j (by omega) hne' i hi fun l hl' g => hl l (by omega) (by rw [pl l hl']; exact g)
      have := h3 i j hi e
      rw [ek, ei] at this
      rcases Int.mul_eq_zero.1 (show E' i j * D = 0 by rw [this]; simp) with g | g
      · exact g
      · exact absurd g h.el.nz

end Go.Proofs.Ytdbmlkkpffoadaa

namespace Go.Proofs.Ytdbmlkkpffoadaa
set_option linter.unusedVariables false

theorem detC_eq (m : Nat) (U : Sys) (i j : Nat) (hi : i < m) (hj : j < m) (hne : i ≠ j) (e : U i = U j) : detC m U = 0 := by
  rcases Nat.lt_or_gt_of_ne hne with h | h
  · exact detC_alt (j - i - 1) m U i (by omega) (by rw [show i + (j - i - 1) + 1 = j by omega]; exact e)
  · exact detC_alt (i - j - 1) m U j (by omega) (by rw [show j + (i - j - 1) + 1 = i by omega]; exact e.symm)
theorem detC_swap (m : Nat) (U : Sys) (i j : Nat) (x y : Vec) (hi : i < m) (hj : j < m) (hne : i ≠ j) : detC m (updV (updV U i x) j y) = - detC m (updV (updV U i y) j x) := by
  have z : ∀ p : Vec, detC m (updV (updV U i p) j p) = 0 := fun p => detC_eq m _ i j hi hj hne (by rw [updV_self, updV_ne _ _ hne, updV_self])
  have l1 : ∀ q : Vec, detC m (updV (updV U i (fun c => 1 * x c + 1 * y c)) j q) = 1 * detC m (updV (updV U i x) j q) + 1 * detC m (updV (updV U i y) j q) := fun q => by
    rw [updV_comm U _ q hne, updV_comm U _ q hne, updV_comm U _ q hne]
    exact detC_lin m _ i 1 1 x y hi
  have a := z (fun c => 1 * x c + 1 * y c)
  rw [detC_lin m _ j 1 1 x y hj, l1 x, l1 y, z x, z y] at a
  omega
/-- An exchange, one row with the other sign, leaves the determinant. -/
theorem detC_ex (m : Nat) (U : Sys) (k a : Nat) (hk : k < a) (ha : a < m) : detC m (exU k a U) = detC m U := by
  have e : exU k a U = updV (updV U k (U a)) a (fun c => (-1) * U k c + 0 * U k c) := by
    funext i j
    unfold exU updV
    by_cases h1 : i = k
    · rw [if_pos h1, if_neg (by omega), if_pos h1]
    · rw [if_neg h1]
      by_cases h2 : i = a
      · rw [if_pos h2, if_pos h2]; omega
      · rw [if_neg h2, if_neg h2, if_neg h1]
  rw [e, detC_lin m _ a (-1) 0 _ _ ha, detC_swap m U k a _ _ (by omega) ha (by omega), updV_own, updV_own]
  omega

theorem Exd.back {R : Nat} {M U : Nat → Nat → Int} (h : Exd R M U) (T : (Nat → Int) → Prop) (hn : ∀ r, T r → T (fun j => - r j)) (h0 : ∀ i, i < R → T (U i)) : ∀ i, i < R → T (M i) := by
  induction h with
  | refl => exact h0
  | step U k a _ hk ha ih =>
    refine ih fun i hi => ?_
    by_cases h1 : i = k
    · subst h1
      have := hn _ (h0 a ha)
      have e : (fun j => - exU i a U a j) = U i := by
        funext j; unfold exU; rw [if_neg (by omega), if_pos rfl]; omega
      rwa [e] at this
    · by_cases h2 : i = a
      · subst h2
        have := h0 k (by omega)
        have e : exU k i U k = U i := by funext j; unfold exU; rw [if_pos rfl]
        rwa [e] at this
      · have := h0 i hi
        have e : exU k a U i = U i := by funext j; unfold exU; rw [if_neg h1, if_neg h2]
        rwa [e] at this
theorem Exd.det {R : Nat} {M U : Nat → Nat → Int} (h : Exd R M U) (p : Nat → Nat) : detN R (fun l i => U i (p l)) = detN R (fun l i => M i (p l)) := by
  induction h with
  | refl => rfl
  | step U k a _ hk ha ih =>
    rw [← ih]
    have e := detC_ex R (fun i l => U i (p l)) k a hk ha
    unfold detC at e
    rw [← e]
    congr 1

/-- What an elimination says when it has ended. -/
structure FinE (R n : Nat) (M : Nat → Nat → Int) (k : Nat) (p : Nat → Nat) (E : Nat → Nat → Int) (D : Int) : Prop where
  nz : D ≠ 0
  kR : k ≤ R
  up : ∀ l l', l < l' → l' < k → p l < p l'
  lt : ∀ l, l < k → p l < n
  rel : ∀ i, i < R → ∀ j, j < n → D * M i j = sumN k (fun l => E l j * M i (p l))
  ind : ∀ a : Nat → Int, (∀ i, i < R → sumN k (fun l => a l * M i (p l)) = 0) → ∀ l, l < k → a l = 0
  piv : ∀ i l, i < k → l < k → E i (p l) = if i = l then D else 0
  left : ∀ j, j < n → (∀ l, l < k → p l ≠ j) → ∀ l, l < k → j < p l → E l j = 0
  low : ∀ i j, k ≤ i → i < R → j < n → E i j = 0
  det : k = R → D = detN R (fun l i => M i (p l))
  dD : -1152921504606846976 ≤ D ∧ D ≤ 1152921504606846976
  dE : ∀ i j, i < R → j < n → -1152921504606846976 ≤ E i j ∧ E i j ≤ 1152921504606846976

theorem EInv.fin {R n m k : Nat} {M U E : Nat → Nat → Int} {p : Nat → Nat} {D : Int} (h : EInv R n m M U k n p E D) : FinE R n M k p E D := by
  have low : ∀ i j, k ≤ i → i < R → j < n → E i j = 0 := fun i j hk hi hj => by
    by_cases q : ∀ l, l < k → p l ≠ j
    · exact h.fr j hj q i hi (fun l hl _ => by omega)
    · have ⟨l, hl, e⟩ : ∃ l, l < k ∧ p l = j := Classical.byContradiction fun g => q fun l hl e => g ⟨l, hl, e⟩
      rw [← e, elim_piv h.el i l hl hi, if_neg (by omega)]
  have relU : ∀ i, i < R → ∀ j, j < n → D * U i j = sumN k (fun l => E l j * U i (p l)) := fun i hi j hj => by
    rcases Nat.lt_or_ge i k with g | g
    · rw [h.el.d, cramer k (fun l i => U i (p l)) (fun c => U c j) i g]
      exact sumN_congr fun l hl => by rw [h.el.top l j hl]
    · have e := h.el.low i j g hi
      rw [low i j g hi hj] at e
      omega
  refine ⟨h.el.nz, h.kR, h.up, h.lt, fun i hi j hj => ?_, fun a ha => ?_, fun i l hi hl => elim_piv h.el i l hl (by have := h.kR; omega), fun j hj q l hl hlt => ?_, low, fun e => ?_, h.small.1, h.small.2⟩
  · have := h.ex.back (fun r => D * r j = sumN k (fun l => E l j * r (p l))) (fun r hr => by
      show D * - r j = sumN k (fun l => E l j * - r (p l))
      rw [Int.mul_neg, hr, ← Int.neg_one_mul, ← sumN_mul]
      exact sumN_congr fun l _ => by rw [Int.neg_one_mul, Int.mul_neg]) (fun i hi => relU i hi j hj)
    exact this i hi
  · have hU := h.ex.all (fun r => sumN k (fun l => a l * r (p l)) = 0) (fun r hr => by
      show sumN k (fun l => a l * - r (p l)) = 0
      have : sumN k (fun l => a l * - r (p l)) = -1 * sumN k (fun l => a l * r (p l)) := by
        rw [← sumN_mul]
        exact sumN_congr fun l _ => by rw [Int.neg_one_mul, Int.mul_neg]
      rw [this, hr]; rfl) ha
    exact nondeg k (fun l i => U i (p l)) (by rw [← h.el.d]; exact h.el.nz) a (fun i hi => hU i (by have := h.kR; omega))
  · refine h.fr j hj q l (by have := h.kR; omega) (fun l' hl' hlt' => ?_)
    rcases Nat.lt_or_ge l' l with g | g
    · exact g
    · rcases Nat.lt_or_ge l l' with g2 | g2
      · have := h.up l l' g2 hl'; omega
      · have e : l' = l := by omega
        subst e; omega
  · subst e
    rw [h.el.d]
    exact h.ex.det p

end Go.Proofs.Ytdbmlkkpffoadaa
