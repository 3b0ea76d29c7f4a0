/- Determinants of integer vectors, as far as elimination without fractions wants them: linear in each vector, zero where two are equal, 1 at the unit vectors; a bound. Determinants by coordinates; Cramer's rule; what elimination without fractions keeps. What elimination without fractions keeps: all numbers are determinants, and each division leaves no remainder. Layer 4: the invariant of the elimination, column by column, and the bound of its numbers. Layer 4: what an elimination says when it has ended. -/
import Derived.Lib.Hide
namespace Go.Proofs.YtggpdhdbeokkcaaGreat
set_option linter.unusedVariables false

/-- The sum of f 0 .. f (n - 1). -/
def sumN : Nat → (Nat → Int) → Int
 | 0, _ => 0
 | n + 1, f => sumN n f + f n
theorem sumN_congr {n : Nat} {f g : Nat → Int} (h : ∀ i, i < n → f i = g i) : sumN n f = sumN n g := by
 induction n with
 | zero => rfl
 | succ n ih => unfold sumN; rw [ih (fun i hi => h i (by omega)), h n (by omega)]
theorem sumN_zero {n : Nat} {f : Nat → Int} (h : ∀ i, i < n → f i = 0) : sumN n f = 0 := by
 induction n with
 | zero => rfl
 | succ n ih => unfold sumN; rw [ih (fun i hi => h i (by omega)), h n (by omega)]; rfl
theorem sumN_add (n : Nat) (f g : Nat → Int) : sumN n (fun i => f i + g i) = sumN n f + sumN n g := by
 induction n with
 | zero => rfl
 | succ n ih =>
  show sumN n (fun i => f i + g i) + (f n + g n) = sumN n f + f n + (sumN n g + g n)
  rw [ih]; omega
theorem sumN_mul (n : Nat) (a : Int) (f : Nat → Int) : sumN n (fun i => a * f i) = a * sumN n f := by
 induction n with
 | zero => exact (Int.mul_zero a).symm
 | succ n ih => unfold sumN; rw [ih, Int.mul_add]
theorem sumN_one {n k : Nat} {f : Nat → Int} (hk : k < n) (h : ∀ i, i < n → i ≠ k → f i = 0) : sumN n f = f k := by
 induction n with
 | zero => omega
 | succ n ih =>
  unfold sumN
  by_cases e : k = n
  ·subst e
   rw [sumN_zero (fun i hi => h i (by omega) (by omega))]; omega
  ·rw [ih (by omega) (fun i hi => h i (by omega)), h n (by omega) (by omega)]; omega
theorem sumN_two {n j k : Nat} {f : Nat → Int} (hj : j < k) (hk : k < n) (h : ∀ i, i < n → i ≠ j → i ≠ k → f i = 0) : sumN n f = f j + f k := by
 induction n with
 | zero => omega
 | succ n ih =>
  unfold sumN
  by_cases e : k = n
  ·subst e
   rw [sumN_one hj (fun i hi hn => h i (by omega) hn (by omega))]
  ·rw [ih (by omega) (fun i hi => h i (by omega)), h n (by omega) (by omega) (by omega)]; omega
theorem sumN_abs {n : Nat} {f : Nat → Int} {b : Int} (h : ∀ i, i < n → -b ≤ f i ∧ f i ≤ b) : -(n * b) ≤ sumN n f ∧ sumN n f ≤ n * b := by
 induction n with
 | zero => simp [sumN]
 | succ n ih =>
  unfold sumN
  have h1 := ih (fun i hi => h i (by omega))
  have h2 := h n (by omega)
  have e : ((n + 1 : Nat) : Int) * b = n * b + b := by rw [Int.natCast_succ, Int.add_mul, Int.one_mul]
  rw [e]
  omega

abbrev Vec := Nat → Int
abbrev Sys := Nat → Vec
/-- The system with the vector k replaced. -/
def updV (U : Sys) (k : Nat) (x : Vec) : Sys := fun i => if i = k then x else U i
/-- The system without the vector k. -/
def skipV (k : Nat) (U : Sys) : Sys := fun i => if i < k then U i else U (i + 1)
/-- 1 or -1. -/
def sgP : Nat → Int
 | 0 => 1
 | n + 1 => - sgP n
theorem sgP_two (n : Nat) : sgP (n + n) = 1 := by
 induction n with
 | zero => rfl
 | succ n ih => rw [show n + 1 + (n + 1) = n + n + 1 + 1 by omega]; unfold sgP; unfold sgP; rw [ih]; rfl
theorem sgP_cases (n : Nat) : sgP n = 1 ∨ sgP n = -1 := by
 induction n with
 | zero => exact .inl rfl
 | succ n ih => unfold sgP; rcases ih with h | h <;> rw [h] <;> simp
/-- The determinant of m vectors of m numbers. -/
def detN : Nat → Sys → Int
 | 0, _ => 1
 | m + 1, U => sumN (m + 1) fun k => sgP (m + k) * (U k m * detN m (skipV k U))

theorem updV_self (U : Sys) (k : Nat) (x : Vec) : updV U k x k = x := if_pos rfl
theorem updV_ne (U : Sys) {k i : Nat} (x : Vec) (h : i ≠ k) : updV U k x i = U i := if_neg h
theorem updV_updV (U : Sys) (k : Nat) (x y : Vec) : updV (updV U k x) k y = updV U k y := by
 funext i; unfold updV; split <;> rfl
theorem updV_comm (U : Sys) {k l : Nat} (x y : Vec) (h : k ≠ l) : updV (updV U k x) l y = updV (updV U l y) k x := by
 funext i; unfold updV; by_cases h1 : i = k <;> by_cases h2 : i = l <;> simp [h1, h2]
 ·omega
 ·subst h1; simp [h]
 ·subst h2; simp [Ne.symm h]
theorem updV_own (U : Sys) (k : Nat) : updV U k (U k) = U := by
 funext i; unfold updV; split
 ·rename_i h; rw [h]
 ·rfl
theorem skip_self (U : Sys) (k : Nat) (x : Vec) : skipV k (updV U k x) = skipV k U := by
 funext i; unfold skipV updV; split
 ·rw [if_neg (by omega)]
 ·rw [if_neg (by omega)]
theorem skip_lt (U : Sys) {k j : Nat} (x : Vec) (h : k < j) : skipV j (updV U k x) = updV (skipV j U) k x := by
 funext i; unfold skipV updV
 by_cases h1 : i = k
 ·subst h1; simp [h]
 ·simp only [h1, if_false]
  split
  ·rfl
  ·rw [if_neg (by omega)]
theorem skip_gt (U : Sys) {k j : Nat} (x : Vec) (h : j < k) : skipV j (updV U k x) = updV (skipV j U) (k - 1) x := by
 funext i; unfold skipV updV
 by_cases h1 : i = k - 1
 ·subst h1; rw [if_neg (by omega), if_pos (by omega), if_pos rfl]
 ·rw [if_neg h1]
  split
  ·rename_i h2; rw [if_neg (by omega)]; exact (if_pos h2).symm
  ·rename_i h2; rw [if_neg (by omega)]; exact (if_neg h2).symm

/-- Only the first m numbers of the first m vectors count. -/
theorem det_congr : ∀ (m : Nat) {U V : Sys}, (∀ i, i < m → ∀ c, c < m → U i c = V i c) → detN m U = detN m V := by
 intro m
 induction m with
 | zero => intro U V _; rfl
 | succ m ih =>
  intro U V h
  unfold detN
  refine sumN_congr fun k hk => ?_
  rw [h k hk m (by omega), ih (U := skipV k U) (V := skipV k V) (fun i hi c hc => by
   unfold skipV
   split
   ·exact h i (by omega) c (by omega)
   ·exact h (i + 1) (by omega) c (by omega))]

/-- Linear in each vector. -/
theorem det_lin : ∀ (m : Nat) (U : Sys) (k : Nat) (a b : Int) (x y : Vec), k < m →
  detN m (updV U k (fun c => a * x c + b * y c)) = a * detN m (updV U k x) + b * detN m (updV U k y) := by
 intro m
 induction m with
 | zero => intro U k a b x y h; omega
 | succ m ih =>
  intro U k a b x y h
  unfold detN
  rw [← sumN_mul, ← sumN_mul, ← sumN_add]
  refine sumN_congr fun j hj => ?_
  by_cases e : j = k
  ·subst e
   simp only [updV_self, skip_self]
   generalize detN m (skipV j U) = d
   generalize sgP (m + j) = s
   generalize x m = p
   generalize y m = q
   grind
  ·simp only [updV_ne U _ e]
   have ih2 : detN m (skipV j (updV U k (fun c => a * x c + b * y c))) = a * detN m (skipV j (updV U k x)) + b * detN m (skipV j (updV U k y)) := by
    by_cases hlt : k < j
    ·rw [skip_lt U _ hlt, skip_lt U _ hlt, skip_lt U _ hlt]; exact ih _ _ _ _ _ _ (by omega)
    ·rw [skip_gt U _ (by omega), skip_gt U _ (by omega), skip_gt U _ (by omega)]; exact ih _ _ _ _ _ _ (by omega)
   rw [ih2]
   generalize detN m (skipV j (updV U k x)) = d
   generalize detN m (skipV j (updV U k y)) = d2
   generalize sgP (m + j) = s
   generalize U j m = p
   grind
theorem det_mul (m : Nat) (U : Sys) (k : Nat) (a : Int) (x : Vec) (h : k < m) : detN m (updV U k (fun c => a * x c)) = a * detN m (updV U k x) := by
 have := det_lin m U k a 0 x x h
 rw [Int.zero_mul, Int.add_zero] at this
 rw [← this]; congr 2; funext c; omega
theorem det_zero (m : Nat) (U : Sys) (k : Nat) (h : k < m) (hz : ∀ c, c < m → U k c = 0) : detN m U = 0 := by
 have e : detN m U = detN m (updV U k (fun c => 0 * U k c)) := det_congr m (fun i hi c hc => by
  unfold updV; split
  ·rename_i g; subst g; show U i c = 0 * U i c; rw [hz c hc, Int.mul_zero]
  ·rfl)
 rw [e, det_mul m U k 0 (U k) h, Int.zero_mul]
/-- Linear over a sum of n vectors. -/
theorem det_sum (m : Nat) (U : Sys) (k : Nat) (h : k < m) (n : Nat) (f : Nat → Int) (x : Nat → Vec) : detN m (updV U k (fun c => sumN n fun i => f i * x i c)) = sumN n fun i => f i * detN m (updV U k (x i)) := by
 induction n with
 | zero => exact det_zero m _ k h (fun c _ => by rw [updV_self]; rfl)
 | succ n ih =>
  show detN m (updV U k (fun c => (sumN n fun i => f i * x i c) + f n * x n c)) = (sumN n fun i => f i * detN m (updV U k (x i))) + f n * detN m (updV U k (x n))
  rw [← ih]
  have := det_lin m U k 1 (f n) (fun c => sumN n fun i => f i * x i c) (x n) h
  rw [Int.one_mul] at this
  rw [← this]; congr 2; funext c; omega

/-- Zero where two neighbours are equal. -/
theorem det_next : ∀ (m : Nat) (U : Sys) (k : Nat), k + 1 < m → U k = U (k + 1) → detN m U = 0 := by
 intro m
 induction m with
 | zero => intro U k h; omega
 | succ m ih =>
  intro U k h e
  unfold detN
  rw [sumN_two (j := k) (k := k + 1) (by omega) h]
  ·have es : skipV k U = skipV (k + 1) U := by
    funext i; unfold skipV
    by_cases h1 : i < k
    ·rw [if_pos h1, if_pos (by omega)]
    ·rw [if_neg h1]
     by_cases h2 : i = k
     ·subst h2; rw [if_pos (by omega)]; exact e.symm
     ·rw [if_neg (by omega)]
   rw [es, e, show m + (k + 1) = m + k + 1 by omega, show sgP (m + k + 1) = - sgP (m + k) from rfl]
   generalize sgP (m + k) = s
   generalize U (k + 1) m * detN m (skipV (k + 1) U) = t
   grind
  ·intro j hj n1 n2
   have hz : detN m (skipV j U) = 0 := by
    by_cases hlt : j < k
    ·refine ih _ (k - 1) (by omega) ?_
     unfold skipV
     rw [if_neg (by omega), if_neg (by omega), show k - 1 + 1 = k by omega]; exact e
    ·refine ih _ k (by omega) ?_
     unfold skipV
     rw [if_pos (by omega), if_pos (by omega)]; exact e
   rw [hz, Int.mul_zero, Int.mul_zero]
/-- Two neighbours exchanged. -/
theorem det_swap1 (m : Nat) (U : Sys) (k : Nat) (x y : Vec) (h : k + 1 < m) : detN m (updV (updV U k x) (k + 1) y) = - detN m (updV (updV U k y) (k + 1) x) := by
 have hs : ∀ p q : Vec, detN m (updV (updV U k p) (k + 1) q) = detN m (updV (updV U k p) (k + 1) q) := fun _ _ => rfl
 have z : ∀ p : Vec, detN m (updV (updV U k p) (k + 1) p) = 0 := fun p => det_next m _ k h (by rw [updV_self, updV_ne _ _ (by omega), updV_self])
 have l1 : ∀ q : Vec, detN m (updV (updV U k (fun c => 1 * x c + 1 * y c)) (k + 1) q) = 1 * detN m (updV (updV U k x) (k + 1) q) + 1 * detN m (updV (updV U k y) (k + 1) q) := fun q => by
  rw [updV_comm U _ q (by omega), updV_comm U _ q (by omega), updV_comm U _ q (by omega)]
  exact det_lin m _ k 1 1 x y (by omega)
 have a := z (fun c => 1 * x c + 1 * y c)
 rw [det_lin m _ (k + 1) 1 1 x y h, l1 x, l1 y, z x, z y] at a
 omega
/-- Zero where two vectors are equal. -/
theorem det_alt : ∀ (d m : Nat) (U : Sys) (i : Nat), i + d + 1 < m → U i = U (i + d + 1) → detN m U = 0 := by
 intro d
 induction d with
 | zero => intro m U i h e; exact det_next m U i h e
 | succ d ih =>
  intro m U i h e
  have e1 : U = updV (updV U (i + d + 1) (U (i + d + 1))) (i + d + 1 + 1) (U (i + d + 1 + 1)) := by rw [updV_own, updV_own]
  rw [e1, det_swap1 m U (i + d + 1) _ _ (by omega)]
  rw [ih m _ i (by omega) ?_]
  ·rfl
  ·rw [updV_ne _ _ (by omega), updV_ne _ _ (by omega), updV_ne _ _ (by omega), updV_self]
   exact e
theorem det_eq (m : Nat) (U : Sys) (i j : Nat) (hi : i < m) (hj : j < m) (hne : i ≠ j) (e : U i = U j) : detN m U = 0 := by
 rcases Nat.lt_or_gt_of_ne hne with h | h
 ·exact det_alt (j - i - 1) m U i (by omega) (by rw [show i + (j - i - 1) + 1 = j by omega]; exact e)
 ·exact det_alt (i - j - 1) m U j (by omega) (by rw [show j + (i - j - 1) + 1 = i by omega]; exact e.symm)
/-- Two vectors exchanged. -/
theorem det_swap (m : Nat) (U : Sys) (i j : Nat) (x y : Vec) (hi : i < m) (hj : j < m) (hne : i ≠ j) : detN m (updV (updV U i x) j y) = - detN m (updV (updV U i y) j x) := by
 have z : ∀ p : Vec, detN m (updV (updV U i p) j p) = 0 := fun p => det_eq m _ i j hi hj hne (by rw [updV_self, updV_ne _ _ hne, updV_self])
 have l1 : ∀ q : Vec, detN m (updV (updV U i (fun c => 1 * x c + 1 * y c)) j q) = 1 * detN m (updV (updV U i x) j q) + 1 * detN m (updV (updV U i y) j q) := fun q => by
  rw [updV_comm U _ q hne, updV_comm U _ q hne, updV_comm U _ q hne]
  exact det_lin m _ i 1 1 x y hi
 have a := z (fun c => 1 * x c + 1 * y c)
 rw [det_lin m _ j 1 1 x y hj, l1 x, l1 y, z x, z y] at a
 omega

/-- The unit vectors. -/
def unitV : Sys := fun i c => if c = i then 1 else 0
theorem det_unit : ∀ (m k : Nat) (x : Vec), k < m → detN m (updV unitV k x) = x k := by
 have h1 : ∀ m, detN m unitV = 1 := by
  intro m
  induction m with
  | zero => rfl
  | succ m ih =>
   unfold detN
   rw [sumN_one (k := m) (by omega)]
   ·rw [sgP_two, show unitV m m = 1 from if_pos rfl, Int.one_mul, Int.one_mul, ← ih]
    refine det_congr m fun i hi c hc => ?_
    unfold skipV; rw [if_pos hi]
   ·intro i hi hn
    rw [show unitV i m = 0 from if_neg (by omega)]; simp
 intro m
 induction m with
 | zero => intro k x h; omega
 | succ m ih =>
  intro k x h
  unfold detN
  by_cases e : k = m
  ·subst e
   rw [sumN_one (k := k) (by omega)]
   ·rw [sgP_two, updV_self, skip_self, Int.one_mul, show detN k (skipV k unitV) = 1 from ?_, Int.mul_one]
    rw [← h1 k]
    refine det_congr k fun i hi c hc => ?_
    unfold skipV; rw [if_pos hi]
   ·intro i hi hn
    rw [updV_ne _ _ hn, show unitV i k = 0 from if_neg (by omega)]; simp
  ·rw [sumN_two (j := k) (k := m) (by omega) (by omega)]
   ·rw [sgP_two, updV_ne unitV x (by omega : m ≠ k), show unitV m m = 1 from if_pos rfl]
    have z : detN m (skipV k (updV unitV k x)) = 0 := by
     rw [skip_self]
     refine det_zero m _ (m - 1) (by omega) fun c hc => ?_
     unfold skipV; rw [if_neg (by omega), show m - 1 + 1 = m by omega]
     exact if_neg (by omega)
    have y : detN m (skipV m (updV unitV k x)) = x k := by
     rw [← ih k x (by omega)]
     refine det_congr m fun i hi c hc => ?_
     unfold skipV; rw [if_pos hi]
    rw [z, y]; omega
   ·intro i hi n1 n2
    rw [updV_ne _ _ n1, show unitV i m = 0 from if_neg (by omega)]; simp
theorem det_one (m : Nat) : detN m unitV = 1 := by
 cases m with
 | zero => rfl
 | succ m =>
  have := det_unit (m + 1) 0 (unitV 0) (by omega)
  rw [updV_own] at this
  rw [this]; rfl

/-- The product of c 0 .. c (n - 1). -/
def prodN : Nat → (Nat → Int) → Int
 | 0, _ => 1
 | n + 1, f => prodN n f * f n
def skipC (k : Nat) (c : Nat → Int) : Nat → Int := fun i => if i < k then c i else c (i + 1)
theorem prod_nn {n : Nat} {c : Nat → Int} (h : ∀ i, i < n → 0 ≤ c i) : 0 ≤ prodN n c := by
 induction n with
 | zero => show (0 : Int) ≤ 1; omega
 | succ n ih => exact Int.mul_nonneg (ih fun i hi => h i (by omega)) (h n (by omega))
end Go.Proofs.YtggpdhdbeokkcaaGreat

namespace Go.Proofs.YtggpdhdbeokkcaaGreat
set_option linter.unusedVariables false

theorem sgP_succ (n : Nat) : sgP (n + 1) = - sgP n := rfl
theorem sgP_add (a b : Nat) : sgP (a + b) = sgP a * sgP b := by
 induction b with
 | zero => show sgP a = sgP a * 1; omega
 | succ b ih => rw [← Nat.add_assoc, sgP_succ, sgP_succ, ih, Int.mul_neg]
theorem sum_pairs : ∀ (n : Nat) (f : Nat → Nat → Int), (∀ k l, l < k → k ≤ n → f k l = - f l (k - 1)) → sumN (n + 1) (fun k => sumN n (fun l => f k l)) = 0
 | 0, f, _ => rfl
 | n + 1, f, h => by
  show sumN (n + 1) (fun k => sumN n (fun l => f k l) + f k n) + sumN (n + 1) (fun l => f (n + 1) l) = 0
  rw [sumN_add, sum_pairs n f (fun k l h1 h2 => h k l h1 (by omega)), sumN_congr (n := n + 1) (f := fun l => f (n + 1) l) (g := fun l => (-1) * f l n) (fun l hl => by rw [h (n + 1) l hl (Nat.le_refl _)]; show - f l n = _; omega), sumN_mul]
  omega
theorem skip_skip (U : Sys) {k l : Nat} (h : l < k) : skipV l (skipV k U) = skipV (k - 1) (skipV l U) := by
 funext i
 unfold skipV
 by_cases h1 : i < l
 ·rw [if_pos h1, if_pos (by omega), if_pos (by omega), if_pos h1]
 ·rw [if_neg h1]
  by_cases h2 : i + 1 < k
  ·rw [if_pos h2, if_pos (by omega), if_neg h1]
  ·rw [if_neg h2, if_neg (by omega), if_neg (by omega)]
theorem det_clast (m : Nat) (U : Sys) (h : ∀ l, l < m + 2 → U l (m + 1) = U l m) : detN (m + 2) U = 0 := by
 have e : detN (m + 2) U = sumN (m + 1 + 1) (fun k => sumN (m + 1) (fun l => sgP (m + 1 + k) * (U k (m + 1) * (sgP (m + l) * (skipV k U l m * detN m (skipV l (skipV k U))))))) := by
  show sumN (m + 1 + 1) (fun k => sgP (m + 1 + k) * (U k (m + 1) * sumN (m + 1) (fun l => sgP (m + l) * (skipV k U l m * detN m (skipV l (skipV k U)))))) = _
  refine sumN_congr fun k _ => ?_
  rw [← sumN_mul, ← sumN_mul]
 rw [e]
 refine sum_pairs (m + 1) _ fun k l hl hk => ?_
 obtain ⟨q, rfl⟩ : ∃ q, k = q + 1 := ⟨k - 1, by omega⟩
 show sgP (m + 1 + (q + 1)) * (U (q + 1) (m + 1) * (sgP (m + l) * (skipV (q + 1) U l m * detN m (skipV l (skipV (q + 1) U))))) = - (sgP (m + 1 + l) * (U l (m + 1) * (sgP (m + (q + 1 - 1)) * (skipV l U (q + 1 - 1) m * detN m (skipV (q + 1 - 1) (skipV l U))))))
 rw [skip_skip U hl, show skipV (q + 1) U l = U l from if_pos hl, show q + 1 - 1 = q by omega, show skipV l U q = U (q + 1) from if_neg (by omega), h (q + 1) (by omega), h l (by omega)]
 rw [show m + 1 + (q + 1) = m + q + 1 + 1 by omega, sgP_succ, sgP_succ, show m + 1 + l = m + l + 1 by omega, sgP_succ]
 generalize detN m (skipV q (skipV l U)) = d
 generalize sgP (m + q) = s
 generalize sgP (m + l) = t
 grind
/-- Zero where two neighbouring coordinates are equal. -/
theorem det_cnext : ∀ (m : Nat) (W : Sys) (k : Nat), k + 1 < m → (∀ l, l < m → W l k = W l (k + 1)) → detN m W = 0 := by
 intro m
 induction m with
 | zero => intro W k h; omega
 | succ m ih =>
  intro W k h e
  by_cases hk : k + 1 = m
  ·obtain ⟨q, rfl⟩ : ∃ q, m = q + 1 := ⟨m - 1, by omega⟩
   refine det_clast q W fun l hl => ?_
   rw [show q = k by omega]
   exact (e l hl).symm
  ·unfold detN
   refine sumN_zero fun j hj => ?_
   rw [ih (skipV j W) k (by omega) (fun l hl => by
    unfold skipV
    split
    ·exact e l (by omega)
    ·exact e (l + 1) (by omega)), Int.mul_zero, Int.mul_zero]
/-- Linear in each coordinate. -/
theorem det_clin : ∀ (m : Nat) (W : Sys) (c : Nat) (a b : Int) (x y : Nat → Int), c < m →
  detN m (fun l i => if i = c then a * x l + b * y l else W l i) = a * detN m (fun l i => if i = c then x l else W l i) + b * detN m (fun l i => if i = c then y l else W l i) := by
 intro m
 induction m with
 | zero => intro W c a b x y h; omega
 | succ m ih =>
  intro W c a b x y h
  unfold detN
  rw [← sumN_mul, ← sumN_mul, ← sumN_add]
  refine sumN_congr fun k hk => ?_
  by_cases e : c = m
  ·subst e
   have q : ∀ z : Nat → Int, detN c (skipV k (fun l i => if i = c then z l else W l i)) = detN c (skipV k W) := fun z => det_congr c fun l hl i hi => by
    unfold skipV
    split <;> exact if_neg (by omega)
   rw [q x, q y, q (fun l => a * x l + b * y l)]
   simp only [if_pos]
   generalize detN c (skipV k W) = d
   generalize sgP (c + k) = s
   generalize x k = u
   generalize y k = v
   grind
  ·have q : ∀ z : Nat → Int, skipV k (fun l i => if i = c then z l else W l i) = fun l i => if i = c then (if l < k then z l else z (l + 1)) else skipV k W l i := fun z => by
    funext l i
    unfold skipV
    by_cases h1 : l < k
    ·simp only [if_pos h1]
    ·simp only [if_neg h1]
   have f : (fun (l i : Nat) => if i = c then (if l < k then a * x l + b * y l else a * x (l + 1) + b * y (l + 1)) else skipV k W l i) = fun l i => if i = c then a * (if l < k then x l else x (l + 1)) + b * (if l < k then y l else y (l + 1)) else skipV k W l i := by
    funext l i
    by_cases h1 : l < k
    ·simp only [if_pos h1]
    ·simp only [if_neg h1]
   rw [q x, q y, q (fun l => a * x l + b * y l), f, ih (skipV k W) c a b _ _ (by omega)]
   simp only [show ¬ m = c from fun g => e g.symm, if_false]
   generalize detN m _ = d
   generalize detN m _ = d2
   generalize sgP (m + k) = s
   generalize W k m = p
   grind

/-- The same by coordinates. -/
def detC (m : Nat) (U : Sys) : Int := detN m (fun l i => U i l)
theorem detC_upd (m : Nat) (U : Sys) (k : Nat) (z : Vec) : detC m (updV U k z) = detN m (fun l i => if i = k then z l else U i l) := by
 unfold detC
 congr 1
 funext l i
 unfold updV
 split <;> rfl
theorem detC_lin (m : Nat) (U : Sys) (k : Nat) (a b : Int) (x y : Vec) (h : k < m) : detC m (updV U k (fun c => a * x c + b * y c)) = a * detC m (updV U k x) + b * detC m (updV U k y) := by
 rw [detC_upd, detC_upd, detC_upd]
 exact det_clin m (fun l i => U i l) k a b x y h
theorem detC_next (m : Nat) (U : Sys) (k : Nat) (h : k + 1 < m) (e : U k = U (k + 1)) : detC m U = 0 :=
 det_cnext m _ k h fun l _ => congrFun e l
theorem detC_swap1 (m : Nat) (U : Sys) (k : Nat) (x y : Vec) (h : k + 1 < m) : detC m (updV (updV U k x) (k + 1) y) = - detC m (updV (updV U k y) (k + 1) x) := by
 have z : ∀ p : Vec, detC m (updV (updV U k p) (k + 1) p) = 0 := fun p => detC_next m _ k h (by rw [updV_self, updV_ne _ _ (by omega), updV_self])
 have l1 : ∀ q : Vec, detC m (updV (updV U k (fun c => 1 * x c + 1 * y c)) (k + 1) q) = 1 * detC m (updV (updV U k x) (k + 1) q) + 1 * detC m (updV (updV U k y) (k + 1) q) := fun q => by
  rw [updV_comm U _ q (by omega), updV_comm U _ q (by omega), updV_comm U _ q (by omega)]
  exact detC_lin m _ k 1 1 x y (by omega)
 have a := z (fun c => 1 * x c + 1 * y c)
 rw [detC_lin m _ (k + 1) 1 1 x y h, l1 x, l1 y, z x, z y] at a
 omega
theorem detC_alt : ∀ (d m : Nat) (U : Sys) (i : Nat), i + d + 1 < m → U i = U (i + d + 1) → detC m U = 0 := by
 intro d
 induction d with
 | zero => intro m U i h e; exact detC_next m U i h e
 | succ d ih =>
  intro m U i h e
  have e1 : U = updV (updV U (i + d + 1) (U (i + d + 1))) (i + d + 1 + 1) (U (i + d + 1 + 1)) := by rw [updV_own, updV_own]
  rw [e1, detC_swap1 m U (i + d + 1) _ _ (by omega)]
  rw [ih m _ i (by omega) ?_]
  ·rfl
  ·rw [updV_ne _ _ (by omega), updV_ne _ _ (by omega), updV_ne _ _ (by omega), updV_self]
   exact e
/-- Zero where a coordinate is the last one. -/
theorem det_ceq (m : Nat) (W : Sys) (i : Nat) (hi : i < m) (e : ∀ l, W l i = W l m) : detN (m + 1) W = 0 := by
 have h := detC_alt (m - i - 1) (m + 1) (fun i l => W l i) i (by omega) (by
  rw [show i + (m - i - 1) + 1 = m by omega]
  funext l
  exact e l)
 exact h

/-- The vectors V with x at t, those from r on before it moved. -/
def movY (V : Sys) (x : Vec) (r t : Nat) : Sys := fun l => if l < r then V l else if l < t then V (l + 1) else if l = t then x else V l
theorem mov_step (k : Nat) (V : Sys) (x : Vec) (r t : Nat) (h : r ≤ t) (ht : t + 1 < k) : detN k (movY V x r (t + 1)) = - detN k (movY V x r t) := by
 have e1 : movY V x r (t + 1) = updV (updV (movY V x r t) t (V (t + 1))) (t + 1) x := by
  funext l
  unfold updV movY
  (repeat' split) <;> first | rfl | (exfalso; omega) | (congr 1; omega)
 have e2 : movY V x r t = updV (updV (movY V x r t) t x) (t + 1) (V (t + 1)) := by
  funext l
  unfold updV movY
  (repeat' split) <;> first | rfl | (exfalso; omega) | (congr 1 <;> omega)
 rw [e1, det_swap1 k _ t _ _ ht, ← e2]
theorem mov_all (k : Nat) (V : Sys) (x : Vec) (r : Nat) : ∀ d, r + d < k → detN k (movY V x r (r + d)) = sgP d * detN k (updV V r x)
 | 0, h => by
  rw [show sgP 0 = 1 from rfl, Int.one_mul]
  congr 1
  funext l
  unfold movY updV
  by_cases h1 : l < r
  ·rw [if_pos h1, if_neg (by omega)]
  ·rw [if_neg h1, if_neg (by omega)]
   rfl
 | d + 1, h => by
  rw [← Nat.add_assoc, mov_step k V x r (r + d) (by omega) (by omega), mov_all k V x r d (by omega), sgP_succ, Int.neg_mul]
/-- One vector and one coordinate more. -/
theorem border (k : Nat) (V : Sys) (x : Vec) : detN (k + 1) (fun l => if l = k then x else V l) = detN k V * x k - sumN k (fun r => detN k (updV V r x) * V r k) := by
 show sumN k (fun r => sgP (k + r) * ((fun l => if l = k then x else V l) r k * detN k (skipV r (fun l => if l = k then x else V l)))) + sgP (k + k) * ((fun l => if l = k then x else V l) k k * detN k (skipV k (fun l => if l = k then x else V l))) = _
 have e1 : detN k (skipV k (fun l => if l = k then x else V l)) = detN k V := det_congr k fun l hl c _ => by
  show (if l < k then (if l = k then x else V l) else (if l + 1 = k then x else V (l + 1))) c = V l c
  rw [if_pos hl, if_neg (by omega)]
 have e2 : ∀ r, r < k → sgP (k + r) * ((fun l => if l = k then x else V l) r k * detN k (skipV r (fun l => if l = k then x else V l))) = (-1) * (detN k (updV V r x) * V r k) := fun r hr => by
  have q : detN k (skipV r (fun l => if l = k then x else V l)) = detN k (movY V x r (r + (k - 1 - r))) := det_congr k fun l hl c _ => by
   show (if l < r then (if l = k then x else V l) else (if l + 1 = k then x else V (l + 1))) c = (if l < r then V l else if l < r + (k - 1 - r) then V (l + 1) else if l = r + (k - 1 - r) then x else V l) c
   (repeat' split) <;> first | rfl | (exfalso; omega)
  rw [q, mov_all k V x r (k - 1 - r) (by omega)]
  show sgP (k + r) * ((if r = k then x else V r) k * (sgP (k - 1 - r) * detN k (updV V r x))) = _
  rw [if_neg (by omega)]
  have s : sgP (k + r) * sgP (k - 1 - r) = -1 := by
   rw [← sgP_add, show k + r + (k - 1 - r) = (k - 1) + (k - 1) + 1 by omega, sgP_succ, sgP_two]
  generalize detN k (updV V r x) = d at *
  generalize sgP (k + r) = s1 at *
  generalize sgP (k - 1 - r) = s2 at *
  generalize V r k = v
  have : s1 * (v * (s2 * d)) = (s1 * s2) * (v * d) := by grind
  rw [this, s]; grind
 rw [sumN_congr e2, sumN_mul, e1, sgP_two]
 show (-1) * sumN k (fun i => detN k (updV V i x) * V i k) + 1 * ((if k = k then x else V k) k * detN k V) = _
 rw [if_pos rfl, Int.mul_comm (x k)]
 omega
/-- Cramer's rule. -/
theorem cramer (k : Nat) (V : Sys) (x : Vec) (i : Nat) (hi : i < k) : detN k V * x i = sumN k (fun r => detN k (updV V r x) * V r i) := by
 have h := border k (fun l c => if c = k then V l i else V l c) (fun c => if c = k then x i else x c)
 rw [det_ceq k _ i hi (fun l => by
  by_cases h1 : l = k
  ·rw [if_pos h1]; simp only [if_pos]; exact if_neg (by omega)
  ·rw [if_neg h1]; simp only [if_pos]; exact if_neg (by omega))] at h
 have e1 : detN k (fun l c => if c = k then V l i else V l c) = detN k V := det_congr k fun l _ c hc => if_neg (by omega)
 have e2 : ∀ r, r < k → detN k (updV (fun l c => if c = k then V l i else V l c) r (fun c => if c = k then x i else x c)) * (fun l c => if c = k then V l i else V l c) r k = detN k (updV V r x) * V r i := fun r _ => by
  congr 1
  ·refine det_congr k fun l _ c hc => ?_
   unfold updV
   by_cases h1 : l = r
   ·rw [if_pos h1, if_pos h1]; exact if_neg (by omega)
   ·rw [if_neg h1, if_neg h1]; exact if_neg (by omega)
  ·exact if_pos rfl
 rw [e1, sumN_congr e2] at h
 simp only [if_pos] at h
 omega
end Go.Proofs.YtggpdhdbeokkcaaGreat

namespace Go.Proofs.YtggpdhdbeokkcaaGreat
set_option linter.unusedVariables false

/-- The rows k and a exchanged, one with the other sign. -/
def exU (k a : Nat) (U : Nat → Nat → Int) : Nat → Nat → Int := fun i j => if i = k then U a j else if i = a then - U k j else U i j
def updP (p : Nat → Nat) (k c : Nat) : Nat → Nat := fun l => if l = k then c else p l
end Go.Proofs.YtggpdhdbeokkcaaGreat

namespace Go.Proofs.YtggpdhdbeokkcaaGreat
set_option linter.unusedVariables false

/-- Rows exchanged, each time one with the other sign. -/
inductive Exd (R : Nat) (M : Nat → Nat → Int) : (Nat → Nat → Int) → Prop
 | refl : Exd R M M
 | step (U : Nat → Nat → Int) (k a : Nat) : Exd R M U → k < a → a < R → Exd R M (exU k a U)
end Go.Proofs.YtggpdhdbeokkcaaGreat

namespace Go.Proofs.YtggpdhdbeokkcaaGreat
set_option linter.unusedVariables false

end Go.Proofs.YtggpdhdbeokkcaaGreat
