/- Layer 5: the tables of the simplex method as determinants: what a step keeps, and how great the numbers get. -/
import Derived.Test.YtggpdhdbeokkcaaGreatLM
namespace Go.Proofs.YtggpdhdbeokkcaaGreat
set_option linter.unusedVariables false

theorem sumN_pair {n j k : Nat} {f : Nat → Int} (hj : j < n) (hk : k < n) (hn : j ≠ k) (h : ∀ i, i < n → i ≠ j → i ≠ k → f i = 0) : sumN n f = f j + f k := by
 rcases Nat.lt_or_gt_of_ne hn with g | g
 ·exact sumN_two g hk h
 ·rw [sumN_two g hj (fun i hi h1 h2 => h i hi h2 h1)]; omega
theorem sumN_off {n r : Nat} {f g : Nat → Int} (hr : r < n) (h : ∀ k, k < n → k ≠ r → f k = g k) : sumN n f = sumN n g + (f r - g r) := by
 have e := sumN_one (n := n) (k := r) (f := fun k => f k + (-1) * g k) hr (fun i hi hn => by rw [h i hi hn]; omega)
 rw [sumN_add, sumN_mul] at e
 omega
theorem sumN_swap (n m : Nat) (f : Nat → Nat → Int) : sumN n (fun i => sumN m (fun k => f i k)) = sumN m (fun k => sumN n (fun i => f i k)) := by
 induction n with
 | zero => exact (sumN_zero (fun _ _ => rfl)).symm
 | succ n ih =>
  show sumN n (fun i => sumN m (fun k => f i k)) + sumN m (fun k => f n k) = sumN m (fun k => sumN n (fun i => f i k) + f n k)
  rw [ih, sumN_add]
theorem sumN_le {n : Nat} {f g : Nat → Int} (h : ∀ i, i < n → f i ≤ g i) : sumN n f ≤ sumN n g := by
 induction n with
 | zero => exact Int.le_refl _
 | succ n ih => unfold sumN; have := ih (fun i hi => h i (by omega)); have := h n (by omega); omega
theorem sumN_nn {n : Nat} {f : Nat → Int} (h : ∀ i, i < n → 0 ≤ f i) : 0 ≤ sumN n f := by
 have := sumN_le (n := n) (f := fun _ => 0) (g := f) h
 rwa [sumN_zero (fun _ _ => rfl)] at this
theorem sumN_ge {n k : Nat} {f : Nat → Int} (hk : k < n) (h : ∀ i, i < n → 0 ≤ f i) : f k ≤ sumN n f := by
 have e := sumN_off (n := n) (r := k) (f := f) (g := fun i => if i = k then 0 else f i) hk (fun i hi hn => by rw [if_neg hn])
 have := sumN_nn (n := n) (f := fun i => if i = k then 0 else f i) (fun i hi => by
  show 0 ≤ (if i = k then 0 else f i)
  split
  ·exact Int.le_refl _
  ·exact h i hi)
 simp only [if_pos] at e
 omega
theorem sumN_abs2 (n : Nat) (f : Nat → Int) : ((sumN n f).natAbs : Int) ≤ sumN n fun i => ((f i).natAbs : Int) := by
 induction n with
 | zero => exact Int.le_refl _
 | succ n ih =>
  show ((sumN n f + f n).natAbs : Int) ≤ sumN n (fun i => ((f i).natAbs : Int)) + ((f n).natAbs : Int)
  omega
theorem sumN_app (a b : Nat) (f : Nat → Int) : sumN (a + b) f = sumN a f + sumN b (fun i => f (a + i)) := by
 induction b with
 | zero => show sumN a f = sumN a f + 0; omega
 | succ b ih => show sumN (a + b) f + f (a + b) = sumN a f + (sumN b (fun i => f (a + i)) + f (a + b)); rw [ih]; omega
theorem sumN_inj : ∀ (m W : Nat) (p : Nat → Nat) (g : Nat → Int), (∀ l, l < m → p l < W) → (∀ l k, l < m → k < m → p l = p k → l = k) → (∀ j, j < W → 0 ≤ g j) → sumN m (fun l => g (p l)) ≤ sumN W g := by
 intro m
 induction m with
 | zero => intro W p g _ _ h; exact sumN_nn h
 | succ m ih =>
  intro W p g hp hi hg
  have h1 := ih W p (fun j => if j = p m then 0 else g j) (fun l hl => hp l (by omega)) (fun l k hl hk => hi l k (by omega) (by omega)) (fun j hj => by
   show 0 ≤ (if j = p m then 0 else g j)
   split
   ·exact Int.le_refl _
   ·exact hg j hj)
  have h2 : sumN m (fun l => (fun j => if j = p m then 0 else g j) (p l)) = sumN m (fun l => g (p l)) := sumN_congr fun l hl => if_neg fun e => by have := hi l m (by omega) (by omega) e; omega
  have h3 := sumN_off (n := W) (r := p m) (f := g) (g := fun j => if j = p m then 0 else g j) (hp m (by omega)) (fun i hi hn => by rw [if_neg hn])
  simp only [if_pos] at h3
  rw [h2] at h1
  show sumN m (fun l => g (p l)) + g (p m) ≤ _
  omega
theorem sumN_skip : ∀ (n : Nat) (f : Nat → Int) (k : Nat), k ≤ n → sumN (n + 1) f = sumN n (skipC k f) + f k := by
 intro n
 induction n with
 | zero => intro f k h; rw [show k = 0 by omega]; rfl
 | succ n ih =>
  intro f k h
  by_cases e : k = n + 1
  ·subst e
   show sumN (n + 1) f + f (n + 1) = _
   congr 1
   exact sumN_congr fun i hi => by unfold skipC; rw [if_pos hi]
  ·show sumN (n + 1) f + f (n + 1) = sumN n (skipC k f) + skipC k f n + f k
   rw [ih f k (by omega), show skipC k f n = f (n + 1) from if_neg (by omega)]; omega
theorem prodN_mono {n : Nat} {f g : Nat → Int} (h : ∀ i, i < n → 0 ≤ f i ∧ f i ≤ g i) : prodN n f ≤ prodN n g := by
 induction n with
 | zero => exact Int.le_refl _
 | succ n ih =>
  unfold prodN
  have h1 := ih (fun i hi => h i (by omega))
  have h2 := h n (by omega)
  have h3 : 0 ≤ prodN n f := prod_nn fun i hi => (h i (by omega)).1
  exact Int.mul_le_mul h1 h2.2 h2.1 (Int.le_trans h3 h1)
theorem prodN_pos {n : Nat} {f : Nat → Int} (h : ∀ i, i < n → 1 ≤ f i) : 1 ≤ prodN n f := by
 induction n with
 | zero => exact Int.le_refl _
 | succ n ih =>
  have h1 := ih (fun i hi => h i (by omega))
  have h2 := h n (by omega)
  have := Int.mul_le_mul h1 h2 (by omega) (by omega)
  simpa [prodN] using this

/-- A determinant is at most the product of the sums of the absolute values of its rows. -/
theorem det_row : ∀ (m : Nat) (U : Sys), ((detN m U).natAbs : Int) ≤ prodN m (fun c => sumN m fun l => ((U l c).natAbs : Int)) := by
 intro m
 induction m with
 | zero => intro U; exact Int.le_refl _
 | succ m ih =>
  intro U
  show ((sumN (m + 1) fun k => sgP (m + k) * (U k m * detN m (skipV k U))).natAbs : Int) ≤ prodN m (fun c => sumN (m + 1) fun l => ((U l c).natAbs : Int)) * (sumN (m + 1) fun l => ((U l m).natAbs : Int))
  refine Int.le_trans (sumN_abs2 _ _) ?_
  rw [← sumN_mul]
  refine sumN_le fun k hk => ?_
  have h1 := ih (skipV k U)
  have h2 : prodN m (fun c => sumN m fun l => ((skipV k U l c).natAbs : Int)) ≤ prodN m (fun c => sumN (m + 1) fun l => ((U l c).natAbs : Int)) := prodN_mono fun c hc => by
   refine ⟨sumN_nn fun l _ => by omega, ?_⟩
   rw [sumN_skip m _ k (by omega)]
   have e : sumN m (fun l => ((skipV k U l c).natAbs : Int)) = sumN m (skipC k fun l => ((U l c).natAbs : Int)) := sumN_congr fun l _ => by
    unfold skipV skipC; split <;> rfl
   rw [e]; omega
  have e : ((sgP (m + k) * (U k m * detN m (skipV k U))).natAbs : Int) = ((detN m (skipV k U)).natAbs : Int) * ((U k m).natAbs : Int) := by
   rcases sgP_cases (m + k) with g | g <;> rw [g] <;> simp [Int.natAbs_mul] <;> rw [Int.mul_comm]
  rw [e]
  exact Int.mul_le_mul_of_nonneg_right (Int.le_trans h1 h2) (by omega)
/-- The columns b of a table, and one column. -/
def bV (A : Nat → Nat → Int) (b : Nat → Nat) : Sys := fun l c => A c (b l)
def cV (A : Nat → Nat → Int) (j : Nat) : Vec := fun c => A c j
def dtP (m : Nat) (A : Nat → Nat → Int) (b : Nat → Nat) : Int := detN m (bV A b)
def sgB (m : Nat) (A : Nat → Nat → Int) (b : Nat → Nat) : Int := if dtP m A b < 0 then -1 else 1
/-- The common denominator, the numbers, and the row of costs z of the table with the basis b. -/
def ddP (m : Nat) (A : Nat → Nat → Int) (b : Nat → Nat) : Int := sgB m A b * dtP m A b
def ttP (m : Nat) (A : Nat → Nat → Int) (b : Nat → Nat) (i j : Nat) : Int := sgB m A b * detN m (updV (bV A b) i (cV A j))
def zzP (m : Nat) (A : Nat → Nat → Int) (z : Nat → Int) (b : Nat → Nat) (j : Nat) : Int := ddP m A b * z j - sumN m fun k => z (b k) * ttP m A b k j

theorem bV_upd (A : Nat → Nat → Int) (b : Nat → Nat) (r s : Nat) : bV A (updP b r s) = updV (bV A b) r (cV A s) := by
 funext l c
 unfold bV updP updV cV
 by_cases h : l = r
 ·rw [if_pos h, if_pos h]
 ·rw [if_neg h, if_neg h]
theorem sgB_cases (m : Nat) (A : Nat → Nat → Int) (b : Nat → Nat) : sgB m A b = 1 ∨ sgB m A b = -1 := by
 unfold sgB; split
 ·exact .inr rfl
 ·exact .inl rfl
theorem ddP_abs (m : Nat) (A : Nat → Nat → Int) (b : Nat → Nat) : ddP m A b = ((dtP m A b).natAbs : Int) := by
 unfold ddP sgB; split <;> omega
theorem ddP_pos {m : Nat} {A : Nat → Nat → Int} {b : Nat → Nat} (h : dtP m A b ≠ 0) : 0 < ddP m A b := by
 rw [ddP_abs]; omega
theorem ttP_as (m : Nat) (A : Nat → Nat → Int) (b : Nat → Nat) (i j : Nat) : ttP m A b i j = sgB m A b * dtP m A (updP b i j) := by
 unfold ttP dtP; rw [bV_upd]
theorem ttP_abs (m : Nat) (A : Nat → Nat → Int) (b : Nat → Nat) (i j : Nat) : ((ttP m A b i j).natAbs : Int) = ((dtP m A (updP b i j)).natAbs : Int) := by
 rw [ttP_as]
 rcases sgB_cases m A b with g | g <;> rw [g] <;> omega
theorem tt_cols {m : Nat} {A : Nat → Nat → Int} (b : Nat → Nat) {i : Nat} (hi : i < m) {j : Nat} {a : Int} {n : Nat} {f : Nat → Int} {x : Nat → Nat} (h : ∀ c, c < m → a * A c j = sumN n fun l => f l * A c (x l)) :
  a * ttP m A b i j = sumN n fun l => f l * ttP m A b i (x l) := by
 have e1 : detN m (updV (bV A b) i (fun c => a * cV A j c)) = detN m (updV (bV A b) i (fun c => sumN n fun l => f l * cV A (x l) c)) := det_congr m fun k hk c hc => by
  unfold updV; split
  ·exact h c hc
  ·rfl
 rw [det_mul m _ i a _ hi, det_sum m _ i hi n f (fun l => cV A (x l))] at e1
 unfold ttP
 have e2 : (sumN n fun l => f l * (sgB m A b * detN m (updV (bV A b) i (cV A (x l))))) = sgB m A b * sumN n fun l => f l * detN m (updV (bV A b) i (cV A (x l))) := by
  rw [← sumN_mul]
  exact sumN_congr fun l _ => by grind
 rw [e2, ← e1]; grind
theorem cramerP (m : Nat) (A : Nat → Nat → Int) (b : Nat → Nat) (c j : Nat) (hc : c < m) : ddP m A b * A c j = sumN m fun k => ttP m A b k j * A c (b k) := by
 have h := cramer m (bV A b) (cV A j) c hc
 have e : (sumN m fun k => ttP m A b k j * A c (b k)) = sgB m A b * sumN m fun k => detN m (updV (bV A b) k (cV A j)) * bV A b k c := by
  rw [← sumN_mul]
  exact sumN_congr fun l _ => by unfold ttP bV; grind
 rw [e, ← h]
 unfold ddP dtP cV
 grind
theorem tt_basic (m : Nat) (A : Nat → Nat → Int) (b : Nat → Nat) (i k : Nat) (hi : i < m) (hk : k < m) : ttP m A b i (b k) = if i = k then ddP m A b else 0 := by
 unfold ttP ddP dtP
 by_cases e : i = k
 ·subst e
  rw [if_pos rfl, show cV A (b i) = bV A b i from rfl, updV_own]
 ·rw [if_neg e, det_eq m _ i k hi hk e (by rw [updV_self, updV_ne _ _ (fun g => e g.symm)]; rfl), Int.mul_zero]
theorem zz_basic (m : Nat) (A : Nat → Nat → Int) (z : Nat → Int) (b : Nat → Nat) (k : Nat) (hk : k < m) : zzP m A z b (b k) = 0 := by
 unfold zzP
 rw [sumN_one hk (fun i hi hn => by rw [tt_basic m A b i k hi hk, if_neg hn, Int.mul_zero]), tt_basic m A b k k hk hk, if_pos rfl, Int.mul_comm]
 omega
theorem basis_inj {m : Nat} {A : Nat → Nat → Int} {b : Nat → Nat} (h : dtP m A b ≠ 0) {i k : Nat} (hi : i < m) (hk : k < m) (e : b i = b k) : i = k :=
 Classical.byContradiction fun g => h (det_eq m _ i k hi hk g (by unfold bV; rw [e]))

theorem piv_det (m : Nat) (V : Sys) (x y : Vec) (r i : Nat) (hr : r < m) (hi : i < m) (hn : i ≠ r) :
  detN m V * detN m (updV (updV V r x) i y) = detN m (updV V i y) * detN m (updV V r x) - detN m (updV V r y) * detN m (updV V i x) := by
 have e1 : detN m (updV (updV V r x) i (fun c => detN m V * y c)) = detN m (updV (updV V r x) i (fun c => sumN m fun k => detN m (updV V k y) * V k c)) := det_congr m fun k hk c hc => by
  unfold updV; split
  ·exact cramer m V y c hc
  ·rfl
 rw [det_mul m _ i _ _ hi, det_sum m _ i hi m (fun k => detN m (updV V k y)) V] at e1
 rw [e1, sumN_pair hi hr hn]
 ·have h1 : updV (updV V r x) i (V i) = updV V r x := by
   have := updV_own (updV V r x) i
   rwa [updV_ne V x hn] at this
  have h2 : detN m (updV (updV V r x) i (V r)) = - detN m (updV V i x) := by
   rw [det_swap m V r i x (V r) hr hi (fun g => hn g.symm), updV_own]
  rw [h1, h2]
  generalize detN m (updV V i y) = p
  generalize detN m (updV V r y) = q
  generalize detN m (updV V i x) = u
  generalize detN m (updV V r x) = v
  grind
 ·intro k hk h1 h2
  rw [det_eq m (updV (updV V r x) i (V k)) i k hi hk (fun g => h1 g.symm) (by rw [updV_self, updV_ne _ _ h1, updV_ne _ _ h2]), Int.mul_zero]

/-- What a step at the row r and the column s keeps. -/
structure PivP (m : Nat) (A : Nat → Nat → Int) (b : Nat → Nat) (r s : Nat) (e : Int) : Prop where
 nz : dtP m A (updP b r s) ≠ 0
 dd : ddP m A (updP b r s) = e * ttP m A b r s
 own : ∀ j, ttP m A (updP b r s) r j = e * ttP m A b r j
 oth : ∀ i j, i < m → i ≠ r → ddP m A b * ttP m A (updP b r s) i j = e * (ttP m A b r s * ttP m A b i j - ttP m A b i s * ttP m A b r j)
 zz : ∀ z j, ddP m A b * zzP m A z (updP b r s) j = e * (ttP m A b r s * zzP m A z b j - zzP m A z b s * ttP m A b r j)

theorem piv {m : Nat} {A : Nat → Nat → Int} {b : Nat → Nat} {r s : Nat} {e : Int} (hr : r < m) (he : e = 1 ∨ e = -1) (hp : 0 < e * ttP m A b r s) : PivP m A b r s e := by
 have e1 : ttP m A b r s = sgB m A b * dtP m A (updP b r s) := ttP_as m A b r s
 have nz : dtP m A (updP b r s) ≠ 0 := fun h => by rw [e1, h, Int.mul_zero, Int.mul_zero] at hp; omega
 have sg : sgB m A (updP b r s) = e * sgB m A b := by
  rw [e1] at hp
  unfold sgB at hp ⊢
  generalize dtP m A (updP b r s) = q at *
  rcases he with rfl | rfl
  ·by_cases h : dtP m A b < 0
   ·rw [if_pos h] at *
    rw [if_pos (by omega)]; rfl
   ·rw [if_neg h] at *
    rw [if_neg (by omega)]; rfl
  ·by_cases h : dtP m A b < 0
   ·rw [if_pos h] at *
    rw [if_neg (by omega)]; rfl
   ·rw [if_neg h] at *
    rw [if_pos (by omega)]; rfl
 have dd : ddP m A (updP b r s) = e * ttP m A b r s := by
  unfold ddP; rw [sg, e1, Int.mul_assoc]
 have own : ∀ j, ttP m A (updP b r s) r j = e * ttP m A b r j := fun j => by
  unfold ttP; rw [sg, bV_upd, updV_updV, Int.mul_assoc]
 have oth : ∀ i j, i < m → i ≠ r → ddP m A b * ttP m A (updP b r s) i j = e * (ttP m A b r s * ttP m A b i j - ttP m A b i s * ttP m A b r j) := fun i j hi hn => by
  unfold ttP ddP; rw [sg, bV_upd]
  have h := piv_det m (bV A b) (cV A s) (cV A j) r i hr hi hn
  unfold dtP
  generalize detN m (bV A b) = p0 at *
  generalize detN m (updV (updV (bV A b) r (cV A s)) i (cV A j)) = p1 at *
  generalize detN m (updV (bV A b) i (cV A j)) = p2 at *
  generalize detN m (updV (bV A b) r (cV A s)) = p3 at *
  generalize detN m (updV (bV A b) r (cV A j)) = p4 at *
  generalize detN m (updV (bV A b) i (cV A s)) = p5 at *
  rcases sgB_cases m A b with g | g <;> rw [g] <;> grind
 refine ⟨nz, dd, own, oth, fun z j => ?_⟩
 unfold zzP
 have hs : (sumN m fun k => z (updP b r s k) * (ddP m A b * ttP m A (updP b r s) k j)) = (sumN m fun k => z (b k) * (e * (ttP m A b r s * ttP m A b k j - ttP m A b k s * ttP m A b r j))) + (z s * (ddP m A b * (e * ttP m A b r j)) - z (b r) * (e * (ttP m A b r s * ttP m A b r j - ttP m A b r s * ttP m A b r j))) := by
  rw [sumN_off hr (g := fun k => z (b k) * (e * (ttP m A b r s * ttP m A b k j - ttP m A b k s * ttP m A b r j))) (fun k hk hn => by
   rw [oth k j hk hn, show updP b r s k = b k from if_neg hn])]
  rw [own j, show updP b r s r = s from if_pos rfl]
 have h1 : ddP m A b * (sumN m fun k => z (updP b r s k) * ttP m A (updP b r s) k j) = sumN m fun k => z (updP b r s k) * (ddP m A b * ttP m A (updP b r s) k j) := by
  rw [← sumN_mul]; exact sumN_congr fun k _ => by grind
 have h2 : (sumN m fun k => z (b k) * (e * (ttP m A b r s * ttP m A b k j - ttP m A b k s * ttP m A b r j))) = e * ttP m A b r s * (sumN m fun k => z (b k) * ttP m A b k j) + (- (e * ttP m A b r j)) * (sumN m fun k => z (b k) * ttP m A b k s) := by
  rw [← sumN_mul, ← sumN_mul, ← sumN_add]; exact sumN_congr fun k _ => by grind
 rw [Int.mul_sub, h1, hs, h2, dd]
 generalize (sumN m fun k => z (b k) * ttP m A b k j) = x
 generalize (sumN m fun k => z (b k) * ttP m A b k s) = y
 generalize ddP m A b = d
 generalize ttP m A b r s = t
 generalize ttP m A b r j = u
 grind

/-- The costs of one table by the numbers of another one. -/
theorem crossP (m : Nat) (A : Nat → Nat → Int) (z : Nat → Int) (b b2 : Nat → Nat) (s : Nat) : zzP m A z b2 s * ddP m A b - sumN m (fun i => zzP m A z b2 (b i) * ttP m A b i s) = ddP m A b2 * zzP m A z b s := by
 have hc : ∀ k, k < m → ddP m A b * ttP m A b2 k s = sumN m fun l => ttP m A b l s * ttP m A b2 k (b l) := fun k hk => tt_cols b2 hk fun c hc => cramerP m A b c s hc
 unfold zzP
 have h1 : (sumN m fun i => (ddP m A b2 * z (b i) - sumN m fun k => z (b2 k) * ttP m A b2 k (b i)) * ttP m A b i s) = ddP m A b2 * (sumN m fun i => z (b i) * ttP m A b i s) + (-1) * (ddP m A b * sumN m fun k => z (b2 k) * ttP m A b2 k s) := by
  have h2 : (ddP m A b * sumN m fun k => z (b2 k) * ttP m A b2 k s) = sumN m fun i => sumN m fun k => z (b2 k) * ttP m A b2 k (b i) * ttP m A b i s := by
   rw [sumN_swap, ← sumN_mul]
   refine sumN_congr fun k hk => ?_
   have : ddP m A b * (z (b2 k) * ttP m A b2 k s) = z (b2 k) * (ddP m A b * ttP m A b2 k s) := by grind
   rw [this, hc k hk, ← sumN_mul]
   exact sumN_congr fun l _ => by grind
  rw [h2, ← sumN_mul, ← sumN_mul, ← sumN_add]
  refine sumN_congr fun i _ => ?_
  have h3 : (sumN m fun k => z (b2 k) * ttP m A b2 k (b i) * ttP m A b i s) = (sumN m fun k => z (b2 k) * ttP m A b2 k (b i)) * ttP m A b i s := by
   rw [Int.mul_comm, ← sumN_mul]
   exact sumN_congr fun k _ => by grind
  rw [h3]; grind
 rw [h1]
 generalize (sumN m fun i => z (b i) * ttP m A b i s) = x
 generalize (sumN m fun k => z (b2 k) * ttP m A b2 k s) = y
 generalize ddP m A b = d
 generalize ddP m A b2 = d2
 grind

/-- The first table of a program of n variables and m rows: variables, slacks, lacks, right sides; f: the factors of its rows. -/
structure LpA (n m : Nat) (A : Nat → Nat → Int) (f σ : Nat → Int) : Prop where
 sl : ∀ c k, c < m → k < m → A c (n + k) = if c = k then σ k else 0
 la : ∀ c k, c < m → k < m → A c (n + m + k) = if c = k then 1 else 0
 sg : ∀ k, k < m → σ k = 1 ∨ σ k = -1 ∨ σ k = 0
 fb : ∀ c, c < m → 1 + sumN n (fun j => ((A c j).natAbs : Int)) + ((A c (n + m + m)).natAbs : Int) ≤ f c
theorem LpA.f1 {n m : Nat} {A : Nat → Nat → Int} {f σ : Nat → Int} (h : LpA n m A f σ) (c : Nat) (hc : c < m) : 1 ≤ f c := by
 have h1 := h.fb c hc
 have h2 := sumN_nn (n := n) (f := fun j => ((A c j).natAbs : Int)) (fun _ _ => by omega)
 omega
theorem LpA.rows {n m : Nat} {A : Nat → Nat → Int} {f σ : Nat → Int} (h : LpA n m A f σ) {p : Nat → Nat} (hp : ∀ l, l < m → p l < n + m + m + 1) (hd : dtP m A p ≠ 0) (c : Nat) (hc : c < m) : sumN m (fun l => ((A c (p l)).natAbs : Int)) ≤ f c := by
 have hi : ∀ l k, l < m → k < m → p l = p k → l = k := fun l k hl hk e => basis_inj hd hl hk e
 have hf := h.fb c hc
 have split : ∀ g : Nat → Int, sumN (n + m + m + 1) g = sumN n g + sumN m (fun k => g (n + k)) + sumN m (fun k => g (n + m + k)) + g (n + m + m) := fun g => by
  rw [show sumN (n + m + m + 1) g = sumN (n + m + m) g + g (n + m + m) from rfl, sumN_app, sumN_app]
 by_cases hl : ∃ l, l < m ∧ p l = n + m + c
 ·obtain ⟨l1, hl1, e1⟩ := hl
  have no : ∀ l, l < m → p l ≠ n + c := fun l hl e => by
   have ne : l ≠ l1 := fun g => by subst g; omega
   refine hd ?_
   have ev : detN m (bV A p) = detN m (updV (bV A p) l (fun c => σ (p l - n) * bV A p l1 c)) := det_congr m fun k hk i hi => by
    unfold updV; split
    ·rename_i g; subst g
     show A i (p k) = σ (p k - n) * A i (p l1)
     rw [e, e1, h.sl i c hi hc, h.la i c hi hc, show n + c - n = c by omega]
     split <;> omega
    ·rfl
   unfold dtP
   rw [ev, det_mul m _ l _ _ hl, det_eq m (updV (bV A p) l (bV A p l1)) l l1 hl hl1 ne (by rw [updV_self, updV_ne _ _ (fun g => ne g.symm)]), Int.mul_zero]
  have hb := sumN_inj m (n + m + m + 1) p (fun j => if j = n + c then 0 else ((A c j).natAbs : Int)) hp hi (fun j _ => by
   show 0 ≤ (if j = n + c then 0 else ((A c j).natAbs : Int))
   split <;> omega)
  have e2 : (sumN m fun l => (fun j => if j = n + c then 0 else ((A c j).natAbs : Int)) (p l)) = sumN m (fun l => ((A c (p l)).natAbs : Int)) := sumN_congr fun l hl => if_neg (no l hl)
  rw [e2, split] at hb
  have s1 : (sumN n fun j => if j = n + c then 0 else ((A c j).natAbs : Int)) = sumN n fun j => ((A c j).natAbs : Int) := sumN_congr fun j hj => if_neg (by omega)
  have s2 : (sumN m fun k => if n + k = n + c then 0 else ((A c (n + k)).natAbs : Int)) = 0 := sumN_zero fun k hk => by
   split
   ·rfl
   ·rw [h.sl c k hc hk, if_neg (by omega)]; rfl
  have s3 : (sumN m fun k => if n + m + k = n + c then 0 else ((A c (n + m + k)).natAbs : Int)) = 1 := by
   rw [sumN_one hc (fun k hk hn => by rw [if_neg (by omega), h.la c k hc hk, if_neg (by omega)]; rfl), if_neg (by omega), h.la c c hc hc, if_pos rfl]; rfl
  rw [s1, s2, s3, if_neg (by omega)] at hb
  omega
 ·have no : ∀ l, l < m → p l ≠ n + m + c := fun l hl' e => hl ⟨l, hl', e⟩
  have hb := sumN_inj m (n + m + m + 1) p (fun j => if j = n + m + c then 0 else ((A c j).natAbs : Int)) hp hi (fun j _ => by
   show 0 ≤ (if j = n + m + c then 0 else ((A c j).natAbs : Int))
   split <;> omega)
  have e2 : (sumN m fun l => (fun j => if j = n + m + c then 0 else ((A c j).natAbs : Int)) (p l)) = sumN m (fun l => ((A c (p l)).natAbs : Int)) := sumN_congr fun l hl => if_neg (no l hl)
  rw [e2, split] at hb
  have s1 : (sumN n fun j => if j = n + m + c then 0 else ((A c j).natAbs : Int)) = sumN n fun j => ((A c j).natAbs : Int) := sumN_congr fun j hj => if_neg (by omega)
  have s2 : (sumN m fun k => if n + k = n + m + c then 0 else ((A c (n + k)).natAbs : Int)) ≤ 1 := by
   rw [sumN_one hc (fun k hk hn => by
    rw [if_neg (by omega), h.sl c k hc hk, if_neg (by omega)]; rfl), if_neg (by omega), h.sl c c hc hc, if_pos rfl]
   rcases h.sg c hc with g | g | g <;> rw [g] <;> decide
  have s3 : (sumN m fun k => if n + m + k = n + m + c then 0 else ((A c (n + m + k)).natAbs : Int)) = 0 := sumN_zero fun k hk => by
   split
   ·rfl
   ·rw [h.la c k hc hk, if_neg (by omega)]; rfl
  rw [s1, s3, if_neg (by omega)] at hb
  omega
theorem LpA.prod {n m : Nat} {A : Nat → Nat → Int} {f σ : Nat → Int} (h : LpA n m A f σ) : 1 ≤ prodN m f := prodN_pos fun i hi => h.f1 i hi
theorem LpA.bound {n m : Nat} {A : Nat → Nat → Int} {f σ : Nat → Int} (h : LpA n m A f σ) {p : Nat → Nat} (hp : ∀ l, l < m → p l < n + m + m + 1) : ((dtP m A p).natAbs : Int) ≤ prodN m f := by
 by_cases hd : dtP m A p = 0
 ·rw [hd]; have := h.prod; show (0 : Int) ≤ _; omega
 ·exact Int.le_trans (det_row m _) (prodN_mono fun c hc => ⟨sumN_nn fun l _ => by omega, h.rows hp hd c hc⟩)
theorem updP_lt {m W : Nat} {b : Nat → Nat} (hb : ∀ l, l < m → b l < W) {i j : Nat} (hj : j < W) : ∀ l, l < m → updP b i j l < W := fun l hl => by
 unfold updP; split
 ·exact hj
 ·exact hb l hl
theorem LpA.tt {n m : Nat} {A : Nat → Nat → Int} {f σ : Nat → Int} (h : LpA n m A f σ) {b : Nat → Nat} (hb : ∀ l, l < m → b l < n + m + m + 1) (i : Nat) {j : Nat} (hj : j < n + m + m + 1) : ((ttP m A b i j).natAbs : Int) ≤ prodN m f := by
 rw [ttP_abs]; exact h.bound (updP_lt hb hj)
theorem LpA.dd {n m : Nat} {A : Nat → Nat → Int} {f σ : Nat → Int} (h : LpA n m A f σ) {b : Nat → Nat} (hb : ∀ l, l < m → b l < n + m + m + 1) : ddP m A b ≤ prodN m f := by
 rw [ddP_abs]; exact h.bound hb
theorem LpA.zz {n m : Nat} {A : Nat → Nat → Int} {f σ : Nat → Int} (h : LpA n m A f σ) {b : Nat → Nat} (hb : ∀ l, l < m → b l < n + m + m + 1) (hd : dtP m A b ≠ 0) (z : Nat → Int) {j : Nat} (hj : j < n + m + m + 1) :
  ((zzP m A z b j).natAbs : Int) ≤ (sumN (n + m + m + 1) fun j => ((z j).natAbs : Int)) * prodN m f := by
 have hP := h.prod
 have hs := sumN_nn (n := n + m + m + 1) (f := fun j => ((z j).natAbs : Int)) (fun _ _ => by omega)
 by_cases hin : ∃ k, k < m ∧ b k = j
 ·obtain ⟨k, hk, e⟩ := hin
  rw [← e, zz_basic m A z b k hk]
  exact Int.mul_nonneg hs (by omega)
 ·have hq := sumN_inj (m + 1) (n + m + m + 1) (updP b m j) (fun j => ((z j).natAbs : Int)) (fun l hl => by
   unfold updP; split
   ·exact hj
   ·exact hb l (by omega)) (fun l k hl hk e => by
   unfold updP at e
   by_cases h1 : l = m <;> by_cases h2 : k = m
   ·omega
   ·rw [if_pos h1, if_neg h2] at e; exact absurd ⟨k, by omega, e.symm⟩ hin
   ·rw [if_neg h1, if_pos h2] at e; exact absurd ⟨l, by omega, e⟩ hin
   ·rw [if_neg h1, if_neg h2] at e; exact basis_inj hd (by omega) (by omega) e) (fun _ _ => by omega)
  have e1 : sumN (m + 1) (fun l => (fun j => ((z j).natAbs : Int)) (updP b m j l)) = sumN m (fun l => ((z (b l)).natAbs : Int)) + ((z j).natAbs : Int) := by
   show sumN m _ + _ = _
   congr 1
   ·exact sumN_congr fun l hl => by simp only [updP, if_neg (show ¬ l = m by omega)]
   ·simp [updP]
  rw [e1] at hq
  have h1 : ((sumN m fun k => z (b k) * ttP m A b k j).natAbs : Int) ≤ prodN m f * sumN m (fun l => ((z (b l)).natAbs : Int)) := by
   refine Int.le_trans (sumN_abs2 _ _) ?_
   rw [← sumN_mul]
   refine sumN_le fun k hk => ?_
   rw [Int.natAbs_mul, Int.natCast_mul, Int.mul_comm]
   exact Int.mul_le_mul_of_nonneg_right (h.tt hb k hj) (by omega)
  have h2 : ((ddP m A b * z j).natAbs : Int) ≤ prodN m f * ((z j).natAbs : Int) := by
   rw [Int.natAbs_mul, Int.natCast_mul]
   exact Int.mul_le_mul_of_nonneg_right (by have := h.dd hb; have := ddP_pos hd; omega) (by omega)
  have h3 := Int.mul_le_mul_of_nonneg_left hq (show 0 ≤ prodN m f by omega)
  rw [Int.mul_add] at h3
  have h4 : ((zzP m A z b j).natAbs : Int) ≤ ((ddP m A b * z j).natAbs : Int) + ((sumN m fun k => z (b k) * ttP m A b k j).natAbs : Int) := by unfold zzP; omega
  rw [Int.mul_comm]
  omega
end Go.Proofs.YtggpdhdbeokkcaaGreat
