/- Layer 5: what an ended run says: a least value with its proof, a refutation, or a ray. Layer 5: Solve and Farkas. Layer 5: Farkas. Layer 5: sums. Layer 5: weighted. Layer 5: what is tested of sums. Layer 5: Feasible. Layer 5: Value and Refutes. -/
import Derived.Test.YtggpdhdbeokkcaaGreatPOut
import Derived.Test.YtggpdhdbeokkcaaGreatPFit
import Derived.Test.YtggpdhdbeokkcaaGreatROps3
namespace Go.Proofs.YtggpdhdbeokkcaaGreat
set_option linter.unusedVariables false

/-- A point x / d of a program satisfies a row; a ray does. -/
def rowB (k : Int) (s r : Int) : Prop := (k = 1 → s ≤ r) ∧ (k = 2 → r ≤ s) ∧ (k = 3 → s = r)
structure FeaP (p : PgD) (d : Int) (x : Nat → Int) : Prop where
 nn : ∀ j, j < p.n → 0 ≤ x j
 row : ∀ i, i < p.m → rowB (p.Kd i) (sumN p.n fun j => p.Z i j * x j) (p.Rt i * d)
/-- Multipliers y / e are right. -/
def RgtP (p : PgD) (y : Nat → Int) : Prop := ∀ i, i < p.m → (p.Kd i = 1 → y i ≤ 0) ∧ (p.Kd i = 2 → 0 ≤ y i)
def valP (p : PgD) (x : Nat → Int) : Int := sumN p.n fun j => p.C j * x j
def colP (p : PgD) (y : Nat → Int) (j : Nat) : Int := sumN p.m fun i => p.Z i j * y i
def rgtV (p : PgD) (y : Nat → Int) : Int := sumN p.m fun i => p.Rt i * y i
structure RayP (p : PgD) (r : Nat → Int) : Prop where
 nn : ∀ j, j < p.n → 0 ≤ r j
 row : ∀ i, i < p.m → rowB (p.Kd i) (sumN p.n fun j => p.Z i j * r j) 0
 neg : valP p r < 0
structure ProvP (p : PgD) (e : Int) (y : Nat → Int) : Prop where
 rgt : RgtP p y
 col : ∀ j, j < p.n → colP p y j ≤ p.C j * e
structure RefuP (p : PgD) (y : Nat → Int) : Prop where
 rgt : RgtP p y
 col : ∀ j, j < p.n → colP p y j ≤ 0
 pos : 0 < rgtV p y

section
variable {p : PgD}
/-- The sums of rows and those of columns are one sum. -/
theorem dual_sum (p : PgD) (x y : Nat → Int) : (sumN p.n fun j => x j * colP p y j) = sumN p.m fun i => y i * sumN p.n fun j => p.Z i j * x j := by
 have e1 : (sumN p.n fun j => x j * colP p y j) = sumN p.n fun j => sumN p.m fun i => x j * (p.Z i j * y i) := sumN_congr fun j _ => by unfold colP; rw [sumN_mul]
 rw [e1, sumN_swap]
 refine sumN_congr fun i _ => ?_
 rw [← sumN_mul]
 exact sumN_congr fun j _ => by grind
theorem row_mul {k s r y : Int} (hk : 1 ≤ k ∧ k ≤ 3) (h : rowB k s r) (h1 : k = 1 → y ≤ 0) (h2 : k = 2 → 0 ≤ y) : y * r ≤ y * s := by
 obtain ⟨a, b, c⟩ := h
 have : k = 1 ∨ k = 2 ∨ k = 3 := by omega
 rcases this with g | g | g
 ·exact Int.mul_le_mul_of_nonpos_left (h1 g) (a g)
 ·exact Int.mul_le_mul_of_nonneg_left (b g) (h2 g)
 ·rw [c g]; exact Int.le_refl _
theorem weak_rows (hv : p.Ok) {d : Int} {x y : Nat → Int} (hx : FeaP p d x) (hy : RgtP p y) : rgtV p y * d ≤ sumN p.n fun j => x j * colP p y j := by
 rw [dual_sum, Int.mul_comm]
 unfold rgtV
 rw [← sumN_mul]
 refine sumN_le fun i hi => ?_
 have := row_mul (y := y i) (hv.k i hi) (hx.row i hi) (hy i hi).1 (hy i hi).2
 have e : d * (p.Rt i * y i) = y i * (p.Rt i * d) := by grind
 rw [e]; exact this
/-- No feasible point has a lesser value. -/
theorem weak (hv : p.Ok) {d e : Int} {x y : Nat → Int} (hx : FeaP p d x) (hy : ProvP p e y) : rgtV p y * d ≤ e * valP p x := by
 refine Int.le_trans (weak_rows hv hx hy.rgt) ?_
 unfold valP
 rw [← sumN_mul]
 refine sumN_le fun j hj => ?_
 have := Int.mul_le_mul_of_nonneg_left (hy.col j hj) (hx.nn j hj)
 have e2 : e * (p.C j * x j) = x j * (p.C j * e) := by grind
 rw [e2]; exact this
theorem no_refute (hv : p.Ok) {d : Int} {x y : Nat → Int} (hd : 0 < d) (hx : FeaP p d x) (hy : RefuP p y) : False := by
 have h1 := weak_rows hv hx hy.rgt
 have h2 : (sumN p.n fun j => x j * colP p y j) ≤ sumN p.n fun _ => 0 := sumN_le fun j hj => Int.mul_nonpos_of_nonneg_of_nonpos (hx.nn j hj) (hy.col j hj)
 rw [sumN_zero (n := p.n) (f := fun _ => 0) (fun _ _ => rfl)] at h2
 have h3 := Int.mul_pos hy.pos hd
 omega
theorem no_ray (hv : p.Ok) {e : Int} {r y : Nat → Int} (he : 0 < e) (hr : RayP p r) (hy : ProvP p e y) : False := by
 have h0 : FeaP { p with Rt := fun _ => 0 } 1 r := ⟨hr.nn, fun i hi => by show rowB (p.Kd i) _ (0 * 1); exact hr.row i hi⟩
 have h1 : 0 ≤ sumN p.n fun j => r j * colP p y j := by
  rw [dual_sum]
  refine sumN_nn fun i hi => ?_
  have := row_mul (y := y i) (hv.k i hi) (hr.row i hi) (hy.rgt i hi).1 (hy.rgt i hi).2
  rwa [Int.mul_zero] at this
 have h2 : (sumN p.n fun j => r j * colP p y j) ≤ e * valP p r := by
  unfold valP
  rw [← sumN_mul]
  refine sumN_le fun j hj => ?_
  have := Int.mul_le_mul_of_nonneg_left (hy.col j hj) (hr.nn j hj)
  have e2 : e * (p.C j * r j) = r j * (p.C j * e) := by grind
  rw [e2]; exact this
 have h3 := Int.mul_neg_of_pos_of_neg he hr.neg
 omega

/-- The costs of a column by those of the lacks. -/
theorem zz_cols {n m : Nat} {A : Nat → Nat → Int} {f σ : Nat → Int} (h : LpA n m A f σ) (z : Nat → Int) (b : Nat → Nat) (j : Nat) :
  zzP m A z b j = ddP m A b * z j + sumN m fun c => A c j * (zzP m A z b (n + m + c) - ddP m A b * z (n + m + c)) := by
 have h1 : ∀ k, k < m → ttP m A b k j = sumN m fun c => A c j * ttP m A b k (n + m + c) := fun k hk => by
  have := tt_cols (m := m) (A := A) b (i := k) hk (j := j) (a := 1) (n := m) (f := fun c => A c j) (x := fun c => n + m + c) (fun c hc => by
   rw [Int.one_mul, sumN_one hc (fun l hl hn => by rw [h.la c l hc hl, if_neg (fun e => hn e.symm), Int.mul_zero]), h.la c c hc hc, if_pos rfl, Int.mul_one])
  rwa [Int.one_mul] at this
 have h2 : (sumN m fun k => z (b k) * ttP m A b k j) = sumN m fun c => A c j * (ddP m A b * z (n + m + c) - zzP m A z b (n + m + c)) := by
  have e1 : (sumN m fun k => z (b k) * ttP m A b k j) = sumN m fun k => sumN m fun c => A c j * (z (b k) * ttP m A b k (n + m + c)) := sumN_congr fun k hk => by
   rw [h1 k hk, ← sumN_mul]
   exact sumN_congr fun c _ => by grind
  rw [e1, sumN_swap]
  refine sumN_congr fun c hc => ?_
  rw [sumN_mul]
  congr 1
  unfold zzP
  omega
 have h3 : (sumN m fun c => A c j * (zzP m A z b (n + m + c) - ddP m A b * z (n + m + c))) = (-1) * sumN m fun c => A c j * (ddP m A b * z (n + m + c) - zzP m A z b (n + m + c)) := by
  rw [← sumN_mul]; exact sumN_congr fun c _ => by grind
 rw [h3, ← h2]
 unfold zzP
 omega

/-- The number of a variable at a basis. -/
def xBas (m : Nat) (b : Nat → Nat) (g : Nat → Int) (j : Nat) : Int := sumN m fun i => if b i = j then g i else 0
theorem xBas_nn {m : Nat} {b : Nat → Nat} {g : Nat → Int} (h : ∀ i, i < m → 0 ≤ g i) (j : Nat) : 0 ≤ xBas m b g j := sumN_nn fun i hi => by
 show 0 ≤ (if b i = j then g i else 0)
 split
 ·exact h i hi
 ·exact Int.le_refl _
theorem xBas_sum {m N : Nat} {b : Nat → Nat} (hb : ∀ i, i < m → b i < N) (g : Nat → Int) (w : Nat → Int) : (sumN N fun j => w j * xBas m b g j) = sumN m fun i => w (b i) * g i := by
 have e1 : (sumN N fun j => w j * xBas m b g j) = sumN N fun j => sumN m fun i => w j * (if b i = j then g i else 0) := sumN_congr fun j _ => by unfold xBas; rw [sumN_mul]
 rw [e1, sumN_swap]
 refine sumN_congr fun i hi => ?_
 rw [sumN_one (hb i hi) (fun j hj hn => by rw [if_neg (fun e => hn e.symm), Int.mul_zero]), if_pos rfl]
theorem xBas_off {m : Nat} {b : Nat → Nat} {g : Nat → Int} {j : Nat} (h : ∀ i, i < m → b i = j → g i = 0) : xBas m b g j = 0 := sumN_zero fun i hi => by
 split
 ·rename_i e; exact h i hi e
 ·rfl

section
variable {b : Nat → Nat}
/-- The rows of a program at numbers of all columns for which the first table gives a multiple of the right sides. -/
theorem rows_of (hv : p.Ok) {x : Nat → Int} {t : Int} (hx : ∀ j, 0 ≤ x j) (hz : ∀ c, c < p.m → x (p.n + p.m + c) = 0)
  (h : ∀ c, c < p.m → (sumN (p.n + p.m + p.m) fun j => tabA p.n p.m p.Z p.Kd p.Rt c j * x j) = t * tabA p.n p.m p.Z p.Kd p.Rt c (p.n + p.m + p.m)) (i : Nat) (hi : i < p.m) : rowB (p.Kd i) (sumN p.n fun j => p.Z i j * x j) (p.Rt i * t) := by
 have L := lpA p.n p.m p.Z p.Kd p.Rt
 have h1 := h i hi
 rw [sumN_app, sumN_app, sumN_zero (n := p.m) (f := fun k => tabA p.n p.m p.Z p.Kd p.Rt i (p.n + p.m + k) * x (p.n + p.m + k)) (fun k hk => by rw [hz k hk, Int.mul_zero]),
  sumN_one (n := p.m) (k := i) hi (fun k hk hn => by rw [L.sl i k hi hk, if_neg (fun e => hn e.symm), Int.zero_mul]), L.sl i i hi hi, if_pos rfl] at h1
 have e1 : (sumN p.n fun j => tabA p.n p.m p.Z p.Kd p.Rt i j * x j) = sgR (p.Rt i) * sumN p.n fun j => p.Z i j * x j := by
  rw [← sumN_mul]
  exact sumN_congr fun j hj => by unfold tabA rawA; rw [if_neg (by omega), if_pos hj]; grind
 have e2 : tabA p.n p.m p.Z p.Kd p.Rt i (p.n + p.m + p.m) = sgR (p.Rt i) * p.Rt i := by unfold tabA rawA; rw [if_neg (by omega), if_neg (by omega), if_neg (by omega), if_pos rfl]
 rw [e1, e2] at h1
 unfold sgP5 at h1
 have hs := hx (p.n + i)
 have hk := hv.k i hi
 have e3 : t * (sgR (p.Rt i) * p.Rt i) = sgR (p.Rt i) * (p.Rt i * t) := by grind
 rw [e3] at h1
 have h2 : (sumN p.n fun j => p.Z i j * x j) + slk (p.Kd i) * x (p.n + i) = p.Rt i * t := by
  rw [Int.mul_assoc] at h1
  generalize slk (p.Kd i) * x (p.n + i) = u at *
  rcases sgR_cases (p.Rt i) with g | g <;> rw [g] at h1 <;> omega
 refine ⟨fun e => ?_, fun e => ?_, fun e => ?_⟩
 ·rw [e, show slk 1 = 1 from rfl] at h2; omega
 ·rw [e, show slk 2 = -1 from rfl] at h2; omega
 ·rw [e, show slk 3 = 0 from rfl] at h2; omega

/-- The point of a table whose lacks are zero. -/
def xP (p : PgD) (b : Nat → Nat) (j : Nat) : Int := xBas p.m b (fun i => ttP p.m (tabA p.n p.m p.Z p.Kd p.Rt) b i (p.n + p.m + p.m)) j
theorem xP_fea (hv : p.Ok) {k : Nat} (h : RelI p.m p.n (tabA p.n p.m p.Z p.Kd p.Rt) k b) : FeaP p (ddP p.m (tabA p.n p.m p.Z p.Kd p.Rt) b) (xP p b) := by
 have nn : ∀ j, 0 ≤ xP p b j := fun j => xBas_nn (fun i hi => h.good.feas i hi) j
 refine ⟨fun j _ => nn j, rows_of hv nn (fun c hc => xBas_off fun i hi e => h.zero i hi (by omega)) (fun c hc => ?_)⟩
 unfold xP
 rw [xBas_sum h.lt2, cramerP p.m _ b c _ hc]
 exact sumN_congr fun i _ => Int.mul_comm _ _
theorem xP_val {k : Nat} (h : RelI p.m p.n (tabA p.n p.m p.Z p.Kd p.Rt) k b) : valP p (xP p b) = - zzP p.m (tabA p.n p.m p.Z p.Kd p.Rt) (c0F p.n p.C) b (p.n + p.m + p.m) := by
 have h1 := xBas_sum h.lt2 (fun i => ttP p.m (tabA p.n p.m p.Z p.Kd p.Rt) b i (p.n + p.m + p.m)) (c0F p.n p.C)
 have e1 : (sumN (p.n + p.m + p.m) fun j => c0F p.n p.C j * xBas p.m b (fun i => ttP p.m (tabA p.n p.m p.Z p.Kd p.Rt) b i (p.n + p.m + p.m)) j) = valP p (xP p b) := by
  rw [show p.n + p.m + p.m = p.n + (p.m + p.m) by omega, sumN_app, sumN_zero (n := p.m + p.m) (fun k _ => by unfold c0F; rw [if_neg (by omega), Int.zero_mul])]
  unfold valP xP
  rw [Int.add_zero, show p.n + (p.m + p.m) = p.n + p.m + p.m by omega]
  exact sumN_congr fun j hj => by unfold c0F; rw [if_pos hj]
 rw [e1] at h1
 rw [h1]
 unfold zzP
 have : c0F p.n p.C (p.n + p.m + p.m) = 0 := if_neg (by omega)
 rw [this, Int.mul_zero]
 omega
theorem tabA_var (p : PgD) (c j : Nat) (hj : j < p.n) : tabA p.n p.m p.Z p.Kd p.Rt c j = sgR (p.Rt c) * p.Z c j := by
 unfold tabA rawA
 rw [if_neg (by omega), if_pos hj]
theorem tabA_right (p : PgD) (c : Nat) (hc : c < p.m) : tabA p.n p.m p.Z p.Kd p.Rt c (p.n + p.m + p.m) = sgR (p.Rt c) * p.Rt c := by
 unfold tabA rawA
 rw [if_neg (by omega), if_neg (by omega), if_neg (by omega), if_pos rfl]
/-- The multipliers of a table. -/
def yP (p : PgD) (lk : Int) (z : Nat → Int) (b : Nat → Nat) (i : Nat) : Int := sgR (p.Rt i) * (lk * ddP p.m (tabA p.n p.m p.Z p.Kd p.Rt) b - zzP p.m (tabA p.n p.m p.Z p.Kd p.Rt) z b (p.n + p.m + i))
theorem yP_cols (lk : Int) (z : Nat → Int) (hz : ∀ c, c < p.m → z (p.n + p.m + c) = lk) (b : Nat → Nat) (j : Nat) (hj : j < p.n) : zzP p.m (tabA p.n p.m p.Z p.Kd p.Rt) z b j = ddP p.m (tabA p.n p.m p.Z p.Kd p.Rt) b * z j - colP p (yP p lk z b) j := by
 rw [zz_cols (lpA p.n p.m p.Z p.Kd p.Rt)]
 have : (sumN p.m fun c => tabA p.n p.m p.Z p.Kd p.Rt c j * (zzP p.m (tabA p.n p.m p.Z p.Kd p.Rt) z b (p.n + p.m + c) - ddP p.m (tabA p.n p.m p.Z p.Kd p.Rt) b * z (p.n + p.m + c))) = (-1) * colP p (yP p lk z b) j := by
  unfold colP
  rw [← sumN_mul]
  refine sumN_congr fun c hc => ?_
  rw [hz c hc, tabA_var p c j hj]
  unfold yP
  generalize zzP p.m (tabA p.n p.m p.Z p.Kd p.Rt) z b (p.n + p.m + c) = u
  generalize ddP p.m (tabA p.n p.m p.Z p.Kd p.Rt) b = v
  grind
 rw [this]; omega
theorem yP_right (lk : Int) (z : Nat → Int) (hz : ∀ c, c < p.m → z (p.n + p.m + c) = lk) (hR : z (p.n + p.m + p.m) = 0) (b : Nat → Nat) : zzP p.m (tabA p.n p.m p.Z p.Kd p.Rt) z b (p.n + p.m + p.m) = - rgtV p (yP p lk z b) := by
 rw [zz_cols (lpA p.n p.m p.Z p.Kd p.Rt), hR, Int.mul_zero, Int.zero_add]
 have : (sumN p.m fun c => tabA p.n p.m p.Z p.Kd p.Rt c (p.n + p.m + p.m) * (zzP p.m (tabA p.n p.m p.Z p.Kd p.Rt) z b (p.n + p.m + c) - ddP p.m (tabA p.n p.m p.Z p.Kd p.Rt) b * z (p.n + p.m + c))) = (-1) * rgtV p (yP p lk z b) := by
  unfold rgtV
  rw [← sumN_mul]
  refine sumN_congr fun c hc => ?_
  rw [hz c hc, tabA_right p c hc]
  unfold yP
  generalize zzP p.m (tabA p.n p.m p.Z p.Kd p.Rt) z b (p.n + p.m + c) = u
  generalize ddP p.m (tabA p.n p.m p.Z p.Kd p.Rt) b = v
  grind
 rw [this]; omega
theorem yP_rgt (lk : Int) (z : Nat → Int) (hz : ∀ c, c < p.m → z (p.n + p.m + c) = lk) (hs : ∀ c, c < p.m → z (p.n + c) = 0) (b : Nat → Nat) (h : ∀ j, j < p.n + p.m → 0 ≤ zzP p.m (tabA p.n p.m p.Z p.Kd p.Rt) z b j) : RgtP p (yP p lk z b) := fun i hi => by
 have L := lpA p.n p.m p.Z p.Kd p.Rt
 have h1 := h (p.n + i) (by omega)
 rw [zz_cols L, hs i hi, Int.mul_zero, Int.zero_add, sumN_one hi (fun c hc hn => by rw [L.sl c i hc hi, if_neg hn, Int.zero_mul]), L.sl i i hi hi, if_pos rfl, hz i hi] at h1
 unfold sgP5 at h1
 have e : sgR (p.Rt i) * slk (p.Kd i) * (zzP p.m (tabA p.n p.m p.Z p.Kd p.Rt) z b (p.n + p.m + i) - ddP p.m (tabA p.n p.m p.Z p.Kd p.Rt) b * lk) = - (slk (p.Kd i) * yP p lk z b i) := by unfold yP; grind
 rw [e] at h1
 refine ⟨fun g => ?_, fun g => ?_⟩
 ·rw [g, show slk 1 = 1 from rfl] at h1; omega
 ·rw [g, show slk 2 = -1 from rfl] at h1; omega

theorem y_prov (h : ∀ j, j < p.n + p.m → 0 ≤ zzP p.m (tabA p.n p.m p.Z p.Kd p.Rt) (c0F p.n p.C) b j) : ProvP p (ddP p.m (tabA p.n p.m p.Z p.Kd p.Rt) b) (yP p 0 (c0F p.n p.C) b) := by
 have hz : ∀ c, c < p.m → c0F p.n p.C (p.n + p.m + c) = 0 := fun c hc => if_neg (by omega)
 refine ⟨yP_rgt 0 _ hz (fun c hc => if_neg (by omega)) b h, fun j hj => ?_⟩
 have h1 := h j (by omega)
 rw [yP_cols 0 _ hz b j hj, show c0F p.n p.C j = p.C j from if_pos hj, Int.mul_comm] at h1
 omega
theorem y_refu (h : ∀ j, j < p.n + p.m → 0 ≤ zzP p.m (tabA p.n p.m p.Z p.Kd p.Rt) (c1F p.n p.m) b j) (hR : zzP p.m (tabA p.n p.m p.Z p.Kd p.Rt) (c1F p.n p.m) b (p.n + p.m + p.m) < 0) : RefuP p (yP p 1 (c1F p.n p.m) b) := by
 have hz : ∀ c, c < p.m → c1F p.n p.m (p.n + p.m + c) = 1 := fun c hc => if_pos ⟨by omega, by omega⟩
 refine ⟨yP_rgt 1 _ hz (fun c hc => if_neg (by omega)) b h, fun j hj => ?_, ?_⟩
 ·have h1 := h j (by omega)
  rw [yP_cols 1 _ hz b j hj, show c1F p.n p.m j = 0 from if_neg (by omega), Int.mul_zero] at h1
  omega
 ·rw [yP_right 1 _ hz (if_neg (by omega)) b] at hR
  omega
/-- The sum of the lacks. -/
theorem lacks_sum (h : GoodP p.m (tabA p.n p.m p.Z p.Kd p.Rt) (p.n + p.m + p.m + 1) (p.n + p.m + p.m) b) : zzP p.m (tabA p.n p.m p.Z p.Kd p.Rt) (c1F p.n p.m) b (p.n + p.m + p.m) ≤ 0 ∧
  (zzP p.m (tabA p.n p.m p.Z p.Kd p.Rt) (c1F p.n p.m) b (p.n + p.m + p.m) = 0 → (∀ l, l < p.m → b l < p.n + p.m + p.m) → ∀ i, i < p.m → p.n + p.m ≤ b i → ttP p.m (tabA p.n p.m p.Z p.Kd p.Rt) b i (p.n + p.m + p.m) = 0) := by
 have nn : ∀ i, i < p.m → 0 ≤ c1F p.n p.m (b i) * ttP p.m (tabA p.n p.m p.Z p.Kd p.Rt) b i (p.n + p.m + p.m) := fun i hi => by
  unfold c1F
  split
  ·rw [Int.one_mul]; exact h.feas i hi
  ·rw [Int.zero_mul]; exact Int.le_refl _
 have e : c1F p.n p.m (p.n + p.m + p.m) = 0 := if_neg (by omega)
 have h1 := sumN_nn nn
 refine ⟨by unfold zzP; rw [e, Int.mul_zero]; omega, fun h0 hl i hi hb => ?_⟩
 have h2 := sumN_ge hi nn
 unfold zzP at h0
 rw [e, Int.mul_zero] at h0
 have h3 := nn i hi
 have h4 : c1F p.n p.m (b i) * ttP p.m (tabA p.n p.m p.Z p.Kd p.Rt) b i (p.n + p.m + p.m) = 0 := by omega
 rwa [show c1F p.n p.m (b i) = 1 from if_pos ⟨hb, hl i hi⟩, Int.one_mul] at h4

/-- A column that nothing keeps from growing gives a ray. -/
theorem ray_of (hv : p.Ok) (h : RelI p.m p.n (tabA p.n p.m p.Z p.Kd p.Rt) p.m b) {s : Nat} (hs : EntP p.m (tabA p.n p.m p.Z p.Kd p.Rt) (c0F p.n p.C) (p.n + p.m) b s) (hn : ∀ i, i < p.m → ttP p.m (tabA p.n p.m p.Z p.Kd p.Rt) b i s ≤ 0) : ∃ r, RayP p r := by
 have hd := ddP_pos h.good.nz
 have hsN := hs.1
 refine ⟨fun j => (if j = s then ddP p.m (tabA p.n p.m p.Z p.Kd p.Rt) b else 0) + xBas p.m b (fun i => - ttP p.m (tabA p.n p.m p.Z p.Kd p.Rt) b i s) j, ?_⟩
 have nn : ∀ j, 0 ≤ (if j = s then ddP p.m (tabA p.n p.m p.Z p.Kd p.Rt) b else 0) + xBas p.m b (fun i => - ttP p.m (tabA p.n p.m p.Z p.Kd p.Rt) b i s) j := fun j => by
  have h1 := xBas_nn (b := b) (g := fun i => - ttP p.m (tabA p.n p.m p.Z p.Kd p.Rt) b i s) (fun i hi => by have := hn i hi; show 0 ≤ - _; omega) j
  split <;> omega
 have sums : ∀ w : Nat → Int, (sumN (p.n + p.m + p.m) fun j => w j * ((if j = s then ddP p.m (tabA p.n p.m p.Z p.Kd p.Rt) b else 0) + xBas p.m b (fun i => - ttP p.m (tabA p.n p.m p.Z p.Kd p.Rt) b i s) j)) = w s * ddP p.m (tabA p.n p.m p.Z p.Kd p.Rt) b + sumN p.m fun i => w (b i) * (- ttP p.m (tabA p.n p.m p.Z p.Kd p.Rt) b i s) := fun w => by
  rw [← xBas_sum h.lt2]
  have e1 : (sumN (p.n + p.m + p.m) fun j => w j * (if j = s then ddP p.m (tabA p.n p.m p.Z p.Kd p.Rt) b else 0)) = w s * ddP p.m (tabA p.n p.m p.Z p.Kd p.Rt) b := by
   rw [sumN_one (k := s) (by omega) (fun j hj hn => by rw [if_neg hn, Int.mul_zero]), if_pos rfl]
  rw [← e1, ← sumN_add]
  exact sumN_congr fun j _ => by grind
 refine ⟨fun j _ => nn j, fun i hi => ?_, ?_⟩
 ·have h1 := rows_of hv (t := 0) nn (fun c hc => by
   rw [if_neg (by omega), xBas_off (fun i hi e => by rw [h.done i hi hi (by omega) s hsN]; rfl)]; rfl) (fun c hc => by
   rw [sums, Int.zero_mul, Int.mul_comm, cramerP p.m _ b c s hc]
   have e1 : (sumN p.m fun i => tabA p.n p.m p.Z p.Kd p.Rt c (b i) * (- ttP p.m (tabA p.n p.m p.Z p.Kd p.Rt) b i s)) = (-1) * sumN p.m fun k => ttP p.m (tabA p.n p.m p.Z p.Kd p.Rt) b k s * tabA p.n p.m p.Z p.Kd p.Rt c (b k) := by
    rw [← sumN_mul]; exact sumN_congr fun i _ => by grind
   rw [e1]; omega) i hi
  rwa [Int.mul_zero] at h1
 ·have h1 := sums (c0F p.n p.C)
  have e1 : (sumN (p.n + p.m + p.m) fun j => c0F p.n p.C j * ((if j = s then ddP p.m (tabA p.n p.m p.Z p.Kd p.Rt) b else 0) + xBas p.m b (fun i => - ttP p.m (tabA p.n p.m p.Z p.Kd p.Rt) b i s) j)) = valP p (fun j => (if j = s then ddP p.m (tabA p.n p.m p.Z p.Kd p.Rt) b else 0) + xBas p.m b (fun i => - ttP p.m (tabA p.n p.m p.Z p.Kd p.Rt) b i s) j) := by
   rw [show p.n + p.m + p.m = p.n + (p.m + p.m) by omega, sumN_app, sumN_zero (n := p.m + p.m) (fun k _ => by unfold c0F; rw [if_neg (by omega), Int.zero_mul])]
   unfold valP
   rw [Int.add_zero]
   exact sumN_congr fun j hj => by unfold c0F; rw [if_pos hj]
  rw [e1] at h1
  rw [h1]
  have h2 := hs.2.1
  unfold zzP at h2
  have e2 : (sumN p.m fun i => c0F p.n p.C (b i) * (- ttP p.m (tabA p.n p.m p.Z p.Kd p.Rt) b i s)) = (-1) * sumN p.m fun k => c0F p.n p.C (b k) * ttP p.m (tabA p.n p.m p.Z p.Kd p.Rt) b k s := by
   rw [← sumN_mul]; exact sumN_congr fun i _ => by grind
  rw [e2, Int.mul_comm (c0F p.n p.C s)]
  omega
/-- A step of the second phase keeps the lacks out. -/
theorem RelI.step {m n : Nat} {A : Nat → Nat → Int} {z : Nat → Int} {b b2 : Nat → Nat} (h : RelI m n A m b) (hs : StepP m A z (n + m) (n + m + m) b b2) : RelI m n A m b2 := by
 have hg := h.good.step (by omega) hs
 obtain ⟨s, r, he, hl, rfl⟩ := hs
 have P := piv (e := 1) hl.1 (.inl rfl) (by rw [Int.one_mul]; exact hl.2.1)
 have hd := ddP_pos h.good.nz
 have hsN := he.1
 have main : ∀ i, i < m → n + m ≤ updP b r s i → i ≠ r ∧ n + m ≤ b i := fun i hi hb => by
  have hir : i ≠ r := fun e => by rw [e] at hb; have : updP b r s r = s := if_pos rfl; omega
  exact ⟨hir, by have : updP b r s i = b i := if_neg hir; omega⟩
 have key : ∀ i, i < m → n + m ≤ updP b r s i → ∀ j, ttP m A b i j = 0 → ttP m A (updP b r s) i j = 0 := fun i hi hb j h0 => by
  obtain ⟨h1, h2⟩ := main i hi hb
  have q := P.oth i j hi h1
  rw [h0, h.done i hi hi h2 s hsN] at q
  have q2 : ddP m A b * ttP m A (updP b r s) i j = 0 := by rw [q]; grind
  rcases Int.mul_eq_zero.1 q2 with g | g
  ·omega
  ·exact g
 exact ⟨hg, fun i hi hb => key i hi hb _ (h.zero i hi (main i hi hb).2), fun i hk hi hb j hj => key i hi hb j (h.done i hi hi (main i hi hb).2 j hj), updP_lt h.lt2 (by omega)⟩
end
end
end Go.Proofs.YtggpdhdbeokkcaaGreat

namespace Go.Proofs.YtggpdhdbeokkcaaGreat
set_option linter.unusedVariables false
open Go.RowKit Go.Shelf

/-- The sum of the lacks has a least value. -/
theorem fill_up {n m : Nat} {A : Nat → Nat → Int} {b : Nat → Nat} {t : Bool} (h : RunP m n A (c1F n m) t b) : ∀ j, j < n + m → 0 ≤ zzP m A (c1F n m) b j := by
 rcases h with h | ⟨_, s, ⟨h1, h2, _⟩, h3⟩
 ·exact h.2
 ·exfalso
  have e : c1F n m s = 0 := if_neg (by omega)
  have h4 : (sumN m fun k => c1F n m (b k) * ttP m A b k s) ≤ sumN m fun _ => 0 := sumN_le fun k hk => by
   have := h3 k hk
   unfold c1F
   split
   ·rw [Int.one_mul]; exact this
   ·rw [Int.zero_mul]; exact Int.le_refl _
  rw [sumN_zero (n := m) (f := fun _ => 0) (fun _ _ => rfl)] at h4
  unfold zzP at h2
  rw [e, Int.mul_zero] at h2
  omega
theorem shF_zero {D : Int} (hD : 0 < D) : shF 0 D = (0, 1) := by
 have h : makeT 0 D = (0, 1, 0) := by
  unfold makeT
  rw [if_neg (by omega)]
  have e1 : (if D < 0 then -(0 : Int) else 0) = 0 := by split <;> rfl
  rw [e1, redT_eq (p' := 0) (q' := 1) (by omega) (by omega) (by rw [Int.zero_mul, Int.zero_mul])]
  decide
 unfold shF
 rw [h]
theorem pnt_eq {n m R : Nat} {E : Nat → Nat → Int} {b : Nat → Nat} {D : Int} (hi : ∀ l k, l < m → k < m → b l = b k → l = k) (hD : 0 < D) (j : Nat) (hj : j < n) : ∀ k, k ≤ m → pntF n E b R D k j = shF (sumN k fun i => if b i = j then E i R else 0) D := by
 intro k
 induction k with
 | zero => intro _; exact (shF_zero hD).symm
 | succ k ih =>
  intro hk
  show (if b k < n then updF (pntF n E b R D k) (b k) (shF (E k R) D) else pntF n E b R D k) j = shF ((sumN k fun i => if b i = j then E i R else 0) + if b k = j then E k R else 0) D
  by_cases e : b k = j
  ·rw [if_pos (by omega), if_pos e, sumN_zero (fun i hi2 => if_neg (fun q => by have := hi i k (by omega) (by omega) (q.trans e.symm); omega)), Int.zero_add]
   unfold updF
   rw [if_pos e.symm]
  ·rw [if_neg e, Int.add_zero, ← ih (by omega)]
   split
   ·unfold updF; rw [if_neg (fun q => e q.symm)]
   ·rfl

/-- A block of four cells. -/
structure ABk (W : World) (b : Nat) (v0 v1 v2 v3 : Value) : Prop where
 hb : b < W.heap.size
 c0 : W.cell? ⟨b, 0, none⟩ = some v0
 c1 : W.cell? ⟨b, 1, none⟩ = some v1
 c2 : W.cell? ⟨b, 2, none⟩ = some v2
 c3 : W.cell? ⟨b, 3, none⟩ = some v3
 fz : ∀ o, W.frozen? ⟨b, o, none⟩ = false
theorem ABk.lo {B : Nat} {W W2 : World} {b : Nat} {v0 v1 v2 v3 : Value} (h : ABk W b v0 v1 v2 v3) (hb : Below B W W2) (hl : b < B) : ABk W2 b v0 v1 v2 v3 :=
 ⟨Nat.lt_of_lt_of_le h.hb hb.size, (hb.cell (p := ⟨b, 0, none⟩) hl).trans h.c0, (hb.cell (p := ⟨b, 1, none⟩) hl).trans h.c1, (hb.cell (p := ⟨b, 2, none⟩) hl).trans h.c2, (hb.cell (p := ⟨b, 3, none⟩) hl).trans h.c3,
  fun o => (hb.frozen (p := ⟨b, o, none⟩) hl).trans (h.fz o)⟩
theorem ABk.on {W W2 : World} {b : Nat} {v0 v1 v2 v3 : Value} (h : ABk W b v0 v1 v2 v3) (hb : Below W.heap.size W W2) : ABk W2 b v0 v1 v2 v3 := h.lo hb h.hb
theorem ABk.set4 {W : World} {b : Nat} {v0 v1 v2 v3 : Value} (h : ABk W b v0 v1 v2 v3) (a c d e : Value) : ABk ((((W.setCell ⟨b, 0, none⟩ a).setCell ⟨b, 1, none⟩ c).setCell ⟨b, 2, none⟩ d).setCell ⟨b, 3, none⟩ e) b a c d e := by
 have n : ∀ (V : World) (i j : Nat) (v : Value), i ≠ j → (V.setCell ⟨b, i, none⟩ v).cell? ⟨b, j, none⟩ = V.cell? ⟨b, j, none⟩ := fun V i j v hj => World.cell?_setCell_other _ _ _ _ (adr_ne hj)
 have s1 : ((W.setCell ⟨b, 0, none⟩ a).cell? ⟨b, 1, none⟩).isSome = true := by rw [n _ _ _ _ (by decide), h.c1]; rfl
 have s2 : (((W.setCell ⟨b, 0, none⟩ a).setCell ⟨b, 1, none⟩ c).cell? ⟨b, 2, none⟩).isSome = true := by rw [n _ _ _ _ (by decide), n _ _ _ _ (by decide), h.c2]; rfl
 have s3 : ((((W.setCell ⟨b, 0, none⟩ a).setCell ⟨b, 1, none⟩ c).setCell ⟨b, 2, none⟩ d).cell? ⟨b, 3, none⟩).isSome = true := by rw [n _ _ _ _ (by decide), n _ _ _ _ (by decide), n _ _ _ _ (by decide), h.c3]; rfl
 refine ⟨by simpa using h.hb, ?_, ?_, ?_, ?_, fun o => by simpa using h.fz o⟩
 ·rw [n _ _ _ _ (by decide), n _ _ _ _ (by decide), n _ _ _ _ (by decide)]
  exact World.cell?_setCell_same' _ _ _ (by rw [h.c0]; rfl)
 ·rw [n _ _ _ _ (by decide), n _ _ _ _ (by decide)]
  exact World.cell?_setCell_same' _ _ _ s1
 ·rw [n _ _ _ _ (by decide)]
  exact World.cell?_setCell_same' _ _ _ s2
 ·exact World.cell?_setCell_same' _ _ _ s3
theorem ABk.sets {W : World} {b : Nat} {v0 v1 v2 v3 : Value} (h : ABk W b v0 v1 v2 v3) (a c d e : Value) : Only (fun q => q = b) W ((((W.setCell ⟨b, 0, none⟩ a).setCell ⟨b, 1, none⟩ c).setCell ⟨b, 2, none⟩ d).setCell ⟨b, 3, none⟩ e) :=
 ((((Only.refl (fun q => q = b) W).setCell ⟨b, 0, none⟩ rfl a).setCell ⟨b, 1, none⟩ rfl c).setCell ⟨b, 2, none⟩ rfl d).setCell ⟨b, 3, none⟩ rfl e

/-- What a basis at which Solve ends says. -/
structure OptP (p : PgD) (b : Nat → Nat) : Prop where
 rel : RelI p.m p.n (tabA p.n p.m p.Z p.Kd p.Rt) p.m b
 zz : ∀ j, j < p.n + p.m → 0 ≤ zzP p.m (tabA p.n p.m p.Z p.Kd p.Rt) (c0F p.n p.C) b j
def dP (p : PgD) (b : Nat → Nat) : Int := ddP p.m (tabA p.n p.m p.Z p.Kd p.Rt) b
def pntP (p : PgD) (b : Nat → Nat) : Nat → Int × Int := fun j => shF (xP p b j) (dP p b)
def mltP (p : PgD) (lk : Int) (z : Nat → Int) (b : Nat → Nat) : Nat → Int × Int := fun i => shF (yP p lk z b i) (dP p b)
def aV (v : Int × Int) (x y : Value) : Value := .agg #[.int .i64 v.1, .int .i64 v.2, x, y]
/-- What Solve answers: the result, the error. -/
def SolO (p : PgD) (B : Nat) (W : World) (vl : Value) (er : Int) : Prop :=
 (er = 1 ∧ ¬ p.Ok ∧ vl = aV (0, 0) (.slice none 0 0) (.slice none 0 0)) ∨
 (er = 5 ∧ p.Ok ∧ ¬ FitP p ∧ vl = aV (0, 0) (.slice none 0 0) (.slice none 0 0)) ∨
 (er = 22 ∧ p.Ok ∧ FitP p ∧ (∃ y, RefuP p y) ∧ vl = aV (0, 0) (.slice none 0 0) (.slice none 0 0)) ∨
 (er = 21 ∧ p.Ok ∧ FitP p ∧ (∃ b, RelI p.m p.n (tabA p.n p.m p.Z p.Kd p.Rt) p.m b) ∧ (∃ r, RayP p r) ∧ vl = aV (0, 0) (.slice none 0 0) (.slice none 0 0)) ∨
 (er = 0 ∧ p.Ok ∧ FitP p ∧ ∃ b xb yb, OptP p b ∧ vl = aV (shF (valP p (xP p b)) (dP p b)) (.slice (some ⟨xb, 0, none⟩) p.n p.n) (.slice (some ⟨yb, 0, none⟩) p.m p.m) ∧ B ≤ xb ∧ B ≤ yb ∧
  FrX W xb p.n (pntP p b) ∧ FrX W yb p.m (mltP p 0 (c0F p.n p.C) b))

theorem pnt_ok {p : PgD} {k : Nat} {b : Nat → Nat} (h : RelI p.m p.n (tabA p.n p.m p.Z p.Kd p.Rt) k b) (j : Nat) (hj : j < p.n) :
  pntP p b j = pntF p.n (tabE p.m (tabA p.n p.m p.Z p.Kd p.Rt) (c0F p.n p.C) (c1F p.n p.m) b) b (p.n + p.m + p.m) (ddP p.m (tabA p.n p.m p.Z p.Kd p.Rt) b) p.m j := by
 rw [pnt_eq (fun l k hl hk e => basis_inj h.good.nz hl hk e) (ddP_pos h.good.nz) j hj p.m (Nat.le_refl _)]
 unfold pntP xP xBas dP
 congr 1
 exact sumN_congr fun i hi => by
  unfold tabE
  rw [if_pos hi]
theorem mlt_ok0 {p : PgD} {b : Nat → Nat} (lk : Int) (i : Nat) : mltP p lk (c0F p.n p.C) b i = mltF (tabE p.m (tabA p.n p.m p.Z p.Kd p.Rt) (c0F p.n p.C) (c1F p.n p.m) b) (fun i => sgR (p.Rt i)) p.m (p.n + p.m) lk (ddP p.m (tabA p.n p.m p.Z p.Kd p.Rt) b) i := by
 unfold mltP yP mltF dP tabE
 rw [if_neg (Nat.lt_irrefl _), if_pos rfl]
theorem val_ok {p : PgD} {k : Nat} {b : Nat → Nat} (h : RelI p.m p.n (tabA p.n p.m p.Z p.Kd p.Rt) k b) : -(tabE p.m (tabA p.n p.m p.Z p.Kd p.Rt) (c0F p.n p.C) (c1F p.n p.m) b p.m (p.n + p.m + p.m)) = valP p (xP p b) := by
 rw [xP_val h]
 unfold tabE
 rw [if_neg (Nat.lt_irrefl _), if_pos rfl]

/-- All tables of a run are small; what fill leaves. -/
theorem fill_gap {p : PgD} {b : Nat → Nat} {t : Bool} (hg : GoodP p.m (tabA p.n p.m p.Z p.Kd p.Rt) (p.n + p.m + p.m + 1) (p.n + p.m + p.m) b) (hr : RunP p.m p.n (tabA p.n p.m p.Z p.Kd p.Rt) (c1F p.n p.m) t b)
  (h0 : (zzP p.m (tabA p.n p.m p.Z p.Kd p.Rt) (c1F p.n p.m) b (p.n + p.m + p.m) == 0) = false) : RefuP p (yP p 1 (c1F p.n p.m) b) := by
 have h1 := (lacks_sum hg).1
 have h2 : zzP p.m (tabA p.n p.m p.Z p.Kd p.Rt) (c1F p.n p.m) b (p.n + p.m + p.m) ≠ 0 := by simpa using h0
 exact y_refu (fill_up hr) (by omega)
theorem fill_rel {p : PgD} {b : Nat → Nat} (hg : GoodP p.m (tabA p.n p.m p.Z p.Kd p.Rt) (p.n + p.m + p.m + 1) (p.n + p.m + p.m) b) (hl : ∀ l, l < p.m → b l < p.n + p.m + p.m)
  (h0 : (zzP p.m (tabA p.n p.m p.Z p.Kd p.Rt) (c1F p.n p.m) b (p.n + p.m + p.m) == 0) = true) : RelI p.m p.n (tabA p.n p.m p.Z p.Kd p.Rt) 0 b :=
 ⟨hg, (lacks_sum hg).2 (by simpa using h0) hl, fun i hi => by omega, hl⟩
theorem step_lt {p : PgD} {z : Nat → Int} {b b2 : Nat → Nat} (hl : ∀ l, l < p.m → b l < p.n + p.m + p.m) (hs : StepP p.m (tabA p.n p.m p.Z p.Kd p.Rt) z (p.n + p.m) (p.n + p.m + p.m) b b2) : ∀ l, l < p.m → b2 l < p.n + p.m + p.m := by
 obtain ⟨s, r, he, _, rfl⟩ := hs
 have := he.1
 exact updP_lt hl (by omega)

set_option maxRecDepth 100000 in
set_option maxHeartbeats 16000000 in
theorem Solve_any (p : PgD) (hs : p.Sm) (w : World) (hp : p.At w) :
  Calls Tryz.prog 17 #[p.val] w fun e w' => Below w.heap.size w w' ∧ ∃ vl er, e = .returned (.tuple #[vl, .int .i64 er]) ∧ SolO p w.heap.size w' vl er := by
 obtain ⟨v, hv⟩ : ∃ v : Bool, v = true ↔ p.Ok := by
  by_cases h : p.Ok
  ·exact ⟨true, by simp [h]⟩
  ·exact ⟨false, by simp [h]⟩
 obtain ⟨u, hu⟩ : ∃ v : Bool, v = true ↔ FitP p := by
  by_cases h : FitP p
  ·exact ⟨true, by simp [h]⟩
  ·exact ⟨false, by simp [h]⟩
 have HU := Lib.hid hu
 have HV := Lib.hid hv
 have HP := Lib.hid hp
 have CF := fun W (h : p.At W) (hk : p.Ok) => Lib.hid (fits_any p hk u hu W h)
 have HCF := Lib.hid CF
 have CN := fun W (h : p.At W) (hk : p.Ok) => Lib.hid (newTable_any p hk W h)
 have HCN := Lib.hid CN
 have CV := fun W (h : p.At W) => Lib.hid (pValid_any p hs v hv W h)
 have HCV := Lib.hid CV
 have hb1 : Below w.heap.size w (w.alloc (Obj.cells #[Value.slice p.ca p.n p.cc, .slice p.ra p.m p.rc] 25)) := (Below.refl _ _).alloc (Nat.le_refl _) _
 obtain ⟨w1, hw1⟩ : ∃ W, W = w.alloc (Obj.cells #[Value.slice p.ca p.n p.cc, .slice p.ra p.m p.rc] 25) := ⟨_, rfl⟩
 obtain ⟨xb, hxb⟩ : ∃ x, x = w.heap.size := ⟨_, rfl⟩
 have hB : Blk w1 xb (.slice p.ca p.n p.cc) (.slice p.ra p.m p.rc) := by rw [hw1, hxb]; exact Blk.new _ _ _ _
 rw [← hw1] at hb1
 have hb2 : Below w1.heap.size w1 (w1.alloc (Obj.cells #[Value.int .i64 0, .int .i64 0, .slice none 0 0, .slice none 0 0] 30)) := (Below.refl _ _).alloc (Nat.le_refl _) _
 obtain ⟨w2, hw2⟩ : ∃ W, W = w1.alloc (Obj.cells #[Value.int .i64 0, .int .i64 0, .slice none 0 0, .slice none 0 0] 30) := ⟨_, rfl⟩
 obtain ⟨gb, hgb⟩ : ∃ x, x = xb + 1 := ⟨_, rfl⟩
 have hgw : gb = w1.heap.size := by rw [hgb, hw1, hxb]; simp
 have hA : ABk w2 gb (.int .i64 0) (.int .i64 0) (.slice none 0 0) (.slice none 0 0) := by
  rw [hw2, hgw]
  exact ⟨by simp, by simp [go_sem], by simp [go_sem], by simp [go_sem], by simp [go_sem], fun o => by simp [go_sem]⟩
 rw [← hw2] at hb2
 have HB := Lib.hid (below_on hb1 hb2)
 have HX := Lib.hid (hB.on hb2)
 have HG := Lib.hid hA
 have HGB : Hid (w.heap.size ≤ gb) := by show _ ≤ _; rw [hgw]; exact hb1.size
 clear hb1 hb2 hB hA hp hv hu CV CF CN hs
 unfold PgD.val at HCV HCF HCN ⊢
 go_enter Tryz.func17, Tryz.ntmps17
 go_upto_region 1 with fail
 rw [← hxb, ← hw1, ← hgb, ← hw2]
 clear hxb hw1 hgb hgw hw2
 have q0 := HX.out.2.1
 have q1 := HX.out.2.2
 go_wp2_with fail
 clear q0 q1
 (with_reducible refine (((HCV.out _ (HP.out.on HB.out)).out).mono ?_))
 rintro e w3 ⟨rfl, hb3⟩
 have HB := Lib.hid (below_on HB.out hb3)
 have HX := Lib.hid (HX.out.on hb3)
 have HG := Lib.hid (HG.out.on hb3)
 clear hb3 HCV
 cases v
 ·have hno : ¬ p.Ok := fun h => by have := HV.out.2 h; cases this
  have H5 := Lib.hid (HG.out.set4 (.int .i64 0) (.int .i64 0) (.slice none 0 0) (.slice none 0 0))
  have O5 := Lib.hid (HG.out.sets (.int .i64 0) (.int .i64 0) (.slice none 0 0) (.slice none 0 0))
  have c0 := HG.out.c0
  have c1 := HG.out.c1
  have c2 := HG.out.c2
  have c3 := HG.out.c3
  have f0 := HG.out.fz 0
  have f1 := HG.out.fz 1
  have f2 := HG.out.fz 2
  have f3 := HG.out.fz 3
  go_wp2_with fail
  clear c0 c1 c2 c3 f0 f1 f2 f3
  generalize (((w3.setCell ⟨gb, 0, none⟩ (.int .i64 0)).setCell ⟨gb, 1, none⟩ (.int .i64 0)).setCell ⟨gb, 2, none⟩ (.slice none 0 0)).setCell ⟨gb, 3, none⟩ (.slice none 0 0) = W5 at *
  have x0 := H5.out.c0
  have x1 := H5.out.c1
  have x2 := H5.out.c2
  have x3 := H5.out.c3
  (try simp only [Exit.inBlock, Exit.then])
  refine bodyPost_ret (by simp [results, Tryz.results17, x0, x1, x2, x3, go_sem]; rfl) rfl ?_
  exact ⟨HB.out.trans (O5.out.below HB.out.size (fun c hc => by rw [hc]; exact HGB.out)), _, 1, rfl, .inl ⟨rfl, hno, rfl⟩⟩
 have hok : p.Ok := HV.out.1 rfl
 have q0 := HX.out.2.1
 have q1 := HX.out.2.2
 go_wp2_with fail
 clear q0 q1
 (with_reducible refine (((HCF.out _ (HP.out.on HB.out) hok).out).mono ?_))
 rintro e w4 ⟨rfl, hb3⟩
 have HB := Lib.hid (below_on HB.out hb3)
 have HX := Lib.hid (HX.out.on hb3)
 have HG := Lib.hid (HG.out.on hb3)
 clear hb3 HCF
 cases u
 ·have hno : ¬ FitP p := fun h => by have := HU.out.2 h; cases this
  have H5 := Lib.hid (HG.out.set4 (.int .i64 0) (.int .i64 0) (.slice none 0 0) (.slice none 0 0))
  have O5 := Lib.hid (HG.out.sets (.int .i64 0) (.int .i64 0) (.slice none 0 0) (.slice none 0 0))
  have c0 := HG.out.c0
  have c1 := HG.out.c1
  have c2 := HG.out.c2
  have c3 := HG.out.c3
  have f0 := HG.out.fz 0
  have f1 := HG.out.fz 1
  have f2 := HG.out.fz 2
  have f3 := HG.out.fz 3
  go_wp2_with fail
  clear c0 c1 c2 c3 f0 f1 f2 f3
  generalize (((w4.setCell ⟨gb, 0, none⟩ (.int .i64 0)).setCell ⟨gb, 1, none⟩ (.int .i64 0)).setCell ⟨gb, 2, none⟩ (.slice none 0 0)).setCell ⟨gb, 3, none⟩ (.slice none 0 0) = W5 at *
  have x0 := H5.out.c0
  have x1 := H5.out.c1
  have x2 := H5.out.c2
  have x3 := H5.out.c3
  (try simp only [Exit.inBlock, Exit.then])
  refine bodyPost_ret (by simp [results, Tryz.results17, x0, x1, x2, x3, go_sem]; rfl) rfl ?_
  exact ⟨HB.out.trans (O5.out.below HB.out.size (fun c hc => by rw [hc]; exact HGB.out)), _, 5, rfl, .inr (.inl ⟨rfl, hok, hno, rfl⟩)⟩
 have hfit : FitP p := HU.out.1 rfl
 have hm6 := hok.m2
 have hn12 := hok.n2
 have hn1 := hok.n1
 have q0 := HX.out.2.1
 have q1 := HX.out.2.2
 go_wp2_with fail
 clear q0 q1
 (with_reducible refine (((HCN.out _ (HP.out.on HB.out) hok).out).mono ?_))
 rintro e w5 ⟨hb3, tb, rb, Cb, bb, sb, pa, pb, pc, pd, G, C, rfl, hS⟩
 obtain ⟨B0, hB0⟩ : ∃ x, w4.heap.size = x := ⟨_, rfl⟩
 have HGL : Hid (gb < B0) := by show _ < _; rw [← hB0]; exact HG.out.hb
 have HBB : Hid (w.heap.size ≤ B0) := by show _ ≤ _; rw [← hB0]; exact HB.out.size
 have HB := Lib.hid (below_on HB.out hb3)
 have HG := Lib.hid (HG.out.on hb3)
 have HB5 : Hid (B0 ≤ w5.heap.size) := by show _ ≤ _; rw [← hB0]; exact hb3.size
 rw [hB0] at hS
 clear hb3 HCN HX HP hB0
 have hpr := fit_prob hok hfit
 have HPR := Lib.hid hpr
 have CFI := Lib.hid (fill_any hpr (fun b => ∀ l, l < p.m → b l < p.n + p.m + p.m) (fun b b2 h1 _ h2 => step_lt h1 h2) (b0P p.n p.m) (good_start p.n p.m p.Z p.Kd p.Rt) (fun l hl => by unfold b0P; rw [if_pos hl]; omega) w5 HB5.out hS)
 clear hpr hS
 go_wp2_with fail
 (with_reducible refine ((CFI.out).mono ?_))
 rintro e w6 ⟨hb3, b2, t, rfl, hS, hg, hl, hr⟩
 have HB := Lib.hid (HB.out.trans (hb3.mono HBB.out))
 have HG := Lib.hid (HG.out.lo hb3 HGL.out)
 have HB5 : Hid (B0 ≤ w6.heap.size) := Nat.le_trans HB5.out hb3.size
 have HS := Lib.hid hS
 have HR := Lib.hid (And.intro hg (And.intro hl hr))
 clear hb3 hS hg hl hr CFI
 obtain ⟨z, hz⟩ : ∃ z, (zzP p.m (tabA p.n p.m p.Z p.Kd p.Rt) (c1F p.n p.m) b2 (p.n + p.m + p.m) == 0) = z := ⟨_, rfl⟩
 rw [hz]
 have HZ := Lib.hid hz
 clear hz
 cases z
 ·have hno : ∃ y, RefuP p y := ⟨_, fill_gap HR.out.1 HR.out.2.2 HZ.out⟩
  have H5 := Lib.hid (HG.out.set4 (.int .i64 0) (.int .i64 0) (.slice none 0 0) (.slice none 0 0))
  have O5 := Lib.hid (HG.out.sets (.int .i64 0) (.int .i64 0) (.slice none 0 0) (.slice none 0 0))
  have c0 := HG.out.c0
  have c1 := HG.out.c1
  have c2 := HG.out.c2
  have c3 := HG.out.c3
  have f0 := HG.out.fz 0
  have f1 := HG.out.fz 1
  have f2 := HG.out.fz 2
  have f3 := HG.out.fz 3
  go_wp2_with fail
  clear c0 c1 c2 c3 f0 f1 f2 f3
  generalize (((w6.setCell ⟨gb, 0, none⟩ (.int .i64 0)).setCell ⟨gb, 1, none⟩ (.int .i64 0)).setCell ⟨gb, 2, none⟩ (.slice none 0 0)).setCell ⟨gb, 3, none⟩ (.slice none 0 0) = W5 at *
  have x0 := H5.out.c0
  have x1 := H5.out.c1
  have x2 := H5.out.c2
  have x3 := H5.out.c3
  (try simp only [Exit.inBlock, Exit.then])
  refine bodyPost_ret (by simp [results, Tryz.results17, x0, x1, x2, x3, go_sem]; rfl) rfl ?_
  exact ⟨HB.out.trans (O5.out.below HB.out.size (fun c hc => by rw [hc]; exact HGB.out)), _, 22, rfl, .inr (.inr (.inl ⟨rfl, hok, hfit, hno, rfl⟩))⟩
 have CRE := Lib.hid (release_any HPR.out b2 (fill_rel HR.out.1 HR.out.2.1 HZ.out) w6 HB5.out HS.out)
 clear HR HZ HS
 go_wp2_with fail
 (with_reducible refine ((CRE.out).mono ?_))
 rintro e w7 ⟨rfl, hb3, b3, hS, hr⟩
 have HB := Lib.hid (HB.out.trans (hb3.mono HBB.out))
 have HG := Lib.hid (HG.out.lo hb3 HGL.out)
 have HB5 : Hid (B0 ≤ w7.heap.size) := Nat.le_trans HB5.out hb3.size
 have HS := Lib.hid hS
 have HR := Lib.hid hr
 have CCO := Lib.hid (costs_any w7 hS (by omega))
 clear hb3 hS hr CRE
 go_wp2_with fail
 (with_reducible refine ((CCO.out).mono ?_))
 rintro e w8 ⟨rfl, k1, rfl⟩
 have hb3 : Below w7.heap.size w7 (w7.drewN k1) := below_drewN' (Below.refl _ _) k1
 have HB := Lib.hid (below_on HB.out hb3)
 have HG := Lib.hid (HG.out.on hb3)
 have HB5 : Hid (B0 ≤ (w7.drewN k1).heap.size) := Nat.le_trans HB5.out hb3.size
 have hS : SimSt B0 (w7.drewN k1) tb rb Cb bb sb p.m p.n pa pb pc pd G C (tabA p.n p.m p.Z p.Kd p.Rt) (c0F p.n p.C) (c1F p.n p.m) (fun i => sgR (p.Rt i)) b3 := TSt.on HS.out hb3
 clear hb3 HS CCO
 generalize w7.drewN k1 = w8 at *
 have CLO := Lib.hid (lower_any HPR.out p.m (c0F p.n p.C) (fun b j => by unfold tabE; rw [if_neg (Nat.lt_irrefl _), if_pos rfl]) (by omega) (RelI p.m p.n (tabA p.n p.m p.Z p.Kd p.Rt) p.m) (fun b b2 h1 _ h2 => h1.step h2) b3 HR.out.good HR.out w8 HB5.out hS)
 clear hS HR
 go_wp2_with fail
 (with_reducible refine ((CLO.out).mono ?_))
 rintro e w9 ⟨hb3, b4, t4, rfl, hS, _, hrel, hrun⟩
 have HB := Lib.hid (HB.out.trans (hb3.mono HBB.out))
 have HG := Lib.hid (HG.out.lo hb3 HGL.out)
 have HB5 : Hid (B0 ≤ w9.heap.size) := Nat.le_trans HB5.out hb3.size
 have HS := Lib.hid hS
 have HR := Lib.hid (And.intro hrel hrun)
 clear hb3 hS hrel hrun CLO
 cases t4
 ·have hray : ∃ r, RayP p r := by
   rcases HR.out.2 with ⟨h, _⟩ | ⟨_, s, h1, h2⟩
   ·cases h
   ·exact ray_of hok HR.out.1 h1 h2
  have H5 := Lib.hid (HG.out.set4 (.int .i64 0) (.int .i64 0) (.slice none 0 0) (.slice none 0 0))
  have O5 := Lib.hid (HG.out.sets (.int .i64 0) (.int .i64 0) (.slice none 0 0) (.slice none 0 0))
  have c0 := HG.out.c0
  have c1 := HG.out.c1
  have c2 := HG.out.c2
  have c3 := HG.out.c3
  have f0 := HG.out.fz 0
  have f1 := HG.out.fz 1
  have f2 := HG.out.fz 2
  have f3 := HG.out.fz 3
  go_wp2_with fail
  clear c0 c1 c2 c3 f0 f1 f2 f3
  generalize (((w9.setCell ⟨gb, 0, none⟩ (.int .i64 0)).setCell ⟨gb, 1, none⟩ (.int .i64 0)).setCell ⟨gb, 2, none⟩ (.slice none 0 0)).setCell ⟨gb, 3, none⟩ (.slice none 0 0) = W5 at *
  have x0 := H5.out.c0
  have x1 := H5.out.c1
  have x2 := H5.out.c2
  have x3 := H5.out.c3
  (try simp only [Exit.inBlock, Exit.then])
  refine bodyPost_ret (by simp [results, Tryz.results17, x0, x1, x2, x3, go_sem]; rfl) rfl ?_
  exact ⟨HB.out.trans (O5.out.below HB.out.size (fun c hc => by rw [hc]; exact HGB.out)), _, 21, rfl, .inr (.inr (.inr (.inl ⟨rfl, hok, hfit, ⟨b4, HR.out.1⟩, hray, rfl⟩)))⟩
 have hopt : OptP p b4 := ⟨HR.out.1, by
  rcases HR.out.2 with ⟨_, h⟩ | ⟨h, _⟩
  ·exact h
  ·cases h⟩
 have hun := HPR.out.under hopt.rel.good
 have HSM := Lib.hid (fun i j hj => HPR.out.small hopt.rel.good i j hj)
 have CVA := Lib.hid (value_any w9 HS.out rfl (by omega) (by omega) (by omega) (by have := HSM.out p.m (p.n + p.m + p.m) (by omega); omega))
 have CPO := fun W (hb : Below w9.heap.size w9 W) => Lib.hid (point_any b4 W (TSt.on HS.out hb) rfl (by omega) (by omega) (by omega) (fun i hi => by have := HSM.out i (p.n + p.m + p.m) (by omega); omega))
 have HCPO := Lib.hid CPO
 have CCO := fun W (hb : Below w9.heap.size w9 W) => Lib.hid (costs_any W (TSt.on HS.out hb) (by omega))
 have HCCO := Lib.hid CCO
 have CML := fun W (hb : Below w9.heap.size w9 W) => Lib.hid (multipliers_any p.m 0 W (TSt.on HS.out hb) rfl (by omega) (by omega) (by omega) (.inl rfl) (fun i _ => sgR_cases _) hun (fun j hj => HSM.out p.m j hj))
 have HCML := Lib.hid CML
 rw [val_ok HR.out.1] at CVA
 obtain ⟨vx, hvx⟩ : ∃ y, shF (valP p (xP p b4)) (ddP p.m (tabA p.n p.m p.Z p.Kd p.Rt) b4) = y := ⟨_, rfl⟩
 rw [hvx] at CVA
 have HVX := Lib.hid hvx
 clear CPO CCO CML hvx HS
 have HB9 : Hid (Below w9.heap.size w9 w9) := Below.refl _ _
 go_wp2_with fail
 (with_reducible refine ((CVA.out).mono ?_))
 rintro e wa ⟨rfl, hb3⟩
 have HB := Lib.hid (below_on HB.out hb3)
 have HB9 := Lib.hid (below_on HB9.out hb3)
 have HG := Lib.hid (HG.out.on hb3)
 clear hb3 CVA
 go_wp2_with fail
 (with_reducible refine (((HCPO.out _ HB9.out).out).mono ?_))
 rintro e wb ⟨xb2, rfl, hx1, hb3, hX⟩
 have HXG : Hid (gb < xb2 ∧ w.heap.size ≤ xb2) := ⟨Nat.lt_of_lt_of_le HG.out.hb hx1, Nat.le_trans HB.out.size hx1⟩
 have HB := Lib.hid (below_on HB.out hb3)
 have HB9 := Lib.hid (below_on HB9.out hb3)
 have HG := Lib.hid (HG.out.on hb3)
 have HFX := Lib.hid hX
 clear hb3 HCPO hX hx1
 go_wp2_with fail
 (with_reducible refine (((HCCO.out _ HB9.out).out).mono ?_))
 rintro e wc ⟨rfl, k2, rfl⟩
 have hb3 : Below wb.heap.size wb (wb.drewN k2) := below_drewN' (Below.refl _ _) k2
 have HB := Lib.hid (below_on HB.out hb3)
 have HB9 := Lib.hid (below_on HB9.out hb3)
 have HG := Lib.hid (HG.out.on hb3)
 have HFX := Lib.hid (HFX.out.on hb3)
 clear hb3 HCCO
 generalize wb.drewN k2 = wc at *
 go_wp2_with fail
 (with_reducible refine (((HCML.out _ HB9.out).out).mono ?_))
 rintro e wd ⟨yb2, rfl, hx1, hb3, hY⟩
 have HYG : Hid (gb < yb2 ∧ w.heap.size ≤ yb2) := ⟨Nat.lt_of_lt_of_le HG.out.hb hx1, Nat.le_trans HB.out.size hx1⟩
 have HB := Lib.hid (below_on HB.out hb3)
 have HG := Lib.hid (HG.out.on hb3)
 have HFX := Lib.hid (HFX.out.on hb3)
 have HFY := Lib.hid hY
 clear hb3 HCML hY hx1 HB9 HSM
 have H5 := Lib.hid (HG.out.set4 (.int .i64 vx.1) (.int .i64 vx.2) (.slice (some ⟨xb2, 0, none⟩) p.n p.n) (.slice (some ⟨yb2, 0, none⟩) p.m p.m))
 have O5 := Lib.hid (HG.out.sets (.int .i64 vx.1) (.int .i64 vx.2) (.slice (some ⟨xb2, 0, none⟩) p.n p.n) (.slice (some ⟨yb2, 0, none⟩) p.m p.m))
 have c0 := HG.out.c0
 have c1 := HG.out.c1
 have c2 := HG.out.c2
 have c3 := HG.out.c3
 have f0 := HG.out.fz 0
 have f1 := HG.out.fz 1
 have f2 := HG.out.fz 2
 have f3 := HG.out.fz 3
 go_wp2_with fail
 clear c0 c1 c2 c3 f0 f1 f2 f3
 generalize (((wd.setCell ⟨gb, 0, none⟩ (.int .i64 vx.1)).setCell ⟨gb, 1, none⟩ (.int .i64 vx.2)).setCell ⟨gb, 2, none⟩ (.slice (some ⟨xb2, 0, none⟩) p.n p.n)).setCell ⟨gb, 3, none⟩ (.slice (some ⟨yb2, 0, none⟩) p.m p.m) = W5 at *
 have x0 := H5.out.c0
 have x1 := H5.out.c1
 have x2 := H5.out.c2
 have x3 := H5.out.c3
 (try simp only [Exit.inBlock, Exit.then])
 refine bodyPost_ret (by simp [results, Tryz.results17, x0, x1, x2, x3, go_sem]; rfl) rfl ?_
 exact ⟨HB.out.trans (O5.out.below HB.out.size (fun c hc => by rw [hc]; exact HGB.out)), _, 0, rfl, .inr (.inr (.inr (.inr ⟨rfl, hok, hfit, b4, xb2, yb2, hopt, by unfold dP; rw [HVX.out]; rfl, HXG.out.2, HYG.out.2, (HFX.out.only O5.out (by have := HXG.out.1; omega)).congr (fun l hl => pnt_ok hopt.rel l hl), (HFY.out.only O5.out (by have := HYG.out.1; omega)).congr (fun l hl => mlt_ok0 0 l)⟩)))⟩
end Go.Proofs.YtggpdhdbeokkcaaGreat

namespace Go.Proofs.YtggpdhdbeokkcaaGreat
set_option linter.unusedVariables false
open Go.RowKit Go.Shelf

end Go.Proofs.YtggpdhdbeokkcaaGreat

namespace Go.Proofs.YtggpdhdbeokkcaaGreat
set_option linter.unusedVariables false
open Go.RowKit Go.Shelf

structure SuAR (xg xo xc N j : Nat) (fj xn xd qn qd qe : Int) (Wc : World) (L : Nat → Bool) (v : Nat → Value) (W : World) : Prop where
 st : Below Wc.heap.size Wc W
 f0 : Had L 0 (v 35 = .int .i64 fj)
 f1 : Had L 1 (v 36 = .agg #[.int .i64 fj, .int .i64 1])
 f2 : Had L 2 (v 37 = .slice (some ⟨xg, xo, none⟩) (N) (xc))
 f3 : Had L 3 (v 38 = .int .i64 (j : Int))
 f4 : Had L 4 (v 39 = .pointer (some ⟨xg, xo + j * 2, none⟩))
 f5 : Had L 5 (v 40 = .agg #[.int .i64 xn, .int .i64 xd])
 f6 : Had L 6 (v 41 = .tuple #[.agg #[.int .i64 qn, .int .i64 qd], .int .i64 qe])
 f7 : Had L 7 (v 34 = .tuple #[.agg #[.int .i64 qn, .int .i64 qd], .int .i64 qe])
 f8 : Had L 8 (v 42 = .agg #[.int .i64 qn, .int .i64 qd])
 f9 : Had L 9 (v 43 = .int .i64 qe)
 x10 : Had L 10 (∃ g, v 11 = .pointer (some ⟨g, 0, none⟩) ∧ Own Wc.heap.size W g)
 x11 : Had L 11 (∃ g, v 11 = .pointer (some ⟨g, 0, none⟩) ∧ Own Wc.heap.size W g ∧ Blk W g (.int .i64 qn) (.int .i64 qd))
 f12 : Had L 12 (v 12 = .int .i64 qe)
 w1 : Had L 1 (∀ j ∈ [0], L j = true)
 w4 : Had L 4 (∀ j ∈ [2, 3], L j = true)
 w5 : Had L 5 (∀ j ∈ [4], L j = true)
 w6 : Had L 6 (∀ j ∈ [1, 5], L j = true)
 w7 : Had L 7 (∀ j ∈ [6], L j = true)
 w8 : Had L 8 (∀ j ∈ [7], L j = true)
 w9 : Had L 9 (∀ j ∈ [7], L j = true)
 w11 : Had L 11 (∀ j ∈ [8, 10], L j = true)
 w12 : Had L 12 (∀ j ∈ [9], L j = true)

structure SuBR (ab Kn k tb : Nat) (sn sd qn qd tn td te : Int) (Wc : World) (L : Nat → Bool) (v : Nat → Value) (W : World) : Prop where
 st : L 12 = false → Below Wc.heap.size Wc W
 f0 : Had L 0 (v 48 = .slice (some ⟨ab, 0, none⟩) (Kn) (Kn))
 f1 : Had L 1 (v 49 = .int .i64 (k : Int))
 f2 : Had L 2 (v 50 = .slice (some ⟨ab, 0, none⟩) (Kn) (Kn))
 f3 : Had L 3 (v 51 = .int .i64 (k : Int))
 f4 : Had L 4 (v 52 = .pointer (some ⟨ab, k * 2, none⟩))
 f5 : Had L 5 (v 53 = .agg #[.int .i64 sn, .int .i64 sd])
 f6 : Had L 6 (v 54 = .agg #[.int .i64 qn, .int .i64 qd])
 f7 : Had L 7 (v 55 = .tuple #[.agg #[.int .i64 tn, .int .i64 td], .int .i64 te])
 f8 : Had L 8 (v 47 = .tuple #[.agg #[.int .i64 tn, .int .i64 td], .int .i64 te])
 f9 : Had L 9 (v 56 = .agg #[.int .i64 tn, .int .i64 td])
 f10 : Had L 10 (v 57 = .int .i64 te)
 f11 : Had L 11 (v 58 = .pointer (some ⟨ab, k * 2, none⟩))
 s1 : Had L 12 (∃ W2, Below Wc.heap.size Wc W2 ∧ W = (W2.setCell ⟨ab, k * 2, none⟩ (.int .i64 tn)).setCell ⟨ab, k * 2 + 1, none⟩ (.int .i64 td))
 f13 : Had L 13 (v 12 = .int .i64 te)
 w4 : Had L 4 (∀ j ∈ [2, 3], L j = true)
 w5 : Had L 5 (∀ j ∈ [4], L j = true)
 w7 : Had L 7 (∀ j ∈ [5, 6], L j = true)
 w8 : Had L 8 (∀ j ∈ [7], L j = true)
 w9 : Had L 9 (∀ j ∈ [8], L j = true)
 w10 : Had L 10 (∀ j ∈ [8], L j = true)
 w11 : Had L 11 (∀ j ∈ [0, 1], L j = true)
 w12 : Had L 12 (∀ j ∈ [0, 1, 2, 3, 4, 5, 6, 7, 8, 9, 11], L j = true)
 w13 : Had L 13 (∀ j ∈ [10], L j = true)

theorem vld_one {z : Int} (h : -1073741824 ≤ z ∧ z ≤ 1073741824) : Vld z 1 := ⟨by decide, by decide, by omega, by omega, by simp [Int.gcd]⟩
/-- The sums of the first k lists. -/
def outF (Z : Nat → Nat → Int) (Ln : Nat → Nat) (X : Nat → Int × Int) (k : Nat) : Nat → Int × Int := fun l => if l < k then ((comS (Z l) X (Ln l)).1, (comS (Z l) X (Ln l)).2.1) else (0, 0)
/-- Lists of numbers that are read. -/
structure LsI (W : World) (la : Option Addr) (Kn : Nat) (La : Nat → Option Addr) (Ln Kc : Nat → Nat) (Z : Nat → Nat → Int) : Prop where
 top : 0 < Kn → ∃ g o, la = some ⟨g, o, none⟩ ∧ g < W.heap.size ∧ ∀ k, k < Kn → W.cell? ⟨g, o + k, none⟩ = some (.slice (La k) (Ln k) (Kc k))
 row : ∀ k, k < Kn → IRow W (La k) (Ln k) (Z k)

set_option maxRecDepth 100000 in
set_option maxHeartbeats 16000000 in
theorem sums_any (la : Option Addr) (Kn lc : Nat) (La : Nat → Option Addr) (Ln Kc : Nat → Nat) (Z : Nat → Nat → Int) (xa : Option Addr) (N xc : Nat) (X : Nat → Int × Int) (w : World) (hl : LsI w la Kn La Ln Kc Z) (hx : IFr w xa N X)
  (hln : ∀ k, k < Kn → Ln k ≤ N) (hN : N ≤ 1000) (hK : Kn ≤ 1000) (hv : ∀ j, j < N → Vld (X j).1 (X j).2) (hz : ∀ k, k < Kn → ∀ j, j < Ln k → -1073741824 ≤ Z k j ∧ Z k j ≤ 1073741824) :
  Calls Tryz.prog 68 #[.slice la Kn lc, .slice xa N xc] w fun e w' => Below w.heap.size w w' ∧
   ((∃ ab, e = .returned (.tuple #[.slice (some ⟨ab, 0, none⟩) Kn Kn, .int .i64 0]) ∧ w.heap.size ≤ ab ∧ FrX w' ab Kn (outF Z Ln X Kn) ∧ ∀ k, k < Kn → (comS (Z k) X (Ln k)).2.2 = 0) ∨
    (e = .returned (.tuple #[.slice none 0 0, .int .i64 5]) ∧ ∃ k, k < Kn ∧ comS (Z k) X (Ln k) = (0, 0, 5))) := by
 have HL := Lib.hid hl
 have HX := Lib.hid hx
 have HLN := Lib.hid hln
 have HV := Lib.hid hv
 have HZ := Lib.hid hz
 clear hl hx hln hv hz
 obtain ⟨i0, hi0, hz0, hz1, hz2⟩ := info_parts (show (Tryz.prog.info? 27).map (fun i => (i.zero, i.size, i.bytes)) = some (some (Value.agg #[Value.int IntKind.i64 0, Value.int IntKind.i64 0]), 2, 16) by kernel_rfl)
 go_enter Tryz.func68, Tryz.ntmps68
 go_upto_region 2 with (refine wpList_make_full _ rfl _ _ 28 rfl w.heap.size 27 i0 (Value.agg #[Value.int IntKind.i64 0, Value.int IntKind.i64 0]) 2 Tryz.underlying28 hi0 hz0 hz1 _ _ _ _ Kn rfl rfl rfl rfl (by rw [hz2]; omega) (by unfold maxLen; omega) (Nat.le_refl _) ?_; intro w1 ho hg)
 have hb6 : Below w.heap.size w w1 := ⟨hg.os, hg.tape, hg.output, hg.size, fun k hk => hg.block k hk (by simp)⟩
 obtain ⟨ab, hab⟩ : ∃ x, x = w.heap.size := ⟨_, rfl⟩
 have F0 := FrX.made0 ho
 rw [← hab] at F0
 rw [← hab]
 have S0 : Hid (FrX w1 ab Kn (outF Z Ln X 0) ∧ Below w.heap.size w w1 ∧ ∀ l, l < 0 → (comS (Z l) X (Ln l)).2.2 = 0) := ⟨F0.congr fun l _ => if_neg (by omega), hb6, fun l h => by omega⟩
 have HAB : Hid (w.heap.size ≤ ab) := by show _ ≤ _; rw [hab]; exact Nat.le_refl _
 clear ho hg hb6 F0 hab hi0 hz0 hz1 hz2 i0
 go_wp2_with fail
 go_loopg [18] Kn (fun g s18 wx => ∃ k : Nat, s18 = .int .i64 k ∧ g = Kn - k ∧ k ≤ Kn ∧ Hid (FrX wx ab Kn (outF Z Ln X k) ∧ Below w.heap.size w wx ∧ ∀ l, l < k → (comS (Z l) X (Ln l)).2.2 = 0))
 case atStart => exact ⟨0, rfl, rfl, Nat.zero_le _, S0⟩
 case round =>
  clear S0
  obtain ⟨k, rfl, rfl, hk, S⟩ := hrel
  rename World => W2
  by_cases hlt : k < Kn
  ·have wk : IntKind.i64.wrap ((k : Int) + 1) = ((k + 1 : Nat) : Int) := by rw [IntWalk.i64_in _ (by omega)]; omega
   obtain ⟨lg, lo, el, hlg, hrows⟩ := HL.out.top (by omega)
   have p1 := (S.out.2.1.cell (p := ⟨lg, lo + k, none⟩) hlg).trans (hrows k hlt)
   rw [el]
   have CW := Lib.hid (whole_any 0 W2)
   go_wp2_with fail
   (with_reducible refine ((CW.out).mono ?_))
   rintro e w7 ⟨rfl, hb7⟩
   have S7 := Lib.hid (And.intro (S.out.1.on hb7) (And.intro (below_on S.out.2.1 hb7) S.out.2.2))
   clear S hb7 CW p1 hrows
   have x0 := S7.out.1.c0 k hlt
   have x1 := S7.out.1.c1 k hlt
   have y0 := S7.out.1.f0 k hlt
   have y1 := S7.out.1.f1 k hlt
   have S8 : Hid (FrX ((w7.setCell ⟨ab, k * 2, none⟩ (.int .i64 0)).setCell ⟨ab, k * 2 + 1, none⟩ (.int .i64 1)) ab Kn (updF (outF Z Ln X k) k ((comS (Z k) X 0).1, (comS (Z k) X 0).2.1)) ∧ Below w.heap.size w ((w7.setCell ⟨ab, k * 2, none⟩ (.int .i64 0)).setCell ⟨ab, k * 2 + 1, none⟩ (.int .i64 1)) ∧ (∀ l, l < k → (comS (Z l) X (Ln l)).2.2 = 0) ∧ (comS (Z k) X 0).2.2 = 0 ∧ Vld (comS (Z k) X 0).1 (comS (Z k) X 0).2.1) :=
    ⟨S7.out.1.set k hlt 0 1, (S7.out.2.1.setCell HAB.out _).setCell HAB.out _, S7.out.2.2, rfl, (show Vld 0 1 from ⟨by decide, by decide, by decide, by decide, by decide⟩)⟩
   go_upto_region 6 with fail
   clear x0 x1 y0 y1 S7
   generalize (w7.setCell ⟨ab, k * 2, none⟩ (.int .i64 0)).setCell ⟨ab, k * 2 + 1, none⟩ (.int .i64 1) = W8 at *
   have hLk := HLN.out k hlt
   go_wp2_with fail
   go_loopg [29] (Ln k) (fun g s29 wx => ∃ j : Nat, s29 = .int .i64 j ∧ g = Ln k - j ∧ j ≤ Ln k ∧ Hid (FrX wx ab Kn (updF (outF Z Ln X k) k ((comS (Z k) X j).1, (comS (Z k) X j).2.1)) ∧ Below w.heap.size w wx ∧ (∀ l, l < k → (comS (Z l) X (Ln l)).2.2 = 0) ∧ (comS (Z k) X j).2.2 = 0 ∧ Vld (comS (Z k) X j).1 (comS (Z k) X j).2.1))
   case atStart => exact ⟨0, rfl, rfl, Nat.zero_le _, S8⟩
   case round =>
    clear S8
    obtain ⟨j, rfl, rfl, hj, S⟩ := hrel
    rename World => W4
    by_cases hjl : j < Ln k
    ·have wkj : IntKind.i64.wrap ((j : Int) + 1) = ((j + 1 : Nat) : Int) := by rw [IntWalk.i64_in _ (by omega)]; omega
     obtain ⟨rg, ro, er, hrg, hrow⟩ := HL.out.row k hlt (by omega)
     obtain ⟨xg, xo, ex, hxg, hxr⟩ := HX.out (by omega)
     have p1 := (S.out.2.1.cell (p := ⟨rg, ro + j, none⟩) hrg).trans (hrow j hjl)
     have hfj := HZ.out k hlt j hjl
     have vx := HV.out j (by omega)
     have LX0 : Hid (W4.cell? ⟨xg, xo + j * 2, none⟩ = some (.int .i64 (X j).1) ∧ xg < W4.heap.size) := ⟨(S.out.2.1.cell (p := ⟨xg, xo + j * 2, none⟩) hxg).trans (hxr j (by omega)).1, Nat.lt_of_lt_of_le hxg S.out.2.1.size⟩
     have LX1 : Hid (W4.cell? ⟨xg, xo + j * 2 + 1, none⟩ = some (.int .i64 (X j).2) ∧ xg < W4.heap.size) := ⟨(S.out.2.1.cell (p := ⟨xg, xo + j * 2 + 1, none⟩) hxg).trans (hxr j (by omega)).2, Nat.lt_of_lt_of_le hxg S.out.2.1.size⟩
     clear hrow hxr
     have hstep : comS (Z k) X (j + 1) = if (mulT (Z k j) 1 (X j).1 (X j).2).2.2 = 0 then addT (comS (Z k) X j).1 (comS (Z k) X j).2.1 (mulT (Z k j) 1 (X j).1 (X j).2).1 (mulT (Z k j) 1 (X j).1 (X j).2).2.1 else mulT (Z k j) 1 (X j).1 (X j).2 := by
      rw [comS, if_pos S.out.2.2.2.1]
     have HEND := Lib.hid (fun (h : (comS (Z k) X (j + 1)).2.2 ≠ 0) => comS_end (f := Z k) (X := X) (n := Ln k) h (by omega))
     have HST := Lib.hid hstep
     have S2 := S.out
     clear S hstep
     have hst := HST.out
     clear HST
     obtain ⟨sn, sd, se, hs⟩ : ∃ a b c, comS (Z k) X j = (a, b, c) := ⟨_, _, _, rfl⟩
     rw [hs] at S2 hst
     obtain ⟨sC, sB, sL, rfl, vs⟩ := S2
     simp only at sC vs hst
     clear hs
     have HC := Lib.hid (And.intro sC (And.intro sB sL))
     clear sC sB sL
     obtain ⟨qn, qd, qe, hq⟩ : ∃ a b c, mulT (Z k j) 1 (X j).1 (X j).2 = (a, b, c) := ⟨_, _, _, rfl⟩
     rw [hq] at hst
     simp only at hst
     have v1 := vx.d1
     have v2 := vx.d2
     have v3 := vx.n1
     have v4 := vx.n2
     have CM := fun W => Lib.hid (Mul_any (Z k j) 1 (X j).1 (X j).2 W (by omega) (by omega) (by omega) (by omega) (by omega) (by omega) (by omega) (by omega) qn qd qe hq)
     have hmo := mulT_ok (vld_one (HZ.out k hlt j hjl)) vx
     have hmc := mulT_cases (Z k j) 1 (X j).1 (X j).2
     rw [hq] at hmc hmo
     generalize (X j).1 = xn at *
     generalize (X j).2 = xd at *
     obtain ⟨fj, hfjd⟩ : ∃ x, Z k j = x := ⟨_, rfl⟩
     rw [hfjd] at p1 hfj CM hmc
     have HST := Lib.hid hst
     have HMC := Lib.hid (And.intro hmc hmo)
     have HVS := Lib.hid vs
     clear hst hmc vs vx v1 v2 v3 v4 hq hmo hfjd
     rw [er, ex]
     have l1 : (j : Int) < (N : Int) := by omega
     go_upto_region 9 with fail
     clear p1
     refine wp_region_each (fun L A W => ∃ (v : Nat → Value), A = ⟨#[_, _, _, _, _, _, _, _, _, _, _, v 11, v 12, _, _, _, _, _, _, _, _, _, _, _, _, _, _, _, _, _, _, _, _, _, v 34, v 35, v 36, v 37, v 38, v 39, v 40, v 41, v 42, v 43, _, _, _, _, _, _, _, _, _, _, _, _, _, _, _, _, _, _, _, _, _], []⟩ ∧ SuAR xg xo xc N j fj xn xd qn qd qe W4 L v W) (by kernel_rfl) (by kernel_rfl) ⟨fun jz => if jz = 35 then u35 else if jz = 36 then u36 else if jz = 37 then u37 else if jz = 38 then u38 else if jz = 39 then u39 else if jz = 40 then u40 else if jz = 41 then u41 else if jz = 34 then u34 else if jz = 42 then u42 else if jz = 43 then u43 else if jz = 11 then u11 else if jz = 12 then u12 else undef, rfl, ⟨Below.drew (Below.refl _ _), Had.none, Had.none, Had.none, Had.none, Had.none, Had.none, Had.none, Had.none, Had.none, Had.none, Had.none, Had.none, Had.none, Had.none, Had.none, Had.none, Had.none, Had.none, Had.none, Had.none, Had.none, Had.none⟩⟩ (rs := [0, 1, 2, 3, 4, 5, 6, 7, 8, 9, 10, 11, 12]) (by kernel_rfl) ?_ ?_
     ·refine EachOf.cons [] rfl (by kernel_rfl) ?_ ?_
      ·rintro L A W ⟨v, rfl, hR⟩ hi hw K hK
       go_simp
       refine hK.out _ _ ?_
       exact ⟨(fun jz => if jz = 35 then .int .i64 fj else v jz), rfl, ⟨hR.st, (fun _ => rfl), hR.f1.k, hR.f2.k, hR.f3.k, hR.f4.k, hR.f5.k, hR.f6.k, hR.f7.k, hR.f8.k, hR.f9.k, hR.x10.k, hR.x11.k, hR.f12.k, hR.w1.o, hR.w4.o, hR.w5.o, hR.w6.o, hR.w7.o, hR.w8.o, hR.w9.o, hR.w11.o, hR.w12.o⟩⟩
      refine EachOf.cons [0] rfl (by kernel_rfl) ?_ ?_
      ·rintro L A W ⟨v, rfl, hR⟩ hi hw K hK
       have hk11 : L 11 = false := hR.w11.not (hR.w8.not (hR.w7.not (hR.w6.not hi rfl) rfl) rfl) rfl
       have e0 := hR.f0 (hw 0 (by simp))
       simp only [e0]
       clear e0
       go_simp
       go_at_call 94
       (with_reducible refine (((Lib.hid (whole_any fj W))).out.mono ?_))
       rintro e w2 ⟨rfl, hb⟩
       go_simp
       refine hK.out _ _ ?_
       exact ⟨(fun jz => if jz = 35 then .int .i64 fj else if jz = 36 then .agg #[.int .i64 fj, .int .i64 1] else v jz), rfl, ⟨below_on hR.st hb, (fun _ => rfl), (fun _ => rfl), hR.f2.k, hR.f3.k, hR.f4.k, hR.f5.k, hR.f6.k, hR.f7.k, hR.f8.k, hR.f9.k, hR.x10.keepM rfl (fun h => by obtain ⟨g, e, r⟩ := h; exact ⟨g, e, r.on hb⟩), hR.x11.keepM rfl (fun h => by obtain ⟨g, e, r, u⟩ := h; exact ⟨g, e, r.on hb, u.on hb⟩), hR.f12.k, (fun _ j hj => upd_on (hw j hj)), hR.w4.o, hR.w5.o, hR.w6.o, hR.w7.o, hR.w8.o, hR.w9.o, hR.w11.o, hR.w12.o⟩⟩
      refine EachOf.cons [] rfl (by kernel_rfl) ?_ ?_
      ·rintro L A W ⟨v, rfl, hR⟩ hi hw K hK
       go_simp
       refine hK.out _ _ ?_
       exact ⟨(fun jz => if jz = 37 then .slice (some ⟨xg, xo, none⟩) (N) (xc) else v jz), rfl, ⟨hR.st, hR.f0.k, hR.f1.k, (fun _ => rfl), hR.f3.k, hR.f4.k, hR.f5.k, hR.f6.k, hR.f7.k, hR.f8.k, hR.f9.k, hR.x10.k, hR.x11.k, hR.f12.k, hR.w1.o, hR.w4.o, hR.w5.o, hR.w6.o, hR.w7.o, hR.w8.o, hR.w9.o, hR.w11.o, hR.w12.o⟩⟩
      refine EachOf.cons [] rfl (by kernel_rfl) ?_ ?_
      ·rintro L A W ⟨v, rfl, hR⟩ hi hw K hK
       go_simp
       refine hK.out _ _ ?_
       exact ⟨(fun jz => if jz = 38 then .int .i64 (j : Int) else v jz), rfl, ⟨hR.st, hR.f0.k, hR.f1.k, hR.f2.k, (fun _ => rfl), hR.f4.k, hR.f5.k, hR.f6.k, hR.f7.k, hR.f8.k, hR.f9.k, hR.x10.k, hR.x11.k, hR.f12.k, hR.w1.o, hR.w4.o, hR.w5.o, hR.w6.o, hR.w7.o, hR.w8.o, hR.w9.o, hR.w11.o, hR.w12.o⟩⟩
      refine EachOf.cons [2, 3] rfl (by kernel_rfl) ?_ ?_
      ·rintro L A W ⟨v, rfl, hR⟩ hi hw K hK
       have e2 := hR.f2 (hw 2 (by simp))
       have e3 := hR.f3 (hw 3 (by simp))
       simp only [e2, e3]
       clear e2 e3
       go_simp
       refine hK.out _ _ ?_
       exact ⟨(fun jz => if jz = 37 then .slice (some ⟨xg, xo, none⟩) (N) (xc) else if jz = 38 then .int .i64 (j : Int) else if jz = 39 then .pointer (some ⟨xg, xo + j * 2, none⟩) else v jz), rfl, ⟨hR.st, hR.f0.k, hR.f1.k, (fun _ => rfl), (fun _ => rfl), (fun _ => rfl), hR.f5.k, hR.f6.k, hR.f7.k, hR.f8.k, hR.f9.k, hR.x10.k, hR.x11.k, hR.f12.k, hR.w1.o, (fun _ j hj => upd_on (hw j hj)), hR.w5.o, hR.w6.o, hR.w7.o, hR.w8.o, hR.w9.o, hR.w11.o, hR.w12.o⟩⟩
      refine EachOf.cons [4] rfl (by kernel_rfl) ?_ ?_
      ·rintro L A W ⟨v, rfl, hR⟩ hi hw K hK
       have e4 := hR.f4 (hw 4 (by simp))
       simp only [e4]
       clear e4
       have q0 := (hR.st.cell (p := ⟨xg, xo + j * 2, none⟩) LX0.out.2).trans LX0.out.1
       have q1 := (hR.st.cell (p := ⟨xg, xo + j * 2 + 1, none⟩) LX1.out.2).trans LX1.out.1
       go_simp
       refine hK.out _ _ ?_
       exact ⟨(fun jz => if jz = 39 then .pointer (some ⟨xg, xo + j * 2, none⟩) else if jz = 40 then .agg #[.int .i64 xn, .int .i64 xd] else v jz), rfl, ⟨hR.st, hR.f0.k, hR.f1.k, hR.f2.k, hR.f3.k, (fun _ => rfl), (fun _ => rfl), hR.f6.k, hR.f7.k, hR.f8.k, hR.f9.k, hR.x10.k, hR.x11.k, hR.f12.k, hR.w1.o, hR.w4.o, (fun _ j hj => upd_on (hw j hj)), hR.w6.o, hR.w7.o, hR.w8.o, hR.w9.o, hR.w11.o, hR.w12.o⟩⟩
      refine EachOf.cons [1, 5] rfl (by kernel_rfl) ?_ ?_
      ·rintro L A W ⟨v, rfl, hR⟩ hi hw K hK
       have hk11 : L 11 = false := hR.w11.not (hR.w8.not (hR.w7.not hi rfl) rfl) rfl
       have e1 := hR.f1 (hw 1 (by simp))
       have e5 := hR.f5 (hw 5 (by simp))
       simp only [e1, e5]
       clear e1 e5
       go_simp
       go_at_call 101
       (with_reducible refine (((CM W)).out.mono ?_))
       rintro e w2 ⟨rfl, hb⟩
       go_simp
       refine hK.out _ _ ?_
       exact ⟨(fun jz => if jz = 36 then .agg #[.int .i64 fj, .int .i64 1] else if jz = 40 then .agg #[.int .i64 xn, .int .i64 xd] else if jz = 41 then .tuple #[.agg #[.int .i64 qn, .int .i64 qd], .int .i64 qe] else v jz), rfl, ⟨below_on hR.st hb, hR.f0.k, (fun _ => rfl), hR.f2.k, hR.f3.k, hR.f4.k, (fun _ => rfl), (fun _ => rfl), hR.f7.k, hR.f8.k, hR.f9.k, hR.x10.keepM rfl (fun h => by obtain ⟨g, e, r⟩ := h; exact ⟨g, e, r.on hb⟩), hR.x11.keepM rfl (fun h => by obtain ⟨g, e, r, u⟩ := h; exact ⟨g, e, r.on hb, u.on hb⟩), hR.f12.k, hR.w1.o, hR.w4.o, hR.w5.o, (fun _ j hj => upd_on (hw j hj)), hR.w7.o, hR.w8.o, hR.w9.o, hR.w11.o, hR.w12.o⟩⟩
      refine EachOf.cons [6] rfl (by kernel_rfl) ?_ ?_
      ·rintro L A W ⟨v, rfl, hR⟩ hi hw K hK
       have e6 := hR.f6 (hw 6 (by simp))
       simp only [e6]
       clear e6
       go_simp
       refine hK.out _ _ ?_
       exact ⟨(fun jz => if jz = 41 then .tuple #[.agg #[.int .i64 qn, .int .i64 qd], .int .i64 qe] else if jz = 34 then .tuple #[.agg #[.int .i64 qn, .int .i64 qd], .int .i64 qe] else v jz), rfl, ⟨hR.st, hR.f0.k, hR.f1.k, hR.f2.k, hR.f3.k, hR.f4.k, hR.f5.k, (fun _ => rfl), (fun _ => rfl), hR.f8.k, hR.f9.k, hR.x10.k, hR.x11.k, hR.f12.k, hR.w1.o, hR.w4.o, hR.w5.o, hR.w6.o, (fun _ j hj => upd_on (hw j hj)), hR.w8.o, hR.w9.o, hR.w11.o, hR.w12.o⟩⟩
      refine EachOf.cons [7] rfl (by kernel_rfl) ?_ ?_
      ·rintro L A W ⟨v, rfl, hR⟩ hi hw K hK
       have e7 := hR.f7 (hw 7 (by simp))
       simp only [e7]
       clear e7
       go_simp
       refine hK.out _ _ ?_
       exact ⟨(fun jz => if jz = 34 then .tuple #[.agg #[.int .i64 qn, .int .i64 qd], .int .i64 qe] else if jz = 42 then .agg #[.int .i64 qn, .int .i64 qd] else v jz), rfl, ⟨hR.st, hR.f0.k, hR.f1.k, hR.f2.k, hR.f3.k, hR.f4.k, hR.f5.k, hR.f6.k, (fun _ => rfl), (fun _ => rfl), hR.f9.k, hR.x10.k, hR.x11.k, hR.f12.k, hR.w1.o, hR.w4.o, hR.w5.o, hR.w6.o, hR.w7.o, (fun _ j hj => upd_on (hw j hj)), hR.w9.o, hR.w11.o, hR.w12.o⟩⟩
      refine EachOf.cons [7] rfl (by kernel_rfl) ?_ ?_
      ·rintro L A W ⟨v, rfl, hR⟩ hi hw K hK
       have e7 := hR.f7 (hw 7 (by simp))
       simp only [e7]
       clear e7
       go_simp
       refine hK.out _ _ ?_
       exact ⟨(fun jz => if jz = 34 then .tuple #[.agg #[.int .i64 qn, .int .i64 qd], .int .i64 qe] else if jz = 43 then .int .i64 qe else v jz), rfl, ⟨hR.st, hR.f0.k, hR.f1.k, hR.f2.k, hR.f3.k, hR.f4.k, hR.f5.k, hR.f6.k, (fun _ => rfl), hR.f8.k, (fun _ => rfl), hR.x10.k, hR.x11.k, hR.f12.k, hR.w1.o, hR.w4.o, hR.w5.o, hR.w6.o, hR.w7.o, hR.w8.o, (fun _ j hj => upd_on (hw j hj)), hR.w11.o, hR.w12.o⟩⟩
      refine EachOf.cons [] rfl (by kernel_rfl) ?_ ?_
      ·rintro L A W ⟨v, rfl, hR⟩ hi hw K hK
       have hk11 : L 11 = false := hR.w11.not hi rfl
       have hb : Below W.heap.size W (W.alloc _) := (Below.refl _ _).alloc (Nat.le_refl _) (Obj.cells #[Value.int IntKind.i64 0, Value.int IntKind.i64 0] 27)
       go_simp
       refine hK.out _ _ ?_
       exact ⟨(fun jz => if jz = 11 then .pointer (some ⟨W.heap.size, 0, none⟩) else v jz), rfl, ⟨below_on hR.st hb, hR.f0.k, hR.f1.k, hR.f2.k, hR.f3.k, hR.f4.k, hR.f5.k, hR.f6.k, hR.f7.k, hR.f8.k, hR.f9.k, (fun _ => ⟨W.heap.size, rfl, Own.new _ _ _ _ hR.st.size⟩), (fun h => absurd (upd_back h rfl) (by simp [hk11])), hR.f12.k, hR.w1.o, hR.w4.o, hR.w5.o, hR.w6.o, hR.w7.o, hR.w8.o, hR.w9.o, hR.w11.o, hR.w12.o⟩⟩
      refine EachOf.cons [8, 10] rfl (by kernel_rfl) ?_ ?_
      ·rintro L A W ⟨v, rfl, hR⟩ hi hw K hK
       have e8 := hR.f8 (hw 8 (by simp))
       simp only [e8]
       clear e8
       obtain ⟨B10, e10, hB10⟩ := hR.x10 (hw 10 (by simp))
       simp only [e10]
       have o1 := hB10.1
       obtain ⟨y0, y1, q1, q2, q3, q4⟩ := hB10.facts
       go_simp
       refine hK.out _ _ ?_
       exact ⟨(fun jz => if jz = 42 then .agg #[.int .i64 qn, .int .i64 qd] else if jz = 11 then .pointer (some ⟨B10, 0, none⟩) else v jz), rfl, ⟨(hR.st.setCell (by simpa using o1) _).setCell (by simpa using o1) _, hR.f0.k, hR.f1.k, hR.f2.k, hR.f3.k, hR.f4.k, hR.f5.k, hR.f6.k, hR.f7.k, (fun _ => rfl), hR.f9.k, (fun _ => ⟨B10, rfl, hB10.set⟩), (fun _ => ⟨B10, rfl, hB10.set, hB10.setw⟩), hR.f12.k, hR.w1.o, hR.w4.o, hR.w5.o, hR.w6.o, hR.w7.o, hR.w8.o, hR.w9.o, (fun _ j hj => upd_on (hw j hj)), hR.w12.o⟩⟩
      refine EachOf.cons [9] rfl (by kernel_rfl) ?_ ?_
      ·rintro L A W ⟨v, rfl, hR⟩ hi hw K hK
       have e9 := hR.f9 (hw 9 (by simp))
       simp only [e9]
       clear e9
       go_simp
       refine hK.out _ _ ?_
       exact ⟨(fun jz => if jz = 43 then .int .i64 qe else if jz = 12 then .int .i64 qe else v jz), rfl, ⟨hR.st, hR.f0.k, hR.f1.k, hR.f2.k, hR.f3.k, hR.f4.k, hR.f5.k, hR.f6.k, hR.f7.k, hR.f8.k, (fun _ => rfl), hR.x10.k, hR.x11.k, (fun _ => rfl), hR.w1.o, hR.w4.o, hR.w5.o, hR.w6.o, hR.w7.o, hR.w8.o, hR.w9.o, hR.w11.o, (fun _ j hj => upd_on (hw j hj))⟩⟩
      exact EachOf.nil
     rintro L A W ⟨v, rfl, hR⟩ hL
     have e12 := hR.f12 (hL 12 (by simp))
     obtain ⟨tb, e11, hto, htb⟩ := hR.x11 (hL 11 (by simp))
     have hb5 := hR.st
     simp only [e12, e11]
     have HC5 := Lib.hid (And.intro (HC.out.1.on hb5) (And.intro (below_on HC.out.2.1 hb5) HC.out.2.2))
     have HTB := Lib.hid htb
     clear e12 e11 hto htb hb5 hR hL HC CM LX0 LX1
     rename World => W5
     have done_ : True := trivial
     rcases HMC.out.1 with ⟨n', d', e1, _, _, vq, _⟩ | ⟨e', e1, hne, _⟩
     ·obtain ⟨rfl, rfl, rfl⟩ := three e1
      have hst := HST.out
      rw [if_pos rfl] at hst
      have hao := addT_ok HVS.out vq
      obtain ⟨tn, td, te, ht⟩ : ∃ a b c, addT sn sd qn qd = (a, b, c) := ⟨_, _, _, rfl⟩
      rw [ht] at hst hao
      have v1 := vq.d1
      have v2 := vq.d2
      have v3 := vq.n1
      have v4 := vq.n2
      have u1 := HVS.out.d1
      have u2 := HVS.out.d2
      have u3 := HVS.out.n1
      have u4 := HVS.out.n2
      have CA := fun W => Lib.hid (Add_any sn sd qn qd W (by omega) (by omega) (by omega) (by omega) (by omega) (by omega) (by omega) (by omega) tn td te ht)
      have hac := addT_cases sn sd qn qd
      rw [ht] at hac
      have HST2 := Lib.hid hst
      have HAC := Lib.hid (And.intro hac hao)
      have LA0 : Hid (W5.cell? ⟨ab, k * 2, none⟩ = some (.int .i64 sn) ∧ ab < W5.heap.size) := ⟨by
       have := HC5.out.1.c0 k hlt
       unfold updF at this
       rwa [if_pos rfl] at this, HC5.out.1.hb⟩
      have LA1 : Hid (W5.cell? ⟨ab, k * 2 + 1, none⟩ = some (.int .i64 sd) ∧ ab < W5.heap.size) := ⟨by
       have := HC5.out.1.c1 k hlt
       unfold updF at this
       rwa [if_pos rfl] at this, HC5.out.1.hb⟩
      have LF : Hid (W5.frozen? ⟨ab, k * 2, none⟩ = false ∧ W5.frozen? ⟨ab, k * 2 + 1, none⟩ = false) := ⟨HC5.out.1.f0 k hlt, HC5.out.1.f1 k hlt⟩
      have LT0 : Hid (W5.cell? ⟨tb, 0, none⟩ = some (.int .i64 qn) ∧ tb < W5.heap.size) := ⟨HTB.out.2.1, HTB.out.1⟩
      have LT1 : Hid (W5.cell? ⟨tb, 1, none⟩ = some (.int .i64 qd) ∧ tb < W5.heap.size) := ⟨HTB.out.2.2, HTB.out.1⟩
      clear hst hac ht v1 v2 v3 v4 u1 u2 u3 u4 vq HST HMC e1 hao HTB
      have l2 : (k : Int) < (Kn : Int) := by omega
      go_upto_region 12 with fail
      refine wp_region_each (fun L A W => ∃ (v : Nat → Value), A = ⟨#[_, _, _, _, _, _, _, _, _, _, _, _, v 12, _, _, _, _, _, _, _, _, _, _, _, _, _, _, _, _, _, _, _, _, _, _, _, _, _, _, _, _, _, _, _, _, _, _, v 47, v 48, v 49, v 50, v 51, v 52, v 53, v 54, v 55, v 56, v 57, v 58, _, _, _, _, _, _], []⟩ ∧ SuBR ab Kn k tb sn sd qn qd tn td te W5 L v W) (by kernel_rfl) (by kernel_rfl) ⟨fun jz => if jz = 48 then u48 else if jz = 49 then u49 else if jz = 50 then u50 else if jz = 51 then u51 else if jz = 52 then u52 else if jz = 53 then u53 else if jz = 54 then u54 else if jz = 55 then u55 else if jz = 47 then u47 else if jz = 56 then u56 else if jz = 57 then u57 else if jz = 58 then u58 else if jz = 12 then .int .i64 0 else undef, rfl, ⟨(fun _ => Below.drew (Below.refl _ _)), Had.none, Had.none, Had.none, Had.none, Had.none, Had.none, Had.none, Had.none, Had.none, Had.none, Had.none, Had.none, Had.none, Had.none, Had.none, Had.none, Had.none, Had.none, Had.none, Had.none, Had.none, Had.none, Had.none⟩⟩ (rs := [0, 1, 2, 3, 4, 5, 6, 7, 8, 9, 10, 11, 12, 13]) (by kernel_rfl) ?_ ?_
      ·refine EachOf.cons [] rfl (by kernel_rfl) ?_ ?_
       ·rintro L A W ⟨v, rfl, hR⟩ hi hw K hK
        have hk : L 12 = false := hR.w12.not hi rfl
        go_simp
        refine hK.out _ _ ?_
        exact ⟨(fun jz => if jz = 48 then .slice (some ⟨ab, 0, none⟩) (Kn) (Kn) else v jz), rfl, ⟨(fun h => hR.st (upd_false h)), (fun _ => rfl), hR.f1.k, hR.f2.k, hR.f3.k, hR.f4.k, hR.f5.k, hR.f6.k, hR.f7.k, hR.f8.k, hR.f9.k, hR.f10.k, hR.f11.k, hR.s1.k, hR.f13.k, hR.w4.o, hR.w5.o, hR.w7.o, hR.w8.o, hR.w9.o, hR.w10.o, hR.w11.o, hR.w12.o, hR.w13.o⟩⟩
       refine EachOf.cons [] rfl (by kernel_rfl) ?_ ?_
       ·rintro L A W ⟨v, rfl, hR⟩ hi hw K hK
        have hk : L 12 = false := hR.w12.not hi rfl
        go_simp
        refine hK.out _ _ ?_
        exact ⟨(fun jz => if jz = 49 then .int .i64 (k : Int) else v jz), rfl, ⟨(fun h => hR.st (upd_false h)), hR.f0.k, (fun _ => rfl), hR.f2.k, hR.f3.k, hR.f4.k, hR.f5.k, hR.f6.k, hR.f7.k, hR.f8.k, hR.f9.k, hR.f10.k, hR.f11.k, hR.s1.k, hR.f13.k, hR.w4.o, hR.w5.o, hR.w7.o, hR.w8.o, hR.w9.o, hR.w10.o, hR.w11.o, hR.w12.o, hR.w13.o⟩⟩
       refine EachOf.cons [] rfl (by kernel_rfl) ?_ ?_
       ·rintro L A W ⟨v, rfl, hR⟩ hi hw K hK
        have hk : L 12 = false := hR.w12.not hi rfl
        go_simp
        refine hK.out _ _ ?_
        exact ⟨(fun jz => if jz = 50 then .slice (some ⟨ab, 0, none⟩) (Kn) (Kn) else v jz), rfl, ⟨(fun h => hR.st (upd_false h)), hR.f0.k, hR.f1.k, (fun _ => rfl), hR.f3.k, hR.f4.k, hR.f5.k, hR.f6.k, hR.f7.k, hR.f8.k, hR.f9.k, hR.f10.k, hR.f11.k, hR.s1.k, hR.f13.k, hR.w4.o, hR.w5.o, hR.w7.o, hR.w8.o, hR.w9.o, hR.w10.o, hR.w11.o, hR.w12.o, hR.w13.o⟩⟩
       refine EachOf.cons [] rfl (by kernel_rfl) ?_ ?_
       ·rintro L A W ⟨v, rfl, hR⟩ hi hw K hK
        have hk : L 12 = false := hR.w12.not hi rfl
        go_simp
        refine hK.out _ _ ?_
        exact ⟨(fun jz => if jz = 51 then .int .i64 (k : Int) else v jz), rfl, ⟨(fun h => hR.st (upd_false h)), hR.f0.k, hR.f1.k, hR.f2.k, (fun _ => rfl), hR.f4.k, hR.f5.k, hR.f6.k, hR.f7.k, hR.f8.k, hR.f9.k, hR.f10.k, hR.f11.k, hR.s1.k, hR.f13.k, hR.w4.o, hR.w5.o, hR.w7.o, hR.w8.o, hR.w9.o, hR.w10.o, hR.w11.o, hR.w12.o, hR.w13.o⟩⟩
       refine EachOf.cons [2, 3] rfl (by kernel_rfl) ?_ ?_
       ·rintro L A W ⟨v, rfl, hR⟩ hi hw K hK
        have hk : L 12 = false := hR.w12.not hi rfl
        have e2 := hR.f2 (hw 2 (by simp))
        have e3 := hR.f3 (hw 3 (by simp))
        simp only [e2, e3]
        clear e2 e3
        go_simp
        refine hK.out _ _ ?_
        exact ⟨(fun jz => if jz = 50 then .slice (some ⟨ab, 0, none⟩) (Kn) (Kn) else if jz = 51 then .int .i64 (k : Int) else if jz = 52 then .pointer (some ⟨ab, k * 2, none⟩) else v jz), rfl, ⟨(fun h => hR.st (upd_false h)), hR.f0.k, hR.f1.k, (fun _ => rfl), (fun _ => rfl), (fun _ => rfl), hR.f5.k, hR.f6.k, hR.f7.k, hR.f8.k, hR.f9.k, hR.f10.k, hR.f11.k, hR.s1.k, hR.f13.k, (fun _ j hj => upd_on (hw j hj)), hR.w5.o, hR.w7.o, hR.w8.o, hR.w9.o, hR.w10.o, hR.w11.o, hR.w12.o, hR.w13.o⟩⟩
       refine EachOf.cons [4] rfl (by kernel_rfl) ?_ ?_
       ·rintro L A W ⟨v, rfl, hR⟩ hi hw K hK
        have hk : L 12 = false := hR.w12.not hi rfl
        have e4 := hR.f4 (hw 4 (by simp))
        simp only [e4]
        clear e4
        have q0 := ((hR.st hk).cell (p := ⟨ab, k * 2, none⟩) LA0.out.2).trans LA0.out.1
        have q1 := ((hR.st hk).cell (p := ⟨ab, k * 2 + 1, none⟩) LA1.out.2).trans LA1.out.1
        go_simp
        refine hK.out _ _ ?_
        exact ⟨(fun jz => if jz = 52 then .pointer (some ⟨ab, k * 2, none⟩) else if jz = 53 then .agg #[.int .i64 sn, .int .i64 sd] else v jz), rfl, ⟨(fun h => hR.st (upd_false h)), hR.f0.k, hR.f1.k, hR.f2.k, hR.f3.k, (fun _ => rfl), (fun _ => rfl), hR.f6.k, hR.f7.k, hR.f8.k, hR.f9.k, hR.f10.k, hR.f11.k, hR.s1.k, hR.f13.k, hR.w4.o, (fun _ j hj => upd_on (hw j hj)), hR.w7.o, hR.w8.o, hR.w9.o, hR.w10.o, hR.w11.o, hR.w12.o, hR.w13.o⟩⟩
       refine EachOf.cons [] rfl (by kernel_rfl) ?_ ?_
       ·rintro L A W ⟨v, rfl, hR⟩ hi hw K hK
        have hk : L 12 = false := hR.w12.not hi rfl
        have q0 := ((hR.st hk).cell (p := ⟨tb, 0, none⟩) LT0.out.2).trans LT0.out.1
        have q1 := ((hR.st hk).cell (p := ⟨tb, 1, none⟩) LT1.out.2).trans LT1.out.1
        go_simp
        refine hK.out _ _ ?_
        exact ⟨(fun jz => if jz = 54 then .agg #[.int .i64 qn, .int .i64 qd] else v jz), rfl, ⟨(fun h => hR.st (upd_false h)), hR.f0.k, hR.f1.k, hR.f2.k, hR.f3.k, hR.f4.k, hR.f5.k, (fun _ => rfl), hR.f7.k, hR.f8.k, hR.f9.k, hR.f10.k, hR.f11.k, hR.s1.k, hR.f13.k, hR.w4.o, hR.w5.o, hR.w7.o, hR.w8.o, hR.w9.o, hR.w10.o, hR.w11.o, hR.w12.o, hR.w13.o⟩⟩
       refine EachOf.cons [5, 6] rfl (by kernel_rfl) ?_ ?_
       ·rintro L A W ⟨v, rfl, hR⟩ hi hw K hK
        have hk : L 12 = false := hR.w12.not hi rfl
        have e5 := hR.f5 (hw 5 (by simp))
        have e6 := hR.f6 (hw 6 (by simp))
        simp only [e5, e6]
        clear e5 e6
        go_simp
        go_at_call 102
        (with_reducible refine (((CA W)).out.mono ?_))
        rintro e w2 ⟨rfl, hb⟩
        go_simp
        refine hK.out _ _ ?_
        exact ⟨(fun jz => if jz = 53 then .agg #[.int .i64 sn, .int .i64 sd] else if jz = 54 then .agg #[.int .i64 qn, .int .i64 qd] else if jz = 55 then .tuple #[.agg #[.int .i64 tn, .int .i64 td], .int .i64 te] else v jz), rfl, ⟨(fun _ => below_on (hR.st hk) hb), hR.f0.k, hR.f1.k, hR.f2.k, hR.f3.k, hR.f4.k, (fun _ => rfl), (fun _ => rfl), (fun _ => rfl), hR.f8.k, hR.f9.k, hR.f10.k, hR.f11.k, (fun h => absurd (upd_back h rfl) (by simp [hk])), hR.f13.k, hR.w4.o, hR.w5.o, (fun _ j hj => upd_on (hw j hj)), hR.w8.o, hR.w9.o, hR.w10.o, hR.w11.o, hR.w12.o, hR.w13.o⟩⟩
       refine EachOf.cons [7] rfl (by kernel_rfl) ?_ ?_
       ·rintro L A W ⟨v, rfl, hR⟩ hi hw K hK
        have hk : L 12 = false := hR.w12.not hi rfl
        have e7 := hR.f7 (hw 7 (by simp))
        simp only [e7]
        clear e7
        go_simp
        refine hK.out _ _ ?_
        exact ⟨(fun jz => if jz = 55 then .tuple #[.agg #[.int .i64 tn, .int .i64 td], .int .i64 te] else if jz = 47 then .tuple #[.agg #[.int .i64 tn, .int .i64 td], .int .i64 te] else v jz), rfl, ⟨(fun h => hR.st (upd_false h)), hR.f0.k, hR.f1.k, hR.f2.k, hR.f3.k, hR.f4.k, hR.f5.k, hR.f6.k, (fun _ => rfl), (fun _ => rfl), hR.f9.k, hR.f10.k, hR.f11.k, hR.s1.k, hR.f13.k, hR.w4.o, hR.w5.o, hR.w7.o, (fun _ j hj => upd_on (hw j hj)), hR.w9.o, hR.w10.o, hR.w11.o, hR.w12.o, hR.w13.o⟩⟩
       refine EachOf.cons [8] rfl (by kernel_rfl) ?_ ?_
       ·rintro L A W ⟨v, rfl, hR⟩ hi hw K hK
        have hk : L 12 = false := hR.w12.not hi rfl
        have e8 := hR.f8 (hw 8 (by simp))
        simp only [e8]
        clear e8
        go_simp
        refine hK.out _ _ ?_
        exact ⟨(fun jz => if jz = 47 then .tuple #[.agg #[.int .i64 tn, .int .i64 td], .int .i64 te] else if jz = 56 then .agg #[.int .i64 tn, .int .i64 td] else v jz), rfl, ⟨(fun h => hR.st (upd_false h)), hR.f0.k, hR.f1.k, hR.f2.k, hR.f3.k, hR.f4.k, hR.f5.k, hR.f6.k, hR.f7.k, (fun _ => rfl), (fun _ => rfl), hR.f10.k, hR.f11.k, hR.s1.k, hR.f13.k, hR.w4.o, hR.w5.o, hR.w7.o, hR.w8.o, (fun _ j hj => upd_on (hw j hj)), hR.w10.o, hR.w11.o, hR.w12.o, hR.w13.o⟩⟩
       refine EachOf.cons [8] rfl (by kernel_rfl) ?_ ?_
       ·rintro L A W ⟨v, rfl, hR⟩ hi hw K hK
        have e8 := hR.f8 (hw 8 (by simp))
        simp only [e8]
        clear e8
        go_simp
        refine hK.out _ _ ?_
        exact ⟨(fun jz => if jz = 47 then .tuple #[.agg #[.int .i64 tn, .int .i64 td], .int .i64 te] else if jz = 57 then .int .i64 te else v jz), rfl, ⟨(fun h => hR.st (upd_false h)), hR.f0.k, hR.f1.k, hR.f2.k, hR.f3.k, hR.f4.k, hR.f5.k, hR.f6.k, hR.f7.k, (fun _ => rfl), hR.f9.k, (fun _ => rfl), hR.f11.k, hR.s1.k, hR.f13.k, hR.w4.o, hR.w5.o, hR.w7.o, hR.w8.o, hR.w9.o, (fun _ j hj => upd_on (hw j hj)), hR.w11.o, hR.w12.o, hR.w13.o⟩⟩
       refine EachOf.cons [0, 1] rfl (by kernel_rfl) ?_ ?_
       ·rintro L A W ⟨v, rfl, hR⟩ hi hw K hK
        have hk : L 12 = false := hR.w12.not hi rfl
        have e0 := hR.f0 (hw 0 (by simp))
        have e1 := hR.f1 (hw 1 (by simp))
        simp only [e0, e1]
        clear e0 e1
        go_simp
        refine hK.out _ _ ?_
        exact ⟨(fun jz => if jz = 48 then .slice (some ⟨ab, 0, none⟩) (Kn) (Kn) else if jz = 49 then .int .i64 (k : Int) else if jz = 58 then .pointer (some ⟨ab, k * 2, none⟩) else v jz), rfl, ⟨(fun h => hR.st (upd_false h)), (fun _ => rfl), (fun _ => rfl), hR.f2.k, hR.f3.k, hR.f4.k, hR.f5.k, hR.f6.k, hR.f7.k, hR.f8.k, hR.f9.k, hR.f10.k, (fun _ => rfl), hR.s1.k, hR.f13.k, hR.w4.o, hR.w5.o, hR.w7.o, hR.w8.o, hR.w9.o, hR.w10.o, (fun _ j hj => upd_on (hw j hj)), hR.w12.o, hR.w13.o⟩⟩
       refine EachOf.cons [0, 1, 2, 3, 4, 5, 6, 7, 8, 9, 11] rfl (by kernel_rfl) ?_ ?_
       ·rintro L A W ⟨v, rfl, hR⟩ hi hw K hK
        have hk : L 12 = false := hi
        have e11 := hR.f11 (hw 11 (by simp))
        have e9 := hR.f9 (hw 9 (by simp))
        simp only [e11, e9]
        clear e11 e9
        have q1 := (hR.st hi).cell (p := ⟨ab, k * 2, none⟩) LA0.out.2
        rw [LA0.out.1] at q1
        have q2 := (hR.st hi).cell (p := ⟨ab, k * 2 + 1, none⟩) LA0.out.2
        rw [LA1.out.1] at q2
        have q3 := (hR.st hi).frozen (p := ⟨ab, k * 2, none⟩) LA0.out.2
        rw [LF.out.1] at q3
        have q4 := (hR.st hi).frozen (p := ⟨ab, k * 2 + 1, none⟩) LA0.out.2
        rw [LF.out.2] at q4
        go_simp
        refine hK.out _ _ ?_
        exact ⟨(fun jz => if jz = 58 then .pointer (some ⟨ab, k * 2, none⟩) else if jz = 56 then .agg #[.int .i64 tn, .int .i64 td] else v jz), rfl, ⟨(fun h => by simp [upd_self] at h), hR.f0.k, hR.f1.k, hR.f2.k, hR.f3.k, hR.f4.k, hR.f5.k, hR.f6.k, hR.f7.k, hR.f8.k, (fun _ => rfl), hR.f10.k, (fun _ => rfl), (fun _ => ⟨W, hR.st hi, rfl⟩), hR.f13.k, hR.w4.o, hR.w5.o, hR.w7.o, hR.w8.o, hR.w9.o, hR.w10.o, hR.w11.o, (fun _ j hj => upd_on (hw j hj)), hR.w13.o⟩⟩
       refine EachOf.cons [10] rfl (by kernel_rfl) ?_ ?_
       ·rintro L A W ⟨v, rfl, hR⟩ hi hw K hK
        have e10 := hR.f10 (hw 10 (by simp))
        simp only [e10]
        clear e10
        go_simp
        refine hK.out _ _ ?_
        exact ⟨(fun jz => if jz = 57 then .int .i64 te else if jz = 12 then .int .i64 te else v jz), rfl, ⟨(fun h => hR.st (upd_false h)), hR.f0.k, hR.f1.k, hR.f2.k, hR.f3.k, hR.f4.k, hR.f5.k, hR.f6.k, hR.f7.k, hR.f8.k, hR.f9.k, (fun _ => rfl), hR.f11.k, hR.s1.k, (fun _ => rfl), hR.w4.o, hR.w5.o, hR.w7.o, hR.w8.o, hR.w9.o, hR.w10.o, hR.w11.o, hR.w12.o, (fun _ j hj => upd_on (hw j hj))⟩⟩
       exact EachOf.nil
      rintro L A W ⟨v, rfl, hR⟩ hL
      have e13 := hR.f13 (hL 13 (by simp))
      obtain ⟨Wm, hbm, rfl⟩ := hR.s1 (hL 12 (by simp))
      simp only [e13]
      have T0 := Lib.hid ((HC5.out.1.on hbm).set k hlt tn td)
      have T1 := Lib.hid (((below_on HC5.out.2.1 hbm).setCell (p := ⟨ab, k * 2, none⟩) HAB.out (.int .i64 tn)).setCell (p := ⟨ab, k * 2 + 1, none⟩) HAB.out (.int .i64 td))
      have HSL := Lib.hid HC5.out.2.2
      clear e13 hbm hR hL CA LA0 LA1 LF LT0 LT1 HC5
      generalize (Wm.setCell ⟨ab, k * 2, none⟩ (.int .i64 tn)).setCell ⟨ab, k * 2 + 1, none⟩ (.int .i64 td) = W6 at *
      rcases HAC.out.1 with ⟨n', d', e1, _, _, vt, _⟩ | ⟨e', e1, hne, _⟩
      ·obtain ⟨rfl, rfl, rfl⟩ := three e1
       have T : Hid (FrX W6 ab Kn (updF (outF Z Ln X k) k ((comS (Z k) X (j + 1)).1, (comS (Z k) X (j + 1)).2.1)) ∧ Below w.heap.size w W6 ∧ (∀ l, l < k → (comS (Z l) X (Ln l)).2.2 = 0) ∧ (comS (Z k) X (j + 1)).2.2 = 0 ∧ Vld (comS (Z k) X (j + 1)).1 (comS (Z k) X (j + 1)).2.1) := by
        rw [HST2.out]
        exact ⟨T0.out.congr fun l hl => by unfold updF; split <;> rfl, T1.out, HSL.out, rfl, vt⟩
       clear vt e1 T0 T1 HSL HST2 HAC HEND
       go_wp2_with fail
       rw [← er, ← ex]
       go_roundg (Ln k - (j + 1))
       case measure => omega
       case rel => exact ⟨j + 1, rfl, rfl, by omega, T⟩
      ·obtain ⟨rfl, rfl, rfl⟩ := three e1
       have he5 : te = 5 := by
        rcases HAC.out.2 with h | h
        ·exact absurd h hne
        ·exact (three h).2.2
       subst he5
       have HZ5 : Hid (comS (Z k) X (Ln k) = (0, 0, 5)) := by
        have h := HEND.out (by rw [HST2.out]; decide)
        rw [HST2.out] at h
        exact h
       clear e1
       go_wp2_with fail
       go_ret2
       exact ⟨T1.out, .inr ⟨rfl, k, hlt, HZ5.out⟩⟩
     ·obtain ⟨rfl, rfl, rfl⟩ := three e1
      have he5 : qe = 5 := by
       rcases HMC.out.2 with h | h
       ·exact absurd h hne
       ·exact (three h).2.2
      subst he5
      have HZ5 : Hid (comS (Z k) X (Ln k) = (0, 0, 5)) := by
       have hst := HST.out
       rw [if_neg hne] at hst
       have h := HEND.out (by rw [hst]; decide)
       rw [hst] at h
       exact h
      clear e1
      go_wp2_with fail
      go_ret2
      exact ⟨HC5.out.2.1, .inr ⟨rfl, k, hlt, HZ5.out⟩⟩
    ·have e : j = Ln k := by omega
     subst e
     have T : Hid (FrX W4 ab Kn (outF Z Ln X (k + 1)) ∧ Below w.heap.size w W4 ∧ ∀ l, l < k + 1 → (comS (Z l) X (Ln l)).2.2 = 0) :=
      ⟨S.out.1.congr fun l hl => by
       unfold updF outF
       by_cases e : l = k
       ·subst e; rw [if_pos (by omega), if_pos rfl]
       ·rw [if_neg e]
        by_cases g : l < k
        ·rw [if_pos g, if_pos (by omega)]
        ·rw [if_neg g, if_neg (by omega)], S.out.2.1, fun l hl => by
       by_cases e : l = k
       ·subst e; exact S.out.2.2.2.1
       ·exact S.out.2.2.1 l (by omega)⟩
     clear S
     go_wp2_with fail
     rw [← el]
     go_roundg (Kn - (k + 1))
     case measure => omega
     case rel => exact ⟨k + 1, rfl, rfl, by omega, T⟩
  ·have e : k = Kn := by omega
   subst e
   go_wp2_with fail
   go_ret2
   exact ⟨S.out.2.1, .inl ⟨ab, rfl, HAB.out, S.out.1, S.out.2.2⟩⟩
end Go.Proofs.YtggpdhdbeokkcaaGreat

namespace Go.Proofs.YtggpdhdbeokkcaaGreat
set_option linter.unusedVariables false
open Go.RowKit Go.Shelf

/-- The numbers of a variable, or the right-hand sides. -/
def wF (p : PgD) (j i : Nat) : Int := if j < p.n then p.Z i j else p.Rt i

def updG {α : Type} (f : Nat → α) (i : Nat) (v : α) : Nat → α := fun l => if l = i then v else f l
theorem updG_same {α : Type} {f : Nat → α} {i : Nat} {v : α} : updG f i v i = v := if_pos rfl
theorem updG_other {α : Type} {f : Nat → α} {i l : Nat} {v : α} (h : l ≠ i) : updG f i v l = f l := if_neg h

/-- Lists of numbers that grow, each in a block of its own. -/
structure LsG (B0 : Nat) (W : World) (lb Kn : Nat) (P : Nat → Option Addr) (C cnt : Nat → Nat) (F : Nat → Nat → Int) : Prop where
 lo : B0 ≤ lb
 hb : lb < W.heap.size
 cell : ∀ j, j < Kn → W.cell? ⟨lb, j, none⟩ = some (.slice (P j) (cnt j) (C j))
 fz : ∀ j, j < Kn → W.frozen? ⟨lb, j, none⟩ = false
 own : ∀ j, j < Kn → W.ownsRow (lb + 1) 3 1 (.slice (P j) (cnt j) (C j)) (cnt j) ((List.range (cnt j)).map fun l => Value.int .i64 (F j l))
 inj : ∀ j k, j < Kn → k < Kn → j ≠ k → ∀ q, (Value.slice (P j) (cnt j) (C j)).ownBlock = some q → (Value.slice (P k) (cnt k) (C k)).ownBlock ≠ some q
section
variable {B0 : Nat} {W W2 : World} {lb Kn : Nat} {P : Nat → Option Addr} {C cnt : Nat → Nat} {F : Nat → Nat → Int}
theorem LsG.lt (h : LsG B0 W lb Kn P C cnt F) {j q : Nat} (hj : j < Kn) (hq : (Value.slice (P j) (cnt j) (C j)).ownBlock = some q) : lb + 1 ≤ q ∧ q < W.heap.size := (h.own j hj).lt q hq
theorem LsG.on (h : LsG B0 W lb Kn P C cnt F) (hb : Below W.heap.size W W2) : LsG B0 W2 lb Kn P C cnt F :=
 ⟨h.lo, Nat.lt_of_lt_of_le h.hb hb.size, fun j hj => (hb.cell (p := ⟨lb, j, none⟩) h.hb).trans (h.cell j hj), fun j hj => (hb.frozen (p := ⟨lb, j, none⟩) h.hb).trans (h.fz j hj),
  fun j hj => own_only (h.own j hj) (Only.of_below (S := fun _ => False) hb) (fun _ _ q => q), h.inj⟩
theorem LsG.push (h : LsG B0 W lb Kn P C cnt F) {j0 k : Nat} (hj0 : j0 < Kn) (hk : cnt j0 = k) {z : Int} (hz : z = F j0 k) {g cap : Nat} (hA : Only (fun q => (Value.slice (P j0) k (C j0)).ownBlock = some q) W W2)
  (ho : W2.ownsRow (lb + 1) 3 1 (.slice (some ⟨g, 0, none⟩) (k + 1) cap) (k + 1) (((List.range k).map fun l => Value.int .i64 (F j0 l)) ++ [Value.int .i64 z]))
  (hg : (Value.slice (P j0) k (C j0)).ownBlock = some g ∨ W.heap.size ≤ g) :
  LsG B0 (W2.setCell ⟨lb, j0, none⟩ (.slice (some ⟨g, 0, none⟩) (k + 1) cap)) lb Kn (updG P j0 (some ⟨g, 0, none⟩)) (updG C j0 cap) (updG cnt j0 (k + 1)) F := by
 subst hk
 have nS : ¬ (Value.slice (P j0) (cnt j0) (C j0)).ownBlock = some lb := fun e => by have := h.lt hj0 e; omega
 have hgl : lb + 1 ≤ g ∧ g < W2.heap.size := ho.lt g rfl
 have cellW : ∀ j, j < Kn → W2.cell? ⟨lb, j, none⟩ = some (.slice (P j) (cnt j) (C j)) := fun j hj => (hA.cell (p := ⟨lb, j, none⟩) h.hb nS).trans (h.cell j hj)
 have hos := only_set W2 ⟨lb, j0, none⟩ (.slice (some ⟨g, 0, none⟩) (cnt j0 + 1) cap)
 refine ⟨h.lo, by simpa using Nat.lt_of_lt_of_le h.hb hA.size, fun j hj => ?_, fun j hj => by simpa using (hA.frozen (p := ⟨lb, j, none⟩) h.hb nS).trans (h.fz j hj), fun j hj => ?_, fun j k hj hk hn q => ?_⟩
 ·by_cases e : j = j0
  ·subst e
   rw [updG_same, updG_same, updG_same]
   exact World.cell?_setCell_same' _ _ _ (by rw [cellW j hj]; rfl)
  ·rw [updG_other e, updG_other e, updG_other e, World.cell?_setCell_other _ _ _ _ (adr_ne (fun q => e q.symm))]
   exact cellW j hj
 ·by_cases e : j = j0
  ·subst e
   rw [updG_same, updG_same, updG_same]
   have e2 : ((List.range (cnt j + 1)).map fun l => Value.int .i64 (F j l)) = ((List.range (cnt j)).map fun l => Value.int .i64 (F j l)) ++ [Value.int .i64 z] := by
    rw [List.range_succ, List.map_append, hz]; rfl
   rw [e2]
   exact own_only ho hos (fun q hq e3 => by
    have := ho.lt q hq
    have e3 : q = lb := e3
    omega)
  ·rw [updG_other e, updG_other e, updG_other e]
   refine own_only (own_only (h.own j hj) hA (fun q hq hs => h.inj j j0 hj hj0 e q hq hs)) hos (fun q hq e3 => ?_)
   have := h.lt hj hq
   have e3 : q = lb := e3
   omega
 ·by_cases e : j = j0
  ·subst e
   rw [updG_same, updG_same, updG_same, updG_other (fun q => hn q.symm), updG_other (fun q => hn q.symm), updG_other (fun q => hn q.symm)]
   intro hq
   have e4 : g = q := by injection hq
   subst e4
   rcases hg with hg | hg
   ·exact h.inj j k hj hk hn g hg
   ·intro e5
    have := h.lt hk e5
    omega
  ·rw [updG_other e, updG_other e, updG_other e]
   intro hq
   by_cases e2 : k = j0
   ·subst e2
    rw [updG_same, updG_same, updG_same]
    intro e5
    have e4 : g = q := by injection e5
    subst e4
    rcases hg with hg | hg
    ·exact h.inj j k hj hk hn g hq hg
    ·have := h.lt hj hq
     omega
   ·rw [updG_other e2, updG_other e2, updG_other e2]
    exact h.inj j k hj hk hn q hq
theorem LsG.ls {m : Nat} (h : LsG B0 W lb Kn P C (fun _ => m) F) : LsI W (some ⟨lb, 0, none⟩) Kn P (fun _ => m) C F :=
 ⟨fun _ => ⟨lb, 0, rfl, h.hb, fun k hk => by rw [Nat.zero_add]; exact h.cell k hk⟩, fun k hk hm => by
  have ho := h.own k hk
  rcases ho.2 with ⟨h1, h2⟩ | ⟨g, cap, cur, hv, _⟩
  ·have : m = 0 := h2
   omega
  ·have e : P k = some ⟨g, 0, none⟩ := by injection hv
   refine ⟨g, 0, e, (h.lt hk (by rw [hv]; rfl)).2, fun j hj => ?_⟩
   rw [hv] at ho
   rw [Nat.zero_add, ho.cellAt j (by show j < m * 1; omega)]
   simp [hj]⟩
theorem LsG.cong {cnt2 : Nat → Nat} (h : LsG B0 W lb Kn P C cnt F) (e : ∀ j, j < Kn → cnt2 j = cnt j) : LsG B0 W lb Kn P C cnt2 F :=
 ⟨h.lo, h.hb, fun j hj => by rw [e j hj]; exact h.cell j hj, h.fz, fun j hj => by rw [e j hj]; exact h.own j hj, fun j k hj hk hn q => by rw [e j hj, e k hk]; exact h.inj j k hj hk hn q⟩
theorem updG_cnt (i j : Nat) : updG (fun l => if l < j then i + 1 else i) j (i + 1) = fun l => if l < j + 1 then i + 1 else i := by
 funext l
 unfold updG
 by_cases e : l = j
 ·rw [if_pos e, if_pos (by omega)]
 ·rw [if_neg e]
  show (if l < j then i + 1 else i) = _
  by_cases g : l < j
  ·rw [if_pos g, if_pos (by omega)]
  ·rw [if_neg g, if_neg (by omega)]
theorem LsG.ne (h : LsG B0 W lb Kn P C cnt F) {j0 k g cap rb : Nat} (hk : cnt j0 = k) (hg : (Value.slice (P j0) k (C j0)).ownBlock = some g ∨ W.heap.size ≤ g) (hj0 : j0 < Kn) (hr : rb < W.heap.size) (hn : ∀ j, j < Kn → (Value.slice (P j) (cnt j) (C j)).ownBlock ≠ some rb) :
  ∀ j, j < Kn → (Value.slice (updG P j0 (some ⟨g, 0, none⟩) j) (updG cnt j0 (k + 1) j) (updG C j0 cap j)).ownBlock ≠ some rb := fun j hj => by
 subst hk
 by_cases e : j = j0
 ·subst e
  rw [updG_same, updG_same, updG_same]
  intro hq
  have e4 : g = rb := by injection hq
  subst e4
  rcases hg with hg | hg
  ·exact hn j hj hg
  ·omega
 ·rw [updG_other e, updG_other e, updG_other e]
  exact hn j hj
end

structure WgtR (lb rb n i pc : Nat) (pa : Option Addr) (fc : Nat → Int) (rt : Int) (Wc : World) (L : Nat → Bool) (v : Nat → Value) (W : World) : Prop where
 st : L 9 = false → Below Wc.heap.size Wc W
 f0 : Had L 0 (v 44 = .slice (some ⟨lb, 0, none⟩) (n + 1) (n + 1))
 f1 : Had L 1 (v 45 = .int .i64 (n : Int))
 f2 : Had L 2 (v 46 = .slice (some ⟨lb, 0, none⟩) (n + 1) (n + 1))
 f3 : Had L 3 (v 47 = .int .i64 (n : Int))
 f4 : Had L 4 (v 48 = .pointer (some ⟨lb, n, none⟩))
 f5 : Had L 5 (v 49 = .slice pa i pc)
 f6 : Had L 6 (v 50 = .pointer (some ⟨rb, 2, none⟩))
 f7 : Had L 7 (v 51 = .int .i64 rt)
 x8 : Had L 8 (L 9 = false → ∃ B, v 52 = .slice (some ⟨B, 0, none⟩) 1 1 ∧ SlR W B [.int .i64 rt])
 x9 : Had L 9 (L 11 = false → AppW Wc W (lb + 1) 3 (.slice pa i pc) i (((List.range i).map fun l => Value.int .i64 (fc l)) ++ [Value.int .i64 rt]) (v 53))
 f10 : Had L 10 (v 54 = .pointer (some ⟨lb, n, none⟩))
 s1 : Had L 11 (∃ W2 gq capq, AppW Wc W2 (lb + 1) 3 (.slice pa i pc) i (((List.range i).map fun l => Value.int .i64 (fc l)) ++ [Value.int .i64 rt]) (.slice (some ⟨gq, 0, none⟩) (i + 1) capq) ∧ W = W2.setCell ⟨lb, n, none⟩ (.slice (some ⟨gq, 0, none⟩) (i + 1) capq))
 w4 : Had L 4 (∀ j ∈ [2, 3], L j = true)
 w5 : Had L 5 (∀ j ∈ [4], L j = true)
 w7 : Had L 7 (∀ j ∈ [6], L j = true)
 w8 : Had L 8 (∀ j ∈ [7], L j = true)
 w9 : Had L 9 (∀ j ∈ [5, 8], L j = true)
 w10 : Had L 10 (∀ j ∈ [0, 1], L j = true)
 w11 : Had L 11 (∀ j ∈ [0, 1, 2, 3, 4, 5, 6, 7, 8, 9, 10], L j = true)

set_option maxRecDepth 100000 in
set_option maxHeartbeats 16000000 in
theorem weighted_any (p : PgD) (hv : p.Ok) (xa : Option Addr) (xc : Nat) (X : Nat → Int × Int) (w : World) (hp : p.At w) (hx : IFr w xa p.m X) (hvx : ∀ j, j < p.m → Vld (X j).1 (X j).2) :
  Calls Tryz.prog 30 #[p.val, .slice xa p.m xc] w fun e w' => Below w.heap.size w w' ∧
   ((∃ ab, e = .returned (.tuple #[.slice (some ⟨ab, 0, none⟩) (p.n + 1) (p.n + 1), .int .i64 0]) ∧ w.heap.size ≤ ab ∧ FrX w' ab (p.n + 1) (outF (wF p) (fun _ => p.m) X (p.n + 1)) ∧ ∀ k, k < p.n + 1 → (comS (wF p k) X p.m).2.2 = 0) ∨
    (e = .returned (.tuple #[.slice none 0 0, .int .i64 5]) ∧ ∃ k, k < p.n + 1 ∧ comS (wF p k) X p.m = (0, 0, 5))) := by
 unfold PgD.val
 have hb1 : Below w.heap.size w (w.alloc (Obj.cells #[Value.slice p.ca p.n p.cc, .slice p.ra p.m p.rc] 25)) := (Below.refl _ _).alloc (Nat.le_refl _) _
 obtain ⟨w1, hw1⟩ : ∃ W, W = w.alloc (Obj.cells #[Value.slice p.ca p.n p.cc, .slice p.ra p.m p.rc] 25) := ⟨_, rfl⟩
 obtain ⟨xb, hxb⟩ : ∃ x, x = w.heap.size := ⟨_, rfl⟩
 have hB : Blk w1 xb (.slice p.ca p.n p.cc) (.slice p.ra p.m p.rc) := by rw [hw1, hxb]; exact Blk.new _ _ _ _
 rw [← hw1] at hb1
 have HB := Lib.hid hb1
 have HXB := Lib.hid hB
 have HP := Lib.hid hp
 have HX := Lib.hid hx
 have HVX := Lib.hid hvx
 have HV := Lib.hid hv
 have hm2 := hv.m2
 have hn2 := hv.n2
 have hn1 := hv.n1
 clear hb1 hB hp hx hvx hv
 obtain ⟨i0, hi0, hz0, hz1, hz2⟩ := info_parts (show (Tryz.prog.info? 3).map (fun i => (i.zero, i.size, i.bytes)) = some (some (Value.int IntKind.i64 0), 1, 8) by kernel_rfl)
 have HI := Lib.hid (And.intro hi0 (And.intro hz0 (And.intro hz1 hz2)))
 clear hi0 hz0 hz1 hz2
 obtain ⟨i1, hi1, hy0, hy1, hy2⟩ := info_parts (show (Tryz.prog.info? 22).map (fun i => (i.zero, i.size, i.bytes)) = some (some (Value.slice none 0 0), 1, 24) by kernel_rfl)
 go_enter Tryz.func30, Tryz.ntmps30
 go_upto_region 1 with fail
 rw [← hxb, ← hw1]
 clear hxb hw1
 have q0 := HXB.out.2.1
 have q1 := HXB.out.2.2
 have wn1 : IntKind.i64.wrap ((p.n : Int) + 1) = ((p.n + 1 : Nat) : Int) := by rw [IntWalk.i64_in _ (by omega)]; omega
 go_upto_region 3 with (refine wpList_make_full _ rfl _ _ 85 rfl w1.heap.size 22 i1 (.slice none 0 0) 1 Tryz.underlying85 hi1 hy0 hy1 _ _ _ _ (p.n + 1) rfl rfl rfl rfl (by rw [hy2]; omega) (by unfold maxLen; omega) (Nat.le_refl _) ?_; intro w2 ho hg)
 have hb2 : Below w1.heap.size w1 w2 := ⟨hg.os, hg.tape, hg.output, hg.size, fun k hk => hg.block k hk (by simp)⟩
 obtain ⟨lb, hlb⟩ : ∃ x, x = w1.heap.size := ⟨_, rfl⟩
 have S0 : Hid (LsG w.heap.size w2 lb (p.n + 1) (fun _ => none) (fun _ => 0) (fun _ => 0) (wF p) ∧ Below w.heap.size w w2) := by
  rw [← hlb] at ho
  have hcl : ∀ j, j < p.n + 1 → w2.cell? ⟨lb, j, none⟩ = some (.slice none 0 0) := fun j hj => by
   rw [ho.cellAt j (by omega)]
   have e : (Value.slice none 0 0).cells = #[Value.slice none 0 0] := by rfl
   rw [e]
   simp [madeCells, hj, Nat.mod_one]
  exact ⟨⟨by rw [hlb]; exact HB.out.size, (ho.lt lb rfl).2, hcl, fun j hj => own_frozen ho rfl j, fun j hj => ⟨by simp, .inl ⟨rfl, rfl⟩⟩, fun j k _ _ _ q hq => by cases hq⟩, below_on HB.out hb2⟩
 rw [← hlb]
 have q1 := (HXB.out.on hb2).2.2
 clear q0 ho hg hb2 hlb hi1 hy0 hy1 hy2 i1 HB HXB
 go_wp2_with fail
 clear q1
 go_loopg [21] p.m (fun g s21 wx => ∃ i : Nat, s21 = .int .i64 i ∧ g = p.m - i ∧ i ≤ p.m ∧ ∃ P C, Hid (LsG w.heap.size wx lb (p.n + 1) P C (fun _ => i) (wF p) ∧ Below w.heap.size w wx))
 case atStart => exact ⟨0, rfl, rfl, Nat.zero_le _, _, _, S0⟩
 case round =>
  clear S0
  obtain ⟨i, rfl, rfl, hi, P, C, S⟩ := hrel
  rename World => W1
  by_cases hlt : i < p.m
  ·have wk : IntKind.i64.wrap ((i : Int) + 1) = ((i + 1 : Nat) : Int) := by rw [IntWalk.i64_in _ (by omega)]; omega
   have hat := HP.out.on S.out.2
   obtain ⟨gr, gro, er, hgr, hrow⟩ := hat.rows (by omega)
   have hri := hrow i hlt
   rw [er]
   have q1 := hri.1
   have q2 := hri.2.1
   have q3 := hri.2.2
   rw [HV.out.l i hlt] at q1
   have HIR := Lib.hid (hat.coef i hlt)
   rw [HV.out.l i hlt] at HIR
   clear hrow hri hat
   obtain ⟨rt, hrt⟩ : ∃ x, p.Rt i = x := ⟨_, rfl⟩
   obtain ⟨kd, hkd⟩ : ∃ x, p.Kd i = x := ⟨_, rfl⟩
   rw [hrt] at q3
   rw [hkd] at q2
   have HRT : Hid (rt = wF p p.n i) := by show rt = _; unfold wF; rw [if_neg (by omega), hrt]
   clear hrt hkd
   go_upto_region 6 with fail
   obtain ⟨rb, hrb⟩ : ∃ x, x = W1.heap.size := ⟨_, rfl⟩
   obtain ⟨W2, hW2⟩ : ∃ V, V = W1.alloc (Obj.cells #[Value.slice (p.Ca i) p.n (p.Kc i), Value.int IntKind.i64 kd, Value.int IntKind.i64 rt] 53) := ⟨_, rfl⟩
   rw [← hrb, ← hW2]
   have hb2 : Below W1.heap.size W1 W2 := by rw [hW2]; exact (Below.refl _ _).alloc (Nat.le_refl _) _
   have hr2 : EBlk W2 rb (.slice (p.Ca i) p.n (p.Kc i)) (.int .i64 kd) (.int .i64 rt) := by
    rw [hW2, hrb]
    exact ⟨by simp, by simp [go_sem], by simp [go_sem], by simp [go_sem], by simp [go_sem], by simp [go_sem], by simp [go_sem]⟩
   have S2 : Hid (LsG w.heap.size W2 lb (p.n + 1) P C (fun l => if l < 0 then i + 1 else i) (wF p) ∧ Below w.heap.size w W2 ∧ EBlk W2 rb (.slice (p.Ca i) p.n (p.Kc i)) (.int .i64 kd) (.int .i64 rt) ∧ ∀ j, j < p.n + 1 → (Value.slice (P j) (if j < 0 then i + 1 else i) (C j)).ownBlock ≠ some rb) := by
    have e : (fun l : Nat => if l < 0 then i + 1 else i) = fun _ => i := by funext l; exact if_neg (by omega)
    rw [e]
    exact ⟨S.out.1.on hb2, below_on S.out.2 hb2, hr2, fun j hj hq => by
     have := S.out.1.lt hj (show (Value.slice (P j) i (C j)).ownBlock = some rb from hq)
     omega⟩
   have HW1 : Hid (lb < rb ∧ w.heap.size ≤ rb) := ⟨by rw [hrb]; exact S.out.1.hb, by rw [hrb]; exact S.out.2.size⟩
   have HIR := Lib.hid (HIR.out.on hb2)
   have k1 := hr2.c0
   clear hb2 hr2 hW2 hrb q1 q2 q3 S
   go_wp2_with fail
   clear k1
   go_loopg [28] p.n (fun g s28 wx => ∃ j : Nat, s28 = .int .i64 j ∧ g = p.n - j ∧ j ≤ p.n ∧ ∃ P C, Hid (LsG w.heap.size wx lb (p.n + 1) P C (fun l => if l < j then i + 1 else i) (wF p) ∧ Below w.heap.size w wx ∧ EBlk wx rb (.slice (p.Ca i) p.n (p.Kc i)) (.int .i64 kd) (.int .i64 rt) ∧ ∀ l, l < p.n + 1 → (Value.slice (P l) (if l < j then i + 1 else i) (C l)).ownBlock ≠ some rb))
   case atStart => exact ⟨0, rfl, rfl, Nat.zero_le _, _, _, S2⟩
   case round =>
    clear S2
    obtain ⟨j, rfl, rfl, hj, P, C, S⟩ := hrel
    rename World => W3
    by_cases hjl : j < p.n
    ·have wkj : IntKind.i64.wrap ((j : Int) + 1) = ((j + 1 : Nat) : Int) := by rw [IntWalk.i64_in _ (by omega)]; omega
     have hat := HP.out.on S.out.2.1
     have HIR3 := hat.coef i hlt
     rw [HV.out.l i hlt] at HIR3
     obtain ⟨cg, co, ec, hcg, hcr⟩ := HIR3 (by omega)
     rw [ec]
     have p1 := hcr j hjl
     have hwz : p.Z i j = wF p j i := by unfold wF; rw [if_pos hjl]
     obtain ⟨zv, hzv⟩ : ∃ x, p.Z i j = x := ⟨_, rfl⟩
     rw [hzv] at p1 hwz
     have HWZ := Lib.hid hwz
     clear hzv hcr hat hwz
     have B1 : Hid (Below W3.heap.size W3 (W3.alloc (Obj.cells #[.int .i64 zv] 3))) := (Below.refl _ _).alloc (Nat.le_refl _) _
     have O1 := Lib.hid (S.out.1.on B1.out)
     have A1 : Hid (∀ l u, [Value.int .i64 zv][l]? = some u → (W3.alloc (Obj.cells #[.int .i64 zv] 3)).cell? ((⟨W3.heap.size, 0, none⟩ : Addr).add l) = some u) := one_news (by simp [go_sem])
     have E1 := Lib.hid (S.out.2.2.1.on B1.out)
     have hbb := below_on S.out.2.1 B1.out
     have l1 : (j : Int) < ((p.n + 1 : Nat) : Int) := by omega
     have l2 : (j : Int) < (p.n : Int) + 1 := by omega
     have k1 := S.out.1.cell j (by omega)
     simp only [if_neg (Nat.lt_irrefl j)] at k1
     have ow1 := O1.out.own j (by omega)
     simp only [if_neg (Nat.lt_irrefl j)] at ow1
     have HOW := Lib.hid ow1
     have HNL : Hid (¬ (Value.slice (P j) i (C j)).ownBlock = some lb) := fun e => by
      have := S.out.1.lt (j := j) (q := lb) (by omega) (by simp only [if_neg (Nat.lt_irrefl j)]; exact e)
      omega
     have HNR : Hid (¬ (Value.slice (P j) i (C j)).ownBlock = some rb) := fun e => by
      have := S.out.2.2.2 j (by omega)
      simp only [if_neg (Nat.lt_irrefl j)] at this
      exact this e
     have HLB : Hid (lb + 1 ≤ (W3.alloc (Obj.cells #[.int .i64 zv] 3)).heap.size) := by show _ ≤ _; have := O1.out.hb; omega
     have HBB := Lib.hid hbb
     have HNS := Lib.hid S.out.2.2.2
     clear ow1 hbb S
     go_upto_region 10 with (at_builtin; refine wpList_append_lies _ rfl _ _ 22 rfl (lb + 1) 3 i0 (.int .i64 0) 1 8 Tryz.underlying22 HI.out.1 HI.out.2.1 HI.out.2.2.1 HI.out.2.2.2 rfl (by decide) _ _ _ rfl HOW.out ⟨W3.heap.size, 0, none⟩ 1 1 [.int .i64 zv] rfl rfl A1.out (by intro u hu; simp at hu; subst hu; rfl) (by omega) (by unfold maxLen; omega) (by omega) HLB.out _ rfl ?_; intro q cap W4 hown hgrow hat hqlt; have kk1 := ((grown_only (Below.refl _ _) hgrow).cell (p := ⟨lb, j, none⟩) O1.out.hb HNL.out).trans (O1.out.cell j (by omega)); have kk2 := ((grown_only (Below.refl _ _) hgrow).frozen (p := ⟨lb, j, none⟩) O1.out.hb HNL.out).trans (O1.out.fz j (by omega)))
     have hA := grown_only (Below.refl _ _) hgrow
     have hqq : (Value.slice (P j) i (C j)).ownBlock = some q ∨ (W3.alloc (Obj.cells #[.int .i64 zv] 3)).heap.size ≤ q := hat.imp id (fun e => by rw [e]; exact Nat.le_refl _)
     have T : Hid (LsG w.heap.size (W4.setCell ⟨lb, j, none⟩ (.slice (some ⟨q, 0, none⟩) (i + 1) cap)) lb (p.n + 1) (updG P j (some ⟨q, 0, none⟩)) (updG C j cap) (fun l => if l < j + 1 then i + 1 else i) (wF p) ∧ Below w.heap.size w (W4.setCell ⟨lb, j, none⟩ (.slice (some ⟨q, 0, none⟩) (i + 1) cap)) ∧ EBlk (W4.setCell ⟨lb, j, none⟩ (.slice (some ⟨q, 0, none⟩) (i + 1) cap)) rb (.slice (p.Ca i) p.n (p.Kc i)) (.int .i64 kd) (.int .i64 rt) ∧ ∀ l, l < p.n + 1 → (Value.slice (updG P j (some ⟨q, 0, none⟩) l) (if l < j + 1 then i + 1 else i) (updG C j cap l)).ownBlock ≠ some rb) := by
      have h1 := O1.out.push (j0 := j) (k := i) (by omega) (if_neg (Nat.lt_irrefl j)) HWZ.out hA hown hqq
      rw [updG_cnt] at h1
      have h4 := O1.out.ne (j0 := j) (k := i) (g := q) (cap := cap) (if_neg (Nat.lt_irrefl j)) hqq (by omega) E1.out.hb HNS.out
      rw [updG_cnt] at h4
      exact ⟨h1, (HBB.out.trans (hA.below HBB.out.size (fun c hc => by have := HOW.out.lt c hc; have := O1.out.lo; omega))).setCell (p := ⟨lb, j, none⟩) O1.out.lo _, (E1.out.only hA HNR.out).far (by have := HW1.out.1; omega), h4⟩
     clear hown hgrow hat kk1 kk2 hA hqq k1 p1 B1 O1 A1 E1 HOW HNL HNR HLB HBB HNS HWZ
     go_wp2_with fail
     rw [← ec]
     go_roundg (p.n - (j + 1))
     case measure => omega
     case rel => exact ⟨j + 1, rfl, rfl, by omega, _, _, T⟩
    ·have e : j = p.n := by omega
     subst e
     have hii : (if p.n < p.n then i + 1 else i) = i := if_neg (Nat.lt_irrefl _)
     have LL : Hid (W3.cell? ⟨lb, p.n, none⟩ = some (.slice (P p.n) i (C p.n)) ∧ lb < W3.heap.size) := ⟨by have := S.out.1.cell p.n (by omega); rwa [hii] at this, S.out.1.hb⟩
     have LR : Hid (W3.cell? ⟨rb, 2, none⟩ = some (.int .i64 rt) ∧ rb < W3.heap.size) := ⟨S.out.2.2.1.c2, S.out.2.2.1.hb⟩
     have LO : Hid (W3.ownsRow (lb + 1) 3 1 (.slice (P p.n) i (C p.n)) i ((List.range i).map fun l => Value.int .i64 (wF p p.n l))) := by
      have := S.out.1.own p.n (by omega)
      rwa [hii] at this
     have LB : Hid (lb + 1 ≤ W3.heap.size) := S.out.1.hb
     have LN : Hid (¬ (Value.slice (P p.n) i (C p.n)).ownBlock = some lb) := fun e => by
      have := LO.out.lt lb e
      omega
     have LF : Hid (W3.frozen? ⟨lb, p.n, none⟩ = false) := S.out.1.fz p.n (by omega)
     have l1 : (p.n : Int) < ((p.n + 1 : Nat) : Int) := by omega
     have l2 : (p.n : Int) < (p.n : Int) + 1 := by omega
     go_upto_region 11 with fail
     refine wp_region_each (fun L A W => ∃ (v : Nat → Value), A = ⟨#[_, _, _, _, _, _, _, _, _, _, _, _, _, _, _, _, _, _, _, _, _, _, _, _, _, _, _, _, _, _, _, _, _, _, _, _, _, _, _, _, _, _, _, _, v 44, v 45, v 46, v 47, v 48, v 49, v 50, v 51, v 52, v 53, v 54, _, _, _, _, _, _], []⟩ ∧ WgtR lb rb p.n i (C p.n) (P p.n) (wF p p.n) rt W3 L v W) (by kernel_rfl) (by kernel_rfl) ⟨fun jz => if jz = 44 then u44 else if jz = 45 then u45 else if jz = 46 then u46 else if jz = 47 then u47 else if jz = 48 then u48 else if jz = 49 then u49 else if jz = 50 then u50 else if jz = 51 then u51 else if jz = 52 then u52 else if jz = 53 then u53 else if jz = 54 then u54 else undef, rfl, ⟨(fun _ => Below.drew (Below.refl _ _)), Had.none, Had.none, Had.none, Had.none, Had.none, Had.none, Had.none, Had.none, Had.none, Had.none, Had.none, Had.none, Had.none, Had.none, Had.none, Had.none, Had.none, Had.none, Had.none⟩⟩ (rs := [0, 1, 2, 3, 4, 5, 6, 7, 8, 9, 10, 11]) (by kernel_rfl) ?_ ?_
     ·refine EachOf.cons [] rfl (by kernel_rfl) ?_ ?_
      ·rintro L A W ⟨v, rfl, hR⟩ hi hw K hK
       go_simp
       refine hK.out _ _ ?_
       exact ⟨(fun jz => if jz = 44 then .slice (some ⟨lb, 0, none⟩) (p.n + 1) (p.n + 1) else v jz), rfl, ⟨(fun h => hR.st (upd_false h)), (fun _ => rfl), hR.f1.k, hR.f2.k, hR.f3.k, hR.f4.k, hR.f5.k, hR.f6.k, hR.f7.k, hR.x8.keepM rfl (fun h hx => h (upd_false hx)), hR.x9.keepM rfl (fun h hx => h (upd_false hx)), hR.f10.k, hR.s1.k, hR.w4.o, hR.w5.o, hR.w7.o, hR.w8.o, hR.w9.o, hR.w10.o, hR.w11.o⟩⟩
      refine EachOf.cons [] rfl (by kernel_rfl) ?_ ?_
      ·rintro L A W ⟨v, rfl, hR⟩ hi hw K hK
       go_simp
       refine hK.out _ _ ?_
       exact ⟨(fun jz => if jz = 45 then .int .i64 (p.n : Int) else v jz), rfl, ⟨(fun h => hR.st (upd_false h)), hR.f0.k, (fun _ => rfl), hR.f2.k, hR.f3.k, hR.f4.k, hR.f5.k, hR.f6.k, hR.f7.k, hR.x8.keepM rfl (fun h hx => h (upd_false hx)), hR.x9.keepM rfl (fun h hx => h (upd_false hx)), hR.f10.k, hR.s1.k, hR.w4.o, hR.w5.o, hR.w7.o, hR.w8.o, hR.w9.o, hR.w10.o, hR.w11.o⟩⟩
      refine EachOf.cons [] rfl (by kernel_rfl) ?_ ?_
      ·rintro L A W ⟨v, rfl, hR⟩ hi hw K hK
       have hk : L 9 = false := hR.w9.not (hR.w5.not (hR.w4.not hi rfl) rfl) rfl
       go_simp
       refine hK.out _ _ ?_
       exact ⟨(fun jz => if jz = 46 then .slice (some ⟨lb, 0, none⟩) (p.n + 1) (p.n + 1) else v jz), rfl, ⟨(fun h => hR.st (upd_false h)), hR.f0.k, hR.f1.k, (fun _ => rfl), hR.f3.k, hR.f4.k, hR.f5.k, hR.f6.k, hR.f7.k, hR.x8.keepM rfl (fun h hx => h (upd_false hx)), hR.x9.keepM rfl (fun h hx => h (upd_false hx)), hR.f10.k, hR.s1.k, hR.w4.o, hR.w5.o, hR.w7.o, hR.w8.o, hR.w9.o, hR.w10.o, hR.w11.o⟩⟩
      refine EachOf.cons [] rfl (by kernel_rfl) ?_ ?_
      ·rintro L A W ⟨v, rfl, hR⟩ hi hw K hK
       have hk : L 9 = false := hR.w9.not (hR.w5.not (hR.w4.not hi rfl) rfl) rfl
       go_simp
       refine hK.out _ _ ?_
       exact ⟨(fun jz => if jz = 47 then .int .i64 (p.n : Int) else v jz), rfl, ⟨(fun h => hR.st (upd_false h)), hR.f0.k, hR.f1.k, hR.f2.k, (fun _ => rfl), hR.f4.k, hR.f5.k, hR.f6.k, hR.f7.k, hR.x8.keepM rfl (fun h hx => h (upd_false hx)), hR.x9.keepM rfl (fun h hx => h (upd_false hx)), hR.f10.k, hR.s1.k, hR.w4.o, hR.w5.o, hR.w7.o, hR.w8.o, hR.w9.o, hR.w10.o, hR.w11.o⟩⟩
      refine EachOf.cons [2, 3] rfl (by kernel_rfl) ?_ ?_
      ·rintro L A W ⟨v, rfl, hR⟩ hi hw K hK
       have hk : L 9 = false := hR.w9.not (hR.w5.not hi rfl) rfl
       have e2 := hR.f2 (hw 2 (by simp))
       have e3 := hR.f3 (hw 3 (by simp))
       simp only [e2, e3]
       clear e2 e3
       go_simp
       refine hK.out _ _ ?_
       exact ⟨(fun jz => if jz = 46 then .slice (some ⟨lb, 0, none⟩) (p.n + 1) (p.n + 1) else if jz = 47 then .int .i64 (p.n : Int) else if jz = 48 then .pointer (some ⟨lb, p.n, none⟩) else v jz), rfl, ⟨(fun h => hR.st (upd_false h)), hR.f0.k, hR.f1.k, (fun _ => rfl), (fun _ => rfl), (fun _ => rfl), hR.f5.k, hR.f6.k, hR.f7.k, hR.x8.keepM rfl (fun h hx => h (upd_false hx)), hR.x9.keepM rfl (fun h hx => h (upd_false hx)), hR.f10.k, hR.s1.k, (fun _ j hj => upd_on (hw j hj)), hR.w5.o, hR.w7.o, hR.w8.o, hR.w9.o, hR.w10.o, hR.w11.o⟩⟩
      refine EachOf.cons [4] rfl (by kernel_rfl) ?_ ?_
      ·rintro L A W ⟨v, rfl, hR⟩ hi hw K hK
       have hk : L 9 = false := hR.w9.not hi rfl
       have e4 := hR.f4 (hw 4 (by simp))
       simp only [e4]
       clear e4
       have q0 := ((hR.st hk).cell (p := ⟨lb, p.n, none⟩) LL.out.2).trans LL.out.1
       go_simp
       refine hK.out _ _ ?_
       exact ⟨(fun jz => if jz = 48 then .pointer (some ⟨lb, p.n, none⟩) else if jz = 49 then .slice (P p.n) i (C p.n) else v jz), rfl, ⟨(fun h => hR.st (upd_false h)), hR.f0.k, hR.f1.k, hR.f2.k, hR.f3.k, (fun _ => rfl), (fun _ => rfl), hR.f6.k, hR.f7.k, hR.x8.keepM rfl (fun h hx => h (upd_false hx)), hR.x9.keepM rfl (fun h hx => h (upd_false hx)), hR.f10.k, hR.s1.k, hR.w4.o, (fun _ j hj => upd_on (hw j hj)), hR.w7.o, hR.w8.o, hR.w9.o, hR.w10.o, hR.w11.o⟩⟩
      refine EachOf.cons [] rfl (by kernel_rfl) ?_ ?_
      ·rintro L A W ⟨v, rfl, hR⟩ hi hw K hK
       have hk : L 9 = false := hR.w9.not (hR.w8.not (hR.w7.not hi rfl) rfl) rfl
       go_simp
       refine hK.out _ _ ?_
       exact ⟨(fun jz => if jz = 50 then .pointer (some ⟨rb, 2, none⟩) else v jz), rfl, ⟨(fun h => hR.st (upd_false h)), hR.f0.k, hR.f1.k, hR.f2.k, hR.f3.k, hR.f4.k, hR.f5.k, (fun _ => rfl), hR.f7.k, hR.x8.keepM rfl (fun h hx => h (upd_false hx)), hR.x9.keepM rfl (fun h hx => h (upd_false hx)), hR.f10.k, hR.s1.k, hR.w4.o, hR.w5.o, hR.w7.o, hR.w8.o, hR.w9.o, hR.w10.o, hR.w11.o⟩⟩
      refine EachOf.cons [6] rfl (by kernel_rfl) ?_ ?_
      ·rintro L A W ⟨v, rfl, hR⟩ hi hw K hK
       have hk : L 9 = false := hR.w9.not (hR.w8.not hi rfl) rfl
       have e6 := hR.f6 (hw 6 (by simp))
       simp only [e6]
       clear e6
       have q0 := ((hR.st hk).cell (p := ⟨rb, 2, none⟩) LR.out.2).trans LR.out.1
       go_simp
       refine hK.out _ _ ?_
       exact ⟨(fun jz => if jz = 50 then .pointer (some ⟨rb, 2, none⟩) else if jz = 51 then .int .i64 rt else v jz), rfl, ⟨(fun h => hR.st (upd_false h)), hR.f0.k, hR.f1.k, hR.f2.k, hR.f3.k, hR.f4.k, hR.f5.k, (fun _ => rfl), (fun _ => rfl), hR.x8.keepM rfl (fun h hx => h (upd_false hx)), hR.x9.keepM rfl (fun h hx => h (upd_false hx)), hR.f10.k, hR.s1.k, hR.w4.o, hR.w5.o, (fun _ j hj => upd_on (hw j hj)), hR.w8.o, hR.w9.o, hR.w10.o, hR.w11.o⟩⟩
      refine EachOf.cons [7] rfl (by kernel_rfl) ?_ ?_
      ·rintro L A W ⟨v, rfl, hR⟩ hi hw K hK
       have hk : L 9 = false := hR.w9.not hi rfl
       have hk11 : L 11 = false := hR.w11.not hi rfl
       have e7 := hR.f7 (hw 7 (by simp))
       simp only [e7]
       clear e7
       have hb : Below W.heap.size W (W.alloc _) := (Below.refl _ _).alloc (Nat.le_refl _) (Obj.cells #[.int .i64 rt] 3)
       go_simp
       refine hK.out _ _ ?_
       exact ⟨(fun jz => if jz = 51 then .int .i64 rt else if jz = 52 then .slice (some ⟨W.heap.size, 0, none⟩) 1 1 else v jz), rfl, ⟨(fun _ => below_on (hR.st hk) hb), hR.f0.k, hR.f1.k, hR.f2.k, hR.f3.k, hR.f4.k, hR.f5.k, hR.f6.k, (fun _ => rfl), (fun _ _ => ⟨W.heap.size, rfl, SlR.new _ _ _⟩), (fun h => absurd (upd_back h rfl) (by simp [hk])), hR.f10.k, (fun h => absurd (upd_back h rfl) (by simp [hk11])), hR.w4.o, hR.w5.o, hR.w7.o, (fun _ j hj => upd_on (hw j hj)), hR.w9.o, hR.w10.o, hR.w11.o⟩⟩
      refine EachOf.cons [5, 8] rfl (by kernel_rfl) ?_ ?_
      ·rintro L A W ⟨v, rfl, hR⟩ hi hw K hK
       have hk : L 9 = false := hi
       have hk11 : L 11 = false := hR.w11.not hi rfl
       have e5 := hR.f5 (hw 5 (by simp))
       simp only [e5]
       clear e5
       obtain ⟨B8, e8, hB8⟩ := hR.x8 (hw 8 (by simp)) hk
       simp only [e8]
       have hb := hR.st hi
       have ho := own_only LO.out (Only.of_below (S := fun _ => False) hb) (fun _ _ q => q)
       simp only [List.getElem_toArray, List.getElem_cons_succ, List.getElem_cons_zero]
       rw [if_pos (show Region.wanted _ _ = true by rfl)]
       refine wp_append_lies W _ _ 22 (by rfl) (lb + 1) 3 i0 (.int .i64 0) 1 8 Tryz.underlying22 HI.out.1 HI.out.2.1 HI.out.2.2.1 HI.out.2.2.2 rfl (by decide) (.slice (P p.n) i (C p.n)) i _ (by rfl) ho ⟨B8, 0, none⟩ 1 1 [.int .i64 rt] (by rfl) rfl (SlR.news hB8) (by intro u hu; simp at hu; subst hu; rfl) (by omega) (by unfold maxLen; omega) (by omega) (Nat.le_trans LB.out hb.size) _ rfl ?_
       intro g cap w1 hown hgrow hat hlt
       refine hK.out _ _ ?_
       exact ⟨(fun jz => if jz = 49 then .slice (P p.n) i (C p.n) else if jz = 52 then .slice (some ⟨B8, 0, none⟩) 1 1 else if jz = 53 then .slice (some ⟨g, 0, none⟩) (i + 1) cap else v jz), rfl, ⟨(fun h => by simp [upd_self] at h), hR.f0.k, hR.f1.k, hR.f2.k, hR.f3.k, hR.f4.k, (fun _ => rfl), hR.f6.k, hR.f7.k, (fun _ h => by simp [upd_self] at h), (fun _ _ => AppW.make hb hgrow hown hat hlt), hR.f10.k, (fun h => absurd (upd_back h rfl) (by simp [hk11])), hR.w4.o, hR.w5.o, hR.w7.o, hR.w8.o, (fun _ j hj => upd_on (hw j hj)), hR.w10.o, hR.w11.o⟩⟩
      refine EachOf.cons [0, 1] rfl (by kernel_rfl) ?_ ?_
      ·rintro L A W ⟨v, rfl, hR⟩ hi hw K hK
       have e0 := hR.f0 (hw 0 (by simp))
       have e1 := hR.f1 (hw 1 (by simp))
       simp only [e0, e1]
       clear e0 e1
       go_simp
       refine hK.out _ _ ?_
       exact ⟨(fun jz => if jz = 44 then .slice (some ⟨lb, 0, none⟩) (p.n + 1) (p.n + 1) else if jz = 45 then .int .i64 (p.n : Int) else if jz = 54 then .pointer (some ⟨lb, p.n, none⟩) else v jz), rfl, ⟨(fun h => hR.st (upd_false h)), (fun _ => rfl), (fun _ => rfl), hR.f2.k, hR.f3.k, hR.f4.k, hR.f5.k, hR.f6.k, hR.f7.k, hR.x8.keepM rfl (fun h hx => h (upd_false hx)), hR.x9.keepM rfl (fun h hx => h (upd_false hx)), (fun _ => rfl), hR.s1.k, hR.w4.o, hR.w5.o, hR.w7.o, hR.w8.o, hR.w9.o, (fun _ j hj => upd_on (hw j hj)), hR.w11.o⟩⟩
      refine EachOf.cons [0, 1, 2, 3, 4, 5, 6, 7, 8, 9, 10] rfl (by kernel_rfl) ?_ ?_
      ·rintro L A W ⟨v, rfl, hR⟩ hi hw K hK
       have e10 := hR.f10 (hw 10 (by simp))
       simp only [e10]
       clear e10
       have hA := hR.x9 (hw 9 (by simp)) hi
       obtain ⟨gq, capq, hzz, hcase, hl⟩ := hA.form
       rw [hzz] at hA
       simp only [hzz]
       have qf1 := (hA.only.cell (p := ⟨lb, p.n, none⟩) LL.out.2 LN.out).trans LL.out.1
       have qf2 := (hA.only.frozen (p := ⟨lb, p.n, none⟩) LL.out.2 LN.out).trans LF.out
       go_simp
       refine hK.out _ _ ?_
       exact ⟨(fun jz => if jz = 54 then .pointer (some ⟨lb, p.n, none⟩) else if jz = 53 then .slice (some ⟨gq, 0, none⟩) (i + 1) capq else v jz), rfl, ⟨(fun h => absurd (hw 9 (by simp)) (by simp [upd_false h])), hR.f0.k, hR.f1.k, hR.f2.k, hR.f3.k, hR.f4.k, hR.f5.k, hR.f6.k, hR.f7.k, (fun _ h => absurd (hw 9 (by simp)) (by simp [upd_false h])), (fun _ h => by simp [upd_self] at h), (fun _ => rfl), (fun _ => ⟨W, gq, capq, hA, rfl⟩), hR.w4.o, hR.w5.o, hR.w7.o, hR.w8.o, hR.w9.o, hR.w10.o, (fun _ j hj => upd_on (hw j hj))⟩⟩
      exact EachOf.nil
     rintro L A W ⟨v, rfl, hR⟩ hL
     obtain ⟨W5, gq, cap, hA, rfl⟩ := hR.s1 (hL 11 (by simp))
     have hqq : (Value.slice (P p.n) i (C p.n)).ownBlock = some gq ∨ W3.heap.size ≤ gq := by
      obtain ⟨g2, cap2, h1, h2, h3⟩ := hA.form
      have e4 : gq = g2 := by injection h1 with e1 e2 e3; injection e1 with e1; injection e1
      rw [e4]; exact h2
     have T : Hid (LsG w.heap.size (W5.setCell ⟨lb, p.n, none⟩ (.slice (some ⟨gq, 0, none⟩) (i + 1) cap)) lb (p.n + 1) (updG P p.n (some ⟨gq, 0, none⟩)) (updG C p.n cap) (fun _ => i + 1) (wF p) ∧ Below w.heap.size w (W5.setCell ⟨lb, p.n, none⟩ (.slice (some ⟨gq, 0, none⟩) (i + 1) cap))) := by
      have h1 := S.out.1.push (j0 := p.n) (k := i) (by omega) hii HRT.out hA.only hA.own hqq
      rw [updG_cnt] at h1
      exact ⟨h1.cong (fun j hj => (if_pos hj).symm), (S.out.2.1.trans (hA.only.below S.out.2.1.size (fun c hc => by have := LO.out.lt c hc; have := S.out.1.lo; omega))).setCell (p := ⟨lb, p.n, none⟩) S.out.1.lo _⟩
     clear hqq hA hR hL LL LR LO LB LN LF S HIR HW1 HRT
     go_wp2_with fail
     rw [← er]
     go_roundg (p.m - (i + 1))
     case measure => omega
     case rel => exact ⟨i + 1, rfl, rfl, by omega, _, _, T⟩
  ·have e : i = p.m := by omega
   subst e
   have CS := Lib.hid (sums_any (some ⟨lb, 0, none⟩) (p.n + 1) (p.n + 1) P (fun _ => p.m) C (wF p) xa p.m xc X W1 S.out.1.ls (HX.out.on S.out.2) (fun k hk => Nat.le_refl _) (by omega) (by omega) HVX.out (fun k hk j hj => by
    unfold wF
    by_cases e : k < p.n
    ·rw [if_pos e]; have := HV.out.z j hj k e; omega
    ·rw [if_neg e]; exact HV.out.r j hj))
   go_wp2_with fail
   (with_reducible refine ((CS.out).mono ?_))
   rintro e w' ⟨hb, h⟩
   have HBE := Lib.hid (below_on S.out.2 hb)
   have hle := S.out.2.size
   rcases h with ⟨ab, rfl, h1, h2, h3⟩ | ⟨rfl, h1⟩
   ·have HE := Lib.hid (And.intro (Nat.le_trans hle h1) (And.intro h2 h3))
    clear h1 h2 h3 hb CS S
    go_wp2_with fail
    go_ret2
    exact ⟨HBE.out, .inl ⟨ab, rfl, HE.out.1, HE.out.2.1, HE.out.2.2⟩⟩
   ·have HE := Lib.hid h1
    clear h1 hb CS S
    go_wp2_with fail
    go_ret2
    exact ⟨HBE.out, .inr ⟨rfl, HE.out⟩⟩
end Go.Proofs.YtggpdhdbeokkcaaGreat

namespace Go.Proofs.YtggpdhdbeokkcaaGreat
set_option linter.unusedVariables false
open Go.RowKit Go.Shelf

structure CpdR (gb : Nat) (a d n k : Int) (Wc : World) (L : Nat → Bool) (v : Nat → Value) (W : World) : Prop where
 st : Below Wc.heap.size Wc W
 f0 : Had L 0 (v 8 = .agg #[.int .i64 a, .int .i64 d])
 f1 : Had L 1 (v 9 = .int .i64 n)
 f2 : Had L 2 (v 10 = .agg #[.int .i64 n, .int .i64 1])
 f3 : Had L 3 (v 11 = .tuple #[.int .i64 k, .int .i64 0])
 f4 : Had L 4 (v 7 = .tuple #[.int .i64 k, .int .i64 0])
 f5 : Had L 5 (v 12 = .int .i64 k)
 f6 : Had L 6 (v 13 = .int .i64 0)
 f7 : Had L 7 (v 5 = .int .i64 k)
 f8 : Had L 8 (v 6 = .int .i64 0)
 w2 : Had L 2 (∀ j ∈ [1], L j = true)
 w3 : Had L 3 (∀ j ∈ [0, 2], L j = true)
 w4 : Had L 4 (∀ j ∈ [3], L j = true)
 w5 : Had L 5 (∀ j ∈ [4], L j = true)
 w6 : Had L 6 (∀ j ∈ [4], L j = true)
 w7 : Had L 7 (∀ j ∈ [5], L j = true)
 w8 : Had L 8 (∀ j ∈ [6], L j = true)

def cmpI (a d n : Int) : Int := sgn (a * 1 + -n * d)
set_option maxHeartbeats 2000000 in
theorem compared_any (a d n : Int) (w : World) (hv : Vld a d) (hn : -1073741824 ≤ n ∧ n ≤ 1073741824) :
  Calls Tryz.prog 71 #[.agg #[.int .i64 a, .int .i64 d], .int .i64 n] w fun e w' => e = .returned (.int .i64 (cmpI a d n)) ∧ Below w.heap.size w w' := by
 obtain ⟨k, hk⟩ : ∃ k, cmpI a d n = k := ⟨_, rfl⟩
 have hc : cmpT a d n 1 = (k, 0) := by
  unfold cmpT
  rw [if_pos ⟨vB_yes hv, vB_yes (vld_one hn)⟩, ← hk]; rfl
 have v1 := hv.d1
 have v2 := hv.d2
 have v3 := hv.n1
 have v4 := hv.n2
 have CM := fun W => Lib.hid (Cmp_any a d n 1 W (by omega) (by omega) (by omega) (by omega) (by omega) (by omega) (by omega) (by omega) k 0 hc)
 rw [hk]
 clear hc hk v1 v2 v3 v4 hv hn
 have hb1 : Below w.heap.size w (w.alloc (Obj.cells #[Value.int IntKind.i64 a, Value.int IntKind.i64 d] 27)) := (Below.refl _ _).alloc (Nat.le_refl _) _
 obtain ⟨W1, hW1⟩ : ∃ W, W = w.alloc (Obj.cells #[Value.int IntKind.i64 a, Value.int IntKind.i64 d] 27) := ⟨_, rfl⟩
 obtain ⟨gb, hgb⟩ : ∃ x, x = w.heap.size := ⟨_, rfl⟩
 have B1 : Blk W1 gb (.int .i64 a) (.int .i64 d) := by rw [hW1, hgb]; exact Blk.new _ _ _ _
 rw [← hW1] at hb1
 have HB := Lib.hid hb1
 have LX0 : Hid (W1.cell? ⟨gb, 0, none⟩ = some (.int .i64 a) ∧ gb < W1.heap.size) := ⟨B1.2.1, B1.1⟩
 have LX1 : Hid (W1.cell? ⟨gb, 1, none⟩ = some (.int .i64 d) ∧ gb < W1.heap.size) := ⟨B1.2.2, B1.1⟩
 clear hb1 B1
 go_enter Tryz.func71, Tryz.ntmps71
 go_upto_region 1 with fail
 rw [← hgb, ← hW1]
 clear hgb hW1
 refine wp_region_each (fun L A W => ∃ (v : Nat → Value), A = ⟨#[_, _, _, _, _, v 5, v 6, v 7, v 8, v 9, v 10, v 11, v 12, v 13, _], []⟩ ∧ CpdR gb a d n k W1 L v W) (by kernel_rfl) (by kernel_rfl) ⟨fun jz => if jz = 8 then undef else if jz = 9 then undef else if jz = 10 then undef else if jz = 11 then undef else if jz = 7 then undef else if jz = 12 then undef else if jz = 13 then undef else if jz = 5 then undef else if jz = 6 then undef else undef, rfl, ⟨Below.drew (Below.refl _ _), Had.none, Had.none, Had.none, Had.none, Had.none, Had.none, Had.none, Had.none, Had.none, Had.none, Had.none, Had.none, Had.none, Had.none, Had.none, Had.none⟩⟩ (rs := [0, 1, 2, 3, 4, 5, 6, 7, 8]) (by kernel_rfl) ?_ ?_
 ·refine EachOf.cons [] rfl (by kernel_rfl) ?_ ?_
  ·rintro L A W ⟨v, rfl, hR⟩ hi hw K hK
   have q0 := (hR.st.cell (p := ⟨gb, 0, none⟩) LX0.out.2).trans LX0.out.1
   have q1 := (hR.st.cell (p := ⟨gb, 1, none⟩) LX1.out.2).trans LX1.out.1
   go_simp
   refine hK.out _ _ ?_
   exact ⟨(fun jz => if jz = 8 then .agg #[.int .i64 a, .int .i64 d] else v jz), rfl, ⟨hR.st, (fun _ => rfl), hR.f1.k, hR.f2.k, hR.f3.k, hR.f4.k, hR.f5.k, hR.f6.k, hR.f7.k, hR.f8.k, hR.w2.o, hR.w3.o, hR.w4.o, hR.w5.o, hR.w6.o, hR.w7.o, hR.w8.o⟩⟩
  refine EachOf.cons [] rfl (by kernel_rfl) ?_ ?_
  ·rintro L A W ⟨v, rfl, hR⟩ hi hw K hK
   go_simp
   refine hK.out _ _ ?_
   exact ⟨(fun jz => if jz = 9 then .int .i64 n else v jz), rfl, ⟨hR.st, hR.f0.k, (fun _ => rfl), hR.f2.k, hR.f3.k, hR.f4.k, hR.f5.k, hR.f6.k, hR.f7.k, hR.f8.k, hR.w2.o, hR.w3.o, hR.w4.o, hR.w5.o, hR.w6.o, hR.w7.o, hR.w8.o⟩⟩
  refine EachOf.cons [1] rfl (by kernel_rfl) ?_ ?_
  ·rintro L A W ⟨v, rfl, hR⟩ hi hw K hK
   have e1 := hR.f1 (hw 1 (by simp))
   simp only [e1]
   clear e1
   go_simp
   go_at_call 94
   (with_reducible refine (((Lib.hid (whole_any n W))).out.mono ?_))
   rintro e w2 ⟨rfl, hb⟩
   go_simp
   refine hK.out _ _ ?_
   exact ⟨(fun jz => if jz = 9 then .int .i64 n else if jz = 10 then .agg #[.int .i64 n, .int .i64 1] else v jz), rfl, ⟨below_on hR.st hb, hR.f0.k, (fun _ => rfl), (fun _ => rfl), hR.f3.k, hR.f4.k, hR.f5.k, hR.f6.k, hR.f7.k, hR.f8.k, (fun _ j hj => upd_on (hw j hj)), hR.w3.o, hR.w4.o, hR.w5.o, hR.w6.o, hR.w7.o, hR.w8.o⟩⟩
  refine EachOf.cons [0, 2] rfl (by kernel_rfl) ?_ ?_
  ·rintro L A W ⟨v, rfl, hR⟩ hi hw K hK
   have e0 := hR.f0 (hw 0 (by simp))
   have e2 := hR.f2 (hw 2 (by simp))
   simp only [e0, e2]
   clear e0 e2
   go_simp
   go_at_call 103
   (with_reducible refine (((CM W)).out.mono ?_))
   rintro e w2 ⟨rfl, hb⟩
   go_simp
   refine hK.out _ _ ?_
   exact ⟨(fun jz => if jz = 8 then .agg #[.int .i64 a, .int .i64 d] else if jz = 10 then .agg #[.int .i64 n, .int .i64 1] else if jz = 11 then .tuple #[.int .i64 k, .int .i64 0] else v jz), rfl, ⟨below_on hR.st hb, (fun _ => rfl), hR.f1.k, (fun _ => rfl), (fun _ => rfl), hR.f4.k, hR.f5.k, hR.f6.k, hR.f7.k, hR.f8.k, hR.w2.o, (fun _ j hj => upd_on (hw j hj)), hR.w4.o, hR.w5.o, hR.w6.o, hR.w7.o, hR.w8.o⟩⟩
  refine EachOf.cons [3] rfl (by kernel_rfl) ?_ ?_
  ·rintro L A W ⟨v, rfl, hR⟩ hi hw K hK
   have e3 := hR.f3 (hw 3 (by simp))
   simp only [e3]
   clear e3
   go_simp
   refine hK.out _ _ ?_
   exact ⟨(fun jz => if jz = 11 then .tuple #[.int .i64 k, .int .i64 0] else if jz = 7 then .tuple #[.int .i64 k, .int .i64 0] else v jz), rfl, ⟨hR.st, hR.f0.k, hR.f1.k, hR.f2.k, (fun _ => rfl), (fun _ => rfl), hR.f5.k, hR.f6.k, hR.f7.k, hR.f8.k, hR.w2.o, hR.w3.o, (fun _ j hj => upd_on (hw j hj)), hR.w5.o, hR.w6.o, hR.w7.o, hR.w8.o⟩⟩
  refine EachOf.cons [4] rfl (by kernel_rfl) ?_ ?_
  ·rintro L A W ⟨v, rfl, hR⟩ hi hw K hK
   have e4 := hR.f4 (hw 4 (by simp))
   simp only [e4]
   clear e4
   go_simp
   refine hK.out _ _ ?_
   exact ⟨(fun jz => if jz = 7 then .tuple #[.int .i64 k, .int .i64 0] else if jz = 12 then .int .i64 k else v jz), rfl, ⟨hR.st, hR.f0.k, hR.f1.k, hR.f2.k, hR.f3.k, (fun _ => rfl), (fun _ => rfl), hR.f6.k, hR.f7.k, hR.f8.k, hR.w2.o, hR.w3.o, hR.w4.o, (fun _ j hj => upd_on (hw j hj)), hR.w6.o, hR.w7.o, hR.w8.o⟩⟩
  refine EachOf.cons [4] rfl (by kernel_rfl) ?_ ?_
  ·rintro L A W ⟨v, rfl, hR⟩ hi hw K hK
   have e4 := hR.f4 (hw 4 (by simp))
   simp only [e4]
   clear e4
   go_simp
   refine hK.out _ _ ?_
   exact ⟨(fun jz => if jz = 7 then .tuple #[.int .i64 k, .int .i64 0] else if jz = 13 then .int .i64 0 else v jz), rfl, ⟨hR.st, hR.f0.k, hR.f1.k, hR.f2.k, hR.f3.k, (fun _ => rfl), hR.f5.k, (fun _ => rfl), hR.f7.k, hR.f8.k, hR.w2.o, hR.w3.o, hR.w4.o, hR.w5.o, (fun _ j hj => upd_on (hw j hj)), hR.w7.o, hR.w8.o⟩⟩
  refine EachOf.cons [5] rfl (by kernel_rfl) ?_ ?_
  ·rintro L A W ⟨v, rfl, hR⟩ hi hw K hK
   have e5 := hR.f5 (hw 5 (by simp))
   simp only [e5]
   clear e5
   go_simp
   refine hK.out _ _ ?_
   exact ⟨(fun jz => if jz = 12 then .int .i64 k else if jz = 5 then .int .i64 k else v jz), rfl, ⟨hR.st, hR.f0.k, hR.f1.k, hR.f2.k, hR.f3.k, hR.f4.k, (fun _ => rfl), hR.f6.k, (fun _ => rfl), hR.f8.k, hR.w2.o, hR.w3.o, hR.w4.o, hR.w5.o, hR.w6.o, (fun _ j hj => upd_on (hw j hj)), hR.w8.o⟩⟩
  refine EachOf.cons [6] rfl (by kernel_rfl) ?_ ?_
  ·rintro L A W ⟨v, rfl, hR⟩ hi hw K hK
   have e6 := hR.f6 (hw 6 (by simp))
   simp only [e6]
   clear e6
   go_simp
   refine hK.out _ _ ?_
   exact ⟨(fun jz => if jz = 13 then .int .i64 0 else if jz = 6 then .int .i64 0 else v jz), rfl, ⟨hR.st, hR.f0.k, hR.f1.k, hR.f2.k, hR.f3.k, hR.f4.k, hR.f5.k, (fun _ => rfl), hR.f7.k, (fun _ => rfl), hR.w2.o, hR.w3.o, hR.w4.o, hR.w5.o, hR.w6.o, hR.w7.o, (fun _ j hj => upd_on (hw j hj))⟩⟩
  exact EachOf.nil
 rintro L A W ⟨v, rfl, hR⟩ hL
 have e7 := hR.f7 (hL 7 (by simp))
 have e8 := hR.f8 (hL 8 (by simp))
 simp only [e7, e8]
 have HB2 := Lib.hid (below_on HB.out hR.st)
 clear e7 e8 hR hL CM LX0 LX1 HB
 go_wp2_with fail
 go_ret
 exact ⟨rfl, HB2.out⟩

def satB (k o : Int) : Bool := if k = 1 then decide (o ≤ 0) else if k = 2 then decide (0 ≤ o) else decide (o = 0)
set_option maxHeartbeats 2000000 in
theorem satisfies_any (a d : Int) (ra : Option Addr) (ln kc : Nat) (k r : Int) (w : World) (hv : Vld a d) (hn : -1073741824 ≤ r ∧ r ≤ 1073741824) (hk : 1 ≤ k ∧ k ≤ 3) :
  Calls Tryz.prog 69 #[.agg #[.int .i64 a, .int .i64 d], .agg #[.slice ra ln kc, .int .i64 k, .int .i64 r]] w fun e w' => e = .returned (.bool (satB k (cmpI a d r))) ∧ Below w.heap.size w w' := by
 have CC := fun W => Lib.hid (compared_any a d r W hv hn)
 obtain ⟨o, ho⟩ : ∃ o, cmpI a d r = o := ⟨_, rfl⟩
 rw [ho] at CC
 rw [ho]
 clear ho hv hn
 obtain ⟨w2, hw2⟩ : ∃ W, W = (w.alloc (Obj.cells #[Value.int IntKind.i64 a, Value.int IntKind.i64 d] 27)).alloc (Obj.cells #[.slice ra ln kc, .int .i64 k, .int .i64 r] 53) := ⟨_, rfl⟩
 obtain ⟨gb, hgb⟩ : ∃ x, x = w.heap.size := ⟨_, rfl⟩
 obtain ⟨rb, hrb⟩ : ∃ x, x = gb + 1 := ⟨_, rfl⟩
 have hb2 : Below w.heap.size w w2 := by rw [hw2]; exact ((Below.refl _ _).alloc (Nat.le_refl _) _).alloc (by simp) _
 have hB : Blk w2 gb (.int .i64 a) (.int .i64 d) := by rw [hw2, hgb]; exact (Blk.new _ _ _ _).on ((Below.refl _ _).alloc (Nat.le_refl _) _)
 have hE : EBlk w2 rb (.slice ra ln kc) (.int .i64 k) (.int .i64 r) := by
  have e : rb = (w.alloc (Obj.cells #[Value.int IntKind.i64 a, Value.int IntKind.i64 d] 27)).heap.size := by rw [hrb, hgb]; simp
  rw [hw2, e]
  exact ⟨by simp, by simp [go_sem], by simp [go_sem], by simp [go_sem], by simp [go_sem], by simp [go_sem], by simp [go_sem]⟩
 have HB := Lib.hid hb2
 have HE := Lib.hid hE
 have q0 := hB.2.1
 have q1 := hB.2.2
 have q2 := hE.c2
 clear hb2 hB hE
 go_enter Tryz.func69, Tryz.ntmps69
 go_upto_region 1 with fail
 rw [← hgb, ← hrb, ← hw2]
 clear hgb hrb hw2
 go_wp2_with fail
 (with_reducible refine (((CC _).out).mono ?_))
 rintro e w3 ⟨rfl, hb3⟩
 have HB3 := Lib.hid (below_on HB.out hb3)
 have q3 := (HE.out.on hb3).c1
 clear hb3 HB HE q0 q1 q2 CC
 obtain rfl | rfl | rfl : k = 1 ∨ k = 2 ∨ k = 3 := by omega
 ·go_wp2_with fail
  go_ret
  exact ⟨rfl, HB3.out⟩
 ·go_wp2_with fail
  go_ret
  exact ⟨rfl, HB3.out⟩
 ·go_wp2_with fail
  go_ret
  exact ⟨rfl, HB3.out⟩

/-- Fractions, read one by one. -/
theorem idxF_any (fn : Nat) (bnd : Array Value) (xa : Option Addr) (m rc : Nat) (X : Nat → Int × Int) (q : Nat → Bool) (w : World) (hx : IFr w xa m X) (hm : m ≤ 9223372036854775806) (eg : ∀ args w, (callFunc fn args).run Tryz.prog w = .ok (.enter fn args) w)
  (CP : ∀ i, i < m → ∀ W, Below w.heap.size w W → Calls Tryz.prog fn (#[.agg #[.int .i64 (X i).1, .int .i64 (X i).2]] ++ bnd) W fun e w' => e = .returned (.bool (q i)) ∧ Below W.heap.size W w') :
  Calls Tryz.prog 99 #[.slice xa m rc, .func (.func fn) #[] bnd] w fun e w' => Below w.heap.size w w' ∧ ((e = .returned (.int .i64 (-1)) ∧ ∀ i, i < m → q i = false) ∨ ∃ i, i < m ∧ e = .returned (.int .i64 (i : Nat)) ∧ q i = true) := by
 have HP := Lib.hid CP
 have HX := Lib.hid hx
 clear CP hx
 go_enter Tryz.func99, Tryz.ntmps99
 go_wp2_with fail
 have S0 : Hid (Below w.heap.size w w ∧ ∀ l, l < 0 → q l = false) := ⟨Below.refl _ _, fun l h => by omega⟩
 go_loopg [8] m (fun g s8 wx => ∃ i : Nat, s8 = .int .i64 i ∧ g = m - i ∧ i ≤ m ∧ Hid (Below w.heap.size w wx ∧ ∀ l, l < i → q l = false))
 case atStart => exact ⟨0, rfl, rfl, Nat.zero_le _, S0⟩
 case round =>
  clear S0
  obtain ⟨i, rfl, rfl, hi, S⟩ := hrel
  rename World => W1
  by_cases hlt : i < m
  ·have wk : IntKind.i64.wrap ((i : Int) + 1) = ((i + 1 : Nat) : Int) := by rw [IntWalk.i64_in _ (by omega)]; omega
   obtain ⟨g, o, ex, hg, hr⟩ := HX.out (by omega)
   have p1 := (S.out.1.cell (p := ⟨g, o + i * 2, none⟩) hg).trans (hr i hlt).1
   have p2 := (S.out.1.cell (p := ⟨g, o + i * 2 + 1, none⟩) hg).trans (hr i hlt).2
   have CI := Lib.hid (HP.out i hlt W1 S.out.1)
   rw [ex]
   clear hr
   go_wp2_with fail
   (with_reducible refine ((CI.out).mono ?_))
   rintro e w2 ⟨rfl, hb⟩
   have HB := Lib.hid (below_on S.out.1 hb)
   clear CI p1 p2 hb
   cases hq : q i
   ·have HQ := Lib.hid hq
    go_wp2_with fail
    have T : Hid (Below w.heap.size w w2 ∧ ∀ l, l < i + 1 → q l = false) := ⟨HB.out, fun l hl => by
     by_cases e : l = i
     ·rw [e]; exact HQ.out
     ·exact S.out.2 l (by omega)⟩
    rw [← ex]
    go_roundg (m - (i + 1))
    case measure => omega
    case rel => exact ⟨i + 1, rfl, rfl, by omega, T⟩
   ·have HQ := Lib.hid hq
    go_wp2_with fail
    go_ret
    exact ⟨HB.out, .inr ⟨i, hlt, rfl, HQ.out⟩⟩
  ·have e : i = m := by omega
   subst e
   go_wp2_with fail
   go_ret
   exact ⟨S.out.1, .inl ⟨rfl, S.out.2⟩⟩
theorem contF_any (fn : Nat) (bnd : Array Value) (xa : Option Addr) (m rc : Nat) (X : Nat → Int × Int) (q : Nat → Bool) (w : World) (hx : IFr w xa m X) (hm : m ≤ 9223372036854775806) (eg : ∀ args w, (callFunc fn args).run Tryz.prog w = .ok (.enter fn args) w)
  (CP : ∀ i, i < m → ∀ W, Below w.heap.size w W → Calls Tryz.prog fn (#[.agg #[.int .i64 (X i).1, .int .i64 (X i).2]] ++ bnd) W fun e w' => e = .returned (.bool (q i)) ∧ Below W.heap.size W w') (v : Bool) (hv : v = true ↔ ∃ i, i < m ∧ q i = true) :
  Calls Tryz.prog 65 #[.slice xa m rc, .func (.func fn) #[] bnd] w fun e w' => e = .returned (.bool v) ∧ Below w.heap.size w w' := by
 have CI := Lib.hid (idxF_any fn bnd xa m rc X q w hx hm eg CP)
 have HV := Lib.hid hv
 clear hx eg CP hv
 go_enter Tryz.func65, Tryz.ntmps65
 go_wp2_with fail
 (with_reducible refine ((CI.out).mono ?_))
 rintro e w2 ⟨hb, ⟨rfl, h⟩ | ⟨i, hi, rfl, h⟩⟩
 ·have HD : Hid (v = false) := by
   cases v
   ·rfl
   ·obtain ⟨i, hi, hq⟩ := HV.out.1 rfl
    rw [h i hi] at hq; cases hq
  clear h
  go_wp2_with fail
  go_ret
  exact ⟨by rw [HD.out]; simp, hb⟩
 ·have HD : Hid (v = true) := HV.out.2 ⟨i, hi, h⟩
  clear h
  go_wp2_with fail
  go_ret
  exact ⟨by rw [HD.out]; simp, hb⟩

/-- The numbers of fractions are ints. -/
def FrB (N : Nat) (X : Nat → Int × Int) : Prop := ∀ j, j < N → (-9223372036854775808 ≤ (X j).1 ∧ (X j).1 ≤ 9223372036854775807) ∧ -9223372036854775808 ≤ (X j).2 ∧ (X j).2 ≤ 9223372036854775807
def FrV (N : Nat) (X : Nat → Int × Int) : Prop := ∀ j, j < N → Vld (X j).1 (X j).2
theorem pvalid_pred (a d : Int) (w : World) (ha : -9223372036854775808 ≤ a ∧ a ≤ 9223372036854775807) (hd : -9223372036854775808 ≤ d ∧ d ≤ 9223372036854775807) :
  Calls Tryz.prog 66 #[.agg #[.int .i64 a, .int .i64 d]] w fun e w' => e = .returned (.bool (!vB a d)) ∧ Below w.heap.size w w' := by
 have CV := fun W => Lib.hid (Valid_any a d W ha.1 ha.2 hd.1 hd.2)
 have hb1 : Below w.heap.size w (w.alloc (Obj.cells #[Value.int IntKind.i64 a, Value.int IntKind.i64 d] 27)) := (Below.refl _ _).alloc (Nat.le_refl _) _
 obtain ⟨t, ht⟩ : ∃ t, vB a d = t := ⟨_, rfl⟩
 rw [ht] at CV
 rw [ht]
 have HB := Lib.hid hb1
 clear hb1 ht ha hd
 go_enter Tryz.func66, Tryz.ntmps66
 go_wp2_with fail
 (with_reducible refine (((CV _).out).mono ?_))
 rintro e w2 ⟨rfl, hb⟩
 go_wp2_with fail
 go_ret
 exact ⟨rfl, below_on HB.out hb⟩
theorem pvld_any (xa : Option Addr) (N xc : Nat) (X : Nat → Int × Int) (w : World) (hx : IFr w xa N X) (hb : FrB N X) (hN : N ≤ 9223372036854775806) (v : Bool) (hv : v = true ↔ FrV N X) :
  Calls Tryz.prog 27 #[.slice xa N xc] w fun e w' => e = .returned (.bool v) ∧ Below w.heap.size w w' := by
 have eg : ∀ args w, (callFunc 66 args).run Tryz.prog w = .ok (.enter 66 args) w := enters_of Tryz.func66 (by kernel_rfl) rfl
 have CC := Lib.hid (contF_any 66 #[] xa N xc X (fun i => !vB (X i).1 (X i).2) w hx hN eg (fun i hi W _ => pvalid_pred _ _ W (hb i hi).1 (hb i hi).2) (!v) (by
  constructor
  ·intro h
   refine Classical.byContradiction fun q => ?_
   have : v = true := hv.2 fun j hj => Classical.byContradiction fun g => q ⟨j, hj, by rw [vB_no g]; rfl⟩
   rw [this] at h; cases h
  ·rintro ⟨i, hi, h⟩
   cases e : v
   ·rfl
   ·rw [vB_yes (hv.1 e i hi)] at h; cases h))
 clear hx hb eg hv
 go_enter Tryz.func27, Tryz.ntmps27
 go_wp2_with fail
 (with_reducible refine ((CC.out).mono ?_))
 rintro e w2 ⟨rfl, hb⟩
 have HB := Lib.hid hb
 clear hb CC
 go_wp2_with fail
 go_ret
 exact ⟨by simp, HB.out⟩
theorem pneg_pred (a d : Int) (w : World) :
  Calls Tryz.prog 70 #[.agg #[.int .i64 a, .int .i64 d]] w fun e w' => e = .returned (.bool (decide (a < 0))) ∧ Below w.heap.size w w' := by
 have hb1 : Below w.heap.size w (w.alloc (Obj.cells #[Value.int IntKind.i64 a, Value.int IntKind.i64 d] 27)) := (Below.refl _ _).alloc (Nat.le_refl _) _
 have HB := Lib.hid hb1
 clear hb1
 go_enter Tryz.func70, Tryz.ntmps70
 go_wp2_with fail
 go_ret
 exact ⟨rfl, HB.out⟩

set_option maxHeartbeats 4000000 in
theorem allAtMost_any (xa : Option Addr) (Kn xc : Nat) (X : Nat → Int × Int) (ca : Option Addr) (n cc : Nat) (f : Nat → Int) (w : World) (hx : IFr w xa Kn X) (hc : IRow w ca n f) (hnk : n ≤ Kn) (hK : Kn ≤ 1000) (hv : FrV Kn X) (hf : ∀ j, j < n → -1073741824 ≤ f j ∧ f j ≤ 1073741824) (v : Bool) (hvv : v = true ↔ ∀ j, j < n → cmpI (X j).1 (X j).2 (f j) ≤ 0) :
  Calls Tryz.prog 33 #[.slice xa Kn xc, .slice ca n cc] w fun e w' => e = .returned (.bool v) ∧ Below w.heap.size w w' := by
 have HX := Lib.hid hx
 have HC := Lib.hid hc
 have HV := Lib.hid hv
 have HF := Lib.hid hf
 have HVV := Lib.hid hvv
 clear hx hc hv hf hvv
 go_enter Tryz.func33, Tryz.ntmps33
 go_wp2_with fail
 have S0 : Hid (Below w.heap.size w w ∧ ∀ l, l < 0 → cmpI (X l).1 (X l).2 (f l) ≤ 0) := ⟨Below.refl _ _, fun l h => by omega⟩
 go_loopg [9] n (fun g s9 wx => ∃ i : Nat, s9 = .int .i64 i ∧ g = n - i ∧ i ≤ n ∧ Hid (Below w.heap.size w wx ∧ ∀ l, l < i → cmpI (X l).1 (X l).2 (f l) ≤ 0))
 case atStart => exact ⟨0, rfl, rfl, Nat.zero_le _, S0⟩
 case round =>
  clear S0
  obtain ⟨i, rfl, rfl, hi, S⟩ := hrel
  rename World => W1
  by_cases hlt : i < n
  ·have wk : IntKind.i64.wrap ((i : Int) + 1) = ((i + 1 : Nat) : Int) := by rw [IntWalk.i64_in _ (by omega)]; omega
   obtain ⟨g, o, ex, hg, hr⟩ := HX.out (by omega)
   obtain ⟨cg, co, ec, hcg, hcr⟩ := HC.out (by omega)
   have p1 := (S.out.1.cell (p := ⟨g, o + i * 2, none⟩) hg).trans (hr i (by omega)).1
   have p2 := (S.out.1.cell (p := ⟨g, o + i * 2 + 1, none⟩) hg).trans (hr i (by omega)).2
   have p3 := (S.out.1.cell (p := ⟨cg, co + i, none⟩) hcg).trans (hcr i hlt)
   have CC := fun W => Lib.hid (compared_any (X i).1 (X i).2 (f i) W (HV.out i (by omega)) (HF.out i hlt))
   obtain ⟨k, hk⟩ : ∃ k, cmpI (X i).1 (X i).2 (f i) = k := ⟨_, rfl⟩
   rw [hk] at CC
   have HKK := Lib.hid hk
   have l1 : (i : Int) < (Kn : Int) := by omega
   rw [ex, ec]
   clear hr hcr hk
   go_wp2_with fail
   (with_reducible refine (((CC _).out).mono ?_))
   rintro e w2 ⟨rfl, hb⟩
   have HB := Lib.hid (below_on S.out.1 hb)
   clear CC p1 p2 p3 hb
   by_cases hk0 : 0 < k
   ·have HD : Hid (v = false) := by
     cases v
     ·rfl
     ·have := HVV.out.1 rfl i hlt
      rw [HKK.out] at this
      omega
    go_wp2_with fail
    go_ret
    exact ⟨by rw [HD.out]; rfl, HB.out⟩
   ·go_wp2_with fail
    have T : Hid (Below w.heap.size w w2 ∧ ∀ l, l < i + 1 → cmpI (X l).1 (X l).2 (f l) ≤ 0) := ⟨HB.out, fun l hl => by
     by_cases e : l = i
     ·rw [e, HKK.out]; omega
     ·exact S.out.2 l (by omega)⟩
    rw [← ex, ← ec]
    go_roundg (n - (i + 1))
    case measure => omega
    case rel => exact ⟨i + 1, rfl, rfl, by omega, T⟩
  ·have e : i = n := by omega
   subst e
   go_wp2_with fail
   go_ret
   exact ⟨by rw [HVV.out.2 S.out.2]; rfl, S.out.1⟩

/-- The signs of multipliers. -/
def RgS (p : PgD) (Y : Nat → Int × Int) : Prop := ∀ i, i < p.m → ¬ ((p.Kd i = 1 ∧ 0 < (Y i).1) ∨ (p.Kd i = 2 ∧ (Y i).1 < 0))
set_option maxRecDepth 100000 in
set_option maxHeartbeats 8000000 in
theorem rightSigns_any (p : PgD) (hv : p.Ok) (xa : Option Addr) (xc : Nat) (Y : Nat → Int × Int) (w : World) (hp : p.At w) (hx : IFr w xa p.m Y) (v : Bool) (hvv : v = true ↔ RgS p Y) :
  Calls Tryz.prog 32 #[p.val, .slice xa p.m xc] w fun e w' => e = .returned (.bool v) ∧ Below w.heap.size w w' := by
 unfold PgD.val
 have hb1 : Below w.heap.size w (w.alloc (Obj.cells #[Value.slice p.ca p.n p.cc, .slice p.ra p.m p.rc] 25)) := (Below.refl _ _).alloc (Nat.le_refl _) _
 obtain ⟨w1, hw1⟩ : ∃ W, W = w.alloc (Obj.cells #[Value.slice p.ca p.n p.cc, .slice p.ra p.m p.rc] 25) := ⟨_, rfl⟩
 obtain ⟨xb, hxb⟩ : ∃ x, x = w.heap.size := ⟨_, rfl⟩
 have hB : Blk w1 xb (.slice p.ca p.n p.cc) (.slice p.ra p.m p.rc) := by rw [hw1, hxb]; exact Blk.new _ _ _ _
 rw [← hw1] at hb1
 have HP := Lib.hid hp
 have HX := Lib.hid hx
 have HV := Lib.hid hv
 have HVV := Lib.hid hvv
 have hm2 := hv.m2
 have S0 : Hid (Below w.heap.size w w1 ∧ ∀ l, l < 0 → ¬ ((p.Kd l = 1 ∧ 0 < (Y l).1) ∨ (p.Kd l = 2 ∧ (Y l).1 < 0))) := ⟨hb1, fun l h => by omega⟩
 have q1 := hB.2.2
 clear hb1 hp hx hv hvv hB
 go_enter Tryz.func32, Tryz.ntmps32
 go_upto_region 1 with fail
 rw [← hxb, ← hw1]
 clear hxb hw1
 go_wp2_with fail
 clear q1
 go_loopg [10] p.m (fun g s10 wx => ∃ i : Nat, s10 = .int .i64 i ∧ g = p.m - i ∧ i ≤ p.m ∧ Hid (Below w.heap.size w wx ∧ ∀ l, l < i → ¬ ((p.Kd l = 1 ∧ 0 < (Y l).1) ∨ (p.Kd l = 2 ∧ (Y l).1 < 0))))
 case atStart => exact ⟨0, rfl, rfl, Nat.zero_le _, S0⟩
 case round =>
  clear S0
  obtain ⟨i, rfl, rfl, hi, S⟩ := hrel
  rename World => W1
  by_cases hlt : i < p.m
  ·have wk : IntKind.i64.wrap ((i : Int) + 1) = ((i + 1 : Nat) : Int) := by rw [IntWalk.i64_in _ (by omega)]; omega
   have hat := HP.out.on S.out.1
   obtain ⟨gr, gro, er, hgr, hrow⟩ := hat.rows (by omega)
   obtain ⟨g, o, ex, hg, hr⟩ := HX.out (by omega)
   have hri := hrow i hlt
   rw [er, ex]
   have q1 := hri.1
   have q2 := hri.2.1
   have q3 := hri.2.2
   have hkk := HV.out.k i hlt
   have p1 := (S.out.1.cell (p := ⟨g, o + i * 2, none⟩) hg).trans (hr i (by omega)).1
   obtain ⟨y, hy⟩ : ∃ y, (Y i).1 = y := ⟨_, rfl⟩
   obtain ⟨kd, hkd⟩ : ∃ x, p.Kd i = x := ⟨_, rfl⟩
   rw [hy] at p1
   rw [hkd] at q2 hkk
   have HY := Lib.hid (And.intro hy hkd)
   clear hrow hri hr hat hy hkd
   go_upto_region 4 with fail
   obtain ⟨rb, hrb⟩ : ∃ x, x = W1.heap.size := ⟨_, rfl⟩
   obtain ⟨W2, hW2⟩ : ∃ V, V = W1.alloc (Obj.cells #[Value.slice (p.Ca i) (p.Ln i) (p.Kc i), Value.int IntKind.i64 kd, Value.int IntKind.i64 (p.Rt i)] 53) := ⟨_, rfl⟩
   rw [← hrb, ← hW2]
   have hb2 : Below W1.heap.size W1 W2 := by rw [hW2]; exact (Below.refl _ _).alloc (Nat.le_refl _) _
   have k1 : W2.cell? ⟨rb, 1, none⟩ = some (.int .i64 kd) := by rw [hW2, hrb]; simp [go_sem]
   have p2 := (hb2.cell (p := ⟨g, o + i * 2, none⟩) (Nat.lt_of_lt_of_le hg S.out.1.size)).trans p1
   have HB2 := Lib.hid (below_on S.out.1 hb2)
   have HSL := Lib.hid S.out.2
   clear hb2 hW2 hrb q1 q2 q3 p1 S
   obtain rfl | rfl | rfl : kd = 1 ∨ kd = 2 ∨ kd = 3 := by omega
   ·by_cases hy : 0 < y
    ·have d1 : decide (0 < y) = true := decide_eq_true hy
     have HD : Hid (v = false) := by
      cases v
      ·rfl
      ·have := HVV.out.1 rfl i hlt
       rw [HY.out.1, HY.out.2] at this
       exact absurd (.inl ⟨rfl, hy⟩) this
     go_wp2_with fail
     go_ret
     exact ⟨by rw [HD.out]; rfl, HB2.out⟩
    ·have d1 : decide (0 < y) = false := decide_eq_false hy
     have T : Hid (Below w.heap.size w W2 ∧ ∀ l, l < i + 1 → ¬ ((p.Kd l = 1 ∧ 0 < (Y l).1) ∨ (p.Kd l = 2 ∧ (Y l).1 < 0))) := ⟨HB2.out, fun l hl => by
      by_cases e : l = i
      ·rw [e, HY.out.1, HY.out.2]; omega
      ·exact HSL.out l (by omega)⟩
     go_wp2_with fail
     rw [← er, ← ex]
     go_roundg (p.m - (i + 1))
     case measure => omega
     case rel => exact ⟨i + 1, rfl, rfl, by omega, T⟩
   ·by_cases hy : y < 0
    ·have d1 : decide (y < 0) = true := decide_eq_true hy
     have HD : Hid (v = false) := by
      cases v
      ·rfl
      ·have := HVV.out.1 rfl i hlt
       rw [HY.out.1, HY.out.2] at this
       exact absurd (.inr ⟨rfl, hy⟩) this
     go_wp2_with fail
     go_ret
     exact ⟨by rw [HD.out]; rfl, HB2.out⟩
    ·have d1 : decide (y < 0) = false := decide_eq_false hy
     have T : Hid (Below w.heap.size w W2 ∧ ∀ l, l < i + 1 → ¬ ((p.Kd l = 1 ∧ 0 < (Y l).1) ∨ (p.Kd l = 2 ∧ (Y l).1 < 0))) := ⟨HB2.out, fun l hl => by
      by_cases e : l = i
      ·rw [e, HY.out.1, HY.out.2]; omega
      ·exact HSL.out l (by omega)⟩
     go_wp2_with fail
     rw [← er, ← ex]
     go_roundg (p.m - (i + 1))
     case measure => omega
     case rel => exact ⟨i + 1, rfl, rfl, by omega, T⟩
   ·have T : Hid (Below w.heap.size w W2 ∧ ∀ l, l < i + 1 → ¬ ((p.Kd l = 1 ∧ 0 < (Y l).1) ∨ (p.Kd l = 2 ∧ (Y l).1 < 0))) := ⟨HB2.out, fun l hl => by
     by_cases e : l = i
     ·rw [e, HY.out.2]; omega
     ·exact HSL.out l (by omega)⟩
    go_wp2_with fail
    rw [← er, ← ex]
    go_roundg (p.m - (i + 1))
    case measure => omega
    case rel => exact ⟨i + 1, rfl, rfl, by omega, T⟩
  ·have e : i = p.m := by omega
   subst e
   go_wp2_with fail
   go_ret
   exact ⟨by rw [HVV.out.2 S.out.2]; rfl, S.out.1⟩
end Go.Proofs.YtggpdhdbeokkcaaGreat

namespace Go.Proofs.YtggpdhdbeokkcaaGreat
set_option linter.unusedVariables false
open Go.RowKit Go.Shelf

structure Fs7R (ab rb i m ln kc : Nat) (ca : Option Addr) (a d k r : Int) (tb : Bool) (Wc : World) (L : Nat → Bool) (v : Nat → Value) (W : World) : Prop where
 st : Below Wc.heap.size Wc W
 f0 : Had L 0 (v 59 = .slice (some ⟨ab, 0, none⟩) (m) (m))
 f1 : Had L 1 (v 60 = .int .i64 (i : Int))
 f2 : Had L 2 (v 61 = .pointer (some ⟨ab, i * 2, none⟩))
 f3 : Had L 3 (v 62 = .agg #[.int .i64 a, .int .i64 d])
 f4 : Had L 4 (v 63 = .agg #[.slice ca ln kc, .int .i64 k, .int .i64 r])
 f5 : Had L 5 (v 64 = .bool tb)
 f6 : Had L 6 (v 65 = .bool (!tb))
 w2 : Had L 2 (∀ j ∈ [0, 1], L j = true)
 w3 : Had L 3 (∀ j ∈ [2], L j = true)
 w5 : Had L 5 (∀ j ∈ [3, 4], L j = true)
 w6 : Had L 6 (∀ j ∈ [5], L j = true)

theorem ls_of_own {W : World} {base m n pc : Nat} {pa : Option Addr} {Ca : Nat → Option Addr} {Kc : Nat → Nat} {Z : Nat → Nat → Int} (h : W.ownsRow base 22 1 (.slice pa m pc) m ((List.range m).map fun l => Value.slice (Ca l) n (Kc l))) (hr : ∀ i, i < m → IRow W (Ca i) n (Z i)) : LsI W pa m Ca (fun _ => n) Kc Z :=
 ⟨fun hm => by
  rcases h.2 with ⟨h1, h2⟩ | ⟨g, cap, cur, hv, _⟩
  ·omega
  ·have e : pa = some ⟨g, 0, none⟩ := by injection hv
   have hl := h.lt g (by rw [hv]; rfl)
   subst e
   refine ⟨g, 0, rfl, hl.2, fun k hk => ?_⟩
   rw [Nat.zero_add, h.cellAt k (by omega)]
   simp [hk], hr⟩

theorem comS_vld {f : Nat → Int} {X : Nat → Int × Int} {n : Nat} (hf : ∀ j, j < n → -1073741824 ≤ f j ∧ f j ≤ 1073741824) (hX : FrV n X) : ∀ j, j ≤ n → comS f X j = (0, 0, 5) ∨ ((comS f X j).2.2 = 0 ∧ Vld (comS f X j).1 (comS f X j).2.1) := by
 intro j
 induction j with
 | zero => exact fun _ => .inr ⟨rfl, (show Vld 0 1 from ⟨by decide, by decide, by decide, by decide, by decide⟩)⟩
 | succ j ih =>
  intro hj
  rcases ih (by omega) with h | ⟨h0, hv⟩
  ·refine .inl ?_
   show (if (comS f X j).2.2 = 0 then _ else comS f X j) = _
   rw [h, if_neg (by decide)]
  ·show ((if (comS f X j).2.2 = 0 then _ else comS f X j) : Int × Int × Int) = _ ∨ ((if (comS f X j).2.2 = 0 then _ else comS f X j) : Int × Int × Int).2.2 = 0 ∧ Vld ((if (comS f X j).2.2 = 0 then _ else comS f X j) : Int × Int × Int).1 ((if (comS f X j).2.2 = 0 then _ else comS f X j) : Int × Int × Int).2.1
   rw [if_pos h0]
   have vf := vld_one (hf j (by omega))
   have vx := hX j (by omega)
   rcases mulT_cases (f j) 1 (X j).1 (X j).2 with ⟨n1, d1, e1, _, _, v1, _⟩ | ⟨e', e1, hne, _⟩
   ·rw [e1, if_pos rfl]
    rcases addT_cases (comS f X j).1 (comS f X j).2.1 n1 d1 with ⟨n2, d2, e2, _, _, v2, _⟩ | ⟨e', e2, hne, _⟩
    ·rw [e2]; exact .inr ⟨rfl, v2⟩
    ·rcases addT_ok hv v1 with h | h
     ·rw [e2] at h; exact absurd h hne
     ·exact .inl h
   ·rcases mulT_ok vf vx with h | h
    ·rw [e1] at h; exact absurd h hne
    ·rw [h, if_neg (by decide)]; exact .inl rfl

/-- A point satisfies all rows, and has no negative fraction. -/
structure FeaR (p : PgD) (X : Nat → Int × Int) : Prop where
 row : ∀ i, i < p.m → satB (p.Kd i) (cmpI (comS (p.Z i) X p.n).1 (comS (p.Z i) X p.n).2.1 (p.Rt i)) = true
 nn : ∀ j, j < p.n → 0 ≤ (X j).1
/-- What Feasible answers. -/
def FeaO (p : PgD) (N : Nat) (X : Nat → Int × Int) (v : Bool) (er : Int) : Prop :=
 (¬ (p.Ok ∧ FrV N X) ∧ v = false ∧ er = 1) ∨
 (p.Ok ∧ FrV N X ∧ N ≠ p.n ∧ v = false ∧ er = 3) ∨
 (p.Ok ∧ FrV N X ∧ N = p.n ∧ (∃ i, i < p.m ∧ comS (p.Z i) X p.n = (0, 0, 5)) ∧ v = false ∧ er = 5) ∨
 (p.Ok ∧ FrV N X ∧ N = p.n ∧ (∀ i, i < p.m → (comS (p.Z i) X p.n).2.2 = 0) ∧ (v = true ↔ FeaR p X) ∧ er = 0)

theorem bool_of (P : Prop) : ∃ v : Bool, v = true ↔ P := by
 by_cases h : P
 ·exact ⟨true, by simp [h]⟩
 ·exact ⟨false, by simp [h]⟩

set_option maxRecDepth 100000 in
set_option maxHeartbeats 16000000 in
theorem Feasible_any (p : PgD) (hs : p.Sm) (xa : Option Addr) (N xc : Nat) (X : Nat → Int × Int) (w : World) (hp : p.At w) (hx : IFr w xa N X) (hb : FrB N X) (hN : N ≤ 1000) :
  Calls Tryz.prog 28 #[p.val, .slice xa N xc] w fun e w' => Below w.heap.size w w' ∧ ∃ v er, e = .returned (.tuple #[.bool v, .int .i64 er]) ∧ FeaO p N X v er := by
 unfold PgD.val
 obtain ⟨v, hv⟩ := bool_of p.Ok
 obtain ⟨u, hu⟩ := bool_of (FrV N X)
 have hb1 : Below w.heap.size w (w.alloc (Obj.cells #[Value.slice p.ca p.n p.cc, .slice p.ra p.m p.rc] 25)) := (Below.refl _ _).alloc (Nat.le_refl _) _
 obtain ⟨w1, hw1⟩ : ∃ W, W = w.alloc (Obj.cells #[Value.slice p.ca p.n p.cc, .slice p.ra p.m p.rc] 25) := ⟨_, rfl⟩
 obtain ⟨xb, hxb⟩ : ∃ x, x = w.heap.size := ⟨_, rfl⟩
 have hB : Blk w1 xb (.slice p.ca p.n p.cc) (.slice p.ra p.m p.rc) := by rw [hw1, hxb]; exact Blk.new _ _ _ _
 rw [← hw1] at hb1
 have HV := Lib.hid hv
 have HU := Lib.hid hu
 have CV := Lib.hid (pValid_any p hs v hv w1 (hp.on hb1))
 have CU := fun W (h : Below w.heap.size w W) => Lib.hid (pvld_any xa N xc X W (hx.on h) hb (by omega) u hu)
 have HCU := Lib.hid CU
 have HP := Lib.hid hp
 have HX := Lib.hid hx
 have HB := Lib.hid hb1
 have HXB := Lib.hid hB
 have HXL : Hid (w.heap.size ≤ xb) := by show _ ≤ _; rw [hxb]; exact Nat.le_refl _
 clear hb1 hB hv hu hp hx hb hs CU
 unfold PgD.val at CV
 go_enter Tryz.func28, Tryz.ntmps28
 go_upto_region 1 with fail
 rw [← hxb, ← hw1]
 clear hxb hw1
 have q0 := HXB.out.2.1
 have q1 := HXB.out.2.2
 cases v
 ·have hno : ¬ (p.Ok ∧ FrV N X) := fun h => by have := HV.out.2 h.1; cases this
  go_wp2_with fail
  (with_reducible refine ((CV.out).mono ?_))
  rintro e w2 ⟨rfl, hb2⟩
  go_wp2_with fail
  go_ret2
  exact ⟨below_on HB.out hb2, false, 1, rfl, .inl ⟨hno, rfl, rfl⟩⟩
 have hok : p.Ok := HV.out.1 rfl
 have hm2 := hok.m2
 have hn2 := hok.n2
 have hn1 := hok.n1
 go_wp2_with fail
 (with_reducible refine ((CV.out).mono ?_))
 rintro e w2 ⟨rfl, hb2⟩
 have HXB := Lib.hid (HXB.out.on hb2)
 have HB := Lib.hid (below_on HB.out hb2)
 clear CV hb2 q0 q1
 cases u
 ·have hno : ¬ (p.Ok ∧ FrV N X) := fun h => by have := HU.out.2 h.2; cases this
  go_wp2_with fail
  (with_reducible refine (((HCU.out _ HB.out).out).mono ?_))
  rintro e w3 ⟨rfl, hb2⟩
  go_wp2_with fail
  go_ret2
  exact ⟨below_on HB.out hb2, false, 1, rfl, .inl ⟨hno, rfl, rfl⟩⟩
 have hfr : FrV N X := HU.out.1 rfl
 have HFR := Lib.hid hfr
 clear hfr
 go_wp2_with fail
 (with_reducible refine (((HCU.out _ HB.out).out).mono ?_))
 rintro e w3 ⟨rfl, hb2⟩
 have HXB := Lib.hid (HXB.out.on hb2)
 have HB := Lib.hid (below_on HB.out hb2)
 clear HCU hb2 HV HU
 have q0 := HXB.out.2.1
 by_cases hne : N = p.n
 case neg =>
  have hne1 : ((N : Int) != (p.n : Int)) = true := by simp; omega
  have hne2 : ¬ ((N : Int) = (p.n : Int)) := by omega
  go_wp2_with fail
  go_ret2
  exact ⟨HB.out, false, 3, rfl, .inr (.inl ⟨hok, HFR.out, hne, rfl, rfl⟩)⟩
 subst hne
 have q1 := HXB.out.2.2
 obtain ⟨i1, hi1, hy0, hy1, hy2⟩ := info_parts (show (Tryz.prog.info? 22).map (fun i => (i.zero, i.size, i.bytes)) = some (some (Value.slice none 0 0), 1, 24) by kernel_rfl)
 have HI := Lib.hid (And.intro hi1 (And.intro hy0 (And.intro hy1 hy2)))
 clear hi1 hy0 hy1 hy2
 have S0 : Hid (w3.ownsRow (xb + 1) 22 1 (.slice none 0 0) 0 ((List.range 0).map fun l => Value.slice (p.Ca l) p.n (p.Kc l)) ∧ Below w.heap.size w w3 ∧ Blk w3 xb (.slice p.ca p.n p.cc) (.slice p.ra p.m p.rc)) := ⟨⟨by simp, .inl ⟨rfl, rfl⟩⟩, HB.out, HXB.out⟩
 clear HB HXB
 go_wp2_with fail
 clear q0 q1
 go_loopg [32, 6] p.m (fun g s32 s6 wx => ∃ i : Nat, s32 = .int .i64 i ∧ g = p.m - i ∧ i ≤ p.m ∧ Hid (wx.ownsRow (xb + 1) 22 1 s6 i ((List.range i).map fun l => Value.slice (p.Ca l) p.n (p.Kc l)) ∧ Below w.heap.size w wx ∧ Blk wx xb (.slice p.ca p.n p.cc) (.slice p.ra p.m p.rc)))
 case atStart => exact ⟨0, rfl, rfl, Nat.zero_le _, S0⟩
 case round =>
  clear S0
  obtain ⟨i, rfl, rfl, hi, S⟩ := hrel
  rename World => W1
  obtain ⟨pa, pc, hpv⟩ := own_form S.out.1
  subst hpv
  have hat := HP.out.on S.out.2.1
  by_cases hlt : i < p.m
  ·have wk : IntKind.i64.wrap ((i : Int) + 1) = ((i + 1 : Nat) : Int) := by rw [IntWalk.i64_in _ (by omega)]; omega
   obtain ⟨gr, gro, er, hgr, hrow⟩ := hat.rows (by omega)
   have hri := hrow i hlt
   rw [er]
   have q1 := hri.1
   have q2 := hri.2.1
   have q3 := hri.2.2
   rw [hok.l i hlt] at q1
   clear hrow hri hat
   generalize p.Rt i = rt at q3
   generalize p.Kd i = kd at q2
   go_upto_region 9 with fail
   obtain ⟨rb, hrb⟩ : ∃ x, x = W1.heap.size := ⟨_, rfl⟩
   obtain ⟨W2, hW2⟩ : ∃ V, V = W1.alloc (Obj.cells #[Value.slice (p.Ca i) p.n (p.Kc i), Value.int IntKind.i64 kd, Value.int IntKind.i64 rt] 53) := ⟨_, rfl⟩
   rw [← hrb, ← hW2]
   have hb2 : Below W1.heap.size W1 W2 := by rw [hW2]; exact (Below.refl _ _).alloc (Nat.le_refl _) _
   have k1 : W2.cell? ⟨rb, 0, none⟩ = some (.slice (p.Ca i) p.n (p.Kc i)) := by rw [hW2, hrb]; simp [go_sem]
   have hbb := below_on S.out.2.1 hb2
   have B1 : Hid (Below W2.heap.size W2 (W2.alloc (Obj.cells #[.slice (p.Ca i) p.n (p.Kc i)] 22))) := (Below.refl _ _).alloc (Nat.le_refl _) _
   have O1 : Hid ((W2.alloc (Obj.cells #[.slice (p.Ca i) p.n (p.Kc i)] 22)).ownsRow (xb + 1) 22 1 (.slice pa i pc) i ((List.range i).map fun l => Value.slice (p.Ca l) p.n (p.Kc l))) := own_only (own_only S.out.1 (Only.of_below (S := fun _ => False) hb2) (fun _ _ q => q)) (Only.of_below (S := fun _ => False) B1.out) (fun _ _ q => q)
   have A1 : Hid (∀ l u, [Value.slice (p.Ca i) p.n (p.Kc i)][l]? = some u → (W2.alloc (Obj.cells #[.slice (p.Ca i) p.n (p.Kc i)] 22)).cell? ((⟨W2.heap.size, 0, none⟩ : Addr).add l) = some u) := one_news (by simp [go_sem])
   have HBB := Lib.hid (below_on hbb B1.out)
   have HXB := Lib.hid ((S.out.2.2.on hb2).on B1.out)
   clear hW2 hrb q1 q2 q3 S hbb hb2
   go_upto_region 10 with (at_builtin; refine wpList_append_lies _ rfl _ _ 85 rfl (xb + 1) 22 i1 (.slice none 0 0) 1 24 Tryz.underlying85 HI.out.1 HI.out.2.1 HI.out.2.2.1 HI.out.2.2.2 rfl (by decide) _ _ _ rfl O1.out ⟨W2.heap.size, 0, none⟩ 1 1 [.slice (p.Ca i) p.n (p.Kc i)] rfl rfl A1.out (by intro u hu; simp at hu; subst hu; rfl) (by omega) (by unfold maxLen; omega) (by omega) HXB.out.1 _ rfl ?_; intro q cap W4 hown hgrow hat hqlt)
   have hA := grown_only (Below.refl _ _) hgrow
   have T : Hid (W4.ownsRow (xb + 1) 22 1 (.slice (some ⟨q, 0, none⟩) (i + 1) cap) (i + 1) ((List.range (i + 1)).map fun l => Value.slice (p.Ca l) p.n (p.Kc l)) ∧ Below w.heap.size w W4 ∧ Blk W4 xb (.slice p.ca p.n p.cc) (.slice p.ra p.m p.rc)) := by
    refine ⟨?_, HBB.out.trans (hA.below HBB.out.size (fun c hc => by have := (O1.out.lt c hc).1; have := HXL.out; omega)), ⟨Nat.lt_of_lt_of_le HXB.out.1 hA.size, (hA.cell (p := ⟨xb, 0, none⟩) HXB.out.1 (fun hc => by have := (O1.out.lt xb hc).1; omega)).trans HXB.out.2.1, (hA.cell (p := ⟨xb, 1, none⟩) HXB.out.1 (fun hc => by have := (O1.out.lt xb hc).1; omega)).trans HXB.out.2.2⟩⟩
    rw [List.range_succ, List.map_append]
    exact hown
   clear hown hgrow hat hqlt hA B1 O1 A1 HBB HXB k1
   go_wp2_with fail
   rw [← er]
   go_roundg (p.m - (i + 1))
   case measure => omega
   case rel => exact ⟨i + 1, rfl, rfl, by omega, T⟩
  ·have e : i = p.m := by omega
   subst e
   have CS := Lib.hid (sums_any pa p.m pc p.Ca (fun _ => p.n) p.Kc p.Z xa p.n xc X W1 (ls_of_own S.out.1 (fun i hi => by have := hat.coef i hi; rwa [hok.l i hi] at this)) (HX.out.on S.out.2.1) (fun k hk => Nat.le_refl _) (by omega) (by omega) HFR.out (fun k hk j hj => by have := hok.z k hk j hj; omega))
   clear hat
   go_wp2_with fail
   (with_reducible refine ((CS.out).mono ?_))
   rintro e w4 ⟨hb, h⟩
   have HB4 := Lib.hid (below_on S.out.2.1 hb)
   have HXB := Lib.hid (S.out.2.2.on hb)
   clear S CS hb
   rcases h with ⟨ab, rfl, h1, h2, h3⟩ | ⟨rfl, h1⟩
   case inr =>
    have HE := Lib.hid h1
    clear h1
    go_wp2_with fail
    go_ret2
    exact ⟨HB4.out, false, 5, rfl, .inr (.inr (.inl ⟨hok, HFR.out, rfl, HE.out, rfl, rfl⟩))⟩
   have HE := Lib.hid h3
   have S0 : Hid (FrX w4 ab p.m (outF p.Z (fun _ => p.n) X p.m) ∧ Below w.heap.size w w4 ∧ ∀ l, l < 0 → satB (p.Kd l) (cmpI (comS (p.Z l) X p.n).1 (comS (p.Z l) X p.n).2.1 (p.Rt l)) = true) := ⟨h2, HB4.out, fun l hl => by omega⟩
   have q1 := HXB.out.2.2
   clear h1 h2 h3 HB4
   go_wp2_with fail
   clear q1
   go_loopg [54] p.m (fun g s54 wx => ∃ i : Nat, s54 = .int .i64 i ∧ g = p.m - i ∧ i ≤ p.m ∧ Hid (FrX wx ab p.m (outF p.Z (fun _ => p.n) X p.m) ∧ Below w.heap.size w wx ∧ ∀ l, l < i → satB (p.Kd l) (cmpI (comS (p.Z l) X p.n).1 (comS (p.Z l) X p.n).2.1 (p.Rt l)) = true))
   case atStart => exact ⟨0, rfl, rfl, Nat.zero_le _, S0⟩
   case round =>
    clear S0
    obtain ⟨i, rfl, rfl, hi, S⟩ := hrel
    rename World => W3
    by_cases hlt2 : i < p.m
    ·have wk : IntKind.i64.wrap ((i : Int) + 1) = ((i + 1 : Nat) : Int) := by rw [IntWalk.i64_in _ (by omega)]; omega
     have hat := HP.out.on S.out.2.1
     obtain ⟨gr, gro, er, hgr, hrow⟩ := hat.rows (by omega)
     have hri := hrow i hlt2
     rw [er]
     have q1 := hri.1
     have q2 := hri.2.1
     have q3 := hri.2.2
     rw [hok.l i hlt2] at q1
     clear hrow hri hat
     have hkk := hok.k i hlt2
     have hrr := hok.r i hlt2
     have hcv : Vld (comS (p.Z i) X p.n).1 (comS (p.Z i) X p.n).2.1 := by
      rcases comS_vld (f := p.Z i) (fun j hj => by have := hok.z i hlt2 j hj; omega) HFR.out p.n (Nat.le_refl _) with h | h
      ·have := HE.out i hlt2; rw [h] at this; cases this
      ·exact h.2
     obtain ⟨rt, hrt⟩ : ∃ x, p.Rt i = x := ⟨_, rfl⟩
     obtain ⟨kd, hkd⟩ : ∃ x, p.Kd i = x := ⟨_, rfl⟩
     obtain ⟨a, ha⟩ : ∃ x, (comS (p.Z i) X p.n).1 = x := ⟨_, rfl⟩
     obtain ⟨d, hd⟩ : ∃ x, (comS (p.Z i) X p.n).2.1 = x := ⟨_, rfl⟩
     obtain ⟨tb, htb⟩ : ∃ x, satB kd (cmpI a d rt) = x := ⟨_, rfl⟩
     rw [hrt] at q3 hrr
     rw [hkd] at q2 hkk
     rw [ha, hd] at hcv
     have HTB : Hid (satB (p.Kd i) (cmpI (comS (p.Z i) X p.n).1 (comS (p.Z i) X p.n).2.1 (p.Rt i)) = tb) := by show _ = _; rw [hrt, hkd, ha, hd]; exact htb
     have CS := fun W => Lib.hid (satisfies_any a d (p.Ca i) p.n (p.Kc i) kd rt W hcv hrr hkk)
     rw [htb] at CS
     have x0 := S.out.1.c0 i hlt2
     have x1 := S.out.1.c1 i hlt2
     unfold outF at x0 x1
     rw [if_pos hlt2] at x0 x1
     simp only [ha, hd] at x0 x1
     have hbf := S.out.1.hb
     clear htb hcv hrt hkd ha hd hkk hrr
     go_upto_region 17 with fail
     obtain ⟨rb, hrb⟩ : ∃ x, x = W3.heap.size := ⟨_, rfl⟩
     obtain ⟨W4, hW4⟩ : ∃ V, V = W3.alloc (Obj.cells #[Value.slice (p.Ca i) p.n (p.Kc i), Value.int IntKind.i64 kd, Value.int IntKind.i64 rt] 53) := ⟨_, rfl⟩
     rw [← hrb, ← hW4]
     have hb2 : Below W3.heap.size W3 W4 := by rw [hW4]; exact (Below.refl _ _).alloc (Nat.le_refl _) _
     have hr2 : EBlk W4 rb (.slice (p.Ca i) p.n (p.Kc i)) (.int .i64 kd) (.int .i64 rt) := by
      rw [hW4, hrb]
      exact ⟨by simp, by simp [go_sem], by simp [go_sem], by simp [go_sem], by simp [go_sem], by simp [go_sem], by simp [go_sem]⟩
     have LR0 : Hid (W4.cell? ⟨rb, 0, none⟩ = some (.slice (p.Ca i) p.n (p.Kc i)) ∧ rb < W4.heap.size) := ⟨hr2.c0, hr2.hb⟩
     have LR1 : Hid (W4.cell? ⟨rb, 1, none⟩ = some (.int .i64 kd) ∧ rb < W4.heap.size) := ⟨hr2.c1, hr2.hb⟩
     have LR2 : Hid (W4.cell? ⟨rb, 2, none⟩ = some (.int .i64 rt) ∧ rb < W4.heap.size) := ⟨hr2.c2, hr2.hb⟩
     have LX0 : Hid (W4.cell? ⟨ab, i * 2, none⟩ = some (.int .i64 a) ∧ ab < W4.heap.size) := ⟨(hb2.cell (p := ⟨ab, i * 2, none⟩) hbf).trans x0, Nat.lt_of_lt_of_le hbf hb2.size⟩
     have LX1 : Hid (W4.cell? ⟨ab, i * 2 + 1, none⟩ = some (.int .i64 d) ∧ ab < W4.heap.size) := ⟨(hb2.cell (p := ⟨ab, i * 2 + 1, none⟩) hbf).trans x1, Nat.lt_of_lt_of_le hbf hb2.size⟩
     have S4 : Hid (FrX W4 ab p.m (outF p.Z (fun _ => p.n) X p.m) ∧ Below w.heap.size w W4) := ⟨S.out.1.on hb2, below_on S.out.2.1 hb2⟩
     have HSL := Lib.hid S.out.2.2
     have l1 : (i : Int) < (p.m : Int) := by omega
     clear x0 x1 hbf hb2 hr2 hW4 hrb q1 q2 q3 S
     refine wp_region_each (fun L A W => ∃ (v : Nat → Value), A = ⟨#[_, _, _, _, _, _, _, _, _, _, _, _, _, _, _, _, _, _, _, _, _, _, _, _, _, _, _, _, _, _, _, _, _, _, _, _, _, _, _, _, _, _, _, _, _, _, _, _, _, _, _, _, _, _, _, _, _, _, _, v 59, v 60, v 61, v 62, v 63, v 64, v 65, _, _, _, _], []⟩ ∧ Fs7R ab rb i p.m p.n (p.Kc i) (p.Ca i) a d kd rt tb W4 L v W) (by kernel_rfl) (by kernel_rfl) ⟨fun jz => if jz = 59 then u59 else if jz = 60 then u60 else if jz = 61 then u61 else if jz = 62 then u62 else if jz = 63 then u63 else if jz = 64 then u64 else if jz = 65 then u65 else undef, rfl, ⟨Below.drew (Below.refl _ _), Had.none, Had.none, Had.none, Had.none, Had.none, Had.none, Had.none, Had.none, Had.none, Had.none, Had.none⟩⟩ (rs := [0, 1, 2, 3, 4, 5, 6]) (by kernel_rfl) ?_ ?_
     ·refine EachOf.cons [] rfl (by kernel_rfl) ?_ ?_
      ·rintro L A W ⟨v, rfl, hR⟩ hi hw K hK
       go_simp
       refine hK.out _ _ ?_
       exact ⟨(fun jz => if jz = 59 then .slice (some ⟨ab, 0, none⟩) p.m p.m else v jz), rfl, ⟨hR.st, (fun _ => rfl), hR.f1.k, hR.f2.k, hR.f3.k, hR.f4.k, hR.f5.k, hR.f6.k, hR.w2.o, hR.w3.o, hR.w5.o, hR.w6.o⟩⟩
      refine EachOf.cons [] rfl (by kernel_rfl) ?_ ?_
      ·rintro L A W ⟨v, rfl, hR⟩ hi hw K hK
       go_simp
       refine hK.out _ _ ?_
       exact ⟨(fun jz => if jz = 60 then .int .i64 (i : Int) else v jz), rfl, ⟨hR.st, hR.f0.k, (fun _ => rfl), hR.f2.k, hR.f3.k, hR.f4.k, hR.f5.k, hR.f6.k, hR.w2.o, hR.w3.o, hR.w5.o, hR.w6.o⟩⟩
      refine EachOf.cons [0, 1] rfl (by kernel_rfl) ?_ ?_
      ·rintro L A W ⟨v, rfl, hR⟩ hi hw K hK
       have e0 := hR.f0 (hw 0 (by simp))
       have e1 := hR.f1 (hw 1 (by simp))
       simp only [e0, e1]
       clear e0 e1
       go_simp
       refine hK.out _ _ ?_
       exact ⟨(fun jz => if jz = 59 then .slice (some ⟨ab, 0, none⟩) p.m p.m else if jz = 60 then .int .i64 (i : Int) else if jz = 61 then .pointer (some ⟨ab, i * 2, none⟩) else v jz), rfl, ⟨hR.st, (fun _ => rfl), (fun _ => rfl), (fun _ => rfl), hR.f3.k, hR.f4.k, hR.f5.k, hR.f6.k, (fun _ j hj => upd_on (hw j hj)), hR.w3.o, hR.w5.o, hR.w6.o⟩⟩
      refine EachOf.cons [2] rfl (by kernel_rfl) ?_ ?_
      ·rintro L A W ⟨v, rfl, hR⟩ hi hw K hK
       have e2 := hR.f2 (hw 2 (by simp))
       simp only [e2]
       clear e2
       have q0 := (hR.st.cell (p := ⟨ab, i * 2, none⟩) LX0.out.2).trans LX0.out.1
       have q1 := (hR.st.cell (p := ⟨ab, i * 2 + 1, none⟩) LX1.out.2).trans LX1.out.1
       go_simp
       refine hK.out _ _ ?_
       exact ⟨(fun jz => if jz = 61 then .pointer (some ⟨ab, i * 2, none⟩) else if jz = 62 then .agg #[.int .i64 a, .int .i64 d] else v jz), rfl, ⟨hR.st, hR.f0.k, hR.f1.k, (fun _ => rfl), (fun _ => rfl), hR.f4.k, hR.f5.k, hR.f6.k, hR.w2.o, (fun _ j hj => upd_on (hw j hj)), hR.w5.o, hR.w6.o⟩⟩
      refine EachOf.cons [] rfl (by kernel_rfl) ?_ ?_
      ·rintro L A W ⟨v, rfl, hR⟩ hi hw K hK
       have q0 := (hR.st.cell (p := ⟨rb, 0, none⟩) LR0.out.2).trans LR0.out.1
       have q1 := (hR.st.cell (p := ⟨rb, 1, none⟩) LR1.out.2).trans LR1.out.1
       have q2 := (hR.st.cell (p := ⟨rb, 2, none⟩) LR2.out.2).trans LR2.out.1
       go_simp
       refine hK.out _ _ ?_
       exact ⟨(fun jz => if jz = 63 then .agg #[.slice (p.Ca i) p.n (p.Kc i), .int .i64 kd, .int .i64 rt] else v jz), rfl, ⟨hR.st, hR.f0.k, hR.f1.k, hR.f2.k, hR.f3.k, (fun _ => rfl), hR.f5.k, hR.f6.k, hR.w2.o, hR.w3.o, hR.w5.o, hR.w6.o⟩⟩
      refine EachOf.cons [3, 4] rfl (by kernel_rfl) ?_ ?_
      ·rintro L A W ⟨v, rfl, hR⟩ hi hw K hK
       have e3 := hR.f3 (hw 3 (by simp))
       have e4 := hR.f4 (hw 4 (by simp))
       simp only [e3, e4]
       clear e3 e4
       go_simp
       go_at_call 69
       (with_reducible refine (((CS W)).out.mono ?_))
       rintro e w2 ⟨rfl, hb⟩
       go_simp
       refine hK.out _ _ ?_
       exact ⟨(fun jz => if jz = 62 then .agg #[.int .i64 a, .int .i64 d] else if jz = 63 then .agg #[.slice (p.Ca i) p.n (p.Kc i), .int .i64 kd, .int .i64 rt] else if jz = 64 then .bool tb else v jz), rfl, ⟨below_on hR.st hb, hR.f0.k, hR.f1.k, hR.f2.k, (fun _ => rfl), (fun _ => rfl), (fun _ => rfl), hR.f6.k, hR.w2.o, hR.w3.o, (fun _ j hj => upd_on (hw j hj)), hR.w6.o⟩⟩
      refine EachOf.cons [5] rfl (by kernel_rfl) ?_ ?_
      ·rintro L A W ⟨v, rfl, hR⟩ hi hw K hK
       have e5 := hR.f5 (hw 5 (by simp))
       simp only [e5]
       clear e5
       go_simp
       refine hK.out _ _ ?_
       exact ⟨(fun jz => if jz = 64 then .bool tb else if jz = 65 then .bool (!tb) else v jz), rfl, ⟨hR.st, hR.f0.k, hR.f1.k, hR.f2.k, hR.f3.k, hR.f4.k, (fun _ => rfl), (fun _ => rfl), hR.w2.o, hR.w3.o, hR.w5.o, (fun _ j hj => upd_on (hw j hj))⟩⟩
      exact EachOf.nil
     rintro L A W ⟨v, rfl, hR⟩ hL
     have e6 := hR.f6 (hL 6 (by simp))
     simp only [e6]
     have S5 : Hid (FrX W ab p.m (outF p.Z (fun _ => p.n) X p.m) ∧ Below w.heap.size w W) := ⟨S4.out.1.on hR.st, below_on S4.out.2 hR.st⟩
     clear e6 hR hL S4 CS LR0 LR1 LR2 LX0 LX1
     cases tb
     ·have hno : ¬ FeaR p X := fun h => by have := h.row i hlt2; rw [HTB.out] at this; cases this
      go_wp2_with fail
      go_ret2
      exact ⟨S5.out.2, false, 0, rfl, .inr (.inr (.inr ⟨hok, HFR.out, rfl, HE.out, ⟨fun h => (by cases h), fun h => absurd h hno⟩, rfl⟩))⟩
     ·have T : Hid (FrX W ab p.m (outF p.Z (fun _ => p.n) X p.m) ∧ Below w.heap.size w W ∧ ∀ l, l < i + 1 → satB (p.Kd l) (cmpI (comS (p.Z l) X p.n).1 (comS (p.Z l) X p.n).2.1 (p.Rt l)) = true) := ⟨S5.out.1, S5.out.2, fun l hl => by
       by_cases e : l = i
       ·rw [e]; exact HTB.out
       ·exact HSL.out l (by omega)⟩
      go_wp2_with fail
      rw [← er]
      go_roundg (p.m - (i + 1))
      case measure => omega
      case rel => exact ⟨i + 1, rfl, rfl, by omega, T⟩
    ·have e : i = p.m := by omega
     subst e
     obtain ⟨t, ht⟩ := bool_of (∃ j, j < p.n ∧ decide ((X j).1 < 0) = true)
     have eg : ∀ args w, (callFunc 70 args).run Tryz.prog w = .ok (.enter 70 args) w := enters_of Tryz.func70 (by kernel_rfl) rfl
     have CC := Lib.hid (contF_any 70 #[] xa p.n xc X (fun j => decide ((X j).1 < 0)) W3 (HX.out.on S.out.2.1) (by omega) eg (fun j hj W _ => pneg_pred _ _ W) t ht)
     have HT := Lib.hid ht
     clear ht eg
     go_wp2_with fail
     (with_reducible refine ((CC.out).mono ?_))
     rintro e w5 ⟨rfl, hb5⟩
     have HB5 := Lib.hid (below_on S.out.2.1 hb5)
     clear CC hb5
     go_wp2_with fail
     go_ret2
     refine ⟨HB5.out, !t, 0, rfl, .inr (.inr (.inr ⟨hok, HFR.out, rfl, HE.out, ⟨fun h => ⟨S.out.2.2, fun j hj => ?_⟩, fun h => ?_⟩, rfl⟩))⟩
     ·refine Classical.byContradiction fun q => ?_
      have : t = true := HT.out.2 ⟨j, hj, decide_eq_true (by omega)⟩
      rw [this] at h; cases h
     ·cases e : t
      ·rfl
      ·obtain ⟨j, hj, hq⟩ := HT.out.1 e
       have := h.nn j hj
       have := of_decide_eq_true hq
       omega
end Go.Proofs.YtggpdhdbeokkcaaGreat

namespace Go.Proofs.YtggpdhdbeokkcaaGreat
set_option linter.unusedVariables false
open Go.RowKit Go.Shelf

/-- What Value answers. -/
def ValO (p : PgD) (N : Nat) (X : Nat → Int × Int) (r : Int × Int × Int) : Prop :=
 (¬ (p.Ok ∧ FrV N X) ∧ r = (0, 0, 1)) ∨ (p.Ok ∧ FrV N X ∧ N ≠ p.n ∧ r = (0, 0, 3)) ∨ (p.Ok ∧ FrV N X ∧ N = p.n ∧ r = comS p.C X p.n)

set_option maxRecDepth 100000 in
set_option maxHeartbeats 16000000 in
theorem Value_any (p : PgD) (hs : p.Sm) (xa : Option Addr) (N xc : Nat) (X : Nat → Int × Int) (w : World) (hp : p.At w) (hx : IFr w xa N X) (hb : FrB N X) (hN : N ≤ 1000) :
  Calls Tryz.prog 29 #[p.val, .slice xa N xc] w fun e w' => Below w.heap.size w w' ∧ ∃ r, e = .returned (.tuple #[.agg #[.int .i64 r.1, .int .i64 r.2.1], .int .i64 r.2.2]) ∧ ValO p N X r := by
 unfold PgD.val
 obtain ⟨v, hv⟩ := bool_of p.Ok
 obtain ⟨u, hu⟩ := bool_of (FrV N X)
 have hb1 : Below w.heap.size w (w.alloc (Obj.cells #[Value.slice p.ca p.n p.cc, .slice p.ra p.m p.rc] 25)) := (Below.refl _ _).alloc (Nat.le_refl _) _
 obtain ⟨w0, hw0⟩ : ∃ W, W = w.alloc (Obj.cells #[Value.slice p.ca p.n p.cc, .slice p.ra p.m p.rc] 25) := ⟨_, rfl⟩
 obtain ⟨xb, hxb⟩ : ∃ x, x = w.heap.size := ⟨_, rfl⟩
 have hB : Blk w0 xb (.slice p.ca p.n p.cc) (.slice p.ra p.m p.rc) := by rw [hw0, hxb]; exact Blk.new _ _ _ _
 rw [← hw0] at hb1
 obtain ⟨w1, hw1⟩ : ∃ W, W = w0.alloc (Obj.cells #[Value.int .i64 0, .int .i64 0] 27) := ⟨_, rfl⟩
 obtain ⟨gb, hgb⟩ : ∃ x, x = xb + 1 := ⟨_, rfl⟩
 have hgw : gb = w0.heap.size := by rw [hgb, hw0, hxb]; simp
 have hb2 : Below w0.heap.size w0 w1 := by rw [hw1]; exact (Below.refl _ _).alloc (Nat.le_refl _) _
 have HG : Hid (Blk w1 gb (.int .i64 0) (.int .i64 0) ∧ Frz w1 gb) := by rw [hw1, hgw]; exact ⟨Blk.new _ _ _ _, Frz.new _ _ _ _⟩
 have HGL : Hid (w.heap.size ≤ gb) := by show _ ≤ _; rw [hgw]; exact hb1.size
 have HV := Lib.hid hv
 have HU := Lib.hid hu
 have CV := Lib.hid (pValid_any p hs v hv w1 (hp.on (below_on hb1 hb2)))
 have CU := fun W (h : Below w.heap.size w W) => Lib.hid (pvld_any xa N xc X W (hx.on h) hb (by omega) u hu)
 have HCU := Lib.hid CU
 have HP := Lib.hid hp
 have HX := Lib.hid hx
 have HB := Lib.hid (below_on hb1 hb2)
 have HXB := Lib.hid (hB.on hb2)
 clear hb1 hb2 hB hv hu hp hx hb hs CU
 unfold PgD.val at CV
 go_enter Tryz.func29, Tryz.ntmps29
 go_upto_region 1 with fail
 rw [← hxb, ← hw0, ← hgb, ← hw1]
 clear hxb hw0 hw1 hgb hgw
 have q0 := HXB.out.2.1
 have q1 := HXB.out.2.2
 cases v
 ·have hno : ¬ (p.Ok ∧ FrV N X) := fun h => by have := HV.out.2 h.1; cases this
  go_wp2_with fail
  (with_reducible refine ((CV.out).mono ?_))
  rintro e w2 ⟨rfl, hb2⟩
  have HG := Lib.hid (And.intro (HG.out.1.on hb2) (HG.out.2.on HG.out.1.1 hb2))
  have HB := Lib.hid (below_on HB.out hb2)
  clear hb2 CV q0 q1
  have H5 := Lib.hid (Blk.set (x := .int .i64 0) (y := .int .i64 0) HG.out.1)
  have O5 := Lib.hid ((HB.out.setCell (p := ⟨gb, 0, none⟩) HGL.out (.int .i64 0)).setCell (p := ⟨gb, 1, none⟩) HGL.out (.int .i64 0))
  obtain ⟨_, c0, c1⟩ := HG.out.1
  obtain ⟨f0, f1⟩ := HG.out.2
  go_wp2_with fail
  clear c0 c1 f0 f1
  generalize (w2.setCell ⟨gb, 0, none⟩ (.int .i64 0)).setCell ⟨gb, 1, none⟩ (.int .i64 0) = W5 at *
  have x0 := H5.out.2.1
  have x1 := H5.out.2.2
  (try simp only [Exit.inBlock, Exit.then])
  refine bodyPost_ret (by simp [results, Tryz.results29, x0, x1, go_sem]; rfl) rfl ?_
  exact ⟨O5.out, (0, 0, 1), rfl, .inl ⟨hno, rfl⟩⟩
 have hok : p.Ok := HV.out.1 rfl
 have hm2 := hok.m2
 have hn2 := hok.n2
 have hn1 := hok.n1
 go_wp2_with fail
 (with_reducible refine ((CV.out).mono ?_))
 rintro e w2 ⟨rfl, hb2⟩
 have HXB := Lib.hid (HXB.out.on hb2)
 have HG := Lib.hid (And.intro (HG.out.1.on hb2) (HG.out.2.on HG.out.1.1 hb2))
 have HB := Lib.hid (below_on HB.out hb2)
 clear CV hb2 q0 q1
 cases u
 ·have hno : ¬ (p.Ok ∧ FrV N X) := fun h => by have := HU.out.2 h.2; cases this
  go_wp2_with fail
  (with_reducible refine (((HCU.out _ HB.out).out).mono ?_))
  rintro e w3 ⟨rfl, hb2⟩
  have HG := Lib.hid (And.intro (HG.out.1.on hb2) (HG.out.2.on HG.out.1.1 hb2))
  have HB := Lib.hid (below_on HB.out hb2)
  clear hb2
  have H5 := Lib.hid (Blk.set (x := .int .i64 0) (y := .int .i64 0) HG.out.1)
  have O5 := Lib.hid ((HB.out.setCell (p := ⟨gb, 0, none⟩) HGL.out (.int .i64 0)).setCell (p := ⟨gb, 1, none⟩) HGL.out (.int .i64 0))
  obtain ⟨_, c0, c1⟩ := HG.out.1
  obtain ⟨f0, f1⟩ := HG.out.2
  go_wp2_with fail
  clear c0 c1 f0 f1
  generalize (w3.setCell ⟨gb, 0, none⟩ (.int .i64 0)).setCell ⟨gb, 1, none⟩ (.int .i64 0) = W5 at *
  have x0 := H5.out.2.1
  have x1 := H5.out.2.2
  (try simp only [Exit.inBlock, Exit.then])
  refine bodyPost_ret (by simp [results, Tryz.results29, x0, x1, go_sem]; rfl) rfl ?_
  exact ⟨O5.out, (0, 0, 1), rfl, .inl ⟨hno, rfl⟩⟩
 have hfr : FrV N X := HU.out.1 rfl
 have HFR := Lib.hid hfr
 clear hfr
 go_wp2_with fail
 (with_reducible refine (((HCU.out _ HB.out).out).mono ?_))
 rintro e w3 ⟨rfl, hb2⟩
 have HXB := Lib.hid (HXB.out.on hb2)
 have HG := Lib.hid (And.intro (HG.out.1.on hb2) (HG.out.2.on HG.out.1.1 hb2))
 have HB := Lib.hid (below_on HB.out hb2)
 clear HCU hb2 HV HU
 have q0 := HXB.out.2.1
 by_cases hne : N = p.n
 case neg =>
  have hne1 : ((N : Int) != (p.n : Int)) = true := by simp; omega
  have hne2 : ¬ ((N : Int) = (p.n : Int)) := by omega
  have H5 := Lib.hid (Blk.set (x := .int .i64 0) (y := .int .i64 0) HG.out.1)
  have O5 := Lib.hid ((HB.out.setCell (p := ⟨gb, 0, none⟩) HGL.out (.int .i64 0)).setCell (p := ⟨gb, 1, none⟩) HGL.out (.int .i64 0))
  obtain ⟨_, c0, c1⟩ := HG.out.1
  obtain ⟨f0, f1⟩ := HG.out.2
  go_wp2_with fail
  clear c0 c1 f0 f1
  generalize (w3.setCell ⟨gb, 0, none⟩ (.int .i64 0)).setCell ⟨gb, 1, none⟩ (.int .i64 0) = W5 at *
  have x0 := H5.out.2.1
  have x1 := H5.out.2.2
  (try simp only [Exit.inBlock, Exit.then])
  refine bodyPost_ret (by simp [results, Tryz.results29, x0, x1, go_sem]; rfl) rfl ?_
  exact ⟨O5.out, (0, 0, 3), rfl, .inr (.inl ⟨hok, HFR.out, hne, rfl⟩)⟩
 subst hne
 have hb4 : Below w3.heap.size w3 (w3.alloc (Obj.cells #[Value.slice p.ca p.n p.cc] 22)) := (Below.refl _ _).alloc (Nat.le_refl _) _
 have CS := Lib.hid (sums_any (some ⟨w3.heap.size, 0, none⟩) 1 1 (fun _ => p.ca) (fun _ => p.n) (fun _ => p.cc) (fun _ => p.C) xa p.n xc X (w3.alloc (Obj.cells #[Value.slice p.ca p.n p.cc] 22)) ⟨fun _ => ⟨_, 0, rfl, by simp, fun k hk => by rw [show 0 + k = 0 by omega]; simp [go_sem]⟩, fun k hk => (HP.out.on (below_on HB.out hb4)).cost⟩ (HX.out.on (below_on HB.out hb4)) (fun k hk => Nat.le_refl _) (by omega) (by omega) HFR.out (fun k hk j hj => by have := hok.c j hj; omega))
 have HB := Lib.hid (below_on HB.out hb4)
 have HG := Lib.hid (And.intro (HG.out.1.on hb4) (HG.out.2.on HG.out.1.1 hb4))
 clear hb4
 go_wp2_with fail
 (with_reducible refine ((CS.out).mono ?_))
 rintro e w4 ⟨hb, h⟩
 have HB := Lib.hid (below_on HB.out hb)
 have HG := Lib.hid (And.intro (HG.out.1.on hb) (HG.out.2.on HG.out.1.1 hb))
 clear CS hb q0
 rcases h with ⟨ab, rfl, h1, h2, h3⟩ | ⟨rfl, k, hk, h1⟩
 case inr =>
  have HE := Lib.hid h1
  clear h1
  have H5 := Lib.hid (Blk.set (x := .int .i64 0) (y := .int .i64 0) HG.out.1)
  have O5 := Lib.hid ((HB.out.setCell (p := ⟨gb, 0, none⟩) HGL.out (.int .i64 0)).setCell (p := ⟨gb, 1, none⟩) HGL.out (.int .i64 0))
  obtain ⟨_, c0, c1⟩ := HG.out.1
  obtain ⟨f0, f1⟩ := HG.out.2
  go_wp2_with fail
  clear c0 c1 f0 f1
  generalize (w4.setCell ⟨gb, 0, none⟩ (.int .i64 0)).setCell ⟨gb, 1, none⟩ (.int .i64 0) = W5 at *
  have x0 := H5.out.2.1
  have x1 := H5.out.2.2
  (try simp only [Exit.inBlock, Exit.then])
  refine bodyPost_ret (by simp [results, Tryz.results29, x0, x1, go_sem]; rfl) rfl ?_
  exact ⟨O5.out, (0, 0, 5), rfl, .inr (.inr ⟨hok, HFR.out, rfl, HE.out.symm⟩)⟩
 have HE := Lib.hid (h3 0 (by omega))
 have x0 := h2.c0 0 (by omega)
 have x1 := h2.c1 0 (by omega)
 unfold outF at x0 x1
 rw [if_pos (by omega)] at x0 x1
 rw [Nat.zero_mul] at x0 x1
 obtain ⟨a, ha⟩ : ∃ x, (comS p.C X p.n).1 = x := ⟨_, rfl⟩
 obtain ⟨d, hd⟩ : ∃ x, (comS p.C X p.n).2.1 = x := ⟨_, rfl⟩
 simp only [ha, hd] at x0 x1
 have HAD : Hid ((a, d, 0) = comS p.C X p.n) := by
  show _ = _
  rw [← ha, ← hd, ← HE.out]
 clear h1 h2 h3 ha hd
 have H5 := Lib.hid (Blk.set (x := .int .i64 a) (y := .int .i64 d) HG.out.1)
 have O5 := Lib.hid ((HB.out.setCell (p := ⟨gb, 0, none⟩) HGL.out (.int .i64 a)).setCell (p := ⟨gb, 1, none⟩) HGL.out (.int .i64 d))
 obtain ⟨_, c0, c1⟩ := HG.out.1
 obtain ⟨f0, f1⟩ := HG.out.2
 go_wp2_with fail
 clear c0 c1 f0 f1
 generalize (w4.setCell ⟨gb, 0, none⟩ (.int .i64 a)).setCell ⟨gb, 1, none⟩ (.int .i64 d) = W5 at *
 have x0 := H5.out.2.1
 have x1 := H5.out.2.2
 (try simp only [Exit.inBlock, Exit.then])
 refine bodyPost_ret (by simp [results, Tryz.results29, x0, x1, go_sem]; rfl) rfl ?_
 exact ⟨O5.out, (a, d, 0), rfl, .inr (.inr ⟨hok, HFR.out, rfl, HAD.out⟩)⟩

/-- Multipliers show that there is no feasible point. -/
structure RefR (p : PgD) (Y : Nat → Int × Int) : Prop where
 sg : RgS p Y
 col : ∀ j, j < p.n → cmpI (comS (wF p j) Y p.m).1 (comS (wF p j) Y p.m).2.1 0 ≤ 0
 pos : 0 < (comS (wF p p.n) Y p.m).1
/-- What Refutes answers. -/
def RefO (p : PgD) (N : Nat) (Y : Nat → Int × Int) (v : Bool) (er : Int) : Prop :=
 (¬ (p.Ok ∧ FrV N Y) ∧ v = false ∧ er = 1) ∨
 (p.Ok ∧ FrV N Y ∧ N ≠ p.m ∧ v = false ∧ er = 3) ∨
 (p.Ok ∧ FrV N Y ∧ N = p.m ∧ (∃ j, j < p.n + 1 ∧ comS (wF p j) Y p.m = (0, 0, 5)) ∧ v = false ∧ er = 5) ∨
 (p.Ok ∧ FrV N Y ∧ N = p.m ∧ (∀ j, j < p.n + 1 → (comS (wF p j) Y p.m).2.2 = 0) ∧ (v = true ↔ RefR p Y) ∧ er = 0)

theorem wF_bd {p : PgD} (hok : p.Ok) (k i : Nat) (hi : i < p.m) : -1073741824 ≤ wF p k i ∧ wF p k i ≤ 1073741824 := by
 unfold wF
 by_cases e : k < p.n
 ·rw [if_pos e]; have := hok.z i hi k e; omega
 ·rw [if_neg e]; exact hok.r i hi
theorem wF_vld {p : PgD} (hok : p.Ok) {Y : Nat → Int × Int} (hy : FrV p.m Y) {j : Nat} (h : (comS (wF p j) Y p.m).2.2 = 0) : Vld (comS (wF p j) Y p.m).1 (comS (wF p j) Y p.m).2.1 := by
 rcases comS_vld (f := wF p j) (fun i hi => wF_bd hok j i hi) hy p.m (Nat.le_refl _) with g | g
 ·rw [g] at h; cases h
 ·exact g.2

set_option maxRecDepth 100000 in
set_option maxHeartbeats 16000000 in
theorem Refutes_any (p : PgD) (hs : p.Sm) (xa : Option Addr) (N xc : Nat) (X : Nat → Int × Int) (w : World) (hp : p.At w) (hx : IFr w xa N X) (hb : FrB N X) (hN : N ≤ 1000) :
  Calls Tryz.prog 9 #[p.val, .slice xa N xc] w fun e w' => Below w.heap.size w w' ∧ ∃ v er, e = .returned (.tuple #[.bool v, .int .i64 er]) ∧ RefO p N X v er := by
 unfold PgD.val
 obtain ⟨v, hv⟩ := bool_of p.Ok
 obtain ⟨u, hu⟩ := bool_of (FrV N X)
 have hb1 : Below w.heap.size w (w.alloc (Obj.cells #[Value.slice p.ca p.n p.cc, .slice p.ra p.m p.rc] 25)) := (Below.refl _ _).alloc (Nat.le_refl _) _
 obtain ⟨w1, hw1⟩ : ∃ W, W = w.alloc (Obj.cells #[Value.slice p.ca p.n p.cc, .slice p.ra p.m p.rc] 25) := ⟨_, rfl⟩
 obtain ⟨xb, hxb⟩ : ∃ x, x = w.heap.size := ⟨_, rfl⟩
 have hB : Blk w1 xb (.slice p.ca p.n p.cc) (.slice p.ra p.m p.rc) := by rw [hw1, hxb]; exact Blk.new _ _ _ _
 rw [← hw1] at hb1
 have HV := Lib.hid hv
 have HU := Lib.hid hu
 have CV := Lib.hid (pValid_any p hs v hv w1 (hp.on hb1))
 have CU := fun W (h : Below w.heap.size w W) => Lib.hid (pvld_any xa N xc X W (hx.on h) hb (by omega) u hu)
 have HCU := Lib.hid CU
 have HP := Lib.hid hp
 have HX := Lib.hid hx
 have HB := Lib.hid hb1
 have HXB := Lib.hid hB
 clear hb1 hB hv hu hp hx hb hs CU
 unfold PgD.val at CV
 go_enter Tryz.func9, Tryz.ntmps9
 go_upto_region 1 with fail
 rw [← hxb, ← hw1]
 clear hxb hw1
 have q0 := HXB.out.2.1
 have q1 := HXB.out.2.2
 cases v
 ·have hno : ¬ (p.Ok ∧ FrV N X) := fun h => by have := HV.out.2 h.1; cases this
  go_wp2_with fail
  (with_reducible refine ((CV.out).mono ?_))
  rintro e w2 ⟨rfl, hb2⟩
  go_wp2_with fail
  go_ret2
  exact ⟨below_on HB.out hb2, false, 1, rfl, .inl ⟨hno, rfl, rfl⟩⟩
 have hok : p.Ok := HV.out.1 rfl
 have hm2 := hok.m2
 have hn2 := hok.n2
 have hn1 := hok.n1
 go_wp2_with fail
 (with_reducible refine ((CV.out).mono ?_))
 rintro e w2 ⟨rfl, hb2⟩
 have HXB := Lib.hid (HXB.out.on hb2)
 have HB := Lib.hid (below_on HB.out hb2)
 clear CV hb2 q0 q1
 cases u
 ·have hno : ¬ (p.Ok ∧ FrV N X) := fun h => by have := HU.out.2 h.2; cases this
  go_wp2_with fail
  (with_reducible refine (((HCU.out _ HB.out).out).mono ?_))
  rintro e w3 ⟨rfl, hb2⟩
  go_wp2_with fail
  go_ret2
  exact ⟨below_on HB.out hb2, false, 1, rfl, .inl ⟨hno, rfl, rfl⟩⟩
 have hfr : FrV N X := HU.out.1 rfl
 have HFR := Lib.hid hfr
 clear hfr
 go_wp2_with fail
 (with_reducible refine (((HCU.out _ HB.out).out).mono ?_))
 rintro e w3 ⟨rfl, hb2⟩
 have HXB := Lib.hid (HXB.out.on hb2)
 have HB := Lib.hid (below_on HB.out hb2)
 clear HCU hb2 HV HU
 have q1 := HXB.out.2.2
 by_cases hne : N = p.m
 case neg =>
  have hne1 : ((N : Int) != (p.m : Int)) = true := by simp; omega
  have hne2 : ¬ ((N : Int) = (p.m : Int)) := by omega
  go_wp2_with fail
  go_ret2
  exact ⟨HB.out, false, 3, rfl, .inr (.inl ⟨hok, HFR.out, hne, rfl, rfl⟩)⟩
 subst hne
 have q0 := HXB.out.2.1
 have CW := Lib.hid (weighted_any p hok xa xc X w3 (HP.out.on HB.out) (HX.out.on HB.out) HFR.out)
 unfold PgD.val at CW
 go_wp2_with fail
 (with_reducible refine ((CW.out).mono ?_))
 rintro e w4 ⟨hb, h⟩
 have HB := Lib.hid (below_on HB.out hb)
 have HXB := Lib.hid (HXB.out.on hb)
 clear CW hb q0 q1
 rcases h with ⟨ab, rfl, h1, h2, h3⟩ | ⟨rfl, h1⟩
 case inr =>
  have HE := Lib.hid h1
  clear h1
  go_wp2_with fail
  go_ret2
  exact ⟨HB.out, false, 5, rfl, .inr (.inr (.inl ⟨hok, HFR.out, rfl, HE.out, rfl, rfl⟩))⟩
 have HE := Lib.hid h3
 have HFX := Lib.hid h2
 clear h1 h2 h3
 have q0 := HXB.out.2.1
 have q1 := HXB.out.2.2
 obtain ⟨i0, hi0, hz0, hz1, hz2⟩ := info_parts (show (Tryz.prog.info? 3).map (fun i => (i.zero, i.size, i.bytes)) = some (some (Value.int IntKind.i64 0), 1, 8) by kernel_rfl)
 go_upto_region 9 with (refine wpList_make_full _ rfl _ _ 22 rfl w4.heap.size 3 i0 (.int .i64 0) 1 Tryz.underlying22 hi0 hz0 hz1 _ _ _ _ p.n rfl rfl rfl rfl (by rw [hz2]; omega) (by unfold maxLen; omega) (Nat.le_refl _) ?_; intro w5 ho hg)
 have hb5 : Below w4.heap.size w4 w5 := ⟨hg.os, hg.tape, hg.output, hg.size, fun k hk => hg.block k hk (by simp)⟩
 obtain ⟨nb, hnb⟩ : ∃ x, x = w4.heap.size := ⟨_, rfl⟩
 rw [← hnb] at ho
 rw [← hnb]
 have hnr := NRow.made ho 0 (Nat.zero_le _)
 have HZ : Hid (IRow w5 (some ⟨nb, 0, none⟩) p.n (fun _ => 0)) := fun _ => ⟨nb, 0, rfl, hnr.hb, fun j hj => by rw [Nat.zero_add]; exact hnr.cell j hj⟩
 have HB := Lib.hid (below_on HB.out hb5)
 have HXB := Lib.hid (HXB.out.on hb5)
 have HFX := Lib.hid (HFX.out.on hb5)
 clear hnr ho hg hb5 hnb hi0 hz0 hz1 hz2 i0 q0 q1
 obtain ⟨v1, hv1⟩ := bool_of (RgS p X)
 obtain ⟨v2, hv2⟩ := bool_of (∀ j, j < p.n → cmpI (outF (wF p) (fun _ => p.m) X (p.n + 1) j).1 (outF (wF p) (fun _ => p.m) X (p.n + 1) j).2 0 ≤ 0)
 have C1 := fun W (h : Below w.heap.size w W) => Lib.hid (rightSigns_any p hok xa xc X W (HP.out.on h) (HX.out.on h) v1 hv1)
 have HC1 := Lib.hid C1
 have C2 := fun W (h : Below w5.heap.size w5 W) => Lib.hid (allAtMost_any (some ⟨ab, 0, none⟩) (p.n + 1) (p.n + 1) (outF (wF p) (fun _ => p.m) X (p.n + 1)) (some ⟨nb, 0, none⟩) p.n p.n (fun _ => 0) W (HFX.out.on h).ifr (HZ.out.on h) (by omega) (by omega) (fun j hj => by unfold outF; rw [if_pos hj]; exact wF_vld hok HFR.out (HE.out j hj)) (fun _ _ => by omega) v2 hv2)
 have HC2 := Lib.hid C2
 have e2 : v2 = true ↔ ∀ j, j < p.n → cmpI (comS (wF p j) X p.m).1 (comS (wF p j) X p.m).2.1 0 ≤ 0 := by
  rw [hv2]
  constructor
  ·intro h j hj
   have := h j hj
   unfold outF at this
   rwa [if_pos (by omega)] at this
  ·intro h j hj
   unfold outF
   rw [if_pos (by omega)]
   exact h j hj
 have HV1 := Lib.hid hv1
 have HV2 := Lib.hid e2
 clear C1 C2 hv1 hv2 e2
 unfold PgD.val at HC1
 have q0 := HXB.out.2.1
 have q1 := HXB.out.2.2
 cases v1
 ·have hno : ¬ RefR p X := fun h => by have := HV1.out.2 h.sg; cases this
  go_wp2_with fail
  (with_reducible refine (((HC1.out _ HB.out).out).mono ?_))
  rintro e w6 ⟨rfl, hb6⟩
  have HB := Lib.hid (below_on HB.out hb6)
  clear hb6 q0 q1
  go_wp2_with fail
  go_ret2
  exact ⟨HB.out, false, 0, rfl, .inr (.inr (.inr ⟨hok, HFR.out, rfl, HE.out, ⟨fun h => (by cases h), fun h => absurd h hno⟩, rfl⟩))⟩
 go_wp2_with fail
 (with_reducible refine (((HC1.out _ HB.out).out).mono ?_))
 rintro e w6 ⟨rfl, hb6⟩
 have HB := Lib.hid (below_on HB.out hb6)
 have HXB := Lib.hid (HXB.out.on hb6)
 have H6 := Lib.hid hb6
 clear hb6 q0 q1 HC1
 have q0 := HXB.out.2.1
 cases v2
 ·have hno : ¬ RefR p X := fun h => by have := HV2.out.2 h.col; cases this
  go_wp2_with fail
  (with_reducible refine (((HC2.out _ H6.out).out).mono ?_))
  rintro e w7 ⟨rfl, hb7⟩
  have HB := Lib.hid (below_on HB.out hb7)
  clear hb7 q0
  go_wp2_with fail
  go_ret2
  exact ⟨HB.out, false, 0, rfl, .inr (.inr (.inr ⟨hok, HFR.out, rfl, HE.out, ⟨fun h => (by cases h), fun h => absurd h hno⟩, rfl⟩))⟩
 go_wp2_with fail
 (with_reducible refine (((HC2.out _ H6.out).out).mono ?_))
 rintro e w7 ⟨rfl, hb7⟩
 have HB := Lib.hid (below_on HB.out hb7)
 have HXB := Lib.hid (HXB.out.on hb7)
 have HFX := Lib.hid (HFX.out.on (below_on H6.out hb7))
 clear hb7 q0 HC2 H6 HZ
 have q0 := HXB.out.2.1
 have x0 := HFX.out.c0 p.n (by omega)
 unfold outF at x0
 rw [if_pos (by omega)] at x0
 obtain ⟨a, ha⟩ : ∃ x, (comS (wF p p.n) X p.m).1 = x := ⟨_, rfl⟩
 simp only [ha] at x0
 have l1 : (p.n : Int) < ((p.n + 1 : Nat) : Int) := by omega
 have l2 : (p.n : Int) < (p.n : Int) + 1 := by omega
 have HA := Lib.hid ha
 clear ha
 go_wp2_with fail
 go_ret2
 refine ⟨HB.out, decide (0 < a), 0, rfl, .inr (.inr (.inr ⟨hok, HFR.out, rfl, HE.out, ⟨fun h => ⟨HV1.out.1 (by trivial), HV2.out.1 (by trivial), by rw [HA.out]; exact of_decide_eq_true h⟩, fun h => decide_eq_true (by rw [← HA.out]; exact h.pos)⟩, rfl⟩))⟩
end Go.Proofs.YtggpdhdbeokkcaaGreat
