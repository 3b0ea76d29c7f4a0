/- Layer 5: what an ended run says: a least value with its proof, a refutation, or a ray. -/
import Derived.Test.YtdbmlkkpffoadaaPOut
namespace Go.Proofs.Ytdbmlkkpffoadaa
set_option linter.unusedVariables false

/-- A point x / d of a program satisfies a row; a ray does. -/
def rowB (k : Int) (s r : Int) : Prop := (k = 1 → s ≤ r) ∧ (k = 2 → r ≤ s) ∧ (k = 3 → s = r)
structure FeaP (p : PgD) (d : Int) (x : Nat → Int) : Prop where
  nn : ∀ j, j < p.n → 0 ≤ x j
  row : ∀ i, i < p.m → rowB (p.Kd i) (sumN p.n fun j => p.Z i j * x j) (p.Rt i * d)
/-- Multipliers y / e are right. -/
def RgtP (p : PgD) (y : Nat → Int) : Prop := ∀ i, i < p.m → (p.Kd i = 1 → y i ≤ 0) ∧ (p.Kd i = 2 → 0 ≤ y i)
def valP (p : PgD) (x : Nat → Int) : Int := sumN p.n fun j => p.C j * x j
def colP (p : PgD) (y : Nat → Int) (j : Nat) : Int := sumN p.m fun i => p.Z i j * y i
def rgtV (p : PgD) (y : Nat → Int) : Int := sumN p.m fun i => p.Rt i * y i
structure RayP (p : PgD) (r : Nat → Int) : Prop where
  nn : ∀ j, j < p.n → 0 ≤ r j
  row : ∀ i, i < p.m → rowB (p.Kd i) (sumN p.n fun j => p.Z i j * r j) 0
  neg : valP p r < 0
structure ProvP (p : PgD) (e : Int) (y : Nat → Int) : Prop where
  rgt : RgtP p y
  col : ∀ j, j < p.n → colP p y j ≤ p.C j * e
structure RefuP (p : PgD) (y : Nat → Int) : Prop where
  rgt : RgtP p y
  col : ∀ j, j < p.n → colP p y j ≤ 0
  pos : 0 < rgtV p y

section
variable {p : PgD}
/-- The sums of rows and those of columns are one sum. -/
theorem dual_sum (p : PgD) (x y : Nat → Int) : (sumN p.n fun j => x j * colP p y j) = sumN p.m fun i => y i * sumN p.n fun j => p.Z i j * x j := by
  have e1 : (sumN p.n fun j => x j * colP p y j) = sumN p.n fun j => sumN p.m fun i => x j * (p.Z i j * y i) := sumN_congr fun j _ => by unfold colP; rw [sumN_mul]
  rw [e1, sumN_swap]
  refine sumN_congr fun i _ => ?_
  rw [← sumN_mul]
  exact sumN_congr fun j _ => by grind
theorem row_mul {k s r y : Int} (hk : 1 ≤ k ∧ k ≤ 3) (h : rowB k s r) (h1 : k = 1 → y ≤ 0) (h2 : k = 2 → 0 ≤ y) : y * r ≤ y * s := by
  obtain ⟨a, b, c⟩ := h
  have : k = 1 ∨ k = 2 ∨ k = 3 := by omega
  rcases this with g | g | g
  · exact Int.mul_le_mul_of_nonpos_left (h1 g) (a g)
  · exact Int.mul_le_mul_of_nonneg_left (b g) (h2 g)
  · rw [c g]; exact Int.le_refl _
theorem weak_rows (hv : p.Ok) {d : Int} {x y : Nat → Int} (hx : FeaP p d x) (hy : RgtP p y) : rgtV p y * d ≤ sumN p.n fun j => x j * colP p y j := by
  rw [dual_sum, Int.mul_comm]
  unfold rgtV
  rw [← sumN_mul]
  refine sumN_le fun i hi => ?_
  have := row_mul (y := y i) (hv.k i hi) (hx.row i hi) (hy i hi).1 (hy i hi).2
  have e : d * (p.Rt i * y i) = y i * (p.Rt i * d) := by grind
  rw [e]; exact this
/-- No feasible point has a lesser value. -/
theorem weak (hv : p.Ok) {d e : Int} {x y : Nat → Int} (hx : FeaP p d x) (hy : ProvP p e y) : rgtV p y * d ≤ e * valP p x := by
  refine Int.le_trans (weak_rows hv hx hy.rgt) ?_
  unfold valP
  rw [← sumN_mul]
  refine sumN_le fun j hj => ?_
  have := Int.mul_le_mul_of_nonneg_left (hy.col j hj) (hx.nn j hj)
  have e2 : e * (p.C j * x j) = x j * (p.C j * e) := by grind
  rw [e2]; exact this
theorem no_refute (hv : p.Ok) {d : Int} {x y : Nat → Int} (hd : 0 < d) (hx : FeaP p d x) (hy : RefuP p y) : False := by
  have h1 := weak_rows hv hx hy.rgt
  have h2 : (sumN p.n fun j => x j * colP p y j) ≤ sumN p.n fun _ => 0 := sumN_le fun j hj => Int.mul_nonpos_of_nonneg_of_nonpos (hx.nn j hj) (hy.col j hj)
  rw [sumN_zero (n := p.n) (f := fun _ => 0) (fun _ _ => rfl)] at h2
  have h3 := Int.mul_pos hy.pos hd
  omega
theorem no_ray (hv : p.Ok) {e : Int} {r y : Nat → Int} (he : 0 < e) (hr : RayP p r) (hy : ProvP p e y) : False := by
  have h0 : FeaP { p with Rt := fun _ => 0 } 1 r := ⟨hr.nn, fun i hi => by show rowB (p.Kd i) _ (0 * 1); exact hr.row i hi⟩
  have h1 : 0 ≤ sumN p.n fun j => r j * colP p y j := by
    rw [dual_sum]
    refine sumN_nn fun i hi => ?_
    have := row_mul (y := y i) (hv.k i hi) (hr.row i hi) (hy.rgt i hi).1 (hy.rgt i hi).2
    rwa [Int.mul_zero] at this
  have h2 : (sumN p.n fun j => r j * colP p y j) ≤ e * valP p r := by
    unfold valP
    rw [← sumN_mul]
    refine sumN_le fun j hj => ?_
    have := Int.mul_le_mul_of_nonneg_left (hy.col j hj) (hr.nn j hj)
    have e2 : e * (p.C j * r j) = r j * (p.C j * e) := by grind
    rw [e2]; exact this
  have h3 := Int.mul_neg_of_pos_of_neg he hr.neg
  omega

/-- The costs of a column by those of the lacks. -/
theorem zz_cols {n m : Nat} {A : Nat → Nat → Int} {f σ : Nat → Int} (h : LpA n m A f σ) (z : Nat → Int) (b : Nat → Nat) (j : Nat) :
    zzP m A z b j = ddP m A b * z j + sumN m fun c => A c j * (zzP m A z b (n + m + c) - ddP m A b * z (n + m + c)) := by
  have h1 : ∀ k, k < m → ttP m A b k j = sumN m fun c => A c j * ttP m A b k (n + m + c) := fun k hk => by
    have := tt_cols (m := m) (A := A) b (i := k) hk (j := j) (a := 1) (n := m) (f := fun c => A c j) (x := fun c => n + m + c) (fun c hc => by
      rw [Int.one_mul, sumN_one hc (fun l hl hn => by rw [h.la c l hc hl, if_neg (fun e => hn e.symm), Int.mul_zero]), h.la c c hc hc, if_pos rfl, Int.mul_one])
    rwa [Int.one_mul] at this
  have h2 : (sumN m fun k => z (b k) * ttP m A b k j) = sumN m fun c => A c j * (ddP m A b * z (n + m + c) - zzP m A z b (n + m + c)) := by
    have e1 : (sumN m fun k => z (b k) * ttP m A b k j) = sumN m fun k => sumN m fun c => A c j * (z (b k) * ttP m A b k (n + m + c)) := sumN_congr fun k hk => by
      rw [h1 k hk, ← sumN_mul]
      exact sumN_congr fun c _ => by grind
    rw [e1, sumN_swap]
    refine sumN_congr fun c hc => ?_
    rw [sumN_mul]
    congr 1
    unfold zzP
    omega
  have h3 : (sumN m fun c => A c j * (zzP m A z b (n + m + c) - ddP m A b * z (n + m + c))) = (-1) * sumN m fun c => A c j * (ddP m A b * z (n + m + c) - zzP m A z b (n + m + c)) := by
    rw [← sumN_mul]; exact sumN_congr fun c _ => by grind
  rw [h3, ← h2]
  unfold zzP
  omega

/-- The number of a variable at a basis. -/
def xBas (m : Nat) (b : Nat → Nat) (g : Nat → Int) (j : Nat) : Int := sumN m fun i => if b i = j then g i else 0
theorem xBas_nn {m : Nat} {b : Nat → Nat} {g : Nat → Int} (h : ∀ i, i < m → 0 ≤ g i) (j : Nat) : 0 ≤ xBas m b g j := sumN_nn fun i hi => by
  show 0 ≤ (if b i = j then g i else 0)
  split
  · exact h i hi
  · exact Int.le_refl _
theorem xBas_sum {m N : Nat} {b : Nat → Nat} (hb : ∀ i, i < m → b i < N) (g : Nat → Int) (w : Nat → Int) : (sumN N fun j => w j * xBas m b g j) = sumN m fun i => w (b i) * g i := by
  have e1 : (sumN N fun j => w j * xBas m b g j) = sumN N fun j => sumN m fun i => w j * (if b i = j then g i else 0) := sumN_congr fun j _ => by unfold xBas; rw [sumN_mul]
  rw [e1, sumN_swap]
  refine sumN_congr fun i hi => ?_
  rw [sumN_one (hb i hi) (fun j hj hn => by rw [if_neg (fun e => hn e.symm), Int.mul_zero]), if_pos rfl]
theorem xBas_off {m : Nat} {b : Nat → Nat} {g : Nat → Int} {j : Nat} (h : ∀ i, i < m → b i = j → g i = 0) : xBas m b g j = 0 := sumN_zero fun i hi => by
  split
  · rename_i e; exact h i hi e
  · rfl

section
variable {b : Nat → Nat}
/-- The rows of a program at numbers of all columns for which the first table gives a multiple of the right sides. -/
theorem rows_of (hv : p.Ok) {x : Nat → Int} {t : Int} (hx : ∀ j, 0 ≤ x j) (hz : ∀ c, c < p.m → x (p.n + p.m + c) = 0)
    (h : ∀ c, c < p.m → (sumN (p.n + p.m + p.m) fun j => tabA p.n p.m p.Z p.Kd p.Rt c j * x j) = t * tabA p.n p.m p.Z p.Kd p.Rt c (p.n + p.m + p.m)) (i : Nat) (hi : i < p.m) : rowB (p.Kd i) (sumN p.n fun j => p.Z i j * x j) (p.Rt i * t) := by
  have L := lpA p.n p.m p.Z p.Kd p.Rt
  have h1 := h i hi
  rw [sumN_app, sumN_app, sumN_zero (n := p.m) (f := fun k => tabA p.n p.m p.Z p.Kd p.Rt i (p.n + p.m + k) * x (p.n + p.m + k)) (fun k hk => by rw [hz k hk, Int.mul_zero]),
    sumN_one (n := p.m) (k := i) hi (fun k hk hn => by rw [L.sl i k hi hk, if_neg (fun e => hn e.symm), Int.zero_mul]), L.sl i i hi hi, if_pos rfl] at h1
  have e1 : (sumN p.n fun j => tabA p.n p.m p.Z p.Kd p.Rt i j * x j) = sgR (p.Rt i) * sumN p.n fun j => p.Z i j * x j := by
    rw [← sumN_mul]
    exact sumN_congr fun j hj => by unfold tabA rawA; rw [if_neg (by omega), if_pos hj]; grind
  have e2 : tabA p.n p.m p.Z p.Kd p.Rt i (p.n + p.m + p.m) = sgR (p.Rt i) * p.Rt i := by unfold tabA rawA; rw [if_neg (by omega), if_neg (by omega), if_neg (by omega), if_pos rfl]
  rw [e1, e2] at h1
  unfold sgP5 at h1
  have hs := hx (p.n + i)
  have hk := hv.k i hi
  have e3 : t * (sgR (p.Rt i) * p.Rt i) = sgR (p.Rt i) * (p.Rt i * t) := by grind
  rw [e3] at h1
  have h2 : (sumN p.n fun j => p.Z i j * x j) + slk (p.Kd i) * x (p.n + i) = p.Rt i * t := by
    rw [Int.mul_assoc] at h1
    generalize slk (p.Kd i) * x (p.n + i) = u at *
    rcases sgR_cases (p.Rt i) with g | g <;> rw [g] at h1 <;> omega
  refine ⟨fun e => ?_, fun e => ?_, fun e => ?_⟩
  · rw [e, show slk 1 = 1 from rfl] at h2; omega
  · rw [e, show slk 2 = -1 from rfl] at h2; omega
  · rw [e, show slk 3 = 0 from rfl] at h2; omega

/-- The point of a table whose lacks are zero. -/
def xP (p : PgD) (b : Nat → Nat) (j : Nat) : Int := xBas p.m b (fun i => ttP p.m (tabA p.n p.m p.Z p.Kd p.Rt) b i (p.n + p.m + p.m)) j
theorem xP_fea (hv : p.Ok) {k : Nat} (h : RelI p.m p.n (tabA p.n p.m p.Z p.Kd p.Rt) k b) : FeaP p (ddP p.m (tabA p.n p.m p.Z p.Kd p.Rt) b) (xP p b) := by
  have nn : ∀ j, 0 ≤ xP p b j := fun j => xBas_nn (fun i hi => h.good.feas i hi) j
  refine ⟨fun j _ => nn j, rows_of hv nn (fun c hc => xBas_off fun i hi e => h.zero i hi (by omega)) (fun c hc => ?_)⟩
  unfold xP
  rw [xBas_sum h.lt2, cramerP p.m _ b c _ hc]
  exact sumN_congr fun i _ => Int.mul_comm _ _
theorem xP_val {k : Nat} (h : RelI p.m p.n (tabA p.n p.m p.Z p.Kd p.Rt) k b) : valP p (xP p b) = - zzP p.m (tabA p.n p.m p.Z p.Kd p.Rt) (c0F p.n p.C) b (p.n + p.m + p.m) := by
  have h1 := xBas_sum h.lt2 (fun i => ttP p.m (tabA p.n p.m p.Z p.Kd p.Rt) b i (p.n + p.m + p.m)) (c0F p.n p.C)
  have e1 : (sumN (p.n + p.m + p.m) fun j => c0F p.n p.C j * xBas p.m b (fun i => ttP p.m (tabA p.n p.m p.Z p.Kd p.Rt) b i (p.n + p.m + p.m)) j) = valP p (xP p b) := by
    rw [show p.n + p.m + p.m = p.n + (p.m + p.m) by omega, sumN_app, sumN_zero (n := p.m + p.m) (fun k _ => by unfold c0F; rw [if_neg (by omega), Int.zero_mul])]
    unfold valP xP
    rw [Int.add_zero, show p.n + (p.m + p.m) = p.n + p.m + p.m by omega]
    exact sumN_congr fun j hj => by unfold c0F; rw [if_pos hj]
  rw [e1] at h1
  rw [h1]
  unfold zzP
  have : c0F p.n p.C (p.n + p.m + p.m) = 0 := if_neg (by omega)
  rw [this, Int.mul_zero]
  omega
theorem tabA_var (p : PgD) (c j : Nat) (hj : j < p.n) : tabA p.n p.m p.Z p.Kd p.Rt c j = sgR (p.Rt c) * p.Z c j := by
  unfold tabA rawA
  rw [if_neg (by omega), if_pos hj]
theorem tabA_right (p : PgD) (c : Nat) (hc : c < p.m) : tabA p.n p.m p.Z p.Kd p.Rt c (p.n + p.m + p.m) = sgR (p.Rt c) * p.Rt c := by
  unfold tabA rawA
  rw [if_neg (by omega), if_neg (by omega), if_neg (by omega), if_pos rfl]
/-- The multipliers of a table. -/
def yP (p : PgD) (lk : Int) (z : Nat → Int) (b : Nat → Nat) (i : Nat) : Int := sgR (p.Rt i) * (lk * ddP p.m (tabA p.n p.m p.Z p.Kd p.Rt) b - zzP p.m (tabA p.n p.m p.Z p.Kd p.Rt) z b (p.n + p.m + i))
theorem yP_cols (lk : Int) (z : Nat → Int) (hz : ∀ c, c < p.m → z (p.n + p.m + c) = lk) (b : Nat → Nat) (j : Nat) (hj : j < p.n) : zzP p.m (tabA p.n p.m p.Z p.Kd p.Rt) z b j = ddP p.m (tabA p.n p.m p.Z p.Kd p.Rt) b * z j - colP p (yP p lk z b) j := by
  rw [zz_cols (lpA p.n p.m p.Z p.Kd p.Rt)]
  have : (sumN p.m fun c => tabA p.n p.m p.Z p.Kd p.Rt c j * (zzP p.m (tabA p.n p.m p.Z p.Kd p.Rt) z b (p.n + p.m + c) - ddP p.m (tabA p.n p.m p.Z p.Kd p.Rt) b * z (p.n + p.m + c))) = (-1) * colP p (yP p lk z b) j := by
    unfold colP
    rw [← sumN_mul]
    refine sumN_congr fun c hc => ?_
    rw [hz c hc, tabA_var p c j hj]
    unfold yP
    generalize zzP p.m (tabA p.n p.m p.Z p.Kd p.Rt) z b (p.n + p.m + c) = u
    generalize ddP p.m (tabA p.n p.m p.Z p.Kd p.Rt) b = v
    grind
  rw [this]; omega
theorem yP_right (lk : Int) (z : Nat → Int) (hz : ∀ c, c < p.m → z (p.n + p.m + c) = lk) (hR : z (p.n + p.m + p.m) = 0) (b : Nat → Nat) : zzP p.m (tabA p.n p.m p.Z p.Kd p.Rt) z b (p.n + p.m + p.m) = - rgtV p (yP p lk z b) := by
  rw [zz_cols (lpA p.n p.m p.Z p.Kd p.Rt), hR, Int.mul_zero, Int.zero_add]
  have : (sumN p.m fun c => tabA p.n p.m p.Z p.Kd p.Rt c (p.n + p.m + p.m) * (zzP p.m (tabA p.n p.m p.Z p.Kd p.Rt) z b (p.n + p.m + c) - ddP p.m (tabA p.n p.m p.Z p.Kd p.Rt) b * z (p.n + p.m + c))) = (-1) * rgtV p (yP p lk z b) := by
    unfold rgtV
    rw [← sumN_mul]
    refine sumN_congr fun c hc => ?_
    rw [hz c hc, tabA_right p c hc]
    unfold yP
    generalize zzP p.m (tabA p.n p.m p.Z p.Kd p.Rt) z b (p.n + p.m + c) = u
    generalize ddP p.m (tabA p.n p.m p.Z p.Kd p.Rt) b = v
    grind
  rw [this]; omega
theorem yP_rgt (lk : Int) (z : Nat → Int) (hz : ∀ c, c < p.m → z (p.n + p.m + c) = lk) (hs : ∀ c, c < p.m → z (p.n + c) = 0) (b : Nat → Nat) (h : ∀ j, j < p.n + p.m → 0 ≤ zzP p.m (tabA p.n p.m p.Z p.Kd p.Rt) z b j) : RgtP p (yP p lk z b) := fun i hi => by
  have L := lpA p.n p.m p.Z p.Kd p.Rt
  have h1 := h (p.n + i) (by omega)
  rw [zz_cols L, hs i hi, Int.mul_zero, Int.zero_add, sumN_one hi (fun c hc hn => by rw [L.sl c i hc hi, if_neg hn, Int.zero_mul]), L.sl i i hi hi, if_pos rfl, hz i hi] at h1
  unfold sgP5 at h1
  have e : sgR (p.Rt i) * slk (p.Kd i) * (zzP p.m (tabA p.n p.m p.Z p.Kd p.Rt) z b (p.n + p.m + i) - ddP p.m (tabA p.n p.m p.Z p.Kd p.Rt) b * lk) = - (slk (p.Kd i) * yP p lk z b i) := by unfold yP; grind
  rw [e] at h1
  refine ⟨fun g => ?_, fun g => ?_⟩
  · rw [g, show slk 1 = 1 from rfl] at h1; omega
  · rw [g, show slk 2 = -1 from rfl] at h1; omega

theorem y_prov (h : ∀ j, j < p.n + p.m → 0 ≤ zzP p.m (tabA p.n p.m p.Z p.Kd p.Rt) (c0F p.n p.C) b j) : ProvP p (ddP p.m (tabA p.n p.m p.Z p.Kd p.Rt) b) (yP p 0 (c0F p.n p.C) b) := by
  have hz : ∀ c, c < p.m → c0F p.n p.C (p.n + p.m + c) = 0 := fun c hc => if_neg (by omega)
  refine ⟨yP_rgt 0 _ hz (fun c hc => if_neg (by omega)) b h, fun j hj => ?_⟩
  have h1 := h j (by omega)
  rw [yP_cols 0 _ hz b j hj, show c0F p.n p.C j = p.C j from if_pos hj, Int.mul_comm] at h1
  omega
theorem y_refu (h : ∀ j, j < p.n + p.m → 0 ≤ zzP p.m (tabA p.n p.m p.Z p.Kd p.Rt) (c1F p.n p.m) b j) (hR : zzP p.m (tabA p.n p.m p.Z p.Kd p.Rt) (c1F p.n p.m) b (p.n + p.m + p.m) < 0) : RefuP p (yP p 1 (c1F p.n p.m) b) := by
  have hz : ∀ c, c < p.m → c1F p.n p.m (p.n + p.m + c) = 1 := fun c hc => if_pos ⟨by omega, by omega⟩
  refine ⟨yP_rgt 1 _ hz (fun c hc => if_neg (by omega)) b h, fun j hj => ?_, ?_⟩
  · have h1 := h j (by omega)
    rw [yP_cols 1 _ hz b j hj, show c1F p.n p.m j = 0 from if_neg (by omega), Int.mul_zero] at h1
    omega
  · rw [yP_right 1 _ hz (if_neg (by omega)) b] at hR
    omega
/-- The sum of the lacks. -/
theorem lacks_sum (h : GoodP p.m (tabA p.n p.m p.Z p.Kd p.Rt) (p.n + p.m + p.m + 1) (p.n + p.m + p.m) b) : zzP p.m (tabA p.n p.m p.Z p.Kd p.Rt) (c1F p.n p.m) b (p.n + p.m + p.m) ≤ 0 ∧
    (zzP p.m (tabA p.n p.m p.Z p.Kd p.Rt) (c1F p.n p.m) b (p.n + p.m + p.m) = 0 → (∀ l, l < p.m → b l < p.n + p.m + p.m) → ∀ i, i < p.m → p.n + p.m ≤ b i → ttP p.m (tabA p.n p.m p.Z p.Kd p.Rt) b i (p.n + p.m + p.m) = 0) := by
  have nn : ∀ i, i < p.m → 0 ≤ c1F p.n p.m (b i) * ttP p.m (tabA p.n p.m p.Z p.Kd p.Rt) b i (p.n + p.m + p.m) := fun i hi => by
    unfold c1F
    split
    · rw [Int.one_mul]; exact h.feas i hi
    · rw [Int.zero_mul]; exact Int.le_refl _
  have e : c1F p.n p.m (p.n + p.m + p.m) = 0 := if_neg (by omega)
  have h1 := sumN_nn nn
  refine ⟨by unfold zzP; rw [e, Int.mul_zero]; omega, fun h0 hl i hi hb => ?_⟩
  have h2 := sumN_ge hi nn
  unfold zzP at h0
  rw [e, Int.mul_zero] at h0
  have h3 := nn i hi
  have h4 : c1F p.n p.m (b i) * ttP p.m (tabA p.n p.m p.Z p.Kd p.Rt) b i (p.n + p.m + p.m) = 0 := by omega
  rwa [show c1F p.n p.m (b i) = 1 from if_pos ⟨hb, hl i hi⟩, Int.one_mul] at h4

/-- A column that nothing keeps from growing gives a ray. -/
theorem ray_of (hv : p.Ok) (h : RelI p.m p.n (tabA p.n p.m p.Z p.Kd p.Rt) p.m b) {s : Nat} (hs : EntP p.m (tabA p.n p.m p.Z p.Kd p.Rt) (c0F p.n p.C) (p.n + p.m) b s) (hn : ∀ i, i < p.m → ttP p.m (tabA p.n p.m p.Z p.Kd p.Rt) b i s ≤ 0) : ∃ r, RayP p r := by
  have hd := ddP_pos h.good.nz
  have hsN := hs.1
  refine ⟨fun j => (if j = s then ddP p.m (tabA p.n p.m p.Z p.Kd p.Rt) b else 0) + xBas p.m b (fun i => - ttP p.m (tabA p.n p.m p.Z p.Kd p.Rt) b i s) j, ?_⟩
  have nn : ∀ j, 0 ≤ (if j = s then ddP p.m (tabA p.n p.m p.Z p.Kd p.Rt) b else 0) + xBas p.m b (fun i => - ttP p.m (tabA p.n p.m p.Z p.Kd p.Rt) b i s) j := fun j => by
    have h1 := xBas_nn (b := b) (g := fun i => - ttP p.m (tabA p.n p.m p.Z p.Kd p.Rt) b i s) (fun i hi => by have := hn i hi; show 0 ≤ - _; omega) j
    split <;> omega
  have sums : ∀ w : Nat → Int, (sumN (p.n + p.m + p.m) fun j => w j * ((if j = s then ddP p.m (tabA p.n p.m p.Z p.Kd p.Rt) b else 0) + xBas p.m b (fun i => - ttP p.m (tabA p.n p.m p.Z p.Kd p.Rt) b i s) j)) = w s * ddP p.m (tabA p.n p.m p.Z p.Kd p.Rt) b + sumN p.m fun i => w (b i) * (- ttP p.m (tabA p.n p.m p.Z p.Kd p.Rt) b i s) := fun w => by
    rw [← xBas_sum h.lt2]
    have e1 : (sumN (p.n + p.m + p.m) fun j => w j * (if j = s then ddP p.m (tabA p.n p.m p.Z p.Kd p.Rt) b else 0)) = w s * ddP p.m (tabA p.n p.m p.Z p.Kd p.Rt) b := by
      rw [sumN_one (k := s) (by omega) (fun j hj hn => by rw [if_neg hn, Int.mul_zero]), if_pos rfl]
    rw [← e1, ← sumN_add]
    exact sumN_congr fun j _ => by grind
  refine ⟨fun j _ => nn j, fun i hi => ?_, ?_⟩
  · have h1 := rows_of hv (t := 0) nn (fun c hc => by
      rw [if_neg (by omega), xBas_off (fun i hi e => by rw [h.done i hi hi (by omega) s hsN]; rfl)]; rfl) (fun c hc => by
      rw [sums, Int.zero_mul, Int.mul_comm, cramerP p.m _ b c s hc]
      have e1 : (sumN p.m fun i => tabA p.n p.m p.Z p.Kd p.Rt c (b i) * (- ttP p.m (tabA p.n p.m p.Z p.Kd p.Rt) b i s)) = (-1) * sumN p.m fun k => ttP p.m (tabA p.n p.m p.Z p.Kd p.Rt) b k s * tabA p.n p.m p.Z p.Kd p.Rt c (b k) := by
        rw [← sumN_mul]; exact sumN_congr fun i _ => by grind
      rw [e1]; omega) i hi
    rwa [Int.mul_zero] at h1
  · have h1 := sums (c0F p.n p.C)
    have e1 : (sumN (p.n + p.m + p.m) fun j => c0F p.n p.C j * ((if j = s then ddP p.m (tabA p.n p.m p.Z p.Kd p.Rt) b else 0) + xBas p.m b (fun i => - ttP p.m (tabA p.n p.m p.Z p.Kd p.Rt) b i s) j)) = valP p (fun j => (if j = s then ddP p.m (tabA p.n p.m p.Z p.Kd p.Rt) b else 0) + xBas p.m b (fun i => - ttP p.m (tabA p.n p.m p.Z p.Kd p.Rt) b i s) j) := by
      rw [show p.n + p.m + p.m = p.n + (p.m + p.m) by omega, sumN_app, sumN_zero (n := p.m + p.m) (fun k _ => by unfold c0F; rw [if_neg (by omega), Int.zero_mul])]
      unfold valP
      rw [Int.add_zero]
      exact sumN_congr fun j hj => by unfold c0F; rw [if_pos hj]
    rw [e1] at h1
    rw [h1]
    have h2 := hs.2.1
    unfold zzP at h2
    have e2 : (sumN p.m fun i => c0F p.n p.C (b i) * (- ttP p.m (tabA p.n p.m p.Z p.Kd p.Rt) b i s)) = (-1) * sumN p.m fun k => c0F p.n p.C (b k) * ttP p.m (tabA p.n p.m p.Z p.Kd p.Rt) b k s := by
      rw [← sumN_mul]; exact sumN_congr fun i _ => by grind
    rw [e2, Int.mul_comm (c0F p.n p.C s)]
    omega
/-- A step of the second phase keeps the lacks out. -/
theorem RelI.step {m n : Nat} {A : Nat → Nat → Int} {z : Nat → Int} {b b2 : Nat → Nat} (h : RelI m n A m b) (hs : StepP m A z (n + m) (n + m + m) b b2) : RelI m n A m b2 := by
  have hg := h.good.step (by omega) hs
  obtain ⟨s, r, he, hl, rfl⟩ := hs
  have P := piv (e := 1) hl.1 (.inl rfl) (by rw [Int.one_mul]; exact hl.2.1)
  have hd := ddP_pos h.good.nz
  have hsN := he.1
  have main : ∀ i, i < m → n + m ≤ updP b r s i → i ≠ r ∧ n + m ≤ b i := fun i hi hb => by
    have hir : i ≠ r := fun e => by rw [e] at hb; have : updP b r s r = s := if_pos rfl; omega
    exact ⟨hir, by have : updP b r s i = b i := if_neg hir; omega⟩
  have key : ∀ i, i < m → n + m ≤ updP b r s i → ∀ j, ttP m A b i j = 0 → ttP m A (updP b r s) i j = 0 := fun i hi hb j h0 => by
    obtain ⟨h1, h2⟩ := main i hi hb
    have q := P.oth i j hi h1
    rw [h0, h.done i hi hi h2 s hsN] at q
    have q2 : ddP m A b * ttP m A (updP b r s) i j = 0 := by rw [q]; grind
    rcases Int.mul_eq_zero.1 q2 with g | g
    · omega
    · exact g
  exact ⟨hg, fun i hi hb => key i hi hb _ (h.zero i hi (main i hi hb).2), fun i hk hi hb j hj => key i hi hb j (h.done i hi hi (main i hi hb).2 j hj), updP_lt h.lt2 (by omega)⟩
end
end
end Go.Proofs.Ytdbmlkkpffoadaa
