/- Layer 5: the rule of the least indices: a run of the simplex method ends. -/
import Derived.Test.YtggpdhdbeokkcaaGreatPM
namespace Go.Proofs.YtggpdhdbeokkcaaGreat
set_option linter.unusedVariables false

/-- The column that enters: the least one of those before N with a negative cost. -/
def EntP (m : Nat) (A : Nat → Nat → Int) (z : Nat → Int) (N : Nat) (b : Nat → Nat) (s : Nat) : Prop := s < N ∧ zzP m A z b s < 0 ∧ ∀ j, j < s → 0 ≤ zzP m A z b j
/-- The row that leaves: the first one that keeps the column from growing, by the least index. -/
def LevP (m : Nat) (A : Nat → Nat → Int) (R : Nat) (b : Nat → Nat) (s r : Nat) : Prop := r < m ∧ 0 < ttP m A b r s ∧ ∀ i, i < m → 0 < ttP m A b i s → ttP m A b r R * ttP m A b i s < ttP m A b i R * ttP m A b r s ∨ (ttP m A b r R * ttP m A b i s = ttP m A b i R * ttP m A b r s ∧ b r ≤ b i)
structure GoodP (m : Nat) (A : Nat → Nat → Int) (W R : Nat) (b : Nat → Nat) : Prop where
 nz : dtP m A b ≠ 0
 lt : ∀ l, l < m → b l < W
 feas : ∀ i, i < m → 0 ≤ ttP m A b i R
 can : ∀ l, m ≤ l → b l = 0
def StepP (m : Nat) (A : Nat → Nat → Int) (z : Nat → Int) (N R : Nat) (b b2 : Nat → Nat) : Prop := ∃ s r, EntP m A z N b s ∧ LevP m A R b s r ∧ b2 = updP b r s

theorem nonneg_of {d x : Int} (hd : 0 < d) (h : 0 ≤ d * x) : 0 ≤ x := by
 rcases Int.lt_or_le x 0 with g | g
 ·have := Int.mul_neg_of_pos_of_neg hd g; omega
 ·exact g
theorem GoodP.next {m : Nat} {A : Nat → Nat → Int} {W R : Nat} {b : Nat → Nat} (h : GoodP m A W R b) {s r : Nat} (hs : s < W) (hl : LevP m A R b s r) : GoodP m A W R (updP b r s) := by
 obtain ⟨hr, hp, hl⟩ := hl
 have P := piv (e := 1) hr (.inl rfl) (by rw [Int.one_mul]; exact hp)
 refine ⟨P.nz, updP_lt h.lt hs, fun i hi => ?_, fun l hl => by unfold updP; rw [if_neg (by omega)]; exact h.can l hl⟩
 by_cases e : i = r
 ·subst e
  rw [P.own, Int.one_mul]; exact h.feas i hi
 ·have h1 := P.oth i R hi e
  rw [Int.one_mul] at h1
  refine nonneg_of (ddP_pos h.nz) ?_
  rw [h1]
  have f1 := h.feas i hi
  have f2 := h.feas r hr
  rcases Int.lt_or_le 0 (ttP m A b i s) with g | g
  ·have := hl i hi g
   have e1 := Int.mul_comm (ttP m A b r s) (ttP m A b i R)
   have e2 := Int.mul_comm (ttP m A b i s) (ttP m A b r R)
   omega
  ·have h2 := Int.mul_nonneg (Int.le_of_lt hp) f1
   have h3 := Int.mul_nonpos_of_nonpos_of_nonneg g f2
   omega
theorem GoodP.step {m : Nat} {A : Nat → Nat → Int} {z : Nat → Int} {N W R : Nat} {b b2 : Nat → Nat} (h : GoodP m A W R b) (hN : N ≤ W) (hs : StepP m A z N R b b2) : GoodP m A W R b2 := by
 obtain ⟨s, r, h1, h2, rfl⟩ := hs
 exact h.next (by have := h1.1; omega) h2

theorem frac_trans {a b c e f g : Int} (he : 0 < e) (hb : 0 < b) (hf : 0 < f) (h1 : a * e ≤ c * b) (h2 : c * f ≤ g * e) : a * f ≤ g * b := by
 have h3 := Int.mul_le_mul_of_nonneg_right h1 (Int.le_of_lt hf)
 have h4 := Int.mul_le_mul_of_nonneg_right h2 (Int.le_of_lt hb)
 have h5 : e * (a * f) ≤ e * (g * b) := by
  have e1 : a * e * f = e * (a * f) := by grind
  have e2 : c * b * f = c * f * b := by grind
  have e3 : g * e * b = e * (g * b) := by grind
  omega
 exact Int.le_of_mul_le_mul_left h5 he
theorem max_seq {s : Nat → Nat} {N : Nat} (h : ∀ n, s n < N) : ∃ n0, ∀ n, s n ≤ s n0 := by
 have main : ∀ k n, N ≤ s n + k → ∃ n0, ∀ n, s n ≤ s n0 := by
  intro k
  induction k with
  | zero => intro n hn; have := h n; omega
  | succ k ih =>
   intro n hn
   by_cases g : ∃ n2, s n < s n2
   ·obtain ⟨n2, h2⟩ := g
    exact ih n2 (by omega)
   ·exact ⟨n, fun n2 => Nat.le_of_not_lt fun q => g ⟨n2, q⟩⟩
 exact main N 0 (by omega)
theorem switch {p : Nat → Prop} {a : Nat} (d : Nat) (h : p a) (hn : ¬ p (a + d)) : ∃ k, a ≤ k ∧ k < a + d ∧ p k ∧ ¬ p (k + 1) := by
 induction d with
 | zero => exact absurd h hn
 | succ d ih =>
  by_cases g : p (a + d)
  ·exact ⟨a + d, by omega, by omega, g, hn⟩
  ·obtain ⟨k, h1, h2, h3⟩ := ih g
   exact ⟨k, h1, by omega, h3⟩
theorem sumN_pos_ex {n : Nat} {f : Nat → Int} (h : 0 < sumN n f) : ∃ i, i < n ∧ 0 < f i :=
 Classical.byContradiction fun g => by
  have := sumN_le (n := n) (f := f) (g := fun _ => 0) (fun i hi => Int.not_lt.1 fun q => g ⟨i, hi, q⟩)
  rw [sumN_zero (n := n) (f := fun _ => 0) (fun _ _ => rfl)] at this
  omega

theorem bland {m : Nat} {A : Nat → Nat → Int} {z : Nat → Int} {N W R : Nat} {b : Nat → Nat → Nat} {T : Nat} (hT : 0 < T) (hg : ∀ n, GoodP m A W R (b n)) (hs : ∀ n, StepP m A z N R (b n) (b (n + 1))) (hper : ∀ n, b (n + T) = b n) : False := by
 obtain ⟨s, r, hs⟩ : ∃ s r : Nat → Nat, ∀ n, EntP m A z N (b n) (s n) ∧ LevP m A R (b n) (s n) (r n) ∧ b (n + 1) = updP (b n) (r n) (s n) :=
  ⟨fun n => Classical.choose (hs n), fun n => Classical.choose (Classical.choose_spec (hs n)), fun n => Classical.choose_spec (Classical.choose_spec (hs n))⟩
 have hd : ∀ n, 0 < ddP m A (b n) := fun n => ddP_pos (hg n).nz
 have PV : ∀ n, PivP m A (b n) (r n) (s n) 1 := fun n => piv (hs n).2.1.1 (.inl rfl) (by rw [Int.one_mul]; exact (hs n).2.1.2.1)
 have st : ∀ n, ddP m A (b n) * zzP m A z (b (n + 1)) R = ddP m A (b (n + 1)) * zzP m A z (b n) R - zzP m A z (b n) (s n) * ttP m A (b n) (r n) R := fun n => by
  have h1 := (PV n).zz z R
  have h2 := (PV n).dd
  rw [← (hs n).2.2, Int.one_mul] at h1 h2
  rw [h1, h2]
 have mono1 : ∀ n, zzP m A z (b n) R * ddP m A (b (n + 1)) ≤ zzP m A z (b (n + 1)) R * ddP m A (b n) := fun n => by
  have h1 := st n
  have h2 := Int.mul_nonpos_of_nonpos_of_nonneg (Int.le_of_lt (hs n).1.2.1) ((hg n).feas (r n) (hs n).2.1.1)
  rw [Int.mul_comm (zzP m A z (b n) R), Int.mul_comm (zzP m A z (b (n + 1)) R)]
  omega
 have mono : ∀ n k, zzP m A z (b n) R * ddP m A (b (n + k)) ≤ zzP m A z (b (n + k)) R * ddP m A (b n) := by
  intro n k
  induction k with
  | zero => exact Int.le_refl _
  | succ k ih => exact frac_trans (hd (n + k)) (hd n) (hd (n + (k + 1))) ih (mono1 (n + k))
 have deg : ∀ n, ttP m A (b n) (r n) R = 0 := fun n => by
  have h1 := st n
  have h2 := mono (n + 1) (T - 1)
  rw [show n + 1 + (T - 1) = n + T by omega, hper n] at h2
  rw [Int.mul_comm (zzP m A z (b (n + 1)) R), Int.mul_comm (zzP m A z (b n) R)] at h2
  have h3 := Int.mul_nonpos_of_nonpos_of_nonneg (Int.le_of_lt (hs n).1.2.1) ((hg n).feas (r n) (hs n).2.1.1)
  have h4 : zzP m A z (b n) (s n) * ttP m A (b n) (r n) R = 0 := by omega
  rcases Int.mul_eq_zero.1 h4 with g | g
  ·have := (hs n).1.2.1; omega
  ·exact g
 have pos1 : ∀ n v, (∃ i, i < m ∧ b n i = v ∧ ttP m A (b n) i R ≠ 0) → ∃ i, i < m ∧ b (n + 1) i = v ∧ ttP m A (b (n + 1)) i R ≠ 0 := by
  rintro n v ⟨i, hi, e, hz⟩
  have hir : i ≠ r n := fun g => hz (by rw [g]; exact deg n)
  refine ⟨i, hi, ?_, fun h0 => hz ?_⟩
  ·rw [(hs n).2.2]; unfold updP; rw [if_neg hir]; exact e
  ·have h1 := (PV n).oth i R hi hir
   rw [← (hs n).2.2, h0, deg n, Int.mul_zero, Int.mul_zero, Int.one_mul, Int.sub_zero] at h1
   rcases Int.mul_eq_zero.1 h1.symm with g | g
   ·have := (hs n).2.1.2.1; omega
   ·exact g
 have pos : ∀ n k v, (∃ i, i < m ∧ b n i = v ∧ ttP m A (b n) i R ≠ 0) → ∃ i, i < m ∧ b (n + k) i = v ∧ ttP m A (b (n + k)) i R ≠ 0 := by
  intro n k v h
  induction k with
  | zero => exact h
  | succ k ih => exact pos1 (n + k) v ih
 obtain ⟨n0, hmax⟩ := max_seq (fun n => (hs n).1.1)
 have nb : ∀ n, ¬ ∃ i, i < m ∧ b n i = s n := fun n ⟨i, hi, e⟩ => by
  have h1 := (hs n).1.2.1
  rw [← e, zz_basic m A z (b n) i hi] at h1
  omega
 have inb : ∃ i, i < m ∧ b (n0 + 1) i = s n0 := ⟨r n0, (hs n0).2.1.1, by rw [(hs n0).2.2]; exact if_pos rfl⟩
 obtain ⟨k, hk1, hk2, ⟨i0, hi0, e0⟩, hk4⟩ := switch (p := fun n => ∃ i, i < m ∧ b n i = s n0) (a := n0 + 1) (T - 1) inb (by rw [show n0 + 1 + (T - 1) = n0 + T by omega, hper]; exact nb n0)
 have er : i0 = r k := Classical.byContradiction fun g => hk4 ⟨i0, hi0, by rw [(hs k).2.2]; unfold updP; rw [if_neg g]; exact e0⟩
 subst er
 have hst : s k < s n0 := by
  have h1 := hmax k
  have h2 : s k ≠ s n0 := fun g => nb k ⟨r k, hi0, by rw [g]; exact e0⟩
  omega
 have cr := crossP m A z (b k) (b n0) (s k)
 have h1 : 0 ≤ zzP m A z (b n0) (s k) * ddP m A (b k) := Int.mul_nonneg ((hs n0).1.2.2 _ hst) (Int.le_of_lt (hd k))
 have h2 : ddP m A (b n0) * zzP m A z (b k) (s k) < 0 := Int.mul_neg_of_pos_of_neg (hd n0) (hs k).1.2.1
 obtain ⟨i, hi, hpos⟩ := sumN_pos_ex (show 0 < sumN m (fun i => zzP m A z (b n0) (b k i) * ttP m A (b k) i (s k)) by omega)
 have nin : ¬ ∃ j, j < m ∧ b n0 j = b k i := fun ⟨j, hj, e⟩ => by
  rw [← e, zz_basic m A z (b n0) j hj, Int.zero_mul] at hpos
  omega
 obtain ⟨j, hj1, hj2, hj3, hj4⟩ := switch (p := fun n => ¬ ∃ j, j < m ∧ b n j = b k i) (a := n0) (k - n0) nin (fun h => h (by rw [show n0 + (k - n0) = k by omega]; exact ⟨i, hi, rfl⟩))
 have hv : b k i ≤ s n0 := by
  obtain ⟨i2, hi2, e2⟩ := Classical.not_not.1 hj4
  by_cases g : i2 = r j
  ·rw [(hs j).2.2, g] at e2
   have e3 : s j = b k i := by rw [← e2]; exact (if_pos rfl).symm
   rw [← e3]; exact hmax j
  ·rw [(hs j).2.2] at e2
   unfold updP at e2
   rw [if_neg g] at e2
   exact absurd ⟨i2, hi2, e2⟩ hj3
 have hvt : b k i ≠ s n0 := fun g => by
  have e2 : i = r k := basis_inj (hg k).nz hi hi0 (by rw [g, e0])
  rw [g, e2] at hpos
  have h3 := Int.mul_neg_of_neg_of_pos (hs n0).1.2.1 (hs k).2.1.2.1
  omega
 have hz : 0 ≤ zzP m A z (b n0) (b k i) := (hs n0).1.2.2 _ (by omega)
 have htt : 0 < ttP m A (b k) i (s k) := by
  rcases Int.lt_or_le 0 (ttP m A (b k) i (s k)) with g | g
  ·exact g
  ·have := Int.mul_nonpos_of_nonneg_of_nonpos hz g; omega
 have hx : ttP m A (b k) i R = 0 := Classical.byContradiction fun g => by
  obtain ⟨i2, hi2, e2, _⟩ := pos k (n0 + T - k) (b k i) ⟨i, hi, rfl, g⟩
  rw [show k + (n0 + T - k) = n0 + T by omega, hper] at e2
  exact nin ⟨i2, hi2, e2⟩
 rcases (hs k).2.1.2.2 i hi htt with g | ⟨_, g⟩
 ·rw [deg k, hx, Int.zero_mul, Int.zero_mul] at g; omega
 ·rw [e0] at g; omega

theorem pigeon : ∀ (M : Nat) (f : Nat → Nat), (∀ n, f n < M) → ∃ p q, p < q ∧ f p = f q := by
 intro M
 induction M with
 | zero => intro f h; have := h 0; omega
 | succ M ih =>
  intro f h
  by_cases g : ∃ p, f p = M
  ·obtain ⟨p, hp⟩ := g
   by_cases g2 : ∃ q, p < q ∧ f q = M
   ·obtain ⟨q, hq, e⟩ := g2
    exact ⟨p, q, hq, by rw [hp, e]⟩
   ·obtain ⟨a, c, h1, h2⟩ := ih (fun n => f (p + 1 + n)) (fun n => by
     have h3 := h (p + 1 + n)
     have h4 : f (p + 1 + n) ≠ M := fun e => g2 ⟨p + 1 + n, by omega, e⟩
     show f (p + 1 + n) < M
     omega)
    exact ⟨p + 1 + a, p + 1 + c, by omega, h2⟩
  ·obtain ⟨a, c, h1, h2⟩ := ih f (fun n => by
    have h3 := h n
    have h4 : f n ≠ M := fun e => g ⟨n, e⟩
    omega)
   exact ⟨a, c, h1, h2⟩
def codeP (W : Nat) : Nat → (Nat → Nat) → Nat
 | 0, _ => 0
 | m + 1, b => codeP W m b * W + b m
theorem code_lt (W : Nat) : ∀ (m : Nat) (b : Nat → Nat), (∀ l, l < m → b l < W) → codeP W m b < W ^ m := by
 intro m
 induction m with
 | zero => intro b _; exact Nat.one_pos
 | succ m ih =>
  intro b h
  have h1 := ih b (fun l hl => h l (by omega))
  have h2 := h m (by omega)
  show codeP W m b * W + b m < W ^ m * W
  have h3 : (codeP W m b + 1) * W ≤ W ^ m * W := Nat.mul_le_mul_right W h1
  rw [Nat.add_mul, Nat.one_mul] at h3
  omega
theorem code_inj (W : Nat) : ∀ (m : Nat) (b c : Nat → Nat), (∀ l, l < m → b l < W) → (∀ l, l < m → c l < W) → codeP W m b = codeP W m c → ∀ l, l < m → b l = c l := by
 intro m
 induction m with
 | zero => intro b c _ _ _ l hl; omega
 | succ m ih =>
  intro b c hb hc e l hl
  have e : codeP W m b * W + b m = codeP W m c * W + c m := e
  have h1 := hb m (by omega)
  have h2 := hc m (by omega)
  have e1 : b m = c m := by
   have := congrArg (· % W) e
   simp only [Nat.mul_add_mod_self_right, Nat.mod_eq_of_lt h1, Nat.mod_eq_of_lt h2] at this
   exact this
  have e2 : codeP W m b = codeP W m c := by
   have e3 : codeP W m b * W = codeP W m c * W := by omega
   exact Nat.eq_of_mul_eq_mul_right (by omega) e3
  by_cases g : l = m
  ·rw [g]; exact e1
  ·exact ih b c (fun l hl => hb l (by omega)) (fun l hl => hc l (by omega)) e2 l (by omega)

open Classical in
noncomputable def nextP (m : Nat) (A : Nat → Nat → Int) (z : Nat → Int) (N R : Nat) (b : Nat → Nat) : Nat → Nat := if h : ∃ b2, StepP m A z N R b b2 then Classical.choose h else b
noncomputable def iterP (m : Nat) (A : Nat → Nat → Int) (z : Nat → Int) (N R : Nat) : Nat → (Nat → Nat) → Nat → Nat
 | 0, b => b
 | n + 1, b => iterP m A z N R n (nextP m A z N R b)
theorem iter_succ (m : Nat) (A : Nat → Nat → Int) (z : Nat → Int) (N R : Nat) : ∀ (n : Nat) (b : Nat → Nat), iterP m A z N R (n + 1) b = nextP m A z N R (iterP m A z N R n b)
 | 0, b => rfl
 | n + 1, b => iter_succ m A z N R n (nextP m A z N R b)
/-- A run from b ends after n steps. -/
def StpP (m : Nat) (A : Nat → Nat → Int) (z : Nat → Int) (N R : Nat) (n : Nat) (b : Nat → Nat) : Prop := ¬ ∃ b2, StepP m A z N R (iterP m A z N R n b) b2
theorem next_step {m : Nat} {A : Nat → Nat → Int} {z : Nat → Int} {N R : Nat} {b : Nat → Nat} (h : ∃ b2, StepP m A z N R b b2) : StepP m A z N R b (nextP m A z N R b) := by
 unfold nextP; rw [dif_pos h]; exact Classical.choose_spec h
theorem step_det {m : Nat} {A : Nat → Nat → Int} {z : Nat → Int} {N R : Nat} {b b1 b2 : Nat → Nat} (hz : dtP m A b ≠ 0) (h1 : StepP m A z N R b b1) (h2 : StepP m A z N R b b2) : b1 = b2 := by
 obtain ⟨s, r, he, hl, rfl⟩ := h1
 obtain ⟨s2, r2, he2, hl2, rfl⟩ := h2
 have es : s = s2 := by
  rcases Nat.lt_trichotomy s s2 with g | g | g
  ·have := he2.2.2 s g; have := he.2.1; omega
  ·exact g
  ·have := he.2.2 s2 g; have := he2.2.1; omega
 subst es
 have er : r = r2 := by
  have g1 := hl.2.2 r2 hl2.1 hl2.2.1
  have g2 := hl2.2.2 r hl.1 hl.2.1
  exact basis_inj hz hl.1 hl2.1 (by omega)
 rw [er]
theorem StpP.next {m : Nat} {A : Nat → Nat → Int} {z : Nat → Int} {N R n : Nat} {b b2 : Nat → Nat} (h : StpP m A z N R n b) (hz : dtP m A b ≠ 0) (hs : StepP m A z N R b b2) : ∃ k, n = k + 1 ∧ StpP m A z N R k b2 := by
 cases n with
 | zero => exact absurd ⟨b2, hs⟩ h
 | succ k =>
  refine ⟨k, rfl, ?_⟩
  unfold StpP iterP at h
  rw [step_det hz hs (next_step ⟨b2, hs⟩)]
  exact h
/-- Each run ends. -/
theorem run_ends {m : Nat} {A : Nat → Nat → Int} {W R : Nat} {b : Nat → Nat} (h : GoodP m A W R b) (z : Nat → Int) {N : Nat} (hN : N ≤ W) : ∃ n, StpP m A z N R n b :=
 Classical.byContradiction fun hc => by
  have hx : ∀ n, ∃ b2, StepP m A z N R (iterP m A z N R n b) b2 := fun n => Classical.byContradiction fun g => hc ⟨n, g⟩
  have hs : ∀ n, StepP m A z N R (iterP m A z N R n b) (iterP m A z N R (n + 1) b) := fun n => by rw [iter_succ]; exact next_step (hx n)
  have hg : ∀ n, GoodP m A W R (iterP m A z N R n b) := by
   intro n
   induction n with
   | zero => exact h
   | succ n ih => exact ih.step hN (hs n)
  obtain ⟨p, q, hpq, e⟩ := pigeon (W ^ m) (fun n => codeP W m (iterP m A z N R n b)) (fun n => code_lt W m _ (hg n).lt)
  have ee : iterP m A z N R p b = iterP m A z N R q b := by
   funext l
   by_cases hl : l < m
   ·exact code_inj W m _ _ (hg p).lt (hg q).lt e l hl
   ·rw [(hg p).can l (by omega), (hg q).can l (by omega)]
  refine bland (T := q - p) (b := fun n => iterP m A z N R (p + n % (q - p)) b) (z := z) (N := N) (by omega) (fun n => hg _) (fun n => ?_) (fun n => by
   show iterP m A z N R (p + (n + (q - p)) % (q - p)) b = _
   rw [Nat.add_mod_right])
  show StepP m A z N R (iterP m A z N R (p + n % (q - p)) b) (iterP m A z N R (p + (n + 1) % (q - p)) b)
  have hlt := Nat.mod_lt n (show 0 < q - p by omega)
  have hm : (n + 1) % (q - p) = if n % (q - p) + 1 = q - p then 0 else n % (q - p) + 1 := by
   rw [Nat.add_mod]
   by_cases h1 : q - p = 1
   ·rw [h1]; simp [Nat.mod_one]
   ·rw [Nat.mod_eq_of_lt (show 1 < q - p by omega)]
    split
    ·rename_i g; rw [g]; exact Nat.mod_self _
    ·exact Nat.mod_eq_of_lt (by omega)
  rw [hm]
  split
  ·rename_i g
   have := hs (p + n % (q - p))
   rw [show p + n % (q - p) + 1 = q by omega] at this
   rw [Nat.add_zero, ee]; exact this
  ·exact hs (p + n % (q - p))

end Go.Proofs.YtggpdhdbeokkcaaGreat
