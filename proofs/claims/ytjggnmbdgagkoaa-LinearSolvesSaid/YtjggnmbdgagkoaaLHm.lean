/- Layer 4: products with solutions and null vectors. -/
import Derived.Test.YtjggnmbdgagkoaaLProduct
import Derived.Test.YtjggnmbdgagkoaaLMath
namespace Go.Proofs.Ytjggnmbdgagkoaa
set_option linter.unusedVariables false
open Go.RowKit Go.Shelf

theorem FrX.ifr {W : World} {xb n : Nat} {F : Nat → Int × Int} (h : FrX W xb n F) : IFr W (some ⟨xb, 0, none⟩) n F := fun _ => ⟨xb, 0, rfl, h.hb, fun j hj => by
  simp only [Nat.zero_add]
  exact ⟨h.c0 j hj, h.c1 j hj⟩⟩

theorem mulT_ok {a b c d : Int} (h1 : Vld a b) (h2 : Vld c d) : (mulT a b c d).2.2 = 0 ∨ mulT a b c d = (0, 0, 5) := by
  unfold mulT
  rw [okT_vld h1 h2]
  rcases redT_cases (a * c) (b * d) (dpos h1 h2) with ⟨n, m, e, _⟩ | e
  · exact .inl (by rw [e])
  · exact .inr e
theorem addT_ok {a b c d : Int} (h1 : Vld a b) (h2 : Vld c d) : (addT a b c d).2.2 = 0 ∨ addT a b c d = (0, 0, 5) := by
  unfold addT
  rw [okT_vld h1 h2]
  rcases redT_cases (a * d + c * b) (b * d) (dpos h1 h2) with ⟨n, m, e, _⟩ | e
  · exact .inl (by rw [e])
  · exact .inr e
/-- The sum of products with exact shares is exact, or too big. -/
theorem comS_val {f : Nat → Int} {X : Nat → Int × Int} {e : Nat → Int} {D : Int} {n : Nat} (hf : ∀ j, j < n → Vld (f j) 1) (hX : ∀ j, j < n → Vld (X j).1 (X j).2 ∧ (X j).1 * D = e j * (X j).2) :
    ∀ j, j ≤ n → comS f X j = (0, 0, 5) ∨ ∃ s t, comS f X j = (s, t, 0) ∧ Vld s t ∧ s * D = sumN j (fun l => f l * e l) * t := by
  intro j
  induction j with
  | zero => exact fun _ => .inr ⟨0, 1, rfl, ⟨by decide, by decide, by decide, by decide, by decide⟩, by simp [sumN]⟩
  | succ j ih =>
    intro hj
    obtain ⟨vx, ex⟩ := hX j (by omega)
    have hs : comS f X (j + 1) = if (comS f X j).2.2 = 0 then (if (mulT (f j) 1 (X j).1 (X j).2).2.2 = 0 then addT (comS f X j).1 (comS f X j).2.1 (mulT (f j) 1 (X j).1 (X j).2).1 (mulT (f j) 1 (X j).1 (X j).2).2.1 else mulT (f j) 1 (X j).1 (X j).2) else comS f X j := rfl
    rcases ih (by omega) with h | ⟨s, t, h, vs, es⟩
    · left
      rw [hs, h]; rfl
    · rw [hs, h]
      simp only [if_true]
      rcases mulT_cases (f j) 1 (X j).1 (X j).2 with ⟨q, r, hq, _, _, vq, eq⟩ | ⟨c, hq, hc, _⟩
      · rw [hq]
        simp only [if_true]
        rcases addT_cases s t q r with ⟨u, d, ha, _, _, vu, eu⟩ | ⟨c, ha, hc, _⟩
        · right
          refine ⟨u, d, ha, vu, ?_⟩
          show u * D = (sumN j (fun l => f l * e l) + f j * e j) * d
          exact step_val (by have := vs.d1; omega) (by have := vx.d1; omega) (by have := vq.d1; omega) es ex eq eu
        · rcases addT_ok vs vq with g | g
          · rw [ha] at g; exact absurd g hc
          · exact .inl g
      · rcases mulT_ok (hf j (by omega)) vx with g | g
        · rw [hq] at g; exact absurd g hc
        · left
          rw [g]; rfl
theorem vld_int {s t z : Int} (v : Vld s t) (h : s = z * t) : s = z ∧ t = 1 := by
  have hc := v.co
  have d : t ∣ (Int.gcd s t : Nat) := Int.dvd_coe_gcd ⟨z, by rw [h, Int.mul_comm]⟩ ⟨1, by omega⟩
  rw [hc] at d
  have t1 : t = 1 := Int.eq_one_of_dvd_one (by have := v.d1; omega) (by simpa using d)
  exact ⟨by rw [h, t1]; omega, t1⟩
theorem vld_small {z : Int} (h : -32 ≤ z ∧ z ≤ 32) : Vld z 1 := ⟨by omega, by omega, by omega, by omega, by simp⟩

theorem shF_val (a D : Int) (hD : D ≠ 0) (a0 : -1152921504606846976 ≤ a ∧ a ≤ 1152921504606846976) (d0 : -1152921504606846976 ≤ D ∧ D ≤ 1152921504606846976) : Vld (shF a D).1 (shF a D).2 ∧ (shF a D).1 * D = a * (shF a D).2 := by
  obtain ⟨x, y, e, v, h⟩ := make_val a D hD a0.1 a0.2 d0.1 d0.2
  unfold shF
  rw [e]
  exact ⟨v, h⟩

/-- The numbers of a null vector, times the last pivot. -/
def nulE (p : Nat → Nat) (E : Nat → Nat → Int) (c : Nat) : Nat → Nat → Int
  | 0 => fun _ => 0
  | i + 1 => fun j => if j = p i then -(E i c) else nulE p E c i j
theorem nulE_off (p : Nat → Nat) (E : Nat → Nat → Int) (c : Nat) : ∀ i j, (∀ l, l < i → p l ≠ j) → nulE p E c i j = 0 := by
  intro i
  induction i with
  | zero => intro j _; rfl
  | succ i ih =>
    intro j h
    show (if j = p i then -(E i c) else nulE p E c i j) = 0
    rw [if_neg (fun e => h i (by omega) e.symm)]
    exact ih j (fun l hl => h l (by omega))
theorem nul_fin {R n : Nat} {M : Nat → Nat → Int} {k : Nat} {p : Nat → Nat} {E : Nat → Nat → Int} {D : Int} (h : FinE R n M k p E D) (c : Nat) (hc : c < n) (hf : ∀ l, l < k → p l ≠ c) :
    (∀ j, j < n → Vld (updF (nullA p E D c k) c (1, 1) j).1 (updF (nullA p E D c k) c (1, 1) j).2 ∧ (updF (nullA p E D c k) c (1, 1) j).1 * D = (if j = c then D else nulE p E c k j) * (updF (nullA p E D c k) c (1, 1) j).2) ∧
    ∀ i, i < R → sumN n (fun j => M i j * (if j = c then D else nulE p E c k j)) = 0 := by
  have v01 : Vld 0 1 := ⟨by decide, by decide, by decide, by decide, by decide⟩
  have v11 : Vld 1 1 := ⟨by decide, by decide, by decide, by decide, by decide⟩
  have hA : ∀ i, i ≤ k → ∀ j, Vld (nullA p E D c i j).1 (nullA p E D c i j).2 ∧ (nullA p E D c i j).1 * D = nulE p E c i j * (nullA p E D c i j).2 := by
    intro i
    induction i with
    | zero => exact fun _ j => ⟨v01, by show (0 : Int) * D = 0 * 1; omega⟩
    | succ i ih =>
      intro hi j
      show Vld (updF (nullA p E D c i) (p i) (shF (-(E i c)) D) j).1 (updF (nullA p E D c i) (p i) (shF (-(E i c)) D) j).2 ∧ (updF (nullA p E D c i) (p i) (shF (-(E i c)) D) j).1 * D = (if j = p i then -(E i c) else nulE p E c i j) * (updF (nullA p E D c i) (p i) (shF (-(E i c)) D) j).2
      unfold updF
      by_cases g : j = p i
      · simp only [if_pos g]
        have hE := h.dE i c (by have := h.kR; omega) hc
        exact shF_val _ D h.nz (by omega) h.dD
      · simp only [if_neg g]
        exact ih (by omega) j
  refine ⟨fun j hj => ?_, fun i hi => ?_⟩
  · unfold updF
    by_cases g : j = c
    · simp only [if_pos g]
      exact ⟨v11, by show (1 : Int) * D = D * 1; omega⟩
    · simp only [if_neg g]
      exact hA k (Nat.le_refl _) j
  · have hS : ∀ l, l ≤ k → sumN n (fun j => M i j * nulE p E c l j) = - sumN l (fun x => E x c * M i (p x)) := by
      intro l
      induction l with
      | zero => intro _; show sumN n (fun j => M i j * 0) = -0; exact sumN_zero fun j _ => by omega
      | succ l ih =>
        intro hl
        show sumN n (fun j => M i j * (if j = p l then -(E l c) else nulE p E c l j)) = -(sumN l (fun x => E x c * M i (p x)) + E l c * M i (p l))
        rw [sumN_upd (fun j => M i j) (fun j => nulE p E c l j) (p l) (-(E l c)) (h.lt l (by omega)), ih (by omega), nulE_off p E c l (p l) (fun x hx => by have := h.up x l hx (by omega); omega)]
        grind
    rw [sumN_upd (fun j => M i j) (fun j => nulE p E c k j) c D hc, hS k (Nat.le_refl _), nulE_off p E c k c hf, ← h.rel i hi c hc]
    grind

theorem frL_count {n k : Nat} {p : Nat → Nat} (up : ∀ l l', l < l' → l' < k → p l < p l') (lt : ∀ l, l < k → p l < n) : (frL k p n).length + k = n := by
  have inv : ∀ i, ∃ c, c ≤ k ∧ (∀ l, l < c → p l < i) ∧ (∀ l, c ≤ l → l < k → i ≤ p l) ∧ (frL k p i).length + c = i := by
    intro i
    induction i with
    | zero => exact ⟨0, by omega, fun l h => by omega, fun l _ _ => by omega, rfl⟩
    | succ i ih =>
      obtain ⟨c, hc, h1, h2, h3⟩ := ih
      by_cases g : c < k ∧ p c = i
      · refine ⟨c + 1, by omega, fun l hl => ?_, fun l hl hk => ?_, ?_⟩
        · by_cases e : l = c
          · subst e; omega
          · have := h1 l (by omega); omega
        · have := up c l (by omega) hk; omega
        · rw [frL_in (decide_eq_true ⟨c, g.1, g.2⟩)]; omega
      · have np : ¬ ∃ l, l < k ∧ p l = i := fun ⟨l, hl, e⟩ => by
          rcases Nat.lt_trichotomy l c with q | q | q
          · have := h1 l q; omega
          · subst q; exact g ⟨hl, e⟩
          · have := h2 c (Nat.le_refl _) (by omega)
            have := up c l q hl
            omega
        refine ⟨c, hc, fun l hl => by have := h1 l hl; omega, fun l hl hk => ?_, ?_⟩
        · have := h2 l hl hk
          have : p l ≠ i := fun e => np ⟨l, hk, e⟩
          omega
        · rw [frL_out (decide_eq_false np), List.length_append]
          simp
          omega
  obtain ⟨c, hc, h1, h2, h3⟩ := inv n
  have : c = k := by
    rcases Nat.lt_or_ge c k with g | g
    · have := h2 c (Nat.le_refl _) g; have := lt c g; omega
    · omega
  omega

/-- What Solve says for a valid matrix. -/
def SolQ (R n nr : Nat) (Z : Nat → Nat → Int) (f : Nat → Int) (w' : World) (e : Ending) : Prop :=
  (∃ c : Int, c ≠ 0 ∧ c ≠ 21 ∧ e = .returned (.tuple #[.slice none 0 0, .int .i64 c])) ∨
  (e = .returned (.tuple #[.slice none 0 0, .int .i64 21]) ∧ ∃ k p E D, FinE R n Z k p E D ∧ k < n) ∨
  (nr = R ∧ ∃ xb p E D X, e = .returned (.tuple #[.slice (some ⟨xb, 0, none⟩) n n, .int .i64 0]) ∧ FrX w' xb n X ∧ FinE R n Z n p E D ∧ ∃ y : Nat → Int, (∀ j, j < n → Vld (X j).1 (X j).2 ∧ (X j).1 * D = y j * (X j).2) ∧ ∀ i, i < R → sumN n (fun l => Z i l * y l) = D * f i)

theorem Solve_all (ma : Option Addr) (R mc : Nat) (Ra : Nat → Option Addr) (Ln Ka : Nat → Nat) (Z : Nat → Nat → Int) (ra : Option Addr) (nr rc : Nat) (f : Nat → Int) (w : World) (hM : AMat w ma R Ra Ln Ka Z) (hv : vMP R Ln Z) (hr : IRow w ra nr f) (hc : nr ≤ rc) (hc2 : rc ≤ 9223372036854775807) :
    Calls Try.prog 21 #[.slice ma R mc, .slice ra nr rc] w fun e w' => Below w.heap.size w w' ∧ SolQ R (Ln 0) nr Z f w' e := by
  by_cases hs : nr = R
  · subst hs
    cases hw : wB nr f 67108864
    · refine (Solve_range ma nr mc Ra Ln Ka Z ra rc f w hM hv hr hw).mono ?_
      rintro e w' ⟨rfl, hb⟩
      exact ⟨hb, .inl ⟨2, by decide, by decide, rfl⟩⟩
    · refine (Solve_ok ma nr mc Ra Ln Ka Z ra rc f w (Ln 0) rfl hM hv hr hw hc hc2).mono ?_
      rintro e w' ⟨hb, k, p, E, D, hF, h⟩
      refine ⟨hb, ?_⟩
      have cong : ∀ i j, j < Ln 0 → Z i j = extE (Ln 0) Z f i j := fun i j hj => by unfold extE catF; rw [if_neg (by omega)]
      rcases h with ⟨_, rfl⟩ | ⟨hp, hk, rfl⟩ | ⟨hp, rfl, xb, rfl, hX⟩
      · exact .inl ⟨22, by decide, by decide, rfl⟩
      · exact .inr (.inl ⟨rfl, k, p, E, D, hF.front (fun l hl e => hp ⟨l, hl, e⟩) cong, hk⟩)
      · have hG := hF.front (fun l hl e => hp ⟨l, hl, e⟩) cong
        refine .inr (.inr ⟨rfl, xb, p, E, D, _, rfl, hX, hG, fun l => E l (Ln 0), fun j hj => ?_, fun i hi => ?_⟩)
        · exact shF_val _ D hF.nz (hF.dE j (Ln 0) (by have := hF.kR; omega) (by omega)) hF.dD
        · have r := hF.rel i hi (Ln 0) (by omega)
          have ef : extE (Ln 0) Z f i (Ln 0) = f i := by unfold extE catF; rw [if_pos rfl]
          rw [ef] at r
          rw [r]
          have pl := full_piv hG.up hG.lt rfl
          exact sumN_congr fun l hl => by rw [pl l hl, ← cong i l hl, Int.mul_comm]
  · refine (Solve_size ma R mc Ra Ln Ka Z ra nr rc w hM hv hs).mono ?_
    rintro e w' ⟨rfl, hb⟩
    exact ⟨hb, .inl ⟨3, by decide, by decide, rfl⟩⟩

end Go.Proofs.Ytjggnmbdgagkoaa
