/- Layer 4: what solutions of sums are, and of equations that are added. -/
import Derived.Test.YtjggnmbdgagkoaaLSwp
namespace Go.Proofs.Ytjggnmbdgagkoaa
set_option linter.unusedVariables false
open Go.RowKit Go.Shelf

def rngF (R : Nat) (f : Nat → Int) : Prop := ∀ j, j < R → -67108864 ≤ f j ∧ f j ≤ 67108864
/-- What Solve returns for a valid matrix and as many right-hand sides as rows. -/
def SolS (R n : Nat) (Z : Nat → Nat → Int) (f : Nat → Int) (W : World) (xa : Option Addr) (xn xc : Nat) (ee : Int) : Prop :=
  (¬ rngF R f ∧ xa = none ∧ xn = 0 ∧ xc = 0 ∧ ee = 2) ∨
  (rngF R f ∧ ∃ k p E D, FinE R (n + 1) (extE n Z f) k p E D ∧
    (((∃ l, l < k ∧ p l = n) ∧ xa = none ∧ xn = 0 ∧ xc = 0 ∧ ee = 22) ∨
     ((¬ ∃ l, l < k ∧ p l = n) ∧ k < n ∧ xa = none ∧ xn = 0 ∧ xc = 0 ∧ ee = 21) ∨
     ((¬ ∃ l, l < k ∧ p l = n) ∧ k = n ∧ ee = 0 ∧ ∃ xb, xa = some ⟨xb, 0, none⟩ ∧ xn = n ∧ xc = n ∧ FrX W xb n (fun l => shF (E l n) D))))
theorem SolS.on {R n : Nat} {Z : Nat → Nat → Int} {f : Nat → Int} {W W2 : World} {xa : Option Addr} {xn xc : Nat} {ee : Int} (h : SolS R n Z f W xa xn xc ee) (hb : Below W.heap.size W W2) : SolS R n Z f W2 xa xn xc ee := by
  rcases h with h | ⟨hr, k, p, E, D, hF, h | h | ⟨h1, h2, h3, xb, h4, h5, h6, h7⟩⟩
  · exact .inl h
  · exact .inr ⟨hr, k, p, E, D, hF, .inl h⟩
  · exact .inr ⟨hr, k, p, E, D, hF, .inr (.inl h)⟩
  · exact .inr ⟨hr, k, p, E, D, hF, .inr (.inr ⟨h1, h2, h3, xb, h4, h5, h6, h7.on hb⟩)⟩
theorem Solve_S (ma : Option Addr) (R mc : Nat) (Ra : Nat → Option Addr) (Ln Ka : Nat → Nat) (Z : Nat → Nat → Int) (ra : Option Addr) (rc : Nat) (f : Nat → Int) (w : World) (n : Nat) (hn : Ln 0 = n) (hM : AMat w ma R Ra Ln Ka Z) (hv : vMP R Ln Z) (hr : IRow w ra R f) (hc : R ≤ rc) (hc2 : rc ≤ 9223372036854775807) :
    Calls Try.prog 21 #[.slice ma R mc, .slice ra R rc] w fun e w' => Below w.heap.size w w' ∧ ∃ (xa : Option Addr) (xn xc : Nat) (ee : Int), e = .returned (.tuple #[.slice xa xn xc, .int .i64 ee]) ∧ SolS R n Z f w' xa xn xc ee := by
  cases hw : wB R f 67108864
  · refine (Solve_range ma R mc Ra Ln Ka Z ra rc f w hM hv hr hw).mono ?_
    rintro e w' ⟨rfl, hb⟩
    exact ⟨hb, none, 0, 0, 2, rfl, .inl ⟨fun h => by
      have ht : wB R f 67108864 = true := decide_eq_true (show ∀ j, j < R → -67108864 ≤ f j ∧ f j ≤ 67108864 from h)
      rw [hw] at ht
      exact Bool.noConfusion ht, rfl, rfl, rfl, rfl⟩⟩
  · refine (Solve_ok ma R mc Ra Ln Ka Z ra rc f w n hn hM hv hr hw hc hc2).mono ?_
    have hrg : ∀ j, j < R → -67108864 ≤ f j ∧ f j ≤ 67108864 := by unfold wB at hw; exact of_decide_eq_true hw
    rintro e w' ⟨hb, k, p, E, D, hF, ⟨hp, rfl⟩ | ⟨hp, hk, rfl⟩ | ⟨hp, hk, xb, rfl, hX⟩⟩
    · exact ⟨hb, none, 0, 0, 22, rfl, .inr ⟨hrg, k, p, E, D, hF, .inl ⟨hp, rfl, rfl, rfl, rfl⟩⟩⟩
    · exact ⟨hb, none, 0, 0, 21, rfl, .inr ⟨hrg, k, p, E, D, hF, .inr (.inl ⟨hp, hk, rfl, rfl, rfl, rfl⟩)⟩⟩
    · exact ⟨hb, some ⟨xb, 0, none⟩, n, n, 0, rfl, .inr ⟨hrg, k, p, E, D, hF, .inr (.inr ⟨hp, hk, rfl, xb, rfl, rfl, rfl, hX⟩)⟩⟩

theorem ext_last (n : Nat) (Z : Nat → Nat → Int) (f : Nat → Int) (i : Nat) : extE n Z f i n = f i := by unfold extE catF; exact if_pos rfl
theorem ext_old {n : Nat} {Z : Nat → Nat → Int} {f : Nat → Int} {i j : Nat} (h : j < n) : extE n Z f i j = Z i j := by unfold extE catF; exact if_neg (by omega)

/-- A solution, its numbers times the last pivot. -/
structure SolK (R n : Nat) (Z : Nat → Nat → Int) (f : Nat → Int) (X : Nat → Int × Int) (y : Nat → Int) (D : Int) : Prop where
  nz : D ≠ 0
  v : ∀ l, l < n → Vld (X l).1 (X l).2 ∧ (X l).1 * D = y l * (X l).2
  s : ∀ i, i < R → sumN n (fun l => Z i l * y l) = D * f i
theorem sol_K {R n : Nat} {Z : Nat → Nat → Int} {f : Nat → Int} {p : Nat → Nat} {E : Nat → Nat → Int} {D : Int} (hF : FinE R (n + 1) (extE n Z f) n p E D) (hp : ¬ ∃ l, l < n ∧ p l = n) : SolK R n Z f (fun l => shF (E l n) D) (fun l => E l n) D ∧ FinE R n Z n p E D := by
  have hG : FinE R n Z n p E D := hF.front (fun l hl e => hp ⟨l, hl, e⟩) (fun i j hj => (ext_old hj).symm)
  refine ⟨⟨hF.nz, fun l hl => shF_val _ D hF.nz (hF.dE l n (by have := hF.kR; omega) (by omega)) hF.dD, fun i hi => ?_⟩, hG⟩
  have r := hF.rel i hi n (by omega)
  rw [ext_last] at r
  rw [r]
  have pl := full_piv hG.up hG.lt rfl
  exact sumN_congr fun l hl => by rw [pl l hl, ext_old hl, Int.mul_comm]
theorem sum_val {R n : Nat} {Z : Nat → Nat → Int} {f g : Nat → Int} {X Y V : Nat → Int × Int} {y y' y'' : Nat → Int} {D D' D'' : Int} {p : Nat → Nat} {E : Nat → Nat → Int} {DD : Int} (hG : FinE R n Z n p E DD) (h : SolK R n Z f X y D) (h' : SolK R n Z g Y y' D') (h'' : SolK R n Z (fun i => f i + g i) V y'' D'') : ∀ l, l < n → y l * (D' * D'') + y' l * (D * D'') = y'' l * (D * D') := by
  intro l hl
  have pl := full_piv hG.up hG.lt rfl
  have z := hG.ind (fun l => y l * (D' * D'') + y' l * (D * D'') + (-1) * (y'' l * (D * D'))) (fun i hi => by
    have e : sumN n (fun l => (y l * (D' * D'') + y' l * (D * D'') + (-1) * (y'' l * (D * D'))) * Z i (p l)) = (D' * D'') * sumN n (fun l => Z i l * y l) + (D * D'') * sumN n (fun l => Z i l * y' l) + (-(D * D')) * sumN n (fun l => Z i l * y'' l) := by
      rw [← sumN_mul, ← sumN_mul, ← sumN_mul, ← sumN_add, ← sumN_add]
      refine sumN_congr fun x hx => ?_
      rw [pl x hx]; grind
    show sumN n (fun l => (y l * (D' * D'') + y' l * (D * D'') + (-1) * (y'' l * (D * D'))) * Z i (p l)) = 0
    rw [e, h.s i hi, h'.s i hi, h''.s i hi]
    generalize f i = a
    generalize g i = b
    grind) l hl
  have z : y l * (D' * D'') + y' l * (D * D'') + (-1) * (y'' l * (D * D')) = 0 := z
  omega
theorem add_val {x1 x2 y1 y2 v1 v2 a b c D D' D'' : Int} (hx : Vld x1 x2) (hy : Vld y1 y2) (hv : Vld v1 v2) (d0 : D ≠ 0) (d1 : D' ≠ 0) (d2 : D'' ≠ 0) (ex : x1 * D = a * x2) (ey : y1 * D' = b * y2) (ev : v1 * D'' = c * v2) (h : a * (D' * D'') + b * (D * D'') = c * (D * D')) {s t er : Int} (ha : addT x1 x2 y1 y2 = (s, t, er)) : er ≠ 0 ∨ (er = 0 ∧ s = v1 ∧ t = v2) := by
  rcases addT_cases x1 x2 y1 y2 with ⟨q, r, hq, _, _, vq, eq⟩ | ⟨c2, hq, hc, _⟩
  · rw [hq] at ha
    injection ha with h1 h2
    injection h2 with h2 h3
    subst h1; subst h2; subst h3
    right
    have x20 : x2 ≠ 0 := by have := hx.d1; omega
    have y20 : y2 ≠ 0 := by have := hy.d1; omega
    have k : q * v2 = v1 * r := by
      have e1 : (q * (x2 * y2)) * (D * (D' * D'')) = (x2 * y2) * (c * (D * D')) * r := by
        rw [eq, ← h]
        have : (x1 * y2 + y1 * x2) * r * (D * (D' * D'')) = ((x1 * D) * y2 * (D' * D'') + (y1 * D') * x2 * (D * D'')) * r := by grind
        rw [this, ex, ey]; grind
      have e2 : (q * v2 - v1 * r) * ((x2 * y2) * (D * (D' * D''))) = 0 := by
        have a1 : (q * v2) * ((x2 * y2) * (D * (D' * D''))) = ((q * (x2 * y2)) * (D * (D' * D''))) * v2 := by grind
        have a2 : (v1 * r) * ((x2 * y2) * (D * (D' * D''))) = (x2 * y2) * ((v1 * D'') * (D * D')) * r := by grind
        rw [Int.sub_mul, a1, a2, e1, ev]; grind
      rcases Int.mul_eq_zero.1 e2 with g | g
      · omega
      · exact absurd g (Int.mul_ne_zero (Int.mul_ne_zero x20 y20) (Int.mul_ne_zero d0 (Int.mul_ne_zero d1 d2)))
    obtain ⟨e1, e2⟩ := uniq (by have := vq.d1; omega) (by have := hv.d1; omega) vq.co hv.co k
    exact ⟨rfl, e1, e2⟩
  · rw [hq] at ha
    injection ha with h1 h2
    injection h2 with h2 h3
    subst h3
    exact .inl hc

/-- The solution of a sum. -/
theorem SolS.sum {R n : Nat} {Z : Nat → Nat → Int} {f g : Nat → Int} {W W1 W2 : World} {xa ya va : Option Addr} {xn xc yn yc vn vc : Nat} {er : Int} (h : SolS R n Z f W xa xn xc 0) (h' : SolS R n Z g W1 ya yn yc 0) (h'' : SolS R n Z (fun i => f i + g i) W2 va vn vc er) :
    xn = n ∧ ((er = 2 ∧ vn = 0) ∨ (er = 0 ∧ vn = n ∧ ∃ xb yb vb X Y V, xa = some ⟨xb, 0, none⟩ ∧ ya = some ⟨yb, 0, none⟩ ∧ yn = n ∧ va = some ⟨vb, 0, none⟩ ∧ FrX W xb n X ∧ FrX W1 yb n Y ∧ FrX W2 vb n V ∧ ∀ l, l < n → Vld (X l).1 (X l).2 ∧ Vld (Y l).1 (Y l).2 ∧ ∀ s t e, addT (X l).1 (X l).2 (Y l).1 (Y l).2 = (s, t, e) → e ≠ 0 ∨ (e = 0 ∧ s = (V l).1 ∧ t = (V l).2))) := by
  rcases h with ⟨_, _, _, _, h⟩ | ⟨_, k, p, E, D, hF, ⟨_, _, _, _, h⟩ | ⟨_, _, _, _, _, h⟩ | ⟨hp, hk, _, xb, rfl, rfl, rfl, hX⟩⟩
  · cases h
  · cases h
  · cases h
  rcases h' with ⟨_, _, _, _, h⟩ | ⟨_, k', p', E', D', hF', ⟨_, _, _, _, h⟩ | ⟨_, _, _, _, _, h⟩ | ⟨hp', hk', _, yb, rfl, rfl, rfl, hY⟩⟩
  · cases h
  · cases h
  · cases h
  subst hk
  subst hk'
  obtain ⟨s1, g1⟩ := sol_K hF hp
  obtain ⟨s2, g2⟩ := sol_K hF' hp'
  refine ⟨rfl, ?_⟩
  rcases h'' with ⟨_, _, e, _, h⟩ | ⟨_, k'', p'', E'', D'', hF'', h⟩
  · exact .inl ⟨h, e⟩
  right
  have np := hF''.w.not_piv k' (by omega) (D * D') (Int.mul_ne_zero hF.nz hF'.nz) (fun j => D' * E j k' + D * E' j k') (fun i hi => by
    rw [ext_last]
    have e : sumN k' (fun j => (D' * E j k' + D * E' j k') * extE k' Z (fun i => f i + g i) i j) = D' * sumN k' (fun l => Z i l * E l k') + D * sumN k' (fun l => Z i l * E' l k') := by
      rw [← sumN_mul, ← sumN_mul, ← sumN_add]
      exact sumN_congr fun x hx => by rw [ext_old hx]; grind
    rw [e, s1.s i hi, s2.s i hi]
    generalize f i = a
    generalize g i = b
    grind)
  have hne : ¬ ∃ l, l < k'' ∧ p'' l = k' := fun ⟨l, hl, e⟩ => np l hl e
  have g3 : FinE R k' Z k'' p'' E'' D'' := hF''.front np (fun i j hj => (ext_old hj).symm)
  have ek := (g1.uniq g3).1
  subst ek
  rcases h with ⟨h, _⟩ | ⟨_, h, _⟩ | ⟨_, _, e0, vb, rfl, rfl, rfl, hV⟩
  · exact absurd h hne
  · omega
  obtain ⟨s3, _⟩ := sol_K hF'' hne
  refine ⟨e0, rfl, xb, yb, vb, _, _, _, rfl, rfl, rfl, rfl, hX, hY, hV, fun l hl => ⟨(s1.v l hl).1, (s2.v l hl).1, fun s t e ha => ?_⟩⟩
  exact add_val (s1.v l hl).1 (s2.v l hl).1 (s3.v l hl).1 s1.nz s2.nz s3.nz (s1.v l hl).2 (s2.v l hl).2 (s3.v l hl).2 (sum_val g1 s1 s2 s3 l hl) ha

/-- The row b is added to the row a. -/
def rowA (a b : Nat) (Z : Nat → Nat → Int) : Nat → Nat → Int := fun i j => if i = a then Z a j + Z b j else Z i j
def rhsA (a b : Nat) (f : Nat → Int) : Nat → Int := fun i => if i = a then f a + f b else f i
theorem rowA_ext (n a b : Nat) (Z : Nat → Nat → Int) (f : Nat → Int) : extE n (rowA a b Z) (rhsA a b f) = rowA a b (extE n Z f) := by
  funext i j
  unfold extE catF rowA rhsA
  by_cases h : j = n
  · simp only [if_pos h]
  · simp only [if_neg h]
theorem rowA_trn {R n : Nat} (a b : Nat) (ha : a < R) (hb : b < R) (hne : a ≠ b) (Z : Nat → Nat → Int) : Trn n R R Z (rowA a b Z) ∧ Trn n R R (rowA a b Z) Z := by
  have ea : rowA a b Z a = fun j => Z a j + Z b j := by funext j; exact if_pos rfl
  have eo : ∀ i, i ≠ a → rowA a b Z i = Z i := fun i h => by funext j; exact if_neg h
  refine ⟨fun m c q hq h i hi => ?_, fun m c q hq h i hi => ?_⟩
  · by_cases e : i = a
    · subst e
      simp only [ea]
      have : sumN m (fun x => c x * (Z i (q x) + Z b (q x))) = sumN m (fun x => c x * Z i (q x)) + sumN m (fun x => c x * Z b (q x)) := by
        rw [← sumN_add]; exact sumN_congr fun x _ => Int.mul_add _ _ _
      rw [this, h i hi, h b hb]; rfl
    · simp only [eo i e]; exact h i hi
  · by_cases e : i = a
    · subst e
      have h1 := h i hi
      have h2 := h b hb
      simp only [ea] at h1
      simp only [eo b (fun e => hne e.symm)] at h2
      have : sumN m (fun x => c x * (Z i (q x) + Z b (q x))) = sumN m (fun x => c x * Z i (q x)) + sumN m (fun x => c x * Z b (q x)) := by
        rw [← sumN_add]; exact sumN_congr fun x _ => Int.mul_add _ _ _
      rw [this, h2] at h1
      omega
    · have h1 := h i hi
      simp only [eo i e] at h1
      exact h1
theorem DetP.rowA {R n : Nat} {Z : Nat → Nat → Int} {v er v' er' : Int} {a b : Nat} (ha : a < R) (hb : b < R) (hne : a ≠ b) (h : DetP R n Z v er) (h' : DetP R n (rowA a b Z) v' er') : v' = v ∧ er' = er := by
  rcases h with ⟨hn, rfl, rfl⟩ | ⟨rfl, rfl, k, p, E, D, hF, rfl⟩
  · rcases h' with ⟨_, rfl, rfl⟩ | ⟨e, _⟩
    · exact ⟨rfl, rfl⟩
    · exact absurd e hn
  · rcases h' with ⟨hn, _⟩ | ⟨_, rfl, k', p', E', D', hF', rfl⟩
    · exact absurd rfl hn
    · obtain ⟨t1, t2⟩ := rowA_trn (n := R) a b ha hb hne Z
      obtain ⟨ek, ep⟩ := hF.w.uniq hF'.w t1 t2
      subst ek
      refine ⟨?_, rfl⟩
      by_cases g : k < R
      · rw [if_pos g, if_pos g]
      · rw [if_neg g, if_neg g]
        have e : k = R := by have := hF.kR; omega
        rw [hF.det e, hF'.det e]
        have e1 : detN R (fun l i => Go.Proofs.Ytjggnmbdgagkoaa.rowA a b Z i (p' l)) = detN R (fun l i => Go.Proofs.Ytjggnmbdgagkoaa.rowA a b Z i (p l)) := det_congr R fun l hl i _ => by rw [ep l (by omega)]
        rw [e1]
        obtain ⟨U, hU⟩ : ∃ U : Sys, U = fun i l => Z i (p l) := ⟨_, rfl⟩
        have e2 : detN R (fun l i => Go.Proofs.Ytjggnmbdgagkoaa.rowA a b Z i (p l)) = detC R (updV U a (fun c => 1 * U a c + 1 * U b c)) := by
          unfold detC
          congr 1
          funext l i
          rw [hU]
          unfold updV Go.Proofs.Ytjggnmbdgagkoaa.rowA
          by_cases q : i = a
          · simp only [if_pos q]; omega
          · simp only [if_neg q]
        have e3 : detN R (fun l i => Z i (p l)) = detC R U := by rw [hU]; rfl
        rw [e2, e3, detC_lin R U a 1 1 (U a) (U b) ha, updV_own, detC_eq R (updV U a (U b)) a b ha hb hne (by rw [updV_self, updV_ne _ _ (fun e => hne e.symm)])]
        omega
/-- Equations added have the same solution. -/
theorem SolS.rowA {R n : Nat} {Z : Nat → Nat → Int} {f : Nat → Int} {W W1 : World} {xa va : Option Addr} {xn xc vn vc : Nat} {ee er : Int} {a b : Nat} (ha : a < R) (hb : b < R) (hne : a ≠ b) (hr : rngF R f) (h : SolS R n Z f W xa xn xc ee) (h' : SolS R n (rowA a b Z) (rhsA a b f) W1 va vn vc er) :
    er = 2 ∨ (er = ee ∧ vn = xn ∧ xn ≤ n ∧ ∃ X, IFr W xa xn X ∧ IFr W1 va xn X) := by
  rcases h with ⟨h, _⟩ | ⟨_, k, p, E, D, hF, h⟩
  · exact absurd hr h
  rcases h' with ⟨_, _, _, _, h⟩ | ⟨_, k', p', E', D', hF', h'⟩
  · exact .inl h
  right
  rw [rowA_ext] at hF'
  obtain ⟨t1, t2⟩ := rowA_trn (n := n + 1) a b ha hb hne (extE n Z f)
  obtain ⟨ek, ep⟩ := hF.w.uniq hF'.w t1 t2
  have nil : ∀ (W : World) (X : Nat → Int × Int), IFr W none 0 X := fun W X h => by omega
  subst ek
  have pe : (∃ l, l < k ∧ p' l = n) ↔ ∃ l, l < k ∧ p l = n := ⟨fun ⟨l, hl, e⟩ => ⟨l, hl, by rw [ep l hl]; exact e⟩, fun ⟨l, hl, e⟩ => ⟨l, hl, by rw [← ep l hl]; exact e⟩⟩
  rcases h with ⟨hp, rfl, rfl, rfl, rfl⟩ | ⟨hp, hk, rfl, rfl, rfl, rfl⟩ | ⟨hp, hk, rfl, xb, rfl, rfl, rfl, hX⟩
  · rcases h' with ⟨_, rfl, rfl, rfl, rfl⟩ | ⟨hp', _⟩ | ⟨hp', _⟩
    · exact ⟨rfl, rfl, by omega, fun _ => (0, 0), nil _ _, nil _ _⟩
    · exact absurd (pe.2 hp) hp'
    · exact absurd (pe.2 hp) hp'
  · rcases h' with ⟨hp', _⟩ | ⟨_, _, rfl, rfl, rfl, rfl⟩ | ⟨_, hk', _⟩
    · exact absurd (pe.1 hp') hp
    · exact ⟨rfl, rfl, by omega, fun _ => (0, 0), nil _ _, nil _ _⟩
    · omega
  · rcases h' with ⟨hp', _⟩ | ⟨_, hk', _⟩ | ⟨_, _, rfl, vb, rfl, rfl, rfl, hV⟩
    · exact absurd (pe.1 hp') hp
    · omega
    · refine ⟨rfl, rfl, Nat.le_refl _, _, hX.ifr, (hV.congr fun l hl => ?_).ifr⟩
      exact shF_same hF.nz hF'.nz (hF.dE l _ (by have := hF.kR; omega) (Nat.lt_succ_self _)) hF.dD (hF'.dE l _ (by have := hF'.kR; omega) (Nat.lt_succ_self _)) hF'.dD (hF.w.shr hF'.w t2 ep l _ (by omega) (Nat.lt_succ_self _))

end Go.Proofs.Ytjggnmbdgagkoaa
