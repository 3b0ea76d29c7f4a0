/- Layer 4: LinearAdds returns true. -/
import Derived.Test.YtjggnmbdgagkoaaLRCopy
import Derived.Test.YtjggnmbdgagkoaaLAwake
import Derived.Test.YtjggnmbdgagkoaaRRef14
namespace Go.Proofs.Ytjggnmbdgagkoaa
set_option linter.unusedVariables false
open Go.RowKit Go.Shelf

theorem setCell_sw2 (w : World) (b i j : Nat) (x y : Value) (h : i ≠ j) : (w.setCell ⟨b, i, none⟩ x).setCell ⟨b, j, none⟩ y = (w.setCell ⟨b, j, none⟩ y).setCell ⟨b, i, none⟩ x := by
  unfold World.setCell
  simp only [Option.isSome_none, Bool.false_eq_true, if_false]
  congr 1
  apply Array.ext
  · simp
  · intro k h1 h2
    simp only [Array.getElem_modify]
    by_cases e : b = k
    · subst e
      simp only [if_true]
      have hk : b < w.heap.size := by simpa using h1
      cases w.heap[b] with
      | cells c elem fr => simp only; rw [Array.setIfInBounds_comm _ _ h]
      | _ => rfl
    · simp only [if_neg e]
theorem Grid.amat {B0 : Nat} {W : World} {b R n : Nat} {G C : Nat → Nat} {E : Nat → Nat → Int} (h : Grid B0 W b R n G C E) (hn : n ≤ 1000) : AMat W (some ⟨b, 0, none⟩) R (fun i => some ⟨G i, 0, none⟩) (fun _ => n) C E :=
  ⟨fun _ => ⟨b, 0, rfl, h.hb, fun i hi => by rw [Nat.zero_add]; exact h.top i hi⟩, fun i hi _ => ⟨G i, 0, rfl, (h.row i hi).2.1, fun j hj => by rw [Nat.zero_add]; exact h.cell i j hi hj⟩, fun i hi => by omega⟩
theorem Grid.retop {B0 : Nat} {W : World} {b R n : Nat} {G C : Nat → Nat} {E : Nat → Nat → Int} (h : Grid B0 W b R n G C E) (a : Nat) (ha : a < R) : Grid B0 (W.setCell ⟨b, a, none⟩ (.slice (some ⟨G a, 0, none⟩) n (C a))) b R n G C E where
  lb := h.lb
  hb := by simpa using h.hb
  top i hi := by
    by_cases e : i = a
    · subst e
      exact World.cell?_setCell_same' _ _ _ (by rw [h.top i hi]; rfl)
    · rw [World.cell?_setCell_other _ _ _ _ (adr_ne (b := b) (i := a) (j := i) (fun q => e q.symm))]; exact h.top i hi
  tfz i hi := by simpa using h.tfz i hi
  row i hi := by simpa using h.row i hi
  cap := h.cap
  inj := h.inj
  cell i j hi hj := by rw [World.cell?_setCell_far _ _ _ _ (h.row i hi).2.2.symm]; exact h.cell i j hi hj
  fz i j hi hj := by simpa using h.fz i j hi hj
theorem swE_symm (a b : Nat) (E : Nat → Nat → Int) : swE a b E = swE b a E := by
  funext i j
  unfold swE
  by_cases h1 : i = a <;> by_cases h2 : i = b
  · rw [if_pos h1, if_pos h2, ← h1, ← h2]
  · rw [if_pos h1, if_neg h2, if_pos h1]
  · rw [if_neg h1, if_pos h2, if_pos h2]
  · rw [if_neg h1, if_neg h2, if_neg h2, if_neg h1]
theorem swE_self (a : Nat) (E : Nat → Nat → Int) : swE a a E = E := by
  funext i j
  unfold swE
  split
  · rename_i h; rw [h]
  · rfl
/-- Two rows exchanged, whichever is the first one. -/
theorem Grid.exch {B0 : Nat} {W : World} {b R n : Nat} {G C : Nat → Nat} {E : Nat → Nat → Int} (h : Grid B0 W b R n G C E) (x y : Nat) (hx : x < R) (hy : y < R) (hne : x ≠ y) :
    ∃ G' C', Grid B0 ((W.setCell ⟨b, x, none⟩ (.slice (some ⟨G y, 0, none⟩) n (C y))).setCell ⟨b, y, none⟩ (.slice (some ⟨G x, 0, none⟩) n (C x))) b R n G' C' (swE x y E) := by
  rcases Nat.lt_or_gt_of_ne hne with g | g
  · exact ⟨_, _, h.swap x y g hy⟩
  · rw [setCell_sw2 _ _ _ _ _ _ hne, swE_symm]
    exact ⟨_, _, h.swap y x g hx⟩
theorem swE_rows {R n : Nat} (x y : Nat) (hx : x < R) (hy : y < R) (Z : Nat → Nat → Int) : Trn n R R Z (swE x y Z) ∧ Trn n R R (swE x y Z) Z := by
  refine ⟨fun m a q hq h i hi => ?_, fun m a q hq h i hi => ?_⟩
  · rcases swE_pick x y i Z with ⟨_, e⟩ | ⟨_, e⟩ | e
    · simp only [e]; exact h y hy
    · simp only [e]; exact h x hx
    · simp only [e]; exact h i hi
  · rcases swE_pick x y i Z with ⟨e0, e⟩ | ⟨e0, e⟩ | e
    · have := h y hy
      have e2 : swE x y Z y = Z x := by
        funext j; unfold swE
        by_cases g : y = x
        · rw [if_pos g, g]
        · rw [if_neg g, if_pos rfl]
      simp only [e2] at this
      rw [e0]; exact this
    · have := h x hx
      have e2 : swE x y Z x = Z y := by funext j; exact if_pos rfl
      simp only [e2] at this
      rw [e0]; exact this
    · have := h i hi
      simp only [e] at this
      exact this

/-- What Det returns for a valid matrix. -/
def DetP (R n : Nat) (Z : Nat → Nat → Int) (v er : Int) : Prop := (R ≠ n ∧ v = 0 ∧ er = 19) ∨ (R = n ∧ er = 0 ∧ ∃ k p E D, FinE R R Z k p E D ∧ v = if k < R then 0 else D)
theorem Det_all (ma : Option Addr) (R mc : Nat) (Ra : Nat → Option Addr) (Ln Ka : Nat → Nat) (Z : Nat → Nat → Int) (w : World) (n : Nat) (hn : Ln 0 = n) (hM : AMat w ma R Ra Ln Ka Z) (hv : vMP R Ln Z) :
    Calls Try.prog 14 #[.slice ma R mc] w fun e w' => Below w.heap.size w w' ∧ ∃ v er, e = .returned (.tuple #[.int .i64 v, .int .i64 er]) ∧ DetP R n Z v er := by
  by_cases h : R = n
  · refine (Det_ok ma R mc Ra Ln Ka Z w (by rw [hn, h]) hM hv).mono ?_
    rintro e w' ⟨hb, k, p, E, D, hF, rfl⟩
    exact ⟨hb, _, _, rfl, .inr ⟨h, rfl, k, p, E, D, hF, rfl⟩⟩
  · refine (Det_shape ma R mc Ra Ln Ka Z w n hn hM hv h).mono ?_
    rintro e w' ⟨rfl, hb⟩
    exact ⟨hb, _, _, rfl, .inl ⟨h, rfl, rfl⟩⟩
theorem DetP.turned {R n : Nat} {Z : Nat → Nat → Int} {v er v' er' : Int} (h : DetP R n Z v er) (h' : DetP n R (fun l i => Z i l) v' er') : v' = v ∧ er' = er := by
  rcases h with ⟨hne, rfl, rfl⟩ | ⟨rfl, rfl, k, p, E, D, hF, rfl⟩
  · rcases h' with ⟨_, rfl, rfl⟩ | ⟨e, _⟩
    · exact ⟨rfl, rfl⟩
    · exact absurd e.symm hne
  · rcases h' with ⟨hne, _⟩ | ⟨_, rfl, k', p', E', D', hF', rfl⟩
    · exact absurd rfl hne
    · have ek := rank_turned hF.w hF'.w (fun i j _ _ => rfl)
      subst ek
      refine ⟨?_, rfl⟩
      by_cases g : k < R
      · rw [if_pos g, if_pos g]
      · rw [if_neg g, if_neg g]
        have e : k = R := by have := hF.kR; omega
        rw [hF.det e, hF'.det e]
        have p1 := full_piv hF.up hF.lt e
        have p2 := full_piv hF'.up hF'.lt e
        have a1 : detN R (fun l i => Z i (p l)) = detN R (fun l i => Z i l) := det_congr R fun l hl i _ => by show Z i (p l) = Z i l; rw [p1 l hl]
        have a2 : detN R (fun l i => (fun l i => Z i l) i (p' l)) = detN R Z := det_congr R fun l hl i _ => by show Z (p' l) i = Z l i; rw [p2 l hl]
        rw [a1, a2]
        exact (det_trans R Z).symm
theorem DetP.exch {R n : Nat} {Z : Nat → Nat → Int} {v er v' er' : Int} {x y : Nat} (hx : x < R) (hy : y < R) (h : DetP R n Z v er) (h' : DetP R n (swE x y Z) v' er') : er' = er ∧ (x = y → v' = v) ∧ (x ≠ y → v' = -v) := by
  rcases h with ⟨hne, rfl, rfl⟩ | ⟨rfl, rfl, k, p, E, D, hF, rfl⟩
  · rcases h' with ⟨_, rfl, rfl⟩ | ⟨e, _⟩
    · exact ⟨rfl, fun _ => rfl, fun _ => rfl⟩
    · exact absurd e hne
  · rcases h' with ⟨hne, _⟩ | ⟨_, rfl, k', p', E', D', hF', rfl⟩
    · exact absurd rfl hne
    · obtain ⟨t1, t2⟩ := swE_rows (n := R) x y hx hy Z
      obtain ⟨ek, ep⟩ := hF.w.uniq hF'.w t1 t2
      subst ek
      refine ⟨rfl, fun e => ?_, fun hne => ?_⟩
      · subst e
        by_cases g : k < R
        · rw [if_pos g, if_pos g]
        · rw [if_neg g, if_neg g]
          have e : k = R := by have := hF.kR; omega
          rw [hF.det e, hF'.det e, swE_self]
          exact det_congr R fun l hl i _ => by rw [ep l (by omega)]
      · by_cases g : k < R
        · rw [if_pos g, if_pos g]; rfl
        · rw [if_neg g, if_neg g]
          have e : k = R := by have := hF.kR; omega
          rw [hF.det e, hF'.det e]
          have a : detN R (fun l i => swE x y Z i (p' l)) = detN R (fun l i => swE x y Z i (p l)) := det_congr R fun l hl i _ => by rw [ep l (by omega)]
          have d := detC_sw R (fun i l => Z i (p l)) x y hx hy hne
          have e2 : detC R (swE x y (fun i l => Z i (p l))) = detN R (fun l i => swE x y Z i (p l)) := rfl
          rw [a, ← e2, d]
          rfl
theorem DetP.zero {R n : Nat} {Z : Nat → Nat → Int} {v er : Int} {k : Nat} {p : Nat → Nat} {E : Nat → Nat → Int} {D : Int} (h : DetP R n Z v er) (hF : FinE R n Z k p E D) : (er = 19) ∨ (er = 0 ∧ ((k < R ∧ v = 0) ∨ (¬ k < R ∧ v ≠ 0))) := by
  rcases h with ⟨_, _, e⟩ | ⟨rfl, e, k', p', E', D', hF', rfl⟩
  · exact .inl e
  · refine .inr ⟨e, ?_⟩
    have ek := (hF.uniq hF').1
    subst ek
    by_cases g : k < R
    · exact .inl ⟨g, if_pos g⟩
    · exact .inr ⟨g, by rw [if_neg g]; exact hF'.nz⟩

theorem DetP.bd {R n : Nat} {Z : Nat → Nat → Int} {v er : Int} (h : DetP R n Z v er) : -1152921504606846976 ≤ v ∧ v ≤ 1152921504606846976 := by
  rcases h with ⟨_, rfl, _⟩ | ⟨_, _, k, p, E, D, hF, rfl⟩
  · omega
  · split
    · omega
    · exact hF.dD

end Go.Proofs.Ytjggnmbdgagkoaa

namespace Go.Proofs.Ytjggnmbdgagkoaa
set_option linter.unusedVariables false
open Go.RowKit Go.Shelf

def rngF (R : Nat) (f : Nat → Int) : Prop := ∀ j, j < R → -67108864 ≤ f j ∧ f j ≤ 67108864
/-- What Solve returns for a valid matrix and as many right-hand sides as rows. -/
def SolS (R n : Nat) (Z : Nat → Nat → Int) (f : Nat → Int) (W : World) (xa : Option Addr) (xn xc : Nat) (ee : Int) : Prop :=
  (¬ rngF R f ∧ xa = none ∧ xn = 0 ∧ xc = 0 ∧ ee = 2) ∨
  (rngF R f ∧ ∃ k p E D, FinE R (n + 1) (extE n Z f) k p E D ∧
    (((∃ l, l < k ∧ p l = n) ∧ xa = none ∧ xn = 0 ∧ xc = 0 ∧ ee = 22) ∨
     ((¬ ∃ l, l < k ∧ p l = n) ∧ k < n ∧ xa = none ∧ xn = 0 ∧ xc = 0 ∧ ee = 21) ∨
     ((¬ ∃ l, l < k ∧ p l = n) ∧ k = n ∧ ee = 0 ∧ ∃ xb, xa = some ⟨xb, 0, none⟩ ∧ xn = n ∧ xc = n ∧ FrX W xb n (fun l => shF (E l n) D))))
theorem SolS.on {R n : Nat} {Z : Nat → Nat → Int} {f : Nat → Int} {W W2 : World} {xa : Option Addr} {xn xc : Nat} {ee : Int} (h : SolS R n Z f W xa xn xc ee) (hb : Below W.heap.size W W2) : SolS R n Z f W2 xa xn xc ee := by
  rcases h with h | ⟨hr, k, p, E, D, hF, h | h | ⟨h1, h2, h3, xb, h4, h5, h6, h7⟩⟩
  · exact .inl h
  · exact .inr ⟨hr, k, p, E, D, hF, .inl h⟩
  · exact .inr ⟨hr, k, p, E, D, hF, .inr (.inl h)⟩
  · exact .inr ⟨hr, k, p, E, D, hF, .inr (.inr ⟨h1, h2, h3, xb, h4, h5, h6, h7.on hb⟩)⟩
theorem Solve_S (ma : Option Addr) (R mc : Nat) (Ra : Nat → Option Addr) (Ln Ka : Nat → Nat) (Z : Nat → Nat → Int) (ra : Option Addr) (rc : Nat) (f : Nat → Int) (w : World) (n : Nat) (hn : Ln 0 = n) (hM : AMat w ma R Ra Ln Ka Z) (hv : vMP R Ln Z) (hr : IRow w ra R f) (hc : R ≤ rc) (hc2 : rc ≤ 9223372036854775807) :
    Calls Try.prog 21 #[.slice ma R mc, .slice ra R rc] w fun e w' => Below w.heap.size w w' ∧ ∃ (xa : Option Addr) (xn xc : Nat) (ee : Int), e = .returned (.tuple #[.slice xa xn xc, .int .i64 ee]) ∧ SolS R n Z f w' xa xn xc ee := by
  cases hw : wB R f 67108864
  · refine (Solve_range ma R mc Ra Ln Ka Z ra rc f w hM hv hr hw).mono ?_
    rintro e w' ⟨rfl, hb⟩
    exact ⟨hb, none, 0, 0, 2, rfl, .inl ⟨fun h => by
      have ht : wB R f 67108864 = true := decide_eq_true (show ∀ j, j < R → -67108864 ≤ f j ∧ f j ≤ 67108864 from h)
      rw [hw] at ht
      exact Bool.noConfusion ht, rfl, rfl, rfl, rfl⟩⟩
  · refine (Solve_ok ma R mc Ra Ln Ka Z ra rc f w n hn hM hv hr hw hc hc2).mono ?_
    have hrg : ∀ j, j < R → -67108864 ≤ f j ∧ f j ≤ 67108864 := by unfold wB at hw; exact of_decide_eq_true hw
    rintro e w' ⟨hb, k, p, E, D, hF, ⟨hp, rfl⟩ | ⟨hp, hk, rfl⟩ | ⟨hp, hk, xb, rfl, hX⟩⟩
    · exact ⟨hb, none, 0, 0, 22, rfl, .inr ⟨hrg, k, p, E, D, hF, .inl ⟨hp, rfl, rfl, rfl, rfl⟩⟩⟩
    · exact ⟨hb, none, 0, 0, 21, rfl, .inr ⟨hrg, k, p, E, D, hF, .inr (.inl ⟨hp, hk, rfl, rfl, rfl, rfl⟩)⟩⟩
    · exact ⟨hb, some ⟨xb, 0, none⟩, n, n, 0, rfl, .inr ⟨hrg, k, p, E, D, hF, .inr (.inr ⟨hp, hk, rfl, xb, rfl, rfl, rfl, hX⟩)⟩⟩

theorem ext_last (n : Nat) (Z : Nat → Nat → Int) (f : Nat → Int) (i : Nat) : extE n Z f i n = f i := by unfold extE catF; exact if_pos rfl
theorem ext_old {n : Nat} {Z : Nat → Nat → Int} {f : Nat → Int} {i j : Nat} (h : j < n) : extE n Z f i j = Z i j := by unfold extE catF; exact if_neg (by omega)

/-- A solution, its numbers times the last pivot. -/
structure SolK (R n : Nat) (Z : Nat → Nat → Int) (f : Nat → Int) (X : Nat → Int × Int) (y : Nat → Int) (D : Int) : Prop where
  nz : D ≠ 0
  v : ∀ l, l < n → Vld (X l).1 (X l).2 ∧ (X l).1 * D = y l * (X l).2
  s : ∀ i, i < R → sumN n (fun l => Z i l * y l) = D * f i
theorem sol_K {R n : Nat} {Z : Nat → Nat → Int} {f : Nat → Int} {p : Nat → Nat} {E : Nat → Nat → Int} {D : Int} (hF : FinE R (n + 1) (extE n Z f) n p E D) (hp : ¬ ∃ l, l < n ∧ p l = n) : SolK R n Z f (fun l => shF (E l n) D) (fun l => E l n) D ∧ FinE R n Z n p E D := by
  have hG : FinE R n Z n p E D := hF.front (fun l hl e => hp ⟨l, hl, e⟩) (fun i j hj => (ext_old hj).symm)
  refine ⟨⟨hF.nz, fun l hl => shF_val _ D hF.nz (hF.dE l n (by have := hF.kR; omega) (by omega)) hF.dD, fun i hi => ?_⟩, hG⟩
  have r := hF.rel i hi n (by omega)
  rw [ext_last] at r
  rw [r]
  have pl := full_piv hG.up hG.lt rfl
  exact sumN_congr fun l hl => by rw [pl l hl, ext_old hl, Int.mul_comm]
theorem sum_val {R n : Nat} {Z : Nat → Nat → Int} {f g : Nat → Int} {X Y V : Nat → Int × Int} {y y' y'' : Nat → Int} {D D' D'' : Int} {p : Nat → Nat} {E : Nat → Nat → Int} {DD : Int} (hG : FinE R n Z n p E DD) (h : SolK R n Z f X y D) (h' : SolK R n Z g Y y' D') (h'' : SolK R n Z (fun i => f i + g i) V y'' D'') : ∀ l, l < n → y l * (D' * D'') + y' l * (D * D'') = y'' l * (D * D') := by
  intro l hl
  have pl := full_piv hG.up hG.lt rfl
  have z := hG.ind (fun l => y l * (D' * D'') + y' l * (D * D'') + (-1) * (y'' l * (D * D'))) (fun i hi => by
    have e : sumN n (fun l => (y l * (D' * D'') + y' l * (D * D'') + (-1) * (y'' l * (D * D'))) * Z i (p l)) = (D' * D'') * sumN n (fun l => Z i l * y l) + (D * D'') * sumN n (fun l => Z i l * y' l) + (-(D * D')) * sumN n (fun l => Z i l * y'' l) := by
      rw [← sumN_mul, ← sumN_mul, ← sumN_mul, ← sumN_add, ← sumN_add]
      refine sumN_congr fun x hx => ?_
      rw [pl x hx]; grind
    show sumN n (fun l => (y l * (D' * D'') + y' l * (D * D'') + (-1) * (y'' l * (D * D'))) * Z i (p l)) = 0
    rw [e, h.s i hi, h'.s i hi, h''.s i hi]
    generalize f i = a
    generalize g i = b
    grind) l hl
  have z : y l * (D' * D'') + y' l * (D * D'') + (-1) * (y'' l * (D * D')) = 0 := z
  omega
theorem add_val {x1 x2 y1 y2 v1 v2 a b c D D' D'' : Int} (hx : Vld x1 x2) (hy : Vld y1 y2) (hv : Vld v1 v2) (d0 : D ≠ 0) (d1 : D' ≠ 0) (d2 : D'' ≠ 0) (ex : x1 * D = a * x2) (ey : y1 * D' = b * y2) (ev : v1 * D'' = c * v2) (h : a * (D' * D'') + b * (D * D'') = c * (D * D')) {s t er : Int} (ha : addT x1 x2 y1 y2 = (s, t, er)) : er ≠ 0 ∨ (er = 0 ∧ s = v1 ∧ t = v2) := by
  rcases addT_cases x1 x2 y1 y2 with ⟨q, r, hq, _, _, vq, eq⟩ | ⟨c2, hq, hc, _⟩
  · rw [hq] at ha
    injection ha with h1 h2
    injection h2 with h2 h3
    subst h1; subst h2; subst h3
    right
    have x20 : x2 ≠ 0 := by have := hx.d1; omega
    have y20 : y2 ≠ 0 := by have := hy.d1; omega
    have k : q * v2 = v1 * r := by
      have e1 : (q * (x2 * y2)) * (D * (D' * D'')) = (x2 * y2) * (c * (D * D')) * r := by
        rw [eq, ← h]
        have : (x1 * y2 + y1 * x2) * r * (D * (D' * D'')) = ((x1 * D) * y2 * (D' * D'') + (y1 * D') * x2 * (D * D'')) * r := by grind
        rw [this, ex, ey]; grind
      have e2 : (q * v2 - v1 * r) * ((x2 * y2) * (D * (D' * D''))) = 0 := by
        have a1 : (q * v2) * ((x2 * y2) * (D * (D' * D''))) = ((q * (x2 * y2)) * (D * (D' * D''))) * v2 := by grind
        have a2 : (v1 * r) * ((x2 * y2) * (D * (D' * D''))) = (x2 * y2) * ((v1 * D'') * (D * D')) * r := by grind
        rw [Int.sub_mul, a1, a2, e1, ev]; grind
      rcases Int.mul_eq_zero.1 e2 with g | g
      · omega
      · exact absurd g (Int.mul_ne_zero (Int.mul_ne_zero x20 y20) (Int.mul_ne_zero d0 (Int.mul_ne_zero d1 d2)))
    obtain ⟨e1, e2⟩ := uniq (by have := vq.d1; omega) (by have := hv.d1; omega) vq.co hv.co k
    exact ⟨rfl, e1, e2⟩
  · rw [hq] at ha
    injection ha with h1 h2
    injection h2 with h2 h3
    subst h3
    exact .inl hc

/-- The solution of a sum. -/
theorem SolS.sum {R n : Nat} {Z : Nat → Nat → Int} {f g : Nat → Int} {W W1 W2 : World} {xa ya va : Option Addr} {xn xc yn yc vn vc : Nat} {er : Int} (h : SolS R n Z f W xa xn xc 0) (h' : SolS R n Z g W1 ya yn yc 0) (h'' : SolS R n Z (fun i => f i + g i) W2 va vn vc er) :
    xn = n ∧ ((er = 2 ∧ vn = 0) ∨ (er = 0 ∧ vn = n ∧ ∃ xb yb vb X Y V, xa = some ⟨xb, 0, none⟩ ∧ ya = some ⟨yb, 0, none⟩ ∧ yn = n ∧ va = some ⟨vb, 0, none⟩ ∧ FrX W xb n X ∧ FrX W1 yb n Y ∧ FrX W2 vb n V ∧ ∀ l, l < n → Vld (X l).1 (X l).2 ∧ Vld (Y l).1 (Y l).2 ∧ ∀ s t e, addT (X l).1 (X l).2 (Y l).1 (Y l).2 = (s, t, e) → e ≠ 0 ∨ (e = 0 ∧ s = (V l).1 ∧ t = (V l).2))) := by
  rcases h with ⟨_, _, _, _, h⟩ | ⟨_, k, p, E, D, hF, ⟨_, _, _, _, h⟩ | ⟨_, _, _, _, _, h⟩ | ⟨hp, hk, _, xb, rfl, rfl, rfl, hX⟩⟩
  · cases h
  · cases h
  · cases h
  rcases h' with ⟨_, _, _, _, h⟩ | ⟨_, k', p', E', D', hF', ⟨_, _, _, _, h⟩ | ⟨_, _, _, _, _, h⟩ | ⟨hp', hk', _, yb, rfl, rfl, rfl, hY⟩⟩
  · cases h
  · cases h
  · cases h
  subst hk
  subst hk'
  obtain ⟨s1, g1⟩ := sol_K hF hp
  obtain ⟨s2, g2⟩ := sol_K hF' hp'
  refine ⟨rfl, ?_⟩
  rcases h'' with ⟨_, _, e, _, h⟩ | ⟨_, k'', p'', E'', D'', hF'', h⟩
  · exact .inl ⟨h, e⟩
  right
  have np := hF''.w.not_piv k' (by omega) (D * D') (Int.mul_ne_zero hF.nz hF'.nz) (fun j => D' * E j k' + D * E' j k') (fun i hi => by
    rw [ext_last]
    have e : sumN k' (fun j => (D' * E j k' + D * E' j k') * extE k' Z (fun i => f i + g i) i j) = D' * sumN k' (fun l => Z i l * E l k') + D * sumN k' (fun l => Z i l * E' l k') := by
      rw [← sumN_mul, ← sumN_mul, ← sumN_add]
      exact sumN_congr fun x hx => by rw [ext_old hx]; grind
    rw [e, s1.s i hi, s2.s i hi]
    generalize f i = a
    generalize g i = b
    grind)
  have hne : ¬ ∃ l, l < k'' ∧ p'' l = k' := fun ⟨l, hl, e⟩ => np l hl e
  have g3 : FinE R k' Z k'' p'' E'' D'' := hF''.front np (fun i j hj => (ext_old hj).symm)
  have ek := (g1.uniq g3).1
  subst ek
  rcases h with ⟨h, _⟩ | ⟨_, h, _⟩ | ⟨_, _, e0, vb, rfl, rfl, rfl, hV⟩
  · exact absurd h hne
  · omega
  obtain ⟨s3, _⟩ := sol_K hF'' hne
  refine ⟨e0, rfl, xb, yb, vb, _, _, _, rfl, rfl, rfl, rfl, hX, hY, hV, fun l hl => ⟨(s1.v l hl).1, (s2.v l hl).1, fun s t e ha => ?_⟩⟩
  exact add_val (s1.v l hl).1 (s2.v l hl).1 (s3.v l hl).1 s1.nz s2.nz s3.nz (s1.v l hl).2 (s2.v l hl).2 (s3.v l hl).2 (sum_val g1 s1 s2 s3 l hl) ha

/-- The row b is added to the row a. -/
def rowA (a b : Nat) (Z : Nat → Nat → Int) : Nat → Nat → Int := fun i j => if i = a then Z a j + Z b j else Z i j
def rhsA (a b : Nat) (f : Nat → Int) : Nat → Int := fun i => if i = a then f a + f b else f i
theorem rowA_ext (n a b : Nat) (Z : Nat → Nat → Int) (f : Nat → Int) : extE n (rowA a b Z) (rhsA a b f) = rowA a b (extE n Z f) := by
  funext i j
  unfold extE catF rowA rhsA
  by_cases h : j = n
  · simp only [if_pos h]
  · simp only [if_neg h]
theorem rowA_trn {R n : Nat} (a b : Nat) (ha : a < R) (hb : b < R) (hne : a ≠ b) (Z : Nat → Nat → Int) : Trn n R R Z (rowA a b Z) ∧ Trn n R R (rowA a b Z) Z := by
  have ea : rowA a b Z a = fun j => Z a j + Z b j := by funext j; exact if_pos rfl
  have eo : ∀ i, i ≠ a → rowA a b Z i = Z i := fun i h => by funext j; exact if_neg h
  refine ⟨fun m c q hq h i hi => ?_, fun m c q hq h i hi => ?_⟩
  · by_cases e : i = a
    · subst e
      simp only [ea]
      have : sumN m (fun x => c x * (Z i (q x) + Z b (q x))) = sumN m (fun x => c x * Z i (q x)) + sumN m (fun x => c x * Z b (q x)) := by
        rw [← sumN_add]; exact sumN_congr fun x _ => Int.mul_add _ _ _
      rw [this, h i hi, h b hb]; rfl
    · simp only [eo i e]; exact h i hi
  · by_cases e : i = a
    · subst e
      have h1 := h i hi
      have h2 := h b hb
      simp only [ea] at h1
      simp only [eo b (fun e => hne e.symm)] at h2
      have : sumN m (fun x => c x * (Z i (q x) + Z b (q x))) = sumN m (fun x => c x * Z i (q x)) + sumN m (fun x => c x * Z b (q x)) := by
        rw [← sumN_add]; exact sumN_congr fun x _ => Int.mul_add _ _ _
      rw [this, h2] at h1
      omega
    · have h1 := h i hi
      simp only [eo i e] at h1
      exact h1
theorem DetP.rowA {R n : Nat} {Z : Nat → Nat → Int} {v er v' er' : Int} {a b : Nat} (ha : a < R) (hb : b < R) (hne : a ≠ b) (h : DetP R n Z v er) (h' : DetP R n (rowA a b Z) v' er') : v' = v ∧ er' = er := by
  rcases h with ⟨hn, rfl, rfl⟩ | ⟨rfl, rfl, k, p, E, D, hF, rfl⟩
  · rcases h' with ⟨_, rfl, rfl⟩ | ⟨e, _⟩
    · exact ⟨rfl, rfl⟩
    · exact absurd e hn
  · rcases h' with ⟨hn, _⟩ | ⟨_, rfl, k', p', E', D', hF', rfl⟩
    · exact absurd rfl hn
    · obtain ⟨t1, t2⟩ := rowA_trn (n := R) a b ha hb hne Z
      obtain ⟨ek, ep⟩ := hF.w.uniq hF'.w t1 t2
      subst ek
      refine ⟨?_, rfl⟩
      by_cases g : k < R
      · rw [if_pos g, if_pos g]
      · rw [if_neg g, if_neg g]
        have e : k = R := by have := hF.kR; omega
        rw [hF.det e, hF'.det e]
        have e1 : detN R (fun l i => Go.Proofs.Ytjggnmbdgagkoaa.rowA a b Z i (p' l)) = detN R (fun l i => Go.Proofs.Ytjggnmbdgagkoaa.rowA a b Z i (p l)) := det_congr R fun l hl i _ => by rw [ep l (by omega)]
        rw [e1]
        obtain ⟨U, hU⟩ : ∃ U : Sys, U = fun i l => Z i (p l) := ⟨_, rfl⟩
        have e2 : detN R (fun l i => Go.Proofs.Ytjggnmbdgagkoaa.rowA a b Z i (p l)) = detC R (updV U a (fun c => 1 * U a c + 1 * U b c)) := by
          unfold detC
          congr 1
          funext l i
          rw [hU]
          unfold updV Go.Proofs.Ytjggnmbdgagkoaa.rowA
          by_cases q : i = a
          · simp only [if_pos q]; omega
          · simp only [if_neg q]
        have e3 : detN R (fun l i => Z i (p l)) = detC R U := by rw [hU]; rfl
        rw [e2, e3, detC_lin R U a 1 1 (U a) (U b) ha, updV_own, detC_eq R (updV U a (U b)) a b ha hb hne (by rw [updV_self, updV_ne _ _ (fun e => hne e.symm)])]
        omega
/-- Equations added have the same solution. -/
theorem SolS.rowA {R n : Nat} {Z : Nat → Nat → Int} {f : Nat → Int} {W W1 : World} {xa va : Option Addr} {xn xc vn vc : Nat} {ee er : Int} {a b : Nat} (ha : a < R) (hb : b < R) (hne : a ≠ b) (hr : rngF R f) (h : SolS R n Z f W xa xn xc ee) (h' : SolS R n (rowA a b Z) (rhsA a b f) W1 va vn vc er) :
    er = 2 ∨ (er = ee ∧ vn = xn ∧ xn ≤ n ∧ ∃ X, IFr W xa xn X ∧ IFr W1 va xn X) := by
  rcases h with ⟨h, _⟩ | ⟨_, k, p, E, D, hF, h⟩
  · exact absurd hr h
  rcases h' with ⟨_, _, _, _, h⟩ | ⟨_, k', p', E', D', hF', h'⟩
  · exact .inl h
  right
  rw [rowA_ext] at hF'
  obtain ⟨t1, t2⟩ := rowA_trn (n := n + 1) a b ha hb hne (extE n Z f)
  obtain ⟨ek, ep⟩ := hF.w.uniq hF'.w t1 t2
  have nil : ∀ (W : World) (X : Nat → Int × Int), IFr W none 0 X := fun W X h => by omega
  subst ek
  have pe : (∃ l, l < k ∧ p' l = n) ↔ ∃ l, l < k ∧ p l = n := ⟨fun ⟨l, hl, e⟩ => ⟨l, hl, by rw [ep l hl]; exact e⟩, fun ⟨l, hl, e⟩ => ⟨l, hl, by rw [← ep l hl]; exact e⟩⟩
  rcases h with ⟨hp, rfl, rfl, rfl, rfl⟩ | ⟨hp, hk, rfl, rfl, rfl, rfl⟩ | ⟨hp, hk, rfl, xb, rfl, rfl, rfl, hX⟩
  · rcases h' with ⟨_, rfl, rfl, rfl, rfl⟩ | ⟨hp', _⟩ | ⟨hp', _⟩
    · exact ⟨rfl, rfl, by omega, fun _ => (0, 0), nil _ _, nil _ _⟩
    · exact absurd (pe.2 hp) hp'
    · exact absurd (pe.2 hp) hp'
  · rcases h' with ⟨hp', _⟩ | ⟨_, _, rfl, rfl, rfl, rfl⟩ | ⟨_, hk', _⟩
    · exact absurd (pe.1 hp') hp
    · exact ⟨rfl, rfl, by omega, fun _ => (0, 0), nil _ _, nil _ _⟩
    · omega
  · rcases h' with ⟨hp', _⟩ | ⟨_, hk', _⟩ | ⟨_, _, rfl, vb, rfl, rfl, rfl, hV⟩
    · exact absurd (pe.1 hp') hp
    · omega
    · refine ⟨rfl, rfl, Nat.le_refl _, _, hX.ifr, (hV.congr fun l hl => ?_).ifr⟩
      exact shF_same hF.nz hF'.nz (hF.dE l _ (by have := hF.kR; omega) (Nat.lt_succ_self _)) hF.dD (hF'.dE l _ (by have := hF'.kR; omega) (Nat.lt_succ_self _)) hF'.dD (hF.w.shr hF'.w t2 ep l _ (by omega) (Nat.lt_succ_self _))

end Go.Proofs.Ytjggnmbdgagkoaa

namespace Go.Proofs.Ytjggnmbdgagkoaa
set_option linter.unusedVariables false
open Go.RowKit Go.Shelf

structure AdAR (sb R rg ro rc og oo oc j : Nat) (fj gj s : Int) (Wc : World) (L : Nat → Bool) (v : Nat → Value) (W : World) : Prop where
  st : L 12 = false → Below Wc.heap.size Wc W
  s1 : Had L 12 (∃ W2, Below Wc.heap.size Wc W2 ∧ W = W2.setCell ⟨sb, j, none⟩ (.int .i64 s))
  w4 : Had L 4 (∀ j ∈ [2, 3], L j = true)
  w5 : Had L 5 (∀ j ∈ [4], L j = true)
  w8 : Had L 8 (∀ j ∈ [6, 7], L j = true)
  w9 : Had L 9 (∀ j ∈ [8], L j = true)
  w10 : Had L 10 (∀ j ∈ [5, 9], L j = true)
  w11 : Had L 11 (∀ j ∈ [0, 1], L j = true)
  w12 : Had L 12 (∀ j ∈ [0, 1, 2, 3, 4, 5, 6, 7, 8, 9, 10, 11], L j = true)
  f0 : Had L 0 (v 106 = .slice (some ⟨sb, 0, none⟩) (R) (R))
  f1 : Had L 1 (v 107 = .int .i64 (j : Int))
  f2 : Had L 2 (v 108 = .slice (some ⟨rg, ro, none⟩) (R) (rc))
  f3 : Had L 3 (v 109 = .int .i64 (j : Int))
  f4 : Had L 4 (v 110 = .pointer (some ⟨rg, ro + j, none⟩))
  f5 : Had L 5 (v 111 = .int .i64 fj)
  f6 : Had L 6 (v 112 = .slice (some ⟨og, oo, none⟩) (R) (oc))
  f7 : Had L 7 (v 113 = .int .i64 (j : Int))
  f8 : Had L 8 (v 114 = .pointer (some ⟨og, oo + j, none⟩))
  f9 : Had L 9 (v 115 = .int .i64 gj)
  f10 : Had L 10 (v 116 = .int .i64 s)
  f11 : Had L 11 (v 117 = .pointer (some ⟨sb, j, none⟩))

structure AdBR (xb yb n l xc yc : Nat) (xn xd yn yd sn sd se : Int) (Wc : World) (L : Nat → Bool) (v : Nat → Value) (g : Nat → Nat) (W : World) : Prop where
  st : Below Wc.heap.size Wc W
  f0 : Had L 0 (v 154 = .slice (some ⟨xb, 0, none⟩) n xc)
  f1 : Had L 1 (v 155 = .int .i64 (l : Int))
  f2 : Had L 2 (v 156 = .pointer (some ⟨xb, l * 2, none⟩))
  f3 : Had L 3 (v 157 = .agg #[.int .i64 xn, .int .i64 xd])
  f4 : Had L 4 (v 158 = .slice (some ⟨yb, 0, none⟩) n yc)
  f5 : Had L 5 (v 159 = .int .i64 (l : Int))
  f6 : Had L 6 (v 160 = .pointer (some ⟨yb, l * 2, none⟩))
  f7 : Had L 7 (v 161 = .agg #[.int .i64 yn, .int .i64 yd])
  f8 : Had L 8 (v 162 = .tuple #[.agg #[.int .i64 sn, .int .i64 sd], .int .i64 se])
  f9 : Had L 9 (v 153 = .tuple #[.agg #[.int .i64 sn, .int .i64 sd], .int .i64 se])
  f10 : Had L 10 (v 163 = .agg #[.int .i64 sn, .int .i64 sd])
  f11 : Had L 11 (v 164 = .int .i64 se)
  f12 : Had L 12 (v 20 = .pointer (some ⟨g 12, 0, none⟩))
  f14 : Had L 14 (v 21 = .int .i64 se)
  b12 : Had L 12 (Own Wc.heap.size W (g 12))
  c13 : Had L 13 (L 12 = true ∧ Blk W (g 12) (.int .i64 sn) (.int .i64 sd))

structure AdCR (xb R n Cb a b j : Nat) (G C : Nat → Nat) (va vb s : Int) (Wc : World) (L : Nat → Bool) (v : Nat → Value) (W : World) : Prop where
  st : L 16 = false → Below Wc.heap.size Wc W
  s1 : Had L 16 (∃ W2, Below Wc.heap.size Wc W2 ∧ W = W2.setCell ⟨G a, j, none⟩ (.int .i64 s))
  w2 : Had L 2 (∀ j ∈ [0, 1], L j = true)
  w3 : Had L 3 (∀ j ∈ [2], L j = true)
  w5 : Had L 5 (∀ j ∈ [3, 4], L j = true)
  w6 : Had L 6 (∀ j ∈ [5], L j = true)
  w9 : Had L 9 (∀ j ∈ [7, 8], L j = true)
  w10 : Had L 10 (∀ j ∈ [9], L j = true)
  w12 : Had L 12 (∀ j ∈ [10, 11], L j = true)
  w13 : Had L 13 (∀ j ∈ [12], L j = true)
  w14 : Had L 14 (∀ j ∈ [6, 13], L j = true)
  w15 : Had L 15 (∀ j ∈ [3, 4], L j = true)
  w16 : Had L 16 (∀ j ∈ [0, 1, 2, 3, 4, 5, 6, 7, 8, 9, 10, 11, 12, 13, 14, 15], L j = true)
  f0 : Had L 0 (v 199 = .slice (some ⟨xb, 0, none⟩) (R) (Cb))
  f1 : Had L 1 (v 200 = .int .i64 (a : Int))
  f2 : Had L 2 (v 201 = .pointer (some ⟨xb, a, none⟩))
  f3 : Had L 3 (v 202 = .slice (some ⟨G a, 0, none⟩) (n) (C a))
  f4 : Had L 4 (v 203 = .int .i64 (j : Int))
  f5 : Had L 5 (v 204 = .pointer (some ⟨G a, j, none⟩))
  f6 : Had L 6 (v 205 = .int .i64 va)
  f7 : Had L 7 (v 206 = .slice (some ⟨xb, 0, none⟩) (R) (Cb))
  f8 : Had L 8 (v 207 = .int .i64 (b : Int))
  f9 : Had L 9 (v 208 = .pointer (some ⟨xb, b, none⟩))
  f10 : Had L 10 (v 209 = .slice (some ⟨G b, 0, none⟩) (n) (C b))
  f11 : Had L 11 (v 210 = .int .i64 (j : Int))
  f12 : Had L 12 (v 211 = .pointer (some ⟨G b, j, none⟩))
  f13 : Had L 13 (v 212 = .int .i64 vb)
  f14 : Had L 14 (v 213 = .int .i64 s)
  f15 : Had L 15 (v 214 = .pointer (some ⟨G a, j, none⟩))

structure AdDR (rb R cp a b : Nat) (fa fb s : Int) (Wc : World) (L : Nat → Bool) (v : Nat → Value) (W : World) : Prop where
  st : L 10 = false → Below Wc.heap.size Wc W
  s1 : Had L 10 (∃ W2, Below Wc.heap.size Wc W2 ∧ W = W2.setCell ⟨rb, a, none⟩ (.int .i64 s))
  w2 : Had L 2 (∀ j ∈ [0, 1], L j = true)
  w3 : Had L 3 (∀ j ∈ [2], L j = true)
  w6 : Had L 6 (∀ j ∈ [4, 5], L j = true)
  w7 : Had L 7 (∀ j ∈ [6], L j = true)
  w8 : Had L 8 (∀ j ∈ [3, 7], L j = true)
  w9 : Had L 9 (∀ j ∈ [0, 1], L j = true)
  w10 : Had L 10 (∀ j ∈ [0, 1, 2, 3, 4, 5, 6, 7, 8, 9], L j = true)
  f0 : Had L 0 (v 239 = .slice (some ⟨rb, 0, none⟩) (R) (cp))
  f1 : Had L 1 (v 240 = .int .i64 (a : Int))
  f2 : Had L 2 (v 241 = .pointer (some ⟨rb, a, none⟩))
  f3 : Had L 3 (v 242 = .int .i64 fa)
  f4 : Had L 4 (v 243 = .slice (some ⟨rb, 0, none⟩) (R) (cp))
  f5 : Had L 5 (v 244 = .int .i64 (b : Int))
  f6 : Had L 6 (v 245 = .pointer (some ⟨rb, b, none⟩))
  f7 : Had L 7 (v 246 = .int .i64 fb)
  f8 : Had L 8 (v 247 = .int .i64 s)
  f9 : Had L 9 (v 248 = .pointer (some ⟨rb, a, none⟩))

theorem NRow.set {lo n : Nat} {W : World} {g cp : Nat} {f f2 : Nat → Int} (h : NRow lo n W g cp f) (j : Nat) (v : Int) (hj : j < n) (e1 : f2 j = v) (e2 : ∀ l, l < n → l ≠ j → f2 l = f l) : NRow lo n (W.setCell ⟨g, j, none⟩ (.int .i64 v)) g cp f2 :=
  ⟨h.lo, by simpa using h.hb, h.cap, fun l hl => by
    by_cases e : l = j
    · subst e
      rw [e1]
      exact World.cell?_setCell_same' _ _ _ (by rw [h.cell l hl]; rfl)
    · rw [e2 l hl e, World.cell?_setCell_other _ _ _ _ (adr_ne (b := g) (i := j) (j := l) (fun q => e q.symm))]
      exact h.cell l hl, fun l hl => by simpa using h.fz l hl⟩
theorem NRow.irow {lo n : Nat} {W : World} {g cp : Nat} {f : Nat → Int} (h : NRow lo n W g cp f) : IRow W (some ⟨g, 0, none⟩) n f := fun _ => ⟨g, 0, rfl, h.hb, fun j hj => by rw [Nat.zero_add]; exact h.cell j hj⟩
theorem NRow.cong {lo n : Nat} {W : World} {g cp : Nat} {f f2 : Nat → Int} (h : NRow lo n W g cp f) (e : ∀ l, l < n → f2 l = f l) : NRow lo n W g cp f2 := ⟨h.lo, h.hb, h.cap, fun l hl => by rw [e l hl]; exact h.cell l hl, h.fz⟩
theorem clone_irow (ra : Option Addr) (n rc : Nat) (f : Nat → Int) (w : World) (hr : IRow w ra n f) (hn : 0 < n) (hn13 : n ≤ 20) :
    Calls Try.prog 41 #[.slice ra n rc] w fun e w' => ∃ g cp, e = .returned (.slice (some ⟨g, 0, none⟩) n cp) ∧ cp ≤ 9223372036854775807 ∧ NRow w.heap.size n w' g cp f ∧ Below w.heap.size w w' := by
  obtain ⟨g, o, rfl, hg, hc⟩ := hr hn
  refine (Try.slices_Clone_int g o n rc ((List.range n).map f) w (by simp) (by omega) (fun j hj => ?_)).mono ?_
  · have hj' : j < n := by simpa using hj
    rw [hc j hj']
    simp [List.getD, hj']
  · rintro e w' ⟨v, rfl, ho, _, hb⟩
    have e1 : (((List.range n).map f).take n).map (Value.int .i64) = (List.range n).map fun j => Value.int .i64 (f j) := by
      rw [List.take_of_length_le (by simp), List.map_map]; rfl
    rw [e1] at ho
    have hcap : ∃ g cp, v = .slice (some ⟨g, 0, none⟩) n cp ∧ cp ≤ 9223372036854775807 := by
      rcases ho.2 with ⟨_, h0⟩ | ⟨g, cap, cur, hv, _, _, _, hm, _⟩
      · omega
      · exact ⟨g, cap, hv, by unfold maxLen at hm; omega⟩
    obtain ⟨g2, cp2, hv2, hN⟩ := own_nrow ho hn
    obtain ⟨g3, cp3, hv3, hm⟩ := hcap
    subst hv2
    injection hv3 with h1 h2 h3
    subst h3
    exact ⟨g2, cp2, rfl, hm, hN, hb⟩

theorem ifr_frl {W : World} {xa : Option Addr} {n : Nat} {X : Nat → Int × Int} (h : IFr W xa n X) : FrL W xa ((List.range n).map X) := fun hl => by
  obtain ⟨g, o, h1, h2, h3⟩ := h (by simpa using hl)
  refine ⟨g, o, h1, h2, fun k hk => ?_⟩
  have hk' : k < n := by simpa using hk
  simp only [List.getElem_map, List.getElem_range]
  exact h3 k hk'

def addF (a b j : Nat) (Z : Nat → Nat → Int) : Nat → Nat → Int := fun i k => if i = a ∧ k < j then Z a k + Z b k else Z i k

set_option maxRecDepth 100000 in
set_option maxHeartbeats 64000000 in
theorem adds_walk (ma : Option Addr) (R mc : Nat) (Ra : Nat → Option Addr) (Ln Ka : Nat → Nat) (Z : Nat → Nat → Int) (ra : Option Addr) (nr rc : Nat) (f : Nat → Int) (oa : Option Addr) (no oc : Nat) (g : Nat → Int) (y1 y2 : Int) (w : World) (hM : AMat w ma R Ra Ln Ka Z) (hR : R ≤ 9223372036854775807) (hr : IRow w ra nr f) (hrc : nr ≤ rc) (hrc2 : rc ≤ 9223372036854775807) (ho : IRow w oa no g) (hoc : no ≤ oc) (hoc2 : oc ≤ 9223372036854775807) (y10 : 0 ≤ y1) (y11 : y1 ≤ 255) (y20 : 0 ≤ y2) (y21 : y2 ≤ 255) :
    Calls Try.prog 9 #[.slice ma R mc, .slice ra nr rc, .slice oa no oc, .int .u8 y1, .int .u8 y2] w fun e w' => e = .returned (.bool true) ∧ Below w.heap.size w w' := by
  have HM := Lib.hid hM
  have HRr := Lib.hid hr
  have HOr := Lib.hid ho
  have CA := Lib.hid (lawake_any w)
  have CV0 := fun W h => lValid_any ma R mc Ra Ln Ka Z W h hR
  clear hM hr ho
  go_enter Try.func9, Try.ntmps9
  go_wp2_with fail
  (with_reducible refine ((CA.out).mono ?_))
  rintro e w1 ⟨rfl, hb1⟩
  have HB1 := Lib.hid hb1
  clear CA hb1
  obtain ⟨tl, htl⟩ : ∃ v, lgB R Ln = v := ⟨_, rfl⟩
  have CL0 := long_any ma mc R Ra Ln Ka Z w1 (HM.out.on HB1.out) hR
  rw [htl] at CL0
  have CL := Lib.hid CL0
  clear CL0 htl
  go_wp2_with fail
  (with_reducible refine ((CL.out).mono ?_))
  rintro e w2 ⟨rfl, hb2⟩
  have HB2 := Lib.hid (below_on HB1.out hb2)
  clear CL hb2 HB1
  cases tl
  case true =>
    go_wp2_with fail
    go_ret
    exact ⟨rfl, HB2.out⟩
  case false =>
    by_cases h20 : 20 < nr
    · have t1 : (20 : Int) < (nr : Int) := by omega
      go_wp2_with fail
      go_ret
      exact ⟨rfl, HB2.out⟩
    have t20 : decide ((20 : Int) < (nr : Int)) = false := decide_eq_false (by omega)
    have h20' : nr ≤ 20 := by omega
    by_cases hno : no = nr
    case neg =>
      have t1 : ¬ ((no : Int) = (nr : Int)) := by omega
      have t2 : ((no : Int) == (nr : Int)) = false := by simpa using t1
      have t3 : ((no : Int) != (nr : Int)) = true := bne_iff_ne.2 t1
      go_wp2_with fail
      go_ret
      exact ⟨rfl, HB2.out⟩
    subst hno
    by_cases hv : vMP R Ln Z
    case neg =>
      simp only [vM_no hv] at CV0
      have CV := fun W h => Lib.hid (CV0 W h)
      clear CV0 hv
      go_wp2_with fail
      (with_reducible refine (((CV _ (HM.out.on HB2.out)).out).mono ?_))
      rintro e w3 ⟨rfl, hb3⟩
      have HB3 := Lib.hid (below_on HB2.out hb3)
      clear CV hb3 HB2
      go_wp2_with fail
      go_ret
      exact ⟨rfl, HB3.out⟩
    simp only [vM_true.2 hv] at CV0
    have CV := fun W h => Lib.hid (CV0 W h)
    have HV := Lib.hid hv
    obtain ⟨n, hn⟩ : ∃ n, Ln 0 = n := ⟨_, rfl⟩
    have HN := Lib.hid hn
    have hR0 : 0 < R := hv.1
    have hR6 : R ≤ 6 := hv.2.1
    have hn0 : 0 < n := by rw [← hn]; have := hv.2.2.1; omega
    have hn12 : n ≤ 12 := by rw [← hn]; exact hv.2.2.2.1
    have HZB : Hid (∀ i j, i < R → j < n → -32 ≤ Z i j ∧ Z i j ≤ 32) := fun i j hi hj => (hv.2.2.2.2 i hi).2 j (by rw [(hv.2.2.2.2 i hi).1, hn]; exact hj)
    obtain ⟨mb, mo, hma, hMt⟩ := HM.out.mat hv
    rw [hn] at hMt
    subst hma
    have HMT := Lib.hid hMt
    clear hv hn CV0 hMt
    by_cases hnr : no = R
    case neg =>
      have t1 : ¬ ((no : Int) = (R : Int)) := by omega
      have t2 : ((no : Int) == (R : Int)) = false := by simpa using t1
      have t3 : ((no : Int) != (R : Int)) = true := bne_iff_ne.2 t1
      go_wp2_with fail
      (with_reducible refine (((CV _ (HM.out.on HB2.out)).out).mono ?_))
      rintro e w3 ⟨rfl, hb3⟩
      have HB3 := Lib.hid (below_on HB2.out hb3)
      clear CV hb3 HB2
      go_wp2_with fail
      go_ret
      exact ⟨rfl, HB3.out⟩
    subst hnr
    obtain ⟨rg, ro, hra, hrg, hrcl⟩ := HRr.out hR0
    obtain ⟨og, oo, hoa, hog, hocl⟩ := HOr.out hR0
    subst hra
    subst hoa
    have HRC := Lib.hid (And.intro hrg hrcl)
    have HOC := Lib.hid (And.intro hog hocl)
    clear hrg hrcl hog hocl
    have CX := fun W h h2 => Lib.hid (Solve_S (some ⟨mb, mo, none⟩) no mc Ra Ln Ka Z (some ⟨rg, ro, none⟩) rc f W n HN.out h HV.out h2 hrc hrc2)
    have CY := fun W h h2 => Lib.hid (Solve_S (some ⟨mb, mo, none⟩) no mc Ra Ln Ka Z (some ⟨og, oo, none⟩) oc g W n HN.out h HV.out h2 hoc hoc2)
    go_wp2_with fail
    (with_reducible refine (((CV _ (HM.out.on HB2.out)).out).mono ?_))
    rintro e w3 ⟨rfl, hb3⟩
    have HB3 := Lib.hid (below_on HB2.out hb3)
    clear CV hb3 HB2 t20
    go_wp2_with fail
    (with_reducible refine (((CX _ (HM.out.on HB3.out) (HRr.out.on HB3.out)).out).mono ?_))
    rintro e w4 ⟨hb4, xa, xn, xc, ee, rfl, hX⟩
    have HB4 := Lib.hid (below_on HB3.out hb4)
    have HX4 := Lib.hid hX
    clear CX hb4 hX HB3
    go_wp2_with fail
    (with_reducible refine (((CY _ (HM.out.on HB4.out) (HOr.out.on HB4.out)).out).mono ?_))
    rintro e w5 ⟨hb5, ya, yn, yc, ge, rfl, hY⟩
    have HB5 := Lib.hid (below_on HB4.out hb5)
    have HX5 := Lib.hid (HX4.out.on hb5)
    have HY5 := Lib.hid hY
    clear CY hb5 hY HB4 HX4
    obtain ⟨i0, hi0, hz0, hz1, hz2⟩ := info_parts (show (Try.prog.info? 3).map (fun i => (i.zero, i.size, i.bytes)) = some (some (Value.int IntKind.i64 0), 1, 8) by kernel_rfl)
    go_upto_region 8 with (refine wpList_make_full _ rfl _ _ 29 rfl w5.heap.size 3 i0 (.int .i64 0) 1 Try.underlying29 hi0 hz0 hz1 _ _ _ _ no rfl rfl rfl rfl (by rw [hz2]; omega) (by unfold maxLen; omega) (Nat.le_refl _) ?_; intro w6 ho hg)
    have hb6 : Below w5.heap.size w5 w6 := ⟨hg.os, hg.tape, hg.output, hg.size, fun k hk => hg.block k hk (by simp)⟩
    obtain ⟨sb, hsb⟩ : ∃ x, x = w5.heap.size := ⟨_, rfl⟩
    have N0 := NRow.made (lo := w5.heap.size) ho (Nat.le_refl _)
    rw [← hsb] at N0
    rw [← hsb]
    have S0 : Hid ((NRow sb no w6 sb no (fun l => if l < 0 then f l + g l else 0) ∧ Below w5.heap.size w5 w6) ∧ (rngF 0 f ∧ rngF 0 g)) := ⟨⟨N0.cong fun l _ => if_neg (by omega), hb6⟩, fun l h => by omega, fun l h => by omega⟩
    have HSB := Lib.hid hsb
    clear ho hg hb6 N0 hsb hi0 hz0 hz1 hz2 i0
    go_wp2_with fail
    go_loopg [77] no (fun g' s77 wx => ∃ j : Nat, s77 = .int .i64 j ∧ g' = no - j ∧ j ≤ no ∧ Hid ((NRow sb no wx sb no (fun l => if l < j then f l + g l else 0) ∧ Below w5.heap.size w5 wx) ∧ (rngF j f ∧ rngF j g)))
    case atStart => exact ⟨0, rfl, rfl, Nat.zero_le _, S0⟩
    case round =>
      clear S0
      obtain ⟨j, rfl, rfl, hj, S⟩ := hrel
      rename World => W1
      have HBW := Lib.hid (HB5.out.trans (S.out.1.2.mono HB5.out.size))
      by_cases hlt : j < no
      · have wk : IntKind.i64.wrap ((j : Int) + 1) = ((j + 1 : Nat) : Int) := by rw [IntWalk.i64_in _ (by omega)]; omega
        obtain ⟨fj, hfj⟩ : ∃ x, f j = x := ⟨_, rfl⟩
        obtain ⟨gj, hgj⟩ : ∃ x, g j = x := ⟨_, rfl⟩
        have p1 := (HBW.out.cell (p := ⟨rg, ro + j, none⟩) HRC.out.1).trans (HRC.out.2 j hlt)
        have p2 := (HBW.out.cell (p := ⟨og, oo + j, none⟩) HOC.out.1).trans (HOC.out.2 j hlt)
        rw [hfj] at p1
        rw [hgj] at p2
        have HFJ := Lib.hid (And.intro hfj hgj)
        clear hfj hgj
        by_cases c1 : fj < -67108864
        · go_wp2_with fail
          go_ret
          exact ⟨rfl, HBW.out⟩
        by_cases c2 : 67108864 < fj
        · go_wp2_with fail
          go_ret
          exact ⟨rfl, HBW.out⟩
        by_cases c3 : gj < -67108864
        · go_wp2_with fail
          go_ret
          exact ⟨rfl, HBW.out⟩
        by_cases c4 : 67108864 < gj
        · go_wp2_with fail
          go_ret
          exact ⟨rfl, HBW.out⟩
        obtain ⟨s, hs⟩ : ∃ s, fj + gj = s := ⟨_, rfl⟩
        have ws : IntKind.i64.wrap (fj + gj) = s := by rw [IntWalk.i64_in _ (by omega), hs]
        have LF : Hid (W1.cell? ⟨rg, ro + j, none⟩ = some (.int .i64 fj) ∧ rg < W1.heap.size) := ⟨p1, Nat.lt_of_lt_of_le HRC.out.1 HBW.out.size⟩
        have LG : Hid (W1.cell? ⟨og, oo + j, none⟩ = some (.int .i64 gj) ∧ og < W1.heap.size) := ⟨p2, Nat.lt_of_lt_of_le HOC.out.1 HBW.out.size⟩
        have LS : Hid (W1.cell? ⟨sb, j, none⟩ = some (.int .i64 (if j < j then f j + g j else 0)) ∧ sb < W1.heap.size) := ⟨S.out.1.1.cell j hlt, S.out.1.1.hb⟩
        have LSF : Hid (W1.frozen? ⟨sb, j, none⟩ = false) := S.out.1.1.fz j hlt
        have HRG : Hid (rngF (j + 1) f ∧ rngF (j + 1) g) := ⟨fun l hl => by
            by_cases e : l = j
            · rw [e, HFJ.out.1]; omega
            · exact S.out.2.1 l (by omega), fun l hl => by
            by_cases e : l = j
            · rw [e, HFJ.out.2]; omega
            · exact S.out.2.2 l (by omega)⟩
        have HSS := Lib.hid hs
        clear hs
        go_upto_region 13 with fail
        clear p1 p2 c1 c2 c3 c4
        refine wp_region_each (fun L A W => ∃ (v : Nat → Value), A = ⟨#[_, _, _, _, _, _, _, _, _, _, _, _, _, _, _, _, _, _, _, _, _, _, _, _, _, _, _, _, _, _, _, _, _, _, _, _, _, _, _, _, _, _, _, _, _, _, _, _, _, _, _, _, _, _, _, _, _, _, _, _, _, _, _, _, _, _, _, _, _, _, _, _, _, _, _, _, _, _, _, _, _, _, _, _, _, _, _, _, _, _, _, _, _, _, _, _, _, _, _, _, _, _, _, _, _, _, v 106, v 107, v 108, v 109, v 110, v 111, v 112, v 113, v 114, v 115, v 116, v 117, _, _, _, _, _, _, _, _, _, _, _, _, _, _, _, _, _, _, _, _, _, _, _, _, _, _, _, _, _, _, _, _, _, _, _, _, _, _, _, _, _, _, _, _, _, _, _, _, _, _, _, _, _, _, _, _, _, _, _, _, _, _, _, _, _, _, _, _, _, _, _, _, _, _, _, _, _, _, _, _, _, _, _, _, _, _, _, _, _, _, _, _, _, _, _, _, _, _, _, _, _, _, _, _, _, _, _, _, _, _, _, _, _, _, _, _, _, _, _, _, _, _, _, _, _, _, _, _, _, _, _, _, _, _, _, _, _, _, _, _, _, _, _, _, _, _, _, _, _], []⟩ ∧ AdAR sb no rg ro rc og oo oc j fj gj s W1 L v W) (by kernel_rfl) (by kernel_rfl) ⟨fun jz => if jz = 106 then u106 else if jz = 107 then u107 else if jz = 108 then u108 else if jz = 109 then u109 else if jz = 110 then u110 else if jz = 111 then u111 else if jz = 112 then u112 else if jz = 113 then u113 else if jz = 114 then u114 else if jz = 115 then u115 else if jz = 116 then u116 else if jz = 117 then u117 else undef, rfl, ⟨(fun _ => Below.drew (Below.refl _ _)), Had.none, Had.none, Had.none, Had.none, Had.none, Had.none, Had.none, Had.none, Had.none, Had.none, Had.none, Had.none, Had.none, Had.none, Had.none, Had.none, Had.none, Had.none, Had.none, Had.none⟩⟩ (rs := [0, 1, 2, 3, 4, 5, 6, 7, 8, 9, 10, 11, 12]) (by kernel_rfl) ?_ ?_
        · as_aux_lemma =>
            refine EachOf.cons [] rfl (by kernel_rfl) ?_ ?_
            · rintro L A W ⟨v, rfl, hR⟩ hi hw K hK
              have hk : L 12 = false := hR.w12.not hi rfl
              go_simp
              refine hK.out _ _ ?_
              exact ⟨(fun jz => if jz = 106 then .slice (some ⟨sb, 0, none⟩) (no) (no) else v jz), rfl, ⟨(fun h => hR.st (upd_false h)), hR.s1.keep rfl, hR.w4.keepM rfl (fun h j hj => upd_on (h j hj)), hR.w5.keepM rfl (fun h j hj => upd_on (h j hj)), hR.w8.keepM rfl (fun h j hj => upd_on (h j hj)), hR.w9.keepM rfl (fun h j hj => upd_on (h j hj)), hR.w10.keepM rfl (fun h j hj => upd_on (h j hj)), hR.w11.keepM rfl (fun h j hj => upd_on (h j hj)), hR.w12.keepM rfl (fun h j hj => upd_on (h j hj)), (fun _ => rfl), hR.f1.keep rfl, hR.f2.keep rfl, hR.f3.keep rfl, hR.f4.keep rfl, hR.f5.keep rfl, hR.f6.keep rfl, hR.f7.keep rfl, hR.f8.keep rfl, hR.f9.keep rfl, hR.f10.keep rfl, hR.f11.keep rfl⟩⟩
            refine EachOf.cons [] rfl (by kernel_rfl) ?_ ?_
            · rintro L A W ⟨v, rfl, hR⟩ hi hw K hK
              have hk : L 12 = false := hR.w12.not hi rfl
              go_simp
              refine hK.out _ _ ?_
              exact ⟨(fun jz => if jz = 107 then .int .i64 (j : Int) else v jz), rfl, ⟨(fun h => hR.st (upd_false h)), hR.s1.keep rfl, hR.w4.keepM rfl (fun h j hj => upd_on (h j hj)), hR.w5.keepM rfl (fun h j hj => upd_on (h j hj)), hR.w8.keepM rfl (fun h j hj => upd_on (h j hj)), hR.w9.keepM rfl (fun h j hj => upd_on (h j hj)), hR.w10.keepM rfl (fun h j hj => upd_on (h j hj)), hR.w11.keepM rfl (fun h j hj => upd_on (h j hj)), hR.w12.keepM rfl (fun h j hj => upd_on (h j hj)), hR.f0.keep rfl, (fun _ => rfl), hR.f2.keep rfl, hR.f3.keep rfl, hR.f4.keep rfl, hR.f5.keep rfl, hR.f6.keep rfl, hR.f7.keep rfl, hR.f8.keep rfl, hR.f9.keep rfl, hR.f10.keep rfl, hR.f11.keep rfl⟩⟩
            refine EachOf.cons [] rfl (by kernel_rfl) ?_ ?_
            · rintro L A W ⟨v, rfl, hR⟩ hi hw K hK
              have hk : L 12 = false := hR.w12.not hi rfl
              go_simp
              refine hK.out _ _ ?_
              exact ⟨(fun jz => if jz = 108 then .slice (some ⟨rg, ro, none⟩) (no) (rc) else v jz), rfl, ⟨(fun h => hR.st (upd_false h)), hR.s1.keep rfl, hR.w4.keepM rfl (fun h j hj => upd_on (h j hj)), hR.w5.keepM rfl (fun h j hj => upd_on (h j hj)), hR.w8.keepM rfl (fun h j hj => upd_on (h j hj)), hR.w9.keepM rfl (fun h j hj => upd_on (h j hj)), hR.w10.keepM rfl (fun h j hj => upd_on (h j hj)), hR.w11.keepM rfl (fun h j hj => upd_on (h j hj)), hR.w12.keepM rfl (fun h j hj => upd_on (h j hj)), hR.f0.keep rfl, hR.f1.keep rfl, (fun _ => rfl), hR.f3.keep rfl, hR.f4.keep rfl, hR.f5.keep rfl, hR.f6.keep rfl, hR.f7.keep rfl, hR.f8.keep rfl, hR.f9.keep rfl, hR.f10.keep rfl, hR.f11.keep rfl⟩⟩
            refine EachOf.cons [] rfl (by kernel_rfl) ?_ ?_
            · rintro L A W ⟨v, rfl, hR⟩ hi hw K hK
              have hk : L 12 = false := hR.w12.not hi rfl
              go_simp
              refine hK.out _ _ ?_
              exact ⟨(fun jz => if jz = 109 then .int .i64 (j : Int) else v jz), rfl, ⟨(fun h => hR.st (upd_false h)), hR.s1.keep rfl, hR.w4.keepM rfl (fun h j hj => upd_on (h j hj)), hR.w5.keepM rfl (fun h j hj => upd_on (h j hj)), hR.w8.keepM rfl (fun h j hj => upd_on (h j hj)), hR.w9.keepM rfl (fun h j hj => upd_on (h j hj)), hR.w10.keepM rfl (fun h j hj => upd_on (h j hj)), hR.w11.keepM rfl (fun h j hj => upd_on (h j hj)), hR.w12.keepM rfl (fun h j hj => upd_on (h j hj)), hR.f0.keep rfl, hR.f1.keep rfl, hR.f2.keep rfl, (fun _ => rfl), hR.f4.keep rfl, hR.f5.keep rfl, hR.f6.keep rfl, hR.f7.keep rfl, hR.f8.keep rfl, hR.f9.keep rfl, hR.f10.keep rfl, hR.f11.keep rfl⟩⟩
            refine EachOf.cons [2, 3] rfl (by kernel_rfl) ?_ ?_
            · rintro L A W ⟨v, rfl, hR⟩ hi hw K hK
              have hk : L 12 = false := hR.w12.not hi rfl
              have e2 := hR.f2 (hw 2 (by simp))
              have e3 := hR.f3 (hw 3 (by simp))
              simp only [e2, e3]
              clear e2 e3
              go_simp
              refine hK.out _ _ ?_
              exact ⟨(fun jz => if jz = 108 then .slice (some ⟨rg, ro, none⟩) (no) (rc) else if jz = 109 then .int .i64 (j : Int) else if jz = 110 then .pointer (some ⟨rg, ro + j, none⟩) else v jz), rfl, ⟨(fun h => hR.st (upd_false h)), hR.s1.keep rfl, (fun _ j hj => upd_on (hw j hj)), hR.w5.keepM rfl (fun h j hj => upd_on (h j hj)), hR.w8.keepM rfl (fun h j hj => upd_on (h j hj)), hR.w9.keepM rfl (fun h j hj => upd_on (h j hj)), hR.w10.keepM rfl (fun h j hj => upd_on (h j hj)), hR.w11.keepM rfl (fun h j hj => upd_on (h j hj)), hR.w12.keepM rfl (fun h j hj => upd_on (h j hj)), hR.f0.keep rfl, hR.f1.keep rfl, (fun _ => rfl), (fun _ => rfl), (fun _ => rfl), hR.f5.keep rfl, hR.f6.keep rfl, hR.f7.keep rfl, hR.f8.keep rfl, hR.f9.keep rfl, hR.f10.keep rfl, hR.f11.keep rfl⟩⟩
            refine EachOf.cons [4] rfl (by kernel_rfl) ?_ ?_
            · rintro L A W ⟨v, rfl, hR⟩ hi hw K hK
              have hk : L 12 = false := hR.w12.not hi rfl
              have e4 := hR.f4 (hw 4 (by simp))
              simp only [e4]
              clear e4
              have q0 := ((hR.st hk).cell (p := ⟨rg, ro + j, none⟩) LF.out.2).trans LF.out.1
              go_simp
              refine hK.out _ _ ?_
              exact ⟨(fun jz => if jz = 110 then .pointer (some ⟨rg, ro + j, none⟩) else if jz = 111 then .int .i64 fj else v jz), rfl, ⟨(fun h => hR.st (upd_false h)), hR.s1.keep rfl, hR.w4.keepM rfl (fun h j hj => upd_on (h j hj)), (fun _ j hj => upd_on (hw j hj)), hR.w8.keepM rfl (fun h j hj => upd_on (h j hj)), hR.w9.keepM rfl (fun h j hj => upd_on (h j hj)), hR.w10.keepM rfl (fun h j hj => upd_on (h j hj)), hR.w11.keepM rfl (fun h j hj => upd_on (h j hj)), hR.w12.keepM rfl (fun h j hj => upd_on (h j hj)), hR.f0.keep rfl, hR.f1.keep rfl, hR.f2.keep rfl, hR.f3.keep rfl, (fun _ => rfl), (fun _ => rfl), hR.f6.keep rfl, hR.f7.keep rfl, hR.f8.keep rfl, hR.f9.keep rfl, hR.f10.keep rfl, hR.f11.keep rfl⟩⟩
            refine EachOf.cons [] rfl (by kernel_rfl) ?_ ?_
            · rintro L A W ⟨v, rfl, hR⟩ hi hw K hK
              have hk : L 12 = false := hR.w12.not hi rfl
              go_simp
              refine hK.out _ _ ?_
              exact ⟨(fun jz => if jz = 112 then .slice (some ⟨og, oo, none⟩) (no) (oc) else v jz), rfl, ⟨(fun h => hR.st (upd_false h)), hR.s1.keep rfl, hR.w4.keepM rfl (fun h j hj => upd_on (h j hj)), hR.w5.keepM rfl (fun h j hj => upd_on (h j hj)), hR.w8.keepM rfl (fun h j hj => upd_on (h j hj)), hR.w9.keepM rfl (fun h j hj => upd_on (h j hj)), hR.w10.keepM rfl (fun h j hj => upd_on (h j hj)), hR.w11.keepM rfl (fun h j hj => upd_on (h j hj)), hR.w12.keepM rfl (fun h j hj => upd_on (h j hj)), hR.f0.keep rfl, hR.f1.keep rfl, hR.f2.keep rfl, hR.f3.keep rfl, hR.f4.keep rfl, hR.f5.keep rfl, (fun _ => rfl), hR.f7.keep rfl, hR.f8.keep rfl, hR.f9.keep rfl, hR.f10.keep rfl, hR.f11.keep rfl⟩⟩
            refine EachOf.cons [] rfl (by kernel_rfl) ?_ ?_
            · rintro L A W ⟨v, rfl, hR⟩ hi hw K hK
              have hk : L 12 = false := hR.w12.not hi rfl
              go_simp
              refine hK.out _ _ ?_
              exact ⟨(fun jz => if jz = 113 then .int .i64 (j : Int) else v jz), rfl, ⟨(fun h => hR.st (upd_false h)), hR.s1.keep rfl, hR.w4.keepM rfl (fun h j hj => upd_on (h j hj)), hR.w5.keepM rfl (fun h j hj => upd_on (h j hj)), hR.w8.keepM rfl (fun h j hj => upd_on (h j hj)), hR.w9.keepM rfl (fun h j hj => upd_on (h j hj)), hR.w10.keepM rfl (fun h j hj => upd_on (h j hj)), hR.w11.keepM rfl (fun h j hj => upd_on (h j hj)), hR.w12.keepM rfl (fun h j hj => upd_on (h j hj)), hR.f0.keep rfl, hR.f1.keep rfl, hR.f2.keep rfl, hR.f3.keep rfl, hR.f4.keep rfl, hR.f5.keep rfl, hR.f6.keep rfl, (fun _ => rfl), hR.f8.keep rfl, hR.f9.keep rfl, hR.f10.keep rfl, hR.f11.keep rfl⟩⟩
            refine EachOf.cons [6, 7] rfl (by kernel_rfl) ?_ ?_
            · rintro L A W ⟨v, rfl, hR⟩ hi hw K hK
              have hk : L 12 = false := hR.w12.not hi rfl
              have e6 := hR.f6 (hw 6 (by simp))
              have e7 := hR.f7 (hw 7 (by simp))
              simp only [e6, e7]
              clear e6 e7
              go_simp
              refine hK.out _ _ ?_
              exact ⟨(fun jz => if jz = 112 then .slice (some ⟨og, oo, none⟩) (no) (oc) else if jz = 113 then .int .i64 (j : Int) else if jz = 114 then .pointer (some ⟨og, oo + j, none⟩) else v jz), rfl, ⟨(fun h => hR.st (upd_false h)), hR.s1.keep rfl, hR.w4.keepM rfl (fun h j hj => upd_on (h j hj)), hR.w5.keepM rfl (fun h j hj => upd_on (h j hj)), (fun _ j hj => upd_on (hw j hj)), hR.w9.keepM rfl (fun h j hj => upd_on (h j hj)), hR.w10.keepM rfl (fun h j hj => upd_on (h j hj)), hR.w11.keepM rfl (fun h j hj => upd_on (h j hj)), hR.w12.keepM rfl (fun h j hj => upd_on (h j hj)), hR.f0.keep rfl, hR.f1.keep rfl, hR.f2.keep rfl, hR.f3.keep rfl, hR.f4.keep rfl, hR.f5.keep rfl, (fun _ => rfl), (fun _ => rfl), (fun _ => rfl), hR.f9.keep rfl, hR.f10.keep rfl, hR.f11.keep rfl⟩⟩
            refine EachOf.cons [8] rfl (by kernel_rfl) ?_ ?_
            · rintro L A W ⟨v, rfl, hR⟩ hi hw K hK
              have hk : L 12 = false := hR.w12.not hi rfl
              have e8 := hR.f8 (hw 8 (by simp))
              simp only [e8]
              clear e8
              have q0 := ((hR.st hk).cell (p := ⟨og, oo + j, none⟩) LG.out.2).trans LG.out.1
              go_simp
              refine hK.out _ _ ?_
              exact ⟨(fun jz => if jz = 114 then .pointer (some ⟨og, oo + j, none⟩) else if jz = 115 then .int .i64 gj else v jz), rfl, ⟨(fun h => hR.st (upd_false h)), hR.s1.keep rfl, hR.w4.keepM rfl (fun h j hj => upd_on (h j hj)), hR.w5.keepM rfl (fun h j hj => upd_on (h j hj)), hR.w8.keepM rfl (fun h j hj => upd_on (h j hj)), (fun _ j hj => upd_on (hw j hj)), hR.w10.keepM rfl (fun h j hj => upd_on (h j hj)), hR.w11.keepM rfl (fun h j hj => upd_on (h j hj)), hR.w12.keepM rfl (fun h j hj => upd_on (h j hj)), hR.f0.keep rfl, hR.f1.keep rfl, hR.f2.keep rfl, hR.f3.keep rfl, hR.f4.keep rfl, hR.f5.keep rfl, hR.f6.keep rfl, hR.f7.keep rfl, (fun _ => rfl), (fun _ => rfl), hR.f10.keep rfl, hR.f11.keep rfl⟩⟩
            refine EachOf.cons [5, 9] rfl (by kernel_rfl) ?_ ?_
            · rintro L A W ⟨v, rfl, hR⟩ hi hw K hK
              have hk : L 12 = false := hR.w12.not hi rfl
              have e5 := hR.f5 (hw 5 (by simp))
              have e9 := hR.f9 (hw 9 (by simp))
              simp only [e5, e9]
              clear e5 e9
              go_simp
              refine hK.out _ _ ?_
              exact ⟨(fun jz => if jz = 111 then .int .i64 fj else if jz = 115 then .int .i64 gj else if jz = 116 then .int .i64 s else v jz), rfl, ⟨(fun h => hR.st (upd_false h)), hR.s1.keep rfl, hR.w4.keepM rfl (fun h j hj => upd_on (h j hj)), hR.w5.keepM rfl (fun h j hj => upd_on (h j hj)), hR.w8.keepM rfl (fun h j hj => upd_on (h j hj)), hR.w9.keepM rfl (fun h j hj => upd_on (h j hj)), (fun _ j hj => upd_on (hw j hj)), hR.w11.keepM rfl (fun h j hj => upd_on (h j hj)), hR.w12.keepM rfl (fun h j hj => upd_on (h j hj)), hR.f0.keep rfl, hR.f1.keep rfl, hR.f2.keep rfl, hR.f3.keep rfl, hR.f4.keep rfl, (fun _ => rfl), hR.f6.keep rfl, hR.f7.keep rfl, hR.f8.keep rfl, (fun _ => rfl), (fun _ => rfl), hR.f11.keep rfl⟩⟩
            refine EachOf.cons [0, 1] rfl (by kernel_rfl) ?_ ?_
            · rintro L A W ⟨v, rfl, hR⟩ hi hw K hK
              have hk : L 12 = false := hR.w12.not hi rfl
              have e0 := hR.f0 (hw 0 (by simp))
              have e1 := hR.f1 (hw 1 (by simp))
              simp only [e0, e1]
              clear e0 e1
              go_simp
              refine hK.out _ _ ?_
              exact ⟨(fun jz => if jz = 106 then .slice (some ⟨sb, 0, none⟩) (no) (no) else if jz = 107 then .int .i64 (j : Int) else if jz = 117 then .pointer (some ⟨sb, j, none⟩) else v jz), rfl, ⟨(fun h => hR.st (upd_false h)), hR.s1.keep rfl, hR.w4.keepM rfl (fun h j hj => upd_on (h j hj)), hR.w5.keepM rfl (fun h j hj => upd_on (h j hj)), hR.w8.keepM rfl (fun h j hj => upd_on (h j hj)), hR.w9.keepM rfl (fun h j hj => upd_on (h j hj)), hR.w10.keepM rfl (fun h j hj => upd_on (h j hj)), (fun _ j hj => upd_on (hw j hj)), hR.w12.keepM rfl (fun h j hj => upd_on (h j hj)), (fun _ => rfl), (fun _ => rfl), hR.f2.keep rfl, hR.f3.keep rfl, hR.f4.keep rfl, hR.f5.keep rfl, hR.f6.keep rfl, hR.f7.keep rfl, hR.f8.keep rfl, hR.f9.keep rfl, hR.f10.keep rfl, (fun _ => rfl)⟩⟩
            refine EachOf.cons [0, 1, 2, 3, 4, 5, 6, 7, 8, 9, 10, 11] rfl (by kernel_rfl) ?_ ?_
            · rintro L A W ⟨v, rfl, hR⟩ hi hw K hK
              have e11 := hR.f11 (hw 11 (by simp))
              have e10 := hR.f10 (hw 10 (by simp))
              simp only [e11, e10]
              clear e11 e10
              have q1 := (hR.st hi).cell (p := ⟨sb, j, none⟩) LS.out.2
              rw [LS.out.1] at q1
              have q2 := (hR.st hi).frozen (p := ⟨sb, j, none⟩) LS.out.2
              rw [LSF.out] at q2
              go_simp
              refine hK.out _ _ ?_
              exact ⟨(fun jz => if jz = 117 then .pointer (some ⟨sb, j, none⟩) else if jz = 116 then .int .i64 s else v jz), rfl, ⟨(fun h => by simp [upd_self] at h), (fun _ => ⟨W, hR.st hi, rfl⟩), hR.w4.keepM rfl (fun h j hj => upd_on (h j hj)), hR.w5.keepM rfl (fun h j hj => upd_on (h j hj)), hR.w8.keepM rfl (fun h j hj => upd_on (h j hj)), hR.w9.keepM rfl (fun h j hj => upd_on (h j hj)), hR.w10.keepM rfl (fun h j hj => upd_on (h j hj)), hR.w11.keepM rfl (fun h j hj => upd_on (h j hj)), (fun _ j hj => upd_on (hw j hj)), hR.f0.keep rfl, hR.f1.keep rfl, hR.f2.keep rfl, hR.f3.keep rfl, hR.f4.keep rfl, hR.f5.keep rfl, hR.f6.keep rfl, hR.f7.keep rfl, hR.f8.keep rfl, hR.f9.keep rfl, (fun _ => rfl), (fun _ => rfl)⟩⟩
            exact EachOf.nil
        rintro L A W ⟨v, rfl, hR⟩ hL
        obtain ⟨W4, hb4, hW⟩ := hR.s1 (hL 12 (by simp))
        have T1 := (S.out.1.1.on hb4).set (f2 := fun l => if l < j + 1 then f l + g l else 0) j s hlt (by show (if j < j + 1 then f j + g j else 0) = s; rw [if_pos (by omega), HFJ.out.1, HFJ.out.2]; exact HSS.out) (fun l hl hne => by
          show (if l < j + 1 then f l + g l else 0) = if l < j then f l + g l else 0
          by_cases q : l < j
          · rw [if_pos q, if_pos (by omega)]
          · rw [if_neg q, if_neg (by omega)])
        rw [← hW] at T1
        have T2 : Below w5.heap.size w5 W := by
          rw [hW]
          exact (below_on S.out.1.2 hb4).setCell (by show w5.heap.size ≤ sb; rw [HSB.out]; exact Nat.le_refl _) _
        have T : Hid ((NRow sb no W sb no (fun l => if l < j + 1 then f l + g l else 0) ∧ Below w5.heap.size w5 W) ∧ (rngF (j + 1) f ∧ rngF (j + 1) g)) := ⟨⟨T1, T2⟩, HRG.out⟩
        clear T1 T2 hW hb4 W4 hR hL LF LG LS LSF HRG S HBW HFJ HSS ws
        go_wp2_with fail
        go_roundg (no - (j + 1))
        case measure => omega
        case rel => exact ⟨j + 1, rfl, rfl, by omega, T⟩
      · have e : j = no := by omega
        subst e
        have HS := Lib.hid (S.out.1.1.cong (f2 := fun l => f l + g l) fun l hl => (if_pos hl).symm)
        have HRF := Lib.hid S.out.2
        have HK1 := Lib.hid S.out.1.2
        have CZ := Lib.hid (Solve_S (some ⟨mb, mo, none⟩) j mc Ra Ln Ka Z (some ⟨sb, 0, none⟩) j (fun l => f l + g l) W1 n HN.out (HM.out.on HBW.out) HV.out HS.out.irow (Nat.le_refl _) (by omega))
        clear S
        have HX1 := Lib.hid (HX5.out.on HK1.out)
        have HY1 := Lib.hid (HY5.out.on HK1.out)
        clear HY5 HX5
        go_upto_region 16 with ((with_reducible refine ((CZ.out).mono ?_)); rintro e w7 ⟨hb7, va, vn, vc, er, rfl, hZ⟩)
        have HB7 := Lib.hid (below_on HBW.out hb7)
        have HZ7 := Lib.hid hZ
        have HX7 := Lib.hid (HX1.out.on hb7)
        have HY7 := Lib.hid (HY1.out.on hb7)
        clear CZ hb7 hZ HBW HS HK1 HX1 HY1
        obtain ⟨q, hq⟩ : ∃ q, (decide (ee = 0) && decide (ge = 0)) = q := ⟨_, rfl⟩
        have HQ := Lib.hid hq
        go_cut [130] (fun s130 wx => s130 = .bool q ∧ wx = w7)
        case first =>
          by_cases hee : ee = 0
          case neg =>
            have hb : (ee == 0) = false := by simpa using hee
            have eq1 : q = false := by rw [← hq, decide_eq_false hee]; rfl
            subst eq1
            clear hq hee HQ
            go_wp2_with fail
            go_meet
            exact ⟨rfl, rfl⟩
          by_cases hge : ge = 0
          case neg =>
            have hb : (ge == 0) = false := by simpa using hge
            have eq1 : q = false := by rw [← hq, decide_eq_false hge, Bool.and_false]
            subst eq1
            clear hq hge HQ
            subst hee
            go_wp2_with fail
            go_meet
            exact ⟨rfl, rfl⟩
          have eq1 : q = true := by rw [← hq, decide_eq_true hee, decide_eq_true hge]; rfl
          subst eq1
          clear hq HQ
          subst hee
          subst hge
          go_wp2_with fail
          go_meet
          exact ⟨rfl, rfl⟩
        case rest =>
          clear hq
          obtain ⟨rfl, rfl⟩ := hcut
          rename World => w7
          cases q
          case false =>
            have HB8 := Lib.hid HB7.out
            have HX8 := Lib.hid HX7.out
            clear HB7 HX7 HY7 HZ7 HQ
            as_aux_lemma =>
              obtain ⟨a, ha⟩ : ∃ a : Nat, (a : Int) = y1 % (j : Int) := ⟨(y1 % (j : Int)).toNat, Int.toNat_of_nonneg (Int.emod_nonneg _ (by omega))⟩
              obtain ⟨b, hb⟩ : ∃ b : Nat, (b : Int) = y2 % (j : Int) := ⟨(y2 % (j : Int)).toNat, Int.toNat_of_nonneg (Int.emod_nonneg _ (by omega))⟩
              have la : a < j := by have := Int.emod_lt_of_pos y1 (show (0 : Int) < j by omega); omega
              have lb : b < j := by have := Int.emod_lt_of_pos y2 (show (0 : Int) < j by omega); omega
              have ta : y1.tmod (j : Int) = (a : Int) := by rw [Int.tmod_eq_emod_of_nonneg y10, ha]
              have tb2 : y2.tmod (j : Int) = (b : Int) := by rw [Int.tmod_eq_emod_of_nonneg y20, hb]
              have wa : IntKind.i64.wrap y1 = y1 := IntWalk.i64_in _ (by omega)
              have wb : IntKind.i64.wrap y2 = y2 := IntWalk.i64_in _ (by omega)
              have wa2 : IntKind.i64.wrap (a : Int) = (a : Int) := IntWalk.i64_in _ (by omega)
              have wb2 : IntKind.i64.wrap (b : Int) = (b : Int) := IntWalk.i64_in _ (by omega)
              have hRz : ¬ ((j : Int) = 0) := by omega
              clear ha hb
              go_upto_region 26 with fail
              go_quiet (fail)
              have HB9 := Lib.hid (below_drewN' HB8.out nq)
              have HX9 := Lib.hid (HX8.out.on (below_drewN' (Below.refl _ _) nq))
              clear ta tb2 wa wb wa2 wb2 hRz HB8 HX8
              generalize w7.drewN nq = W2 at *
              by_cases hab : a = b
              · subst hab
                go_wp2_with fail
                go_ret
                exact ⟨rfl, HB9.out⟩
              have habi : ¬ ((a : Int) = (b : Int)) := by omega
              have HAB := Lib.hid hab
              have CC := Lib.hid (refCopy_any mb mo mc j n 0 0 n (fun i => adB (Ra i)) (fun i => adO (Ra i)) Ka Z Z none (fun _ => 0) W2 (HMT.out.on HB9.out) hR0 (by omega) hn0 (by omega) (fun h => by omega) (.inl ⟨rfl, rfl, rfl⟩))
              clear hab
              go_wp2_with fail
              (with_reducible refine ((CC.out).mono ?_))
              rintro e W4 ⟨xb, Cb, G, C, rfl, hCb, hb4, hG⟩
              have HK4 := Lib.hid hb4
              have HG4 := Lib.hid hG
              have HX10 := Lib.hid HX9.out
              clear CC hb4 hG habi
              have p0 := HG4.out.top a la
              go_wp2_with fail
              clear p0
              have S0 : Hid (Grid W2.heap.size W4 xb j n G C (addF a b 0 Z) ∧ Below W2.heap.size W2 W4) := ⟨HG4.out.congr fun i k hi hk => by unfold addF; rw [if_neg (by omega)], HK4.out⟩
              clear HK4 HG4
              go_loopg [196] n (fun g' s196 wx => ∃ l : Nat, s196 = .int .i64 l ∧ g' = n - l ∧ l ≤ n ∧ Hid (Grid W2.heap.size wx xb j n G C (addF a b l Z) ∧ Below W2.heap.size W2 wx))
              case atStart => exact ⟨0, rfl, rfl, Nat.zero_le _, S0⟩
              case round =>
                clear S0
                obtain ⟨l, rfl, rfl, hl, T⟩ := hrel
                rename World => W1
                by_cases hltl : l < n
                · have wl : IntKind.i64.wrap ((l : Int) + 1) = ((l + 1 : Nat) : Int) := by rw [IntWalk.i64_in _ (by omega)]; omega
                  have za := HZB.out a l la hltl
                  have zb := HZB.out b l lb hltl
                  have LA : Hid (W1.cell? ⟨xb, a, none⟩ = some (.slice (some ⟨G a, 0, none⟩) n (C a)) ∧ xb < W1.heap.size) := ⟨T.out.1.top a la, T.out.1.hb⟩
                  have LB : Hid (W1.cell? ⟨xb, b, none⟩ = some (.slice (some ⟨G b, 0, none⟩) n (C b)) ∧ xb < W1.heap.size) := ⟨T.out.1.top b lb, T.out.1.hb⟩
                  have LC : Hid (W1.cell? ⟨G a, l, none⟩ = some (.int .i64 (Z a l)) ∧ G a < W1.heap.size) := ⟨by rw [T.out.1.cell a l la hltl]; unfold addF; rw [if_neg (by omega)], (T.out.1.row a la).2.1⟩
                  have LD : Hid (W1.cell? ⟨G b, l, none⟩ = some (.int .i64 (Z b l)) ∧ G b < W1.heap.size) := ⟨by rw [T.out.1.cell b l lb hltl]; unfold addF; rw [if_neg (fun h => HAB.out h.1.symm)], (T.out.1.row b lb).2.1⟩
                  have LCF : Hid (W1.frozen? ⟨G a, l, none⟩ = false) := T.out.1.fz a l la hltl
                  obtain ⟨va2, hva⟩ : ∃ x, Z a l = x := ⟨_, rfl⟩
                  obtain ⟨vb2, hvb⟩ : ∃ x, Z b l = x := ⟨_, rfl⟩
                  rw [hva] at za LC
                  rw [hvb] at zb LD
                  obtain ⟨s, hs⟩ : ∃ s, va2 + vb2 = s := ⟨_, rfl⟩
                  have ws : IntKind.i64.wrap (va2 + vb2) = s := by rw [IntWalk.i64_in _ (by omega), hs]
                  have HSS : Hid (Z a l + Z b l = s) := by show Z a l + Z b l = s; rw [hva, hvb]; exact hs
                  clear hva hvb hs za zb
                  go_upto_region 33 with fail
                  refine wp_region_each (fun L A W => ∃ (v : Nat → Value), A = ⟨#[_, _, _, _, _, _, _, _, _, _, _, _, _, _, _, _, _, _, _, _, _, _, _, _, _, _, _, _, _, _, _, _, _, _, _, _, _, _, _, _, _, _, _, _, _, _, _, _, _, _, _, _, _, _, _, _, _, _, _, _, _, _, _, _, _, _, _, _, _, _, _, _, _, _, _, _, _, _, _, _, _, _, _, _, _, _, _, _, _, _, _, _, _, _, _, _, _, _, _, _, _, _, _, _, _, _, _, _, _, _, _, _, _, _, _, _, _, _, _, _, _, _, _, _, _, _, _, _, _, _, _, _, _, _, _, _, _, _, _, _, _, _, _, _, _, _, _, _, _, _, _, _, _, _, _, _, _, _, _, _, _, _, _, _, _, _, _, _, _, _, _, _, _, _, _, _, _, _, _, _, _, _, _, _, _, _, _, _, _, _, _, _, _, _, _, _, _, _, _, v 199, v 200, v 201, v 202, v 203, v 204, v 205, v 206, v 207, v 208, v 209, v 210, v 211, v 212, v 213, v 214, _, _, _, _, _, _, _, _, _, _, _, _, _, _, _, _, _, _, _, _, _, _, _, _, _, _, _, _, _, _, _, _, _, _, _, _, _, _, _, _, _, _, _, _, _, _, _, _, _, _, _, _], []⟩ ∧ AdCR xb j n Cb a b l G C va2 vb2 s W1 L v W) (by kernel_rfl) (by kernel_rfl) ⟨fun jz => if jz = 199 then u199 else if jz = 200 then u200 else if jz = 201 then u201 else if jz = 202 then u202 else if jz = 203 then u203 else if jz = 204 then u204 else if jz = 205 then u205 else if jz = 206 then u206 else if jz = 207 then u207 else if jz = 208 then u208 else if jz = 209 then u209 else if jz = 210 then u210 else if jz = 211 then u211 else if jz = 212 then u212 else if jz = 213 then u213 else if jz = 214 then u214 else undef, rfl, ⟨(fun _ => Below.drew (Below.refl _ _)), Had.none, Had.none, Had.none, Had.none, Had.none, Had.none, Had.none, Had.none, Had.none, Had.none, Had.none, Had.none, Had.none, Had.none, Had.none, Had.none, Had.none, Had.none, Had.none, Had.none, Had.none, Had.none, Had.none, Had.none, Had.none, Had.none, Had.none, Had.none⟩⟩ (rs := [0, 1, 2, 3, 4, 5, 6, 7, 8, 9, 10, 11, 12, 13, 14, 15, 16]) (by kernel_rfl) ?_ ?_
                  · as_aux_lemma =>
                      refine EachOf.cons [] rfl (by kernel_rfl) ?_ ?_
                      · rintro L A W ⟨v, rfl, hR⟩ hi hw K hK
                        have hk : L 16 = false := hR.w16.not hi rfl
                        go_simp
                        refine hK.out _ _ ?_
                        exact ⟨(fun jz => if jz = 199 then .slice (some ⟨xb, 0, none⟩) (j) (Cb) else v jz), rfl, ⟨(fun h => hR.st (upd_false h)), hR.s1.keep rfl, hR.w2.keepM rfl (fun h j hj => upd_on (h j hj)), hR.w3.keepM rfl (fun h j hj => upd_on (h j hj)), hR.w5.keepM rfl (fun h j hj => upd_on (h j hj)), hR.w6.keepM rfl (fun h j hj => upd_on (h j hj)), hR.w9.keepM rfl (fun h j hj => upd_on (h j hj)), hR.w10.keepM rfl (fun h j hj => upd_on (h j hj)), hR.w12.keepM rfl (fun h j hj => upd_on (h j hj)), hR.w13.keepM rfl (fun h j hj => upd_on (h j hj)), hR.w14.keepM rfl (fun h j hj => upd_on (h j hj)), hR.w15.keepM rfl (fun h j hj => upd_on (h j hj)), hR.w16.keepM rfl (fun h j hj => upd_on (h j hj)), (fun _ => rfl), hR.f1.keep rfl, hR.f2.keep rfl, hR.f3.keep rfl, hR.f4.keep rfl, hR.f5.keep rfl, hR.f6.keep rfl, hR.f7.keep rfl, hR.f8.keep rfl, hR.f9.keep rfl, hR.f10.keep rfl, hR.f11.keep rfl, hR.f12.keep rfl, hR.f13.keep rfl, hR.f14.keep rfl, hR.f15.keep rfl⟩⟩
                      refine EachOf.cons [] rfl (by kernel_rfl) ?_ ?_
                      · rintro L A W ⟨v, rfl, hR⟩ hi hw K hK
                        have hk : L 16 = false := hR.w16.not hi rfl
                        go_simp
                        refine hK.out _ _ ?_
                        exact ⟨(fun jz => if jz = 200 then .int .i64 (a : Int) else v jz), rfl, ⟨(fun h => hR.st (upd_false h)), hR.s1.keep rfl, hR.w2.keepM rfl (fun h j hj => upd_on (h j hj)), hR.w3.keepM rfl (fun h j hj => upd_on (h j hj)), hR.w5.keepM rfl (fun h j hj => upd_on (h j hj)), hR.w6.keepM rfl (fun h j hj => upd_on (h j hj)), hR.w9.keepM rfl (fun h j hj => upd_on (h j hj)), hR.w10.keepM rfl (fun h j hj => upd_on (h j hj)), hR.w12.keepM rfl (fun h j hj => upd_on (h j hj)), hR.w13.keepM rfl (fun h j hj => upd_on (h j hj)), hR.w14.keepM rfl (fun h j hj => upd_on (h j hj)), hR.w15.keepM rfl (fun h j hj => upd_on (h j hj)), hR.w16.keepM rfl (fun h j hj => upd_on (h j hj)), hR.f0.keep rfl, (fun _ => rfl), hR.f2.keep rfl, hR.f3.keep rfl, hR.f4.keep rfl, hR.f5.keep rfl, hR.f6.keep rfl, hR.f7.keep rfl, hR.f8.keep rfl, hR.f9.keep rfl, hR.f10.keep rfl, hR.f11.keep rfl, hR.f12.keep rfl, hR.f13.keep rfl, hR.f14.keep rfl, hR.f15.keep rfl⟩⟩
                      refine EachOf.cons [0, 1] rfl (by kernel_rfl) ?_ ?_
                      · rintro L A W ⟨v, rfl, hR⟩ hi hw K hK
                        have hk : L 16 = false := hR.w16.not hi rfl
                        have e0 := hR.f0 (hw 0 (by simp))
                        have e1 := hR.f1 (hw 1 (by simp))
                        simp only [e0, e1]
                        clear e0 e1
                        go_simp
                        refine hK.out _ _ ?_
                        exact ⟨(fun jz => if jz = 199 then .slice (some ⟨xb, 0, none⟩) (j) (Cb) else if jz = 200 then .int .i64 (a : Int) else if jz = 201 then .pointer (some ⟨xb, a, none⟩) else v jz), rfl, ⟨(fun h => hR.st (upd_false h)), hR.s1.keep rfl, (fun _ j hj => upd_on (hw j hj)), hR.w3.keepM rfl (fun h j hj => upd_on (h j hj)), hR.w5.keepM rfl (fun h j hj => upd_on (h j hj)), hR.w6.keepM rfl (fun h j hj => upd_on (h j hj)), hR.w9.keepM rfl (fun h j hj => upd_on (h j hj)), hR.w10.keepM rfl (fun h j hj => upd_on (h j hj)), hR.w12.keepM rfl (fun h j hj => upd_on (h j hj)), hR.w13.keepM rfl (fun h j hj => upd_on (h j hj)), hR.w14.keepM rfl (fun h j hj => upd_on (h j hj)), hR.w15.keepM rfl (fun h j hj => upd_on (h j hj)), hR.w16.keepM rfl (fun h j hj => upd_on (h j hj)), (fun _ => rfl), (fun _ => rfl), (fun _ => rfl), hR.f3.keep rfl, hR.f4.keep rfl, hR.f5.keep rfl, hR.f6.keep rfl, hR.f7.keep rfl, hR.f8.keep rfl, hR.f9.keep rfl, hR.f10.keep rfl, hR.f11.keep rfl, hR.f12.keep rfl, hR.f13.keep rfl, hR.f14.keep rfl, hR.f15.keep rfl⟩⟩
                      refine EachOf.cons [2] rfl (by kernel_rfl) ?_ ?_
                      · rintro L A W ⟨v, rfl, hR⟩ hi hw K hK
                        have hk : L 16 = false := hR.w16.not hi rfl
                        have e2 := hR.f2 (hw 2 (by simp))
                        simp only [e2]
                        clear e2
                        have q0 := ((hR.st hk).cell (p := ⟨xb, a, none⟩) LA.out.2).trans LA.out.1
                        go_simp
                        refine hK.out _ _ ?_
                        exact ⟨(fun jz => if jz = 201 then .pointer (some ⟨xb, a, none⟩) else if jz = 202 then .slice (some ⟨G a, 0, none⟩) (n) (C a) else v jz), rfl, ⟨(fun h => hR.st (upd_false h)), hR.s1.keep rfl, hR.w2.keepM rfl (fun h j hj => upd_on (h j hj)), (fun _ j hj => upd_on (hw j hj)), hR.w5.keepM rfl (fun h j hj => upd_on (h j hj)), hR.w6.keepM rfl (fun h j hj => upd_on (h j hj)), hR.w9.keepM rfl (fun h j hj => upd_on (h j hj)), hR.w10.keepM rfl (fun h j hj => upd_on (h j hj)), hR.w12.keepM rfl (fun h j hj => upd_on (h j hj)), hR.w13.keepM rfl (fun h j hj => upd_on (h j hj)), hR.w14.keepM rfl (fun h j hj => upd_on (h j hj)), hR.w15.keepM rfl (fun h j hj => upd_on (h j hj)), hR.w16.keepM rfl (fun h j hj => upd_on (h j hj)), hR.f0.keep rfl, hR.f1.keep rfl, (fun _ => rfl), (fun _ => rfl), hR.f4.keep rfl, hR.f5.keep rfl, hR.f6.keep rfl, hR.f7.keep rfl, hR.f8.keep rfl, hR.f9.keep rfl, hR.f10.keep rfl, hR.f11.keep rfl, hR.f12.keep rfl, hR.f13.keep rfl, hR.f14.keep rfl, hR.f15.keep rfl⟩⟩
                      refine EachOf.cons [] rfl (by kernel_rfl) ?_ ?_
                      · rintro L A W ⟨v, rfl, hR⟩ hi hw K hK
                        have hk : L 16 = false := hR.w16.not hi rfl
                        go_simp
                        refine hK.out _ _ ?_
                        exact ⟨(fun jz => if jz = 203 then .int .i64 (l : Int) else v jz), rfl, ⟨(fun h => hR.st (upd_false h)), hR.s1.keep rfl, hR.w2.keepM rfl (fun h j hj => upd_on (h j hj)), hR.w3.keepM rfl (fun h j hj => upd_on (h j hj)), hR.w5.keepM rfl (fun h j hj => upd_on (h j hj)), hR.w6.keepM rfl (fun h j hj => upd_on (h j hj)), hR.w9.keepM rfl (fun h j hj => upd_on (h j hj)), hR.w10.keepM rfl (fun h j hj => upd_on (h j hj)), hR.w12.keepM rfl (fun h j hj => upd_on (h j hj)), hR.w13.keepM rfl (fun h j hj => upd_on (h j hj)), hR.w14.keepM rfl (fun h j hj => upd_on (h j hj)), hR.w15.keepM rfl (fun h j hj => upd_on (h j hj)), hR.w16.keepM rfl (fun h j hj => upd_on (h j hj)), hR.f0.keep rfl, hR.f1.keep rfl, hR.f2.keep rfl, hR.f3.keep rfl, (fun _ => rfl), hR.f5.keep rfl, hR.f6.keep rfl, hR.f7.keep rfl, hR.f8.keep rfl, hR.f9.keep rfl, hR.f10.keep rfl, hR.f11.keep rfl, hR.f12.keep rfl, hR.f13.keep rfl, hR.f14.keep rfl, hR.f15.keep rfl⟩⟩
                      refine EachOf.cons [3, 4] rfl (by kernel_rfl) ?_ ?_
                      · rintro L A W ⟨v, rfl, hR⟩ hi hw K hK
                        have hk : L 16 = false := hR.w16.not hi rfl
                        have e3 := hR.f3 (hw 3 (by simp))
                        have e4 := hR.f4 (hw 4 (by simp))
                        simp only [e3, e4]
                        clear e3 e4
                        go_simp
                        refine hK.out _ _ ?_
                        exact ⟨(fun jz => if jz = 202 then .slice (some ⟨G a, 0, none⟩) (n) (C a) else if jz = 203 then .int .i64 (l : Int) else if jz = 204 then .pointer (some ⟨G a, l, none⟩) else v jz), rfl, ⟨(fun h => hR.st (upd_false h)), hR.s1.keep rfl, hR.w2.keepM rfl (fun h j hj => upd_on (h j hj)), hR.w3.keepM rfl (fun h j hj => upd_on (h j hj)), (fun _ j hj => upd_on (hw j hj)), hR.w6.keepM rfl (fun h j hj => upd_on (h j hj)), hR.w9.keepM rfl (fun h j hj => upd_on (h j hj)), hR.w10.keepM rfl (fun h j hj => upd_on (h j hj)), hR.w12.keepM rfl (fun h j hj => upd_on (h j hj)), hR.w13.keepM rfl (fun h j hj => upd_on (h j hj)), hR.w14.keepM rfl (fun h j hj => upd_on (h j hj)), hR.w15.keepM rfl (fun h j hj => upd_on (h j hj)), hR.w16.keepM rfl (fun h j hj => upd_on (h j hj)), hR.f0.keep rfl, hR.f1.keep rfl, hR.f2.keep rfl, (fun _ => rfl), (fun _ => rfl), (fun _ => rfl), hR.f6.keep rfl, hR.f7.keep rfl, hR.f8.keep rfl, hR.f9.keep rfl, hR.f10.keep rfl, hR.f11.keep rfl, hR.f12.keep rfl, hR.f13.keep rfl, hR.f14.keep rfl, hR.f15.keep rfl⟩⟩
                      refine EachOf.cons [5] rfl (by kernel_rfl) ?_ ?_
                      · rintro L A W ⟨v, rfl, hR⟩ hi hw K hK
                        have hk : L 16 = false := hR.w16.not hi rfl
                        have e5 := hR.f5 (hw 5 (by simp))
                        simp only [e5]
                        clear e5
                        have q0 := ((hR.st hk).cell (p := ⟨G a, l, none⟩) LC.out.2).trans LC.out.1
                        go_simp
                        refine hK.out _ _ ?_
                        exact ⟨(fun jz => if jz = 204 then .pointer (some ⟨G a, l, none⟩) else if jz = 205 then .int .i64 va2 else v jz), rfl, ⟨(fun h => hR.st (upd_false h)), hR.s1.keep rfl, hR.w2.keepM rfl (fun h j hj => upd_on (h j hj)), hR.w3.keepM rfl (fun h j hj => upd_on (h j hj)), hR.w5.keepM rfl (fun h j hj => upd_on (h j hj)), (fun _ j hj => upd_on (hw j hj)), hR.w9.keepM rfl (fun h j hj => upd_on (h j hj)), hR.w10.keepM rfl (fun h j hj => upd_on (h j hj)), hR.w12.keepM rfl (fun h j hj => upd_on (h j hj)), hR.w13.keepM rfl (fun h j hj => upd_on (h j hj)), hR.w14.keepM rfl (fun h j hj => upd_on (h j hj)), hR.w15.keepM rfl (fun h j hj => upd_on (h j hj)), hR.w16.keepM rfl (fun h j hj => upd_on (h j hj)), hR.f0.keep rfl, hR.f1.keep rfl, hR.f2.keep rfl, hR.f3.keep rfl, hR.f4.keep rfl, (fun _ => rfl), (fun _ => rfl), hR.f7.keep rfl, hR.f8.keep rfl, hR.f9.keep rfl, hR.f10.keep rfl, hR.f11.keep rfl, hR.f12.keep rfl, hR.f13.keep rfl, hR.f14.keep rfl, hR.f15.keep rfl⟩⟩
                      refine EachOf.cons [] rfl (by kernel_rfl) ?_ ?_
                      · rintro L A W ⟨v, rfl, hR⟩ hi hw K hK
                        have hk : L 16 = false := hR.w16.not hi rfl
                        go_simp
                        refine hK.out _ _ ?_
                        exact ⟨(fun jz => if jz = 206 then .slice (some ⟨xb, 0, none⟩) (j) (Cb) else v jz), rfl, ⟨(fun h => hR.st (upd_false h)), hR.s1.keep rfl, hR.w2.keepM rfl (fun h j hj => upd_on (h j hj)), hR.w3.keepM rfl (fun h j hj => upd_on (h j hj)), hR.w5.keepM rfl (fun h j hj => upd_on (h j hj)), hR.w6.keepM rfl (fun h j hj => upd_on (h j hj)), hR.w9.keepM rfl (fun h j hj => upd_on (h j hj)), hR.w10.keepM rfl (fun h j hj => upd_on (h j hj)), hR.w12.keepM rfl (fun h j hj => upd_on (h j hj)), hR.w13.keepM rfl (fun h j hj => upd_on (h j hj)), hR.w14.keepM rfl (fun h j hj => upd_on (h j hj)), hR.w15.keepM rfl (fun h j hj => upd_on (h j hj)), hR.w16.keepM rfl (fun h j hj => upd_on (h j hj)), hR.f0.keep rfl, hR.f1.keep rfl, hR.f2.keep rfl, hR.f3.keep rfl, hR.f4.keep rfl, hR.f5.keep rfl, hR.f6.keep rfl, (fun _ => rfl), hR.f8.keep rfl, hR.f9.keep rfl, hR.f10.keep rfl, hR.f11.keep rfl, hR.f12.keep rfl, hR.f13.keep rfl, hR.f14.keep rfl, hR.f15.keep rfl⟩⟩
                      refine EachOf.cons [] rfl (by kernel_rfl) ?_ ?_
                      · rintro L A W ⟨v, rfl, hR⟩ hi hw K hK
                        have hk : L 16 = false := hR.w16.not hi rfl
                        go_simp
                        refine hK.out _ _ ?_
                        exact ⟨(fun jz => if jz = 207 then .int .i64 (b : Int) else v jz), rfl, ⟨(fun h => hR.st (upd_false h)), hR.s1.keep rfl, hR.w2.keepM rfl (fun h j hj => upd_on (h j hj)), hR.w3.keepM rfl (fun h j hj => upd_on (h j hj)), hR.w5.keepM rfl (fun h j hj => upd_on (h j hj)), hR.w6.keepM rfl (fun h j hj => upd_on (h j hj)), hR.w9.keepM rfl (fun h j hj => upd_on (h j hj)), hR.w10.keepM rfl (fun h j hj => upd_on (h j hj)), hR.w12.keepM rfl (fun h j hj => upd_on (h j hj)), hR.w13.keepM rfl (fun h j hj => upd_on (h j hj)), hR.w14.keepM rfl (fun h j hj => upd_on (h j hj)), hR.w15.keepM rfl (fun h j hj => upd_on (h j hj)), hR.w16.keepM rfl (fun h j hj => upd_on (h j hj)), hR.f0.keep rfl, hR.f1.keep rfl, hR.f2.keep rfl, hR.f3.keep rfl, hR.f4.keep rfl, hR.f5.keep rfl, hR.f6.keep rfl, hR.f7.keep rfl, (fun _ => rfl), hR.f9.keep rfl, hR.f10.keep rfl, hR.f11.keep rfl, hR.f12.keep rfl, hR.f13.keep rfl, hR.f14.keep rfl, hR.f15.keep rfl⟩⟩
                      refine EachOf.cons [7, 8] rfl (by kernel_rfl) ?_ ?_
                      · rintro L A W ⟨v, rfl, hR⟩ hi hw K hK
                        have hk : L 16 = false := hR.w16.not hi rfl
                        have e7 := hR.f7 (hw 7 (by simp))
                        have e8 := hR.f8 (hw 8 (by simp))
                        simp only [e7, e8]
                        clear e7 e8
                        go_simp
                        refine hK.out _ _ ?_
                        exact ⟨(fun jz => if jz = 206 then .slice (some ⟨xb, 0, none⟩) (j) (Cb) else if jz = 207 then .int .i64 (b : Int) else if jz = 208 then .pointer (some ⟨xb, b, none⟩) else v jz), rfl, ⟨(fun h => hR.st (upd_false h)), hR.s1.keep rfl, hR.w2.keepM rfl (fun h j hj => upd_on (h j hj)), hR.w3.keepM rfl (fun h j hj => upd_on (h j hj)), hR.w5.keepM rfl (fun h j hj => upd_on (h j hj)), hR.w6.keepM rfl (fun h j hj => upd_on (h j hj)), (fun _ j hj => upd_on (hw j hj)), hR.w10.keepM rfl (fun h j hj => upd_on (h j hj)), hR.w12.keepM rfl (fun h j hj => upd_on (h j hj)), hR.w13.keepM rfl (fun h j hj => upd_on (h j hj)), hR.w14.keepM rfl (fun h j hj => upd_on (h j hj)), hR.w15.keepM rfl (fun h j hj => upd_on (h j hj)), hR.w16.keepM rfl (fun h j hj => upd_on (h j hj)), hR.f0.keep rfl, hR.f1.keep rfl, hR.f2.keep rfl, hR.f3.keep rfl, hR.f4.keep rfl, hR.f5.keep rfl, hR.f6.keep rfl, (fun _ => rfl), (fun _ => rfl), (fun _ => rfl), hR.f10.keep rfl, hR.f11.keep rfl, hR.f12.keep rfl, hR.f13.keep rfl, hR.f14.keep rfl, hR.f15.keep rfl⟩⟩
                      refine EachOf.cons [9] rfl (by kernel_rfl) ?_ ?_
                      · rintro L A W ⟨v, rfl, hR⟩ hi hw K hK
                        have hk : L 16 = false := hR.w16.not hi rfl
                        have e9 := hR.f9 (hw 9 (by simp))
                        simp only [e9]
                        clear e9
                        have q0 := ((hR.st hk).cell (p := ⟨xb, b, none⟩) LB.out.2).trans LB.out.1
                        go_simp
                        refine hK.out _ _ ?_
                        exact ⟨(fun jz => if jz = 208 then .pointer (some ⟨xb, b, none⟩) else if jz = 209 then .slice (some ⟨G b, 0, none⟩) (n) (C b) else v jz), rfl, ⟨(fun h => hR.st (upd_false h)), hR.s1.keep rfl, hR.w2.keepM rfl (fun h j hj => upd_on (h j hj)), hR.w3.keepM rfl (fun h j hj => upd_on (h j hj)), hR.w5.keepM rfl (fun h j hj => upd_on (h j hj)), hR.w6.keepM rfl (fun h j hj => upd_on (h j hj)), hR.w9.keepM rfl (fun h j hj => upd_on (h j hj)), (fun _ j hj => upd_on (hw j hj)), hR.w12.keepM rfl (fun h j hj => upd_on (h j hj)), hR.w13.keepM rfl (fun h j hj => upd_on (h j hj)), hR.w14.keepM rfl (fun h j hj => upd_on (h j hj)), hR.w15.keepM rfl (fun h j hj => upd_on (h j hj)), hR.w16.keepM rfl (fun h j hj => upd_on (h j hj)), hR.f0.keep rfl, hR.f1.keep rfl, hR.f2.keep rfl, hR.f3.keep rfl, hR.f4.keep rfl, hR.f5.keep rfl, hR.f6.keep rfl, hR.f7.keep rfl, hR.f8.keep rfl, (fun _ => rfl), (fun _ => rfl), hR.f11.keep rfl, hR.f12.keep rfl, hR.f13.keep rfl, hR.f14.keep rfl, hR.f15.keep rfl⟩⟩
                      refine EachOf.cons [] rfl (by kernel_rfl) ?_ ?_
                      · rintro L A W ⟨v, rfl, hR⟩ hi hw K hK
                        have hk : L 16 = false := hR.w16.not hi rfl
                        go_simp
                        refine hK.out _ _ ?_
                        exact ⟨(fun jz => if jz = 210 then .int .i64 (l : Int) else v jz), rfl, ⟨(fun h => hR.st (upd_false h)), hR.s1.keep rfl, hR.w2.keepM rfl (fun h j hj => upd_on (h j hj)), hR.w3.keepM rfl (fun h j hj => upd_on (h j hj)), hR.w5.keepM rfl (fun h j hj => upd_on (h j hj)), hR.w6.keepM rfl (fun h j hj => upd_on (h j hj)), hR.w9.keepM rfl (fun h j hj => upd_on (h j hj)), hR.w10.keepM rfl (fun h j hj => upd_on (h j hj)), hR.w12.keepM rfl (fun h j hj => upd_on (h j hj)), hR.w13.keepM rfl (fun h j hj => upd_on (h j hj)), hR.w14.keepM rfl (fun h j hj => upd_on (h j hj)), hR.w15.keepM rfl (fun h j hj => upd_on (h j hj)), hR.w16.keepM rfl (fun h j hj => upd_on (h j hj)), hR.f0.keep rfl, hR.f1.keep rfl, hR.f2.keep rfl, hR.f3.keep rfl, hR.f4.keep rfl, hR.f5.keep rfl, hR.f6.keep rfl, hR.f7.keep rfl, hR.f8.keep rfl, hR.f9.keep rfl, hR.f10.keep rfl, (fun _ => rfl), hR.f12.keep rfl, hR.f13.keep rfl, hR.f14.keep rfl, hR.f15.keep rfl⟩⟩
                      refine EachOf.cons [10, 11] rfl (by kernel_rfl) ?_ ?_
                      · rintro L A W ⟨v, rfl, hR⟩ hi hw K hK
                        have hk : L 16 = false := hR.w16.not hi rfl
                        have e10 := hR.f10 (hw 10 (by simp))
                        have e11 := hR.f11 (hw 11 (by simp))
                        simp only [e10, e11]
                        clear e10 e11
                        go_simp
                        refine hK.out _ _ ?_
                        exact ⟨(fun jz => if jz = 209 then .slice (some ⟨G b, 0, none⟩) (n) (C b) else if jz = 210 then .int .i64 (l : Int) else if jz = 211 then .pointer (some ⟨G b, l, none⟩) else v jz), rfl, ⟨(fun h => hR.st (upd_false h)), hR.s1.keep rfl, hR.w2.keepM rfl (fun h j hj => upd_on (h j hj)), hR.w3.keepM rfl (fun h j hj => upd_on (h j hj)), hR.w5.keepM rfl (fun h j hj => upd_on (h j hj)), hR.w6.keepM rfl (fun h j hj => upd_on (h j hj)), hR.w9.keepM rfl (fun h j hj => upd_on (h j hj)), hR.w10.keepM rfl (fun h j hj => upd_on (h j hj)), (fun _ j hj => upd_on (hw j hj)), hR.w13.keepM rfl (fun h j hj => upd_on (h j hj)), hR.w14.keepM rfl (fun h j hj => upd_on (h j hj)), hR.w15.keepM rfl (fun h j hj => upd_on (h j hj)), hR.w16.keepM rfl (fun h j hj => upd_on (h j hj)), hR.f0.keep rfl, hR.f1.keep rfl, hR.f2.keep rfl, hR.f3.keep rfl, hR.f4.keep rfl, hR.f5.keep rfl, hR.f6.keep rfl, hR.f7.keep rfl, hR.f8.keep rfl, hR.f9.keep rfl, (fun _ => rfl), (fun _ => rfl), (fun _ => rfl), hR.f13.keep rfl, hR.f14.keep rfl, hR.f15.keep rfl⟩⟩
                      refine EachOf.cons [12] rfl (by kernel_rfl) ?_ ?_
                      · rintro L A W ⟨v, rfl, hR⟩ hi hw K hK
                        have hk : L 16 = false := hR.w16.not hi rfl
                        have e12 := hR.f12 (hw 12 (by simp))
                        simp only [e12]
                        clear e12
                        have q0 := ((hR.st hk).cell (p := ⟨G b, l, none⟩) LD.out.2).trans LD.out.1
                        go_simp
                        refine hK.out _ _ ?_
                        exact ⟨(fun jz => if jz = 211 then .pointer (some ⟨G b, l, none⟩) else if jz = 212 then .int .i64 vb2 else v jz), rfl, ⟨(fun h => hR.st (upd_false h)), hR.s1.keep rfl, hR.w2.keepM rfl (fun h j hj => upd_on (h j hj)), hR.w3.keepM rfl (fun h j hj => upd_on (h j hj)), hR.w5.keepM rfl (fun h j hj => upd_on (h j hj)), hR.w6.keepM rfl (fun h j hj => upd_on (h j hj)), hR.w9.keepM rfl (fun h j hj => upd_on (h j hj)), hR.w10.keepM rfl (fun h j hj => upd_on (h j hj)), hR.w12.keepM rfl (fun h j hj => upd_on (h j hj)), (fun _ j hj => upd_on (hw j hj)), hR.w14.keepM rfl (fun h j hj => upd_on (h j hj)), hR.w15.keepM rfl (fun h j hj => upd_on (h j hj)), hR.w16.keepM rfl (fun h j hj => upd_on (h j hj)), hR.f0.keep rfl, hR.f1.keep rfl, hR.f2.keep rfl, hR.f3.keep rfl, hR.f4.keep rfl, hR.f5.keep rfl, hR.f6.keep rfl, hR.f7.keep rfl, hR.f8.keep rfl, hR.f9.keep rfl, hR.f10.keep rfl, hR.f11.keep rfl, (fun _ => rfl), (fun _ => rfl), hR.f14.keep rfl, hR.f15.keep rfl⟩⟩
                      refine EachOf.cons [6, 13] rfl (by kernel_rfl) ?_ ?_
                      · rintro L A W ⟨v, rfl, hR⟩ hi hw K hK
                        have hk : L 16 = false := hR.w16.not hi rfl
                        have e6 := hR.f6 (hw 6 (by simp))
                        have e13 := hR.f13 (hw 13 (by simp))
                        simp only [e6, e13]
                        clear e6 e13
                        go_simp
                        refine hK.out _ _ ?_
                        exact ⟨(fun jz => if jz = 205 then .int .i64 va2 else if jz = 212 then .int .i64 vb2 else if jz = 213 then .int .i64 s else v jz), rfl, ⟨(fun h => hR.st (upd_false h)), hR.s1.keep rfl, hR.w2.keepM rfl (fun h j hj => upd_on (h j hj)), hR.w3.keepM rfl (fun h j hj => upd_on (h j hj)), hR.w5.keepM rfl (fun h j hj => upd_on (h j hj)), hR.w6.keepM rfl (fun h j hj => upd_on (h j hj)), hR.w9.keepM rfl (fun h j hj => upd_on (h j hj)), hR.w10.keepM rfl (fun h j hj => upd_on (h j hj)), hR.w12.keepM rfl (fun h j hj => upd_on (h j hj)), hR.w13.keepM rfl (fun h j hj => upd_on (h j hj)), (fun _ j hj => upd_on (hw j hj)), hR.w15.keepM rfl (fun h j hj => upd_on (h j hj)), hR.w16.keepM rfl (fun h j hj => upd_on (h j hj)), hR.f0.keep rfl, hR.f1.keep rfl, hR.f2.keep rfl, hR.f3.keep rfl, hR.f4.keep rfl, hR.f5.keep rfl, (fun _ => rfl), hR.f7.keep rfl, hR.f8.keep rfl, hR.f9.keep rfl, hR.f10.keep rfl, hR.f11.keep rfl, hR.f12.keep rfl, (fun _ => rfl), (fun _ => rfl), hR.f15.keep rfl⟩⟩
                      refine EachOf.cons [3, 4] rfl (by kernel_rfl) ?_ ?_
                      · rintro L A W ⟨v, rfl, hR⟩ hi hw K hK
                        have hk : L 16 = false := hR.w16.not hi rfl
                        have e3 := hR.f3 (hw 3 (by simp))
                        have e4 := hR.f4 (hw 4 (by simp))
                        simp only [e3, e4]
                        clear e3 e4
                        go_simp
                        refine hK.out _ _ ?_
                        exact ⟨(fun jz => if jz = 202 then .slice (some ⟨G a, 0, none⟩) (n) (C a) else if jz = 203 then .int .i64 (l : Int) else if jz = 214 then .pointer (some ⟨G a, l, none⟩) else v jz), rfl, ⟨(fun h => hR.st (upd_false h)), hR.s1.keep rfl, hR.w2.keepM rfl (fun h j hj => upd_on (h j hj)), hR.w3.keepM rfl (fun h j hj => upd_on (h j hj)), hR.w5.keepM rfl (fun h j hj => upd_on (h j hj)), hR.w6.keepM rfl (fun h j hj => upd_on (h j hj)), hR.w9.keepM rfl (fun h j hj => upd_on (h j hj)), hR.w10.keepM rfl (fun h j hj => upd_on (h j hj)), hR.w12.keepM rfl (fun h j hj => upd_on (h j hj)), hR.w13.keepM rfl (fun h j hj => upd_on (h j hj)), hR.w14.keepM rfl (fun h j hj => upd_on (h j hj)), (fun _ j hj => upd_on (hw j hj)), hR.w16.keepM rfl (fun h j hj => upd_on (h j hj)), hR.f0.keep rfl, hR.f1.keep rfl, hR.f2.keep rfl, (fun _ => rfl), (fun _ => rfl), hR.f5.keep rfl, hR.f6.keep rfl, hR.f7.keep rfl, hR.f8.keep rfl, hR.f9.keep rfl, hR.f10.keep rfl, hR.f11.keep rfl, hR.f12.keep rfl, hR.f13.keep rfl, hR.f14.keep rfl, (fun _ => rfl)⟩⟩
                      refine EachOf.cons [0, 1, 2, 3, 4, 5, 6, 7, 8, 9, 10, 11, 12, 13, 14, 15] rfl (by kernel_rfl) ?_ ?_
                      · rintro L A W ⟨v, rfl, hR⟩ hi hw K hK
                        have e15 := hR.f15 (hw 15 (by simp))
                        have e14 := hR.f14 (hw 14 (by simp))
                        simp only [e15, e14]
                        clear e15 e14
                        have q1 := (hR.st hi).cell (p := ⟨G a, l, none⟩) LC.out.2
                        rw [LC.out.1] at q1
                        have q2 := (hR.st hi).frozen (p := ⟨G a, l, none⟩) LC.out.2
                        rw [LCF.out] at q2
                        go_simp
                        refine hK.out _ _ ?_
                        exact ⟨(fun jz => if jz = 214 then .pointer (some ⟨G a, l, none⟩) else if jz = 213 then .int .i64 s else v jz), rfl, ⟨(fun h => by simp [upd_self] at h), (fun _ => ⟨W, hR.st hi, rfl⟩), hR.w2.keepM rfl (fun h j hj => upd_on (h j hj)), hR.w3.keepM rfl (fun h j hj => upd_on (h j hj)), hR.w5.keepM rfl (fun h j hj => upd_on (h j hj)), hR.w6.keepM rfl (fun h j hj => upd_on (h j hj)), hR.w9.keepM rfl (fun h j hj => upd_on (h j hj)), hR.w10.keepM rfl (fun h j hj => upd_on (h j hj)), hR.w12.keepM rfl (fun h j hj => upd_on (h j hj)), hR.w13.keepM rfl (fun h j hj => upd_on (h j hj)), hR.w14.keepM rfl (fun h j hj => upd_on (h j hj)), hR.w15.keepM rfl (fun h j hj => upd_on (h j hj)), (fun _ j hj => upd_on (hw j hj)), hR.f0.keep rfl, hR.f1.keep rfl, hR.f2.keep rfl, hR.f3.keep rfl, hR.f4.keep rfl, hR.f5.keep rfl, hR.f6.keep rfl, hR.f7.keep rfl, hR.f8.keep rfl, hR.f9.keep rfl, hR.f10.keep rfl, hR.f11.keep rfl, hR.f12.keep rfl, hR.f13.keep rfl, (fun _ => rfl), (fun _ => rfl)⟩⟩
                      exact EachOf.nil
                  rintro L A W ⟨v, rfl, hR⟩ hL
                  obtain ⟨W5, hb5, hW⟩ := hR.s1 (hL 16 (by simp))
                  have T1 := (T.out.1.on hb5).set a l la hltl s
                  have T2 : Grid W2.heap.size W xb j n G C (addF a b (l + 1) Z) := by
                    rw [hW]
                    refine T1.congr fun i k hi hk => ?_
                    unfold setE addF
                    by_cases q : i = a ∧ k = l
                    · obtain ⟨q1, q2⟩ := q
                      subst q1; subst q2
                      rw [if_pos ⟨rfl, by omega⟩, if_pos ⟨rfl, rfl⟩]; exact HSS.out
                    · rw [if_neg q]
                      by_cases q2 : i = a ∧ k < l
                      · rw [if_pos q2, if_pos ⟨q2.1, by omega⟩]
                      · rw [if_neg q2, if_neg (fun h => by
                          have h1 := h.1
                          have h2 := h.2
                          by_cases q3 : k = l
                          · exact q ⟨h1, q3⟩
                          · exact q2 ⟨h1, by omega⟩)]
                  have T3 : Below W2.heap.size W2 W := by
                    rw [hW]
                    exact (below_on T.out.2 hb5).setCell (T.out.1.row a la).1 _
                  have T4 := Lib.hid (And.intro T2 T3)
                  clear T1 T2 T3 hW hb5 W5 hR hL LA LB LC LD LCF HSS ws T
                  go_wp2_with fail
                  go_roundg (n - (l + 1))
                  case measure => omega
                  case rel => exact ⟨l + 1, rfl, rfl, by omega, T4⟩
                · have e : l = n := by omega
                  subst e
                  have HG5 : Hid (Grid W2.heap.size W1 xb j l G C (rowA a b Z)) := T.out.1.congr fun i k hi hk => by
                    unfold addF rowA
                    by_cases q : i = a
                    · rw [if_pos q, if_pos ⟨q, hk⟩]
                    · rw [if_neg q, if_neg (fun h => q h.1)]
                  have HB10 := Lib.hid (below_on HB9.out T.out.2)
                  have HX11 := Lib.hid (HX10.out.on T.out.2)
                  clear T HB9 HX9 HX10
                  have CVW0 := lValid_any (some ⟨xb, 0, none⟩) j Cb (fun i => some ⟨G i, 0, none⟩) (fun _ => l) C (rowA a b Z) W1 (HG5.out.amat (by omega)) (by omega)
                  obtain ⟨tv, htv⟩ : ∃ v, vM j (fun _ => l) (rowA a b Z) = v := ⟨_, rfl⟩
                  rw [htv] at CVW0
                  have CVW := Lib.hid CVW0
                  have HTV := Lib.hid htv
                  clear CVW0 htv
                  go_wp2_with fail
                  (with_reducible refine ((CVW.out).mono ?_))
                  rintro e W5 ⟨rfl, hb5⟩
                  have HB11 := Lib.hid (below_on HB10.out hb5)
                  have HX12 := Lib.hid (HX11.out.on hb5)
                  have HG6 := Lib.hid (HG5.out.on hb5)
                  clear CVW hb5 HB10 HX11 HG5
                  cases tv
                  case false =>
                    go_wp2_with fail
                    go_ret
                    exact ⟨rfl, HB11.out⟩
                  case true =>
                    have HVW := Lib.hid (vM_true.1 HTV.out)
                    have CDM := Lib.hid (Det_all (some ⟨mb, mo, none⟩) j mc Ra Ln Ka Z W5 l HN.out (HM.out.on HB11.out) HV.out)
                    have CDW := fun W hb => Lib.hid (Det_all (some ⟨xb, 0, none⟩) j Cb (fun i => some ⟨G i, 0, none⟩) (fun _ => l) C (rowA a b Z) W l rfl ((HG6.out.on hb).amat (by omega)) HVW.out)
                    go_wp2_with fail
                    (with_reducible refine ((CDM.out).mono ?_))
                    rintro e W6 ⟨hb6, dv, de, rfl, hD⟩
                    have HK6 := Lib.hid hb6
                    have HD := Lib.hid hD
                    clear CDM hb6 hD
                    go_wp2_with fail
                    (with_reducible refine (((CDW _ HK6.out).out).mono ?_))
                    rintro e W7 ⟨hb7, dv2, de2, rfl, hD⟩
                    obtain ⟨e1, e2⟩ := HD.out.rowA la lb HAB.out hD
                    subst e1
                    subst e2
                    have HK7 := Lib.hid (below_on HK6.out hb7)
                    have HB12 := Lib.hid (below_on HB11.out HK7.out)
                    have CCR := Lib.hid (clone_irow (some ⟨rg, ro, none⟩) j rc f W7 (HRr.out.on HB12.out) hR0 (by omega))
                    clear CDW hb7 hD HD HK6
                    go_wp2_with fail
                    (with_reducible refine ((CCR.out).mono ?_))
                    rintro e W1 ⟨rb, cp, rfl, hcp, hN, hb8⟩
                    have HNR := Lib.hid hN
                    have HK8 := Lib.hid (below_on HK7.out hb8)
                    have HKR : Hid (w.heap.size ≤ rb) := Nat.le_trans HB12.out.size hN.lo
                    have hcp1 := hN.cap
                    have HLW : Hid (W5.heap.size ≤ W7.heap.size) := HK7.out.size
                    clear CCR hN hb8 HK7 HB12
                    have fa := HRF.out.1 a la
                    have fb := HRF.out.1 b lb
                    have LA : Hid (W1.cell? ⟨rb, a, none⟩ = some (.int .i64 (f a)) ∧ rb < W1.heap.size) := ⟨HNR.out.cell a la, HNR.out.hb⟩
                    have LB : Hid (W1.cell? ⟨rb, b, none⟩ = some (.int .i64 (f b)) ∧ rb < W1.heap.size) := ⟨HNR.out.cell b lb, HNR.out.hb⟩
                    have LAF : Hid (W1.frozen? ⟨rb, a, none⟩ = false) := HNR.out.fz a la
                    obtain ⟨va2, hva⟩ : ∃ x, f a = x := ⟨_, rfl⟩
                    obtain ⟨vb2, hvb⟩ : ∃ x, f b = x := ⟨_, rfl⟩
                    rw [hva] at fa LA
                    rw [hvb] at fb LB
                    obtain ⟨s, hs⟩ : ∃ s, va2 + vb2 = s := ⟨_, rfl⟩
                    have ws : IntKind.i64.wrap (va2 + vb2) = s := by rw [IntWalk.i64_in _ (by omega), hs]
                    have HSS : Hid (f a + f b = s) := by show f a + f b = s; rw [hva, hvb]; exact hs
                    clear hva hvb hs fa fb
                    go_upto_region 42 with fail
                    refine wp_region_each (fun L A W => ∃ (v : Nat → Value), A = ⟨#[_, _, _, _, _, _, _, _, _, _, _, _, _, _, _, _, _, _, _, _, _, _, _, _, _, _, _, _, _, _, _, _, _, _, _, _, _, _, _, _, _, _, _, _, _, _, _, _, _, _, _, _, _, _, _, _, _, _, _, _, _, _, _, _, _, _, _, _, _, _, _, _, _, _, _, _, _, _, _, _, _, _, _, _, _, _, _, _, _, _, _, _, _, _, _, _, _, _, _, _, _, _, _, _, _, _, _, _, _, _, _, _, _, _, _, _, _, _, _, _, _, _, _, _, _, _, _, _, _, _, _, _, _, _, _, _, _, _, _, _, _, _, _, _, _, _, _, _, _, _, _, _, _, _, _, _, _, _, _, _, _, _, _, _, _, _, _, _, _, _, _, _, _, _, _, _, _, _, _, _, _, _, _, _, _, _, _, _, _, _, _, _, _, _, _, _, _, _, _, _, _, _, _, _, _, _, _, _, _, _, _, _, _, _, _, _, _, _, _, _, _, _, _, _, _, _, _, _, _, _, _, _, _, _, _, _, _, _, _, v 239, v 240, v 241, v 242, v 243, v 244, v 245, v 246, v 247, v 248, _, _, _, _, _, _, _, _, _, _, _, _, _, _, _, _, _, _], []⟩ ∧ AdDR rb j cp a b va2 vb2 s W1 L v W) (by kernel_rfl) (by kernel_rfl) ⟨fun jz => if jz = 239 then u239 else if jz = 240 then u240 else if jz = 241 then u241 else if jz = 242 then u242 else if jz = 243 then u243 else if jz = 244 then u244 else if jz = 245 then u245 else if jz = 246 then u246 else if jz = 247 then u247 else if jz = 248 then u248 else undef, rfl, ⟨(fun _ => Below.drew (Below.refl _ _)), Had.none, Had.none, Had.none, Had.none, Had.none, Had.none, Had.none, Had.none, Had.none, Had.none, Had.none, Had.none, Had.none, Had.none, Had.none, Had.none, Had.none, Had.none⟩⟩ (rs := [0, 1, 2, 3, 4, 5, 6, 7, 8, 9, 10]) (by kernel_rfl) ?_ ?_
                    · as_aux_lemma =>
                        refine EachOf.cons [] rfl (by kernel_rfl) ?_ ?_
                        · rintro L A W ⟨v, rfl, hR⟩ hi hw K hK
                          have hk : L 10 = false := hR.w10.not hi rfl
                          go_simp
                          refine hK.out _ _ ?_
                          exact ⟨(fun jz => if jz = 239 then .slice (some ⟨rb, 0, none⟩) (j) (cp) else v jz), rfl, ⟨(fun h => hR.st (upd_false h)), hR.s1.keep rfl, hR.w2.keepM rfl (fun h j hj => upd_on (h j hj)), hR.w3.keepM rfl (fun h j hj => upd_on (h j hj)), hR.w6.keepM rfl (fun h j hj => upd_on (h j hj)), hR.w7.keepM rfl (fun h j hj => upd_on (h j hj)), hR.w8.keepM rfl (fun h j hj => upd_on (h j hj)), hR.w9.keepM rfl (fun h j hj => upd_on (h j hj)), hR.w10.keepM rfl (fun h j hj => upd_on (h j hj)), (fun _ => rfl), hR.f1.keep rfl, hR.f2.keep rfl, hR.f3.keep rfl, hR.f4.keep rfl, hR.f5.keep rfl, hR.f6.keep rfl, hR.f7.keep rfl, hR.f8.keep rfl, hR.f9.keep rfl⟩⟩
                        refine EachOf.cons [] rfl (by kernel_rfl) ?_ ?_
                        · rintro L A W ⟨v, rfl, hR⟩ hi hw K hK
                          have hk : L 10 = false := hR.w10.not hi rfl
                          go_simp
                          refine hK.out _ _ ?_
                          exact ⟨(fun jz => if jz = 240 then .int .i64 (a : Int) else v jz), rfl, ⟨(fun h => hR.st (upd_false h)), hR.s1.keep rfl, hR.w2.keepM rfl (fun h j hj => upd_on (h j hj)), hR.w3.keepM rfl (fun h j hj => upd_on (h j hj)), hR.w6.keepM rfl (fun h j hj => upd_on (h j hj)), hR.w7.keepM rfl (fun h j hj => upd_on (h j hj)), hR.w8.keepM rfl (fun h j hj => upd_on (h j hj)), hR.w9.keepM rfl (fun h j hj => upd_on (h j hj)), hR.w10.keepM rfl (fun h j hj => upd_on (h j hj)), hR.f0.keep rfl, (fun _ => rfl), hR.f2.keep rfl, hR.f3.keep rfl, hR.f4.keep rfl, hR.f5.keep rfl, hR.f6.keep rfl, hR.f7.keep rfl, hR.f8.keep rfl, hR.f9.keep rfl⟩⟩
                        refine EachOf.cons [0, 1] rfl (by kernel_rfl) ?_ ?_
                        · rintro L A W ⟨v, rfl, hR⟩ hi hw K hK
                          have hk : L 10 = false := hR.w10.not hi rfl
                          have e0 := hR.f0 (hw 0 (by simp))
                          have e1 := hR.f1 (hw 1 (by simp))
                          simp only [e0, e1]
                          clear e0 e1
                          go_simp
                          refine hK.out _ _ ?_
                          exact ⟨(fun jz => if jz = 239 then .slice (some ⟨rb, 0, none⟩) (j) (cp) else if jz = 240 then .int .i64 (a : Int) else if jz = 241 then .pointer (some ⟨rb, a, none⟩) else v jz), rfl, ⟨(fun h => hR.st (upd_false h)), hR.s1.keep rfl, (fun _ j hj => upd_on (hw j hj)), hR.w3.keepM rfl (fun h j hj => upd_on (h j hj)), hR.w6.keepM rfl (fun h j hj => upd_on (h j hj)), hR.w7.keepM rfl (fun h j hj => upd_on (h j hj)), hR.w8.keepM rfl (fun h j hj => upd_on (h j hj)), hR.w9.keepM rfl (fun h j hj => upd_on (h j hj)), hR.w10.keepM rfl (fun h j hj => upd_on (h j hj)), (fun _ => rfl), (fun _ => rfl), (fun _ => rfl), hR.f3.keep rfl, hR.f4.keep rfl, hR.f5.keep rfl, hR.f6.keep rfl, hR.f7.keep rfl, hR.f8.keep rfl, hR.f9.keep rfl⟩⟩
                        refine EachOf.cons [2] rfl (by kernel_rfl) ?_ ?_
                        · rintro L A W ⟨v, rfl, hR⟩ hi hw K hK
                          have hk : L 10 = false := hR.w10.not hi rfl
                          have e2 := hR.f2 (hw 2 (by simp))
                          simp only [e2]
                          clear e2
                          have q0 := ((hR.st hk).cell (p := ⟨rb, a, none⟩) LA.out.2).trans LA.out.1
                          go_simp
                          refine hK.out _ _ ?_
                          exact ⟨(fun jz => if jz = 241 then .pointer (some ⟨rb, a, none⟩) else if jz = 242 then .int .i64 va2 else v jz), rfl, ⟨(fun h => hR.st (upd_false h)), hR.s1.keep rfl, hR.w2.keepM rfl (fun h j hj => upd_on (h j hj)), (fun _ j hj => upd_on (hw j hj)), hR.w6.keepM rfl (fun h j hj => upd_on (h j hj)), hR.w7.keepM rfl (fun h j hj => upd_on (h j hj)), hR.w8.keepM rfl (fun h j hj => upd_on (h j hj)), hR.w9.keepM rfl (fun h j hj => upd_on (h j hj)), hR.w10.keepM rfl (fun h j hj => upd_on (h j hj)), hR.f0.keep rfl, hR.f1.keep rfl, (fun _ => rfl), (fun _ => rfl), hR.f4.keep rfl, hR.f5.keep rfl, hR.f6.keep rfl, hR.f7.keep rfl, hR.f8.keep rfl, hR.f9.keep rfl⟩⟩
                        refine EachOf.cons [] rfl (by kernel_rfl) ?_ ?_
                        · rintro L A W ⟨v, rfl, hR⟩ hi hw K hK
                          have hk : L 10 = false := hR.w10.not hi rfl
                          go_simp
                          refine hK.out _ _ ?_
                          exact ⟨(fun jz => if jz = 243 then .slice (some ⟨rb, 0, none⟩) (j) (cp) else v jz), rfl, ⟨(fun h => hR.st (upd_false h)), hR.s1.keep rfl, hR.w2.keepM rfl (fun h j hj => upd_on (h j hj)), hR.w3.keepM rfl (fun h j hj => upd_on (h j hj)), hR.w6.keepM rfl (fun h j hj => upd_on (h j hj)), hR.w7.keepM rfl (fun h j hj => upd_on (h j hj)), hR.w8.keepM rfl (fun h j hj => upd_on (h j hj)), hR.w9.keepM rfl (fun h j hj => upd_on (h j hj)), hR.w10.keepM rfl (fun h j hj => upd_on (h j hj)), hR.f0.keep rfl, hR.f1.keep rfl, hR.f2.keep rfl, hR.f3.keep rfl, (fun _ => rfl), hR.f5.keep rfl, hR.f6.keep rfl, hR.f7.keep rfl, hR.f8.keep rfl, hR.f9.keep rfl⟩⟩
                        refine EachOf.cons [] rfl (by kernel_rfl) ?_ ?_
                        · rintro L A W ⟨v, rfl, hR⟩ hi hw K hK
                          have hk : L 10 = false := hR.w10.not hi rfl
                          go_simp
                          refine hK.out _ _ ?_
                          exact ⟨(fun jz => if jz = 244 then .int .i64 (b : Int) else v jz), rfl, ⟨(fun h => hR.st (upd_false h)), hR.s1.keep rfl, hR.w2.keepM rfl (fun h j hj => upd_on (h j hj)), hR.w3.keepM rfl (fun h j hj => upd_on (h j hj)), hR.w6.keepM rfl (fun h j hj => upd_on (h j hj)), hR.w7.keepM rfl (fun h j hj => upd_on (h j hj)), hR.w8.keepM rfl (fun h j hj => upd_on (h j hj)), hR.w9.keepM rfl (fun h j hj => upd_on (h j hj)), hR.w10.keepM rfl (fun h j hj => upd_on (h j hj)), hR.f0.keep rfl, hR.f1.keep rfl, hR.f2.keep rfl, hR.f3.keep rfl, hR.f4.keep rfl, (fun _ => rfl), hR.f6.keep rfl, hR.f7.keep rfl, hR.f8.keep rfl, hR.f9.keep rfl⟩⟩
                        refine EachOf.cons [4, 5] rfl (by kernel_rfl) ?_ ?_
                        · rintro L A W ⟨v, rfl, hR⟩ hi hw K hK
                          have hk : L 10 = false := hR.w10.not hi rfl
                          have e4 := hR.f4 (hw 4 (by simp))
                          have e5 := hR.f5 (hw 5 (by simp))
                          simp only [e4, e5]
                          clear e4 e5
                          go_simp
                          refine hK.out _ _ ?_
                          exact ⟨(fun jz => if jz = 243 then .slice (some ⟨rb, 0, none⟩) (j) (cp) else if jz = 244 then .int .i64 (b : Int) else if jz = 245 then .pointer (some ⟨rb, b, none⟩) else v jz), rfl, ⟨(fun h => hR.st (upd_false h)), hR.s1.keep rfl, hR.w2.keepM rfl (fun h j hj => upd_on (h j hj)), hR.w3.keepM rfl (fun h j hj => upd_on (h j hj)), (fun _ j hj => upd_on (hw j hj)), hR.w7.keepM rfl (fun h j hj => upd_on (h j hj)), hR.w8.keepM rfl (fun h j hj => upd_on (h j hj)), hR.w9.keepM rfl (fun h j hj => upd_on (h j hj)), hR.w10.keepM rfl (fun h j hj => upd_on (h j hj)), hR.f0.keep rfl, hR.f1.keep rfl, hR.f2.keep rfl, hR.f3.keep rfl, (fun _ => rfl), (fun _ => rfl), (fun _ => rfl), hR.f7.keep rfl, hR.f8.keep rfl, hR.f9.keep rfl⟩⟩
                        refine EachOf.cons [6] rfl (by kernel_rfl) ?_ ?_
                        · rintro L A W ⟨v, rfl, hR⟩ hi hw K hK
                          have hk : L 10 = false := hR.w10.not hi rfl
                          have e6 := hR.f6 (hw 6 (by simp))
                          simp only [e6]
                          clear e6
                          have q0 := ((hR.st hk).cell (p := ⟨rb, b, none⟩) LB.out.2).trans LB.out.1
                          go_simp
                          refine hK.out _ _ ?_
                          exact ⟨(fun jz => if jz = 245 then .pointer (some ⟨rb, b, none⟩) else if jz = 246 then .int .i64 vb2 else v jz), rfl, ⟨(fun h => hR.st (upd_false h)), hR.s1.keep rfl, hR.w2.keepM rfl (fun h j hj => upd_on (h j hj)), hR.w3.keepM rfl (fun h j hj => upd_on (h j hj)), hR.w6.keepM rfl (fun h j hj => upd_on (h j hj)), (fun _ j hj => upd_on (hw j hj)), hR.w8.keepM rfl (fun h j hj => upd_on (h j hj)), hR.w9.keepM rfl (fun h j hj => upd_on (h j hj)), hR.w10.keepM rfl (fun h j hj => upd_on (h j hj)), hR.f0.keep rfl, hR.f1.keep rfl, hR.f2.keep rfl, hR.f3.keep rfl, hR.f4.keep rfl, hR.f5.keep rfl, (fun _ => rfl), (fun _ => rfl), hR.f8.keep rfl, hR.f9.keep rfl⟩⟩
                        refine EachOf.cons [3, 7] rfl (by kernel_rfl) ?_ ?_
                        · rintro L A W ⟨v, rfl, hR⟩ hi hw K hK
                          have hk : L 10 = false := hR.w10.not hi rfl
                          have e3 := hR.f3 (hw 3 (by simp))
                          have e7 := hR.f7 (hw 7 (by simp))
                          simp only [e3, e7]
                          clear e3 e7
                          go_simp
                          refine hK.out _ _ ?_
                          exact ⟨(fun jz => if jz = 242 then .int .i64 va2 else if jz = 246 then .int .i64 vb2 else if jz = 247 then .int .i64 s else v jz), rfl, ⟨(fun h => hR.st (upd_false h)), hR.s1.keep rfl, hR.w2.keepM rfl (fun h j hj => upd_on (h j hj)), hR.w3.keepM rfl (fun h j hj => upd_on (h j hj)), hR.w6.keepM rfl (fun h j hj => upd_on (h j hj)), hR.w7.keepM rfl (fun h j hj => upd_on (h j hj)), (fun _ j hj => upd_on (hw j hj)), hR.w9.keepM rfl (fun h j hj => upd_on (h j hj)), hR.w10.keepM rfl (fun h j hj => upd_on (h j hj)), hR.f0.keep rfl, hR.f1.keep rfl, hR.f2.keep rfl, (fun _ => rfl), hR.f4.keep rfl, hR.f5.keep rfl, hR.f6.keep rfl, (fun _ => rfl), (fun _ => rfl), hR.f9.keep rfl⟩⟩
                        refine EachOf.cons [0, 1] rfl (by kernel_rfl) ?_ ?_
                        · rintro L A W ⟨v, rfl, hR⟩ hi hw K hK
                          have hk : L 10 = false := hR.w10.not hi rfl
                          have e0 := hR.f0 (hw 0 (by simp))
                          have e1 := hR.f1 (hw 1 (by simp))
                          simp only [e0, e1]
                          clear e0 e1
                          go_simp
                          refine hK.out _ _ ?_
                          exact ⟨(fun jz => if jz = 239 then .slice (some ⟨rb, 0, none⟩) (j) (cp) else if jz = 240 then .int .i64 (a : Int) else if jz = 248 then .pointer (some ⟨rb, a, none⟩) else v jz), rfl, ⟨(fun h => hR.st (upd_false h)), hR.s1.keep rfl, hR.w2.keepM rfl (fun h j hj => upd_on (h j hj)), hR.w3.keepM rfl (fun h j hj => upd_on (h j hj)), hR.w6.keepM rfl (fun h j hj => upd_on (h j hj)), hR.w7.keepM rfl (fun h j hj => upd_on (h j hj)), hR.w8.keepM rfl (fun h j hj => upd_on (h j hj)), (fun _ j hj => upd_on (hw j hj)), hR.w10.keepM rfl (fun h j hj => upd_on (h j hj)), (fun _ => rfl), (fun _ => rfl), hR.f2.keep rfl, hR.f3.keep rfl, hR.f4.keep rfl, hR.f5.keep rfl, hR.f6.keep rfl, hR.f7.keep rfl, hR.f8.keep rfl, (fun _ => rfl)⟩⟩
                        refine EachOf.cons [0, 1, 2, 3, 4, 5, 6, 7, 8, 9] rfl (by kernel_rfl) ?_ ?_
                        · rintro L A W ⟨v, rfl, hR⟩ hi hw K hK
                          have e9 := hR.f9 (hw 9 (by simp))
                          have e8 := hR.f8 (hw 8 (by simp))
                          simp only [e9, e8]
                          clear e9 e8
                          have q1 := (hR.st hi).cell (p := ⟨rb, a, none⟩) LA.out.2
                          rw [LA.out.1] at q1
                          have q2 := (hR.st hi).frozen (p := ⟨rb, a, none⟩) LA.out.2
                          rw [LAF.out] at q2
                          go_simp
                          refine hK.out _ _ ?_
                          exact ⟨(fun jz => if jz = 248 then .pointer (some ⟨rb, a, none⟩) else if jz = 247 then .int .i64 s else v jz), rfl, ⟨(fun h => by simp [upd_self] at h), (fun _ => ⟨W, hR.st hi, rfl⟩), hR.w2.keepM rfl (fun h j hj => upd_on (h j hj)), hR.w3.keepM rfl (fun h j hj => upd_on (h j hj)), hR.w6.keepM rfl (fun h j hj => upd_on (h j hj)), hR.w7.keepM rfl (fun h j hj => upd_on (h j hj)), hR.w8.keepM rfl (fun h j hj => upd_on (h j hj)), hR.w9.keepM rfl (fun h j hj => upd_on (h j hj)), (fun _ j hj => upd_on (hw j hj)), hR.f0.keep rfl, hR.f1.keep rfl, hR.f2.keep rfl, hR.f3.keep rfl, hR.f4.keep rfl, hR.f5.keep rfl, hR.f6.keep rfl, hR.f7.keep rfl, (fun _ => rfl), (fun _ => rfl)⟩⟩
                        exact EachOf.nil
                    rintro L A W ⟨v, rfl, hR⟩ hL
                    obtain ⟨W9, hb9, hW⟩ := hR.s1 (hL 10 (by simp))
                    have N1 := (HNR.out.on hb9).set (f2 := rhsA a b f) a s la (by unfold rhsA; rw [if_pos rfl]; exact HSS.out) (fun i hi hne => by unfold rhsA; rw [if_neg hne])
                    rw [← hW] at N1
                    have HN1 := Lib.hid N1
                    have HK9 : Hid (Below W5.heap.size W5 W) := by
                      show Below W5.heap.size W5 W
                      rw [hW]
                      exact (below_on HK8.out hb9).setCell (show W5.heap.size ≤ rb from Nat.le_trans HLW.out HNR.out.lo) _
                    have HX13 := Lib.hid (HX12.out.on HK9.out)
                    have HB13 := Lib.hid (below_on HB11.out HK9.out)
                    have CZ := Lib.hid (Solve_S (some ⟨xb, 0, none⟩) j Cb (fun i => some ⟨G i, 0, none⟩) (fun _ => l) C (rowA a b Z) (some ⟨rb, 0, none⟩) cp (rhsA a b f) W l rfl ((HG6.out.on HK9.out).amat (by omega)) HVW.out HN1.out.irow hcp1 hcp)
                    clear N1 hW hb9 W9 hR hL LA LB LAF HSS ws HNR HK8
                    go_wp2_with fail
                    (with_reducible refine ((CZ.out).mono ?_))
                    rintro e W8 ⟨hb8, ua, un, uc, er2, rfl, hU⟩
                    have HB14 := Lib.hid (below_on HB13.out hb8)
                    have HX14 := HX13.out.on hb8
                    rcases SolS.rowA la lb HAB.out HRF.out.1 HX14 hU with e0 | ⟨e0, e1, hxl, X, i1, i2⟩
                    · subst e0
                      clear hU HX14 CZ hb8
                      go_wp2_with fail
                      go_ret
                      exact ⟨rfl, HB14.out⟩
                    · subst e0
                      subst e1
                      have CE0 := equalF_same ua xa uc xc un _ _ W8 (ifr_frl i2) (ifr_frl i1) (by simp) (by simp) (by omega)
                      rw [decide_eq_true rfl] at CE0
                      have CE := Lib.hid CE0
                      clear hU HX14 CZ hb8 CE0 i1 i2
                      by_cases h2 : er2 = 2
                      · subst h2
                        go_wp2_with fail
                        go_ret
                        exact ⟨rfl, HB14.out⟩
                      · have hb2 : (er2 == 2) = false := by simpa using h2
                        have HH2 := Lib.hid h2
                        clear h2
                        go_wp2_with fail
                        (with_reducible refine ((CE.out).mono ?_))
                        rintro e W9 ⟨rfl, hb9⟩
                        have HB15 := Lib.hid (below_on HB14.out hb9)
                        clear CE hb9
                        go_wp2_with fail
                        go_ret
                        exact ⟨rfl, HB15.out⟩
          case true =>
            have he : ee = 0 ∧ ge = 0 := by
              have := HQ.out
              simpa using this
            obtain ⟨rfl, rfl⟩ := he
            obtain ⟨exn, hcase⟩ := HX7.out.sum HY7.out HZ7.out
            have exn2 := exn.symm
            subst exn2
            have HX8 := Lib.hid HX7.out
            have HCASE := Lib.hid hcase
            clear HX7 HY7 HZ7 HQ hcase
            go_upto_region 17 with fail
            go_cut [147] (fun s147 wx => s147 = .bool false ∧ wx = w7)
            case first =>
              rcases HCASE.out with ⟨rfl, rfl⟩ | ⟨e_er, e_vn, _⟩
              · clear HCASE
                go_wp2_with fail
                go_meet
                exact ⟨rfl, rfl⟩
              · subst e_er
                have e1 := e_vn.symm
                subst e1
                clear HCASE e_vn
                go_wp2_with fail
                go_meet
                exact ⟨rfl, rfl⟩
            case rest =>
              obtain ⟨rfl, rfl⟩ := hcut
              rename World => w7
              have hvn : vn ≤ 1000 := by
                rcases HCASE.out with ⟨_, e⟩ | ⟨_, e, _⟩ <;> omega
              go_wp2_with fail
              have S0 : Hid (Below w7.heap.size w7 w7) := Below.refl _ _
              go_loopg [150] vn (fun g' s150 wx => ∃ l : Nat, s150 = .int .i64 l ∧ g' = vn - l ∧ l ≤ vn ∧ Hid (Below w7.heap.size w7 wx))
              case atStart => exact ⟨0, rfl, rfl, Nat.zero_le _, S0⟩
              case round =>
                clear S0
                obtain ⟨l, rfl, rfl, hl, T⟩ := hrel
                rename World => W1
                by_cases hltl : l < vn
                · have wl : IntKind.i64.wrap ((l : Int) + 1) = ((l + 1 : Nat) : Int) := by rw [IntWalk.i64_in _ (by omega)]; omega
                  rcases HCASE.out with ⟨_, e0⟩ | ⟨e_er, e_vn, xb0, yb, vb, X, Y, V, e_xa, e_ya, e_yn, e_va, hX, hY, hV, hall⟩
                  · exfalso; omega
                  clear HCASE
                  subst e_er
                  subst e_xa
                  subst e_ya
                  subst e_va
                  have e1 := e_vn.symm
                  subst e1
                  have e2 := e_yn.symm
                  subst e2
                  clear e_vn e_yn
                  have HX := Lib.hid hX
                  have HY := Lib.hid hY
                  have HVV := Lib.hid hV
                  have HALL := Lib.hid hall
                  clear hX hY hV hall
                  have HX1 := HX.out.on T.out
                  have HY1 := HY.out.on T.out
                  have HV1 := Lib.hid (HVV.out.on T.out)
                  obtain ⟨vx, vy, had⟩ := HALL.out l hltl
                  obtain ⟨sn, sd, se, hs⟩ : ∃ s t e, addT (X l).1 (X l).2 (Y l).1 (Y l).2 = (s, t, e) := ⟨_, _, _, rfl⟩
                  have HAD := Lib.hid (had sn sd se hs)
                  have CA := fun W => Lib.hid (refAdd_any (X l).1 (X l).2 (Y l).1 (Y l).2 W vx vy sn sd se hs)
                  have LX : Hid (W1.cell? ⟨xb0, l * 2, none⟩ = some (.int .i64 (X l).1) ∧ W1.cell? ⟨xb0, l * 2 + 1, none⟩ = some (.int .i64 (X l).2) ∧ xb0 < W1.heap.size) := ⟨HX1.c0 l hltl, HX1.c1 l hltl, HX1.hb⟩
                  have LY : Hid (W1.cell? ⟨yb, l * 2, none⟩ = some (.int .i64 (Y l).1) ∧ W1.cell? ⟨yb, l * 2 + 1, none⟩ = some (.int .i64 (Y l).2) ∧ yb < W1.heap.size) := ⟨HY1.c0 l hltl, HY1.c1 l hltl, HY1.hb⟩
                  clear HX1 HY1 vx vy had hs
                  generalize (X l).1 = xn at *
                  generalize (X l).2 = xd at *
                  generalize (Y l).1 = yn at *
                  generalize (Y l).2 = yd at *
                  go_upto_region 22 with fail
                  refine wp_region_each (fun L A W => ∃ (v : Nat → Value) (g : Nat → Nat), A = ⟨#[_, _, _, _, _, _, _, _, _, _, _, _, _, _, _, _, _, _, _, _, v 20, v 21, _, _, _, _, _, _, _, _, _, _, _, _, _, _, _, _, _, _, _, _, _, _, _, _, _, _, _, _, _, _, _, _, _, _, _, _, _, _, _, _, _, _, _, _, _, _, _, _, _, _, _, _, _, _, _, _, _, _, _, _, _, _, _, _, _, _, _, _, _, _, _, _, _, _, _, _, _, _, _, _, _, _, _, _, _, _, _, _, _, _, _, _, _, _, _, _, _, _, _, _, _, _, _, _, _, _, _, _, _, _, _, _, _, _, _, _, _, _, _, _, _, _, _, _, _, _, _, _, _, _, _, v 153, v 154, v 155, v 156, v 157, v 158, v 159, v 160, v 161, v 162, v 163, v 164, _, _, _, _, _, _, _, _, _, _, _, _, _, _, _, _, _, _, _, _, _, _, _, _, _, _, _, _, _, _, _, _, _, _, _, _, _, _, _, _, _, _, _, _, _, _, _, _, _, _, _, _, _, _, _, _, _, _, _, _, _, _, _, _, _, _, _, _, _, _, _, _, _, _, _, _, _, _, _, _, _, _, _, _, _, _, _, _, _, _, _, _, _, _, _, _, _, _, _, _, _, _], []⟩ ∧ AdBR xb0 yb n l xc yc xn xd yn yd sn sd se W1 L v g W) (by kernel_rfl) (by kernel_rfl) ⟨fun jz => if jz = 154 then u154 else if jz = 155 then u155 else if jz = 156 then u156 else if jz = 157 then u157 else if jz = 158 then u158 else if jz = 159 then u159 else if jz = 160 then u160 else if jz = 161 then u161 else if jz = 162 then u162 else if jz = 153 then u153 else if jz = 163 then u163 else if jz = 164 then u164 else if jz = 20 then u20 else if jz = 21 then u21 else undef, fun _ => 0, rfl, ⟨Below.drew (Below.refl _ _), Had.none, Had.none, Had.none, Had.none, Had.none, Had.none, Had.none, Had.none, Had.none, Had.none, Had.none, Had.none, Had.none, Had.none, Had.none, Had.none⟩⟩ (rs := [0, 1, 2, 3, 4, 5, 6, 7, 8, 9, 10, 11, 12, 13, 14]) (by kernel_rfl) ?_ ?_
                  · as_aux_lemma =>
                      refine EachOf.cons [] rfl (by kernel_rfl) ?_ ?_
                      · rintro L A W ⟨v, g, rfl, hR⟩ hi hw K hK
                        go_simp
                        refine hK.out _ _ ?_
                        exact ⟨(fun jz => if jz = 154 then .slice (some ⟨xb0, 0, none⟩) n xc else v jz), g, rfl, ⟨hR.st, (fun _ => rfl), hR.f1.keep rfl, hR.f2.keep rfl, hR.f3.keep rfl, hR.f4.keep rfl, hR.f5.keep rfl, hR.f6.keep rfl, hR.f7.keep rfl, hR.f8.keep rfl, hR.f9.keep rfl, hR.f10.keep rfl, hR.f11.keep rfl, hR.f12.keep rfl, hR.f14.keep rfl, hR.b12.keep rfl, hR.c13.keepM rfl (fun h => ⟨upd_on h.1, h.2⟩)⟩⟩
                      refine EachOf.cons [] rfl (by kernel_rfl) ?_ ?_
                      · rintro L A W ⟨v, g, rfl, hR⟩ hi hw K hK
                        go_simp
                        refine hK.out _ _ ?_
                        exact ⟨(fun jz => if jz = 155 then .int .i64 (l : Int) else v jz), g, rfl, ⟨hR.st, hR.f0.keep rfl, (fun _ => rfl), hR.f2.keep rfl, hR.f3.keep rfl, hR.f4.keep rfl, hR.f5.keep rfl, hR.f6.keep rfl, hR.f7.keep rfl, hR.f8.keep rfl, hR.f9.keep rfl, hR.f10.keep rfl, hR.f11.keep rfl, hR.f12.keep rfl, hR.f14.keep rfl, hR.b12.keep rfl, hR.c13.keepM rfl (fun h => ⟨upd_on h.1, h.2⟩)⟩⟩
                      refine EachOf.cons [0, 1] rfl (by kernel_rfl) ?_ ?_
                      · rintro L A W ⟨v, g, rfl, hR⟩ hi hw K hK
                        have e0 := hR.f0 (hw 0 (by simp))
                        have e1 := hR.f1 (hw 1 (by simp))
                        simp only [e0, e1]
                        clear e0 e1
                        go_simp
                        refine hK.out _ _ ?_
                        exact ⟨(fun jz => if jz = 154 then .slice (some ⟨xb0, 0, none⟩) n xc else if jz = 155 then .int .i64 (l : Int) else if jz = 156 then .pointer (some ⟨xb0, l * 2, none⟩) else v jz), g, rfl, ⟨hR.st, (fun _ => rfl), (fun _ => rfl), (fun _ => rfl), hR.f3.keep rfl, hR.f4.keep rfl, hR.f5.keep rfl, hR.f6.keep rfl, hR.f7.keep rfl, hR.f8.keep rfl, hR.f9.keep rfl, hR.f10.keep rfl, hR.f11.keep rfl, hR.f12.keep rfl, hR.f14.keep rfl, hR.b12.keep rfl, hR.c13.keepM rfl (fun h => ⟨upd_on h.1, h.2⟩)⟩⟩
                      refine EachOf.cons [2] rfl (by kernel_rfl) ?_ ?_
                      · rintro L A W ⟨v, g, rfl, hR⟩ hi hw K hK
                        have e2 := hR.f2 (hw 2 (by simp))
                        simp only [e2]
                        clear e2
                        have q0 := (hR.st.cell (p := ⟨xb0, l * 2, none⟩) LX.out.2.2).trans LX.out.1
                        have q1 := (hR.st.cell (p := ⟨xb0, l * 2 + 1, none⟩) LX.out.2.2).trans LX.out.2.1
                        go_simp
                        refine hK.out _ _ ?_
                        exact ⟨(fun jz => if jz = 156 then .pointer (some ⟨xb0, l * 2, none⟩) else if jz = 157 then .agg #[.int .i64 xn, .int .i64 xd] else v jz), g, rfl, ⟨hR.st, hR.f0.keep rfl, hR.f1.keep rfl, (fun _ => rfl), (fun _ => rfl), hR.f4.keep rfl, hR.f5.keep rfl, hR.f6.keep rfl, hR.f7.keep rfl, hR.f8.keep rfl, hR.f9.keep rfl, hR.f10.keep rfl, hR.f11.keep rfl, hR.f12.keep rfl, hR.f14.keep rfl, hR.b12.keep rfl, hR.c13.keepM rfl (fun h => ⟨upd_on h.1, h.2⟩)⟩⟩
                      refine EachOf.cons [] rfl (by kernel_rfl) ?_ ?_
                      · rintro L A W ⟨v, g, rfl, hR⟩ hi hw K hK
                        go_simp
                        refine hK.out _ _ ?_
                        exact ⟨(fun jz => if jz = 158 then .slice (some ⟨yb, 0, none⟩) n yc else v jz), g, rfl, ⟨hR.st, hR.f0.keep rfl, hR.f1.keep rfl, hR.f2.keep rfl, hR.f3.keep rfl, (fun _ => rfl), hR.f5.keep rfl, hR.f6.keep rfl, hR.f7.keep rfl, hR.f8.keep rfl, hR.f9.keep rfl, hR.f10.keep rfl, hR.f11.keep rfl, hR.f12.keep rfl, hR.f14.keep rfl, hR.b12.keep rfl, hR.c13.keepM rfl (fun h => ⟨upd_on h.1, h.2⟩)⟩⟩
                      refine EachOf.cons [] rfl (by kernel_rfl) ?_ ?_
                      · rintro L A W ⟨v, g, rfl, hR⟩ hi hw K hK
                        go_simp
                        refine hK.out _ _ ?_
                        exact ⟨(fun jz => if jz = 159 then .int .i64 (l : Int) else v jz), g, rfl, ⟨hR.st, hR.f0.keep rfl, hR.f1.keep rfl, hR.f2.keep rfl, hR.f3.keep rfl, hR.f4.keep rfl, (fun _ => rfl), hR.f6.keep rfl, hR.f7.keep rfl, hR.f8.keep rfl, hR.f9.keep rfl, hR.f10.keep rfl, hR.f11.keep rfl, hR.f12.keep rfl, hR.f14.keep rfl, hR.b12.keep rfl, hR.c13.keepM rfl (fun h => ⟨upd_on h.1, h.2⟩)⟩⟩
                      refine EachOf.cons [4, 5] rfl (by kernel_rfl) ?_ ?_
                      · rintro L A W ⟨v, g, rfl, hR⟩ hi hw K hK
                        have e4 := hR.f4 (hw 4 (by simp))
                        have e5 := hR.f5 (hw 5 (by simp))
                        simp only [e4, e5]
                        clear e4 e5
                        go_simp
                        refine hK.out _ _ ?_
                        exact ⟨(fun jz => if jz = 158 then .slice (some ⟨yb, 0, none⟩) n yc else if jz = 159 then .int .i64 (l : Int) else if jz = 160 then .pointer (some ⟨yb, l * 2, none⟩) else v jz), g, rfl, ⟨hR.st, hR.f0.keep rfl, hR.f1.keep rfl, hR.f2.keep rfl, hR.f3.keep rfl, (fun _ => rfl), (fun _ => rfl), (fun _ => rfl), hR.f7.keep rfl, hR.f8.keep rfl, hR.f9.keep rfl, hR.f10.keep rfl, hR.f11.keep rfl, hR.f12.keep rfl, hR.f14.keep rfl, hR.b12.keep rfl, hR.c13.keepM rfl (fun h => ⟨upd_on h.1, h.2⟩)⟩⟩
                      refine EachOf.cons [6] rfl (by kernel_rfl) ?_ ?_
                      · rintro L A W ⟨v, g, rfl, hR⟩ hi hw K hK
                        have e6 := hR.f6 (hw 6 (by simp))
                        simp only [e6]
                        clear e6
                        have q0 := (hR.st.cell (p := ⟨yb, l * 2, none⟩) LY.out.2.2).trans LY.out.1
                        have q1 := (hR.st.cell (p := ⟨yb, l * 2 + 1, none⟩) LY.out.2.2).trans LY.out.2.1
                        go_simp
                        refine hK.out _ _ ?_
                        exact ⟨(fun jz => if jz = 160 then .pointer (some ⟨yb, l * 2, none⟩) else if jz = 161 then .agg #[.int .i64 yn, .int .i64 yd] else v jz), g, rfl, ⟨hR.st, hR.f0.keep rfl, hR.f1.keep rfl, hR.f2.keep rfl, hR.f3.keep rfl, hR.f4.keep rfl, hR.f5.keep rfl, (fun _ => rfl), (fun _ => rfl), hR.f8.keep rfl, hR.f9.keep rfl, hR.f10.keep rfl, hR.f11.keep rfl, hR.f12.keep rfl, hR.f14.keep rfl, hR.b12.keep rfl, hR.c13.keepM rfl (fun h => ⟨upd_on h.1, h.2⟩)⟩⟩
                      refine EachOf.cons [3, 7] rfl (by kernel_rfl) ?_ ?_
                      · rintro L A W ⟨v, g, rfl, hR⟩ hi hw K hK
                        have e3 := hR.f3 (hw 3 (by simp))
                        have e7 := hR.f7 (hw 7 (by simp))
                        simp only [e3, e7]
                        clear e3 e7
                        go_simp
                        go_at_call 40
                        (with_reducible refine ((CA _).out).mono ?_)
                        rintro e w2 ⟨rfl, hb⟩
                        go_simp
                        refine hK.out _ _ ?_
                        exact ⟨(fun jz => if jz = 157 then .agg #[.int .i64 xn, .int .i64 xd] else if jz = 161 then .agg #[.int .i64 yn, .int .i64 yd] else if jz = 162 then .tuple #[.agg #[.int .i64 sn, .int .i64 sd], .int .i64 se] else v jz), g, rfl, ⟨below_on hR.st hb, hR.f0.keep rfl, hR.f1.keep rfl, hR.f2.keep rfl, (fun _ => rfl), hR.f4.keep rfl, hR.f5.keep rfl, hR.f6.keep rfl, (fun _ => rfl), (fun _ => rfl), hR.f9.keep rfl, hR.f10.keep rfl, hR.f11.keep rfl, hR.f12.keep rfl, hR.f14.keep rfl, hR.b12.keepM rfl (fun h => h.on hb), hR.c13.keepM rfl (fun h => ⟨upd_on h.1, h.2.on hb⟩)⟩⟩
                      refine EachOf.cons [8] rfl (by kernel_rfl) ?_ ?_
                      · rintro L A W ⟨v, g, rfl, hR⟩ hi hw K hK
                        have e8 := hR.f8 (hw 8 (by simp))
                        simp only [e8]
                        clear e8
                        go_simp
                        refine hK.out _ _ ?_
                        exact ⟨(fun jz => if jz = 162 then .tuple #[.agg #[.int .i64 sn, .int .i64 sd], .int .i64 se] else if jz = 153 then .tuple #[.agg #[.int .i64 sn, .int .i64 sd], .int .i64 se] else v jz), g, rfl, ⟨hR.st, hR.f0.keep rfl, hR.f1.keep rfl, hR.f2.keep rfl, hR.f3.keep rfl, hR.f4.keep rfl, hR.f5.keep rfl, hR.f6.keep rfl, hR.f7.keep rfl, (fun _ => rfl), (fun _ => rfl), hR.f10.keep rfl, hR.f11.keep rfl, hR.f12.keep rfl, hR.f14.keep rfl, hR.b12.keep rfl, hR.c13.keepM rfl (fun h => ⟨upd_on h.1, h.2⟩)⟩⟩
                      refine EachOf.cons [9] rfl (by kernel_rfl) ?_ ?_
                      · rintro L A W ⟨v, g, rfl, hR⟩ hi hw K hK
                        have e9 := hR.f9 (hw 9 (by simp))
                        simp only [e9]
                        clear e9
                        go_simp
                        refine hK.out _ _ ?_
                        exact ⟨(fun jz => if jz = 153 then .tuple #[.agg #[.int .i64 sn, .int .i64 sd], .int .i64 se] else if jz = 163 then .agg #[.int .i64 sn, .int .i64 sd] else v jz), g, rfl, ⟨hR.st, hR.f0.keep rfl, hR.f1.keep rfl, hR.f2.keep rfl, hR.f3.keep rfl, hR.f4.keep rfl, hR.f5.keep rfl, hR.f6.keep rfl, hR.f7.keep rfl, hR.f8.keep rfl, (fun _ => rfl), (fun _ => rfl), hR.f11.keep rfl, hR.f12.keep rfl, hR.f14.keep rfl, hR.b12.keep rfl, hR.c13.keepM rfl (fun h => ⟨upd_on h.1, h.2⟩)⟩⟩
                      refine EachOf.cons [9] rfl (by kernel_rfl) ?_ ?_
                      · rintro L A W ⟨v, g, rfl, hR⟩ hi hw K hK
                        have e9 := hR.f9 (hw 9 (by simp))
                        simp only [e9]
                        clear e9
                        go_simp
                        refine hK.out _ _ ?_
                        exact ⟨(fun jz => if jz = 153 then .tuple #[.agg #[.int .i64 sn, .int .i64 sd], .int .i64 se] else if jz = 164 then .int .i64 se else v jz), g, rfl, ⟨hR.st, hR.f0.keep rfl, hR.f1.keep rfl, hR.f2.keep rfl, hR.f3.keep rfl, hR.f4.keep rfl, hR.f5.keep rfl, hR.f6.keep rfl, hR.f7.keep rfl, hR.f8.keep rfl, (fun _ => rfl), hR.f10.keep rfl, (fun _ => rfl), hR.f12.keep rfl, hR.f14.keep rfl, hR.b12.keep rfl, hR.c13.keepM rfl (fun h => ⟨upd_on h.1, h.2⟩)⟩⟩
                      refine EachOf.cons [] rfl (by kernel_rfl) ?_ ?_
                      · rintro L A W ⟨v, g, rfl, hR⟩ hi hw K hK
                        have hz := hR.st.size
                        go_simp
                        refine hK.out _ _ ?_
                        have hb : Below W.heap.size W (W.alloc (Obj.cells #[Value.int IntKind.i64 0, Value.int IntKind.i64 0] 45)) := (Below.refl _ _).alloc (Nat.le_refl _) _
                        exact ⟨(fun jz => if jz = 20 then .pointer (some ⟨W.heap.size, 0, none⟩) else v jz), (fun jz => if jz = 12 then W.heap.size else g jz), rfl, ⟨below_on hR.st hb, hR.f0.keep rfl, hR.f1.keep rfl, hR.f2.keep rfl, hR.f3.keep rfl, hR.f4.keep rfl, hR.f5.keep rfl, hR.f6.keep rfl, hR.f7.keep rfl, hR.f8.keep rfl, hR.f9.keep rfl, hR.f10.keep rfl, hR.f11.keep rfl, (fun _ => rfl), hR.f14.keep rfl, (fun _ => Own.new _ _ _ _ hz), (fun h => absurd ((hR.c13 (upd_back h rfl)).1) (by simp [hi]))⟩⟩
                      refine EachOf.cons [12, 10] rfl (by kernel_rfl) ?_ ?_
                      · rintro L A W ⟨v, g, rfl, hR⟩ hi hw K hK
                        have e12 := hR.f12 (hw 12 (by simp))
                        have e10 := hR.f10 (hw 10 (by simp))
                        simp only [e12, e10]
                        clear e12 e10
                        have o2 := hR.b12 (hw 12 (by simp))
                        have o1 := o2.1
                        have HO := Lib.hid o2
                        clear o2
                        obtain ⟨_, ⟨u5, v5, l5, p5, q5⟩, r5, s5⟩ := HO.out
                        go_simp
                        have o2 := HO.out
                        refine hK.out _ _ ?_
                        exact ⟨(fun jz => if jz = 20 then .pointer (some ⟨g 12, 0, none⟩) else if jz = 163 then .agg #[.int .i64 sn, .int .i64 sd] else v jz), g, rfl, ⟨(hR.st.setCell (by simpa using o1) _).setCell (by simpa using o1) _, hR.f0.keep rfl, hR.f1.keep rfl, hR.f2.keep rfl, hR.f3.keep rfl, hR.f4.keep rfl, hR.f5.keep rfl, hR.f6.keep rfl, hR.f7.keep rfl, hR.f8.keep rfl, hR.f9.keep rfl, (fun _ => rfl), hR.f11.keep rfl, (fun _ => rfl), hR.f14.keep rfl, hR.b12.keepM rfl (fun h => h.set), (fun _ => ⟨upd_on (hw 12 (by simp)), o2.setw⟩)⟩⟩
                      refine EachOf.cons [11] rfl (by kernel_rfl) ?_ ?_
                      · rintro L A W ⟨v, g, rfl, hR⟩ hi hw K hK
                        have e11 := hR.f11 (hw 11 (by simp))
                        simp only [e11]
                        clear e11
                        go_simp
                        refine hK.out _ _ ?_
                        exact ⟨(fun jz => if jz = 164 then .int .i64 se else if jz = 21 then .int .i64 se else v jz), g, rfl, ⟨hR.st, hR.f0.keep rfl, hR.f1.keep rfl, hR.f2.keep rfl, hR.f3.keep rfl, hR.f4.keep rfl, hR.f5.keep rfl, hR.f6.keep rfl, hR.f7.keep rfl, hR.f8.keep rfl, hR.f9.keep rfl, hR.f10.keep rfl, (fun _ => rfl), hR.f12.keep rfl, (fun _ => rfl), hR.b12.keep rfl, hR.c13.keepM rfl (fun h => ⟨upd_on h.1, h.2⟩)⟩⟩
                      exact EachOf.nil
                  rintro L A W ⟨v, g', rfl, hR⟩ hL
                  have e12 := hR.f12 (hL 12 (by simp))
                  have e14 := hR.f14 (hL 14 (by simp))
                  have HC := Lib.hid (hR.c13 (hL 13 (by simp))).2
                  have HT := Lib.hid hR.st
                  have HT2 := Lib.hid (below_on T.out hR.st)
                  have HV2 := Lib.hid (HV1.out.on hR.st)
                  obtain ⟨tb, htb⟩ : ∃ x, g' 12 = x := ⟨_, rfl⟩
                  rw [htb] at e12 HC
                  simp only [e12, e14]
                  clear e12 e14 htb hR hL LX LY CA T HV1
                  have p1 := HC.out.2.1
                  have p2 := HC.out.2.2
                  have p3 := HV2.out.c0 l hltl
                  have p4 := HV2.out.c1 l hltl
                  go_upto_region 23 with fail
                  rcases HAD.out with hse | ⟨rfl, e1, e2⟩
                  · have hb : (se == 0) = false := by simpa using hse
                    have HSE := Lib.hid hse
                    clear hse
                    go_quiet (fail)
                    have T2 := Lib.hid (below_drewN' HT2.out nq)
                    clear p1 p2 p3 p4 HC HT HT2 HV2
                    go_wp2_with fail
                    go_roundg (n - (l + 1))
                    case measure => omega
                    case rel => exact ⟨l + 1, rfl, rfl, by omega, T2⟩
                  · rw [← e1] at p3
                    rw [← e2] at p4
                    have HE12 := Lib.hid (And.intro e1 e2)
                    clear e1 e2
                    go_quiet (fail)
                    have T2 := Lib.hid (below_drewN' HT2.out nq)
                    clear p1 p2 p3 p4 HC HT HT2 HV2
                    go_wp2_with fail
                    go_roundg (n - (l + 1))
                    case measure => omega
                    case rel => exact ⟨l + 1, rfl, rfl, by omega, T2⟩
                · have e : l = vn := by omega
                  have HB8 := Lib.hid (below_on HB7.out T.out)
                  have HX9 := Lib.hid (HX8.out.on T.out)
                  clear HX8
                  have HX8 := HX9
                  clear HX9 T HB7 e HCASE
                  as_aux_lemma =>
                    obtain ⟨a, ha⟩ : ∃ a : Nat, (a : Int) = y1 % (j : Int) := ⟨(y1 % (j : Int)).toNat, Int.toNat_of_nonneg (Int.emod_nonneg _ (by omega))⟩
                    obtain ⟨b, hb⟩ : ∃ b : Nat, (b : Int) = y2 % (j : Int) := ⟨(y2 % (j : Int)).toNat, Int.toNat_of_nonneg (Int.emod_nonneg _ (by omega))⟩
                    have la : a < j := by have := Int.emod_lt_of_pos y1 (show (0 : Int) < j by omega); omega
                    have lb : b < j := by have := Int.emod_lt_of_pos y2 (show (0 : Int) < j by omega); omega
                    have ta : y1.tmod (j : Int) = (a : Int) := by rw [Int.tmod_eq_emod_of_nonneg y10, ha]
                    have tb2 : y2.tmod (j : Int) = (b : Int) := by rw [Int.tmod_eq_emod_of_nonneg y20, hb]
                    have wa : IntKind.i64.wrap y1 = y1 := IntWalk.i64_in _ (by omega)
                    have wb : IntKind.i64.wrap y2 = y2 := IntWalk.i64_in _ (by omega)
                    have wa2 : IntKind.i64.wrap (a : Int) = (a : Int) := IntWalk.i64_in _ (by omega)
                    have wb2 : IntKind.i64.wrap (b : Int) = (b : Int) := IntWalk.i64_in _ (by omega)
                    have hRz : ¬ ((j : Int) = 0) := by omega
                    clear ha hb
                    go_upto_region 26 with fail
                    go_quiet (fail)
                    have HB9 := Lib.hid (below_drewN' HB8.out nq)
                    have HX9 := Lib.hid (HX8.out.on (below_drewN' (Below.refl _ _) nq))
                    clear ta tb2 wa wb wa2 wb2 hRz HB8 HX8
                    generalize W1.drewN nq = W2 at *
                    by_cases hab : a = b
                    · subst hab
                      go_wp2_with fail
                      go_ret
                      exact ⟨rfl, HB9.out⟩
                    have habi : ¬ ((a : Int) = (b : Int)) := by omega
                    have HAB := Lib.hid hab
                    have CC := Lib.hid (refCopy_any mb mo mc j n 0 0 n (fun i => adB (Ra i)) (fun i => adO (Ra i)) Ka Z Z none (fun _ => 0) W2 (HMT.out.on HB9.out) hR0 (by omega) hn0 (by omega) (fun h => by omega) (.inl ⟨rfl, rfl, rfl⟩))
                    clear hab
                    go_wp2_with fail
                    (with_reducible refine ((CC.out).mono ?_))
                    rintro e W4 ⟨xb, Cb, G, C, rfl, hCb, hb4, hG⟩
                    have HK4 := Lib.hid hb4
                    have HG4 := Lib.hid hG
                    have HX10 := Lib.hid HX9.out
                    clear CC hb4 hG habi
                    have p0 := HG4.out.top a la
                    go_wp2_with fail
                    clear p0
                    have S0 : Hid (Grid W2.heap.size W4 xb j n G C (addF a b 0 Z) ∧ Below W2.heap.size W2 W4) := ⟨HG4.out.congr fun i k hi hk => by unfold addF; rw [if_neg (by omega)], HK4.out⟩
                    clear HK4 HG4
                    go_loopg [196] n (fun g' s196 wx => ∃ l : Nat, s196 = .int .i64 l ∧ g' = n - l ∧ l ≤ n ∧ Hid (Grid W2.heap.size wx xb j n G C (addF a b l Z) ∧ Below W2.heap.size W2 wx))
                    case atStart => exact ⟨0, rfl, rfl, Nat.zero_le _, S0⟩
                    case round =>
                      clear S0
                      obtain ⟨l, rfl, rfl, hl, T⟩ := hrel
                      rename World => W1
                      by_cases hltl : l < n
                      · have wl : IntKind.i64.wrap ((l : Int) + 1) = ((l + 1 : Nat) : Int) := by rw [IntWalk.i64_in _ (by omega)]; omega
                        have za := HZB.out a l la hltl
                        have zb := HZB.out b l lb hltl
                        have LA : Hid (W1.cell? ⟨xb, a, none⟩ = some (.slice (some ⟨G a, 0, none⟩) n (C a)) ∧ xb < W1.heap.size) := ⟨T.out.1.top a la, T.out.1.hb⟩
                        have LB : Hid (W1.cell? ⟨xb, b, none⟩ = some (.slice (some ⟨G b, 0, none⟩) n (C b)) ∧ xb < W1.heap.size) := ⟨T.out.1.top b lb, T.out.1.hb⟩
                        have LC : Hid (W1.cell? ⟨G a, l, none⟩ = some (.int .i64 (Z a l)) ∧ G a < W1.heap.size) := ⟨by rw [T.out.1.cell a l la hltl]; unfold addF; rw [if_neg (by omega)], (T.out.1.row a la).2.1⟩
                        have LD : Hid (W1.cell? ⟨G b, l, none⟩ = some (.int .i64 (Z b l)) ∧ G b < W1.heap.size) := ⟨by rw [T.out.1.cell b l lb hltl]; unfold addF; rw [if_neg (fun h => HAB.out h.1.symm)], (T.out.1.row b lb).2.1⟩
                        have LCF : Hid (W1.frozen? ⟨G a, l, none⟩ = false) := T.out.1.fz a l la hltl
                        obtain ⟨va2, hva⟩ : ∃ x, Z a l = x := ⟨_, rfl⟩
                        obtain ⟨vb2, hvb⟩ : ∃ x, Z b l = x := ⟨_, rfl⟩
                        rw [hva] at za LC
                        rw [hvb] at zb LD
                        obtain ⟨s, hs⟩ : ∃ s, va2 + vb2 = s := ⟨_, rfl⟩
                        have ws : IntKind.i64.wrap (va2 + vb2) = s := by rw [IntWalk.i64_in _ (by omega), hs]
                        have HSS : Hid (Z a l + Z b l = s) := by show Z a l + Z b l = s; rw [hva, hvb]; exact hs
                        clear hva hvb hs za zb
                        go_upto_region 33 with fail
                        refine wp_region_each (fun L A W => ∃ (v : Nat → Value), A = ⟨#[_, _, _, _, _, _, _, _, _, _, _, _, _, _, _, _, _, _, _, _, _, _, _, _, _, _, _, _, _, _, _, _, _, _, _, _, _, _, _, _, _, _, _, _, _, _, _, _, _, _, _, _, _, _, _, _, _, _, _, _, _, _, _, _, _, _, _, _, _, _, _, _, _, _, _, _, _, _, _, _, _, _, _, _, _, _, _, _, _, _, _, _, _, _, _, _, _, _, _, _, _, _, _, _, _, _, _, _, _, _, _, _, _, _, _, _, _, _, _, _, _, _, _, _, _, _, _, _, _, _, _, _, _, _, _, _, _, _, _, _, _, _, _, _, _, _, _, _, _, _, _, _, _, _, _, _, _, _, _, _, _, _, _, _, _, _, _, _, _, _, _, _, _, _, _, _, _, _, _, _, _, _, _, _, _, _, _, _, _, _, _, _, _, _, _, _, _, _, _, v 199, v 200, v 201, v 202, v 203, v 204, v 205, v 206, v 207, v 208, v 209, v 210, v 211, v 212, v 213, v 214, _, _, _, _, _, _, _, _, _, _, _, _, _, _, _, _, _, _, _, _, _, _, _, _, _, _, _, _, _, _, _, _, _, _, _, _, _, _, _, _, _, _, _, _, _, _, _, _, _, _, _, _], []⟩ ∧ AdCR xb j n Cb a b l G C va2 vb2 s W1 L v W) (by kernel_rfl) (by kernel_rfl) ⟨fun jz => if jz = 199 then u199 else if jz = 200 then u200 else if jz = 201 then u201 else if jz = 202 then u202 else if jz = 203 then u203 else if jz = 204 then u204 else if jz = 205 then u205 else if jz = 206 then u206 else if jz = 207 then u207 else if jz = 208 then u208 else if jz = 209 then u209 else if jz = 210 then u210 else if jz = 211 then u211 else if jz = 212 then u212 else if jz = 213 then u213 else if jz = 214 then u214 else undef, rfl, ⟨(fun _ => Below.drew (Below.refl _ _)), Had.none, Had.none, Had.none, Had.none, Had.none, Had.none, Had.none, Had.none, Had.none, Had.none, Had.none, Had.none, Had.none, Had.none, Had.none, Had.none, Had.none, Had.none, Had.none, Had.none, Had.none, Had.none, Had.none, Had.none, Had.none, Had.none, Had.none, Had.none⟩⟩ (rs := [0, 1, 2, 3, 4, 5, 6, 7, 8, 9, 10, 11, 12, 13, 14, 15, 16]) (by kernel_rfl) ?_ ?_
                        · as_aux_lemma =>
                            refine EachOf.cons [] rfl (by kernel_rfl) ?_ ?_
                            · rintro L A W ⟨v, rfl, hR⟩ hi hw K hK
                              have hk : L 16 = false := hR.w16.not hi rfl
                              go_simp
                              refine hK.out _ _ ?_
                              exact ⟨(fun jz => if jz = 199 then .slice (some ⟨xb, 0, none⟩) (j) (Cb) else v jz), rfl, ⟨(fun h => hR.st (upd_false h)), hR.s1.keep rfl, hR.w2.keepM rfl (fun h j hj => upd_on (h j hj)), hR.w3.keepM rfl (fun h j hj => upd_on (h j hj)), hR.w5.keepM rfl (fun h j hj => upd_on (h j hj)), hR.w6.keepM rfl (fun h j hj => upd_on (h j hj)), hR.w9.keepM rfl (fun h j hj => upd_on (h j hj)), hR.w10.keepM rfl (fun h j hj => upd_on (h j hj)), hR.w12.keepM rfl (fun h j hj => upd_on (h j hj)), hR.w13.keepM rfl (fun h j hj => upd_on (h j hj)), hR.w14.keepM rfl (fun h j hj => upd_on (h j hj)), hR.w15.keepM rfl (fun h j hj => upd_on (h j hj)), hR.w16.keepM rfl (fun h j hj => upd_on (h j hj)), (fun _ => rfl), hR.f1.keep rfl, hR.f2.keep rfl, hR.f3.keep rfl, hR.f4.keep rfl, hR.f5.keep rfl, hR.f6.keep rfl, hR.f7.keep rfl, hR.f8.keep rfl, hR.f9.keep rfl, hR.f10.keep rfl, hR.f11.keep rfl, hR.f12.keep rfl, hR.f13.keep rfl, hR.f14.keep rfl, hR.f15.keep rfl⟩⟩
                            refine EachOf.cons [] rfl (by kernel_rfl) ?_ ?_
                            · rintro L A W ⟨v, rfl, hR⟩ hi hw K hK
                              have hk : L 16 = false := hR.w16.not hi rfl
                              go_simp
                              refine hK.out _ _ ?_
                              exact ⟨(fun jz => if jz = 200 then .int .i64 (a : Int) else v jz), rfl, ⟨(fun h => hR.st (upd_false h)), hR.s1.keep rfl, hR.w2.keepM rfl (fun h j hj => upd_on (h j hj)), hR.w3.keepM rfl (fun h j hj => upd_on (h j hj)), hR.w5.keepM rfl (fun h j hj => upd_on (h j hj)), hR.w6.keepM rfl (fun h j hj => upd_on (h j hj)), hR.w9.keepM rfl (fun h j hj => upd_on (h j hj)), hR.w10.keepM rfl (fun h j hj => upd_on (h j hj)), hR.w12.keepM rfl (fun h j hj => upd_on (h j hj)), hR.w13.keepM rfl (fun h j hj => upd_on (h j hj)), hR.w14.keepM rfl (fun h j hj => upd_on (h j hj)), hR.w15.keepM rfl (fun h j hj => upd_on (h j hj)), hR.w16.keepM rfl (fun h j hj => upd_on (h j hj)), hR.f0.keep rfl, (fun _ => rfl), hR.f2.keep rfl, hR.f3.keep rfl, hR.f4.keep rfl, hR.f5.keep rfl, hR.f6.keep rfl, hR.f7.keep rfl, hR.f8.keep rfl, hR.f9.keep rfl, hR.f10.keep rfl, hR.f11.keep rfl, hR.f12.keep rfl, hR.f13.keep rfl, hR.f14.keep rfl, hR.f15.keep rfl⟩⟩
                            refine EachOf.cons [0, 1] rfl (by kernel_rfl) ?_ ?_
                            · rintro L A W ⟨v, rfl, hR⟩ hi hw K hK
                              have hk : L 16 = false := hR.w16.not hi rfl
                              have e0 := hR.f0 (hw 0 (by simp))
                              have e1 := hR.f1 (hw 1 (by simp))
                              simp only [e0, e1]
                              clear e0 e1
                              go_simp
                              refine hK.out _ _ ?_
                              exact ⟨(fun jz => if jz = 199 then .slice (some ⟨xb, 0, none⟩) (j) (Cb) else if jz = 200 then .int .i64 (a : Int) else if jz = 201 then .pointer (some ⟨xb, a, none⟩) else v jz), rfl, ⟨(fun h => hR.st (upd_false h)), hR.s1.keep rfl, (fun _ j hj => upd_on (hw j hj)), hR.w3.keepM rfl (fun h j hj => upd_on (h j hj)), hR.w5.keepM rfl (fun h j hj => upd_on (h j hj)), hR.w6.keepM rfl (fun h j hj => upd_on (h j hj)), hR.w9.keepM rfl (fun h j hj => upd_on (h j hj)), hR.w10.keepM rfl (fun h j hj => upd_on (h j hj)), hR.w12.keepM rfl (fun h j hj => upd_on (h j hj)), hR.w13.keepM rfl (fun h j hj => upd_on (h j hj)), hR.w14.keepM rfl (fun h j hj => upd_on (h j hj)), hR.w15.keepM rfl (fun h j hj => upd_on (h j hj)), hR.w16.keepM rfl (fun h j hj => upd_on (h j hj)), (fun _ => rfl), (fun _ => rfl), (fun _ => rfl), hR.f3.keep rfl, hR.f4.keep rfl, hR.f5.keep rfl, hR.f6.keep rfl, hR.f7.keep rfl, hR.f8.keep rfl, hR.f9.keep rfl, hR.f10.keep rfl, hR.f11.keep rfl, hR.f12.keep rfl, hR.f13.keep rfl, hR.f14.keep rfl, hR.f15.keep rfl⟩⟩
                            refine EachOf.cons [2] rfl (by kernel_rfl) ?_ ?_
                            · rintro L A W ⟨v, rfl, hR⟩ hi hw K hK
                              have hk : L 16 = false := hR.w16.not hi rfl
                              have e2 := hR.f2 (hw 2 (by simp))
                              simp only [e2]
                              clear e2
                              have q0 := ((hR.st hk).cell (p := ⟨xb, a, none⟩) LA.out.2).trans LA.out.1
                              go_simp
                              refine hK.out _ _ ?_
                              exact ⟨(fun jz => if jz = 201 then .pointer (some ⟨xb, a, none⟩) else if jz = 202 then .slice (some ⟨G a, 0, none⟩) (n) (C a) else v jz), rfl, ⟨(fun h => hR.st (upd_false h)), hR.s1.keep rfl, hR.w2.keepM rfl (fun h j hj => upd_on (h j hj)), (fun _ j hj => upd_on (hw j hj)), hR.w5.keepM rfl (fun h j hj => upd_on (h j hj)), hR.w6.keepM rfl (fun h j hj => upd_on (h j hj)), hR.w9.keepM rfl (fun h j hj => upd_on (h j hj)), hR.w10.keepM rfl (fun h j hj => upd_on (h j hj)), hR.w12.keepM rfl (fun h j hj => upd_on (h j hj)), hR.w13.keepM rfl (fun h j hj => upd_on (h j hj)), hR.w14.keepM rfl (fun h j hj => upd_on (h j hj)), hR.w15.keepM rfl (fun h j hj => upd_on (h j hj)), hR.w16.keepM rfl (fun h j hj => upd_on (h j hj)), hR.f0.keep rfl, hR.f1.keep rfl, (fun _ => rfl), (fun _ => rfl), hR.f4.keep rfl, hR.f5.keep rfl, hR.f6.keep rfl, hR.f7.keep rfl, hR.f8.keep rfl, hR.f9.keep rfl, hR.f10.keep rfl, hR.f11.keep rfl, hR.f12.keep rfl, hR.f13.keep rfl, hR.f14.keep rfl, hR.f15.keep rfl⟩⟩
                            refine EachOf.cons [] rfl (by kernel_rfl) ?_ ?_
                            · rintro L A W ⟨v, rfl, hR⟩ hi hw K hK
                              have hk : L 16 = false := hR.w16.not hi rfl
                              go_simp
                              refine hK.out _ _ ?_
                              exact ⟨(fun jz => if jz = 203 then .int .i64 (l : Int) else v jz), rfl, ⟨(fun h => hR.st (upd_false h)), hR.s1.keep rfl, hR.w2.keepM rfl (fun h j hj => upd_on (h j hj)), hR.w3.keepM rfl (fun h j hj => upd_on (h j hj)), hR.w5.keepM rfl (fun h j hj => upd_on (h j hj)), hR.w6.keepM rfl (fun h j hj => upd_on (h j hj)), hR.w9.keepM rfl (fun h j hj => upd_on (h j hj)), hR.w10.keepM rfl (fun h j hj => upd_on (h j hj)), hR.w12.keepM rfl (fun h j hj => upd_on (h j hj)), hR.w13.keepM rfl (fun h j hj => upd_on (h j hj)), hR.w14.keepM rfl (fun h j hj => upd_on (h j hj)), hR.w15.keepM rfl (fun h j hj => upd_on (h j hj)), hR.w16.keepM rfl (fun h j hj => upd_on (h j hj)), hR.f0.keep rfl, hR.f1.keep rfl, hR.f2.keep rfl, hR.f3.keep rfl, (fun _ => rfl), hR.f5.keep rfl, hR.f6.keep rfl, hR.f7.keep rfl, hR.f8.keep rfl, hR.f9.keep rfl, hR.f10.keep rfl, hR.f11.keep rfl, hR.f12.keep rfl, hR.f13.keep rfl, hR.f14.keep rfl, hR.f15.keep rfl⟩⟩
                            refine EachOf.cons [3, 4] rfl (by kernel_rfl) ?_ ?_
                            · rintro L A W ⟨v, rfl, hR⟩ hi hw K hK
                              have hk : L 16 = false := hR.w16.not hi rfl
                              have e3 := hR.f3 (hw 3 (by simp))
                              have e4 := hR.f4 (hw 4 (by simp))
                              simp only [e3, e4]
                              clear e3 e4
                              go_simp
                              refine hK.out _ _ ?_
                              exact ⟨(fun jz => if jz = 202 then .slice (some ⟨G a, 0, none⟩) (n) (C a) else if jz = 203 then .int .i64 (l : Int) else if jz = 204 then .pointer (some ⟨G a, l, none⟩) else v jz), rfl, ⟨(fun h => hR.st (upd_false h)), hR.s1.keep rfl, hR.w2.keepM rfl (fun h j hj => upd_on (h j hj)), hR.w3.keepM rfl (fun h j hj => upd_on (h j hj)), (fun _ j hj => upd_on (hw j hj)), hR.w6.keepM rfl (fun h j hj => upd_on (h j hj)), hR.w9.keepM rfl (fun h j hj => upd_on (h j hj)), hR.w10.keepM rfl (fun h j hj => upd_on (h j hj)), hR.w12.keepM rfl (fun h j hj => upd_on (h j hj)), hR.w13.keepM rfl (fun h j hj => upd_on (h j hj)), hR.w14.keepM rfl (fun h j hj => upd_on (h j hj)), hR.w15.keepM rfl (fun h j hj => upd_on (h j hj)), hR.w16.keepM rfl (fun h j hj => upd_on (h j hj)), hR.f0.keep rfl, hR.f1.keep rfl, hR.f2.keep rfl, (fun _ => rfl), (fun _ => rfl), (fun _ => rfl), hR.f6.keep rfl, hR.f7.keep rfl, hR.f8.keep rfl, hR.f9.keep rfl, hR.f10.keep rfl, hR.f11.keep rfl, hR.f12.keep rfl, hR.f13.keep rfl, hR.f14.keep rfl, hR.f15.keep rfl⟩⟩
                            refine EachOf.cons [5] rfl (by kernel_rfl) ?_ ?_
                            · rintro L A W ⟨v, rfl, hR⟩ hi hw K hK
                              have hk : L 16 = false := hR.w16.not hi rfl
                              have e5 := hR.f5 (hw 5 (by simp))
                              simp only [e5]
                              clear e5
                              have q0 := ((hR.st hk).cell (p := ⟨G a, l, none⟩) LC.out.2).trans LC.out.1
                              go_simp
                              refine hK.out _ _ ?_
                              exact ⟨(fun jz => if jz = 204 then .pointer (some ⟨G a, l, none⟩) else if jz = 205 then .int .i64 va2 else v jz), rfl, ⟨(fun h => hR.st (upd_false h)), hR.s1.keep rfl, hR.w2.keepM rfl (fun h j hj => upd_on (h j hj)), hR.w3.keepM rfl (fun h j hj => upd_on (h j hj)), hR.w5.keepM rfl (fun h j hj => upd_on (h j hj)), (fun _ j hj => upd_on (hw j hj)), hR.w9.keepM rfl (fun h j hj => upd_on (h j hj)), hR.w10.keepM rfl (fun h j hj => upd_on (h j hj)), hR.w12.keepM rfl (fun h j hj => upd_on (h j hj)), hR.w13.keepM rfl (fun h j hj => upd_on (h j hj)), hR.w14.keepM rfl (fun h j hj => upd_on (h j hj)), hR.w15.keepM rfl (fun h j hj => upd_on (h j hj)), hR.w16.keepM rfl (fun h j hj => upd_on (h j hj)), hR.f0.keep rfl, hR.f1.keep rfl, hR.f2.keep rfl, hR.f3.keep rfl, hR.f4.keep rfl, (fun _ => rfl), (fun _ => rfl), hR.f7.keep rfl, hR.f8.keep rfl, hR.f9.keep rfl, hR.f10.keep rfl, hR.f11.keep rfl, hR.f12.keep rfl, hR.f13.keep rfl, hR.f14.keep rfl, hR.f15.keep rfl⟩⟩
                            refine EachOf.cons [] rfl (by kernel_rfl) ?_ ?_
                            · rintro L A W ⟨v, rfl, hR⟩ hi hw K hK
                              have hk : L 16 = false := hR.w16.not hi rfl
                              go_simp
                              refine hK.out _ _ ?_
                              exact ⟨(fun jz => if jz = 206 then .slice (some ⟨xb, 0, none⟩) (j) (Cb) else v jz), rfl, ⟨(fun h => hR.st (upd_false h)), hR.s1.keep rfl, hR.w2.keepM rfl (fun h j hj => upd_on (h j hj)), hR.w3.keepM rfl (fun h j hj => upd_on (h j hj)), hR.w5.keepM rfl (fun h j hj => upd_on (h j hj)), hR.w6.keepM rfl (fun h j hj => upd_on (h j hj)), hR.w9.keepM rfl (fun h j hj => upd_on (h j hj)), hR.w10.keepM rfl (fun h j hj => upd_on (h j hj)), hR.w12.keepM rfl (fun h j hj => upd_on (h j hj)), hR.w13.keepM rfl (fun h j hj => upd_on (h j hj)), hR.w14.keepM rfl (fun h j hj => upd_on (h j hj)), hR.w15.keepM rfl (fun h j hj => upd_on (h j hj)), hR.w16.keepM rfl (fun h j hj => upd_on (h j hj)), hR.f0.keep rfl, hR.f1.keep rfl, hR.f2.keep rfl, hR.f3.keep rfl, hR.f4.keep rfl, hR.f5.keep rfl, hR.f6.keep rfl, (fun _ => rfl), hR.f8.keep rfl, hR.f9.keep rfl, hR.f10.keep rfl, hR.f11.keep rfl, hR.f12.keep rfl, hR.f13.keep rfl, hR.f14.keep rfl, hR.f15.keep rfl⟩⟩
                            refine EachOf.cons [] rfl (by kernel_rfl) ?_ ?_
                            · rintro L A W ⟨v, rfl, hR⟩ hi hw K hK
                              have hk : L 16 = false := hR.w16.not hi rfl
                              go_simp
                              refine hK.out _ _ ?_
                              exact ⟨(fun jz => if jz = 207 then .int .i64 (b : Int) else v jz), rfl, ⟨(fun h => hR.st (upd_false h)), hR.s1.keep rfl, hR.w2.keepM rfl (fun h j hj => upd_on (h j hj)), hR.w3.keepM rfl (fun h j hj => upd_on (h j hj)), hR.w5.keepM rfl (fun h j hj => upd_on (h j hj)), hR.w6.keepM rfl (fun h j hj => upd_on (h j hj)), hR.w9.keepM rfl (fun h j hj => upd_on (h j hj)), hR.w10.keepM rfl (fun h j hj => upd_on (h j hj)), hR.w12.keepM rfl (fun h j hj => upd_on (h j hj)), hR.w13.keepM rfl (fun h j hj => upd_on (h j hj)), hR.w14.keepM rfl (fun h j hj => upd_on (h j hj)), hR.w15.keepM rfl (fun h j hj => upd_on (h j hj)), hR.w16.keepM rfl (fun h j hj => upd_on (h j hj)), hR.f0.keep rfl, hR.f1.keep rfl, hR.f2.keep rfl, hR.f3.keep rfl, hR.f4.keep rfl, hR.f5.keep rfl, hR.f6.keep rfl, hR.f7.keep rfl, (fun _ => rfl), hR.f9.keep rfl, hR.f10.keep rfl, hR.f11.keep rfl, hR.f12.keep rfl, hR.f13.keep rfl, hR.f14.keep rfl, hR.f15.keep rfl⟩⟩
                            refine EachOf.cons [7, 8] rfl (by kernel_rfl) ?_ ?_
                            · rintro L A W ⟨v, rfl, hR⟩ hi hw K hK
                              have hk : L 16 = false := hR.w16.not hi rfl
                              have e7 := hR.f7 (hw 7 (by simp))
                              have e8 := hR.f8 (hw 8 (by simp))
                              simp only [e7, e8]
                              clear e7 e8
                              go_simp
                              refine hK.out _ _ ?_
                              exact ⟨(fun jz => if jz = 206 then .slice (some ⟨xb, 0, none⟩) (j) (Cb) else if jz = 207 then .int .i64 (b : Int) else if jz = 208 then .pointer (some ⟨xb, b, none⟩) else v jz), rfl, ⟨(fun h => hR.st (upd_false h)), hR.s1.keep rfl, hR.w2.keepM rfl (fun h j hj => upd_on (h j hj)), hR.w3.keepM rfl (fun h j hj => upd_on (h j hj)), hR.w5.keepM rfl (fun h j hj => upd_on (h j hj)), hR.w6.keepM rfl (fun h j hj => upd_on (h j hj)), (fun _ j hj => upd_on (hw j hj)), hR.w10.keepM rfl (fun h j hj => upd_on (h j hj)), hR.w12.keepM rfl (fun h j hj => upd_on (h j hj)), hR.w13.keepM rfl (fun h j hj => upd_on (h j hj)), hR.w14.keepM rfl (fun h j hj => upd_on (h j hj)), hR.w15.keepM rfl (fun h j hj => upd_on (h j hj)), hR.w16.keepM rfl (fun h j hj => upd_on (h j hj)), hR.f0.keep rfl, hR.f1.keep rfl, hR.f2.keep rfl, hR.f3.keep rfl, hR.f4.keep rfl, hR.f5.keep rfl, hR.f6.keep rfl, (fun _ => rfl), (fun _ => rfl), (fun _ => rfl), hR.f10.keep rfl, hR.f11.keep rfl, hR.f12.keep rfl, hR.f13.keep rfl, hR.f14.keep rfl, hR.f15.keep rfl⟩⟩
                            refine EachOf.cons [9] rfl (by kernel_rfl) ?_ ?_
                            · rintro L A W ⟨v, rfl, hR⟩ hi hw K hK
                              have hk : L 16 = false := hR.w16.not hi rfl
                              have e9 := hR.f9 (hw 9 (by simp))
                              simp only [e9]
                              clear e9
                              have q0 := ((hR.st hk).cell (p := ⟨xb, b, none⟩) LB.out.2).trans LB.out.1
                              go_simp
                              refine hK.out _ _ ?_
                              exact ⟨(fun jz => if jz = 208 then .pointer (some ⟨xb, b, none⟩) else if jz = 209 then .slice (some ⟨G b, 0, none⟩) (n) (C b) else v jz), rfl, ⟨(fun h => hR.st (upd_false h)), hR.s1.keep rfl, hR.w2.keepM rfl (fun h j hj => upd_on (h j hj)), hR.w3.keepM rfl (fun h j hj => upd_on (h j hj)), hR.w5.keepM rfl (fun h j hj => upd_on (h j hj)), hR.w6.keepM rfl (fun h j hj => upd_on (h j hj)), hR.w9.keepM rfl (fun h j hj => upd_on (h j hj)), (fun _ j hj => upd_on (hw j hj)), hR.w12.keepM rfl (fun h j hj => upd_on (h j hj)), hR.w13.keepM rfl (fun h j hj => upd_on (h j hj)), hR.w14.keepM rfl (fun h j hj => upd_on (h j hj)), hR.w15.keepM rfl (fun h j hj => upd_on (h j hj)), hR.w16.keepM rfl (fun h j hj => upd_on (h j hj)), hR.f0.keep rfl, hR.f1.keep rfl, hR.f2.keep rfl, hR.f3.keep rfl, hR.f4.keep rfl, hR.f5.keep rfl, hR.f6.keep rfl, hR.f7.keep rfl, hR.f8.keep rfl, (fun _ => rfl), (fun _ => rfl), hR.f11.keep rfl, hR.f12.keep rfl, hR.f13.keep rfl, hR.f14.keep rfl, hR.f15.keep rfl⟩⟩
                            refine EachOf.cons [] rfl (by kernel_rfl) ?_ ?_
                            · rintro L A W ⟨v, rfl, hR⟩ hi hw K hK
                              have hk : L 16 = false := hR.w16.not hi rfl
                              go_simp
                              refine hK.out _ _ ?_
                              exact ⟨(fun jz => if jz = 210 then .int .i64 (l : Int) else v jz), rfl, ⟨(fun h => hR.st (upd_false h)), hR.s1.keep rfl, hR.w2.keepM rfl (fun h j hj => upd_on (h j hj)), hR.w3.keepM rfl (fun h j hj => upd_on (h j hj)), hR.w5.keepM rfl (fun h j hj => upd_on (h j hj)), hR.w6.keepM rfl (fun h j hj => upd_on (h j hj)), hR.w9.keepM rfl (fun h j hj => upd_on (h j hj)), hR.w10.keepM rfl (fun h j hj => upd_on (h j hj)), hR.w12.keepM rfl (fun h j hj => upd_on (h j hj)), hR.w13.keepM rfl (fun h j hj => upd_on (h j hj)), hR.w14.keepM rfl (fun h j hj => upd_on (h j hj)), hR.w15.keepM rfl (fun h j hj => upd_on (h j hj)), hR.w16.keepM rfl (fun h j hj => upd_on (h j hj)), hR.f0.keep rfl, hR.f1.keep rfl, hR.f2.keep rfl, hR.f3.keep rfl, hR.f4.keep rfl, hR.f5.keep rfl, hR.f6.keep rfl, hR.f7.keep rfl, hR.f8.keep rfl, hR.f9.keep rfl, hR.f10.keep rfl, (fun _ => rfl), hR.f12.keep rfl, hR.f13.keep rfl, hR.f14.keep rfl, hR.f15.keep rfl⟩⟩
                            refine EachOf.cons [10, 11] rfl (by kernel_rfl) ?_ ?_
                            · rintro L A W ⟨v, rfl, hR⟩ hi hw K hK
                              have hk : L 16 = false := hR.w16.not hi rfl
                              have e10 := hR.f10 (hw 10 (by simp))
                              have e11 := hR.f11 (hw 11 (by simp))
                              simp only [e10, e11]
                              clear e10 e11
                              go_simp
                              refine hK.out _ _ ?_
                              exact ⟨(fun jz => if jz = 209 then .slice (some ⟨G b, 0, none⟩) (n) (C b) else if jz = 210 then .int .i64 (l : Int) else if jz = 211 then .pointer (some ⟨G b, l, none⟩) else v jz), rfl, ⟨(fun h => hR.st (upd_false h)), hR.s1.keep rfl, hR.w2.keepM rfl (fun h j hj => upd_on (h j hj)), hR.w3.keepM rfl (fun h j hj => upd_on (h j hj)), hR.w5.keepM rfl (fun h j hj => upd_on (h j hj)), hR.w6.keepM rfl (fun h j hj => upd_on (h j hj)), hR.w9.keepM rfl (fun h j hj => upd_on (h j hj)), hR.w10.keepM rfl (fun h j hj => upd_on (h j hj)), (fun _ j hj => upd_on (hw j hj)), hR.w13.keepM rfl (fun h j hj => upd_on (h j hj)), hR.w14.keepM rfl (fun h j hj => upd_on (h j hj)), hR.w15.keepM rfl (fun h j hj => upd_on (h j hj)), hR.w16.keepM rfl (fun h j hj => upd_on (h j hj)), hR.f0.keep rfl, hR.f1.keep rfl, hR.f2.keep rfl, hR.f3.keep rfl, hR.f4.keep rfl, hR.f5.keep rfl, hR.f6.keep rfl, hR.f7.keep rfl, hR.f8.keep rfl, hR.f9.keep rfl, (fun _ => rfl), (fun _ => rfl), (fun _ => rfl), hR.f13.keep rfl, hR.f14.keep rfl, hR.f15.keep rfl⟩⟩
                            refine EachOf.cons [12] rfl (by kernel_rfl) ?_ ?_
                            · rintro L A W ⟨v, rfl, hR⟩ hi hw K hK
                              have hk : L 16 = false := hR.w16.not hi rfl
                              have e12 := hR.f12 (hw 12 (by simp))
                              simp only [e12]
                              clear e12
                              have q0 := ((hR.st hk).cell (p := ⟨G b, l, none⟩) LD.out.2).trans LD.out.1
                              go_simp
                              refine hK.out _ _ ?_
                              exact ⟨(fun jz => if jz = 211 then .pointer (some ⟨G b, l, none⟩) else if jz = 212 then .int .i64 vb2 else v jz), rfl, ⟨(fun h => hR.st (upd_false h)), hR.s1.keep rfl, hR.w2.keepM rfl (fun h j hj => upd_on (h j hj)), hR.w3.keepM rfl (fun h j hj => upd_on (h j hj)), hR.w5.keepM rfl (fun h j hj => upd_on (h j hj)), hR.w6.keepM rfl (fun h j hj => upd_on (h j hj)), hR.w9.keepM rfl (fun h j hj => upd_on (h j hj)), hR.w10.keepM rfl (fun h j hj => upd_on (h j hj)), hR.w12.keepM rfl (fun h j hj => upd_on (h j hj)), (fun _ j hj => upd_on (hw j hj)), hR.w14.keepM rfl (fun h j hj => upd_on (h j hj)), hR.w15.keepM rfl (fun h j hj => upd_on (h j hj)), hR.w16.keepM rfl (fun h j hj => upd_on (h j hj)), hR.f0.keep rfl, hR.f1.keep rfl, hR.f2.keep rfl, hR.f3.keep rfl, hR.f4.keep rfl, hR.f5.keep rfl, hR.f6.keep rfl, hR.f7.keep rfl, hR.f8.keep rfl, hR.f9.keep rfl, hR.f10.keep rfl, hR.f11.keep rfl, (fun _ => rfl), (fun _ => rfl), hR.f14.keep rfl, hR.f15.keep rfl⟩⟩
                            refine EachOf.cons [6, 13] rfl (by kernel_rfl) ?_ ?_
                            · rintro L A W ⟨v, rfl, hR⟩ hi hw K hK
                              have hk : L 16 = false := hR.w16.not hi rfl
                              have e6 := hR.f6 (hw 6 (by simp))
                              have e13 := hR.f13 (hw 13 (by simp))
                              simp only [e6, e13]
                              clear e6 e13
                              go_simp
                              refine hK.out _ _ ?_
                              exact ⟨(fun jz => if jz = 205 then .int .i64 va2 else if jz = 212 then .int .i64 vb2 else if jz = 213 then .int .i64 s else v jz), rfl, ⟨(fun h => hR.st (upd_false h)), hR.s1.keep rfl, hR.w2.keepM rfl (fun h j hj => upd_on (h j hj)), hR.w3.keepM rfl (fun h j hj => upd_on (h j hj)), hR.w5.keepM rfl (fun h j hj => upd_on (h j hj)), hR.w6.keepM rfl (fun h j hj => upd_on (h j hj)), hR.w9.keepM rfl (fun h j hj => upd_on (h j hj)), hR.w10.keepM rfl (fun h j hj => upd_on (h j hj)), hR.w12.keepM rfl (fun h j hj => upd_on (h j hj)), hR.w13.keepM rfl (fun h j hj => upd_on (h j hj)), (fun _ j hj => upd_on (hw j hj)), hR.w15.keepM rfl (fun h j hj => upd_on (h j hj)), hR.w16.keepM rfl (fun h j hj => upd_on (h j hj)), hR.f0.keep rfl, hR.f1.keep rfl, hR.f2.keep rfl, hR.f3.keep rfl, hR.f4.keep rfl, hR.f5.keep rfl, (fun _ => rfl), hR.f7.keep rfl, hR.f8.keep rfl, hR.f9.keep rfl, hR.f10.keep rfl, hR.f11.keep rfl, hR.f12.keep rfl, (fun _ => rfl), (fun _ => rfl), hR.f15.keep rfl⟩⟩
                            refine EachOf.cons [3, 4] rfl (by kernel_rfl) ?_ ?_
                            · rintro L A W ⟨v, rfl, hR⟩ hi hw K hK
                              have hk : L 16 = false := hR.w16.not hi rfl
                              have e3 := hR.f3 (hw 3 (by simp))
                              have e4 := hR.f4 (hw 4 (by simp))
                              simp only [e3, e4]
                              clear e3 e4
                              go_simp
                              refine hK.out _ _ ?_
                              exact ⟨(fun jz => if jz = 202 then .slice (some ⟨G a, 0, none⟩) (n) (C a) else if jz = 203 then .int .i64 (l : Int) else if jz = 214 then .pointer (some ⟨G a, l, none⟩) else v jz), rfl, ⟨(fun h => hR.st (upd_false h)), hR.s1.keep rfl, hR.w2.keepM rfl (fun h j hj => upd_on (h j hj)), hR.w3.keepM rfl (fun h j hj => upd_on (h j hj)), hR.w5.keepM rfl (fun h j hj => upd_on (h j hj)), hR.w6.keepM rfl (fun h j hj => upd_on (h j hj)), hR.w9.keepM rfl (fun h j hj => upd_on (h j hj)), hR.w10.keepM rfl (fun h j hj => upd_on (h j hj)), hR.w12.keepM rfl (fun h j hj => upd_on (h j hj)), hR.w13.keepM rfl (fun h j hj => upd_on (h j hj)), hR.w14.keepM rfl (fun h j hj => upd_on (h j hj)), (fun _ j hj => upd_on (hw j hj)), hR.w16.keepM rfl (fun h j hj => upd_on (h j hj)), hR.f0.keep rfl, hR.f1.keep rfl, hR.f2.keep rfl, (fun _ => rfl), (fun _ => rfl), hR.f5.keep rfl, hR.f6.keep rfl, hR.f7.keep rfl, hR.f8.keep rfl, hR.f9.keep rfl, hR.f10.keep rfl, hR.f11.keep rfl, hR.f12.keep rfl, hR.f13.keep rfl, hR.f14.keep rfl, (fun _ => rfl)⟩⟩
                            refine EachOf.cons [0, 1, 2, 3, 4, 5, 6, 7, 8, 9, 10, 11, 12, 13, 14, 15] rfl (by kernel_rfl) ?_ ?_
                            · rintro L A W ⟨v, rfl, hR⟩ hi hw K hK
                              have e15 := hR.f15 (hw 15 (by simp))
                              have e14 := hR.f14 (hw 14 (by simp))
                              simp only [e15, e14]
                              clear e15 e14
                              have q1 := (hR.st hi).cell (p := ⟨G a, l, none⟩) LC.out.2
                              rw [LC.out.1] at q1
                              have q2 := (hR.st hi).frozen (p := ⟨G a, l, none⟩) LC.out.2
                              rw [LCF.out] at q2
                              go_simp
                              refine hK.out _ _ ?_
                              exact ⟨(fun jz => if jz = 214 then .pointer (some ⟨G a, l, none⟩) else if jz = 213 then .int .i64 s else v jz), rfl, ⟨(fun h => by simp [upd_self] at h), (fun _ => ⟨W, hR.st hi, rfl⟩), hR.w2.keepM rfl (fun h j hj => upd_on (h j hj)), hR.w3.keepM rfl (fun h j hj => upd_on (h j hj)), hR.w5.keepM rfl (fun h j hj => upd_on (h j hj)), hR.w6.keepM rfl (fun h j hj => upd_on (h j hj)), hR.w9.keepM rfl (fun h j hj => upd_on (h j hj)), hR.w10.keepM rfl (fun h j hj => upd_on (h j hj)), hR.w12.keepM rfl (fun h j hj => upd_on (h j hj)), hR.w13.keepM rfl (fun h j hj => upd_on (h j hj)), hR.w14.keepM rfl (fun h j hj => upd_on (h j hj)), hR.w15.keepM rfl (fun h j hj => upd_on (h j hj)), (fun _ j hj => upd_on (hw j hj)), hR.f0.keep rfl, hR.f1.keep rfl, hR.f2.keep rfl, hR.f3.keep rfl, hR.f4.keep rfl, hR.f5.keep rfl, hR.f6.keep rfl, hR.f7.keep rfl, hR.f8.keep rfl, hR.f9.keep rfl, hR.f10.keep rfl, hR.f11.keep rfl, hR.f12.keep rfl, hR.f13.keep rfl, (fun _ => rfl), (fun _ => rfl)⟩⟩
                            exact EachOf.nil
                        rintro L A W ⟨v, rfl, hR⟩ hL
                        obtain ⟨W5, hb5, hW⟩ := hR.s1 (hL 16 (by simp))
                        have T1 := (T.out.1.on hb5).set a l la hltl s
                        have T2 : Grid W2.heap.size W xb j n G C (addF a b (l + 1) Z) := by
                          rw [hW]
                          refine T1.congr fun i k hi hk => ?_
                          unfold setE addF
                          by_cases q : i = a ∧ k = l
                          · obtain ⟨q1, q2⟩ := q
                            subst q1; subst q2
                            rw [if_pos ⟨rfl, by omega⟩, if_pos ⟨rfl, rfl⟩]; exact HSS.out
                          · rw [if_neg q]
                            by_cases q2 : i = a ∧ k < l
                            · rw [if_pos q2, if_pos ⟨q2.1, by omega⟩]
                            · rw [if_neg q2, if_neg (fun h => by
                                have h1 := h.1
                                have h2 := h.2
                                by_cases q3 : k = l
                                · exact q ⟨h1, q3⟩
                                · exact q2 ⟨h1, by omega⟩)]
                        have T3 : Below W2.heap.size W2 W := by
                          rw [hW]
                          exact (below_on T.out.2 hb5).setCell (T.out.1.row a la).1 _
                        have T4 := Lib.hid (And.intro T2 T3)
                        clear T1 T2 T3 hW hb5 W5 hR hL LA LB LC LD LCF HSS ws T
                        go_wp2_with fail
                        go_roundg (n - (l + 1))
                        case measure => omega
                        case rel => exact ⟨l + 1, rfl, rfl, by omega, T4⟩
                      · have e : l = n := by omega
                        subst e
                        have HG5 : Hid (Grid W2.heap.size W1 xb j l G C (rowA a b Z)) := T.out.1.congr fun i k hi hk => by
                          unfold addF rowA
                          by_cases q : i = a
                          · rw [if_pos q, if_pos ⟨q, hk⟩]
                          · rw [if_neg q, if_neg (fun h => q h.1)]
                        have HB10 := Lib.hid (below_on HB9.out T.out.2)
                        have HX11 := Lib.hid (HX10.out.on T.out.2)
                        clear T HB9 HX9 HX10
                        have CVW0 := lValid_any (some ⟨xb, 0, none⟩) j Cb (fun i => some ⟨G i, 0, none⟩) (fun _ => l) C (rowA a b Z) W1 (HG5.out.amat (by omega)) (by omega)
                        obtain ⟨tv, htv⟩ : ∃ v, vM j (fun _ => l) (rowA a b Z) = v := ⟨_, rfl⟩
                        rw [htv] at CVW0
                        have CVW := Lib.hid CVW0
                        have HTV := Lib.hid htv
                        clear CVW0 htv
                        go_wp2_with fail
                        (with_reducible refine ((CVW.out).mono ?_))
                        rintro e W5 ⟨rfl, hb5⟩
                        have HB11 := Lib.hid (below_on HB10.out hb5)
                        have HX12 := Lib.hid (HX11.out.on hb5)
                        have HG6 := Lib.hid (HG5.out.on hb5)
                        clear CVW hb5 HB10 HX11 HG5
                        cases tv
                        case false =>
                          go_wp2_with fail
                          go_ret
                          exact ⟨rfl, HB11.out⟩
                        case true =>
                          have HVW := Lib.hid (vM_true.1 HTV.out)
                          have CDM := Lib.hid (Det_all (some ⟨mb, mo, none⟩) j mc Ra Ln Ka Z W5 l HN.out (HM.out.on HB11.out) HV.out)
                          have CDW := fun W hb => Lib.hid (Det_all (some ⟨xb, 0, none⟩) j Cb (fun i => some ⟨G i, 0, none⟩) (fun _ => l) C (rowA a b Z) W l rfl ((HG6.out.on hb).amat (by omega)) HVW.out)
                          go_wp2_with fail
                          (with_reducible refine ((CDM.out).mono ?_))
                          rintro e W6 ⟨hb6, dv, de, rfl, hD⟩
                          have HK6 := Lib.hid hb6
                          have HD := Lib.hid hD
                          clear CDM hb6 hD
                          go_wp2_with fail
                          (with_reducible refine (((CDW _ HK6.out).out).mono ?_))
                          rintro e W7 ⟨hb7, dv2, de2, rfl, hD⟩
                          obtain ⟨e1, e2⟩ := HD.out.rowA la lb HAB.out hD
                          subst e1
                          subst e2
                          have HK7 := Lib.hid (below_on HK6.out hb7)
                          have HB12 := Lib.hid (below_on HB11.out HK7.out)
                          have CCR := Lib.hid (clone_irow (some ⟨rg, ro, none⟩) j rc f W7 (HRr.out.on HB12.out) hR0 (by omega))
                          clear CDW hb7 hD HD HK6
                          go_wp2_with fail
                          (with_reducible refine ((CCR.out).mono ?_))
                          rintro e W1 ⟨rb, cp, rfl, hcp, hN, hb8⟩
                          have HNR := Lib.hid hN
                          have HK8 := Lib.hid (below_on HK7.out hb8)
                          have HKR : Hid (w.heap.size ≤ rb) := Nat.le_trans HB12.out.size hN.lo
                          have hcp1 := hN.cap
                          have HLW : Hid (W5.heap.size ≤ W7.heap.size) := HK7.out.size
                          clear CCR hN hb8 HK7 HB12
                          have fa := HRF.out.1 a la
                          have fb := HRF.out.1 b lb
                          have LA : Hid (W1.cell? ⟨rb, a, none⟩ = some (.int .i64 (f a)) ∧ rb < W1.heap.size) := ⟨HNR.out.cell a la, HNR.out.hb⟩
                          have LB : Hid (W1.cell? ⟨rb, b, none⟩ = some (.int .i64 (f b)) ∧ rb < W1.heap.size) := ⟨HNR.out.cell b lb, HNR.out.hb⟩
                          have LAF : Hid (W1.frozen? ⟨rb, a, none⟩ = false) := HNR.out.fz a la
                          obtain ⟨va2, hva⟩ : ∃ x, f a = x := ⟨_, rfl⟩
                          obtain ⟨vb2, hvb⟩ : ∃ x, f b = x := ⟨_, rfl⟩
                          rw [hva] at fa LA
                          rw [hvb] at fb LB
                          obtain ⟨s, hs⟩ : ∃ s, va2 + vb2 = s := ⟨_, rfl⟩
                          have ws : IntKind.i64.wrap (va2 + vb2) = s := by rw [IntWalk.i64_in _ (by omega), hs]
                          have HSS : Hid (f a + f b = s) := by show f a + f b = s; rw [hva, hvb]; exact hs
                          clear hva hvb hs fa fb
                          go_upto_region 42 with fail
                          refine wp_region_each (fun L A W => ∃ (v : Nat → Value), A = ⟨#[_, _, _, _, _, _, _, _, _, _, _, _, _, _, _, _, _, _, _, _, _, _, _, _, _, _, _, _, _, _, _, _, _, _, _, _, _, _, _, _, _, _, _, _, _, _, _, _, _, _, _, _, _, _, _, _, _, _, _, _, _, _, _, _, _, _, _, _, _, _, _, _, _, _, _, _, _, _, _, _, _, _, _, _, _, _, _, _, _, _, _, _, _, _, _, _, _, _, _, _, _, _, _, _, _, _, _, _, _, _, _, _, _, _, _, _, _, _, _, _, _, _, _, _, _, _, _, _, _, _, _, _, _, _, _, _, _, _, _, _, _, _, _, _, _, _, _, _, _, _, _, _, _, _, _, _, _, _, _, _, _, _, _, _, _, _, _, _, _, _, _, _, _, _, _, _, _, _, _, _, _, _, _, _, _, _, _, _, _, _, _, _, _, _, _, _, _, _, _, _, _, _, _, _, _, _, _, _, _, _, _, _, _, _, _, _, _, _, _, _, _, _, _, _, _, _, _, _, _, _, _, _, _, _, _, _, _, _, _, v 239, v 240, v 241, v 242, v 243, v 244, v 245, v 246, v 247, v 248, _, _, _, _, _, _, _, _, _, _, _, _, _, _, _, _, _, _], []⟩ ∧ AdDR rb j cp a b va2 vb2 s W1 L v W) (by kernel_rfl) (by kernel_rfl) ⟨fun jz => if jz = 239 then u239 else if jz = 240 then u240 else if jz = 241 then u241 else if jz = 242 then u242 else if jz = 243 then u243 else if jz = 244 then u244 else if jz = 245 then u245 else if jz = 246 then u246 else if jz = 247 then u247 else if jz = 248 then u248 else undef, rfl, ⟨(fun _ => Below.drew (Below.refl _ _)), Had.none, Had.none, Had.none, Had.none, Had.none, Had.none, Had.none, Had.none, Had.none, Had.none, Had.none, Had.none, Had.none, Had.none, Had.none, Had.none, Had.none, Had.none⟩⟩ (rs := [0, 1, 2, 3, 4, 5, 6, 7, 8, 9, 10]) (by kernel_rfl) ?_ ?_
                          · as_aux_lemma =>
                              refine EachOf.cons [] rfl (by kernel_rfl) ?_ ?_
                              · rintro L A W ⟨v, rfl, hR⟩ hi hw K hK
                                have hk : L 10 = false := hR.w10.not hi rfl
                                go_simp
                                refine hK.out _ _ ?_
                                exact ⟨(fun jz => if jz = 239 then .slice (some ⟨rb, 0, none⟩) (j) (cp) else v jz), rfl, ⟨(fun h => hR.st (upd_false h)), hR.s1.keep rfl, hR.w2.keepM rfl (fun h j hj => upd_on (h j hj)), hR.w3.keepM rfl (fun h j hj => upd_on (h j hj)), hR.w6.keepM rfl (fun h j hj => upd_on (h j hj)), hR.w7.keepM rfl (fun h j hj => upd_on (h j hj)), hR.w8.keepM rfl (fun h j hj => upd_on (h j hj)), hR.w9.keepM rfl (fun h j hj => upd_on (h j hj)), hR.w10.keepM rfl (fun h j hj => upd_on (h j hj)), (fun _ => rfl), hR.f1.keep rfl, hR.f2.keep rfl, hR.f3.keep rfl, hR.f4.keep rfl, hR.f5.keep rfl, hR.f6.keep rfl, hR.f7.keep rfl, hR.f8.keep rfl, hR.f9.keep rfl⟩⟩
                              refine EachOf.cons [] rfl (by kernel_rfl) ?_ ?_
                              · rintro L A W ⟨v, rfl, hR⟩ hi hw K hK
                                have hk : L 10 = false := hR.w10.not hi rfl
                                go_simp
                                refine hK.out _ _ ?_
                                exact ⟨(fun jz => if jz = 240 then .int .i64 (a : Int) else v jz), rfl, ⟨(fun h => hR.st (upd_false h)), hR.s1.keep rfl, hR.w2.keepM rfl (fun h j hj => upd_on (h j hj)), hR.w3.keepM rfl (fun h j hj => upd_on (h j hj)), hR.w6.keepM rfl (fun h j hj => upd_on (h j hj)), hR.w7.keepM rfl (fun h j hj => upd_on (h j hj)), hR.w8.keepM rfl (fun h j hj => upd_on (h j hj)), hR.w9.keepM rfl (fun h j hj => upd_on (h j hj)), hR.w10.keepM rfl (fun h j hj => upd_on (h j hj)), hR.f0.keep rfl, (fun _ => rfl), hR.f2.keep rfl, hR.f3.keep rfl, hR.f4.keep rfl, hR.f5.keep rfl, hR.f6.keep rfl, hR.f7.keep rfl, hR.f8.keep rfl, hR.f9.keep rfl⟩⟩
                              refine EachOf.cons [0, 1] rfl (by kernel_rfl) ?_ ?_
                              · rintro L A W ⟨v, rfl, hR⟩ hi hw K hK
                                have hk : L 10 = false := hR.w10.not hi rfl
                                have e0 := hR.f0 (hw 0 (by simp))
                                have e1 := hR.f1 (hw 1 (by simp))
                                simp only [e0, e1]
                                clear e0 e1
                                go_simp
                                refine hK.out _ _ ?_
                                exact ⟨(fun jz => if jz = 239 then .slice (some ⟨rb, 0, none⟩) (j) (cp) else if jz = 240 then .int .i64 (a : Int) else if jz = 241 then .pointer (some ⟨rb, a, none⟩) else v jz), rfl, ⟨(fun h => hR.st (upd_false h)), hR.s1.keep rfl, (fun _ j hj => upd_on (hw j hj)), hR.w3.keepM rfl (fun h j hj => upd_on (h j hj)), hR.w6.keepM rfl (fun h j hj => upd_on (h j hj)), hR.w7.keepM rfl (fun h j hj => upd_on (h j hj)), hR.w8.keepM rfl (fun h j hj => upd_on (h j hj)), hR.w9.keepM rfl (fun h j hj => upd_on (h j hj)), hR.w10.keepM rfl (fun h j hj => upd_on (h j hj)), (fun _ => rfl), (fun _ => rfl), (fun _ => rfl), hR.f3.keep rfl, hR.f4.keep rfl, hR.f5.keep rfl, hR.f6.keep rfl, hR.f7.keep rfl, hR.f8.keep rfl, hR.f9.keep rfl⟩⟩
                              refine EachOf.cons [2] rfl (by kernel_rfl) ?_ ?_
                              · rintro L A W ⟨v, rfl, hR⟩ hi hw K hK
                                have hk : L 10 = false := hR.w10.not hi rfl
                                have e2 := hR.f2 (hw 2 (by simp))
                                simp only [e2]
                                clear e2
                                have q0 := ((hR.st hk).cell (p := ⟨rb, a, none⟩) LA.out.2).trans LA.out.1
                                go_simp
                                refine hK.out _ _ ?_
                                exact ⟨(fun jz => if jz = 241 then .pointer (some ⟨rb, a, none⟩) else if jz = 242 then .int .i64 va2 else v jz), rfl, ⟨(fun h => hR.st (upd_false h)), hR.s1.keep rfl, hR.w2.keepM rfl (fun h j hj => upd_on (h j hj)), (fun _ j hj => upd_on (hw j hj)), hR.w6.keepM rfl (fun h j hj => upd_on (h j hj)), hR.w7.keepM rfl (fun h j hj => upd_on (h j hj)), hR.w8.keepM rfl (fun h j hj => upd_on (h j hj)), hR.w9.keepM rfl (fun h j hj => upd_on (h j hj)), hR.w10.keepM rfl (fun h j hj => upd_on (h j hj)), hR.f0.keep rfl, hR.f1.keep rfl, (fun _ => rfl), (fun _ => rfl), hR.f4.keep rfl, hR.f5.keep rfl, hR.f6.keep rfl, hR.f7.keep rfl, hR.f8.keep rfl, hR.f9.keep rfl⟩⟩
                              refine EachOf.cons [] rfl (by kernel_rfl) ?_ ?_
                              · rintro L A W ⟨v, rfl, hR⟩ hi hw K hK
                                have hk : L 10 = false := hR.w10.not hi rfl
                                go_simp
                                refine hK.out _ _ ?_
                                exact ⟨(fun jz => if jz = 243 then .slice (some ⟨rb, 0, none⟩) (j) (cp) else v jz), rfl, ⟨(fun h => hR.st (upd_false h)), hR.s1.keep rfl, hR.w2.keepM rfl (fun h j hj => upd_on (h j hj)), hR.w3.keepM rfl (fun h j hj => upd_on (h j hj)), hR.w6.keepM rfl (fun h j hj => upd_on (h j hj)), hR.w7.keepM rfl (fun h j hj => upd_on (h j hj)), hR.w8.keepM rfl (fun h j hj => upd_on (h j hj)), hR.w9.keepM rfl (fun h j hj => upd_on (h j hj)), hR.w10.keepM rfl (fun h j hj => upd_on (h j hj)), hR.f0.keep rfl, hR.f1.keep rfl, hR.f2.keep rfl, hR.f3.keep rfl, (fun _ => rfl), hR.f5.keep rfl, hR.f6.keep rfl, hR.f7.keep rfl, hR.f8.keep rfl, hR.f9.keep rfl⟩⟩
                              refine EachOf.cons [] rfl (by kernel_rfl) ?_ ?_
                              · rintro L A W ⟨v, rfl, hR⟩ hi hw K hK
                                have hk : L 10 = false := hR.w10.not hi rfl
                                go_simp
                                refine hK.out _ _ ?_
                                exact ⟨(fun jz => if jz = 244 then .int .i64 (b : Int) else v jz), rfl, ⟨(fun h => hR.st (upd_false h)), hR.s1.keep rfl, hR.w2.keepM rfl (fun h j hj => upd_on (h j hj)), hR.w3.keepM rfl (fun h j hj => upd_on (h j hj)), hR.w6.keepM rfl (fun h j hj => upd_on (h j hj)), hR.w7.keepM rfl (fun h j hj => upd_on (h j hj)), hR.w8.keepM rfl (fun h j hj => upd_on (h j hj)), hR.w9.keepM rfl (fun h j hj => upd_on (h j hj)), hR.w10.keepM rfl (fun h j hj => upd_on (h j hj)), hR.f0.keep rfl, hR.f1.keep rfl, hR.f2.keep rfl, hR.f3.keep rfl, hR.f4.keep rfl, (fun _ => rfl), hR.f6.keep rfl, hR.f7.keep rfl, hR.f8.keep rfl, hR.f9.keep rfl⟩⟩
                              refine EachOf.cons [4, 5] rfl (by kernel_rfl) ?_ ?_
                              · rintro L A W ⟨v, rfl, hR⟩ hi hw K hK
                                have hk : L 10 = false := hR.w10.not hi rfl
                                have e4 := hR.f4 (hw 4 (by simp))
                                have e5 := hR.f5 (hw 5 (by simp))
                                simp only [e4, e5]
                                clear e4 e5
                                go_simp
                                refine hK.out _ _ ?_
                                exact ⟨(fun jz => if jz = 243 then .slice (some ⟨rb, 0, none⟩) (j) (cp) else if jz = 244 then .int .i64 (b : Int) else if jz = 245 then .pointer (some ⟨rb, b, none⟩) else v jz), rfl, ⟨(fun h => hR.st (upd_false h)), hR.s1.keep rfl, hR.w2.keepM rfl (fun h j hj => upd_on (h j hj)), hR.w3.keepM rfl (fun h j hj => upd_on (h j hj)), (fun _ j hj => upd_on (hw j hj)), hR.w7.keepM rfl (fun h j hj => upd_on (h j hj)), hR.w8.keepM rfl (fun h j hj => upd_on (h j hj)), hR.w9.keepM rfl (fun h j hj => upd_on (h j hj)), hR.w10.keepM rfl (fun h j hj => upd_on (h j hj)), hR.f0.keep rfl, hR.f1.keep rfl, hR.f2.keep rfl, hR.f3.keep rfl, (fun _ => rfl), (fun _ => rfl), (fun _ => rfl), hR.f7.keep rfl, hR.f8.keep rfl, hR.f9.keep rfl⟩⟩
                              refine EachOf.cons [6] rfl (by kernel_rfl) ?_ ?_
                              · rintro L A W ⟨v, rfl, hR⟩ hi hw K hK
                                have hk : L 10 = false := hR.w10.not hi rfl
                                have e6 := hR.f6 (hw 6 (by simp))
                                simp only [e6]
                                clear e6
                                have q0 := ((hR.st hk).cell (p := ⟨rb, b, none⟩) LB.out.2).trans LB.out.1
                                go_simp
                                refine hK.out _ _ ?_
                                exact ⟨(fun jz => if jz = 245 then .pointer (some ⟨rb, b, none⟩) else if jz = 246 then .int .i64 vb2 else v jz), rfl, ⟨(fun h => hR.st (upd_false h)), hR.s1.keep rfl, hR.w2.keepM rfl (fun h j hj => upd_on (h j hj)), hR.w3.keepM rfl (fun h j hj => upd_on (h j hj)), hR.w6.keepM rfl (fun h j hj => upd_on (h j hj)), (fun _ j hj => upd_on (hw j hj)), hR.w8.keepM rfl (fun h j hj => upd_on (h j hj)), hR.w9.keepM rfl (fun h j hj => upd_on (h j hj)), hR.w10.keepM rfl (fun h j hj => upd_on (h j hj)), hR.f0.keep rfl, hR.f1.keep rfl, hR.f2.keep rfl, hR.f3.keep rfl, hR.f4.keep rfl, hR.f5.keep rfl, (fun _ => rfl), (fun _ => rfl), hR.f8.keep rfl, hR.f9.keep rfl⟩⟩
                              refine EachOf.cons [3, 7] rfl (by kernel_rfl) ?_ ?_
                              · rintro L A W ⟨v, rfl, hR⟩ hi hw K hK
                                have hk : L 10 = false := hR.w10.not hi rfl
                                have e3 := hR.f3 (hw 3 (by simp))
                                have e7 := hR.f7 (hw 7 (by simp))
                                simp only [e3, e7]
                                clear e3 e7
                                go_simp
                                refine hK.out _ _ ?_
                                exact ⟨(fun jz => if jz = 242 then .int .i64 va2 else if jz = 246 then .int .i64 vb2 else if jz = 247 then .int .i64 s else v jz), rfl, ⟨(fun h => hR.st (upd_false h)), hR.s1.keep rfl, hR.w2.keepM rfl (fun h j hj => upd_on (h j hj)), hR.w3.keepM rfl (fun h j hj => upd_on (h j hj)), hR.w6.keepM rfl (fun h j hj => upd_on (h j hj)), hR.w7.keepM rfl (fun h j hj => upd_on (h j hj)), (fun _ j hj => upd_on (hw j hj)), hR.w9.keepM rfl (fun h j hj => upd_on (h j hj)), hR.w10.keepM rfl (fun h j hj => upd_on (h j hj)), hR.f0.keep rfl, hR.f1.keep rfl, hR.f2.keep rfl, (fun _ => rfl), hR.f4.keep rfl, hR.f5.keep rfl, hR.f6.keep rfl, (fun _ => rfl), (fun _ => rfl), hR.f9.keep rfl⟩⟩
                              refine EachOf.cons [0, 1] rfl (by kernel_rfl) ?_ ?_
                              · rintro L A W ⟨v, rfl, hR⟩ hi hw K hK
                                have hk : L 10 = false := hR.w10.not hi rfl
                                have e0 := hR.f0 (hw 0 (by simp))
                                have e1 := hR.f1 (hw 1 (by simp))
                                simp only [e0, e1]
                                clear e0 e1
                                go_simp
                                refine hK.out _ _ ?_
                                exact ⟨(fun jz => if jz = 239 then .slice (some ⟨rb, 0, none⟩) (j) (cp) else if jz = 240 then .int .i64 (a : Int) else if jz = 248 then .pointer (some ⟨rb, a, none⟩) else v jz), rfl, ⟨(fun h => hR.st (upd_false h)), hR.s1.keep rfl, hR.w2.keepM rfl (fun h j hj => upd_on (h j hj)), hR.w3.keepM rfl (fun h j hj => upd_on (h j hj)), hR.w6.keepM rfl (fun h j hj => upd_on (h j hj)), hR.w7.keepM rfl (fun h j hj => upd_on (h j hj)), hR.w8.keepM rfl (fun h j hj => upd_on (h j hj)), (fun _ j hj => upd_on (hw j hj)), hR.w10.keepM rfl (fun h j hj => upd_on (h j hj)), (fun _ => rfl), (fun _ => rfl), hR.f2.keep rfl, hR.f3.keep rfl, hR.f4.keep rfl, hR.f5.keep rfl, hR.f6.keep rfl, hR.f7.keep rfl, hR.f8.keep rfl, (fun _ => rfl)⟩⟩
                              refine EachOf.cons [0, 1, 2, 3, 4, 5, 6, 7, 8, 9] rfl (by kernel_rfl) ?_ ?_
                              · rintro L A W ⟨v, rfl, hR⟩ hi hw K hK
                                have e9 := hR.f9 (hw 9 (by simp))
                                have e8 := hR.f8 (hw 8 (by simp))
                                simp only [e9, e8]
                                clear e9 e8
                                have q1 := (hR.st hi).cell (p := ⟨rb, a, none⟩) LA.out.2
                                rw [LA.out.1] at q1
                                have q2 := (hR.st hi).frozen (p := ⟨rb, a, none⟩) LA.out.2
                                rw [LAF.out] at q2
                                go_simp
                                refine hK.out _ _ ?_
                                exact ⟨(fun jz => if jz = 248 then .pointer (some ⟨rb, a, none⟩) else if jz = 247 then .int .i64 s else v jz), rfl, ⟨(fun h => by simp [upd_self] at h), (fun _ => ⟨W, hR.st hi, rfl⟩), hR.w2.keepM rfl (fun h j hj => upd_on (h j hj)), hR.w3.keepM rfl (fun h j hj => upd_on (h j hj)), hR.w6.keepM rfl (fun h j hj => upd_on (h j hj)), hR.w7.keepM rfl (fun h j hj => upd_on (h j hj)), hR.w8.keepM rfl (fun h j hj => upd_on (h j hj)), hR.w9.keepM rfl (fun h j hj => upd_on (h j hj)), (fun _ j hj => upd_on (hw j hj)), hR.f0.keep rfl, hR.f1.keep rfl, hR.f2.keep rfl, hR.f3.keep rfl, hR.f4.keep rfl, hR.f5.keep rfl, hR.f6.keep rfl, hR.f7.keep rfl, (fun _ => rfl), (fun _ => rfl)⟩⟩
                              exact EachOf.nil
                          rintro L A W ⟨v, rfl, hR⟩ hL
                          obtain ⟨W9, hb9, hW⟩ := hR.s1 (hL 10 (by simp))
                          have N1 := (HNR.out.on hb9).set (f2 := rhsA a b f) a s la (by unfold rhsA; rw [if_pos rfl]; exact HSS.out) (fun i hi hne => by unfold rhsA; rw [if_neg hne])
                          rw [← hW] at N1
                          have HN1 := Lib.hid N1
                          have HK9 : Hid (Below W5.heap.size W5 W) := by
                            show Below W5.heap.size W5 W
                            rw [hW]
                            exact (below_on HK8.out hb9).setCell (show W5.heap.size ≤ rb from Nat.le_trans HLW.out HNR.out.lo) _
                          have HX13 := Lib.hid (HX12.out.on HK9.out)
                          have HB13 := Lib.hid (below_on HB11.out HK9.out)
                          have CZ := Lib.hid (Solve_S (some ⟨xb, 0, none⟩) j Cb (fun i => some ⟨G i, 0, none⟩) (fun _ => l) C (rowA a b Z) (some ⟨rb, 0, none⟩) cp (rhsA a b f) W l rfl ((HG6.out.on HK9.out).amat (by omega)) HVW.out HN1.out.irow hcp1 hcp)
                          clear N1 hW hb9 W9 hR hL LA LB LAF HSS ws HNR HK8
                          go_wp2_with fail
                          (with_reducible refine ((CZ.out).mono ?_))
                          rintro e W8 ⟨hb8, ua, un, uc, er2, rfl, hU⟩
                          have HB14 := Lib.hid (below_on HB13.out hb8)
                          have HX14 := HX13.out.on hb8
                          rcases SolS.rowA la lb HAB.out HRF.out.1 HX14 hU with e0 | ⟨e0, e1, hxl, X, i1, i2⟩
                          · subst e0
                            clear hU HX14 CZ hb8
                            go_wp2_with fail
                            go_ret
                            exact ⟨rfl, HB14.out⟩
                          · subst e0
                            subst e1
                            have CE0 := equalF_same ua xa uc xc un _ _ W8 (ifr_frl i2) (ifr_frl i1) (by simp) (by simp) (by omega)
                            rw [decide_eq_true rfl] at CE0
                            have CE := Lib.hid CE0
                            clear hU HX14 CZ hb8 CE0 i1 i2
                            go_wp2_with fail
                            (with_reducible refine ((CE.out).mono ?_))
                            rintro e W9 ⟨rfl, hb9⟩
                            have HB15 := Lib.hid (below_on HB14.out hb9)
                            clear CE hb9
                            go_wp2_with fail
                            go_ret
                            exact ⟨rfl, HB15.out⟩

end Go.Proofs.Ytjggnmbdgagkoaa
