/- Layer 4: rows exchanged; determinants of matrices whose rows are exchanged, or the columns. -/
import Derived.Test.YtjggnmbdgagkoaaLRCopy
import Derived.Test.YtjggnmbdgagkoaaLAwake
namespace Go.Proofs.Ytjggnmbdgagkoaa
set_option linter.unusedVariables false
open Go.RowKit Go.Shelf

theorem setCell_sw2 (w : World) (b i j : Nat) (x y : Value) (h : i ≠ j) : (w.setCell ⟨b, i, none⟩ x).setCell ⟨b, j, none⟩ y = (w.setCell ⟨b, j, none⟩ y).setCell ⟨b, i, none⟩ x := by
  unfold World.setCell
  simp only [Option.isSome_none, Bool.false_eq_true, if_false]
  congr 1
  apply Array.ext
  · simp
  · intro k h1 h2
    simp only [Array.getElem_modify]
    by_cases e : b = k
    · subst e
      simp only [if_true]
      have hk : b < w.heap.size := by simpa using h1
      cases w.heap[b] with
      | cells c elem fr => simp only; rw [Array.setIfInBounds_comm _ _ h]
      | _ => rfl
    · simp only [if_neg e]
theorem Grid.amat {B0 : Nat} {W : World} {b R n : Nat} {G C : Nat → Nat} {E : Nat → Nat → Int} (h : Grid B0 W b R n G C E) (hn : n ≤ 1000) : AMat W (some ⟨b, 0, none⟩) R (fun i => some ⟨G i, 0, none⟩) (fun _ => n) C E :=
  ⟨fun _ => ⟨b, 0, rfl, h.hb, fun i hi => by rw [Nat.zero_add]; exact h.top i hi⟩, fun i hi _ => ⟨G i, 0, rfl, (h.row i hi).2.1, fun j hj => by rw [Nat.zero_add]; exact h.cell i j hi hj⟩, fun i hi => by omega⟩
theorem Grid.retop {B0 : Nat} {W : World} {b R n : Nat} {G C : Nat → Nat} {E : Nat → Nat → Int} (h : Grid B0 W b R n G C E) (a : Nat) (ha : a < R) : Grid B0 (W.setCell ⟨b, a, none⟩ (.slice (some ⟨G a, 0, none⟩) n (C a))) b R n G C E where
  lb := h.lb
  hb := by simpa using h.hb
  top i hi := by
    by_cases e : i = a
    · subst e
      exact World.cell?_setCell_same' _ _ _ (by rw [h.top i hi]; rfl)
    · rw [World.cell?_setCell_other _ _ _ _ (adr_ne (b := b) (i := a) (j := i) (fun q => e q.symm))]; exact h.top i hi
  tfz i hi := by simpa using h.tfz i hi
  row i hi := by simpa using h.row i hi
  cap := h.cap
  inj := h.inj
  cell i j hi hj := by rw [World.cell?_setCell_far _ _ _ _ (h.row i hi).2.2.symm]; exact h.cell i j hi hj
  fz i j hi hj := by simpa using h.fz i j hi hj
theorem swE_symm (a b : Nat) (E : Nat → Nat → Int) : swE a b E = swE b a E := by
  funext i j
  unfold swE
  by_cases h1 : i = a <;> by_cases h2 : i = b
  · rw [if_pos h1, if_pos h2, ← h1, ← h2]
  · rw [if_pos h1, if_neg h2, if_pos h1]
  · rw [if_neg h1, if_pos h2, if_pos h2]
  · rw [if_neg h1, if_neg h2, if_neg h2, if_neg h1]
theorem swE_self (a : Nat) (E : Nat → Nat → Int) : swE a a E = E := by
  funext i j
  unfold swE
  split
  · rename_i h; rw [h]
  · rfl
/-- Two rows exchanged, whichever is the first one. -/
theorem Grid.exch {B0 : Nat} {W : World} {b R n : Nat} {G C : Nat → Nat} {E : Nat → Nat → Int} (h : Grid B0 W b R n G C E) (x y : Nat) (hx : x < R) (hy : y < R) (hne : x ≠ y) :
    ∃ G' C', Grid B0 ((W.setCell ⟨b, x, none⟩ (.slice (some ⟨G y, 0, none⟩) n (C y))).setCell ⟨b, y, none⟩ (.slice (some ⟨G x, 0, none⟩) n (C x))) b R n G' C' (swE x y E) := by
  rcases Nat.lt_or_gt_of_ne hne with g | g
  · exact ⟨_, _, h.swap x y g hy⟩
  · rw [setCell_sw2 _ _ _ _ _ _ hne, swE_symm]
    exact ⟨_, _, h.swap y x g hx⟩
theorem swE_rows {R n : Nat} (x y : Nat) (hx : x < R) (hy : y < R) (Z : Nat → Nat → Int) : Trn n R R Z (swE x y Z) ∧ Trn n R R (swE x y Z) Z := by
  refine ⟨fun m a q hq h i hi => ?_, fun m a q hq h i hi => ?_⟩
  · rcases swE_pick x y i Z with ⟨_, e⟩ | ⟨_, e⟩ | e
    · simp only [e]; exact h y hy
    · simp only [e]; exact h x hx
    · simp only [e]; exact h i hi
  · rcases swE_pick x y i Z with ⟨e0, e⟩ | ⟨e0, e⟩ | e
    · have := h y hy
      have e2 : swE x y Z y = Z x := by
        funext j; unfold swE
        by_cases g : y = x
        · rw [if_pos g, g]
        · rw [if_neg g, if_pos rfl]
      simp only [e2] at this
      rw [e0]; exact this
    · have := h x hx
      have e2 : swE x y Z x = Z y := by funext j; exact if_pos rfl
      simp only [e2] at this
      rw [e0]; exact this
    · have := h i hi
      simp only [e] at this
      exact this

/-- What Det returns for a valid matrix. -/
def DetP (R n : Nat) (Z : Nat → Nat → Int) (v er : Int) : Prop := (R ≠ n ∧ v = 0 ∧ er = 19) ∨ (R = n ∧ er = 0 ∧ ∃ k p E D, FinE R R Z k p E D ∧ v = if k < R then 0 else D)
theorem Det_all (ma : Option Addr) (R mc : Nat) (Ra : Nat → Option Addr) (Ln Ka : Nat → Nat) (Z : Nat → Nat → Int) (w : World) (n : Nat) (hn : Ln 0 = n) (hM : AMat w ma R Ra Ln Ka Z) (hv : vMP R Ln Z) :
    Calls Try.prog 14 #[.slice ma R mc] w fun e w' => Below w.heap.size w w' ∧ ∃ v er, e = .returned (.tuple #[.int .i64 v, .int .i64 er]) ∧ DetP R n Z v er := by
  by_cases h : R = n
  · refine (Det_ok ma R mc Ra Ln Ka Z w (by rw [hn, h]) hM hv).mono ?_
    rintro e w' ⟨hb, k, p, E, D, hF, rfl⟩
    exact ⟨hb, _, _, rfl, .inr ⟨h, rfl, k, p, E, D, hF, rfl⟩⟩
  · refine (Det_shape ma R mc Ra Ln Ka Z w n hn hM hv h).mono ?_
    rintro e w' ⟨rfl, hb⟩
    exact ⟨hb, _, _, rfl, .inl ⟨h, rfl, rfl⟩⟩
theorem DetP.turned {R n : Nat} {Z : Nat → Nat → Int} {v er v' er' : Int} (h : DetP R n Z v er) (h' : DetP n R (fun l i => Z i l) v' er') : v' = v ∧ er' = er := by
  rcases h with ⟨hne, rfl, rfl⟩ | ⟨rfl, rfl, k, p, E, D, hF, rfl⟩
  · rcases h' with ⟨_, rfl, rfl⟩ | ⟨e, _⟩
    · exact ⟨rfl, rfl⟩
    · exact absurd e.symm hne
  · rcases h' with ⟨hne, _⟩ | ⟨_, rfl, k', p', E', D', hF', rfl⟩
    · exact absurd rfl hne
    · have ek := rank_turned hF.w hF'.w (fun i j _ _ => rfl)
      subst ek
      refine ⟨?_, rfl⟩
      by_cases g : k < R
      · rw [if_pos g, if_pos g]
      · rw [if_neg g, if_neg g]
        have e : k = R := by have := hF.kR; omega
        rw [hF.det e, hF'.det e]
        have p1 := full_piv hF.up hF.lt e
        have p2 := full_piv hF'.up hF'.lt e
        have a1 : detN R (fun l i => Z i (p l)) = detN R (fun l i => Z i l) := det_congr R fun l hl i _ => by show Z i (p l) = Z i l; rw [p1 l hl]
        have a2 : detN R (fun l i => (fun l i => Z i l) i (p' l)) = detN R Z := det_congr R fun l hl i _ => by show Z (p' l) i = Z l i; rw [p2 l hl]
        rw [a1, a2]
        exact (det_trans R Z).symm
theorem DetP.exch {R n : Nat} {Z : Nat → Nat → Int} {v er v' er' : Int} {x y : Nat} (hx : x < R) (hy : y < R) (h : DetP R n Z v er) (h' : DetP R n (swE x y Z) v' er') : er' = er ∧ (x = y → v' = v) ∧ (x ≠ y → v' = -v) := by
  rcases h with ⟨hne, rfl, rfl⟩ | ⟨rfl, rfl, k, p, E, D, hF, rfl⟩
  · rcases h' with ⟨_, rfl, rfl⟩ | ⟨e, _⟩
    · exact ⟨rfl, fun _ => rfl, fun _ => rfl⟩
    · exact absurd e hne
  · rcases h' with ⟨hne, _⟩ | ⟨_, rfl, k', p', E', D', hF', rfl⟩
    · exact absurd rfl hne
    · obtain ⟨t1, t2⟩ := swE_rows (n := R) x y hx hy Z
      obtain ⟨ek, ep⟩ := hF.w.uniq hF'.w t1 t2
      subst ek
      refine ⟨rfl, fun e => ?_, fun hne => ?_⟩
      · subst e
        by_cases g : k < R
        · rw [if_pos g, if_pos g]
        · rw [if_neg g, if_neg g]
          have e : k = R := by have := hF.kR; omega
          rw [hF.det e, hF'.det e, swE_self]
          exact det_congr R fun l hl i _ => by rw [ep l (by omega)]
      · by_cases g : k < R
        · rw [if_pos g, if_pos g]; rfl
        · rw [if_neg g, if_neg g]
          have e : k = R := by have := hF.kR; omega
          rw [hF.det e, hF'.det e]
          have a : detN R (fun l i => swE x y Z i (p' l)) = detN R (fun l i => swE x y Z i (p l)) := det_congr R fun l hl i _ => by rw [ep l (by omega)]
          have d := detC_sw R (fun i l => Z i (p l)) x y hx hy hne
          have e2 : detC R (swE x y (fun i l => Z i (p l))) = detN R (fun l i => swE x y Z i (p l)) := rfl
          rw [a, ← e2, d]
          rfl
theorem DetP.zero {R n : Nat} {Z : Nat → Nat → Int} {v er : Int} {k : Nat} {p : Nat → Nat} {E : Nat → Nat → Int} {D : Int} (h : DetP R n Z v er) (hF : FinE R n Z k p E D) : (er = 19) ∨ (er = 0 ∧ ((k < R ∧ v = 0) ∨ (¬ k < R ∧ v ≠ 0))) := by
  rcases h with ⟨_, _, e⟩ | ⟨rfl, e, k', p', E', D', hF', rfl⟩
  · exact .inl e
  · refine .inr ⟨e, ?_⟩
    have ek := (hF.uniq hF').1
    subst ek
    by_cases g : k < R
    · exact .inl ⟨g, if_pos g⟩
    · exact .inr ⟨g, by rw [if_neg g]; exact hF'.nz⟩

theorem DetP.bd {R n : Nat} {Z : Nat → Nat → Int} {v er : Int} (h : DetP R n Z v er) : -1152921504606846976 ≤ v ∧ v ≤ 1152921504606846976 := by
  rcases h with ⟨_, rfl, _⟩ | ⟨_, _, k, p, E, D, hF, rfl⟩
  · omega
  · split
    · omega
    · exact hF.dD

end Go.Proofs.Ytjggnmbdgagkoaa
