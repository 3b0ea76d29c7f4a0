/- Layer 10: blocks of cells that a drawing region lays (taken from layer 9's texts). -/
import Derived.Test.YtcghjjfpjiacfaaDoorKT2
namespace Go.Proofs.YtcghjjfpjiacfaaDoor
open Go.ChangeShapes Go.WideShapes Go.ChangeAt Go.RowKit Go.Joins Go.Deep Go.Shelf
set_option linter.unusedVariables false

/-- A block holds these cells. -/
structure CB (W : World) (b : Nat) (cs : List Value) : Prop where
  lt : b < W.heap.size
  cell : ∀ k v, cs[k]? = some v → W.cell? ⟨b, k, none⟩ = some v
  fz : ∀ k, W.frozen? ⟨b, k, none⟩ = false
theorem CB.on {W W2 : World} {b : Nat} {cs : List Value} (h : CB W b cs) (hb : Below W.heap.size W W2) : CB W2 b cs :=
  ⟨Nat.lt_of_lt_of_le h.lt hb.size, fun k v hv => (hb.cell (p := ⟨b, k, none⟩) h.lt).trans (h.cell k v hv), fun k => by rw [World.frozen?_of_block (w := W) (a := ⟨b, k, none⟩) (hb.block b h.lt)]; exact h.fz k⟩
theorem CB.far {W : World} {b : Nat} {cs : List Value} (h : CB W b cs) {c : Nat} (hc : c ≠ b) (i : Nat) (v : Value) : CB (W.setCell ⟨c, i, none⟩ v) b cs :=
  ⟨by simpa using h.lt, fun k u hu => by
    rw [World.cell?_setCell_other _ _ _ _ (by intro e; exact hc (congrArg Addr.block e))]
    exact h.cell k u hu, fun k => by simpa using h.fz k⟩
theorem cb_new (W : World) (cs : Array Value) (t : TypeId) : CB (W.alloc (.cells cs t)) W.heap.size cs.toList :=
  ⟨by simp, fun k v hv => by
    have : cs[k]? = some v := by simpa using hv
    simp [go_sem, this], fun k => by simp [go_sem]⟩
/-- Values stored into a block, one after the other. -/
def stL (b : Nat) : World → Nat → List Value → World
  | W, _, [] => W
  | W, k, v :: vs => stL b (W.setCell ⟨b, k, none⟩ v) (k + 1) vs
theorem stL_below {b B : Nat} {w : World} (hB : B ≤ b) : ∀ (vs : List Value) (W : World) (k : Nat), Below B w W → Below B w (stL b W k vs)
  | [], _, _, h => h
  | v :: vs, W, k, h => stL_below hB vs _ (k + 1) (h.setCell hB v)
theorem stL_far {b c : Nat} {cs : List Value} (hc : b ≠ c) : ∀ (vs : List Value) (W : World) (k : Nat), CB W c cs → CB (stL b W k vs) c cs
  | [], _, _, h => h
  | v :: vs, W, k, h => stL_far hc vs _ (k + 1) (h.far hc k v)
theorem stL_at {b : Nat} : ∀ (vs : List Value) (W : World) (k : Nat), b < W.heap.size → (∀ j, W.frozen? ⟨b, j, none⟩ = false) → (∀ j, j < k + vs.length → (W.cell? ⟨b, j, none⟩).isSome) →
    b < (stL b W k vs).heap.size ∧ (∀ j, (stL b W k vs).frozen? ⟨b, j, none⟩ = false) ∧ (∀ j, j < k → (stL b W k vs).cell? ⟨b, j, none⟩ = W.cell? ⟨b, j, none⟩) ∧ ∀ j v, vs[j]? = some v → (stL b W k vs).cell? ⟨b, k + j, none⟩ = some v
  | [], W, k, h1, h2, h3 => ⟨h1, h2, fun _ _ => rfl, fun j v h => by simp at h⟩
  | u :: vs, W, k, h1, h2, h3 => by
    have hs : (W.cell? ⟨b, k, none⟩).isSome := h3 k (by simp only [List.length_cons]; omega)
    obtain ⟨a1, a2, a3, a4⟩ := stL_at vs (W.setCell ⟨b, k, none⟩ u) (k + 1) (by simpa using h1) (fun j => by simpa using h2 j) (fun j hj => by
      by_cases e : j = k
      · subst e
        rw [World.cell?_setCell_same' _ _ _ hs]; rfl
      · rw [World.cell?_setCell_other _ _ _ _ (adr_ne (b := b) (i := k) (j := j) (fun q => e q.symm))]
        exact h3 j (by simp only [List.length_cons]; omega))
    refine ⟨a1, a2, fun j hj => ?_, fun j v hv => ?_⟩
    · show (stL b (W.setCell ⟨b, k, none⟩ u) (k + 1) vs).cell? _ = _
      rw [a3 j (by omega), World.cell?_setCell_other _ _ _ _ (adr_ne (b := b) (i := k) (j := j) (by omega))]
    · cases j with
      | zero =>
        simp at hv
        subst hv
        show (stL b (W.setCell ⟨b, k, none⟩ u) (k + 1) vs).cell? ⟨b, k, none⟩ = some u
        rw [a3 k (by omega)]
        exact World.cell?_setCell_same' _ _ _ hs
      | succ j =>
        have := a4 j v (by simpa using hv)
        rw [show k + (j + 1) = k + 1 + j by omega]
        exact this
/-- A block is filled. -/
theorem CB.fill {W : World} {b : Nat} {cs vs : List Value} (h : CB W b cs) (hl : vs.length = cs.length) : CB (stL b W 0 vs) b vs := by
  obtain ⟨a1, a2, _, a4⟩ := stL_at vs W 0 h.lt h.fz (fun j hj => by
    have : j < cs.length := by omega
    rw [h.cell j _ (List.getElem?_eq_getElem this)]; rfl)
  exact ⟨a1, fun k v hv => by have := a4 k v hv; rwa [Nat.zero_add] at this, a2⟩
theorem stL_size {b : Nat} : ∀ (vs : List Value) (W : World) (k : Nat), (stL b W k vs).heap.size = W.heap.size
  | [], _, _ => rfl
  | v :: vs, W, k => by
    show (stL b (W.setCell ⟨b, k, none⟩ v) (k + 1) vs).heap.size = _
    rw [stL_size vs]; simp

end Go.Proofs.YtcghjjfpjiacfaaDoor
