/- Cmp and Make of package ratio. -/
import Derived.Test.YtjggnmbdgagkoaaROps2
namespace Go.Proofs.Ytjggnmbdgagkoaa
set_option linter.unusedVariables false
open Go.RowKit Go.Shelf

theorem keepU {w W w2 : World} {v0 v1 v2 v3 : Value} (h : W.cell? ⟨w.heap.size, 0, none⟩ = some v0 ∧ W.cell? ⟨w.heap.size, 1, none⟩ = some v1 ∧ W.cell? ⟨w.heap.size + 1, 0, none⟩ = some v2 ∧ W.cell? ⟨w.heap.size + 1, 1, none⟩ = some v3 ∧ Below w.heap.size w W ∧ w.heap.size + 1 < W.heap.size) (hb : Below W.heap.size W w2) : w2.cell? ⟨w.heap.size, 0, none⟩ = some v0 ∧ w2.cell? ⟨w.heap.size, 1, none⟩ = some v1 ∧ w2.cell? ⟨w.heap.size + 1, 0, none⟩ = some v2 ∧ w2.cell? ⟨w.heap.size + 1, 1, none⟩ = some v3 ∧ Below w.heap.size w w2 ∧ w.heap.size + 1 < w2.heap.size := by
  obtain ⟨h0, h1, h2, h3, hB, hz⟩ := h
  obtain ⟨B, hc, hf⟩ := after0 (a := w) hb hB
  have := hb.size
  exact ⟨by rw [hc _ _ (by omega)]; exact h0, by rw [hc _ _ (by omega)]; exact h1, by rw [hc _ _ (by omega)]; exact h2, by rw [hc _ _ (by omega)]; exact h3, B, by omega⟩
theorem keepM {w W w2 : World} {v0 v1 : Value} (h : W.cell? ⟨w.heap.size + 1, 0, none⟩ = some v0 ∧ W.cell? ⟨w.heap.size + 1, 1, none⟩ = some v1 ∧ Below w.heap.size w W ∧ w.heap.size + 1 < W.heap.size ∧ (W.cell? ⟨w.heap.size, 0, none⟩).isSome = true ∧ (W.cell? ⟨w.heap.size, 1, none⟩).isSome = true ∧ W.frozen? ⟨w.heap.size, 0, none⟩ = false ∧ W.frozen? ⟨w.heap.size, 1, none⟩ = false) (hb : Below W.heap.size W w2) : w2.cell? ⟨w.heap.size + 1, 0, none⟩ = some v0 ∧ w2.cell? ⟨w.heap.size + 1, 1, none⟩ = some v1 ∧ Below w.heap.size w w2 ∧ w.heap.size + 1 < w2.heap.size ∧ (w2.cell? ⟨w.heap.size, 0, none⟩).isSome = true ∧ (w2.cell? ⟨w.heap.size, 1, none⟩).isSome = true ∧ w2.frozen? ⟨w.heap.size, 0, none⟩ = false ∧ w2.frozen? ⟨w.heap.size, 1, none⟩ = false := by
  obtain ⟨h0, h1, hB, hz, h4, h5, h6, h7⟩ := h
  obtain ⟨B, hc, hf⟩ := after0 (a := w) hb hB
  have := hb.size
  exact ⟨by rw [hc _ _ (by omega)]; exact h0, by rw [hc _ _ (by omega)]; exact h1, B, by omega, by rw [hc _ _ (by omega)]; exact h4, by rw [hc _ _ (by omega)]; exact h5, by rw [hf _ _ (by omega)]; exact h6, by rw [hf _ _ (by omega)]; exact h7⟩
theorem keepMR {w W w2 : World} {v0 v1 : Value} (h : W.cell? ⟨w.heap.size + 1, 0, none⟩ = some v0 ∧ W.cell? ⟨w.heap.size + 1, 1, none⟩ = some v1 ∧ Below w.heap.size w W ∧ w.heap.size + 1 < W.heap.size ∧ (W.cell? ⟨w.heap.size, 0, none⟩).isSome = true ∧ (W.cell? ⟨w.heap.size, 1, none⟩).isSome = true ∧ W.frozen? ⟨w.heap.size, 0, none⟩ = false ∧ W.frozen? ⟨w.heap.size, 1, none⟩ = false) (hb : Below W.heap.size W w2) : ∃ r0 r1, w2.cell? ⟨w.heap.size, 0, none⟩ = some r0 ∧ w2.cell? ⟨w.heap.size, 1, none⟩ = some r1 := by
  obtain ⟨_, _, _, _, h4, h5, _, _⟩ := keepM h hb
  obtain ⟨r0, h0⟩ := Option.isSome_iff_exists.1 h4
  obtain ⟨r1, h1⟩ := Option.isSome_iff_exists.1 h5
  exact ⟨r0, r1, h0, h1⟩
theorem storeM {w W : World} {v0 v1 x y : Value} (h : W.cell? ⟨w.heap.size + 1, 0, none⟩ = some v0 ∧ W.cell? ⟨w.heap.size + 1, 1, none⟩ = some v1 ∧ Below w.heap.size w W ∧ w.heap.size + 1 < W.heap.size ∧ (W.cell? ⟨w.heap.size, 0, none⟩).isSome = true ∧ (W.cell? ⟨w.heap.size, 1, none⟩).isSome = true ∧ W.frozen? ⟨w.heap.size, 0, none⟩ = false ∧ W.frozen? ⟨w.heap.size, 1, none⟩ = false) : ((W.setCell ⟨w.heap.size, 0, none⟩ x).setCell ⟨w.heap.size, 1, none⟩ y).cell? ⟨w.heap.size + 1, 0, none⟩ = some v0 ∧ ((W.setCell ⟨w.heap.size, 0, none⟩ x).setCell ⟨w.heap.size, 1, none⟩ y).cell? ⟨w.heap.size + 1, 1, none⟩ = some v1 ∧ Below w.heap.size w ((W.setCell ⟨w.heap.size, 0, none⟩ x).setCell ⟨w.heap.size, 1, none⟩ y) ∧ w.heap.size + 1 < ((W.setCell ⟨w.heap.size, 0, none⟩ x).setCell ⟨w.heap.size, 1, none⟩ y).heap.size ∧ (((W.setCell ⟨w.heap.size, 0, none⟩ x).setCell ⟨w.heap.size, 1, none⟩ y).cell? ⟨w.heap.size, 0, none⟩).isSome = true ∧ (((W.setCell ⟨w.heap.size, 0, none⟩ x).setCell ⟨w.heap.size, 1, none⟩ y).cell? ⟨w.heap.size, 1, none⟩).isSome = true ∧ ((W.setCell ⟨w.heap.size, 0, none⟩ x).setCell ⟨w.heap.size, 1, none⟩ y).frozen? ⟨w.heap.size, 0, none⟩ = false ∧ ((W.setCell ⟨w.heap.size, 0, none⟩ x).setCell ⟨w.heap.size, 1, none⟩ y).frozen? ⟨w.heap.size, 1, none⟩ = false := by
  obtain ⟨h0, h1, hB, hz, h4, h5, h6, h7⟩ := h
  have far : ∀ (p : Addr) (b o : Nat) (V : World) (v : Value), p.block ≠ b → (V.setCell p v).cell? ⟨b, o, none⟩ = V.cell? ⟨b, o, none⟩ := fun p b o V v hne => World.cell?_setCell_far V p ⟨b, o, none⟩ v hne
  refine ⟨?_, ?_, ?_, ?_, ?_, ?_, ?_, ?_⟩
  · rw [far _ _ _ _ _ (by simp), far _ _ _ _ _ (by simp)]; exact h0
  · rw [far _ _ _ _ _ (by simp), far _ _ _ _ _ (by simp)]; exact h1
  · exact (hB.setCell (by simp) _).setCell (by simp) _
  · simpa using hz
  · rw [two0 h4]; rfl
  · rw [two1 h5]; rfl
  · simpa using h6
  · simpa using h7

end Go.Proofs.Ytjggnmbdgagkoaa
