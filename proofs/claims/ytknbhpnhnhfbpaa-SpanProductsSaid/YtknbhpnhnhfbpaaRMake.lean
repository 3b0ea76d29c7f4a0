/- Make of package ratio. -/
import Derived.Test.YtknbhpnhnhfbpaaROps3
namespace Go.Proofs.Ytknbhpnhnhfbpaa
set_option linter.unusedVariables false
open Go.RowKit Go.Shelf

theorem startM (w : World) (r0 r1 a0 a1 : Value) (t t' n : Nat) : ∀ W, W = ((w.alloc (Obj.cells #[r0, r1] t)).drewN n).alloc (Obj.cells #[a0, a1] t') → W.cell? ⟨w.heap.size + 1, 0, none⟩ = some a0 ∧ W.cell? ⟨w.heap.size + 1, 1, none⟩ = some a1 ∧ Below w.heap.size w W ∧ w.heap.size + 1 < W.heap.size ∧ (W.cell? ⟨w.heap.size, 0, none⟩).isSome = true ∧ (W.cell? ⟨w.heap.size, 1, none⟩).isSome = true ∧ W.frozen? ⟨w.heap.size, 0, none⟩ = false ∧ W.frozen? ⟨w.heap.size, 1, none⟩ = false := by
  intro W hW
  subst hW
  refine ⟨by simp [go_sem], by simp [go_sem], (by repeat' (first | (with_reducible exact Below.refl _ _) | (with_reducible assumption) | (with_reducible refine Below.alloc ?_ ?_ _) | (with_reducible refine below_drew ?_ _) | (with_reducible refine Below.drew ?_) | (with_reducible refine Below.setCell ?_ ?_ _) | go_size)), by simp, ?_, ?_, ?_, ?_⟩
  · rw [World.cell?_alloc_past _ _ _ (by simp)]; simp [go_sem]
  · rw [World.cell?_alloc_past _ _ _ (by simp)]; simp [go_sem]
  · simp [go_sem]
  · simp [go_sem]
theorem storeN {w W : World} {v0 v1 x y : Value} (h : W.cell? ⟨w.heap.size + 1, 0, none⟩ = some v0 ∧ W.cell? ⟨w.heap.size + 1, 1, none⟩ = some v1 ∧ Below w.heap.size w W ∧ w.heap.size + 1 < W.heap.size ∧ (W.cell? ⟨w.heap.size, 0, none⟩).isSome = true ∧ (W.cell? ⟨w.heap.size, 1, none⟩).isSome = true ∧ W.frozen? ⟨w.heap.size, 0, none⟩ = false ∧ W.frozen? ⟨w.heap.size, 1, none⟩ = false) : ((W.setCell ⟨w.heap.size + 1, 0, none⟩ x).setCell ⟨w.heap.size + 1, 1, none⟩ y).cell? ⟨w.heap.size + 1, 0, none⟩ = some x ∧ ((W.setCell ⟨w.heap.size + 1, 0, none⟩ x).setCell ⟨w.heap.size + 1, 1, none⟩ y).cell? ⟨w.heap.size + 1, 1, none⟩ = some y ∧ Below w.heap.size w ((W.setCell ⟨w.heap.size + 1, 0, none⟩ x).setCell ⟨w.heap.size + 1, 1, none⟩ y) ∧ w.heap.size + 1 < ((W.setCell ⟨w.heap.size + 1, 0, none⟩ x).setCell ⟨w.heap.size + 1, 1, none⟩ y).heap.size ∧ (((W.setCell ⟨w.heap.size + 1, 0, none⟩ x).setCell ⟨w.heap.size + 1, 1, none⟩ y).cell? ⟨w.heap.size, 0, none⟩).isSome = true ∧ (((W.setCell ⟨w.heap.size + 1, 0, none⟩ x).setCell ⟨w.heap.size + 1, 1, none⟩ y).cell? ⟨w.heap.size, 1, none⟩).isSome = true ∧ ((W.setCell ⟨w.heap.size + 1, 0, none⟩ x).setCell ⟨w.heap.size + 1, 1, none⟩ y).frozen? ⟨w.heap.size, 0, none⟩ = false ∧ ((W.setCell ⟨w.heap.size + 1, 0, none⟩ x).setCell ⟨w.heap.size + 1, 1, none⟩ y).frozen? ⟨w.heap.size, 1, none⟩ = false := by
  obtain ⟨h0, h1, hB, hz, h4, h5, h6, h7⟩ := h
  have far : ∀ (p : Addr) (b o : Nat) (V : World) (v : Value), p.block ≠ b → (V.setCell p v).cell? ⟨b, o, none⟩ = V.cell? ⟨b, o, none⟩ := fun p b o V v hne => World.cell?_setCell_far V p ⟨b, o, none⟩ v hne
  refine ⟨two0 (by rw [h0]; rfl), two1 (by rw [h1]; rfl), ?_, ?_, ?_, ?_, ?_, ?_⟩
  · exact (hB.setCell (by simp) _).setCell (by simp) _
  · simpa using hz
  · rw [far _ _ _ _ _ (by simp), far _ _ _ _ _ (by simp)]; exact h4
  · rw [far _ _ _ _ _ (by simp), far _ _ _ _ _ (by simp)]; exact h5
  · simpa using h6
  · simpa using h7

end Go.Proofs.Ytknbhpnhnhfbpaa
