/- The sum and the product of valid fractions, as package ratio reckons them. -/
import Derived.Test.YtggpdhdbeokkcaaGreatRFrac
import Derived.Test.YtggpdhdbeokkcaaGreatRMath2
import Derived.Deep.RegionHeld3
namespace Go.Proofs.YtggpdhdbeokkcaaGreat
set_option linter.unusedVariables false
open Go.RowKit Go.Shelf

/-- What is carried through a statement that draws its order: the two parameters' cells, the result's variable, the frame. -/
theorem keepS {w W w2 : World} {v0 v1 v2 v3 : Value} (h : W.cell? ⟨w.heap.size, 0, none⟩ = some v0 ∧ W.cell? ⟨w.heap.size, 1, none⟩ = some v1 ∧ W.cell? ⟨w.heap.size + 1, 0, none⟩ = some v2 ∧ W.cell? ⟨w.heap.size + 1, 1, none⟩ = some v3 ∧ Below w.heap.size w W ∧ w.heap.size + 2 < W.heap.size ∧
   (W.cell? ⟨w.heap.size + 1 + 1, 0, none⟩).isSome = true ∧ (W.cell? ⟨w.heap.size + 1 + 1, 1, none⟩).isSome = true ∧ W.frozen? ⟨w.heap.size + 1 + 1, 0, none⟩ = false ∧ W.frozen? ⟨w.heap.size + 1 + 1, 1, none⟩ = false) (hb : Below W.heap.size W w2) :
  w2.cell? ⟨w.heap.size, 0, none⟩ = some v0 ∧ w2.cell? ⟨w.heap.size, 1, none⟩ = some v1 ∧ w2.cell? ⟨w.heap.size + 1, 0, none⟩ = some v2 ∧ w2.cell? ⟨w.heap.size + 1, 1, none⟩ = some v3 ∧ Below w.heap.size w w2 ∧ w.heap.size + 2 < w2.heap.size ∧
   (w2.cell? ⟨w.heap.size + 1 + 1, 0, none⟩).isSome = true ∧ (w2.cell? ⟨w.heap.size + 1 + 1, 1, none⟩).isSome = true ∧ w2.frozen? ⟨w.heap.size + 1 + 1, 0, none⟩ = false ∧ w2.frozen? ⟨w.heap.size + 1 + 1, 1, none⟩ = false := by
 obtain ⟨h0, h1, h2, h3, hB, hz, h4, h5, h6, h7⟩ := h
 obtain ⟨B, hc, hf⟩ := after0 (a := w) hb hB
 have := hb.size
 refine ⟨?_, ?_, ?_, ?_, B, by omega, ?_, ?_, ?_, ?_⟩
 ·rw [hc _ _ (by omega)]; exact h0
 ·rw [hc _ _ (by omega)]; exact h1
 ·rw [hc _ _ (by omega)]; exact h2
 ·rw [hc _ _ (by omega)]; exact h3
 ·rw [hc _ _ (by omega)]; exact h4
 ·rw [hc _ _ (by omega)]; exact h5
 ·rw [hf _ _ (by omega)]; exact h6
 ·rw [hf _ _ (by omega)]; exact h7

theorem keepR {w W w2 : World} {v0 v1 v2 v3 : Value} (h : W.cell? ⟨w.heap.size, 0, none⟩ = some v0 ∧ W.cell? ⟨w.heap.size, 1, none⟩ = some v1 ∧ W.cell? ⟨w.heap.size + 1, 0, none⟩ = some v2 ∧ W.cell? ⟨w.heap.size + 1, 1, none⟩ = some v3 ∧ Below w.heap.size w W ∧ w.heap.size + 2 < W.heap.size ∧
   (W.cell? ⟨w.heap.size + 1 + 1, 0, none⟩).isSome = true ∧ (W.cell? ⟨w.heap.size + 1 + 1, 1, none⟩).isSome = true ∧ W.frozen? ⟨w.heap.size + 1 + 1, 0, none⟩ = false ∧ W.frozen? ⟨w.heap.size + 1 + 1, 1, none⟩ = false) (hb : Below W.heap.size W w2) : ∃ r0 r1, w2.cell? ⟨w.heap.size + 1 + 1, 0, none⟩ = some r0 ∧ w2.cell? ⟨w.heap.size + 1 + 1, 1, none⟩ = some r1 := by
 obtain ⟨_, _, _, _, _, _, h4, h5, _, _⟩ := keepS h hb
 obtain ⟨r0, h0⟩ := Option.isSome_iff_exists.1 h4
 obtain ⟨r1, h1⟩ := Option.isSome_iff_exists.1 h5
 exact ⟨r0, r1, h0, h1⟩

theorem storeS {w W : World} {v0 v1 v2 v3 x y : Value} (h : W.cell? ⟨w.heap.size, 0, none⟩ = some v0 ∧ W.cell? ⟨w.heap.size, 1, none⟩ = some v1 ∧ W.cell? ⟨w.heap.size + 1, 0, none⟩ = some v2 ∧ W.cell? ⟨w.heap.size + 1, 1, none⟩ = some v3 ∧ Below w.heap.size w W ∧ w.heap.size + 2 < W.heap.size ∧
   (W.cell? ⟨w.heap.size + 1 + 1, 0, none⟩).isSome = true ∧ (W.cell? ⟨w.heap.size + 1 + 1, 1, none⟩).isSome = true ∧ W.frozen? ⟨w.heap.size + 1 + 1, 0, none⟩ = false ∧ W.frozen? ⟨w.heap.size + 1 + 1, 1, none⟩ = false) : ((W.setCell ⟨w.heap.size + 1 + 1, 0, none⟩ x).setCell ⟨w.heap.size + 1 + 1, 1, none⟩ y).cell? ⟨w.heap.size, 0, none⟩ = some v0 ∧ ((W.setCell ⟨w.heap.size + 1 + 1, 0, none⟩ x).setCell ⟨w.heap.size + 1 + 1, 1, none⟩ y).cell? ⟨w.heap.size, 1, none⟩ = some v1 ∧ ((W.setCell ⟨w.heap.size + 1 + 1, 0, none⟩ x).setCell ⟨w.heap.size + 1 + 1, 1, none⟩ y).cell? ⟨w.heap.size + 1, 0, none⟩ = some v2 ∧ ((W.setCell ⟨w.heap.size + 1 + 1, 0, none⟩ x).setCell ⟨w.heap.size + 1 + 1, 1, none⟩ y).cell? ⟨w.heap.size + 1, 1, none⟩ = some v3 ∧ Below w.heap.size w ((W.setCell ⟨w.heap.size + 1 + 1, 0, none⟩ x).setCell ⟨w.heap.size + 1 + 1, 1, none⟩ y) ∧ w.heap.size + 2 < ((W.setCell ⟨w.heap.size + 1 + 1, 0, none⟩ x).setCell ⟨w.heap.size + 1 + 1, 1, none⟩ y).heap.size ∧
   (((W.setCell ⟨w.heap.size + 1 + 1, 0, none⟩ x).setCell ⟨w.heap.size + 1 + 1, 1, none⟩ y).cell? ⟨w.heap.size + 1 + 1, 0, none⟩).isSome = true ∧ (((W.setCell ⟨w.heap.size + 1 + 1, 0, none⟩ x).setCell ⟨w.heap.size + 1 + 1, 1, none⟩ y).cell? ⟨w.heap.size + 1 + 1, 1, none⟩).isSome = true ∧ ((W.setCell ⟨w.heap.size + 1 + 1, 0, none⟩ x).setCell ⟨w.heap.size + 1 + 1, 1, none⟩ y).frozen? ⟨w.heap.size + 1 + 1, 0, none⟩ = false ∧ ((W.setCell ⟨w.heap.size + 1 + 1, 0, none⟩ x).setCell ⟨w.heap.size + 1 + 1, 1, none⟩ y).frozen? ⟨w.heap.size + 1 + 1, 1, none⟩ = false := by
 obtain ⟨h0, h1, h2, h3, hB, hz, h4, h5, h6, h7⟩ := h
 have e0 : ∀ o, (⟨w.heap.size + 1 + 1, o, none⟩ : Addr) ≠ ⟨w.heap.size, 0, none⟩ := fun o h => by injection h; omega
 have far : ∀ (p : Addr) (b o : Nat) (V : World) (v : Value), p.block ≠ b → (V.setCell p v).cell? ⟨b, o, none⟩ = V.cell? ⟨b, o, none⟩ := fun p b o V v hne => World.cell?_setCell_far V p ⟨b, o, none⟩ v hne
 refine ⟨?_, ?_, ?_, ?_, ?_, ?_, ?_, ?_, ?_, ?_⟩
 ·rw [far _ _ _ _ _ (by simp; omega), far _ _ _ _ _ (by simp; omega)]; exact h0
 ·rw [far _ _ _ _ _ (by simp; omega), far _ _ _ _ _ (by simp; omega)]; exact h1
 ·rw [far _ _ _ _ _ (by simp), far _ _ _ _ _ (by simp)]; exact h2
 ·rw [far _ _ _ _ _ (by simp), far _ _ _ _ _ (by simp)]; exact h3
 ·exact (hB.setCell (by simp; omega) _).setCell (by simp; omega) _
 ·simpa using hz
 ·have e1 := World.cell?_setCell_same' W _ x h4
  rw [World.cell?_setCell_other _ _ _ _ (by simp), e1]; rfl
 ·rw [World.cell?_setCell_same' _ _ _ (by rw [World.cell?_setCell_other _ _ _ _ (by simp)]; exact h5)]; rfl
 ·simpa using h6
 ·simpa using h7

theorem farS {w W : World} {v0 v1 v2 v3 x y : Value} {g : Nat} (h : W.cell? ⟨w.heap.size, 0, none⟩ = some v0 ∧ W.cell? ⟨w.heap.size, 1, none⟩ = some v1 ∧ W.cell? ⟨w.heap.size + 1, 0, none⟩ = some v2 ∧ W.cell? ⟨w.heap.size + 1, 1, none⟩ = some v3 ∧ Below w.heap.size w W ∧ w.heap.size + 2 < W.heap.size ∧
   (W.cell? ⟨w.heap.size + 1 + 1, 0, none⟩).isSome = true ∧ (W.cell? ⟨w.heap.size + 1 + 1, 1, none⟩).isSome = true ∧ W.frozen? ⟨w.heap.size + 1 + 1, 0, none⟩ = false ∧ W.frozen? ⟨w.heap.size + 1 + 1, 1, none⟩ = false) (hg : w.heap.size + 2 < g) : ((W.setCell ⟨g, 0, none⟩ x).setCell ⟨g, 1, none⟩ y).cell? ⟨w.heap.size, 0, none⟩ = some v0 ∧ ((W.setCell ⟨g, 0, none⟩ x).setCell ⟨g, 1, none⟩ y).cell? ⟨w.heap.size, 1, none⟩ = some v1 ∧ ((W.setCell ⟨g, 0, none⟩ x).setCell ⟨g, 1, none⟩ y).cell? ⟨w.heap.size + 1, 0, none⟩ = some v2 ∧ ((W.setCell ⟨g, 0, none⟩ x).setCell ⟨g, 1, none⟩ y).cell? ⟨w.heap.size + 1, 1, none⟩ = some v3 ∧ Below w.heap.size w ((W.setCell ⟨g, 0, none⟩ x).setCell ⟨g, 1, none⟩ y) ∧ w.heap.size + 2 < ((W.setCell ⟨g, 0, none⟩ x).setCell ⟨g, 1, none⟩ y).heap.size ∧
   (((W.setCell ⟨g, 0, none⟩ x).setCell ⟨g, 1, none⟩ y).cell? ⟨w.heap.size + 1 + 1, 0, none⟩).isSome = true ∧ (((W.setCell ⟨g, 0, none⟩ x).setCell ⟨g, 1, none⟩ y).cell? ⟨w.heap.size + 1 + 1, 1, none⟩).isSome = true ∧ ((W.setCell ⟨g, 0, none⟩ x).setCell ⟨g, 1, none⟩ y).frozen? ⟨w.heap.size + 1 + 1, 0, none⟩ = false ∧ ((W.setCell ⟨g, 0, none⟩ x).setCell ⟨g, 1, none⟩ y).frozen? ⟨w.heap.size + 1 + 1, 1, none⟩ = false := by
 obtain ⟨h0, h1, h2, h3, hB, hz, h4, h5, h6, h7⟩ := h
 have far : ∀ (p : Addr) (b o : Nat) (V : World) (v : Value), p.block ≠ b → (V.setCell p v).cell? ⟨b, o, none⟩ = V.cell? ⟨b, o, none⟩ := fun p b o V v hne => World.cell?_setCell_far V p ⟨b, o, none⟩ v hne
 refine ⟨?_, ?_, ?_, ?_, ?_, ?_, ?_, ?_, ?_, ?_⟩
 ·rw [far _ _ _ _ _ (by simp; omega), far _ _ _ _ _ (by simp; omega)]; exact h0
 ·rw [far _ _ _ _ _ (by simp; omega), far _ _ _ _ _ (by simp; omega)]; exact h1
 ·rw [far _ _ _ _ _ (by simp; omega), far _ _ _ _ _ (by simp; omega)]; exact h2
 ·rw [far _ _ _ _ _ (by simp; omega), far _ _ _ _ _ (by simp; omega)]; exact h3
 ·exact (hB.setCell (by simp; omega) _).setCell (by simp; omega) _
 ·simpa using hz
 ·rw [far _ _ _ _ _ (by simp; omega), far _ _ _ _ _ (by simp; omega)]; exact h4
 ·rw [far _ _ _ _ _ (by simp; omega), far _ _ _ _ _ (by simp; omega)]; exact h5
 ·simpa using h6
 ·simpa using h7

theorem newS {w W : World} {v0 v1 v2 v3 : Value} {o : Obj} (h : W.cell? ⟨w.heap.size, 0, none⟩ = some v0 ∧ W.cell? ⟨w.heap.size, 1, none⟩ = some v1 ∧ W.cell? ⟨w.heap.size + 1, 0, none⟩ = some v2 ∧ W.cell? ⟨w.heap.size + 1, 1, none⟩ = some v3 ∧ Below w.heap.size w W ∧ w.heap.size + 2 < W.heap.size ∧
   (W.cell? ⟨w.heap.size + 1 + 1, 0, none⟩).isSome = true ∧ (W.cell? ⟨w.heap.size + 1 + 1, 1, none⟩).isSome = true ∧ W.frozen? ⟨w.heap.size + 1 + 1, 0, none⟩ = false ∧ W.frozen? ⟨w.heap.size + 1 + 1, 1, none⟩ = false) : (W.alloc o).cell? ⟨w.heap.size, 0, none⟩ = some v0 ∧ (W.alloc o).cell? ⟨w.heap.size, 1, none⟩ = some v1 ∧ (W.alloc o).cell? ⟨w.heap.size + 1, 0, none⟩ = some v2 ∧ (W.alloc o).cell? ⟨w.heap.size + 1, 1, none⟩ = some v3 ∧ Below w.heap.size w (W.alloc o) ∧ w.heap.size + 2 < (W.alloc o).heap.size ∧
   ((W.alloc o).cell? ⟨w.heap.size + 1 + 1, 0, none⟩).isSome = true ∧ ((W.alloc o).cell? ⟨w.heap.size + 1 + 1, 1, none⟩).isSome = true ∧ (W.alloc o).frozen? ⟨w.heap.size + 1 + 1, 0, none⟩ = false ∧ (W.alloc o).frozen? ⟨w.heap.size + 1 + 1, 1, none⟩ = false := by
 obtain ⟨h0, h1, h2, h3, hB, hz, h4, h5, h6, h7⟩ := h
 have B : Below W.heap.size W (W.alloc o) := (Below.refl _ _).alloc (Nat.le_refl _) _
 exact keepS ⟨h0, h1, h2, h3, hB, hz, h4, h5, h6, h7⟩ B

theorem swapS {w W : World} {v0 v1 v2 v3 : Value} {o o' : Obj} (h : (W.alloc o).cell? ⟨w.heap.size, 0, none⟩ = some v0 ∧ (W.alloc o).cell? ⟨w.heap.size, 1, none⟩ = some v1 ∧ (W.alloc o).cell? ⟨w.heap.size + 1, 0, none⟩ = some v2 ∧ (W.alloc o).cell? ⟨w.heap.size + 1, 1, none⟩ = some v3 ∧ Below w.heap.size w (W.alloc o) ∧ w.heap.size + 2 < (W.alloc o).heap.size ∧
   ((W.alloc o).cell? ⟨w.heap.size + 1 + 1, 0, none⟩).isSome = true ∧ ((W.alloc o).cell? ⟨w.heap.size + 1 + 1, 1, none⟩).isSome = true ∧ (W.alloc o).frozen? ⟨w.heap.size + 1 + 1, 0, none⟩ = false ∧ (W.alloc o).frozen? ⟨w.heap.size + 1 + 1, 1, none⟩ = false) (hg : w.heap.size + 2 < W.heap.size) : (W.alloc o').cell? ⟨w.heap.size, 0, none⟩ = some v0 ∧ (W.alloc o').cell? ⟨w.heap.size, 1, none⟩ = some v1 ∧ (W.alloc o').cell? ⟨w.heap.size + 1, 0, none⟩ = some v2 ∧ (W.alloc o').cell? ⟨w.heap.size + 1, 1, none⟩ = some v3 ∧ Below w.heap.size w (W.alloc o') ∧ w.heap.size + 2 < (W.alloc o').heap.size ∧
   ((W.alloc o').cell? ⟨w.heap.size + 1 + 1, 0, none⟩).isSome = true ∧ ((W.alloc o').cell? ⟨w.heap.size + 1 + 1, 1, none⟩).isSome = true ∧ (W.alloc o').frozen? ⟨w.heap.size + 1 + 1, 0, none⟩ = false ∧ (W.alloc o').frozen? ⟨w.heap.size + 1 + 1, 1, none⟩ = false := by
 obtain ⟨h0, h1, h2, h3, hB, hz, h4, h5, h6, h7⟩ := h
 have hb : Below W.heap.size W (W.alloc o) := (Below.refl _ _).alloc (Nat.le_refl _) _
 have hc := fun b i (hh : b < W.heap.size) => hb.cell (p := ⟨b, i, none⟩) hh
 have hf := fun b i (hh : b < W.heap.size) => hb.frozen (p := ⟨b, i, none⟩) hh
 refine newS ⟨?_, ?_, ?_, ?_, ⟨hB.os, hB.tape, hB.output, by omega, fun k hk => ?_⟩, hg, ?_, ?_, ?_, ?_⟩
 ·rw [← hc _ _ (by omega)]; exact h0
 ·rw [← hc _ _ (by omega)]; exact h1
 ·rw [← hc _ _ (by omega)]; exact h2
 ·rw [← hc _ _ (by omega)]; exact h3
 ·rw [← hB.block k hk, Below.heap_alloc _ _ _ (by omega)]
 ·rw [← hc _ _ (by omega)]; exact h4
 ·rw [← hc _ _ (by omega)]; exact h5
 ·rw [← hf _ _ (by omega)]; exact h6
 ·rw [← hf _ _ (by omega)]; exact h7

theorem startS (w : World) (a0 a1 b0 b1 r0 r1 : Value) (t n : Nat) (W : World) (hW : W = ((((w.alloc (Obj.cells #[a0, a1] t)).alloc (Obj.cells #[b0, b1] t)).alloc (Obj.cells #[r0, r1] t)).drewN n)) :
  W.drew.cell? ⟨w.heap.size, 0, none⟩ = some a0 ∧ W.drew.cell? ⟨w.heap.size, 1, none⟩ = some a1 ∧ W.drew.cell? ⟨w.heap.size + 1, 0, none⟩ = some b0 ∧ W.drew.cell? ⟨w.heap.size + 1, 1, none⟩ = some b1 ∧ Below w.heap.size w W.drew ∧ w.heap.size + 2 < W.drew.heap.size ∧
   (W.drew.cell? ⟨w.heap.size + 1 + 1, 0, none⟩).isSome = true ∧ (W.drew.cell? ⟨w.heap.size + 1 + 1, 1, none⟩).isSome = true ∧ W.drew.frozen? ⟨w.heap.size + 1 + 1, 0, none⟩ = false ∧ W.drew.frozen? ⟨w.heap.size + 1 + 1, 1, none⟩ = false := by
 subst hW
 have e : ((w.alloc (Obj.cells #[a0, a1] t)).alloc (Obj.cells #[b0, b1] t)).heap.size = w.heap.size + 1 + 1 := by simp
 generalize hV : (w.alloc (Obj.cells #[a0, a1] t)).alloc (Obj.cells #[b0, b1] t) = V at *
 have c0 : V.cell? ⟨w.heap.size, 0, none⟩ = some a0 := by rw [← hV]; simp [go_sem]
 have c1 : V.cell? ⟨w.heap.size, 1, none⟩ = some a1 := by rw [← hV]; simp [go_sem]
 have c2 : V.cell? ⟨w.heap.size + 1, 0, none⟩ = some b0 := by rw [← hV]; simp [go_sem]
 have c3 : V.cell? ⟨w.heap.size + 1, 1, none⟩ = some b1 := by rw [← hV]; simp [go_sem]
 have B : Below w.heap.size w V := by rw [← hV]; exact (by repeat' (first | (with_reducible exact Below.refl _ _) | (with_reducible assumption) | (with_reducible refine Below.alloc ?_ ?_ _) | (with_reducible refine below_drew ?_ _) | (with_reducible refine Below.drew ?_) | (with_reducible refine Below.setCell ?_ ?_ _) | go_size))
 clear hV
 rw [← e]
 refine ⟨?_, ?_, ?_, ?_, ?_, ?_, ?_, ?_, ?_, ?_⟩
 ·rw [World.cell?_drew, World.cell?_drewN, World.cell?_alloc_past _ _ _ (by omega)]; exact c0
 ·rw [World.cell?_drew, World.cell?_drewN, World.cell?_alloc_past _ _ _ (by omega)]; exact c1
 ·rw [World.cell?_drew, World.cell?_drewN, World.cell?_alloc_past _ _ _ (by omega)]; exact c2
 ·rw [World.cell?_drew, World.cell?_drewN, World.cell?_alloc_past _ _ _ (by omega)]; exact c3
 ·exact Below.drew (below_drew (B.alloc (by omega) _) _)
 ·first | (simp; done) | (simp; omega)
 ·simp [go_sem]
 ·simp [go_sem]
 ·simp [go_sem]
 ·simp [go_sem]

set_option maxHeartbeats 4000000 in
theorem times_any (an ad bn bd : Int) (w : World) (va : Vld an ad) (vb : Vld bn bd) (n d e : Int) (h : redT (an * bn) (ad * bd) = (n, d, e)) :
  Calls Tryz.prog 112 #[.agg #[.int .i64 an, .int .i64 ad], .agg #[.int .i64 bn, .int .i64 bd]] w fun r w' => r = .returned (.tuple #[.agg #[.int .i64 n, .int .i64 d], .int .i64 e]) ∧ Below w.heap.size w w' := by
 obtain ⟨l, hl⟩ : ∃ l : Int, l = (Int.gcd an bd : Nat) := ⟨_, rfl⟩
 obtain ⟨r, hr⟩ : ∃ r : Int, r = (Int.gcd bn ad : Nat) := ⟨_, rfl⟩
 obtain ⟨l0, l1, r0, r1, t1, t2, p0, p1, q0, q1, hf⟩ := times_fit va vb hl hr
 rw [h] at hf
 have va1 := va.d1; have va2 := va.d2; have va3 := va.n1; have va4 := va.n2
 have vb1 := vb.d1; have vb2 := vb.d2; have vb3 := vb.n1; have vb4 := vb.n2
 have CL : ∀ w, Hid (Calls Tryz.prog 100 #[.int .i64 an, .int .i64 bd] w fun e w' => e = .returned (.int .i64 l) ∧ ∃ k, w' = w.drewN k) := fun w => by rw [hl]; exact divisor_any an bd w (by omega) (by omega) (by omega) (by omega)
 have CR : ∀ w, Hid (Calls Tryz.prog 100 #[.int .i64 bn, .int .i64 ad] w fun e w' => e = .returned (.int .i64 r) ∧ ∃ k, w' = w.drewN k) := fun w => by rw [hr]; exact divisor_any bn ad w (by omega) (by omega) (by omega) (by omega)
 obtain ⟨x, hx⟩ : ∃ x, an.tdiv l = x := ⟨_, rfl⟩
 obtain ⟨y, hy⟩ : ∃ y, bn.tdiv r = y := ⟨_, rfl⟩
 obtain ⟨u, hu⟩ : ∃ u, ad / r = u := ⟨_, rfl⟩
 obtain ⟨v, hv⟩ : ∃ v, bd / l = v := ⟨_, rfl⟩
 rw [hx, hy, hu, hv] at hf
 rw [hx] at t1; rw [hy] at t2; rw [hu] at p0 p1; rw [hv] at q0 q1
 have hu' : ad.tdiv r = u := by rw [Int.tdiv_eq_ediv_of_nonneg (by omega), hu]
 have hv' : bd.tdiv l = v := by rw [Int.tdiv_eq_ediv_of_nonneg (by omega), hv]
 obtain ⟨b1, b2⟩ := mul_bd (a := x) (b := y) (by omega) (by omega) (by omega) (by omega)
 obtain ⟨c1, c2⟩ := mul_bd (a := u) (b := v) (by omega) (by omega) (by omega) (by omega)
 have c3 := Int.mul_pos p0 q0
 have CX := fun w => Lib.hid (product_any x y w (by omega) (by omega) (by omega) (by omega))
 have CU := fun w => Lib.hid (product_any u v w (by omega) (by omega) (by omega) (by omega))
 have CF := fun w => Lib.hid (fitting_any (x * y) (u * v) w (by omega) (by omega) c3 (by omega) n d e hf)
 have hlne : ¬ l = 0 := by omega
 have hrne : ¬ r = 0 := by omega
 have wx : IntKind.i64.wrap x = x := IntWalk.i64_in _ (by omega)
 have wy : IntKind.i64.wrap y = y := IntWalk.i64_in _ (by omega)
 have wu : IntKind.i64.wrap u = u := IntWalk.i64_in _ (by omega)
 have wv : IntKind.i64.wrap v = v := IntWalk.i64_in _ (by omega)
 clear hf h hl hr b1 b2 c1 c2 c3
 generalize hiW (x * y) = h1 at *
 generalize loW (x * y) = h2 at *
 generalize hiW (u * v) = h3 at *
 generalize loW (u * v) = h4 at *
 go_enter Tryz.func112, Tryz.ntmps112
 go_wp2
 go_quiet ((first | (go_at_call 100; (with_reducible exact Calls.quiet_of ((CL _).out))) | (go_at_call 100; (with_reducible exact Calls.quiet_of ((CR _).out)))))
 go_wp2
 go_region_held3 (fun w' => w'.cell? ⟨w.heap.size, 0, none⟩ = some (.int .i64 an) ∧ w'.cell? ⟨w.heap.size, 1, none⟩ = some (.int .i64 ad) ∧ w'.cell? ⟨w.heap.size + 1, 0, none⟩ = some (.int .i64 bn) ∧ w'.cell? ⟨w.heap.size + 1, 1, none⟩ = some (.int .i64 bd) ∧ Below w.heap.size w w' ∧ w.heap.size + 2 < w'.heap.size ∧ (w'.cell? ⟨w.heap.size + 1 + 1, 0, none⟩).isSome = true ∧ (w'.cell? ⟨w.heap.size + 1 + 1, 1, none⟩).isSome = true ∧ w'.frozen? ⟨w.heap.size + 1 + 1, 0, none⟩ = false ∧ w'.frozen? ⟨w.heap.size + 1 + 1, 1, none⟩ = false)
  (first | exact keepS (by assumption) hb | exact storeS (by assumption) | exact startS w _ _ _ _ _ _ _ _ _ rfl | go_keep)
  (first
   | (go_at_call 114; (with_reducible refine ((CX _).out).mono ?_); rintro e w2 ⟨rfl, hb⟩)
   | (go_at_call 114; (with_reducible refine ((CU _).out).mono ?_); rintro e w2 ⟨rfl, hb⟩)
   | (go_at_call 122; (with_reducible refine ((CF _).out).mono ?_); rintro e w2 ⟨rfl, hb⟩; obtain ⟨r8, r9, k8, k9⟩ := keepR (w := w) (v0 := .int .i64 an) (v1 := .int .i64 ad) (v2 := .int .i64 bn) (v3 := .int .i64 bd) (by assumption) hb))
 rename_i hS
 have hB := hS.2.2.2.2.1
 clear hS
 go_wp2
 refine bodyPost_ret (by simp [results, Tryz.results112, go_sem, k8, k9]; try rfl) rfl ?_
 exact ⟨rfl, hB⟩

end Go.Proofs.YtggpdhdbeokkcaaGreat
