/- What a law carries where a variable is written again. -/
import Derived.Test.YtggpdhdbeokkcaaGreatRLawMath2
namespace Go.Proofs.YtggpdhdbeokkcaaGreat
set_option linter.unusedVariables false
open Go.RowKit Go.Shelf

def Frz (w : World) (b : Nat) : Prop := w.frozen? ⟨b, 0, none⟩ = false ∧ w.frozen? ⟨b, 1, none⟩ = false
theorem Frz.on {W w1 : World} {b : Nat} (h : Frz W b) (hl : b < W.heap.size) (hb : Below W.heap.size W w1) : Frz w1 b :=
 ⟨(hb.frozen (p := ⟨b, 0, none⟩) hl).trans h.1, (hb.frozen (p := ⟨b, 1, none⟩) hl).trans h.2⟩
theorem Frz.alloc {W : World} {b : Nat} (h : Frz W b) (hl : b < W.heap.size) (o : Obj) : Frz (W.alloc o) b := h.on hl ((Below.refl _ _).alloc (Nat.le_refl _) _)
theorem Frz.new (W : World) (v0 v1 : Value) (t : Nat) : Frz (W.alloc (Obj.cells #[v0, v1] t)) W.heap.size := ⟨by simp [go_sem], by simp [go_sem]⟩
theorem Frz.set {W : World} {b c : Nat} {x y : Value} (h : Frz W b) : Frz ((W.setCell ⟨c, 0, none⟩ x).setCell ⟨c, 1, none⟩ y) b := ⟨by simpa using h.1, by simpa using h.2⟩
theorem Blk.set {W : World} {b : Nat} {v0 v1 x y : Value} (h : Blk W b v0 v1) : Blk ((W.setCell ⟨b, 0, none⟩ x).setCell ⟨b, 1, none⟩ y) b x y :=
 ⟨by simpa using h.1, two0 (by rw [h.2.1]; rfl), two1 (by rw [h.2.2]; rfl)⟩
theorem Blk.far {W : World} {b c : Nat} {v0 v1 x y : Value} (h : Blk W b v0 v1) (hne : c ≠ b) : Blk ((W.setCell ⟨c, 0, none⟩ x).setCell ⟨c, 1, none⟩ y) b v0 v1 := by
 have far : ∀ (p : Addr) (b o : Nat) (V : World) (v : Value), p.block ≠ b → (V.setCell p v).cell? ⟨b, o, none⟩ = V.cell? ⟨b, o, none⟩ := fun p b o V v hne => World.cell?_setCell_far V p ⟨b, o, none⟩ v hne
 exact ⟨by simpa using h.1, by rw [far _ _ _ _ _ hne, far _ _ _ _ _ hne]; exact h.2.1, by rw [far _ _ _ _ _ hne, far _ _ _ _ _ hne]; exact h.2.2⟩

end Go.Proofs.YtggpdhdbeokkcaaGreat
