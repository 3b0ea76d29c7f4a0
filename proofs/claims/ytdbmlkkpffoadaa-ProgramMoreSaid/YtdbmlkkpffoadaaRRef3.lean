/- The reference of layer 2: the quotient and the remainder of two magnitudes. -/
import Derived.Test.YtdbmlkkpffoadaaRRef2
import Derived.Test.YtdbmlkkpffoadaaRLawStore
namespace Go.Proofs.Ytdbmlkkpffoadaa
set_option linter.unusedVariables false
open Go.RowKit Go.Shelf

theorem Blk.set1 {W : World} {b : Nat} {v0 v1 y : Value} (h : Blk W b v0 v1) : Blk (W.setCell ⟨b, 1, none⟩ y) b v0 y :=
  ⟨by simpa using h.1, by rw [World.cell?_setCell_other _ _ _ _ (by simp)]; exact h.2.1, World.cell?_setCell_same' _ _ _ (by rw [h.2.2]; rfl)⟩
theorem Blk.far1 {W : World} {b c o : Nat} {v0 v1 y : Value} (h : Blk W b v0 v1) (hne : c ≠ b) : Blk (W.setCell ⟨c, o, none⟩ y) b v0 v1 :=
  ⟨by simpa using h.1, by rw [World.cell?_setCell_far _ _ _ _ hne]; exact h.2.1, by rw [World.cell?_setCell_far _ _ _ _ hne]; exact h.2.2⟩
theorem Frz.set1 {W : World} {b c o : Nat} {y : Value} (h : Frz W b) : Frz (W.setCell ⟨c, o, none⟩ y) b := ⟨by simpa using h.1, by simpa using h.2⟩

end Go.Proofs.Ytdbmlkkpffoadaa
