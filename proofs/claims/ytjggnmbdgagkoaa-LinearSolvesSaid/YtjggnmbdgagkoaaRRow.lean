/- Blocks that read as lists of one-cell values. -/
import Derived.Test.YtjggnmbdgagkoaaREach
namespace Go.Proofs.Ytjggnmbdgagkoaa
set_option linter.unusedVariables false
open Go.RowKit Go.Shelf

/-- A block that reads as a list of one-cell values. -/
def Row (W : World) (b : Nat) (vs : List Value) : Prop := b < W.heap.size ∧ ∀ k (h : k < vs.length), W.cell? ⟨b, k, none⟩ = some vs[k]
theorem Row.on {W W2 : World} {b : Nat} {vs : List Value} (h : Row W b vs) (hb : Below W.heap.size W W2) : Row W2 b vs := ⟨Nat.lt_of_lt_of_le h.1 hb.size, fun k hk => (hb.cell (p := ⟨b, k, none⟩) h.1).trans (h.2 k hk)⟩
theorem Row.far {W : World} {b c : Nat} {vs : List Value} {x y : Value} (h : Row W b vs) (hne : c ≠ b) : Row ((W.setCell ⟨c, 0, none⟩ x).setCell ⟨c, 1, none⟩ y) b vs := by
  have far : ∀ (p : Addr) (b o : Nat) (V : World) (v : Value), p.block ≠ b → (V.setCell p v).cell? ⟨b, o, none⟩ = V.cell? ⟨b, o, none⟩ := fun p b o V v hne => World.cell?_setCell_far V p ⟨b, o, none⟩ v hne
  exact ⟨by simpa using h.1, fun k hk => by rw [far _ _ _ _ _ hne, far _ _ _ _ _ hne]; exact h.2 k hk⟩
theorem row2 (W : World) (x y : Value) (t : Nat) : Row (W.alloc (Obj.cells #[x, y] t)) W.heap.size [x, y] := by
  refine ⟨by simp, fun k hk => ?_⟩
  match k, hk with
  | 0, _ => simp [go_sem]
  | 1, _ => simp [go_sem]
  | (n + 2), h => exact absurd h (by simp)
theorem row4 (W : World) (x y z u : Value) (t : Nat) : Row (W.alloc (Obj.cells #[x, y, z, u] t)) W.heap.size [x, y, z, u] := by
  refine ⟨by simp, fun k hk => ?_⟩
  match k, hk with
  | 0, _ => simp [go_sem]
  | 1, _ => simp [go_sem]
  | 2, _ => simp [go_sem]
  | 3, _ => simp [go_sem]
  | (n + 4), h => exact absurd h (by simp)

end Go.Proofs.Ytjggnmbdgagkoaa
