/- The reference of layer 2: sums. -/
import Derived.Test.YtjggnmbdgagkoaaRRef8
namespace Go.Proofs.Ytjggnmbdgagkoaa
set_option linter.unusedVariables false
open Go.RowKit Go.Shelf

/-- Two fractions that came in, and a result not yet written. -/
def ArgSt (w W : World) (an ad bn bd : Int) : Prop := Blk W w.heap.size (.int .i64 an) (.int .i64 ad) ∧ Blk W (w.heap.size + 1) (.int .i64 bn) (.int .i64 bd) ∧ Blk W (w.heap.size + 1 + 1) (.int .i64 0) (.int .i64 0) ∧ Frz W (w.heap.size + 1 + 1) ∧ Below w.heap.size w W
theorem ArgSt.on {w W W2 : World} {an ad bn bd : Int} (h : ArgSt w W an ad bn bd) (hb : Below W.heap.size W W2) : ArgSt w W2 an ad bn bd := by
  obtain ⟨ha, hB, hr, fr, B⟩ := h
  exact ⟨ha.on hb, hB.on hb, hr.on hb, fr.on hr.1 hb, below_on B hb⟩
theorem ArgSt.alloc {w W : World} {an ad bn bd : Int} (h : ArgSt w W an ad bn bd) (o : Obj) : ArgSt w (W.alloc o) an ad bn bd := h.on ((Below.refl _ _).alloc (Nat.le_refl _) _)
theorem ArgSt.drew {w W : World} {an ad bn bd : Int} (h : ArgSt w W an ad bn bd) : ArgSt w W.drew an ad bn bd := h.on (Below.drew (Below.refl _ _))
theorem ArgSt.set {w W : World} {an ad bn bd : Int} {c : Nat} {x y : Value} (h : ArgSt w W an ad bn bd) (hc : w.heap.size + 1 + 1 < c) : ArgSt w ((W.setCell ⟨c, 0, none⟩ x).setCell ⟨c, 1, none⟩ y) an ad bn bd := by
  obtain ⟨ha, hB, hr, fr, B⟩ := h
  exact ⟨ha.far (by omega), hB.far (by omega), hr.far (by omega), fr.set, (B.setCell (by simp; omega) _).setCell (by simp; omega) _⟩
theorem ArgSt.start (w : World) (an ad bn bd : Int) (W : World) (hW : W = ((w.alloc (Obj.cells #[Value.int IntKind.i64 an, Value.int IntKind.i64 ad] 45)).alloc (Obj.cells #[Value.int IntKind.i64 bn, Value.int IntKind.i64 bd] 45)).alloc (Obj.cells #[Value.int IntKind.i64 0, Value.int IntKind.i64 0] 45)) : ArgSt w W an ad bn bd := by
  subst hW
  have nw : ∀ (V : World) (n : Nat) (v0 v1 : Value) (t : Nat), V.heap.size = n → Blk (V.alloc (Obj.cells #[v0, v1] t)) n v0 v1 := fun V n v0 v1 t h => h ▸ Blk.new V v0 v1 t
  have nf : ∀ (V : World) (n : Nat) (v0 v1 : Value) (t : Nat), V.heap.size = n → Frz (V.alloc (Obj.cells #[v0, v1] t)) n := fun V n v0 v1 t h => h ▸ Frz.new V v0 v1 t
  refine ⟨?_, ?_, ?_, ?_, (by repeat' (first | (with_reducible exact Below.refl _ _) | (with_reducible assumption) | (with_reducible refine Below.alloc ?_ ?_ _) | (with_reducible refine below_drew ?_ _) | (with_reducible refine Below.drew ?_) | (with_reducible refine Below.setCell ?_ ?_ _) | go_size))⟩
  · exact ((nw _ _ _ _ _ (by simp)).alloc _).alloc _
  · exact (nw _ _ _ _ _ (by simp)).alloc _
  · exact nw _ _ _ _ _ (by simp)
  · exact nf _ _ _ _ _ (by simp)

theorem ArgSt.toS {w W : World} {an ad bn bd : Int} (h : ArgSt w W an ad bn bd) : W.cell? ⟨w.heap.size, 0, none⟩ = some (.int .i64 an) ∧ W.cell? ⟨w.heap.size, 1, none⟩ = some (.int .i64 ad) ∧ W.cell? ⟨w.heap.size + 1, 0, none⟩ = some (.int .i64 bn) ∧ W.cell? ⟨w.heap.size + 1, 1, none⟩ = some (.int .i64 bd) ∧ Below w.heap.size w W ∧ w.heap.size + 2 < W.heap.size ∧ (W.cell? ⟨w.heap.size + 1 + 1, 0, none⟩).isSome = true ∧ (W.cell? ⟨w.heap.size + 1 + 1, 1, none⟩).isSome = true ∧ W.frozen? ⟨w.heap.size + 1 + 1, 0, none⟩ = false ∧ W.frozen? ⟨w.heap.size + 1 + 1, 1, none⟩ = false := by
  obtain ⟨⟨_, a0, a1⟩, ⟨_, b0, b1⟩, ⟨l, r0, r1⟩, ⟨f0, f1⟩, B⟩ := h
  exact ⟨a0, a1, b0, b1, B, l, by rw [r0]; rfl, by rw [r1]; rfl, f0, f1⟩

end Go.Proofs.Ytjggnmbdgagkoaa
