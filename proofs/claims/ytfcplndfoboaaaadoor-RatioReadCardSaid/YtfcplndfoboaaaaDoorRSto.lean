/- Blocks of two cells that a law has laid, in one fact. -/
import Derived.Test.YtfcplndfoboaaaaDoorRLawStore
namespace Go.Proofs.YtfcplndfoboaaaaDoor
set_option linter.unusedVariables false
open Go.RowKit Go.Shelf

def Sto (w W : World) (l : List (Nat × Value × Value)) : Prop := (∀ x ∈ l, Blk W x.1 x.2.1 x.2.2) ∧ Below w.heap.size w W
theorem Sto.on {w W W2 : World} {l : List (Nat × Value × Value)} (h : Sto w W l) (hb : Below W.heap.size W W2) : Sto w W2 l := ⟨fun x hx => (h.1 x hx).on hb, below_on h.2 hb⟩
theorem Sto.add {w W : World} {l : List (Nat × Value × Value)} (h : Sto w W l) (v0 v1 : Value) (t : Nat) : Sto w (W.alloc (Obj.cells #[v0, v1] t)) ((W.heap.size, v0, v1) :: l) := by
  refine ⟨fun x hx => ?_, h.2.alloc h.2.size _⟩
  rcases List.mem_cons.1 hx with rfl | hx
  · exact Blk.new _ _ _ _
  · exact (h.1 x hx).alloc _
theorem Sto.below {w W : World} {l : List (Nat × Value × Value)} (h : Sto w W l) : Below w.heap.size w W := h.2
theorem Sto.get {w W : World} {l : List (Nat × Value × Value)} (h : Sto w W l) (x : Nat × Value × Value) (hx : x ∈ l) : Blk W x.1 x.2.1 x.2.2 := h.1 x hx
theorem Sto.start (w : World) : Sto w w [] := ⟨(fun _ h => by cases h), Below.refl _ _⟩
theorem two_sto (w : World) (a0 a1 b0 b1 : Value) (t : Nat) : Sto w ((w.alloc (Obj.cells #[a0, a1] t)).alloc (Obj.cells #[b0, b1] t)) [(w.heap.size + 1, b0, b1), (w.heap.size, a0, a1)] := by
  have h := ((Sto.start w).add a0 a1 t).add b0 b1 t
  simpa using h

end Go.Proofs.YtfcplndfoboaaaaDoor
