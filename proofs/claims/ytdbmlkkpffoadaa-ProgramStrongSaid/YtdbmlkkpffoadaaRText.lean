/- Text of package ratio. -/
import Derived.Test.YtdbmlkkpffoadaaRMake
import Derived.Lib.AppendIntMem
import Derived.Lib.ItoaLen
import Derived.Laws.Concat
namespace Go.Proofs.Ytdbmlkkpffoadaa
set_option linter.unusedVariables false
open Go.RowKit Go.Shelf

/-- The table of the powers of ten reads as it is laid, whatever is done from block B on. -/
abbrev Pow10 (B : Nat) (w : World) : Prop := Lib.TabBelow Try.prog B w "internal/strconv.uint64pow10" .u64 Lib.pow10Tab

/-- The text of a fraction. -/
def txt (n d : Int) : List UInt8 := if d = 1 then Lib.itoa n else Lib.itoa n ++ 47 :: Lib.itoa d
def textT (n d : Int) : List UInt8 × Int := if vB n d = true then (txt n d, 0) else ([], 1)

theorem keepX {w W w2 : World} {v0 v1 : Value} (h : W.cell? ⟨w.heap.size, 0, none⟩ = some v0 ∧ W.cell? ⟨w.heap.size, 1, none⟩ = some v1 ∧ Below w.heap.size w W ∧ w.heap.size < W.heap.size) (hb : Below W.heap.size W w2) : w2.cell? ⟨w.heap.size, 0, none⟩ = some v0 ∧ w2.cell? ⟨w.heap.size, 1, none⟩ = some v1 ∧ Below w.heap.size w w2 ∧ w.heap.size < w2.heap.size := by
  obtain ⟨h0, h1, hB, hz⟩ := h
  obtain ⟨B, hc, hf⟩ := after0 (a := w) hb hB
  have := hb.size
  exact ⟨by rw [hc _ _ (by omega)]; exact h0, by rw [hc _ _ (by omega)]; exact h1, B, by omega⟩
theorem tabX {w W : World} {v0 v1 : Value} {B : Nat} (hT : Pow10 B w) (hB : B ≤ w.heap.size) (h : W.cell? ⟨w.heap.size, 0, none⟩ = some v0 ∧ W.cell? ⟨w.heap.size, 1, none⟩ = some v1 ∧ Below w.heap.size w W ∧ w.heap.size < W.heap.size) : Lib.TabIs Try.prog W "internal/strconv.uint64pow10" .u64 Lib.pow10Tab :=
  hT _ (h.2.2.1.mono hB)

end Go.Proofs.Ytdbmlkkpffoadaa
