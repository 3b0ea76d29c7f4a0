/- Layer 4: lists of integers that are parameters. -/
import Derived.Test.YtjggnmbdgagkoaaLProduct
namespace Go.Proofs.Ytjggnmbdgagkoaa
open Go.ChangeShapes Go.WideShapes Go.ChangeAt Go.RowKit Go.Joins Go.Deep
set_option linter.unusedVariables false

set_option maxRecDepth 100000 in
theorem open_row {H : Type} {enc : TypeId × Value → H} {W : World} {base : Nat} {v : Value} {d : DataW H} {p : List MemPlace} (hval : Value.okWide Try.prog W .any base 29 v) (h : DataW.Trod enc Try.prog W 0 (fun _ => true) true 29 v d p) :
    ∃ (ra : Option Addr) (n rc : Nat) (f : Nat → Int), v = .slice ra n rc ∧ IRow W ra n f ∧ (n ≤ rc ∧ ∀ j, j < n → -9223372036854775808 ≤ f j ∧ f j ≤ 9223372036854775807) ∧ rc ≤ 9223372036854775807 := by
  obtain ⟨ao, len, cp, rfl⟩ := okWide_slice Try.underlying29 hval
  obtain ⟨fuel, hx⟩ := h
  rcases open_ints Try.underlying29 Try.underlying3 (by kernel_rfl) hx with ⟨hc, _⟩ | ⟨a, len2, cap2, zs, hc, _, hl, hm, hz, _, hcell, hwf⟩
  · simp [Value.cells] at hc
    obtain ⟨rfl, rfl, rfl⟩ := hc
    exact ⟨none, 0, 0, fun _ => 0, rfl, fun h => by omega, ⟨Nat.le_refl _, fun j h => by omega⟩, by omega⟩
  · simp [Value.cells] at hc
    obtain ⟨rfl, rfl, rfl⟩ := hc
    simp only [if_true] at hz
    refine ⟨some a, len, cp, fun j => zs.getD j 0, rfl, fun hn => ?_, ⟨hl, fun j hj => ?_⟩, by unfold maxLen at hm; omega⟩
    · obtain ⟨sb, so, spot⟩ := a
      have c0 := hcell 0 (by omega)
      have hspot : spot = none := by simpa [Addr.add] using World.cell?_spot c0
      subst hspot
      refine ⟨sb, so, rfl, Lib.lt_of_cell (by simpa [Addr.add] using c0), fun j hj => ?_⟩
      have h1 := hcell j (by omega)
      simpa [Addr.add_lit] using h1
    · have hj2 : j < zs.length := by omega
      have := hwf (zs[j]) (List.getElem_mem hj2)
      have e : zs.getD j 0 = zs[j] := by simp [List.getD, hj2]
      show -9223372036854775808 ≤ zs.getD j 0 ∧ zs.getD j 0 ≤ 9223372036854775807
      rw [e]
      exact i64_bd this

end Go.Proofs.Ytjggnmbdgagkoaa
