/- Layer 4: lists of integers that are parameters. -/
import Derived.Test.YtjggnmbdgagkoaaLProduct
namespace Go.Proofs.Ytjggnmbdgagkoaa
open Go.ChangeShapes Go.WideShapes Go.ChangeAt Go.RowKit Go.Joins Go.Deep
set_option linter.unusedVariables false

set_option maxRecDepth 100000 in
theorem open_row {H : Type} {enc : TypeId × Value → H} {W : World} {base : Nat} {v : Value} {d : DataW H} {p : List MemPlace} (hval : Value.okWide Try.prog W .any base 29 v) (h : DataW.Trod enc Try.prog W 0 (fun _ => true) true 29 v d p) :
    ∃ (ra : Option Addr) (n rc : Nat) (f : Nat → Int), v = .slice ra n rc ∧ IRow W ra n f ∧ (n ≤ rc ∧ ∀ j, j < n → -9223372036854775808 ≤ f j ∧ f j ≤ 9223372036854775807) ∧ rc ≤ 9223372036854775807 := by
  obtain ⟨ao, len, cp, rfl⟩ := okWide_slice Try.underlying29 hval
  obtain ⟨fuel, hx⟩ := h
  rcases open_ints Try.underlying29 Try.underlying3 (by kernel_rfl) hx with ⟨hc, _⟩ | ⟨a, len2, cap2, zs, hc, _, hl, hm, hz, _, hcell, hwf⟩
  · simp [Value.cells] at hc
    obtain ⟨rfl, rfl, rfl⟩ := hc
    exact ⟨none, 0, 0, fun _ => 0, rfl, fun h => by omega, ⟨Nat.le_refl _, fun j h => by omega⟩, by omega⟩
  · simp [Value.cells] at hc
    obtain ⟨rfl, rfl, rfl⟩ := hc
    simp only [if_true] at hz
    refine ⟨some a, len, cp, fun j => zs.getD j 0, rfl, fun hn => ?_, ⟨hl, fun j hj => ?_⟩, by unfold maxLen at hm; omega⟩
    · obtain ⟨sb, so, spot⟩ := a
      have c0 := hcell 0 (by omega)
      have hspot : spot = none := by simpa [Addr.add] using World.cell?_spot c0
      subst hspot
      refine ⟨sb, so, rfl, Lib.lt_of_cell (by simpa [Addr.add] using c0), fun j hj => ?_⟩
      have h1 := hcell j (by omega)
      simpa [Addr.add_lit] using h1
    · have hj2 : j < zs.length := by omega
      have := hwf (zs[j]) (List.getElem_mem hj2)
      have e : zs.getD j 0 = zs[j] := by simp [List.getD, hj2]
      show -9223372036854775808 ≤ zs.getD j 0 ∧ zs.getD j 0 ≤ 9223372036854775807
      rw [e]
      exact i64_bd this

set_option maxRecDepth 100000 in
theorem open_matc {H : Type} {enc : TypeId × Value → H} {W : World} {base : Nat} {v : Value} {d : DataW H} {p : List MemPlace} (hval : Value.okWide Try.prog W .any base 23 v) (h : DataW.Trod enc Try.prog W 0 (fun _ => true) true 23 v d p) :
    ∃ (ma : Option Addr) (R mc : Nat) (Ra : Nat → Option Addr) (Ln Ka : Nat → Nat) (Z : Nat → Nat → Int), v = .slice ma R mc ∧ AMat W ma R Ra Ln Ka Z ∧ R ≤ mc ∧ mc ≤ 9223372036854775807 := by
  obtain ⟨ao, len, cp, rfl⟩ := okWide_slice Try.underlying23 hval
  obtain ⟨fuel, hx⟩ := h
  rcases open_int_rows Try.underlying23 Try.underlying29 Try.underlying3 (by kernel_rfl) (by kernel_rfl) hx with ⟨hc, _⟩ | ⟨a, len2, cap2, A, L, C, Z, hc, _, hl, hm, _, hall⟩
  · simp [Value.cells] at hc
    obtain ⟨rfl, rfl, rfl⟩ := hc
    exact ⟨none, 0, 0, fun _ => none, fun _ => 0, fun _ => 0, fun _ _ => 0, rfl, ⟨fun h => by omega, fun i h => by omega, fun i h => by omega⟩, Nat.le_refl _, by omega⟩
  · simp [Value.cells] at hc
    obtain ⟨rfl, rfl, rfl⟩ := hc
    refine ⟨some a, len, cp, A, L, C, fun i j => (Z i).getD j 0, rfl, ⟨fun hR => ?_, fun i hi hn => ?_, fun i hi => ?_⟩, hl, by unfold maxLen at hm; omega⟩
    · obtain ⟨sb, so, spot⟩ := a
      have hspot : spot = none := by simpa [Addr.add] using World.cell?_spot (hall 0 (by omega)).1
      subst hspot
      have c0 := (hall 0 (by omega)).1
      refine ⟨sb, so, rfl, Lib.lt_of_cell (by simpa [Addr.add] using c0), fun i hi => ?_⟩
      have h1 := (hall i (by omega)).1
      simpa [Addr.add_lit] using h1
    · obtain ⟨_, h2, h3, h4, _, h6, h7⟩ := hall i (by omega)
      rcases hA : A i with _ | a'
      · have := h6 hA; omega
      · obtain ⟨sb, so, spot⟩ := a'
        have hc := (h7 _ hA).2
        have hspot : spot = none := by simpa [Addr.add] using World.cell?_spot (hc 0 (by omega))
        subst hspot
        have c0 := hc 0 (by omega)
        refine ⟨sb, so, rfl, Lib.lt_of_cell (by simpa [Addr.add] using c0), fun j hj => ?_⟩
        have h1 := hc j (by omega)
        simpa [Addr.add_lit] using h1
    · have := (hall i (by omega)).2
      unfold maxLen at this
      omega

end Go.Proofs.Ytjggnmbdgagkoaa
