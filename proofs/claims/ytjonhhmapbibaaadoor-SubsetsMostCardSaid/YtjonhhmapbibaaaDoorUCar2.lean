/- Layer 7: parameters that are lists of lists of numbers, or bytes. -/
import Derived.Test.YtjonhhmapbibaaaDoorUChb
import Derived.Test.YtjonhhmapbibaaaDoorUCard
import Derived.Deep.Matrix
namespace Go.Proofs.YtjonhhmapbibaaaDoor
open Go.ChangeShapes Go.WideShapes Go.ChangeAt Go.RowKit Go.Joins Go.Deep Go.Shelf
set_option linter.unusedVariables false

theorem open_lists {H : Type} {enc : TypeId × Value → H} {W : World} {base : Nat} {v : Value} {d : DataW H} {p : List MemPlace} (hval : Value.okWide Tryd.prog W .any base 23 v) (h : DataW.Trod enc Tryd.prog W 0 (fun _ => true) true 23 v d p) :
    ∃ (pa : Option Addr) (zss : List (List Int)) (pc : Nat), v = .slice pa zss.length pc ∧ LZ W pa zss ∧ zss.length ≤ 9223372036854775807 ∧ ∀ j, (rowZ zss j).length ≤ 9223372036854775807 := by
  obtain ⟨ao, len, cp, rfl⟩ := okWide_slice Tryd.underlying23 hval
  obtain ⟨fuel, hx⟩ := h
  rcases open_int_rows Tryd.underlying23 Tryd.underlying22 Tryd.underlying3 (by kernel_rfl) (by kernel_rfl) hx with ⟨hc, _⟩ | ⟨a, len2, cap2, A, L, C, Z, hc, _, hl, hm, _, hall⟩
  · simp [Value.cells] at hc
    obtain ⟨rfl, rfl, rfl⟩ := hc
    exact ⟨none, [], 0, rfl, fun h => absurd h (by simp), by simp, fun j => by unfold rowZ; simp⟩
  · simp [Value.cells] at hc
    obtain ⟨rfl, rfl, rfl⟩ := hc
    unfold maxLen at hm
    have hlen : ((List.range len).map fun i => (Z i).take (L i)).length = len := by simp
    have hrow : ∀ i, i < len → rowZ ((List.range len).map fun i => (Z i).take (L i)) i = (Z i).take (L i) := fun i hi => by
      unfold rowZ
      rw [List.getD_eq_getElem?_getD, List.getElem?_map, List.getElem?_range hi]; rfl
    have hrl : ∀ i, i < len → ((Z i).take (L i)).length = L i := fun i hi => by
      obtain ⟨_, h2, _, h4, _⟩ := hall i (by omega)
      rw [List.length_take]; omega
    refine ⟨some a, (List.range len).map fun i => (Z i).take (L i), cp, by rw [hlen], fun hR => ?_, by rw [hlen]; omega, fun j => ?_⟩
    · rw [hlen] at hR ⊢
      obtain ⟨sb, so, spot⟩ := a
      have hspot : spot = none := by simpa [Addr.add] using World.cell?_spot (hall 0 (by omega)).1
      subst hspot
      have c0 := (hall 0 (by omega)).1
      refine ⟨sb, so, rfl, Lib.lt_of_cell (by simpa [Addr.add] using c0), fun i hi => ?_⟩
      obtain ⟨h1, h2, h3, h4, _, h6, h7⟩ := hall i (by omega)
      rw [hrow i hi, hrl i hi]
      refine ⟨A i, C i, by simpa [Addr.add_lit] using h1, ?_⟩
      intro hn
      rw [hrl i hi] at hn
      rcases hA : A i with _ | a'
      · have := h6 hA; omega
      · obtain ⟨sb2, so2, spot2⟩ := a'
        have hc := (h7 _ hA).2
        have hspot : spot2 = none := by simpa [Addr.add] using World.cell?_spot (hc 0 (by omega))
        subst hspot
        have c0 := hc 0 (by omega)
        refine ⟨sb2, so2, rfl, Lib.lt_of_cell (by simpa [Addr.add] using c0), fun j hj => ?_⟩
        rw [hrl i hi] at hj
        have h1 := hc j (by omega)
        have e : nth ((Z i).take (L i)) j = (Z i).getD j 0 := by
          unfold nth
          rw [List.getD_eq_getElem?_getD, List.getElem?_take_of_lt hj, List.getD_eq_getElem?_getD]
        rw [e]
        simpa [Addr.add_lit] using h1
    · by_cases hj : j < len
      · rw [hrow j hj, hrl j hj]
        obtain ⟨_, h2, h3, _⟩ := hall j (by omega)
        unfold maxLen at h3; omega
      · unfold rowZ
        rw [List.getD_eq_getElem?_getD, List.getElem?_eq_none (by rw [hlen]; omega)]; simp
/-- A list of bytes, as it lies. -/
def URow (W : World) (ra : Option Addr) (n : Nat) (f : Nat → Nat) : Prop := 0 < n → ∃ g o, ra = some ⟨g, o, none⟩ ∧ g < W.heap.size ∧ ∀ j, j < n → f j < 256 ∧ W.cell? ⟨g, o + j, none⟩ = some (.int .u8 (f j : Nat))
theorem open_u8s {H : Type} {enc : TypeId × Value → H} {W : World} {base : Nat} {v : Value} {d : DataW H} {p : List MemPlace} (hval : Value.okWide Tryd.prog W .any base 37 v) (h : DataW.Trod enc Tryd.prog W 0 (fun _ => true) true 37 v d p) :
    ∃ (ra : Option Addr) (n rc : Nat) (f : Nat → Nat), v = .slice ra n rc ∧ URow W ra n f ∧ n ≤ 9223372036854775807 := by
  obtain ⟨ao, len, cp, rfl⟩ := okWide_slice Tryd.underlying37 hval
  obtain ⟨fuel, hx⟩ := h
  rcases open_ints Tryd.underlying37 Tryd.underlying5 (by kernel_rfl) hx with ⟨hc, _⟩ | ⟨a, len2, cap2, zs, hc, _, hl, hm, hz, _, hcell, hwf⟩
  · simp [Value.cells] at hc
    obtain ⟨rfl, rfl, rfl⟩ := hc
    exact ⟨none, 0, 0, fun _ => 0, rfl, fun h => by omega, by omega⟩
  · simp [Value.cells] at hc
    obtain ⟨rfl, rfl, rfl⟩ := hc
    simp only [if_true] at hz
    unfold maxLen at hm
    refine ⟨some a, len, cp, fun j => (zs.getD j 0).toNat, rfl, fun hn => ?_, by omega⟩
    obtain ⟨sb, so, spot⟩ := a
    have c0 := hcell 0 (by omega)
    have hspot : spot = none := by simpa [Addr.add] using World.cell?_spot c0
    subst hspot
    refine ⟨sb, so, rfl, Lib.lt_of_cell (by simpa [Addr.add] using c0), fun j hj => ?_⟩
    have hj2 : j < zs.length := by omega
    have hw := hwf (zs[j]) (List.getElem_mem hj2)
    have e : zs.getD j 0 = zs[j] := by simp [List.getD, hj2]
    have hb : 0 ≤ zs[j] ∧ zs[j] ≤ 255 := by
      have hw2 : (decide (0 ≤ zs[j]) && decide (zs[j] ≤ 255)) = true := hw
      simpa using hw2
    refine ⟨by show (zs.getD j 0).toNat < 256; rw [e]; omega, ?_⟩
    have h1 := hcell j (by omega)
    show _ = some (Value.int .u8 (((zs.getD j 0).toNat : Nat) : Int))
    rw [e, Int.toNat_of_nonneg hb.1, ← e]
    simpa [Addr.add_lit] using h1
end Go.Proofs.YtjonhhmapbibaaaDoor
