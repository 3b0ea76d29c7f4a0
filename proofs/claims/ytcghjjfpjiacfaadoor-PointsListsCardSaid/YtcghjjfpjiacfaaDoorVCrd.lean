/- Layer 9: the table that a tied card lays. -/
import Derived.Test.YtcghjjfpjiacfaaDoorVF2
import Derived.Test.YtcghjjfpjiacfaaDoorVCard
import Derived.Lib.LaidTab
import Derived.LaidMore
import Derived.Lay
import Derived.SevenTiedAt
import Derived.Stop.Joined
import Derived.Stop.LaidErr
import Derived.Deep.DeepHandedRow
import Derived.FnData
namespace Go.Proofs.YtcghjjfpjiacfaaDoor
open Go.ChangeShapes Go.WideShapes Go.ChangeAt Go.RowKit Go.Joins Go.Deep Go.Shelf
set_option linter.unusedVariables false

set_option maxRecDepth 100000 in
theorem pr_of_laid {W : World} (h : laidMet Tryd.prog [("loftblock/points.pairs", Rows.laid_loftblock_points_pairs)] W) : PR W := by
  obtain ⟨ps, ⟨g', t', cs, fuel, p, q, hg', ht', hvar, hd, _, _⟩, _⟩ := h
  have hg : Tryd.prog.globalNamed "loftblock/points.pairs" = some 0 := by kernel_rfl
  obtain rfl := Option.some.inj (hg.symm.trans hg')
  obtain rfl := Option.some.inj ((show (Tryd.prog.globals[0]?).map (·.type) = some 126 by kernel_rfl).symm.trans ht')
  have hc := fun i => World.var?_cell hg hvar i
  obtain ⟨xs, m, _, hx, hlen, hxl, hf⟩ := DataW.trod_array (show Tryd.prog.underlying 126 = some (.array 3 125) by kernel_rfl) hd
  rw [show Tryd.prog.cellsOf 126 = 6 by kernel_rfl] at hlen
  rw [show Tryd.prog.cellsOf 125 = 2 by kernel_rfl] at hf
  have key : ∀ i a b, i < 3 → (xs.map (·.1))[i]? = some (Lib.tabData .i64 [a, b]) → ((cs.toList.drop (i * 2)).take 2) = [.int .i64 a, .int .i64 b] := fun i a b hi h => by
    have h1 := hf i hi
    rw [List.getElem?_map] at h
    obtain ⟨y, hy, hy2⟩ := Option.map_eq_some_iff.1 h
    rw [hy] at h1
    obtain ⟨y1, y2⟩ := y
    simp only at hy2
    subst hy2
    exact Lib.cells_of_tab (show Tryd.prog.underlying 125 = some (.array 2 3) by kernel_rfl) (show Tryd.prog.underlying 3 = some (.int .i64) by kernel_rfl) (by kernel_rfl) (by kernel_rfl) h1
  have hmap : xs.map (·.1) = [Lib.tabData .i64 [1, 2], Lib.tabData .i64 [2, 0], Lib.tabData .i64 [0, 1]] := by
    have h1 := congrArg Prod.fst hx
    injection h1 with h2
    exact h2.symm
  have k0 := key 0 1 2 (by omega) (by rw [hmap]; rfl)
  have k1 := key 1 2 0 (by omega) (by rw [hmap]; rfl)
  have k2 := key 2 0 1 (by omega) (by rw [hmap]; rfl)
  have hcell : ∀ i v, cs.toList[i]? = some v → W.cell? ⟨0, i, none⟩ = some v := fun i v hv => by
    rw [hc i]
    rw [Array.getElem?_toList] at hv
    exact hv
  have at0 : ∀ (j : Nat) (l : List Value) (s : Nat) (a b : Value), (l.drop s).take 2 = [a, b] → l[s]? = some a ∧ l[s + 1]? = some b := fun j l s a b h => by
    have e0 := congrArg (·[0]?) h
    have e1 := congrArg (·[1]?) h
    simp [List.getElem?_drop] at e0 e1
    exact ⟨e0, e1⟩
  obtain ⟨a0, a1⟩ := at0 0 _ _ _ _ k0
  obtain ⟨b0, b1⟩ := at0 0 _ _ _ _ k1
  obtain ⟨c0, c1⟩ := at0 0 _ _ _ _ k2
  have g0 := hcell _ _ a0
  exact ⟨Lib.lt_of_cell g0, g0, hcell _ _ a1, hcell _ _ b0, hcell _ _ b1, hcell _ _ c0, hcell _ _ c1⟩
end Go.Proofs.YtcghjjfpjiacfaaDoor
