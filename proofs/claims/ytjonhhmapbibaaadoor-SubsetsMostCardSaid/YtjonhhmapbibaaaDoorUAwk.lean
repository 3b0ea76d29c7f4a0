/- Layer 7: lists compared; the law's awake (the examples of the chapter), long. -/
import Derived.Test.YtjonhhmapbibaaaDoorUSame
import Derived.Test.YtjonhhmapbibaaaDoorUSort
namespace Go.Proofs.YtjonhhmapbibaaaDoor
open Go.ChangeShapes Go.WideShapes Go.ChangeAt Go.RowKit Go.Joins Go.Deep Go.Shelf
set_option linter.unusedVariables false

/-! Lists of numbers that are read. -/
def ZRow (W : World) (ra : Option Addr) (zs : List Int) : Prop := IRow W ra zs.length (nth zs)
theorem ZRow.on {W W2 : World} {ra : Option Addr} {zs : List Int} (h : ZRow W ra zs) (hb : Below W.heap.size W W2) : ZRow W2 ra zs := IRow.on h hb
theorem Idx.z {W : World} {ra : Option Addr} {l : List Nat} (h : Idx W ra l) : ZRow W ra (l.map fun (i : Nat) => (i : Int)) := fun hn => by
  rw [List.length_map] at hn
  obtain ⟨g, o, h1, h2, h3⟩ := h hn
  refine ⟨g, o, h1, h2, fun j hj => ?_⟩
  rw [List.length_map] at hj
  rw [h3 j hj]
  show some (Value.int .i64 ((l.getD j 0 : Nat) : Int)) = _
  unfold nth
  rw [List.getD_eq_getElem?_getD, List.getD_eq_getElem?_getD, List.getElem?_map, List.getElem?_eq_getElem hj]
  rfl
theorem equal_any (la : Option Addr) (lc : Nat) (xs : List Int) (ma : Option Addr) (mc : Nat) (ys : List Int) (w : World) (hx : ZRow w la xs) (hy : ZRow w ma ys) (n1 : xs.length ≤ 9223372036854775807) (n2 : ys.length ≤ 9223372036854775807) :
    Calls Tryd.prog 18 #[.slice la xs.length lc, .slice ma ys.length mc] w fun e w' => e = .returned (.bool (decide (xs = ys))) ∧ Below w.heap.size w w' := by
  by_cases hl : xs.length = ys.length
  · by_cases h0 : xs.length = 0
    · have e1 := List.length_eq_zero_iff.1 h0
      have e2 := List.length_eq_zero_iff.1 (hl ▸ h0)
      subst e1; subst e2
      refine (Tryd.slices_Equal_int_empty la ma lc 0 mc w (by omega)).mono ?_
      rintro e w' ⟨rfl, rfl⟩
      exact ⟨by simp, Below.refl _ _⟩
    · obtain ⟨g, o, rfl, h1, h2⟩ := hx (by omega)
      obtain ⟨g2, o2, rfl, h3, h4⟩ := hy (by omega)
      refine (Tryd.slices_Equal_int g o xs.length lc g2 o2 ys.length mc xs ys w (Nat.le_refl _) (Nat.le_refl _) n1 n2 h2 h4).mono ?_
      rintro e w' ⟨rfl, q, rfl⟩
      refine ⟨?_, below_drew (Below.refl _ _) q⟩
      rw [List.take_length, List.take_length]
      by_cases e : xs = ys
      · rw [e]; simp
      · rw [decide_eq_false e]
        have : (xs == ys) = false := by simpa using e
        rw [this]
  · refine (Tryd.slices_Equal_int_lens la ma xs.length lc ys.length mc w hl).mono ?_
    rintro e w' ⟨rfl, rfl⟩
    exact ⟨by rw [decide_eq_false (fun e => hl (by rw [e]))], Below.refl _ _⟩
theorem lit_z (W : World) (zs : List Int) : ZRow (W.alloc (Obj.cells (zs.map (Value.int .i64)).toArray 3)) (some ⟨W.heap.size, 0, none⟩) zs := fun _ => ⟨_, 0, rfl, by simp, fun j hj => by
  rw [Nat.zero_add]
  unfold nth
  rw [List.getD_eq_getElem?_getD, List.getElem?_eq_getElem hj]
  simp [go_sem, hj]⟩
theorem nat_cast_inj {l m : List Nat} : (l.map fun (i : Nat) => (i : Int)) = (m.map fun (i : Nat) => (i : Int)) ↔ l = m :=
  List.map_inj_right fun x y e => by omega

/-! long. -/
theorem long_any (ra : Option Addr) (n c : Nat) (w : World) :
    Calls Tryd.prog 6 #[.slice ra n c] w fun e w' => e = .returned (.bool (decide (8 < n ∧ n ≤ 16 ∨ 100 < n))) ∧ w = w' := by
  by_cases h1 : 8 < n
  · have l1 : (n : Int) > 8 := by omega
    by_cases h2 : n ≤ 16
    · have l2 : (n : Int) ≤ 16 := by omega
      go_enter Tryd.func6, Tryd.ntmps6
      go_wp2_with fail
      go_ret
      exact ⟨by first | (rw [decide_eq_true (by omega)]; rfl) | rfl, rfl⟩
    · have l2 : ¬ (n : Int) ≤ 16 := by omega
      by_cases h3 : 100 < n
      · have l3 : (n : Int) > 100 := by omega
        go_enter Tryd.func6, Tryd.ntmps6
        go_wp2_with fail
        go_ret
        exact ⟨by first | (rw [decide_eq_true (by omega)]; rfl) | rfl, rfl⟩
      · have l3 : ¬ (n : Int) > 100 := by omega
        go_enter Tryd.func6, Tryd.ntmps6
        go_wp2_with fail
        go_ret
        exact ⟨by first | (rw [decide_eq_false (by omega)]; rfl) | rfl, rfl⟩
  · have l1 : ¬ (n : Int) > 8 := by omega
    have l3 : ¬ (n : Int) > 100 := by omega
    go_enter Tryd.func6, Tryd.ntmps6
    go_wp2_with fail
    go_ret
    exact ⟨by first | (rw [decide_eq_false (by omega)]; rfl) | rfl, rfl⟩

/-! The examples of the chapter. -/
theorem ex_sums : allS (nth [3, -1]) 2 = [-1, 0, 2, 3] := by
  have e : ((List.range (2 ^ 2)).map fun s => smS (bitI 2 s) (nth [3, -1]) 2) = [0, -1, 3, 2] := by decide +kernel
  unfold allS mySort
  rw [e]
  have e2 : ([0, -1, 3, 2] : List Int).mergeSort (fun x y => decide (x ≤ y)) = [-1, 0, 2, 3] := by simp [List.mergeSort]
  rw [e2]
  decide +kernel
def e5 : Nat → Int := nth [5, -2, -3, 4, -4]
theorem ex_zero_dec : ∀ s : Fin 32, smS (bitI 5 s.val) e5 5 = 0 → 1 ≤ (ixs (bitI 5 s.val) 5).length → ixs (bitI 5 s.val) 5 = [3, 4] ∨ 2 < (ixs (bitI 5 s.val) 5).length ∨ 2 = (ixs (bitI 5 s.val) 5).length ∧ earl [3, 4] (ixs (bitI 5 s.val) 5) = true := by decide +kernel
theorem ex_zero : IsFst (Fam e5 5 0 1) [3, 4] := by
  refine ⟨⟨bitI 5 3, by decide +kernel, by decide +kernel, by decide⟩, fun x ⟨p, hx, hs, hl⟩ => ?_⟩
  obtain ⟨s, hsl, hse⟩ := bitI_all p 5
  have e : x = ixs (bitI 5 s) 5 := by rw [hx]; exact (ixs_congr hse).symm
  have := ex_zero_dec ⟨s, hsl⟩ (by rw [← hs]; exact smS_congr hse) (by rw [← e]; exact hl)
  rw [← e] at this
  exact this
def F5 : Nat → Int := fun s => smS (bitI 5 s) e5 5
def M5 : Nat → Int := fun s => (mst 5 F5 s : Int)
theorem ex_fp31 : (∀ q : Fin 32, F5 q.val = 0 → M5 (anb 31 q.val) = M5 31 - 1 → q.val ≤ 28) ∧ F5 28 = 0 ∧ M5 (anb 31 28) = M5 31 - 1 := by decide +kernel
theorem ex_fp3 : F5 3 = 0 ∧ M5 (anb 3 3) = M5 3 - 1 := by decide +kernel
theorem ex_parts : ∀ ps, PtR F5 M5 31 ps → ps = [28, 3]
  | [], h => by cases h
  | [p], h => by
    obtain ⟨_, h1, h2, h3, h4⟩ := h
    have a := h3 28 (show 28 &&& 31 = 28 by decide) ex_fp31.2
    have b := ex_fp31.1 ⟨p, Nat.lt_of_le_of_lt h1.le (by decide)⟩ h2.1 h2.2
    have : p = 28 := by simp at b; omega
    subst this
    have e : anb 31 28 = 0 := h4
    revert e; decide
  | p :: q :: ps, h => by
    obtain ⟨_, h1, h2, h3, h4⟩ := h
    have a := h3 28 (show 28 &&& 31 = 28 by decide) ex_fp31.2
    have b := ex_fp31.1 ⟨p, Nat.lt_of_le_of_lt h1.le (by decide)⟩ h2.1 h2.2
    have : p = 28 := by simp at b; omega
    subst this
    rw [show anb 31 28 = 3 by decide] at h4
    obtain ⟨_, g1, g2, g3, g4⟩ := h4
    have a := g3 3 (show 3 &&& 3 = 3 by decide) ex_fp3
    have b := g1.le
    have : q = 3 := by omega
    subst this
    rw [show anb 3 3 = 0 by decide] at g4
    cases ps with
    | nil => rfl
    | cons r rs => exact absurd rfl g4.1
theorem ex_idxs : idxs 5 [28, 3] = [[0, 1, 2], [3, 4]] := by decide +kernel
end Go.Proofs.YtjonhhmapbibaaaDoor
