/- Layer 7: Sums. -/
import Derived.Test.YtjonhhmapbibaaaDoorUSrch
import Derived.Laws.IdiomCopy
namespace Go.Proofs.YtjonhhmapbibaaaDoor
open Go.ChangeShapes Go.WideShapes Go.ChangeAt Go.RowKit Go.Joins Go.Deep Go.Shelf Go.Sort
set_option linter.unusedVariables false

def nth (zs : List Int) : Nat → Int := fun j => zs.getD j 0
theorem sort_only (w : World) (g n : Nat) (d : Array Int) (os : Array Obj) : Only (fun q => q = g) w (grow (putRow (Value.int .i64) (Sort.ahead w n) g 0 d) os) := by
  refine ⟨rfl, rfl, rfl, by simp, fun k hk hne => ?_⟩
  rw [heap_grow_old _ _ (by simpa using hk)]
  have : g ≠ k := fun e => hne e.symm
  simp [putRow, mapBlock, Sort.ahead, Array.getElem?_modify, this]
theorem holds_nrow {lo N : Nat} {w : World} {g cp : Nat} {F : Nat → Int} (h : NRow lo N w g cp F) : Holds (Value.int .i64) w g 0 ((List.range N).map F).toArray := fun j hj => by
  have hj' : j < N := by simpa using hj
  rw [Nat.zero_add, h.cell j hj', h.fz j hj', getElem!_pos ((List.range N).map F).toArray j hj]
  simp
theorem sorted_nrow {lo N : Nat} {w : World} {g cp : Nat} {F : Nat → Int} (h : NRow lo N w g cp F) (zs : List Int) (hz : zs.length = N) (n : Nat) (os : Array Obj) : NRow lo N (grow (putRow (Value.int .i64) (Sort.ahead w n) g 0 zs.toArray) os) g cp (nth zs) := by
  have hH : Holds (Value.int .i64) (Sort.ahead w n) g 0 ((List.range N).map F).toArray := holds_ahead _ _ n _ _ _ (holds_nrow h)
  refine ⟨h.lo, by have := (sort_only w g n zs.toArray os).size; have := h.hb; omega, h.cap, fun j hj => ?_, fun j hj => ?_⟩
  · rw [cell?_grow _ _ _ (by simpa using h.hb)]
    have := cell?_putRow (Value.int .i64) (Sort.ahead w n) g 0 _ zs.toArray hH (by simp [hz]) j (by simp [hz]; exact hj)
    rw [Nat.zero_add] at this
    rw [this, getElem!_pos zs.toArray j (by simp [hz]; exact hj)]
    unfold nth
    rw [List.getD_eq_getElem?_getD, List.getElem?_eq_getElem (by omega)]
    rfl
  · rw [frozen?_grow _ _ _ (by simpa using h.hb), frozen?_putRow]
    exact h.fz j hj
theorem setCells_only (b : Nat) : ∀ (vs : List Value) (o : Nat) (w : World), Only (fun q => q = b) w (w.setCells b o vs)
  | [], _, w => Only.refl _ _
  | v :: vs, o, w => (only_set w ⟨b, o, none⟩ v).trans (setCells_only b vs (o + 1) _)

def mySort (zs : List Int) : List Int := zs.mergeSort fun x y => decide (x ≤ y)
theorem mySort_len (zs : List Int) : (mySort zs).length = zs.length := List.length_mergeSort _
theorem sort_any {lo N : Nat} {w : World} {g cp : Nat} {F : Nat → Int} (h : NRow lo N w g cp F) (hN : N ≤ 4096) :
    Calls Tryd.prog 33 #[.slice (some ⟨g, 0, none⟩) N cp] w fun e w' => e = .returned (.tuple #[]) ∧ Only (fun q => q = g) w w' ∧ NRow lo N w' g cp (nth (mySort ((List.range N).map F))) := by
  have C := Tryd.slices_Sort_int g 0 cp ((List.range N).map F) w (holds_nrow h) h.hb (by simp; omega)
  rw [List.length_map, List.length_range] at C
  refine C.mono ?_
  rintro e w' ⟨rfl, n, os, rfl⟩
  exact ⟨rfl, sort_only w g n _ os, sorted_nrow h _ (by rw [List.length_mergeSort]; simp) n os⟩
theorem compact_any {lo N : Nat} {w : World} {g cp : Nat} (zs : List Int) (hz : zs.length = N) (h : NRow lo N w g cp (nth zs)) (hN : N ≤ 4096) :
    Calls Tryd.prog 34 #[.slice (some ⟨g, 0, none⟩) N cp] w fun e w' => e = .returned (.slice (some ⟨g, 0, none⟩) (Lib.compact zs).length cp) ∧ Only (fun q => q = g) w w' ∧ (Lib.compact zs).length ≤ N ∧ NRow lo (Lib.compact zs).length w' g cp (nth (Lib.compact zs)) := by
  have C := Tryd.slices_Compact_int_cells g 0 N cp zs w (by omega) (by omega) h.cap (fun j hj => by rw [Nat.zero_add, h.cell j (by omega)]; rfl) (fun j hj => by rw [Nat.zero_add]; exact h.fz j hj)
  rw [List.take_of_length_le (by omega)] at C
  refine C.mono ?_
  rintro e w' ⟨rfl, q, rfl⟩
  have hl : (Lib.compact zs).length ≤ N := by
    unfold Lib.compact Lib.compactUpTo
    rw [List.length_map]
    exact Nat.le_trans (List.length_filter_le _ _) (by simp; omega)
  have ho := (Only.of_below (S := fun q => q = g) (below_drew (Below.refl w.heap.size w) q)).trans (setCells_only g ((Lib.compact zs ++ List.replicate (N - (Lib.compact zs).length) 0).map (Value.int .i64)) 0 (w.drewN q))
  refine ⟨rfl, ho, hl, h.lo, Nat.lt_of_lt_of_le h.hb ho.size, Nat.le_trans hl h.cap, fun j hj => ?_, fun j hj => ?_⟩
  · have := World.cell?_setCells_in g ((Lib.compact zs ++ List.replicate (N - (Lib.compact zs).length) 0).map (Value.int .i64)) 0 (w.drewN q) (fun j hj => by
      have hj' : j < N := by simp at hj; omega
      have := h.cell j hj'
      rw [Nat.zero_add]
      show (w.cell? ⟨g, j, none⟩).isSome = true
      rw [this]; rfl) j (by simp; omega)
    rw [Nat.zero_add] at this
    rw [this]
    unfold nth
    rw [List.getD_eq_getElem?_getD, List.getElem?_eq_getElem hj]
    simp only [List.map_append]
    rw [List.getElem_append_left (by simpa using hj)]
    simp
  · rw [World.frozen?_setCells]
    exact h.fz j (by omega)

/-- The sums of all subsets, ascending, each once. -/
def allS (f : Nat → Int) (n : Nat) : List Int := Lib.compact (mySort ((List.range (2 ^ n)).map fun s => smS (bitI n s) f n))
theorem Sums_ok (ra : Option Addr) (n c : Nat) (f : Nat → Int) (w : World) (hr : IRow w ra n f) (hd : DB w) (hn : n ≤ 11) (ho : okF n f = true) :
    Calls Tryd.prog 17 #[.slice ra n c] w fun e w' => Below w.heap.size w w' ∧ ∃ g, e = .returned (.tuple #[.slice (some ⟨g, 0, none⟩) (allS f n).length (2 ^ n), .int .i64 0]) ∧ NRow w.heap.size (allS f n).length w' g (2 ^ n) (nth (allS f n)) := by
  have hg : givE n f = 0 := by unfold givE; rw [if_neg (by omega), if_pos ho]
  have hf := of_decide_eq_true ho
  have CV := Lib.hid (valid_any ra n c f w hr (by omega))
  rw [hg] at CV
  have CS := fun W (h : Below w.heap.size w W) => Lib.hid (sumsOf_any ra n c f W (hr.on h) (hd.on h) hn hf)
  have hN : 2 ^ n ≤ 2048 := Nat.le_trans (Nat.pow_le_pow_right (by decide) hn) (by decide)
  have CT := fun W g lo (h : NRow lo (2 ^ n) W g (2 ^ n) (fun s => smS (bitI n s) f n)) => Lib.hid (sort_any h (by omega))
  have CC := fun W g lo (h : NRow lo (2 ^ n) W g (2 ^ n) (nth (mySort ((List.range (2 ^ n)).map fun s => smS (bitI n s) f n)))) => Lib.hid (compact_any _ (by rw [mySort_len]; simp) h (by omega))
  clear hr hd
  rw [show Lib.compact (mySort ((List.range (2 ^ n)).map fun s => smS (bitI n s) f n)) = allS f n from rfl] at CC
  generalize allS f n = al at *
  generalize 2 ^ n = M at *
  go_enter Tryd.func17, Tryd.ntmps17
  go_wp2_with (first
    | (go_at_call 20; (with_reducible refine ((CV.out).mono ?_)); rintro e w2 ⟨rfl, hb2⟩)
    | (go_at_call 21; (with_reducible refine (((CS _ hb2).out).mono ?_)); rintro e w3 ⟨hb3, g, rfl, hrow⟩; have HB := Lib.hid (below_on hb2 hb3); have F := (CT _ _ _ hrow).out)
    | (go_at_call 33; (with_reducible refine (F.mono ?_)); rintro e w4 ⟨rfl, ho4, hr4⟩; have F2 := (CC _ _ _ hr4).out)
    | (go_at_call 34; (with_reducible refine (F2.mono ?_)); rintro e w5 ⟨rfl, ho5, hl5, hr5⟩))
  go_ret2
  refine ⟨?_, g, rfl, hr5.mono hb2.size⟩
  exact HB.out.trans ((ho4.trans ho5).below HB.out.size (fun c hc => by have := hr5.lo; have := hb2.size; omega))
end Go.Proofs.YtjonhhmapbibaaaDoor
