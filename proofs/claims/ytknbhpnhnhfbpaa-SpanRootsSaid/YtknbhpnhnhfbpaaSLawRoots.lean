/- The walk of the law SpanRoots. -/
import Derived.Test.YtknbhpnhnhfbpaaS6
namespace Go.Proofs.Ytknbhpnhnhfbpaa
set_option linter.unusedVariables false
open Go.RowKit Go.Shelf

set_option maxRecDepth 100000 in
set_option maxHeartbeats 8000000 in
theorem roots_no (al ah : Int) (w : World) (ha : sV al ah = false) :
    Calls Try.prog 10 #[.agg #[.int .i64 al, .int .i64 ah]] w fun e w' => e = .returned (.bool true) ∧ Below w.heap.size w w' := by
  have CV := fun w => Lib.hid (rsValid_any al ah w)
  simp only [ha] at CV
  clear ha
  have HW := Lib.hid (Below.refl w.heap.size w)
  have AW := fun w => Lib.hid (sawake_any w)
  go_enter Try.func10, Try.ntmps10
  go_wp2_with fail
  (with_reducible refine ((AW _).out).mono ?_)
  rintro e y1 ⟨rfl, hb⟩
  have hst := Lib.hid (below_on (w := w) (by repeat' (first | (with_reducible exact Below.refl _ _) | (with_reducible assumption) | (with_reducible refine Below.alloc ?_ ?_ _) | (with_reducible refine below_drew ?_ _) | (with_reducible refine Below.drew ?_) | (with_reducible refine Below.setCell ?_ ?_ _) | go_size)) hb)
  have B0 : Hid (Blk y1 (w.heap.size) (.int .i64 al) (.int .i64 ah)) := Blk.on (W := (w.alloc (Obj.cells #[Value.int .i64 al, Value.int .i64 ah] 23))) (by first | exact Blk.new _ _ _ _ | exact (Blk.new _ _ _ _).alloc _ | exact ((Blk.new _ _ _ _).alloc _).alloc _ | (have hn := Blk.new (w) (Value.int .i64 al) (Value.int .i64 ah) 23; simpa using hn)) hb
  clear hb
  replace HW := Lib.hid (below_on HW.out hst.out)
  clear hst
  obtain ⟨_, B0p, B0q⟩ := B0.out
  go_wp2_with fail
  (with_reducible refine ((CV _).out).mono ?_)
  rintro e y2 ⟨rfl, hb⟩
  clear B0p B0q
  have hst := Lib.hid hb
  clear hb
  replace B0 := Lib.hid (B0.out.on hst.out)
  replace HW := Lib.hid (below_on HW.out hst.out)
  clear hst
  go_wp2_with fail
  go_ret
  exact ⟨rfl, HW.out⟩

set_option maxRecDepth 100000 in
set_option maxHeartbeats 8000000 in
theorem roots_neg (al ah : Int) (w : World) (ha : sV al ah = true) (d1 : decide (al < 0) = true) :
    Calls Try.prog 10 #[.agg #[.int .i64 al, .int .i64 ah]] w fun e w' => e = .returned (.bool true) ∧ Below w.heap.size w w' := by
  have CV := fun w => Lib.hid (rsValid_any al ah w)
  simp only [ha] at CV
  clear ha
  have HW := Lib.hid (Below.refl w.heap.size w)
  have AW := fun w => Lib.hid (sawake_any w)
  go_enter Try.func10, Try.ntmps10
  go_wp2_with fail
  (with_reducible refine ((AW _).out).mono ?_)
  rintro e y1 ⟨rfl, hb⟩
  have hst := Lib.hid (below_on (w := w) (by repeat' (first | (with_reducible exact Below.refl _ _) | (with_reducible assumption) | (with_reducible refine Below.alloc ?_ ?_ _) | (with_reducible refine below_drew ?_ _) | (with_reducible refine Below.drew ?_) | (with_reducible refine Below.setCell ?_ ?_ _) | go_size)) hb)
  have B0 : Hid (Blk y1 (w.heap.size) (.int .i64 al) (.int .i64 ah)) := Blk.on (W := (w.alloc (Obj.cells #[Value.int .i64 al, Value.int .i64 ah] 23))) (by first | exact Blk.new _ _ _ _ | exact (Blk.new _ _ _ _).alloc _ | exact ((Blk.new _ _ _ _).alloc _).alloc _ | (have hn := Blk.new (w) (Value.int .i64 al) (Value.int .i64 ah) 23; simpa using hn)) hb
  clear hb
  replace HW := Lib.hid (below_on HW.out hst.out)
  clear hst
  obtain ⟨_, B0p, B0q⟩ := B0.out
  go_wp2_with fail
  (with_reducible refine ((CV _).out).mono ?_)
  rintro e y2 ⟨rfl, hb⟩
  clear B0p B0q
  have hst := Lib.hid hb
  clear hb
  replace B0 := Lib.hid (B0.out.on hst.out)
  replace HW := Lib.hid (below_on HW.out hst.out)
  clear hst
  obtain ⟨_, B0p, B0q⟩ := B0.out
  go_wp2_with fail
  go_ret
  exact ⟨rfl, HW.out⟩

set_option maxRecDepth 100000 in
set_option maxHeartbeats 8000000 in
theorem roots_yes (al ah : Int) (w : World) (va : SVd al ah) (h0 : 0 ≤ al) :
    Calls Try.prog 10 #[.agg #[.int .i64 al, .int .i64 ah]] w fun e w' => e = .returned (.bool true) ∧ Below w.heap.size w w' := by
  obtain ⟨u, hu⟩ := flR_ex al h0 (by have := va.m; have := va.h; omega)
  obtain ⟨v, hv⟩ := clR_ex ah (by have := va.m; omega) va.h
  have ha := sV_yes va
  have CV := fun w => Lib.hid (rsValid_any al ah w)
  simp only [ha] at CV
  have CR := fun w => Lib.hid (sRoot_any al ah u v w (fun _ _ => ⟨hu, hv⟩) u v 0 (by unfold sRoot; rw [if_pos ha, if_neg (by omega)]))
  obtain ⟨u0, u1, ule, ugt⟩ := hu
  obtain ⟨v0, v1, vge, vlt⟩ := hv
  have va2 := va.m; have va3 := va.h
  have uv : u ≤ v := by
    rcases Int.lt_or_le v u with c | c
    · have := Int.mul_le_mul (show v + 1 ≤ u by omega) (show v + 1 ≤ u by omega) (by omega) u0
      rw [Int.mul_add, Int.add_mul] at this
      omega
    · exact c
  have b1 := sq_le u0 u1
  have b2 := sq_le (a := u + 1) (b := 1073741825) (by omega) (by omega)
  have b3 := sq_le v0 v1
  have p1 := Int.mul_nonneg u0 u0
  have p2 := Int.mul_nonneg (show 0 ≤ u + 1 by omega) (show 0 ≤ u + 1 by omega)
  have p3 := Int.mul_nonneg v0 v0
  have b4 : -1073741824 ≤ (v - 1) * (v - 1) ∧ (v - 1) * (v - 1) ≤ 1152921504606846976 := by
    by_cases z : v = 0
    · subst z; decide
    · have := sq_le (a := v - 1) (b := 1073741824) (by omega) (by omega)
      have := Int.mul_nonneg (show 0 ≤ v - 1 by omega) (show 0 ≤ v - 1 by omega)
      omega
  have w1 : IntKind.i64.wrap (u * u) = u * u := IntWalk.i64_in _ (by omega)
  have w2 : IntKind.i64.wrap ((u + 1) * (u + 1)) = (u + 1) * (u + 1) := IntWalk.i64_in _ (by omega)
  have w3 : IntKind.i64.wrap (v * v) = v * v := IntWalk.i64_in _ (by omega)
  have w4 : IntKind.i64.wrap ((v - 1) * (v - 1)) = (v - 1) * (v - 1) := IntWalk.i64_in _ (by omega)
  have g1 : decide (u * u ≤ al) = true := decide_eq_true ule
  have g2 : decide (al < (u + 1) * (u + 1)) = true := decide_eq_true ugt
  have g3 : decide (ah ≤ v * v) = true := decide_eq_true vge
  have g4 : (v == 0 || decide ((v - 1) * (v - 1) < ah)) = true := by
    rw [Bool.or_eq_true]
    rcases vlt with z | z
    · exact .inl (by simpa using z)
    · exact .inr (decide_eq_true z)
  have g5 : decide (u < 0) = false := decide_eq_false (by omega)
  have g6 : decide (v < u) = false := decide_eq_false (by omega)
  have g7 : decide (1073741824 < v) = false := decide_eq_false (by omega)
  have g8 : decide (al < 0) = false := decide_eq_false (by omega)
  by_cases hz : v = 0
  · have g9 : (v == 0) = true := by simpa using hz
    clear g4 ha va hz ule ugt vge vlt b1 b2 b3 b4 p1 p2 p3
    have HW := Lib.hid (Below.refl w.heap.size w)
    have AW := fun w => Lib.hid (sawake_any w)
    go_enter Try.func10, Try.ntmps10
    go_wp2_with fail
    (with_reducible refine ((AW _).out).mono ?_)
    rintro e y1 ⟨rfl, hb⟩
    have hst := Lib.hid (below_on (w := w) (by repeat' (first | (with_reducible exact Below.refl _ _) | (with_reducible assumption) | (with_reducible refine Below.alloc ?_ ?_ _) | (with_reducible refine below_drew ?_ _) | (with_reducible refine Below.drew ?_) | (with_reducible refine Below.setCell ?_ ?_ _) | go_size)) hb)
    have B0 : Hid (Blk y1 (w.heap.size) (.int .i64 al) (.int .i64 ah)) := Blk.on (W := (w.alloc (Obj.cells #[Value.int .i64 al, Value.int .i64 ah] 23))) (by first | exact Blk.new _ _ _ _ | exact (Blk.new _ _ _ _).alloc _ | exact ((Blk.new _ _ _ _).alloc _).alloc _ | (have hn := Blk.new (w) (Value.int .i64 al) (Value.int .i64 ah) 23; simpa using hn)) hb
    clear hb
    replace HW := Lib.hid (below_on HW.out hst.out)
    clear hst
    obtain ⟨_, B0p, B0q⟩ := B0.out
    go_wp2_with fail
    (with_reducible refine ((CV _).out).mono ?_)
    rintro e y2 ⟨rfl, hb⟩
    clear B0p B0q
    have hst := Lib.hid hb
    clear hb
    replace B0 := Lib.hid (B0.out.on hst.out)
    replace HW := Lib.hid (below_on HW.out hst.out)
    clear hst
    obtain ⟨_, B0p, B0q⟩ := B0.out
    go_wp2_with fail
    (with_reducible refine ((CR _).out).mono ?_)
    rintro e y3 ⟨rfl, hb⟩
    clear B0p B0q
    have hst := Lib.hid hb
    clear hb
    replace B0 := Lib.hid (B0.out.on hst.out)
    replace HW := Lib.hid (below_on HW.out hst.out)
    clear hst
    clear CV CR AW
    obtain ⟨_, B0p, B0q⟩ := B0.out
    go_wp2_with fail
    go_ret
    exact ⟨rfl, by have hB := HW.out; exact (by repeat' (first | (with_reducible exact Below.refl _ _) | (with_reducible assumption) | (with_reducible refine Below.alloc ?_ ?_ _) | (with_reducible refine below_drew ?_ _) | (with_reducible refine Below.drew ?_) | (with_reducible refine Below.setCell ?_ ?_ _) | go_size))⟩
  · have g9 : (v == 0) = false := by simpa using hz
    have g10 : decide ((v - 1) * (v - 1) < ah) = true := by rw [g9] at g4; simpa using g4
    clear g4 ha va hz ule ugt vge vlt b1 b2 b3 b4 p1 p2 p3
    have HW := Lib.hid (Below.refl w.heap.size w)
    have AW := fun w => Lib.hid (sawake_any w)
    go_enter Try.func10, Try.ntmps10
    go_wp2_with fail
    (with_reducible refine ((AW _).out).mono ?_)
    rintro e y1 ⟨rfl, hb⟩
    have hst := Lib.hid (below_on (w := w) (by repeat' (first | (with_reducible exact Below.refl _ _) | (with_reducible assumption) | (with_reducible refine Below.alloc ?_ ?_ _) | (with_reducible refine below_drew ?_ _) | (with_reducible refine Below.drew ?_) | (with_reducible refine Below.setCell ?_ ?_ _) | go_size)) hb)
    have B0 : Hid (Blk y1 (w.heap.size) (.int .i64 al) (.int .i64 ah)) := Blk.on (W := (w.alloc (Obj.cells #[Value.int .i64 al, Value.int .i64 ah] 23))) (by first | exact Blk.new _ _ _ _ | exact (Blk.new _ _ _ _).alloc _ | exact ((Blk.new _ _ _ _).alloc _).alloc _ | (have hn := Blk.new (w) (Value.int .i64 al) (Value.int .i64 ah) 23; simpa using hn)) hb
    clear hb
    replace HW := Lib.hid (below_on HW.out hst.out)
    clear hst
    obtain ⟨_, B0p, B0q⟩ := B0.out
    go_wp2_with fail
    (with_reducible refine ((CV _).out).mono ?_)
    rintro e y2 ⟨rfl, hb⟩
    clear B0p B0q
    have hst := Lib.hid hb
    clear hb
    replace B0 := Lib.hid (B0.out.on hst.out)
    replace HW := Lib.hid (below_on HW.out hst.out)
    clear hst
    obtain ⟨_, B0p, B0q⟩ := B0.out
    go_wp2_with fail
    (with_reducible refine ((CR _).out).mono ?_)
    rintro e y3 ⟨rfl, hb⟩
    clear B0p B0q
    have hst := Lib.hid hb
    clear hb
    replace B0 := Lib.hid (B0.out.on hst.out)
    replace HW := Lib.hid (below_on HW.out hst.out)
    clear hst
    clear CV CR AW
    obtain ⟨_, B0p, B0q⟩ := B0.out
    go_wp2_with fail
    go_ret
    exact ⟨rfl, by have hB := HW.out; exact (by repeat' (first | (with_reducible exact Below.refl _ _) | (with_reducible assumption) | (with_reducible refine Below.alloc ?_ ?_ _) | (with_reducible refine below_drew ?_ _) | (with_reducible refine Below.drew ?_) | (with_reducible refine Below.setCell ?_ ?_ _) | go_size))⟩

theorem roots_walk (al ah : Int) (w : World) (a0 : -9223372036854775808 ≤ al) (a1 : al ≤ 9223372036854775807) (a2 : -9223372036854775808 ≤ ah) (a3 : ah ≤ 9223372036854775807) :
    Calls Try.prog 10 #[.agg #[.int .i64 al, .int .i64 ah]] w fun e w' => e = .returned (.bool true) ∧ Below w.heap.size w w' := by
  by_cases ha : sV al ah = true
  · by_cases h0 : al < 0
    · exact roots_neg al ah w ha (decide_eq_true h0)
    · exact roots_yes al ah w (sV_vd ha) (by omega)
  · exact roots_no al ah w (by simpa using ha)

end Go.Proofs.Ytknbhpnhnhfbpaa
