/- The walk of the law SpanScales. -/
import Derived.Test.YtknbhpnhnhfbpaaS6
import Derived.Test.YtknbhpnhnhfbpaaS10
import Derived.Test.YtknbhpnhnhfbpaaRRef9
namespace Go.Proofs.Ytknbhpnhnhfbpaa
set_option linter.unusedVariables false
open Go.RowKit Go.Shelf

theorem rt_ex {al ah : Int} (va : SVd al ah) : ∃ p q, 0 ≤ al → FlR al p ∧ ClR ah q := by
  by_cases h0 : 0 ≤ al
  · obtain ⟨p, hp⟩ := flR_ex al h0 (by have := va.m; have := va.h; omega)
    obtain ⟨q, hq⟩ := clR_ex ah (by have := va.m; omega) va.h
    exact ⟨p, q, fun _ => ⟨hp, hq⟩⟩
  · exact ⟨0, 0, fun h => absurd h h0⟩

set_option maxRecDepth 100000 in
set_option maxHeartbeats 16000000 in
theorem scales_yy (al ah nm dn n d u p q t1 t2 te r1 r2 re o1 o2 oe : Int) (w : World) (n0 : -9223372036854775808 ≤ n) (n1 : n ≤ 9223372036854775807) (d0 : -9223372036854775808 ≤ d) (d1 : d ≤ 9223372036854775807) (u0 : -9223372036854775808 ≤ u) (u1 : u ≤ 9223372036854775807) (va : SVd al ah) (hu : 0 ≤ al → FlR al p ∧ ClR ah q) (ht : timS al ah nm dn = (t1, t2, te)) (hr : sRoot al ah p q = (r1, r2, re)) (vn : Vld n d) (ho : ofS n d u = (o1, o2, oe)) :
    Calls Try.prog 5 #[.agg #[.int .i64 al, .int .i64 ah], .int .i64 nm, .int .i64 dn, .agg #[.int .i64 n, .int .i64 d], .int .i64 u] w fun e w' => e = .returned (.bool true) ∧ Below w.heap.size w w' := by
  have ha := sV_yes va
  obtain ⟨v1, v2, v3⟩ := va
  have CV := fun w => Lib.hid (rsValid_any al ah w)
  simp only [ha] at CV
  have CT := fun w => Lib.hid (sTimes_any al ah nm dn w t1 t2 te (by unfold sTimes; rw [if_pos ha]; exact ht))
  have CR := fun w => Lib.hid (sRoot_any al ah p q w (fun h _ => hu h) r1 r2 re hr)
  have RT := fun w => Lib.hid (rTimes_any al ah nm dn w ⟨v1, v2, v3⟩ t1 t2 te ht)
  have RR := fun w => Lib.hid (rRoot_any al ah p q w ⟨v1, v2, v3⟩ hu r1 r2 re hr)
  clear ha ht hr hu v1 v2 v3
  have hn := vB_yes vn
  have CN := fun w => Lib.hid (refValid_any n d w n0 n1 d0 d1)
  simp only [hn] at CN
  have CO := fun w => Lib.hid (sOf_any n d u w n0 n1 d0 d1 o1 o2 oe (by unfold sOf; rw [if_pos hn]; exact ho))
  have RO := fun w => Lib.hid (rOf_any n d u w vn u0 u1 o1 o2 oe ho)
  clear hn ho vn n0 n1 d0 d1 u0 u1
  have HW := Lib.hid (Below.refl w.heap.size w)
  have AW := fun w => Lib.hid (sawake_any w)
  have XW := fun w => Lib.hid (wrong_yes w)
  go_enter Try.func5, Try.ntmps5
  go_wp2_with fail
  (with_reducible refine ((AW _).out).mono ?_)
  rintro e y1 ⟨rfl, hb⟩
  have hst := Lib.hid (below_on (w := w) (by repeat' (first | (with_reducible exact Below.refl _ _) | (with_reducible assumption) | (with_reducible refine Below.alloc ?_ ?_ _) | (with_reducible refine below_drew ?_ _) | (with_reducible refine Below.drew ?_) | (with_reducible refine Below.setCell ?_ ?_ _) | go_size)) hb)
  have B0 : Hid (Blk y1 (w.heap.size) (.int .i64 al) (.int .i64 ah)) := Blk.on (W := ((w.alloc (Obj.cells #[Value.int .i64 al, Value.int .i64 ah] 23)).alloc (Obj.cells #[Value.int .i64 n, Value.int .i64 d] 35))) (by first | exact Blk.new _ _ _ _ | exact (Blk.new _ _ _ _).alloc _ | exact ((Blk.new _ _ _ _).alloc _).alloc _ | (have hn := Blk.new (w) (Value.int .i64 al) (Value.int .i64 ah) 23; simpa using hn)) hb
  have B1 : Hid (Blk y1 (w.heap.size + 1) (.int .i64 n) (.int .i64 d)) := Blk.on (W := ((w.alloc (Obj.cells #[Value.int .i64 al, Value.int .i64 ah] 23)).alloc (Obj.cells #[Value.int .i64 n, Value.int .i64 d] 35))) (by first | exact Blk.new _ _ _ _ | exact (Blk.new _ _ _ _).alloc _ | exact ((Blk.new _ _ _ _).alloc _).alloc _ | (have hn := Blk.new ((w.alloc (Obj.cells #[Value.int .i64 al, Value.int .i64 ah] 23))) (Value.int .i64 n) (Value.int .i64 d) 35; simpa using hn)) hb
  clear hb
  replace HW := Lib.hid (below_on HW.out hst.out)
  clear hst
  obtain ⟨_, B0p, B0q⟩ := B0.out
  go_wp2_with fail
  (with_reducible refine ((CT _).out).mono ?_)
  rintro e y2 ⟨rfl, hb⟩
  clear B0p B0q
  have hst := Lib.hid hb
  clear hb
  replace B0 := Lib.hid (B0.out.on hst.out)
  replace B1 := Lib.hid (B1.out.on hst.out)
  replace HW := Lib.hid (below_on HW.out hst.out)
  clear hst
  obtain ⟨_, B0p, B0q⟩ := B0.out
  go_wp2_with fail
  (with_reducible refine ((CR _).out).mono ?_)
  rintro e y3 ⟨rfl, hb⟩
  clear B0p B0q
  have hst := Lib.hid (below_on (w := y2) (by repeat' (first | (with_reducible exact Below.refl _ _) | (with_reducible assumption) | (with_reducible refine Below.alloc ?_ ?_ _) | (with_reducible refine below_drew ?_ _) | (with_reducible refine Below.drew ?_) | (with_reducible refine Below.setCell ?_ ?_ _) | go_size)) hb)
  have B2 : Hid (Blk y3 (y2.heap.size) (.int .i64 t1) (.int .i64 t2)) := Blk.on (W := (y2.alloc (Obj.cells #[Value.int .i64 t1, Value.int .i64 t2] 23))) (by first | exact Blk.new _ _ _ _ | exact (Blk.new _ _ _ _).alloc _ | exact ((Blk.new _ _ _ _).alloc _).alloc _ | (have hn := Blk.new (y2) (Value.int .i64 t1) (Value.int .i64 t2) 23; simpa using hn)) hb
  clear hb
  replace B0 := Lib.hid (B0.out.on hst.out)
  replace B1 := Lib.hid (B1.out.on hst.out)
  replace HW := Lib.hid (below_on HW.out hst.out)
  clear hst
  obtain ⟨_, B1p, B1q⟩ := B1.out
  go_wp2_with fail
  (with_reducible refine ((CO _).out).mono ?_)
  rintro e y4 ⟨rfl, hb⟩
  clear B1p B1q
  have hst := Lib.hid (below_on (w := y3) (by repeat' (first | (with_reducible exact Below.refl _ _) | (with_reducible assumption) | (with_reducible refine Below.alloc ?_ ?_ _) | (with_reducible refine below_drew ?_ _) | (with_reducible refine Below.drew ?_) | (with_reducible refine Below.setCell ?_ ?_ _) | go_size)) hb)
  have B3 : Hid (Blk y4 (y3.heap.size) (.int .i64 r1) (.int .i64 r2)) := Blk.on (W := (y3.alloc (Obj.cells #[Value.int .i64 r1, Value.int .i64 r2] 23))) (by first | exact Blk.new _ _ _ _ | exact (Blk.new _ _ _ _).alloc _ | exact ((Blk.new _ _ _ _).alloc _).alloc _ | (have hn := Blk.new (y3) (Value.int .i64 r1) (Value.int .i64 r2) 23; simpa using hn)) hb
  clear hb
  replace B0 := Lib.hid (B0.out.on hst.out)
  replace B1 := Lib.hid (B1.out.on hst.out)
  replace B2 := Lib.hid (B2.out.on hst.out)
  replace HW := Lib.hid (below_on HW.out hst.out)
  clear hst
  obtain ⟨_, B0p, B0q⟩ := B0.out
  go_wp2_with fail
  (with_reducible refine ((CV _).out).mono ?_)
  rintro e y5 ⟨rfl, hb⟩
  clear B0p B0q
  have hst := Lib.hid (below_on (w := y4) (by repeat' (first | (with_reducible exact Below.refl _ _) | (with_reducible assumption) | (with_reducible refine Below.alloc ?_ ?_ _) | (with_reducible refine below_drew ?_ _) | (with_reducible refine Below.drew ?_) | (with_reducible refine Below.setCell ?_ ?_ _) | go_size)) hb)
  have B4 : Hid (Blk y5 (y4.heap.size) (.int .i64 o1) (.int .i64 o2)) := Blk.on (W := (y4.alloc (Obj.cells #[Value.int .i64 o1, Value.int .i64 o2] 23))) (by first | exact Blk.new _ _ _ _ | exact (Blk.new _ _ _ _).alloc _ | exact ((Blk.new _ _ _ _).alloc _).alloc _ | (have hn := Blk.new (y4) (Value.int .i64 o1) (Value.int .i64 o2) 23; simpa using hn)) hb
  clear hb
  replace B0 := Lib.hid (B0.out.on hst.out)
  replace B1 := Lib.hid (B1.out.on hst.out)
  replace B2 := Lib.hid (B2.out.on hst.out)
  replace B3 := Lib.hid (B3.out.on hst.out)
  replace HW := Lib.hid (below_on HW.out hst.out)
  clear hst
  obtain ⟨_, B0p, B0q⟩ := B0.out
  go_wp2_with fail
  (with_reducible refine ((RT _).out).mono ?_)
  rintro e y6 ⟨rfl, hb⟩
  clear B0p B0q
  have hst := Lib.hid hb
  clear hb
  replace B0 := Lib.hid (B0.out.on hst.out)
  replace B1 := Lib.hid (B1.out.on hst.out)
  replace B2 := Lib.hid (B2.out.on hst.out)
  replace B3 := Lib.hid (B3.out.on hst.out)
  replace B4 := Lib.hid (B4.out.on hst.out)
  replace HW := Lib.hid (below_on HW.out hst.out)
  clear hst
  obtain ⟨_, B0p, B0q⟩ := B0.out
  go_wp2_with fail
  (with_reducible refine ((RR _).out).mono ?_)
  rintro e y7 ⟨rfl, hb⟩
  clear B0p B0q
  have hst := Lib.hid (below_on (w := y6) (by repeat' (first | (with_reducible exact Below.refl _ _) | (with_reducible assumption) | (with_reducible refine Below.alloc ?_ ?_ _) | (with_reducible refine below_drew ?_ _) | (with_reducible refine Below.drew ?_) | (with_reducible refine Below.setCell ?_ ?_ _) | go_size)) hb)
  have B5 : Hid (Blk y7 (y6.heap.size) (.int .i64 t1) (.int .i64 t2)) := Blk.on (W := (y6.alloc (Obj.cells #[Value.int .i64 t1, Value.int .i64 t2] 23))) (by first | exact Blk.new _ _ _ _ | exact (Blk.new _ _ _ _).alloc _ | exact ((Blk.new _ _ _ _).alloc _).alloc _ | (have hn := Blk.new (y6) (Value.int .i64 t1) (Value.int .i64 t2) 23; simpa using hn)) hb
  clear hb
  replace B0 := Lib.hid (B0.out.on hst.out)
  replace B1 := Lib.hid (B1.out.on hst.out)
  replace B2 := Lib.hid (B2.out.on hst.out)
  replace B3 := Lib.hid (B3.out.on hst.out)
  replace B4 := Lib.hid (B4.out.on hst.out)
  replace HW := Lib.hid (below_on HW.out hst.out)
  clear hst
  obtain ⟨_, B2p, B2q⟩ := B2.out
  obtain ⟨_, B5p, B5q⟩ := B5.out
  obtain ⟨_, B3p, B3q⟩ := B3.out
  obtain ⟨_, B1p, B1q⟩ := B1.out
  go_wp2_with fail
  (with_reducible refine ((CN _).out).mono ?_)
  rintro e y8 ⟨rfl, hb⟩
  clear B2p B2q B5p B5q B3p B3q B1p B1q
  have hst := Lib.hid (below_on (w := y7) (by repeat' (first | (with_reducible exact Below.refl _ _) | (with_reducible assumption) | (with_reducible refine Below.alloc ?_ ?_ _) | (with_reducible refine below_drew ?_ _) | (with_reducible refine Below.drew ?_) | (with_reducible refine Below.setCell ?_ ?_ _) | go_size)) hb)
  have B6 : Hid (Blk y8 (y7.heap.size) (.int .i64 r1) (.int .i64 r2)) := Blk.on (W := (y7.alloc (Obj.cells #[Value.int .i64 r1, Value.int .i64 r2] 23))) (by first | exact Blk.new _ _ _ _ | exact (Blk.new _ _ _ _).alloc _ | exact ((Blk.new _ _ _ _).alloc _).alloc _ | (have hn := Blk.new (y7) (Value.int .i64 r1) (Value.int .i64 r2) 23; simpa using hn)) hb
  clear hb
  replace B0 := Lib.hid (B0.out.on hst.out)
  replace B1 := Lib.hid (B1.out.on hst.out)
  replace B2 := Lib.hid (B2.out.on hst.out)
  replace B3 := Lib.hid (B3.out.on hst.out)
  replace B4 := Lib.hid (B4.out.on hst.out)
  replace B5 := Lib.hid (B5.out.on hst.out)
  replace HW := Lib.hid (below_on HW.out hst.out)
  clear hst
  obtain ⟨_, B1p, B1q⟩ := B1.out
  go_wp2_with fail
  (with_reducible refine ((RO _).out).mono ?_)
  rintro e y9 ⟨rfl, hb⟩
  clear B1p B1q
  have hst := Lib.hid hb
  clear hb
  replace B0 := Lib.hid (B0.out.on hst.out)
  replace B1 := Lib.hid (B1.out.on hst.out)
  replace B2 := Lib.hid (B2.out.on hst.out)
  replace B3 := Lib.hid (B3.out.on hst.out)
  replace B4 := Lib.hid (B4.out.on hst.out)
  replace B5 := Lib.hid (B5.out.on hst.out)
  replace B6 := Lib.hid (B6.out.on hst.out)
  replace HW := Lib.hid (below_on HW.out hst.out)
  clear hst
  clear AW XW CT CR CO CV CN RO RT RR
  obtain ⟨_, B0p, B0q⟩ := B0.out
  obtain ⟨_, B1p, B1q⟩ := B1.out
  obtain ⟨_, B2p, B2q⟩ := B2.out
  obtain ⟨_, B3p, B3q⟩ := B3.out
  obtain ⟨_, B4p, B4q⟩ := B4.out
  obtain ⟨_, B5p, B5q⟩ := B5.out
  obtain ⟨_, B6p, B6q⟩ := B6.out
  go_wp2_with fail
  go_ret
  exact ⟨rfl, by have hB := HW.out; first | exact hB | exact (by repeat' (first | (with_reducible exact Below.refl _ _) | (with_reducible assumption) | (with_reducible refine Below.alloc ?_ ?_ _) | (with_reducible refine below_drew ?_ _) | (with_reducible refine Below.drew ?_) | (with_reducible refine Below.setCell ?_ ?_ _) | go_size))⟩

set_option maxRecDepth 100000 in
set_option maxHeartbeats 16000000 in
theorem scales_yn (al ah nm dn n d u p q t1 t2 te r1 r2 re : Int) (w : World) (n0 : -9223372036854775808 ≤ n) (n1 : n ≤ 9223372036854775807) (d0 : -9223372036854775808 ≤ d) (d1 : d ≤ 9223372036854775807) (u0 : -9223372036854775808 ≤ u) (u1 : u ≤ 9223372036854775807) (va : SVd al ah) (hu : 0 ≤ al → FlR al p ∧ ClR ah q) (ht : timS al ah nm dn = (t1, t2, te)) (hr : sRoot al ah p q = (r1, r2, re)) (hn : vB n d = false) :
    Calls Try.prog 5 #[.agg #[.int .i64 al, .int .i64 ah], .int .i64 nm, .int .i64 dn, .agg #[.int .i64 n, .int .i64 d], .int .i64 u] w fun e w' => e = .returned (.bool true) ∧ Below w.heap.size w w' := by
  have ha := sV_yes va
  obtain ⟨v1, v2, v3⟩ := va
  have CV := fun w => Lib.hid (rsValid_any al ah w)
  simp only [ha] at CV
  have CT := fun w => Lib.hid (sTimes_any al ah nm dn w t1 t2 te (by unfold sTimes; rw [if_pos ha]; exact ht))
  have CR := fun w => Lib.hid (sRoot_any al ah p q w (fun h _ => hu h) r1 r2 re hr)
  have RT := fun w => Lib.hid (rTimes_any al ah nm dn w ⟨v1, v2, v3⟩ t1 t2 te ht)
  have RR := fun w => Lib.hid (rRoot_any al ah p q w ⟨v1, v2, v3⟩ hu r1 r2 re hr)
  clear ha ht hr hu v1 v2 v3
  have CN := fun w => Lib.hid (refValid_any n d w n0 n1 d0 d1)
  simp only [hn] at CN
  have CO := fun w => Lib.hid (sOf_any n d u w n0 n1 d0 d1 0 0 1 (by unfold sOf; rw [hn]; rfl))
  clear hn n0 n1 d0 d1 u0 u1
  have HW := Lib.hid (Below.refl w.heap.size w)
  have AW := fun w => Lib.hid (sawake_any w)
  have XW := fun w => Lib.hid (wrong_yes w)
  go_enter Try.func5, Try.ntmps5
  go_wp2_with fail
  (with_reducible refine ((AW _).out).mono ?_)
  rintro e y1 ⟨rfl, hb⟩
  have hst := Lib.hid (below_on (w := w) (by repeat' (first | (with_reducible exact Below.refl _ _) | (with_reducible assumption) | (with_reducible refine Below.alloc ?_ ?_ _) | (with_reducible refine below_drew ?_ _) | (with_reducible refine Below.drew ?_) | (with_reducible refine Below.setCell ?_ ?_ _) | go_size)) hb)
  have B0 : Hid (Blk y1 (w.heap.size) (.int .i64 al) (.int .i64 ah)) := Blk.on (W := ((w.alloc (Obj.cells #[Value.int .i64 al, Value.int .i64 ah] 23)).alloc (Obj.cells #[Value.int .i64 n, Value.int .i64 d] 35))) (by first | exact Blk.new _ _ _ _ | exact (Blk.new _ _ _ _).alloc _ | exact ((Blk.new _ _ _ _).alloc _).alloc _ | (have hn := Blk.new (w) (Value.int .i64 al) (Value.int .i64 ah) 23; simpa using hn)) hb
  have B1 : Hid (Blk y1 (w.heap.size + 1) (.int .i64 n) (.int .i64 d)) := Blk.on (W := ((w.alloc (Obj.cells #[Value.int .i64 al, Value.int .i64 ah] 23)).alloc (Obj.cells #[Value.int .i64 n, Value.int .i64 d] 35))) (by first | exact Blk.new _ _ _ _ | exact (Blk.new _ _ _ _).alloc _ | exact ((Blk.new _ _ _ _).alloc _).alloc _ | (have hn := Blk.new ((w.alloc (Obj.cells #[Value.int .i64 al, Value.int .i64 ah] 23))) (Value.int .i64 n) (Value.int .i64 d) 35; simpa using hn)) hb
  clear hb
  replace HW := Lib.hid (below_on HW.out hst.out)
  clear hst
  obtain ⟨_, B0p, B0q⟩ := B0.out
  go_wp2_with fail
  (with_reducible refine ((CT _).out).mono ?_)
  rintro e y2 ⟨rfl, hb⟩
  clear B0p B0q
  have hst := Lib.hid hb
  clear hb
  replace B0 := Lib.hid (B0.out.on hst.out)
  replace B1 := Lib.hid (B1.out.on hst.out)
  replace HW := Lib.hid (below_on HW.out hst.out)
  clear hst
  obtain ⟨_, B0p, B0q⟩ := B0.out
  go_wp2_with fail
  (with_reducible refine ((CR _).out).mono ?_)
  rintro e y3 ⟨rfl, hb⟩
  clear B0p B0q
  have hst := Lib.hid (below_on (w := y2) (by repeat' (first | (with_reducible exact Below.refl _ _) | (with_reducible assumption) | (with_reducible refine Below.alloc ?_ ?_ _) | (with_reducible refine below_drew ?_ _) | (with_reducible refine Below.drew ?_) | (with_reducible refine Below.setCell ?_ ?_ _) | go_size)) hb)
  have B2 : Hid (Blk y3 (y2.heap.size) (.int .i64 t1) (.int .i64 t2)) := Blk.on (W := (y2.alloc (Obj.cells #[Value.int .i64 t1, Value.int .i64 t2] 23))) (by first | exact Blk.new _ _ _ _ | exact (Blk.new _ _ _ _).alloc _ | exact ((Blk.new _ _ _ _).alloc _).alloc _ | (have hn := Blk.new (y2) (Value.int .i64 t1) (Value.int .i64 t2) 23; simpa using hn)) hb
  clear hb
  replace B0 := Lib.hid (B0.out.on hst.out)
  replace B1 := Lib.hid (B1.out.on hst.out)
  replace HW := Lib.hid (below_on HW.out hst.out)
  clear hst
  obtain ⟨_, B1p, B1q⟩ := B1.out
  go_wp2_with fail
  (with_reducible refine ((CO _).out).mono ?_)
  rintro e y4 ⟨rfl, hb⟩
  clear B1p B1q
  have hst := Lib.hid (below_on (w := y3) (by repeat' (first | (with_reducible exact Below.refl _ _) | (with_reducible assumption) | (with_reducible refine Below.alloc ?_ ?_ _) | (with_reducible refine below_drew ?_ _) | (with_reducible refine Below.drew ?_) | (with_reducible refine Below.setCell ?_ ?_ _) | go_size)) hb)
  have B3 : Hid (Blk y4 (y3.heap.size) (.int .i64 r1) (.int .i64 r2)) := Blk.on (W := (y3.alloc (Obj.cells #[Value.int .i64 r1, Value.int .i64 r2] 23))) (by first | exact Blk.new _ _ _ _ | exact (Blk.new _ _ _ _).alloc _ | exact ((Blk.new _ _ _ _).alloc _).alloc _ | (have hn := Blk.new (y3) (Value.int .i64 r1) (Value.int .i64 r2) 23; simpa using hn)) hb
  clear hb
  replace B0 := Lib.hid (B0.out.on hst.out)
  replace B1 := Lib.hid (B1.out.on hst.out)
  replace B2 := Lib.hid (B2.out.on hst.out)
  replace HW := Lib.hid (below_on HW.out hst.out)
  clear hst
  obtain ⟨_, B0p, B0q⟩ := B0.out
  go_wp2_with fail
  (with_reducible refine ((CV _).out).mono ?_)
  rintro e y5 ⟨rfl, hb⟩
  clear B0p B0q
  have hst := Lib.hid (below_on (w := y4) (by repeat' (first | (with_reducible exact Below.refl _ _) | (with_reducible assumption) | (with_reducible refine Below.alloc ?_ ?_ _) | (with_reducible refine below_drew ?_ _) | (with_reducible refine Below.drew ?_) | (with_reducible refine Below.setCell ?_ ?_ _) | go_size)) hb)
  have B4 : Hid (Blk y5 (y4.heap.size) (.int .i64 0) (.int .i64 0)) := Blk.on (W := (y4.alloc (Obj.cells #[Value.int .i64 0, Value.int .i64 0] 23))) (by first | exact Blk.new _ _ _ _ | exact (Blk.new _ _ _ _).alloc _ | exact ((Blk.new _ _ _ _).alloc _).alloc _ | (have hn := Blk.new (y4) (Value.int .i64 0) (Value.int .i64 0) 23; simpa using hn)) hb
  clear hb
  replace B0 := Lib.hid (B0.out.on hst.out)
  replace B1 := Lib.hid (B1.out.on hst.out)
  replace B2 := Lib.hid (B2.out.on hst.out)
  replace B3 := Lib.hid (B3.out.on hst.out)
  replace HW := Lib.hid (below_on HW.out hst.out)
  clear hst
  obtain ⟨_, B0p, B0q⟩ := B0.out
  go_wp2_with fail
  (with_reducible refine ((RT _).out).mono ?_)
  rintro e y6 ⟨rfl, hb⟩
  clear B0p B0q
  have hst := Lib.hid hb
  clear hb
  replace B0 := Lib.hid (B0.out.on hst.out)
  replace B1 := Lib.hid (B1.out.on hst.out)
  replace B2 := Lib.hid (B2.out.on hst.out)
  replace B3 := Lib.hid (B3.out.on hst.out)
  replace B4 := Lib.hid (B4.out.on hst.out)
  replace HW := Lib.hid (below_on HW.out hst.out)
  clear hst
  obtain ⟨_, B0p, B0q⟩ := B0.out
  go_wp2_with fail
  (with_reducible refine ((RR _).out).mono ?_)
  rintro e y7 ⟨rfl, hb⟩
  clear B0p B0q
  have hst := Lib.hid (below_on (w := y6) (by repeat' (first | (with_reducible exact Below.refl _ _) | (with_reducible assumption) | (with_reducible refine Below.alloc ?_ ?_ _) | (with_reducible refine below_drew ?_ _) | (with_reducible refine Below.drew ?_) | (with_reducible refine Below.setCell ?_ ?_ _) | go_size)) hb)
  have B5 : Hid (Blk y7 (y6.heap.size) (.int .i64 t1) (.int .i64 t2)) := Blk.on (W := (y6.alloc (Obj.cells #[Value.int .i64 t1, Value.int .i64 t2] 23))) (by first | exact Blk.new _ _ _ _ | exact (Blk.new _ _ _ _).alloc _ | exact ((Blk.new _ _ _ _).alloc _).alloc _ | (have hn := Blk.new (y6) (Value.int .i64 t1) (Value.int .i64 t2) 23; simpa using hn)) hb
  clear hb
  replace B0 := Lib.hid (B0.out.on hst.out)
  replace B1 := Lib.hid (B1.out.on hst.out)
  replace B2 := Lib.hid (B2.out.on hst.out)
  replace B3 := Lib.hid (B3.out.on hst.out)
  replace B4 := Lib.hid (B4.out.on hst.out)
  replace HW := Lib.hid (below_on HW.out hst.out)
  clear hst
  obtain ⟨_, B2p, B2q⟩ := B2.out
  obtain ⟨_, B5p, B5q⟩ := B5.out
  obtain ⟨_, B3p, B3q⟩ := B3.out
  obtain ⟨_, B1p, B1q⟩ := B1.out
  go_wp2_with fail
  (with_reducible refine ((CN _).out).mono ?_)
  rintro e y8 ⟨rfl, hb⟩
  clear B2p B2q B5p B5q B3p B3q B1p B1q
  have hst := Lib.hid (below_on (w := y7) (by repeat' (first | (with_reducible exact Below.refl _ _) | (with_reducible assumption) | (with_reducible refine Below.alloc ?_ ?_ _) | (with_reducible refine below_drew ?_ _) | (with_reducible refine Below.drew ?_) | (with_reducible refine Below.setCell ?_ ?_ _) | go_size)) hb)
  have B6 : Hid (Blk y8 (y7.heap.size) (.int .i64 r1) (.int .i64 r2)) := Blk.on (W := (y7.alloc (Obj.cells #[Value.int .i64 r1, Value.int .i64 r2] 23))) (by first | exact Blk.new _ _ _ _ | exact (Blk.new _ _ _ _).alloc _ | exact ((Blk.new _ _ _ _).alloc _).alloc _ | (have hn := Blk.new (y7) (Value.int .i64 r1) (Value.int .i64 r2) 23; simpa using hn)) hb
  clear hb
  replace B0 := Lib.hid (B0.out.on hst.out)
  replace B1 := Lib.hid (B1.out.on hst.out)
  replace B2 := Lib.hid (B2.out.on hst.out)
  replace B3 := Lib.hid (B3.out.on hst.out)
  replace B4 := Lib.hid (B4.out.on hst.out)
  replace B5 := Lib.hid (B5.out.on hst.out)
  replace HW := Lib.hid (below_on HW.out hst.out)
  clear hst
  obtain ⟨_, B4p, B4q⟩ := B4.out
  go_wp2_with fail
  (with_reducible refine ((XW _).out).mono ?_)
  rintro e y9 ⟨rfl, hb⟩
  clear B4p B4q
  have hst := Lib.hid hb
  clear hb
  replace B0 := Lib.hid (B0.out.on hst.out)
  replace B1 := Lib.hid (B1.out.on hst.out)
  replace B2 := Lib.hid (B2.out.on hst.out)
  replace B3 := Lib.hid (B3.out.on hst.out)
  replace B4 := Lib.hid (B4.out.on hst.out)
  replace B5 := Lib.hid (B5.out.on hst.out)
  replace B6 := Lib.hid (B6.out.on hst.out)
  replace HW := Lib.hid (below_on HW.out hst.out)
  clear hst
  go_wp2_with fail
  go_ret
  exact ⟨rfl, by have hB := HW.out; first | exact hB | exact (by repeat' (first | (with_reducible exact Below.refl _ _) | (with_reducible assumption) | (with_reducible refine Below.alloc ?_ ?_ _) | (with_reducible refine below_drew ?_ _) | (with_reducible refine Below.drew ?_) | (with_reducible refine Below.setCell ?_ ?_ _) | go_size))⟩

set_option maxRecDepth 100000 in
set_option maxHeartbeats 16000000 in
theorem scales_ny (al ah nm dn n d u o1 o2 oe : Int) (w : World) (n0 : -9223372036854775808 ≤ n) (n1 : n ≤ 9223372036854775807) (d0 : -9223372036854775808 ≤ d) (d1 : d ≤ 9223372036854775807) (u0 : -9223372036854775808 ≤ u) (u1 : u ≤ 9223372036854775807) (ha : sV al ah = false) (vn : Vld n d) (ho : ofS n d u = (o1, o2, oe)) :
    Calls Try.prog 5 #[.agg #[.int .i64 al, .int .i64 ah], .int .i64 nm, .int .i64 dn, .agg #[.int .i64 n, .int .i64 d], .int .i64 u] w fun e w' => e = .returned (.bool true) ∧ Below w.heap.size w w' := by
  have CV := fun w => Lib.hid (rsValid_any al ah w)
  simp only [ha] at CV
  have CT := fun w => Lib.hid (sTimes_any al ah nm dn w 0 0 1 (by unfold sTimes; rw [ha]; rfl))
  have CR := fun w => Lib.hid (sRoot_any al ah 0 0 w (fun _ v => absurd (sV_yes v) (by rw [ha]; simp)) 0 0 1 (by unfold sRoot; rw [ha]; rfl))
  clear ha
  have hn := vB_yes vn
  have CN := fun w => Lib.hid (refValid_any n d w n0 n1 d0 d1)
  simp only [hn] at CN
  have CO := fun w => Lib.hid (sOf_any n d u w n0 n1 d0 d1 o1 o2 oe (by unfold sOf; rw [if_pos hn]; exact ho))
  have RO := fun w => Lib.hid (rOf_any n d u w vn u0 u1 o1 o2 oe ho)
  clear hn ho vn n0 n1 d0 d1 u0 u1
  have HW := Lib.hid (Below.refl w.heap.size w)
  have AW := fun w => Lib.hid (sawake_any w)
  have XW := fun w => Lib.hid (wrong_yes w)
  go_enter Try.func5, Try.ntmps5
  go_wp2_with fail
  (with_reducible refine ((AW _).out).mono ?_)
  rintro e y1 ⟨rfl, hb⟩
  have hst := Lib.hid (below_on (w := w) (by repeat' (first | (with_reducible exact Below.refl _ _) | (with_reducible assumption) | (with_reducible refine Below.alloc ?_ ?_ _) | (with_reducible refine below_drew ?_ _) | (with_reducible refine Below.drew ?_) | (with_reducible refine Below.setCell ?_ ?_ _) | go_size)) hb)
  have B0 : Hid (Blk y1 (w.heap.size) (.int .i64 al) (.int .i64 ah)) := Blk.on (W := ((w.alloc (Obj.cells #[Value.int .i64 al, Value.int .i64 ah] 23)).alloc (Obj.cells #[Value.int .i64 n, Value.int .i64 d] 35))) (by first | exact Blk.new _ _ _ _ | exact (Blk.new _ _ _ _).alloc _ | exact ((Blk.new _ _ _ _).alloc _).alloc _ | (have hn := Blk.new (w) (Value.int .i64 al) (Value.int .i64 ah) 23; simpa using hn)) hb
  have B1 : Hid (Blk y1 (w.heap.size + 1) (.int .i64 n) (.int .i64 d)) := Blk.on (W := ((w.alloc (Obj.cells #[Value.int .i64 al, Value.int .i64 ah] 23)).alloc (Obj.cells #[Value.int .i64 n, Value.int .i64 d] 35))) (by first | exact Blk.new _ _ _ _ | exact (Blk.new _ _ _ _).alloc _ | exact ((Blk.new _ _ _ _).alloc _).alloc _ | (have hn := Blk.new ((w.alloc (Obj.cells #[Value.int .i64 al, Value.int .i64 ah] 23))) (Value.int .i64 n) (Value.int .i64 d) 35; simpa using hn)) hb
  clear hb
  replace HW := Lib.hid (below_on HW.out hst.out)
  clear hst
  obtain ⟨_, B0p, B0q⟩ := B0.out
  go_wp2_with fail
  (with_reducible refine ((CT _).out).mono ?_)
  rintro e y2 ⟨rfl, hb⟩
  clear B0p B0q
  have hst := Lib.hid hb
  clear hb
  replace B0 := Lib.hid (B0.out.on hst.out)
  replace B1 := Lib.hid (B1.out.on hst.out)
  replace HW := Lib.hid (below_on HW.out hst.out)
  clear hst
  obtain ⟨_, B0p, B0q⟩ := B0.out
  go_wp2_with fail
  (with_reducible refine ((CR _).out).mono ?_)
  rintro e y3 ⟨rfl, hb⟩
  clear B0p B0q
  have hst := Lib.hid (below_on (w := y2) (by repeat' (first | (with_reducible exact Below.refl _ _) | (with_reducible assumption) | (with_reducible refine Below.alloc ?_ ?_ _) | (with_reducible refine below_drew ?_ _) | (with_reducible refine Below.drew ?_) | (with_reducible refine Below.setCell ?_ ?_ _) | go_size)) hb)
  have B2 : Hid (Blk y3 (y2.heap.size) (.int .i64 0) (.int .i64 0)) := Blk.on (W := (y2.alloc (Obj.cells #[Value.int .i64 0, Value.int .i64 0] 23))) (by first | exact Blk.new _ _ _ _ | exact (Blk.new _ _ _ _).alloc _ | exact ((Blk.new _ _ _ _).alloc _).alloc _ | (have hn := Blk.new (y2) (Value.int .i64 0) (Value.int .i64 0) 23; simpa using hn)) hb
  clear hb
  replace B0 := Lib.hid (B0.out.on hst.out)
  replace B1 := Lib.hid (B1.out.on hst.out)
  replace HW := Lib.hid (below_on HW.out hst.out)
  clear hst
  obtain ⟨_, B1p, B1q⟩ := B1.out
  go_wp2_with fail
  (with_reducible refine ((CO _).out).mono ?_)
  rintro e y4 ⟨rfl, hb⟩
  clear B1p B1q
  have hst := Lib.hid (below_on (w := y3) (by repeat' (first | (with_reducible exact Below.refl _ _) | (with_reducible assumption) | (with_reducible refine Below.alloc ?_ ?_ _) | (with_reducible refine below_drew ?_ _) | (with_reducible refine Below.drew ?_) | (with_reducible refine Below.setCell ?_ ?_ _) | go_size)) hb)
  have B3 : Hid (Blk y4 (y3.heap.size) (.int .i64 0) (.int .i64 0)) := Blk.on (W := (y3.alloc (Obj.cells #[Value.int .i64 0, Value.int .i64 0] 23))) (by first | exact Blk.new _ _ _ _ | exact (Blk.new _ _ _ _).alloc _ | exact ((Blk.new _ _ _ _).alloc _).alloc _ | (have hn := Blk.new (y3) (Value.int .i64 0) (Value.int .i64 0) 23; simpa using hn)) hb
  clear hb
  replace B0 := Lib.hid (B0.out.on hst.out)
  replace B1 := Lib.hid (B1.out.on hst.out)
  replace B2 := Lib.hid (B2.out.on hst.out)
  replace HW := Lib.hid (below_on HW.out hst.out)
  clear hst
  obtain ⟨_, B0p, B0q⟩ := B0.out
  go_wp2_with fail
  (with_reducible refine ((CV _).out).mono ?_)
  rintro e y5 ⟨rfl, hb⟩
  clear B0p B0q
  have hst := Lib.hid (below_on (w := y4) (by repeat' (first | (with_reducible exact Below.refl _ _) | (with_reducible assumption) | (with_reducible refine Below.alloc ?_ ?_ _) | (with_reducible refine below_drew ?_ _) | (with_reducible refine Below.drew ?_) | (with_reducible refine Below.setCell ?_ ?_ _) | go_size)) hb)
  have B4 : Hid (Blk y5 (y4.heap.size) (.int .i64 o1) (.int .i64 o2)) := Blk.on (W := (y4.alloc (Obj.cells #[Value.int .i64 o1, Value.int .i64 o2] 23))) (by first | exact Blk.new _ _ _ _ | exact (Blk.new _ _ _ _).alloc _ | exact ((Blk.new _ _ _ _).alloc _).alloc _ | (have hn := Blk.new (y4) (Value.int .i64 o1) (Value.int .i64 o2) 23; simpa using hn)) hb
  clear hb
  replace B0 := Lib.hid (B0.out.on hst.out)
  replace B1 := Lib.hid (B1.out.on hst.out)
  replace B2 := Lib.hid (B2.out.on hst.out)
  replace B3 := Lib.hid (B3.out.on hst.out)
  replace HW := Lib.hid (below_on HW.out hst.out)
  clear hst
  obtain ⟨_, B2p, B2q⟩ := B2.out
  go_wp2_with fail
  (with_reducible refine ((XW _).out).mono ?_)
  rintro e y6 ⟨rfl, hb⟩
  clear B2p B2q
  have hst := Lib.hid hb
  clear hb
  replace B0 := Lib.hid (B0.out.on hst.out)
  replace B1 := Lib.hid (B1.out.on hst.out)
  replace B2 := Lib.hid (B2.out.on hst.out)
  replace B3 := Lib.hid (B3.out.on hst.out)
  replace B4 := Lib.hid (B4.out.on hst.out)
  replace HW := Lib.hid (below_on HW.out hst.out)
  clear hst
  obtain ⟨_, B3p, B3q⟩ := B3.out
  go_wp2_with fail
  (with_reducible refine ((XW _).out).mono ?_)
  rintro e y7 ⟨rfl, hb⟩
  clear B3p B3q
  have hst := Lib.hid hb
  clear hb
  replace B0 := Lib.hid (B0.out.on hst.out)
  replace B1 := Lib.hid (B1.out.on hst.out)
  replace B2 := Lib.hid (B2.out.on hst.out)
  replace B3 := Lib.hid (B3.out.on hst.out)
  replace B4 := Lib.hid (B4.out.on hst.out)
  replace HW := Lib.hid (below_on HW.out hst.out)
  clear hst
  obtain ⟨_, B1p, B1q⟩ := B1.out
  go_wp2_with fail
  (with_reducible refine ((CN _).out).mono ?_)
  rintro e y8 ⟨rfl, hb⟩
  clear B1p B1q
  have hst := Lib.hid hb
  clear hb
  replace B0 := Lib.hid (B0.out.on hst.out)
  replace B1 := Lib.hid (B1.out.on hst.out)
  replace B2 := Lib.hid (B2.out.on hst.out)
  replace B3 := Lib.hid (B3.out.on hst.out)
  replace B4 := Lib.hid (B4.out.on hst.out)
  replace HW := Lib.hid (below_on HW.out hst.out)
  clear hst
  obtain ⟨_, B1p, B1q⟩ := B1.out
  go_wp2_with fail
  (with_reducible refine ((RO _).out).mono ?_)
  rintro e y9 ⟨rfl, hb⟩
  clear B1p B1q
  have hst := Lib.hid hb
  clear hb
  replace B0 := Lib.hid (B0.out.on hst.out)
  replace B1 := Lib.hid (B1.out.on hst.out)
  replace B2 := Lib.hid (B2.out.on hst.out)
  replace B3 := Lib.hid (B3.out.on hst.out)
  replace B4 := Lib.hid (B4.out.on hst.out)
  replace HW := Lib.hid (below_on HW.out hst.out)
  clear hst
  clear AW XW CT CR CO CV CN RO
  obtain ⟨_, B0p, B0q⟩ := B0.out
  obtain ⟨_, B1p, B1q⟩ := B1.out
  obtain ⟨_, B2p, B2q⟩ := B2.out
  obtain ⟨_, B3p, B3q⟩ := B3.out
  obtain ⟨_, B4p, B4q⟩ := B4.out
  go_wp2_with fail
  go_ret
  exact ⟨rfl, by have hB := HW.out; first | exact hB | exact (by repeat' (first | (with_reducible exact Below.refl _ _) | (with_reducible assumption) | (with_reducible refine Below.alloc ?_ ?_ _) | (with_reducible refine below_drew ?_ _) | (with_reducible refine Below.drew ?_) | (with_reducible refine Below.setCell ?_ ?_ _) | go_size))⟩

set_option maxRecDepth 100000 in
set_option maxHeartbeats 16000000 in
theorem scales_nn (al ah nm dn n d u : Int) (w : World) (n0 : -9223372036854775808 ≤ n) (n1 : n ≤ 9223372036854775807) (d0 : -9223372036854775808 ≤ d) (d1 : d ≤ 9223372036854775807) (u0 : -9223372036854775808 ≤ u) (u1 : u ≤ 9223372036854775807) (ha : sV al ah = false) (hn : vB n d = false) :
    Calls Try.prog 5 #[.agg #[.int .i64 al, .int .i64 ah], .int .i64 nm, .int .i64 dn, .agg #[.int .i64 n, .int .i64 d], .int .i64 u] w fun e w' => e = .returned (.bool true) ∧ Below w.heap.size w w' := by
  have CV := fun w => Lib.hid (rsValid_any al ah w)
  simp only [ha] at CV
  have CT := fun w => Lib.hid (sTimes_any al ah nm dn w 0 0 1 (by unfold sTimes; rw [ha]; rfl))
  have CR := fun w => Lib.hid (sRoot_any al ah 0 0 w (fun _ v => absurd (sV_yes v) (by rw [ha]; simp)) 0 0 1 (by unfold sRoot; rw [ha]; rfl))
  clear ha
  have CN := fun w => Lib.hid (refValid_any n d w n0 n1 d0 d1)
  simp only [hn] at CN
  have CO := fun w => Lib.hid (sOf_any n d u w n0 n1 d0 d1 0 0 1 (by unfold sOf; rw [hn]; rfl))
  clear hn n0 n1 d0 d1 u0 u1
  have HW := Lib.hid (Below.refl w.heap.size w)
  have AW := fun w => Lib.hid (sawake_any w)
  have XW := fun w => Lib.hid (wrong_yes w)
  go_enter Try.func5, Try.ntmps5
  go_wp2_with fail
  (with_reducible refine ((AW _).out).mono ?_)
  rintro e y1 ⟨rfl, hb⟩
  have hst := Lib.hid (below_on (w := w) (by repeat' (first | (with_reducible exact Below.refl _ _) | (with_reducible assumption) | (with_reducible refine Below.alloc ?_ ?_ _) | (with_reducible refine below_drew ?_ _) | (with_reducible refine Below.drew ?_) | (with_reducible refine Below.setCell ?_ ?_ _) | go_size)) hb)
  have B0 : Hid (Blk y1 (w.heap.size) (.int .i64 al) (.int .i64 ah)) := Blk.on (W := ((w.alloc (Obj.cells #[Value.int .i64 al, Value.int .i64 ah] 23)).alloc (Obj.cells #[Value.int .i64 n, Value.int .i64 d] 35))) (by first | exact Blk.new _ _ _ _ | exact (Blk.new _ _ _ _).alloc _ | exact ((Blk.new _ _ _ _).alloc _).alloc _ | (have hn := Blk.new (w) (Value.int .i64 al) (Value.int .i64 ah) 23; simpa using hn)) hb
  have B1 : Hid (Blk y1 (w.heap.size + 1) (.int .i64 n) (.int .i64 d)) := Blk.on (W := ((w.alloc (Obj.cells #[Value.int .i64 al, Value.int .i64 ah] 23)).alloc (Obj.cells #[Value.int .i64 n, Value.int .i64 d] 35))) (by first | exact Blk.new _ _ _ _ | exact (Blk.new _ _ _ _).alloc _ | exact ((Blk.new _ _ _ _).alloc _).alloc _ | (have hn := Blk.new ((w.alloc (Obj.cells #[Value.int .i64 al, Value.int .i64 ah] 23))) (Value.int .i64 n) (Value.int .i64 d) 35; simpa using hn)) hb
  clear hb
  replace HW := Lib.hid (below_on HW.out hst.out)
  clear hst
  obtain ⟨_, B0p, B0q⟩ := B0.out
  go_wp2_with fail
  (with_reducible refine ((CT _).out).mono ?_)
  rintro e y2 ⟨rfl, hb⟩
  clear B0p B0q
  have hst := Lib.hid hb
  clear hb
  replace B0 := Lib.hid (B0.out.on hst.out)
  replace B1 := Lib.hid (B1.out.on hst.out)
  replace HW := Lib.hid (below_on HW.out hst.out)
  clear hst
  obtain ⟨_, B0p, B0q⟩ := B0.out
  go_wp2_with fail
  (with_reducible refine ((CR _).out).mono ?_)
  rintro e y3 ⟨rfl, hb⟩
  clear B0p B0q
  have hst := Lib.hid (below_on (w := y2) (by repeat' (first | (with_reducible exact Below.refl _ _) | (with_reducible assumption) | (with_reducible refine Below.alloc ?_ ?_ _) | (with_reducible refine below_drew ?_ _) | (with_reducible refine Below.drew ?_) | (with_reducible refine Below.setCell ?_ ?_ _) | go_size)) hb)
  have B2 : Hid (Blk y3 (y2.heap.size) (.int .i64 0) (.int .i64 0)) := Blk.on (W := (y2.alloc (Obj.cells #[Value.int .i64 0, Value.int .i64 0] 23))) (by first | exact Blk.new _ _ _ _ | exact (Blk.new _ _ _ _).alloc _ | exact ((Blk.new _ _ _ _).alloc _).alloc _ | (have hn := Blk.new (y2) (Value.int .i64 0) (Value.int .i64 0) 23; simpa using hn)) hb
  clear hb
  replace B0 := Lib.hid (B0.out.on hst.out)
  replace B1 := Lib.hid (B1.out.on hst.out)
  replace HW := Lib.hid (below_on HW.out hst.out)
  clear hst
  obtain ⟨_, B1p, B1q⟩ := B1.out
  go_wp2_with fail
  (with_reducible refine ((CO _).out).mono ?_)
  rintro e y4 ⟨rfl, hb⟩
  clear B1p B1q
  have hst := Lib.hid (below_on (w := y3) (by repeat' (first | (with_reducible exact Below.refl _ _) | (with_reducible assumption) | (with_reducible refine Below.alloc ?_ ?_ _) | (with_reducible refine below_drew ?_ _) | (with_reducible refine Below.drew ?_) | (with_reducible refine Below.setCell ?_ ?_ _) | go_size)) hb)
  have B3 : Hid (Blk y4 (y3.heap.size) (.int .i64 0) (.int .i64 0)) := Blk.on (W := (y3.alloc (Obj.cells #[Value.int .i64 0, Value.int .i64 0] 23))) (by first | exact Blk.new _ _ _ _ | exact (Blk.new _ _ _ _).alloc _ | exact ((Blk.new _ _ _ _).alloc _).alloc _ | (have hn := Blk.new (y3) (Value.int .i64 0) (Value.int .i64 0) 23; simpa using hn)) hb
  clear hb
  replace B0 := Lib.hid (B0.out.on hst.out)
  replace B1 := Lib.hid (B1.out.on hst.out)
  replace B2 := Lib.hid (B2.out.on hst.out)
  replace HW := Lib.hid (below_on HW.out hst.out)
  clear hst
  obtain ⟨_, B0p, B0q⟩ := B0.out
  go_wp2_with fail
  (with_reducible refine ((CV _).out).mono ?_)
  rintro e y5 ⟨rfl, hb⟩
  clear B0p B0q
  have hst := Lib.hid (below_on (w := y4) (by repeat' (first | (with_reducible exact Below.refl _ _) | (with_reducible assumption) | (with_reducible refine Below.alloc ?_ ?_ _) | (with_reducible refine below_drew ?_ _) | (with_reducible refine Below.drew ?_) | (with_reducible refine Below.setCell ?_ ?_ _) | go_size)) hb)
  have B4 : Hid (Blk y5 (y4.heap.size) (.int .i64 0) (.int .i64 0)) := Blk.on (W := (y4.alloc (Obj.cells #[Value.int .i64 0, Value.int .i64 0] 23))) (by first | exact Blk.new _ _ _ _ | exact (Blk.new _ _ _ _).alloc _ | exact ((Blk.new _ _ _ _).alloc _).alloc _ | (have hn := Blk.new (y4) (Value.int .i64 0) (Value.int .i64 0) 23; simpa using hn)) hb
  clear hb
  replace B0 := Lib.hid (B0.out.on hst.out)
  replace B1 := Lib.hid (B1.out.on hst.out)
  replace B2 := Lib.hid (B2.out.on hst.out)
  replace B3 := Lib.hid (B3.out.on hst.out)
  replace HW := Lib.hid (below_on HW.out hst.out)
  clear hst
  obtain ⟨_, B2p, B2q⟩ := B2.out
  go_wp2_with fail
  (with_reducible refine ((XW _).out).mono ?_)
  rintro e y6 ⟨rfl, hb⟩
  clear B2p B2q
  have hst := Lib.hid hb
  clear hb
  replace B0 := Lib.hid (B0.out.on hst.out)
  replace B1 := Lib.hid (B1.out.on hst.out)
  replace B2 := Lib.hid (B2.out.on hst.out)
  replace B3 := Lib.hid (B3.out.on hst.out)
  replace B4 := Lib.hid (B4.out.on hst.out)
  replace HW := Lib.hid (below_on HW.out hst.out)
  clear hst
  obtain ⟨_, B3p, B3q⟩ := B3.out
  go_wp2_with fail
  (with_reducible refine ((XW _).out).mono ?_)
  rintro e y7 ⟨rfl, hb⟩
  clear B3p B3q
  have hst := Lib.hid hb
  clear hb
  replace B0 := Lib.hid (B0.out.on hst.out)
  replace B1 := Lib.hid (B1.out.on hst.out)
  replace B2 := Lib.hid (B2.out.on hst.out)
  replace B3 := Lib.hid (B3.out.on hst.out)
  replace B4 := Lib.hid (B4.out.on hst.out)
  replace HW := Lib.hid (below_on HW.out hst.out)
  clear hst
  obtain ⟨_, B1p, B1q⟩ := B1.out
  go_wp2_with fail
  (with_reducible refine ((CN _).out).mono ?_)
  rintro e y8 ⟨rfl, hb⟩
  clear B1p B1q
  have hst := Lib.hid hb
  clear hb
  replace B0 := Lib.hid (B0.out.on hst.out)
  replace B1 := Lib.hid (B1.out.on hst.out)
  replace B2 := Lib.hid (B2.out.on hst.out)
  replace B3 := Lib.hid (B3.out.on hst.out)
  replace B4 := Lib.hid (B4.out.on hst.out)
  replace HW := Lib.hid (below_on HW.out hst.out)
  clear hst
  obtain ⟨_, B4p, B4q⟩ := B4.out
  go_wp2_with fail
  (with_reducible refine ((XW _).out).mono ?_)
  rintro e y9 ⟨rfl, hb⟩
  clear B4p B4q
  have hst := Lib.hid hb
  clear hb
  replace B0 := Lib.hid (B0.out.on hst.out)
  replace B1 := Lib.hid (B1.out.on hst.out)
  replace B2 := Lib.hid (B2.out.on hst.out)
  replace B3 := Lib.hid (B3.out.on hst.out)
  replace B4 := Lib.hid (B4.out.on hst.out)
  replace HW := Lib.hid (below_on HW.out hst.out)
  clear hst
  go_wp2_with fail
  go_ret
  exact ⟨rfl, by have hB := HW.out; first | exact hB | exact (by repeat' (first | (with_reducible exact Below.refl _ _) | (with_reducible assumption) | (with_reducible refine Below.alloc ?_ ?_ _) | (with_reducible refine below_drew ?_ _) | (with_reducible refine Below.drew ?_) | (with_reducible refine Below.setCell ?_ ?_ _) | go_size))⟩

theorem scales_walk (al ah nm dn n d u : Int) (w : World) (a0 : -9223372036854775808 ≤ al) (a1 : al ≤ 9223372036854775807) (a2 : -9223372036854775808 ≤ ah) (a3 : ah ≤ 9223372036854775807) (m0 : -9223372036854775808 ≤ nm) (m1 : nm ≤ 9223372036854775807) (k0 : -9223372036854775808 ≤ dn) (k1 : dn ≤ 9223372036854775807) (n0 : -9223372036854775808 ≤ n) (n1 : n ≤ 9223372036854775807) (d0 : -9223372036854775808 ≤ d) (d1 : d ≤ 9223372036854775807) (u0 : -9223372036854775808 ≤ u) (u1 : u ≤ 9223372036854775807) :
    Calls Try.prog 5 #[.agg #[.int .i64 al, .int .i64 ah], .int .i64 nm, .int .i64 dn, .agg #[.int .i64 n, .int .i64 d], .int .i64 u] w fun e w' => e = .returned (.bool true) ∧ Below w.heap.size w w' := by
  by_cases hn : vB n d = true
  · have vn := vB_vld hn
    obtain ⟨o1, o2, oe, ho⟩ : ∃ a b c, ofS n d u = (a, b, c) := ⟨_, _, _, rfl⟩
    by_cases ha : sV al ah = true
    · have va := sV_vd ha
      obtain ⟨p, q, hu⟩ := rt_ex va
      obtain ⟨t1, t2, te, ht⟩ : ∃ a b c, timS al ah nm dn = (a, b, c) := ⟨_, _, _, rfl⟩
      obtain ⟨r1, r2, re, hr⟩ : ∃ a b c, sRoot al ah p q = (a, b, c) := ⟨_, _, _, rfl⟩
      exact scales_yy al ah nm dn n d u p q t1 t2 te r1 r2 re o1 o2 oe w n0 n1 d0 d1 u0 u1 va hu ht hr vn ho
    · exact scales_ny al ah nm dn n d u o1 o2 oe w n0 n1 d0 d1 u0 u1 (by simpa using ha) vn ho
  · by_cases ha : sV al ah = true
    · have va := sV_vd ha
      obtain ⟨p, q, hu⟩ := rt_ex va
      obtain ⟨t1, t2, te, ht⟩ : ∃ a b c, timS al ah nm dn = (a, b, c) := ⟨_, _, _, rfl⟩
      obtain ⟨r1, r2, re, hr⟩ : ∃ a b c, sRoot al ah p q = (a, b, c) := ⟨_, _, _, rfl⟩
      exact scales_yn al ah nm dn n d u p q t1 t2 te r1 r2 re w n0 n1 d0 d1 u0 u1 va hu ht hr (by simpa using hn)
    · exact scales_nn al ah nm dn n d u w n0 n1 d0 d1 u0 u1 (by simpa using ha) (by simpa using hn)

end Go.Proofs.Ytknbhpnhnhfbpaa
