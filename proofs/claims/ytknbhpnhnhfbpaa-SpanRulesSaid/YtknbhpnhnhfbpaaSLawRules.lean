/- The walk of the law SpanRules. -/
import Derived.Test.YtknbhpnhnhfbpaaSLawRulesA
import Derived.Test.YtknbhpnhnhfbpaaSLawRulesB
namespace Go.Proofs.Ytknbhpnhnhfbpaa
set_option linter.unusedVariables false
open Go.RowKit Go.Shelf

set_option maxRecDepth 100000 in
set_option maxHeartbeats 8000000 in
theorem rules_noA (al ah bl bh : Int) (w : World) (ha : sV al ah = false) :
    Calls Try.prog 8 #[.agg #[.int .i64 al, .int .i64 ah], .agg #[.int .i64 bl, .int .i64 bh]] w fun e w' => e = .returned (.bool true) ∧ Below w.heap.size w w' := by
  have HW := Lib.hid (Below.refl w.heap.size w)
  have AW := fun w => Lib.hid (sawake_any w)
  have VA := fun w => Lib.hid (rsValid_any al ah w)
  have VB := fun w => Lib.hid (rsValid_any bl bh w)
  simp only [ha] at VA
  clear ha
  go_enter Try.func8, Try.ntmps8
  go_wp2_with fail
  (with_reducible refine ((AW _).out).mono ?_)
  rintro e y1 ⟨rfl, hb⟩
  have hst := Lib.hid (below_on (w := w) (by repeat' (first | (with_reducible exact Below.refl _ _) | (with_reducible assumption) | (with_reducible refine Below.alloc ?_ ?_ _) | (with_reducible refine below_drew ?_ _) | (with_reducible refine Below.drew ?_) | (with_reducible refine Below.setCell ?_ ?_ _) | go_size)) hb)
  have B0 : Hid (Blk y1 (w.heap.size) (.int .i64 al) (.int .i64 ah)) := Blk.on (W := ((w.alloc (Obj.cells #[Value.int .i64 al, Value.int .i64 ah] 23)).alloc (Obj.cells #[Value.int .i64 bl, Value.int .i64 bh] 23))) (by first | exact Blk.new _ _ _ _ | exact (Blk.new _ _ _ _).alloc _ | exact ((Blk.new _ _ _ _).alloc _).alloc _ | (have hn := Blk.new (w) (Value.int .i64 al) (Value.int .i64 ah) 23; simpa using hn)) hb
  have B1 : Hid (Blk y1 (w.heap.size + 1) (.int .i64 bl) (.int .i64 bh)) := Blk.on (W := ((w.alloc (Obj.cells #[Value.int .i64 al, Value.int .i64 ah] 23)).alloc (Obj.cells #[Value.int .i64 bl, Value.int .i64 bh] 23))) (by first | exact Blk.new _ _ _ _ | exact (Blk.new _ _ _ _).alloc _ | exact ((Blk.new _ _ _ _).alloc _).alloc _ | (have hn := Blk.new ((w.alloc (Obj.cells #[Value.int .i64 al, Value.int .i64 ah] 23))) (Value.int .i64 bl) (Value.int .i64 bh) 23; simpa using hn)) hb
  clear hb
  replace HW := Lib.hid (below_on HW.out hst.out)
  clear hst
  obtain ⟨_, B0p, B0q⟩ := B0.out
  go_wp2_with fail
  (with_reducible refine ((VA _).out).mono ?_)
  rintro e y2 ⟨rfl, hb⟩
  clear B0p B0q
  have hst := Lib.hid hb
  clear hb
  replace B0 := Lib.hid (B0.out.on hst.out)
  replace B1 := Lib.hid (B1.out.on hst.out)
  replace HW := Lib.hid (below_on HW.out hst.out)
  clear hst
  go_wp2_with fail
  go_ret
  exact ⟨rfl, HW.out⟩

set_option maxRecDepth 100000 in
set_option maxHeartbeats 8000000 in
theorem rules_noB (al ah bl bh : Int) (w : World) (ha : sV al ah = true) (hb : sV bl bh = false) :
    Calls Try.prog 8 #[.agg #[.int .i64 al, .int .i64 ah], .agg #[.int .i64 bl, .int .i64 bh]] w fun e w' => e = .returned (.bool true) ∧ Below w.heap.size w w' := by
  have HW := Lib.hid (Below.refl w.heap.size w)
  have AW := fun w => Lib.hid (sawake_any w)
  have VA := fun w => Lib.hid (rsValid_any al ah w)
  have VB := fun w => Lib.hid (rsValid_any bl bh w)
  simp only [ha] at VA
  simp only [hb] at VB
  clear ha hb
  go_enter Try.func8, Try.ntmps8
  go_wp2_with fail
  (with_reducible refine ((AW _).out).mono ?_)
  rintro e y1 ⟨rfl, hb⟩
  have hst := Lib.hid (below_on (w := w) (by repeat' (first | (with_reducible exact Below.refl _ _) | (with_reducible assumption) | (with_reducible refine Below.alloc ?_ ?_ _) | (with_reducible refine below_drew ?_ _) | (with_reducible refine Below.drew ?_) | (with_reducible refine Below.setCell ?_ ?_ _) | go_size)) hb)
  have B0 : Hid (Blk y1 (w.heap.size) (.int .i64 al) (.int .i64 ah)) := Blk.on (W := ((w.alloc (Obj.cells #[Value.int .i64 al, Value.int .i64 ah] 23)).alloc (Obj.cells #[Value.int .i64 bl, Value.int .i64 bh] 23))) (by first | exact Blk.new _ _ _ _ | exact (Blk.new _ _ _ _).alloc _ | exact ((Blk.new _ _ _ _).alloc _).alloc _ | (have hn := Blk.new (w) (Value.int .i64 al) (Value.int .i64 ah) 23; simpa using hn)) hb
  have B1 : Hid (Blk y1 (w.heap.size + 1) (.int .i64 bl) (.int .i64 bh)) := Blk.on (W := ((w.alloc (Obj.cells #[Value.int .i64 al, Value.int .i64 ah] 23)).alloc (Obj.cells #[Value.int .i64 bl, Value.int .i64 bh] 23))) (by first | exact Blk.new _ _ _ _ | exact (Blk.new _ _ _ _).alloc _ | exact ((Blk.new _ _ _ _).alloc _).alloc _ | (have hn := Blk.new ((w.alloc (Obj.cells #[Value.int .i64 al, Value.int .i64 ah] 23))) (Value.int .i64 bl) (Value.int .i64 bh) 23; simpa using hn)) hb
  clear hb
  replace HW := Lib.hid (below_on HW.out hst.out)
  clear hst
  obtain ⟨_, B0p, B0q⟩ := B0.out
  go_wp2_with fail
  (with_reducible refine ((VA _).out).mono ?_)
  rintro e y2 ⟨rfl, hb⟩
  clear B0p B0q
  have hst := Lib.hid hb
  clear hb
  replace B0 := Lib.hid (B0.out.on hst.out)
  replace B1 := Lib.hid (B1.out.on hst.out)
  replace HW := Lib.hid (below_on HW.out hst.out)
  clear hst
  obtain ⟨_, B1p, B1q⟩ := B1.out
  go_wp2_with fail
  (with_reducible refine ((VB _).out).mono ?_)
  rintro e y3 ⟨rfl, hb⟩
  clear B1p B1q
  have hst := Lib.hid hb
  clear hb
  replace B0 := Lib.hid (B0.out.on hst.out)
  replace B1 := Lib.hid (B1.out.on hst.out)
  replace HW := Lib.hid (below_on HW.out hst.out)
  clear hst
  go_wp2_with fail
  go_ret
  exact ⟨rfl, HW.out⟩

theorem rules_walk (al ah bl bh : Int) (w : World) (a0 : -9223372036854775808 ≤ al) (a1 : al ≤ 9223372036854775807) (a2 : -9223372036854775808 ≤ ah) (a3 : ah ≤ 9223372036854775807) (b0 : -9223372036854775808 ≤ bl) (b1 : bl ≤ 9223372036854775807) (b2 : -9223372036854775808 ≤ bh) (b3 : bh ≤ 9223372036854775807) :
    Calls Try.prog 8 #[.agg #[.int .i64 al, .int .i64 ah], .agg #[.int .i64 bl, .int .i64 bh]] w fun e w' => e = .returned (.bool true) ∧ Below w.heap.size w w' := by
  by_cases ha : sV al ah = true
  · by_cases hb : sV bl bh = true
    · have va := sV_vd ha
      have vb := sV_vd hb
      by_cases hf : sV (al + bl) (ah + bh) = true <;> by_cases m1 : ah < bl <;> by_cases m2 : bh < al
      · exact rules_FD1 al ah bl bh w va vb hf m1
      · exact rules_FD1 al ah bl bh w va vb hf m1
      · exact rules_FD2 al ah bl bh w va vb hf m1 m2
      · exact rules_FO al ah bl bh w va vb hf m1 m2
      · exact rules_ND1 al ah bl bh w va vb (by simpa using hf) m1
      · exact rules_ND1 al ah bl bh w va vb (by simpa using hf) m1
      · exact rules_ND2 al ah bl bh w va vb (by simpa using hf) m1 m2
      · exact rules_NO al ah bl bh w va vb (by simpa using hf) m1 m2
    · exact rules_noB al ah bl bh w ha (by simpa using hb)
  · exact rules_noA al ah bl bh w (by simpa using ha)

end Go.Proofs.Ytknbhpnhnhfbpaa
