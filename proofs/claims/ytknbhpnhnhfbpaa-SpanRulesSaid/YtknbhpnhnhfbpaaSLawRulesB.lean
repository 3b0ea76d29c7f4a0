/- The walk of the law SpanRules: the sum does not fit. -/
import Derived.Test.YtknbhpnhnhfbpaaS6
import Derived.Test.YtknbhpnhnhfbpaaSMath
namespace Go.Proofs.Ytknbhpnhnhfbpaa
set_option linter.unusedVariables false
open Go.RowKit Go.Shelf

set_option maxRecDepth 100000 in
set_option maxHeartbeats 16000000 in
theorem rules_NO (al ah bl bh : Int) (w : World) (va : SVd al ah) (vb : SVd bl bh) (hf : sV (al + bl) (ah + bh) = false) (m1 : ¬ ah < bl) (m2 : ¬ bh < al) :
    Calls Try.prog 8 #[.agg #[.int .i64 al, .int .i64 ah], .agg #[.int .i64 bl, .int .i64 bh]] w fun e w' => e = .returned (.bool true) ∧ Below w.heap.size w w' := by
  have ha := sV_yes va
  have hb := sV_yes vb
  have VA := fun w => Lib.hid (rsValid_any al ah w)
  have VB := fun w => Lib.hid (rsValid_any bl bh w)
  simp only [ha] at VA
  simp only [hb] at VB
  obtain ⟨va1, va2, va3⟩ := va
  obtain ⟨vb1, vb2, vb3⟩ := vb
  have h1 : sAdd al ah bl bh = (0, 0, 5) := by unfold sAdd; rw [okS_yes ha hb]; unfold fitS; rw [if_neg (by simp [hf])]
  obtain ⟨n1, hn1⟩ : ∃ z : Int, 0 = z := ⟨_, rfl⟩
  obtain ⟨d1, hd1⟩ : ∃ z : Int, 0 = z := ⟨_, rfl⟩
  have C1 := fun w => Lib.hid (sAdd_any al ah bl bh w (by omega) (by omega) (by omega) (by omega) (by omega) (by omega) (by omega) (by omega) n1 d1 5 (by rw [← hn1, ← hd1]; exact h1))
  have C2 := fun w => Lib.hid (sAdd_any bl bh al ah w (by omega) (by omega) (by omega) (by omega) (by omega) (by omega) (by omega) (by omega) n1 d1 5 (by rw [← hn1, ← hd1, ← sAdd_comm]; exact h1))
  clear hn1 hd1 h1 hf
  obtain ⟨n2, d2, e2, h2⟩ : ∃ a b c, sMul al ah bl bh = (a, b, c) := ⟨_, _, _, rfl⟩
  have C3 := fun w => Lib.hid (sMul_any al ah bl bh w (by omega) (by omega) (by omega) (by omega) (by omega) (by omega) (by omega) (by omega) n2 d2 e2 h2)
  have C4 := fun w => Lib.hid (sMul_any bl bh al ah w (by omega) (by omega) (by omega) (by omega) (by omega) (by omega) (by omega) (by omega) n2 d2 e2 (by rw [← sMul_comm]; exact h2))
  have h4 : al = min al bl ∨ ((bl != al) = true ∧ bl = min al bl) := by
    by_cases c : al ≤ bl
    · exact .inl (by omega)
    · exact .inr ⟨by simp; omega, by omega⟩
  have h5 : ah = max ah bh ∨ ((bh != ah) = true ∧ bh = max ah bh) := by
    by_cases c : bh ≤ ah
    · exact .inl (by omega)
    · exact .inr ⟨by simp; omega, by omega⟩
  have C6 := fun w => Lib.hid (sHull_any al ah bl bh w (by omega) (by omega) (by omega) (by omega) (by omega) (by omega) (by omega) (by omega) (min al bl) (max ah bh) 0 (by unfold sHull; rw [okS_yes ha hb]))
  have I2 := fun w => Lib.hid (inside_yes al ah (min al bl) (max ah bh) w (by omega) (by omega))
  have I3 := fun w => Lib.hid (inside_yes bl bh (min al bl) (max ah bh) w (by omega) (by omega))
  obtain ⟨n4, hn4⟩ : ∃ z, min al bl = z := ⟨_, rfl⟩
  obtain ⟨d4, hd4⟩ : ∃ z, max ah bh = z := ⟨_, rfl⟩
  rw [hn4] at h4
  rw [hd4] at h5
  simp only [hn4, hd4] at C6 I2 I3
  clear hn4 hd4 h2
  have hmt : sMeet al ah bl bh = (max al bl, min ah bh, 0) := by unfold sMeet; rw [okS_yes ha hb]; unfold meetS; rw [if_neg (by omega)]
  have C7 := fun w => Lib.hid (sMeet_any al ah bl bh w (by omega) (by omega) (by omega) (by omega) (by omega) (by omega) (by omega) (by omega) (max al bl) (min ah bh) 0 hmt)
  have C8 := fun w => Lib.hid (sHull_any (max al bl) (min ah bh) al ah w (by omega) (by omega) (by omega) (by omega) (by omega) (by omega) (by omega) (by omega) al ah 0 (by unfold sHull; rw [okS_yes (sV_yes ⟨by omega, by omega, by omega⟩) ha, show min (max al bl) al = al by omega, show max (min ah bh) ah = ah by omega]))
  have I4 := fun w => Lib.hid (inside_yes (max al bl) (min ah bh) al ah w (by omega) (by omega))
  have I5 := fun w => Lib.hid (inside_yes (max al bl) (min ah bh) bl bh w (by omega) (by omega))
  obtain ⟨k1, hk1⟩ : ∃ z, max al bl = z := ⟨_, rfl⟩
  obtain ⟨k2, hk2⟩ : ∃ z, min ah bh = z := ⟨_, rfl⟩
  simp only [hk1, hk2] at C7 C8 I4 I5
  clear hk1 hk2 hmt
  have g1 : decide (ah < bl) = false := decide_eq_false m1
  have g2 : decide (bh < al) = false := decide_eq_false m2
  clear ha hb va1 va2 va3 vb1 vb2 vb3 m1 m2
  have HW := Lib.hid (Below.refl w.heap.size w)
  have AW := fun w => Lib.hid (sawake_any w)
  go_enter Try.func8, Try.ntmps8
  go_wp2_with fail
  (with_reducible refine ((AW _).out).mono ?_)
  rintro e y1 ⟨rfl, hb⟩
  have hst := Lib.hid (below_on (w := w) (by repeat' (first | (with_reducible exact Below.refl _ _) | (with_reducible assumption) | (with_reducible refine Below.alloc ?_ ?_ _) | (with_reducible refine below_drew ?_ _) | (with_reducible refine Below.drew ?_) | (with_reducible refine Below.setCell ?_ ?_ _) | go_size)) hb)
  have B0 : Hid (Blk y1 (w.heap.size) (.int .i64 al) (.int .i64 ah)) := Blk.on (W := ((w.alloc (Obj.cells #[Value.int .i64 al, Value.int .i64 ah] 23)).alloc (Obj.cells #[Value.int .i64 bl, Value.int .i64 bh] 23))) (by first | exact Blk.new _ _ _ _ | exact (Blk.new _ _ _ _).alloc _ | exact ((Blk.new _ _ _ _).alloc _).alloc _ | (have hn := Blk.new (w) (Value.int .i64 al) (Value.int .i64 ah) 23; simpa using hn)) hb
  have B1 : Hid (Blk y1 (w.heap.size + 1) (.int .i64 bl) (.int .i64 bh)) := Blk.on (W := ((w.alloc (Obj.cells #[Value.int .i64 al, Value.int .i64 ah] 23)).alloc (Obj.cells #[Value.int .i64 bl, Value.int .i64 bh] 23))) (by first | exact Blk.new _ _ _ _ | exact (Blk.new _ _ _ _).alloc _ | exact ((Blk.new _ _ _ _).alloc _).alloc _ | (have hn := Blk.new ((w.alloc (Obj.cells #[Value.int .i64 al, Value.int .i64 ah] 23))) (Value.int .i64 bl) (Value.int .i64 bh) 23; simpa using hn)) hb
  clear hb
  replace HW := Lib.hid (below_on HW.out hst.out)
  clear hst
  obtain ⟨_, B0p, B0q⟩ := B0.out
  go_wp2_with fail
  (with_reducible refine ((VA _).out).mono ?_)
  rintro e y2 ⟨rfl, hb⟩
  clear B0p B0q
  have hst := Lib.hid hb
  clear hb
  replace B0 := Lib.hid (B0.out.on hst.out)
  replace B1 := Lib.hid (B1.out.on hst.out)
  replace HW := Lib.hid (below_on HW.out hst.out)
  clear hst
  obtain ⟨_, B1p, B1q⟩ := B1.out
  go_wp2_with fail
  (with_reducible refine ((VB _).out).mono ?_)
  rintro e y3 ⟨rfl, hb⟩
  clear B1p B1q
  have hst := Lib.hid hb
  clear hb
  replace B0 := Lib.hid (B0.out.on hst.out)
  replace B1 := Lib.hid (B1.out.on hst.out)
  replace HW := Lib.hid (below_on HW.out hst.out)
  clear hst
  obtain ⟨_, B0p, B0q⟩ := B0.out
  obtain ⟨_, B1p, B1q⟩ := B1.out
  go_wp2_with fail
  (with_reducible refine ((C1 _).out).mono ?_)
  rintro e y4 ⟨rfl, hb⟩
  clear B0p B0q B1p B1q
  have hst := Lib.hid hb
  clear hb
  replace B0 := Lib.hid (B0.out.on hst.out)
  replace B1 := Lib.hid (B1.out.on hst.out)
  replace HW := Lib.hid (below_on HW.out hst.out)
  clear hst
  obtain ⟨_, B1p, B1q⟩ := B1.out
  obtain ⟨_, B0p, B0q⟩ := B0.out
  go_wp2_with fail
  (with_reducible refine ((C2 _).out).mono ?_)
  rintro e y5 ⟨rfl, hb⟩
  clear B1p B1q B0p B0q
  have hst := Lib.hid (below_on (w := y4) (by repeat' (first | (with_reducible exact Below.refl _ _) | (with_reducible assumption) | (with_reducible refine Below.alloc ?_ ?_ _) | (with_reducible refine below_drew ?_ _) | (with_reducible refine Below.drew ?_) | (with_reducible refine Below.setCell ?_ ?_ _) | go_size)) hb)
  have B2 : Hid (Blk y5 (y4.heap.size) (.int .i64 n1) (.int .i64 d1)) := Blk.on (W := (y4.alloc (Obj.cells #[Value.int .i64 n1, Value.int .i64 d1] 23))) (by first | exact Blk.new _ _ _ _ | exact (Blk.new _ _ _ _).alloc _ | exact ((Blk.new _ _ _ _).alloc _).alloc _ | (have hn := Blk.new (y4) (Value.int .i64 n1) (Value.int .i64 d1) 23; simpa using hn)) hb
  clear hb
  replace B0 := Lib.hid (B0.out.on hst.out)
  replace B1 := Lib.hid (B1.out.on hst.out)
  replace HW := Lib.hid (below_on HW.out hst.out)
  clear hst
  obtain ⟨_, B0p, B0q⟩ := B0.out
  obtain ⟨_, B1p, B1q⟩ := B1.out
  go_wp2_with fail
  (with_reducible refine ((C3 _).out).mono ?_)
  rintro e y6 ⟨rfl, hb⟩
  clear B0p B0q B1p B1q
  have hst := Lib.hid (below_on (w := y5) (by repeat' (first | (with_reducible exact Below.refl _ _) | (with_reducible assumption) | (with_reducible refine Below.alloc ?_ ?_ _) | (with_reducible refine below_drew ?_ _) | (with_reducible refine Below.drew ?_) | (with_reducible refine Below.setCell ?_ ?_ _) | go_size)) hb)
  have B3 : Hid (Blk y6 (y5.heap.size) (.int .i64 n1) (.int .i64 d1)) := Blk.on (W := (y5.alloc (Obj.cells #[Value.int .i64 n1, Value.int .i64 d1] 23))) (by first | exact Blk.new _ _ _ _ | exact (Blk.new _ _ _ _).alloc _ | exact ((Blk.new _ _ _ _).alloc _).alloc _ | (have hn := Blk.new (y5) (Value.int .i64 n1) (Value.int .i64 d1) 23; simpa using hn)) hb
  clear hb
  replace B0 := Lib.hid (B0.out.on hst.out)
  replace B1 := Lib.hid (B1.out.on hst.out)
  replace B2 := Lib.hid (B2.out.on hst.out)
  replace HW := Lib.hid (below_on HW.out hst.out)
  clear hst
  obtain ⟨_, B1p, B1q⟩ := B1.out
  obtain ⟨_, B0p, B0q⟩ := B0.out
  go_wp2_with fail
  (with_reducible refine ((C4 _).out).mono ?_)
  rintro e y7 ⟨rfl, hb⟩
  clear B1p B1q B0p B0q
  have hst := Lib.hid (below_on (w := y6) (by repeat' (first | (with_reducible exact Below.refl _ _) | (with_reducible assumption) | (with_reducible refine Below.alloc ?_ ?_ _) | (with_reducible refine below_drew ?_ _) | (with_reducible refine Below.drew ?_) | (with_reducible refine Below.setCell ?_ ?_ _) | go_size)) hb)
  have B4 : Hid (Blk y7 (y6.heap.size) (.int .i64 n2) (.int .i64 d2)) := Blk.on (W := (y6.alloc (Obj.cells #[Value.int .i64 n2, Value.int .i64 d2] 23))) (by first | exact Blk.new _ _ _ _ | exact (Blk.new _ _ _ _).alloc _ | exact ((Blk.new _ _ _ _).alloc _).alloc _ | (have hn := Blk.new (y6) (Value.int .i64 n2) (Value.int .i64 d2) 23; simpa using hn)) hb
  clear hb
  replace B0 := Lib.hid (B0.out.on hst.out)
  replace B1 := Lib.hid (B1.out.on hst.out)
  replace B2 := Lib.hid (B2.out.on hst.out)
  replace B3 := Lib.hid (B3.out.on hst.out)
  replace HW := Lib.hid (below_on HW.out hst.out)
  clear hst
  clear AW VA VB C1 C2 C3 C4
  obtain ⟨_, B2p, B2q⟩ := B2.out
  obtain ⟨_, B3p, B3q⟩ := B3.out
  obtain ⟨_, B4p, B4q⟩ := B4.out
  obtain ⟨_, B0p, B0q⟩ := B0.out
  obtain ⟨_, B1p, B1q⟩ := B1.out
  go_wp2_with fail
  (with_reducible refine ((C6 _).out).mono ?_)
  rintro e y8 ⟨rfl, hb⟩
  clear B2p B2q B3p B3q B4p B4q B0p B0q B1p B1q
  have hst := Lib.hid (below_on (w := y7) (by repeat' (first | (with_reducible exact Below.refl _ _) | (with_reducible assumption) | (with_reducible refine Below.alloc ?_ ?_ _) | (with_reducible refine below_drew ?_ _) | (with_reducible refine Below.drew ?_) | (with_reducible refine Below.setCell ?_ ?_ _) | go_size)) hb)
  have B5 : Hid (Blk y8 (y7.heap.size) (.int .i64 n2) (.int .i64 d2)) := Blk.on (W := (y7.alloc (Obj.cells #[Value.int .i64 n2, Value.int .i64 d2] 23))) (by first | exact Blk.new _ _ _ _ | exact (Blk.new _ _ _ _).alloc _ | exact ((Blk.new _ _ _ _).alloc _).alloc _ | (have hn := Blk.new (y7) (Value.int .i64 n2) (Value.int .i64 d2) 23; simpa using hn)) hb
  clear hb
  replace B0 := Lib.hid (B0.out.on hst.out)
  replace B1 := Lib.hid (B1.out.on hst.out)
  replace B2 := Lib.hid (B2.out.on hst.out)
  replace B3 := Lib.hid (B3.out.on hst.out)
  replace B4 := Lib.hid (B4.out.on hst.out)
  replace HW := Lib.hid (below_on HW.out hst.out)
  clear hst
  go_upto_region 16 with fail
  obtain ⟨y9, hy⟩ : ∃ W, W = (y8.alloc (Obj.cells #[Value.int .i64 n4, Value.int .i64 d4] 23)) := ⟨_, rfl⟩
  rw [← hy]
  have hb : Below ((y8.alloc (Obj.cells #[Value.int .i64 n4, Value.int .i64 d4] 23))).heap.size ((y8.alloc (Obj.cells #[Value.int .i64 n4, Value.int .i64 d4] 23))) y9 := by rw [hy]; exact Below.refl _ _
  clear hy
  have hst := Lib.hid (below_on (w := y8) (by repeat' (first | (with_reducible exact Below.refl _ _) | (with_reducible assumption) | (with_reducible refine Below.alloc ?_ ?_ _) | (with_reducible refine below_drew ?_ _) | (with_reducible refine Below.drew ?_) | (with_reducible refine Below.setCell ?_ ?_ _) | go_size)) hb)
  have B6 : Hid (Blk y9 (y8.heap.size) (.int .i64 n4) (.int .i64 d4)) := Blk.on (W := (y8.alloc (Obj.cells #[Value.int .i64 n4, Value.int .i64 d4] 23))) (by first | exact Blk.new _ _ _ _ | exact (Blk.new _ _ _ _).alloc _ | (have hn := Blk.new (y8) (Value.int .i64 n4) (Value.int .i64 d4) 23; simpa using hn)) hb
  clear hb
  replace B0 := Lib.hid (B0.out.on hst.out)
  replace B1 := Lib.hid (B1.out.on hst.out)
  replace B2 := Lib.hid (B2.out.on hst.out)
  replace B3 := Lib.hid (B3.out.on hst.out)
  replace B4 := Lib.hid (B4.out.on hst.out)
  replace B5 := Lib.hid (B5.out.on hst.out)
  replace HW := Lib.hid (below_on HW.out hst.out)
  clear hst
  go_cut [144] (fun s144 wx => s144 = .bool false ∧ Blk wx (w.heap.size) (.int .i64 al) (.int .i64 ah) ∧ Blk wx (w.heap.size + 1) (.int .i64 bl) (.int .i64 bh) ∧ Blk wx (y4.heap.size) (.int .i64 n1) (.int .i64 d1) ∧ Blk wx (y5.heap.size) (.int .i64 n1) (.int .i64 d1) ∧ Blk wx (y6.heap.size) (.int .i64 n2) (.int .i64 d2) ∧ Blk wx (y7.heap.size) (.int .i64 n2) (.int .i64 d2) ∧ Blk wx (y8.heap.size) (.int .i64 n4) (.int .i64 d4) ∧ Below w.heap.size w wx)
  case first =>
    rcases h4 with rfl | ⟨h4, rfl⟩ <;> rcases h5 with rfl | ⟨h5, rfl⟩
    · obtain ⟨_, B0p, B0q⟩ := B0.out
      obtain ⟨_, B6p, B6q⟩ := B6.out
      go_wp2_with fail
      (with_reducible refine ((I2 _).out).mono ?_)
      rintro e y10 ⟨rfl, hb⟩
      clear B0p B0q B6p B6q
      have hst := Lib.hid hb
      clear hb
      replace B0 := Lib.hid (B0.out.on hst.out)
      replace B1 := Lib.hid (B1.out.on hst.out)
      replace B2 := Lib.hid (B2.out.on hst.out)
      replace B3 := Lib.hid (B3.out.on hst.out)
      replace B4 := Lib.hid (B4.out.on hst.out)
      replace B5 := Lib.hid (B5.out.on hst.out)
      replace B6 := Lib.hid (B6.out.on hst.out)
      replace HW := Lib.hid (below_on HW.out hst.out)
      clear hst
      obtain ⟨_, B1p, B1q⟩ := B1.out
      obtain ⟨_, B6p, B6q⟩ := B6.out
      go_wp2_with fail
      (with_reducible refine ((I3 _).out).mono ?_)
      rintro e y11 ⟨rfl, hb⟩
      clear B1p B1q B6p B6q
      have hst := Lib.hid hb
      clear hb
      replace B0 := Lib.hid (B0.out.on hst.out)
      replace B1 := Lib.hid (B1.out.on hst.out)
      replace B2 := Lib.hid (B2.out.on hst.out)
      replace B3 := Lib.hid (B3.out.on hst.out)
      replace B4 := Lib.hid (B4.out.on hst.out)
      replace B5 := Lib.hid (B5.out.on hst.out)
      replace B6 := Lib.hid (B6.out.on hst.out)
      replace HW := Lib.hid (below_on HW.out hst.out)
      clear hst
      obtain ⟨_, B6p, B6q⟩ := B6.out
      obtain ⟨_, B0p, B0q⟩ := B0.out
      go_wp2_with fail
      clear B6p B6q B0p B0q
      go_meet
      exact ⟨rfl, B0.out, B1.out, B2.out, B3.out, B4.out, B5.out, B6.out, HW.out⟩
    · obtain ⟨_, B0p, B0q⟩ := B0.out
      obtain ⟨_, B6p, B6q⟩ := B6.out
      go_wp2_with fail
      (with_reducible refine ((I2 _).out).mono ?_)
      rintro e y12 ⟨rfl, hb⟩
      clear B0p B0q B6p B6q
      have hst := Lib.hid hb
      clear hb
      replace B0 := Lib.hid (B0.out.on hst.out)
      replace B1 := Lib.hid (B1.out.on hst.out)
      replace B2 := Lib.hid (B2.out.on hst.out)
      replace B3 := Lib.hid (B3.out.on hst.out)
      replace B4 := Lib.hid (B4.out.on hst.out)
      replace B5 := Lib.hid (B5.out.on hst.out)
      replace B6 := Lib.hid (B6.out.on hst.out)
      replace HW := Lib.hid (below_on HW.out hst.out)
      clear hst
      obtain ⟨_, B1p, B1q⟩ := B1.out
      obtain ⟨_, B6p, B6q⟩ := B6.out
      go_wp2_with fail
      (with_reducible refine ((I3 _).out).mono ?_)
      rintro e y13 ⟨rfl, hb⟩
      clear B1p B1q B6p B6q
      have hst := Lib.hid hb
      clear hb
      replace B0 := Lib.hid (B0.out.on hst.out)
      replace B1 := Lib.hid (B1.out.on hst.out)
      replace B2 := Lib.hid (B2.out.on hst.out)
      replace B3 := Lib.hid (B3.out.on hst.out)
      replace B4 := Lib.hid (B4.out.on hst.out)
      replace B5 := Lib.hid (B5.out.on hst.out)
      replace B6 := Lib.hid (B6.out.on hst.out)
      replace HW := Lib.hid (below_on HW.out hst.out)
      clear hst
      obtain ⟨_, B6p, B6q⟩ := B6.out
      obtain ⟨_, B0p, B0q⟩ := B0.out
      obtain ⟨_, B1p, B1q⟩ := B1.out
      go_wp2_with fail
      clear B6p B6q B0p B0q B1p B1q
      go_meet
      exact ⟨rfl, B0.out, B1.out, B2.out, B3.out, B4.out, B5.out, B6.out, HW.out⟩
    · obtain ⟨_, B0p, B0q⟩ := B0.out
      obtain ⟨_, B6p, B6q⟩ := B6.out
      go_wp2_with fail
      (with_reducible refine ((I2 _).out).mono ?_)
      rintro e y14 ⟨rfl, hb⟩
      clear B0p B0q B6p B6q
      have hst := Lib.hid hb
      clear hb
      replace B0 := Lib.hid (B0.out.on hst.out)
      replace B1 := Lib.hid (B1.out.on hst.out)
      replace B2 := Lib.hid (B2.out.on hst.out)
      replace B3 := Lib.hid (B3.out.on hst.out)
      replace B4 := Lib.hid (B4.out.on hst.out)
      replace B5 := Lib.hid (B5.out.on hst.out)
      replace B6 := Lib.hid (B6.out.on hst.out)
      replace HW := Lib.hid (below_on HW.out hst.out)
      clear hst
      obtain ⟨_, B1p, B1q⟩ := B1.out
      obtain ⟨_, B6p, B6q⟩ := B6.out
      go_wp2_with fail
      (with_reducible refine ((I3 _).out).mono ?_)
      rintro e y15 ⟨rfl, hb⟩
      clear B1p B1q B6p B6q
      have hst := Lib.hid hb
      clear hb
      replace B0 := Lib.hid (B0.out.on hst.out)
      replace B1 := Lib.hid (B1.out.on hst.out)
      replace B2 := Lib.hid (B2.out.on hst.out)
      replace B3 := Lib.hid (B3.out.on hst.out)
      replace B4 := Lib.hid (B4.out.on hst.out)
      replace B5 := Lib.hid (B5.out.on hst.out)
      replace B6 := Lib.hid (B6.out.on hst.out)
      replace HW := Lib.hid (below_on HW.out hst.out)
      clear hst
      obtain ⟨_, B6p, B6q⟩ := B6.out
      obtain ⟨_, B0p, B0q⟩ := B0.out
      obtain ⟨_, B1p, B1q⟩ := B1.out
      go_wp2_with fail
      clear B6p B6q B0p B0q B1p B1q
      go_meet
      exact ⟨rfl, B0.out, B1.out, B2.out, B3.out, B4.out, B5.out, B6.out, HW.out⟩
    · obtain ⟨_, B0p, B0q⟩ := B0.out
      obtain ⟨_, B6p, B6q⟩ := B6.out
      go_wp2_with fail
      (with_reducible refine ((I2 _).out).mono ?_)
      rintro e y16 ⟨rfl, hb⟩
      clear B0p B0q B6p B6q
      have hst := Lib.hid hb
      clear hb
      replace B0 := Lib.hid (B0.out.on hst.out)
      replace B1 := Lib.hid (B1.out.on hst.out)
      replace B2 := Lib.hid (B2.out.on hst.out)
      replace B3 := Lib.hid (B3.out.on hst.out)
      replace B4 := Lib.hid (B4.out.on hst.out)
      replace B5 := Lib.hid (B5.out.on hst.out)
      replace B6 := Lib.hid (B6.out.on hst.out)
      replace HW := Lib.hid (below_on HW.out hst.out)
      clear hst
      obtain ⟨_, B1p, B1q⟩ := B1.out
      obtain ⟨_, B6p, B6q⟩ := B6.out
      go_wp2_with fail
      (with_reducible refine ((I3 _).out).mono ?_)
      rintro e y17 ⟨rfl, hb⟩
      clear B1p B1q B6p B6q
      have hst := Lib.hid hb
      clear hb
      replace B0 := Lib.hid (B0.out.on hst.out)
      replace B1 := Lib.hid (B1.out.on hst.out)
      replace B2 := Lib.hid (B2.out.on hst.out)
      replace B3 := Lib.hid (B3.out.on hst.out)
      replace B4 := Lib.hid (B4.out.on hst.out)
      replace B5 := Lib.hid (B5.out.on hst.out)
      replace B6 := Lib.hid (B6.out.on hst.out)
      replace HW := Lib.hid (below_on HW.out hst.out)
      clear hst
      obtain ⟨_, B6p, B6q⟩ := B6.out
      obtain ⟨_, B0p, B0q⟩ := B0.out
      obtain ⟨_, B1p, B1q⟩ := B1.out
      go_wp2_with fail
      clear B6p B6q B0p B0q B1p B1q
      go_meet
      exact ⟨rfl, B0.out, B1.out, B2.out, B3.out, B4.out, B5.out, B6.out, HW.out⟩
  case rest =>
  clear B0 B1 B2 B3 B4 B5 B6 HW
  rename World => c1b
  obtain ⟨rfl, kB0, kB1, kB2, kB3, kB4, kB5, kB6, hb⟩ := hcut
  have B0 := Lib.hid kB0
  have B1 := Lib.hid kB1
  have B2 := Lib.hid kB2
  have B3 := Lib.hid kB3
  have B4 := Lib.hid kB4
  have B5 := Lib.hid kB5
  have B6 := Lib.hid kB6
  have HW := Lib.hid hb
  clear hb kB0 kB1 kB2 kB3 kB4 kB5 kB6
  clear h4 h5 C6 I2 I3
  obtain ⟨_, B0p, B0q⟩ := B0.out
  obtain ⟨_, B1p, B1q⟩ := B1.out
  go_wp2_with fail
  (with_reducible refine ((C7 _).out).mono ?_)
  rintro e y18 ⟨rfl, hb⟩
  clear B0p B0q B1p B1q
  have hst := Lib.hid hb
  clear hb
  replace B0 := Lib.hid (B0.out.on hst.out)
  replace B1 := Lib.hid (B1.out.on hst.out)
  replace B2 := Lib.hid (B2.out.on hst.out)
  replace B3 := Lib.hid (B3.out.on hst.out)
  replace B4 := Lib.hid (B4.out.on hst.out)
  replace B5 := Lib.hid (B5.out.on hst.out)
  replace B6 := Lib.hid (B6.out.on hst.out)
  replace HW := Lib.hid (below_on HW.out hst.out)
  clear hst
  obtain ⟨_, B0p, B0q⟩ := B0.out
  obtain ⟨_, B1p, B1q⟩ := B1.out
  go_wp2_with fail
  (with_reducible refine ((C8 _).out).mono ?_)
  rintro e y19 ⟨rfl, hb⟩
  clear B0p B0q B1p B1q
  have hst := Lib.hid (below_on (w := y18) (by repeat' (first | (with_reducible exact Below.refl _ _) | (with_reducible assumption) | (with_reducible refine Below.alloc ?_ ?_ _) | (with_reducible refine below_drew ?_ _) | (with_reducible refine Below.drew ?_) | (with_reducible refine Below.setCell ?_ ?_ _) | go_size)) hb)
  have B7 : Hid (Blk y19 (y18.heap.size) (.int .i64 k1) (.int .i64 k2)) := Blk.on (W := (y18.alloc (Obj.cells #[Value.int .i64 k1, Value.int .i64 k2] 23))) (by first | exact Blk.new _ _ _ _ | exact (Blk.new _ _ _ _).alloc _ | exact ((Blk.new _ _ _ _).alloc _).alloc _ | (have hn := Blk.new (y18) (Value.int .i64 k1) (Value.int .i64 k2) 23; simpa using hn)) hb
  clear hb
  replace B0 := Lib.hid (B0.out.on hst.out)
  replace B1 := Lib.hid (B1.out.on hst.out)
  replace B2 := Lib.hid (B2.out.on hst.out)
  replace B3 := Lib.hid (B3.out.on hst.out)
  replace B4 := Lib.hid (B4.out.on hst.out)
  replace B5 := Lib.hid (B5.out.on hst.out)
  replace B6 := Lib.hid (B6.out.on hst.out)
  replace HW := Lib.hid (below_on HW.out hst.out)
  clear hst
  obtain ⟨_, B7p, B7q⟩ := B7.out
  obtain ⟨_, B0p, B0q⟩ := B0.out
  go_wp2_with fail
  (with_reducible refine ((I4 _).out).mono ?_)
  rintro e y20 ⟨rfl, hb⟩
  clear B7p B7q B0p B0q
  have hst := Lib.hid (below_on (w := y19) (by repeat' (first | (with_reducible exact Below.refl _ _) | (with_reducible assumption) | (with_reducible refine Below.alloc ?_ ?_ _) | (with_reducible refine below_drew ?_ _) | (with_reducible refine Below.drew ?_) | (with_reducible refine Below.setCell ?_ ?_ _) | go_size)) hb)
  have B8 : Hid (Blk y20 (y19.heap.size) (.int .i64 al) (.int .i64 ah)) := Blk.on (W := (y19.alloc (Obj.cells #[Value.int .i64 al, Value.int .i64 ah] 23))) (by first | exact Blk.new _ _ _ _ | exact (Blk.new _ _ _ _).alloc _ | exact ((Blk.new _ _ _ _).alloc _).alloc _ | (have hn := Blk.new (y19) (Value.int .i64 al) (Value.int .i64 ah) 23; simpa using hn)) hb
  clear hb
  replace B0 := Lib.hid (B0.out.on hst.out)
  replace B1 := Lib.hid (B1.out.on hst.out)
  replace B2 := Lib.hid (B2.out.on hst.out)
  replace B3 := Lib.hid (B3.out.on hst.out)
  replace B4 := Lib.hid (B4.out.on hst.out)
  replace B5 := Lib.hid (B5.out.on hst.out)
  replace B6 := Lib.hid (B6.out.on hst.out)
  replace B7 := Lib.hid (B7.out.on hst.out)
  replace HW := Lib.hid (below_on HW.out hst.out)
  clear hst
  obtain ⟨_, B7p, B7q⟩ := B7.out
  obtain ⟨_, B1p, B1q⟩ := B1.out
  go_wp2_with fail
  (with_reducible refine ((I5 _).out).mono ?_)
  rintro e y21 ⟨rfl, hb⟩
  clear B7p B7q B1p B1q
  have hst := Lib.hid hb
  clear hb
  replace B0 := Lib.hid (B0.out.on hst.out)
  replace B1 := Lib.hid (B1.out.on hst.out)
  replace B2 := Lib.hid (B2.out.on hst.out)
  replace B3 := Lib.hid (B3.out.on hst.out)
  replace B4 := Lib.hid (B4.out.on hst.out)
  replace B5 := Lib.hid (B5.out.on hst.out)
  replace B6 := Lib.hid (B6.out.on hst.out)
  replace B7 := Lib.hid (B7.out.on hst.out)
  replace B8 := Lib.hid (B8.out.on hst.out)
  replace HW := Lib.hid (below_on HW.out hst.out)
  clear hst
  obtain ⟨_, B0p, B0q⟩ := B0.out
  obtain ⟨_, B1p, B1q⟩ := B1.out
  obtain ⟨_, B2p, B2q⟩ := B2.out
  obtain ⟨_, B3p, B3q⟩ := B3.out
  obtain ⟨_, B4p, B4q⟩ := B4.out
  obtain ⟨_, B5p, B5q⟩ := B5.out
  obtain ⟨_, B6p, B6q⟩ := B6.out
  obtain ⟨_, B7p, B7q⟩ := B7.out
  obtain ⟨_, B8p, B8q⟩ := B8.out
  go_wp2_with fail
  go_ret
  exact ⟨rfl, by have hB := HW.out; exact (by repeat' (first | (with_reducible exact Below.refl _ _) | (with_reducible assumption) | (with_reducible refine Below.alloc ?_ ?_ _) | (with_reducible refine below_drew ?_ _) | (with_reducible refine Below.drew ?_) | (with_reducible refine Below.setCell ?_ ?_ _) | go_size))⟩

set_option maxRecDepth 100000 in
set_option maxHeartbeats 16000000 in
theorem rules_ND1 (al ah bl bh : Int) (w : World) (va : SVd al ah) (vb : SVd bl bh) (hf : sV (al + bl) (ah + bh) = false) (m1 : ah < bl) :
    Calls Try.prog 8 #[.agg #[.int .i64 al, .int .i64 ah], .agg #[.int .i64 bl, .int .i64 bh]] w fun e w' => e = .returned (.bool true) ∧ Below w.heap.size w w' := by
  have ha := sV_yes va
  have hb := sV_yes vb
  have VA := fun w => Lib.hid (rsValid_any al ah w)
  have VB := fun w => Lib.hid (rsValid_any bl bh w)
  simp only [ha] at VA
  simp only [hb] at VB
  obtain ⟨va1, va2, va3⟩ := va
  obtain ⟨vb1, vb2, vb3⟩ := vb
  have h1 : sAdd al ah bl bh = (0, 0, 5) := by unfold sAdd; rw [okS_yes ha hb]; unfold fitS; rw [if_neg (by simp [hf])]
  obtain ⟨n1, hn1⟩ : ∃ z : Int, 0 = z := ⟨_, rfl⟩
  obtain ⟨d1, hd1⟩ : ∃ z : Int, 0 = z := ⟨_, rfl⟩
  have C1 := fun w => Lib.hid (sAdd_any al ah bl bh w (by omega) (by omega) (by omega) (by omega) (by omega) (by omega) (by omega) (by omega) n1 d1 5 (by rw [← hn1, ← hd1]; exact h1))
  have C2 := fun w => Lib.hid (sAdd_any bl bh al ah w (by omega) (by omega) (by omega) (by omega) (by omega) (by omega) (by omega) (by omega) n1 d1 5 (by rw [← hn1, ← hd1, ← sAdd_comm]; exact h1))
  clear hn1 hd1 h1 hf
  obtain ⟨n2, d2, e2, h2⟩ : ∃ a b c, sMul al ah bl bh = (a, b, c) := ⟨_, _, _, rfl⟩
  have C3 := fun w => Lib.hid (sMul_any al ah bl bh w (by omega) (by omega) (by omega) (by omega) (by omega) (by omega) (by omega) (by omega) n2 d2 e2 h2)
  have C4 := fun w => Lib.hid (sMul_any bl bh al ah w (by omega) (by omega) (by omega) (by omega) (by omega) (by omega) (by omega) (by omega) n2 d2 e2 (by rw [← sMul_comm]; exact h2))
  have h4 : al = min al bl ∨ ((bl != al) = true ∧ bl = min al bl) := by
    by_cases c : al ≤ bl
    · exact .inl (by omega)
    · exact .inr ⟨by simp; omega, by omega⟩
  have h5 : ah = max ah bh ∨ ((bh != ah) = true ∧ bh = max ah bh) := by
    by_cases c : bh ≤ ah
    · exact .inl (by omega)
    · exact .inr ⟨by simp; omega, by omega⟩
  have C6 := fun w => Lib.hid (sHull_any al ah bl bh w (by omega) (by omega) (by omega) (by omega) (by omega) (by omega) (by omega) (by omega) (min al bl) (max ah bh) 0 (by unfold sHull; rw [okS_yes ha hb]))
  have I2 := fun w => Lib.hid (inside_yes al ah (min al bl) (max ah bh) w (by omega) (by omega))
  have I3 := fun w => Lib.hid (inside_yes bl bh (min al bl) (max ah bh) w (by omega) (by omega))
  obtain ⟨n4, hn4⟩ : ∃ z, min al bl = z := ⟨_, rfl⟩
  obtain ⟨d4, hd4⟩ : ∃ z, max ah bh = z := ⟨_, rfl⟩
  rw [hn4] at h4
  rw [hd4] at h5
  simp only [hn4, hd4] at C6 I2 I3
  clear hn4 hd4 h2
  have C7 := fun w => Lib.hid (sMeet_any al ah bl bh w (by omega) (by omega) (by omega) (by omega) (by omega) (by omega) (by omega) (by omega) 0 0 12 (by unfold sMeet; rw [okS_yes ha hb]; unfold meetS; rw [if_pos (by omega)]))
  have g1 : decide (ah < bl) = true := decide_eq_true m1
  clear ha hb va1 va2 va3 vb1 vb2 vb3 m1
  have HW := Lib.hid (Below.refl w.heap.size w)
  have AW := fun w => Lib.hid (sawake_any w)
  go_enter Try.func8, Try.ntmps8
  go_wp2_with fail
  (with_reducible refine ((AW _).out).mono ?_)
  rintro e y1 ⟨rfl, hb⟩
  have hst := Lib.hid (below_on (w := w) (by repeat' (first | (with_reducible exact Below.refl _ _) | (with_reducible assumption) | (with_reducible refine Below.alloc ?_ ?_ _) | (with_reducible refine below_drew ?_ _) | (with_reducible refine Below.drew ?_) | (with_reducible refine Below.setCell ?_ ?_ _) | go_size)) hb)
  have B0 : Hid (Blk y1 (w.heap.size) (.int .i64 al) (.int .i64 ah)) := Blk.on (W := ((w.alloc (Obj.cells #[Value.int .i64 al, Value.int .i64 ah] 23)).alloc (Obj.cells #[Value.int .i64 bl, Value.int .i64 bh] 23))) (by first | exact Blk.new _ _ _ _ | exact (Blk.new _ _ _ _).alloc _ | exact ((Blk.new _ _ _ _).alloc _).alloc _ | (have hn := Blk.new (w) (Value.int .i64 al) (Value.int .i64 ah) 23; simpa using hn)) hb
  have B1 : Hid (Blk y1 (w.heap.size + 1) (.int .i64 bl) (.int .i64 bh)) := Blk.on (W := ((w.alloc (Obj.cells #[Value.int .i64 al, Value.int .i64 ah] 23)).alloc (Obj.cells #[Value.int .i64 bl, Value.int .i64 bh] 23))) (by first | exact Blk.new _ _ _ _ | exact (Blk.new _ _ _ _).alloc _ | exact ((Blk.new _ _ _ _).alloc _).alloc _ | (have hn := Blk.new ((w.alloc (Obj.cells #[Value.int .i64 al, Value.int .i64 ah] 23))) (Value.int .i64 bl) (Value.int .i64 bh) 23; simpa using hn)) hb
  clear hb
  replace HW := Lib.hid (below_on HW.out hst.out)
  clear hst
  obtain ⟨_, B0p, B0q⟩ := B0.out
  go_wp2_with fail
  (with_reducible refine ((VA _).out).mono ?_)
  rintro e y2 ⟨rfl, hb⟩
  clear B0p B0q
  have hst := Lib.hid hb
  clear hb
  replace B0 := Lib.hid (B0.out.on hst.out)
  replace B1 := Lib.hid (B1.out.on hst.out)
  replace HW := Lib.hid (below_on HW.out hst.out)
  clear hst
  obtain ⟨_, B1p, B1q⟩ := B1.out
  go_wp2_with fail
  (with_reducible refine ((VB _).out).mono ?_)
  rintro e y3 ⟨rfl, hb⟩
  clear B1p B1q
  have hst := Lib.hid hb
  clear hb
  replace B0 := Lib.hid (B0.out.on hst.out)
  replace B1 := Lib.hid (B1.out.on hst.out)
  replace HW := Lib.hid (below_on HW.out hst.out)
  clear hst
  obtain ⟨_, B0p, B0q⟩ := B0.out
  obtain ⟨_, B1p, B1q⟩ := B1.out
  go_wp2_with fail
  (with_reducible refine ((C1 _).out).mono ?_)
  rintro e y4 ⟨rfl, hb⟩
  clear B0p B0q B1p B1q
  have hst := Lib.hid hb
  clear hb
  replace B0 := Lib.hid (B0.out.on hst.out)
  replace B1 := Lib.hid (B1.out.on hst.out)
  replace HW := Lib.hid (below_on HW.out hst.out)
  clear hst
  obtain ⟨_, B1p, B1q⟩ := B1.out
  obtain ⟨_, B0p, B0q⟩ := B0.out
  go_wp2_with fail
  (with_reducible refine ((C2 _).out).mono ?_)
  rintro e y5 ⟨rfl, hb⟩
  clear B1p B1q B0p B0q
  have hst := Lib.hid (below_on (w := y4) (by repeat' (first | (with_reducible exact Below.refl _ _) | (with_reducible assumption) | (with_reducible refine Below.alloc ?_ ?_ _) | (with_reducible refine below_drew ?_ _) | (with_reducible refine Below.drew ?_) | (with_reducible refine Below.setCell ?_ ?_ _) | go_size)) hb)
  have B2 : Hid (Blk y5 (y4.heap.size) (.int .i64 n1) (.int .i64 d1)) := Blk.on (W := (y4.alloc (Obj.cells #[Value.int .i64 n1, Value.int .i64 d1] 23))) (by first | exact Blk.new _ _ _ _ | exact (Blk.new _ _ _ _).alloc _ | exact ((Blk.new _ _ _ _).alloc _).alloc _ | (have hn := Blk.new (y4) (Value.int .i64 n1) (Value.int .i64 d1) 23; simpa using hn)) hb
  clear hb
  replace B0 := Lib.hid (B0.out.on hst.out)
  replace B1 := Lib.hid (B1.out.on hst.out)
  replace HW := Lib.hid (below_on HW.out hst.out)
  clear hst
  obtain ⟨_, B0p, B0q⟩ := B0.out
  obtain ⟨_, B1p, B1q⟩ := B1.out
  go_wp2_with fail
  (with_reducible refine ((C3 _).out).mono ?_)
  rintro e y6 ⟨rfl, hb⟩
  clear B0p B0q B1p B1q
  have hst := Lib.hid (below_on (w := y5) (by repeat' (first | (with_reducible exact Below.refl _ _) | (with_reducible assumption) | (with_reducible refine Below.alloc ?_ ?_ _) | (with_reducible refine below_drew ?_ _) | (with_reducible refine Below.drew ?_) | (with_reducible refine Below.setCell ?_ ?_ _) | go_size)) hb)
  have B3 : Hid (Blk y6 (y5.heap.size) (.int .i64 n1) (.int .i64 d1)) := Blk.on (W := (y5.alloc (Obj.cells #[Value.int .i64 n1, Value.int .i64 d1] 23))) (by first | exact Blk.new _ _ _ _ | exact (Blk.new _ _ _ _).alloc _ | exact ((Blk.new _ _ _ _).alloc _).alloc _ | (have hn := Blk.new (y5) (Value.int .i64 n1) (Value.int .i64 d1) 23; simpa using hn)) hb
  clear hb
  replace B0 := Lib.hid (B0.out.on hst.out)
  replace B1 := Lib.hid (B1.out.on hst.out)
  replace B2 := Lib.hid (B2.out.on hst.out)
  replace HW := Lib.hid (below_on HW.out hst.out)
  clear hst
  obtain ⟨_, B1p, B1q⟩ := B1.out
  obtain ⟨_, B0p, B0q⟩ := B0.out
  go_wp2_with fail
  (with_reducible refine ((C4 _).out).mono ?_)
  rintro e y7 ⟨rfl, hb⟩
  clear B1p B1q B0p B0q
  have hst := Lib.hid (below_on (w := y6) (by repeat' (first | (with_reducible exact Below.refl _ _) | (with_reducible assumption) | (with_reducible refine Below.alloc ?_ ?_ _) | (with_reducible refine below_drew ?_ _) | (with_reducible refine Below.drew ?_) | (with_reducible refine Below.setCell ?_ ?_ _) | go_size)) hb)
  have B4 : Hid (Blk y7 (y6.heap.size) (.int .i64 n2) (.int .i64 d2)) := Blk.on (W := (y6.alloc (Obj.cells #[Value.int .i64 n2, Value.int .i64 d2] 23))) (by first | exact Blk.new _ _ _ _ | exact (Blk.new _ _ _ _).alloc _ | exact ((Blk.new _ _ _ _).alloc _).alloc _ | (have hn := Blk.new (y6) (Value.int .i64 n2) (Value.int .i64 d2) 23; simpa using hn)) hb
  clear hb
  replace B0 := Lib.hid (B0.out.on hst.out)
  replace B1 := Lib.hid (B1.out.on hst.out)
  replace B2 := Lib.hid (B2.out.on hst.out)
  replace B3 := Lib.hid (B3.out.on hst.out)
  replace HW := Lib.hid (below_on HW.out hst.out)
  clear hst
  clear AW VA VB C1 C2 C3 C4
  obtain ⟨_, B2p, B2q⟩ := B2.out
  obtain ⟨_, B3p, B3q⟩ := B3.out
  obtain ⟨_, B4p, B4q⟩ := B4.out
  obtain ⟨_, B0p, B0q⟩ := B0.out
  obtain ⟨_, B1p, B1q⟩ := B1.out
  go_wp2_with fail
  (with_reducible refine ((C6 _).out).mono ?_)
  rintro e y8 ⟨rfl, hb⟩
  clear B2p B2q B3p B3q B4p B4q B0p B0q B1p B1q
  have hst := Lib.hid (below_on (w := y7) (by repeat' (first | (with_reducible exact Below.refl _ _) | (with_reducible assumption) | (with_reducible refine Below.alloc ?_ ?_ _) | (with_reducible refine below_drew ?_ _) | (with_reducible refine Below.drew ?_) | (with_reducible refine Below.setCell ?_ ?_ _) | go_size)) hb)
  have B5 : Hid (Blk y8 (y7.heap.size) (.int .i64 n2) (.int .i64 d2)) := Blk.on (W := (y7.alloc (Obj.cells #[Value.int .i64 n2, Value.int .i64 d2] 23))) (by first | exact Blk.new _ _ _ _ | exact (Blk.new _ _ _ _).alloc _ | exact ((Blk.new _ _ _ _).alloc _).alloc _ | (have hn := Blk.new (y7) (Value.int .i64 n2) (Value.int .i64 d2) 23; simpa using hn)) hb
  clear hb
  replace B0 := Lib.hid (B0.out.on hst.out)
  replace B1 := Lib.hid (B1.out.on hst.out)
  replace B2 := Lib.hid (B2.out.on hst.out)
  replace B3 := Lib.hid (B3.out.on hst.out)
  replace B4 := Lib.hid (B4.out.on hst.out)
  replace HW := Lib.hid (below_on HW.out hst.out)
  clear hst
  go_upto_region 16 with fail
  obtain ⟨y9, hy⟩ : ∃ W, W = (y8.alloc (Obj.cells #[Value.int .i64 n4, Value.int .i64 d4] 23)) := ⟨_, rfl⟩
  rw [← hy]
  have hb : Below ((y8.alloc (Obj.cells #[Value.int .i64 n4, Value.int .i64 d4] 23))).heap.size ((y8.alloc (Obj.cells #[Value.int .i64 n4, Value.int .i64 d4] 23))) y9 := by rw [hy]; exact Below.refl _ _
  clear hy
  have hst := Lib.hid (below_on (w := y8) (by repeat' (first | (with_reducible exact Below.refl _ _) | (with_reducible assumption) | (with_reducible refine Below.alloc ?_ ?_ _) | (with_reducible refine below_drew ?_ _) | (with_reducible refine Below.drew ?_) | (with_reducible refine Below.setCell ?_ ?_ _) | go_size)) hb)
  have B6 : Hid (Blk y9 (y8.heap.size) (.int .i64 n4) (.int .i64 d4)) := Blk.on (W := (y8.alloc (Obj.cells #[Value.int .i64 n4, Value.int .i64 d4] 23))) (by first | exact Blk.new _ _ _ _ | exact (Blk.new _ _ _ _).alloc _ | (have hn := Blk.new (y8) (Value.int .i64 n4) (Value.int .i64 d4) 23; simpa using hn)) hb
  clear hb
  replace B0 := Lib.hid (B0.out.on hst.out)
  replace B1 := Lib.hid (B1.out.on hst.out)
  replace B2 := Lib.hid (B2.out.on hst.out)
  replace B3 := Lib.hid (B3.out.on hst.out)
  replace B4 := Lib.hid (B4.out.on hst.out)
  replace B5 := Lib.hid (B5.out.on hst.out)
  replace HW := Lib.hid (below_on HW.out hst.out)
  clear hst
  go_cut [144] (fun s144 wx => s144 = .bool false ∧ Blk wx (w.heap.size) (.int .i64 al) (.int .i64 ah) ∧ Blk wx (w.heap.size + 1) (.int .i64 bl) (.int .i64 bh) ∧ Blk wx (y4.heap.size) (.int .i64 n1) (.int .i64 d1) ∧ Blk wx (y5.heap.size) (.int .i64 n1) (.int .i64 d1) ∧ Blk wx (y6.heap.size) (.int .i64 n2) (.int .i64 d2) ∧ Blk wx (y7.heap.size) (.int .i64 n2) (.int .i64 d2) ∧ Blk wx (y8.heap.size) (.int .i64 n4) (.int .i64 d4) ∧ Below w.heap.size w wx)
  case first =>
    rcases h4 with rfl | ⟨h4, rfl⟩ <;> rcases h5 with rfl | ⟨h5, rfl⟩
    · obtain ⟨_, B0p, B0q⟩ := B0.out
      obtain ⟨_, B6p, B6q⟩ := B6.out
      go_wp2_with fail
      (with_reducible refine ((I2 _).out).mono ?_)
      rintro e y10 ⟨rfl, hb⟩
      clear B0p B0q B6p B6q
      have hst := Lib.hid hb
      clear hb
      replace B0 := Lib.hid (B0.out.on hst.out)
      replace B1 := Lib.hid (B1.out.on hst.out)
      replace B2 := Lib.hid (B2.out.on hst.out)
      replace B3 := Lib.hid (B3.out.on hst.out)
      replace B4 := Lib.hid (B4.out.on hst.out)
      replace B5 := Lib.hid (B5.out.on hst.out)
      replace B6 := Lib.hid (B6.out.on hst.out)
      replace HW := Lib.hid (below_on HW.out hst.out)
      clear hst
      obtain ⟨_, B1p, B1q⟩ := B1.out
      obtain ⟨_, B6p, B6q⟩ := B6.out
      go_wp2_with fail
      (with_reducible refine ((I3 _).out).mono ?_)
      rintro e y11 ⟨rfl, hb⟩
      clear B1p B1q B6p B6q
      have hst := Lib.hid hb
      clear hb
      replace B0 := Lib.hid (B0.out.on hst.out)
      replace B1 := Lib.hid (B1.out.on hst.out)
      replace B2 := Lib.hid (B2.out.on hst.out)
      replace B3 := Lib.hid (B3.out.on hst.out)
      replace B4 := Lib.hid (B4.out.on hst.out)
      replace B5 := Lib.hid (B5.out.on hst.out)
      replace B6 := Lib.hid (B6.out.on hst.out)
      replace HW := Lib.hid (below_on HW.out hst.out)
      clear hst
      obtain ⟨_, B6p, B6q⟩ := B6.out
      obtain ⟨_, B0p, B0q⟩ := B0.out
      go_wp2_with fail
      clear B6p B6q B0p B0q
      go_meet
      exact ⟨rfl, B0.out, B1.out, B2.out, B3.out, B4.out, B5.out, B6.out, HW.out⟩
    · obtain ⟨_, B0p, B0q⟩ := B0.out
      obtain ⟨_, B6p, B6q⟩ := B6.out
      go_wp2_with fail
      (with_reducible refine ((I2 _).out).mono ?_)
      rintro e y12 ⟨rfl, hb⟩
      clear B0p B0q B6p B6q
      have hst := Lib.hid hb
      clear hb
      replace B0 := Lib.hid (B0.out.on hst.out)
      replace B1 := Lib.hid (B1.out.on hst.out)
      replace B2 := Lib.hid (B2.out.on hst.out)
      replace B3 := Lib.hid (B3.out.on hst.out)
      replace B4 := Lib.hid (B4.out.on hst.out)
      replace B5 := Lib.hid (B5.out.on hst.out)
      replace B6 := Lib.hid (B6.out.on hst.out)
      replace HW := Lib.hid (below_on HW.out hst.out)
      clear hst
      obtain ⟨_, B1p, B1q⟩ := B1.out
      obtain ⟨_, B6p, B6q⟩ := B6.out
      go_wp2_with fail
      (with_reducible refine ((I3 _).out).mono ?_)
      rintro e y13 ⟨rfl, hb⟩
      clear B1p B1q B6p B6q
      have hst := Lib.hid hb
      clear hb
      replace B0 := Lib.hid (B0.out.on hst.out)
      replace B1 := Lib.hid (B1.out.on hst.out)
      replace B2 := Lib.hid (B2.out.on hst.out)
      replace B3 := Lib.hid (B3.out.on hst.out)
      replace B4 := Lib.hid (B4.out.on hst.out)
      replace B5 := Lib.hid (B5.out.on hst.out)
      replace B6 := Lib.hid (B6.out.on hst.out)
      replace HW := Lib.hid (below_on HW.out hst.out)
      clear hst
      obtain ⟨_, B6p, B6q⟩ := B6.out
      obtain ⟨_, B0p, B0q⟩ := B0.out
      obtain ⟨_, B1p, B1q⟩ := B1.out
      go_wp2_with fail
      clear B6p B6q B0p B0q B1p B1q
      go_meet
      exact ⟨rfl, B0.out, B1.out, B2.out, B3.out, B4.out, B5.out, B6.out, HW.out⟩
    · obtain ⟨_, B0p, B0q⟩ := B0.out
      obtain ⟨_, B6p, B6q⟩ := B6.out
      go_wp2_with fail
      (with_reducible refine ((I2 _).out).mono ?_)
      rintro e y14 ⟨rfl, hb⟩
      clear B0p B0q B6p B6q
      have hst := Lib.hid hb
      clear hb
      replace B0 := Lib.hid (B0.out.on hst.out)
      replace B1 := Lib.hid (B1.out.on hst.out)
      replace B2 := Lib.hid (B2.out.on hst.out)
      replace B3 := Lib.hid (B3.out.on hst.out)
      replace B4 := Lib.hid (B4.out.on hst.out)
      replace B5 := Lib.hid (B5.out.on hst.out)
      replace B6 := Lib.hid (B6.out.on hst.out)
      replace HW := Lib.hid (below_on HW.out hst.out)
      clear hst
      obtain ⟨_, B1p, B1q⟩ := B1.out
      obtain ⟨_, B6p, B6q⟩ := B6.out
      go_wp2_with fail
      (with_reducible refine ((I3 _).out).mono ?_)
      rintro e y15 ⟨rfl, hb⟩
      clear B1p B1q B6p B6q
      have hst := Lib.hid hb
      clear hb
      replace B0 := Lib.hid (B0.out.on hst.out)
      replace B1 := Lib.hid (B1.out.on hst.out)
      replace B2 := Lib.hid (B2.out.on hst.out)
      replace B3 := Lib.hid (B3.out.on hst.out)
      replace B4 := Lib.hid (B4.out.on hst.out)
      replace B5 := Lib.hid (B5.out.on hst.out)
      replace B6 := Lib.hid (B6.out.on hst.out)
      replace HW := Lib.hid (below_on HW.out hst.out)
      clear hst
      obtain ⟨_, B6p, B6q⟩ := B6.out
      obtain ⟨_, B0p, B0q⟩ := B0.out
      obtain ⟨_, B1p, B1q⟩ := B1.out
      go_wp2_with fail
      clear B6p B6q B0p B0q B1p B1q
      go_meet
      exact ⟨rfl, B0.out, B1.out, B2.out, B3.out, B4.out, B5.out, B6.out, HW.out⟩
    · obtain ⟨_, B0p, B0q⟩ := B0.out
      obtain ⟨_, B6p, B6q⟩ := B6.out
      go_wp2_with fail
      (with_reducible refine ((I2 _).out).mono ?_)
      rintro e y16 ⟨rfl, hb⟩
      clear B0p B0q B6p B6q
      have hst := Lib.hid hb
      clear hb
      replace B0 := Lib.hid (B0.out.on hst.out)
      replace B1 := Lib.hid (B1.out.on hst.out)
      replace B2 := Lib.hid (B2.out.on hst.out)
      replace B3 := Lib.hid (B3.out.on hst.out)
      replace B4 := Lib.hid (B4.out.on hst.out)
      replace B5 := Lib.hid (B5.out.on hst.out)
      replace B6 := Lib.hid (B6.out.on hst.out)
      replace HW := Lib.hid (below_on HW.out hst.out)
      clear hst
      obtain ⟨_, B1p, B1q⟩ := B1.out
      obtain ⟨_, B6p, B6q⟩ := B6.out
      go_wp2_with fail
      (with_reducible refine ((I3 _).out).mono ?_)
      rintro e y17 ⟨rfl, hb⟩
      clear B1p B1q B6p B6q
      have hst := Lib.hid hb
      clear hb
      replace B0 := Lib.hid (B0.out.on hst.out)
      replace B1 := Lib.hid (B1.out.on hst.out)
      replace B2 := Lib.hid (B2.out.on hst.out)
      replace B3 := Lib.hid (B3.out.on hst.out)
      replace B4 := Lib.hid (B4.out.on hst.out)
      replace B5 := Lib.hid (B5.out.on hst.out)
      replace B6 := Lib.hid (B6.out.on hst.out)
      replace HW := Lib.hid (below_on HW.out hst.out)
      clear hst
      obtain ⟨_, B6p, B6q⟩ := B6.out
      obtain ⟨_, B0p, B0q⟩ := B0.out
      obtain ⟨_, B1p, B1q⟩ := B1.out
      go_wp2_with fail
      clear B6p B6q B0p B0q B1p B1q
      go_meet
      exact ⟨rfl, B0.out, B1.out, B2.out, B3.out, B4.out, B5.out, B6.out, HW.out⟩
  case rest =>
  clear B0 B1 B2 B3 B4 B5 B6 HW
  rename World => c1b
  obtain ⟨rfl, kB0, kB1, kB2, kB3, kB4, kB5, kB6, hb⟩ := hcut
  have B0 := Lib.hid kB0
  have B1 := Lib.hid kB1
  have B2 := Lib.hid kB2
  have B3 := Lib.hid kB3
  have B4 := Lib.hid kB4
  have B5 := Lib.hid kB5
  have B6 := Lib.hid kB6
  have HW := Lib.hid hb
  clear hb kB0 kB1 kB2 kB3 kB4 kB5 kB6
  clear h4 h5 C6 I2 I3
  obtain ⟨_, B0p, B0q⟩ := B0.out
  obtain ⟨_, B1p, B1q⟩ := B1.out
  go_wp2_with fail
  (with_reducible refine ((C7 _).out).mono ?_)
  rintro e y18 ⟨rfl, hb⟩
  clear B0p B0q B1p B1q
  have hst := Lib.hid hb
  clear hb
  replace B0 := Lib.hid (B0.out.on hst.out)
  replace B1 := Lib.hid (B1.out.on hst.out)
  replace B2 := Lib.hid (B2.out.on hst.out)
  replace B3 := Lib.hid (B3.out.on hst.out)
  replace B4 := Lib.hid (B4.out.on hst.out)
  replace B5 := Lib.hid (B5.out.on hst.out)
  replace B6 := Lib.hid (B6.out.on hst.out)
  replace HW := Lib.hid (below_on HW.out hst.out)
  clear hst
  obtain ⟨_, B0p, B0q⟩ := B0.out
  obtain ⟨_, B1p, B1q⟩ := B1.out
  obtain ⟨_, B2p, B2q⟩ := B2.out
  obtain ⟨_, B3p, B3q⟩ := B3.out
  obtain ⟨_, B4p, B4q⟩ := B4.out
  obtain ⟨_, B5p, B5q⟩ := B5.out
  obtain ⟨_, B6p, B6q⟩ := B6.out
  go_wp2_with fail
  go_ret
  exact ⟨rfl, by have hB := HW.out; exact (by repeat' (first | (with_reducible exact Below.refl _ _) | (with_reducible assumption) | (with_reducible refine Below.alloc ?_ ?_ _) | (with_reducible refine below_drew ?_ _) | (with_reducible refine Below.drew ?_) | (with_reducible refine Below.setCell ?_ ?_ _) | go_size))⟩

set_option maxRecDepth 100000 in
set_option maxHeartbeats 16000000 in
theorem rules_ND2 (al ah bl bh : Int) (w : World) (va : SVd al ah) (vb : SVd bl bh) (hf : sV (al + bl) (ah + bh) = false) (m1 : ¬ ah < bl) (m2 : bh < al) :
    Calls Try.prog 8 #[.agg #[.int .i64 al, .int .i64 ah], .agg #[.int .i64 bl, .int .i64 bh]] w fun e w' => e = .returned (.bool true) ∧ Below w.heap.size w w' := by
  have ha := sV_yes va
  have hb := sV_yes vb
  have VA := fun w => Lib.hid (rsValid_any al ah w)
  have VB := fun w => Lib.hid (rsValid_any bl bh w)
  simp only [ha] at VA
  simp only [hb] at VB
  obtain ⟨va1, va2, va3⟩ := va
  obtain ⟨vb1, vb2, vb3⟩ := vb
  have h1 : sAdd al ah bl bh = (0, 0, 5) := by unfold sAdd; rw [okS_yes ha hb]; unfold fitS; rw [if_neg (by simp [hf])]
  obtain ⟨n1, hn1⟩ : ∃ z : Int, 0 = z := ⟨_, rfl⟩
  obtain ⟨d1, hd1⟩ : ∃ z : Int, 0 = z := ⟨_, rfl⟩
  have C1 := fun w => Lib.hid (sAdd_any al ah bl bh w (by omega) (by omega) (by omega) (by omega) (by omega) (by omega) (by omega) (by omega) n1 d1 5 (by rw [← hn1, ← hd1]; exact h1))
  have C2 := fun w => Lib.hid (sAdd_any bl bh al ah w (by omega) (by omega) (by omega) (by omega) (by omega) (by omega) (by omega) (by omega) n1 d1 5 (by rw [← hn1, ← hd1, ← sAdd_comm]; exact h1))
  clear hn1 hd1 h1 hf
  obtain ⟨n2, d2, e2, h2⟩ : ∃ a b c, sMul al ah bl bh = (a, b, c) := ⟨_, _, _, rfl⟩
  have C3 := fun w => Lib.hid (sMul_any al ah bl bh w (by omega) (by omega) (by omega) (by omega) (by omega) (by omega) (by omega) (by omega) n2 d2 e2 h2)
  have C4 := fun w => Lib.hid (sMul_any bl bh al ah w (by omega) (by omega) (by omega) (by omega) (by omega) (by omega) (by omega) (by omega) n2 d2 e2 (by rw [← sMul_comm]; exact h2))
  have h4 : al = min al bl ∨ ((bl != al) = true ∧ bl = min al bl) := by
    by_cases c : al ≤ bl
    · exact .inl (by omega)
    · exact .inr ⟨by simp; omega, by omega⟩
  have h5 : ah = max ah bh ∨ ((bh != ah) = true ∧ bh = max ah bh) := by
    by_cases c : bh ≤ ah
    · exact .inl (by omega)
    · exact .inr ⟨by simp; omega, by omega⟩
  have C6 := fun w => Lib.hid (sHull_any al ah bl bh w (by omega) (by omega) (by omega) (by omega) (by omega) (by omega) (by omega) (by omega) (min al bl) (max ah bh) 0 (by unfold sHull; rw [okS_yes ha hb]))
  have I2 := fun w => Lib.hid (inside_yes al ah (min al bl) (max ah bh) w (by omega) (by omega))
  have I3 := fun w => Lib.hid (inside_yes bl bh (min al bl) (max ah bh) w (by omega) (by omega))
  obtain ⟨n4, hn4⟩ : ∃ z, min al bl = z := ⟨_, rfl⟩
  obtain ⟨d4, hd4⟩ : ∃ z, max ah bh = z := ⟨_, rfl⟩
  rw [hn4] at h4
  rw [hd4] at h5
  simp only [hn4, hd4] at C6 I2 I3
  clear hn4 hd4 h2
  have C7 := fun w => Lib.hid (sMeet_any al ah bl bh w (by omega) (by omega) (by omega) (by omega) (by omega) (by omega) (by omega) (by omega) 0 0 12 (by unfold sMeet; rw [okS_yes ha hb]; unfold meetS; rw [if_pos (by omega)]))
  have g1 : decide (ah < bl) = false := decide_eq_false m1
  have g2 : decide (bh < al) = true := decide_eq_true m2
  clear ha hb va1 va2 va3 vb1 vb2 vb3 m1 m2
  have HW := Lib.hid (Below.refl w.heap.size w)
  have AW := fun w => Lib.hid (sawake_any w)
  go_enter Try.func8, Try.ntmps8
  go_wp2_with fail
  (with_reducible refine ((AW _).out).mono ?_)
  rintro e y1 ⟨rfl, hb⟩
  have hst := Lib.hid (below_on (w := w) (by repeat' (first | (with_reducible exact Below.refl _ _) | (with_reducible assumption) | (with_reducible refine Below.alloc ?_ ?_ _) | (with_reducible refine below_drew ?_ _) | (with_reducible refine Below.drew ?_) | (with_reducible refine Below.setCell ?_ ?_ _) | go_size)) hb)
  have B0 : Hid (Blk y1 (w.heap.size) (.int .i64 al) (.int .i64 ah)) := Blk.on (W := ((w.alloc (Obj.cells #[Value.int .i64 al, Value.int .i64 ah] 23)).alloc (Obj.cells #[Value.int .i64 bl, Value.int .i64 bh] 23))) (by first | exact Blk.new _ _ _ _ | exact (Blk.new _ _ _ _).alloc _ | exact ((Blk.new _ _ _ _).alloc _).alloc _ | (have hn := Blk.new (w) (Value.int .i64 al) (Value.int .i64 ah) 23; simpa using hn)) hb
  have B1 : Hid (Blk y1 (w.heap.size + 1) (.int .i64 bl) (.int .i64 bh)) := Blk.on (W := ((w.alloc (Obj.cells #[Value.int .i64 al, Value.int .i64 ah] 23)).alloc (Obj.cells #[Value.int .i64 bl, Value.int .i64 bh] 23))) (by first | exact Blk.new _ _ _ _ | exact (Blk.new _ _ _ _).alloc _ | exact ((Blk.new _ _ _ _).alloc _).alloc _ | (have hn := Blk.new ((w.alloc (Obj.cells #[Value.int .i64 al, Value.int .i64 ah] 23))) (Value.int .i64 bl) (Value.int .i64 bh) 23; simpa using hn)) hb
  clear hb
  replace HW := Lib.hid (below_on HW.out hst.out)
  clear hst
  obtain ⟨_, B0p, B0q⟩ := B0.out
  go_wp2_with fail
  (with_reducible refine ((VA _).out).mono ?_)
  rintro e y2 ⟨rfl, hb⟩
  clear B0p B0q
  have hst := Lib.hid hb
  clear hb
  replace B0 := Lib.hid (B0.out.on hst.out)
  replace B1 := Lib.hid (B1.out.on hst.out)
  replace HW := Lib.hid (below_on HW.out hst.out)
  clear hst
  obtain ⟨_, B1p, B1q⟩ := B1.out
  go_wp2_with fail
  (with_reducible refine ((VB _).out).mono ?_)
  rintro e y3 ⟨rfl, hb⟩
  clear B1p B1q
  have hst := Lib.hid hb
  clear hb
  replace B0 := Lib.hid (B0.out.on hst.out)
  replace B1 := Lib.hid (B1.out.on hst.out)
  replace HW := Lib.hid (below_on HW.out hst.out)
  clear hst
  obtain ⟨_, B0p, B0q⟩ := B0.out
  obtain ⟨_, B1p, B1q⟩ := B1.out
  go_wp2_with fail
  (with_reducible refine ((C1 _).out).mono ?_)
  rintro e y4 ⟨rfl, hb⟩
  clear B0p B0q B1p B1q
  have hst := Lib.hid hb
  clear hb
  replace B0 := Lib.hid (B0.out.on hst.out)
  replace B1 := Lib.hid (B1.out.on hst.out)
  replace HW := Lib.hid (below_on HW.out hst.out)
  clear hst
  obtain ⟨_, B1p, B1q⟩ := B1.out
  obtain ⟨_, B0p, B0q⟩ := B0.out
  go_wp2_with fail
  (with_reducible refine ((C2 _).out).mono ?_)
  rintro e y5 ⟨rfl, hb⟩
  clear B1p B1q B0p B0q
  have hst := Lib.hid (below_on (w := y4) (by repeat' (first | (with_reducible exact Below.refl _ _) | (with_reducible assumption) | (with_reducible refine Below.alloc ?_ ?_ _) | (with_reducible refine below_drew ?_ _) | (with_reducible refine Below.drew ?_) | (with_reducible refine Below.setCell ?_ ?_ _) | go_size)) hb)
  have B2 : Hid (Blk y5 (y4.heap.size) (.int .i64 n1) (.int .i64 d1)) := Blk.on (W := (y4.alloc (Obj.cells #[Value.int .i64 n1, Value.int .i64 d1] 23))) (by first | exact Blk.new _ _ _ _ | exact (Blk.new _ _ _ _).alloc _ | exact ((Blk.new _ _ _ _).alloc _).alloc _ | (have hn := Blk.new (y4) (Value.int .i64 n1) (Value.int .i64 d1) 23; simpa using hn)) hb
  clear hb
  replace B0 := Lib.hid (B0.out.on hst.out)
  replace B1 := Lib.hid (B1.out.on hst.out)
  replace HW := Lib.hid (below_on HW.out hst.out)
  clear hst
  obtain ⟨_, B0p, B0q⟩ := B0.out
  obtain ⟨_, B1p, B1q⟩ := B1.out
  go_wp2_with fail
  (with_reducible refine ((C3 _).out).mono ?_)
  rintro e y6 ⟨rfl, hb⟩
  clear B0p B0q B1p B1q
  have hst := Lib.hid (below_on (w := y5) (by repeat' (first | (with_reducible exact Below.refl _ _) | (with_reducible assumption) | (with_reducible refine Below.alloc ?_ ?_ _) | (with_reducible refine below_drew ?_ _) | (with_reducible refine Below.drew ?_) | (with_reducible refine Below.setCell ?_ ?_ _) | go_size)) hb)
  have B3 : Hid (Blk y6 (y5.heap.size) (.int .i64 n1) (.int .i64 d1)) := Blk.on (W := (y5.alloc (Obj.cells #[Value.int .i64 n1, Value.int .i64 d1] 23))) (by first | exact Blk.new _ _ _ _ | exact (Blk.new _ _ _ _).alloc _ | exact ((Blk.new _ _ _ _).alloc _).alloc _ | (have hn := Blk.new (y5) (Value.int .i64 n1) (Value.int .i64 d1) 23; simpa using hn)) hb
  clear hb
  replace B0 := Lib.hid (B0.out.on hst.out)
  replace B1 := Lib.hid (B1.out.on hst.out)
  replace B2 := Lib.hid (B2.out.on hst.out)
  replace HW := Lib.hid (below_on HW.out hst.out)
  clear hst
  obtain ⟨_, B1p, B1q⟩ := B1.out
  obtain ⟨_, B0p, B0q⟩ := B0.out
  go_wp2_with fail
  (with_reducible refine ((C4 _).out).mono ?_)
  rintro e y7 ⟨rfl, hb⟩
  clear B1p B1q B0p B0q
  have hst := Lib.hid (below_on (w := y6) (by repeat' (first | (with_reducible exact Below.refl _ _) | (with_reducible assumption) | (with_reducible refine Below.alloc ?_ ?_ _) | (with_reducible refine below_drew ?_ _) | (with_reducible refine Below.drew ?_) | (with_reducible refine Below.setCell ?_ ?_ _) | go_size)) hb)
  have B4 : Hid (Blk y7 (y6.heap.size) (.int .i64 n2) (.int .i64 d2)) := Blk.on (W := (y6.alloc (Obj.cells #[Value.int .i64 n2, Value.int .i64 d2] 23))) (by first | exact Blk.new _ _ _ _ | exact (Blk.new _ _ _ _).alloc _ | exact ((Blk.new _ _ _ _).alloc _).alloc _ | (have hn := Blk.new (y6) (Value.int .i64 n2) (Value.int .i64 d2) 23; simpa using hn)) hb
  clear hb
  replace B0 := Lib.hid (B0.out.on hst.out)
  replace B1 := Lib.hid (B1.out.on hst.out)
  replace B2 := Lib.hid (B2.out.on hst.out)
  replace B3 := Lib.hid (B3.out.on hst.out)
  replace HW := Lib.hid (below_on HW.out hst.out)
  clear hst
  clear AW VA VB C1 C2 C3 C4
  obtain ⟨_, B2p, B2q⟩ := B2.out
  obtain ⟨_, B3p, B3q⟩ := B3.out
  obtain ⟨_, B4p, B4q⟩ := B4.out
  obtain ⟨_, B0p, B0q⟩ := B0.out
  obtain ⟨_, B1p, B1q⟩ := B1.out
  go_wp2_with fail
  (with_reducible refine ((C6 _).out).mono ?_)
  rintro e y8 ⟨rfl, hb⟩
  clear B2p B2q B3p B3q B4p B4q B0p B0q B1p B1q
  have hst := Lib.hid (below_on (w := y7) (by repeat' (first | (with_reducible exact Below.refl _ _) | (with_reducible assumption) | (with_reducible refine Below.alloc ?_ ?_ _) | (with_reducible refine below_drew ?_ _) | (with_reducible refine Below.drew ?_) | (with_reducible refine Below.setCell ?_ ?_ _) | go_size)) hb)
  have B5 : Hid (Blk y8 (y7.heap.size) (.int .i64 n2) (.int .i64 d2)) := Blk.on (W := (y7.alloc (Obj.cells #[Value.int .i64 n2, Value.int .i64 d2] 23))) (by first | exact Blk.new _ _ _ _ | exact (Blk.new _ _ _ _).alloc _ | exact ((Blk.new _ _ _ _).alloc _).alloc _ | (have hn := Blk.new (y7) (Value.int .i64 n2) (Value.int .i64 d2) 23; simpa using hn)) hb
  clear hb
  replace B0 := Lib.hid (B0.out.on hst.out)
  replace B1 := Lib.hid (B1.out.on hst.out)
  replace B2 := Lib.hid (B2.out.on hst.out)
  replace B3 := Lib.hid (B3.out.on hst.out)
  replace B4 := Lib.hid (B4.out.on hst.out)
  replace HW := Lib.hid (below_on HW.out hst.out)
  clear hst
  go_upto_region 16 with fail
  obtain ⟨y9, hy⟩ : ∃ W, W = (y8.alloc (Obj.cells #[Value.int .i64 n4, Value.int .i64 d4] 23)) := ⟨_, rfl⟩
  rw [← hy]
  have hb : Below ((y8.alloc (Obj.cells #[Value.int .i64 n4, Value.int .i64 d4] 23))).heap.size ((y8.alloc (Obj.cells #[Value.int .i64 n4, Value.int .i64 d4] 23))) y9 := by rw [hy]; exact Below.refl _ _
  clear hy
  have hst := Lib.hid (below_on (w := y8) (by repeat' (first | (with_reducible exact Below.refl _ _) | (with_reducible assumption) | (with_reducible refine Below.alloc ?_ ?_ _) | (with_reducible refine below_drew ?_ _) | (with_reducible refine Below.drew ?_) | (with_reducible refine Below.setCell ?_ ?_ _) | go_size)) hb)
  have B6 : Hid (Blk y9 (y8.heap.size) (.int .i64 n4) (.int .i64 d4)) := Blk.on (W := (y8.alloc (Obj.cells #[Value.int .i64 n4, Value.int .i64 d4] 23))) (by first | exact Blk.new _ _ _ _ | exact (Blk.new _ _ _ _).alloc _ | (have hn := Blk.new (y8) (Value.int .i64 n4) (Value.int .i64 d4) 23; simpa using hn)) hb
  clear hb
  replace B0 := Lib.hid (B0.out.on hst.out)
  replace B1 := Lib.hid (B1.out.on hst.out)
  replace B2 := Lib.hid (B2.out.on hst.out)
  replace B3 := Lib.hid (B3.out.on hst.out)
  replace B4 := Lib.hid (B4.out.on hst.out)
  replace B5 := Lib.hid (B5.out.on hst.out)
  replace HW := Lib.hid (below_on HW.out hst.out)
  clear hst
  go_cut [144] (fun s144 wx => s144 = .bool false ∧ Blk wx (w.heap.size) (.int .i64 al) (.int .i64 ah) ∧ Blk wx (w.heap.size + 1) (.int .i64 bl) (.int .i64 bh) ∧ Blk wx (y4.heap.size) (.int .i64 n1) (.int .i64 d1) ∧ Blk wx (y5.heap.size) (.int .i64 n1) (.int .i64 d1) ∧ Blk wx (y6.heap.size) (.int .i64 n2) (.int .i64 d2) ∧ Blk wx (y7.heap.size) (.int .i64 n2) (.int .i64 d2) ∧ Blk wx (y8.heap.size) (.int .i64 n4) (.int .i64 d4) ∧ Below w.heap.size w wx)
  case first =>
    rcases h4 with rfl | ⟨h4, rfl⟩ <;> rcases h5 with rfl | ⟨h5, rfl⟩
    · obtain ⟨_, B0p, B0q⟩ := B0.out
      obtain ⟨_, B6p, B6q⟩ := B6.out
      go_wp2_with fail
      (with_reducible refine ((I2 _).out).mono ?_)
      rintro e y10 ⟨rfl, hb⟩
      clear B0p B0q B6p B6q
      have hst := Lib.hid hb
      clear hb
      replace B0 := Lib.hid (B0.out.on hst.out)
      replace B1 := Lib.hid (B1.out.on hst.out)
      replace B2 := Lib.hid (B2.out.on hst.out)
      replace B3 := Lib.hid (B3.out.on hst.out)
      replace B4 := Lib.hid (B4.out.on hst.out)
      replace B5 := Lib.hid (B5.out.on hst.out)
      replace B6 := Lib.hid (B6.out.on hst.out)
      replace HW := Lib.hid (below_on HW.out hst.out)
      clear hst
      obtain ⟨_, B1p, B1q⟩ := B1.out
      obtain ⟨_, B6p, B6q⟩ := B6.out
      go_wp2_with fail
      (with_reducible refine ((I3 _).out).mono ?_)
      rintro e y11 ⟨rfl, hb⟩
      clear B1p B1q B6p B6q
      have hst := Lib.hid hb
      clear hb
      replace B0 := Lib.hid (B0.out.on hst.out)
      replace B1 := Lib.hid (B1.out.on hst.out)
      replace B2 := Lib.hid (B2.out.on hst.out)
      replace B3 := Lib.hid (B3.out.on hst.out)
      replace B4 := Lib.hid (B4.out.on hst.out)
      replace B5 := Lib.hid (B5.out.on hst.out)
      replace B6 := Lib.hid (B6.out.on hst.out)
      replace HW := Lib.hid (below_on HW.out hst.out)
      clear hst
      obtain ⟨_, B6p, B6q⟩ := B6.out
      obtain ⟨_, B0p, B0q⟩ := B0.out
      go_wp2_with fail
      clear B6p B6q B0p B0q
      go_meet
      exact ⟨rfl, B0.out, B1.out, B2.out, B3.out, B4.out, B5.out, B6.out, HW.out⟩
    · obtain ⟨_, B0p, B0q⟩ := B0.out
      obtain ⟨_, B6p, B6q⟩ := B6.out
      go_wp2_with fail
      (with_reducible refine ((I2 _).out).mono ?_)
      rintro e y12 ⟨rfl, hb⟩
      clear B0p B0q B6p B6q
      have hst := Lib.hid hb
      clear hb
      replace B0 := Lib.hid (B0.out.on hst.out)
      replace B1 := Lib.hid (B1.out.on hst.out)
      replace B2 := Lib.hid (B2.out.on hst.out)
      replace B3 := Lib.hid (B3.out.on hst.out)
      replace B4 := Lib.hid (B4.out.on hst.out)
      replace B5 := Lib.hid (B5.out.on hst.out)
      replace B6 := Lib.hid (B6.out.on hst.out)
      replace HW := Lib.hid (below_on HW.out hst.out)
      clear hst
      obtain ⟨_, B1p, B1q⟩ := B1.out
      obtain ⟨_, B6p, B6q⟩ := B6.out
      go_wp2_with fail
      (with_reducible refine ((I3 _).out).mono ?_)
      rintro e y13 ⟨rfl, hb⟩
      clear B1p B1q B6p B6q
      have hst := Lib.hid hb
      clear hb
      replace B0 := Lib.hid (B0.out.on hst.out)
      replace B1 := Lib.hid (B1.out.on hst.out)
      replace B2 := Lib.hid (B2.out.on hst.out)
      replace B3 := Lib.hid (B3.out.on hst.out)
      replace B4 := Lib.hid (B4.out.on hst.out)
      replace B5 := Lib.hid (B5.out.on hst.out)
      replace B6 := Lib.hid (B6.out.on hst.out)
      replace HW := Lib.hid (below_on HW.out hst.out)
      clear hst
      obtain ⟨_, B6p, B6q⟩ := B6.out
      obtain ⟨_, B0p, B0q⟩ := B0.out
      obtain ⟨_, B1p, B1q⟩ := B1.out
      go_wp2_with fail
      clear B6p B6q B0p B0q B1p B1q
      go_meet
      exact ⟨rfl, B0.out, B1.out, B2.out, B3.out, B4.out, B5.out, B6.out, HW.out⟩
    · obtain ⟨_, B0p, B0q⟩ := B0.out
      obtain ⟨_, B6p, B6q⟩ := B6.out
      go_wp2_with fail
      (with_reducible refine ((I2 _).out).mono ?_)
      rintro e y14 ⟨rfl, hb⟩
      clear B0p B0q B6p B6q
      have hst := Lib.hid hb
      clear hb
      replace B0 := Lib.hid (B0.out.on hst.out)
      replace B1 := Lib.hid (B1.out.on hst.out)
      replace B2 := Lib.hid (B2.out.on hst.out)
      replace B3 := Lib.hid (B3.out.on hst.out)
      replace B4 := Lib.hid (B4.out.on hst.out)
      replace B5 := Lib.hid (B5.out.on hst.out)
      replace B6 := Lib.hid (B6.out.on hst.out)
      replace HW := Lib.hid (below_on HW.out hst.out)
      clear hst
      obtain ⟨_, B1p, B1q⟩ := B1.out
      obtain ⟨_, B6p, B6q⟩ := B6.out
      go_wp2_with fail
      (with_reducible refine ((I3 _).out).mono ?_)
      rintro e y15 ⟨rfl, hb⟩
      clear B1p B1q B6p B6q
      have hst := Lib.hid hb
      clear hb
      replace B0 := Lib.hid (B0.out.on hst.out)
      replace B1 := Lib.hid (B1.out.on hst.out)
      replace B2 := Lib.hid (B2.out.on hst.out)
      replace B3 := Lib.hid (B3.out.on hst.out)
      replace B4 := Lib.hid (B4.out.on hst.out)
      replace B5 := Lib.hid (B5.out.on hst.out)
      replace B6 := Lib.hid (B6.out.on hst.out)
      replace HW := Lib.hid (below_on HW.out hst.out)
      clear hst
      obtain ⟨_, B6p, B6q⟩ := B6.out
      obtain ⟨_, B0p, B0q⟩ := B0.out
      obtain ⟨_, B1p, B1q⟩ := B1.out
      go_wp2_with fail
      clear B6p B6q B0p B0q B1p B1q
      go_meet
      exact ⟨rfl, B0.out, B1.out, B2.out, B3.out, B4.out, B5.out, B6.out, HW.out⟩
    · obtain ⟨_, B0p, B0q⟩ := B0.out
      obtain ⟨_, B6p, B6q⟩ := B6.out
      go_wp2_with fail
      (with_reducible refine ((I2 _).out).mono ?_)
      rintro e y16 ⟨rfl, hb⟩
      clear B0p B0q B6p B6q
      have hst := Lib.hid hb
      clear hb
      replace B0 := Lib.hid (B0.out.on hst.out)
      replace B1 := Lib.hid (B1.out.on hst.out)
      replace B2 := Lib.hid (B2.out.on hst.out)
      replace B3 := Lib.hid (B3.out.on hst.out)
      replace B4 := Lib.hid (B4.out.on hst.out)
      replace B5 := Lib.hid (B5.out.on hst.out)
      replace B6 := Lib.hid (B6.out.on hst.out)
      replace HW := Lib.hid (below_on HW.out hst.out)
      clear hst
      obtain ⟨_, B1p, B1q⟩ := B1.out
      obtain ⟨_, B6p, B6q⟩ := B6.out
      go_wp2_with fail
      (with_reducible refine ((I3 _).out).mono ?_)
      rintro e y17 ⟨rfl, hb⟩
      clear B1p B1q B6p B6q
      have hst := Lib.hid hb
      clear hb
      replace B0 := Lib.hid (B0.out.on hst.out)
      replace B1 := Lib.hid (B1.out.on hst.out)
      replace B2 := Lib.hid (B2.out.on hst.out)
      replace B3 := Lib.hid (B3.out.on hst.out)
      replace B4 := Lib.hid (B4.out.on hst.out)
      replace B5 := Lib.hid (B5.out.on hst.out)
      replace B6 := Lib.hid (B6.out.on hst.out)
      replace HW := Lib.hid (below_on HW.out hst.out)
      clear hst
      obtain ⟨_, B6p, B6q⟩ := B6.out
      obtain ⟨_, B0p, B0q⟩ := B0.out
      obtain ⟨_, B1p, B1q⟩ := B1.out
      go_wp2_with fail
      clear B6p B6q B0p B0q B1p B1q
      go_meet
      exact ⟨rfl, B0.out, B1.out, B2.out, B3.out, B4.out, B5.out, B6.out, HW.out⟩
  case rest =>
  clear B0 B1 B2 B3 B4 B5 B6 HW
  rename World => c1b
  obtain ⟨rfl, kB0, kB1, kB2, kB3, kB4, kB5, kB6, hb⟩ := hcut
  have B0 := Lib.hid kB0
  have B1 := Lib.hid kB1
  have B2 := Lib.hid kB2
  have B3 := Lib.hid kB3
  have B4 := Lib.hid kB4
  have B5 := Lib.hid kB5
  have B6 := Lib.hid kB6
  have HW := Lib.hid hb
  clear hb kB0 kB1 kB2 kB3 kB4 kB5 kB6
  clear h4 h5 C6 I2 I3
  obtain ⟨_, B0p, B0q⟩ := B0.out
  obtain ⟨_, B1p, B1q⟩ := B1.out
  go_wp2_with fail
  (with_reducible refine ((C7 _).out).mono ?_)
  rintro e y18 ⟨rfl, hb⟩
  clear B0p B0q B1p B1q
  have hst := Lib.hid hb
  clear hb
  replace B0 := Lib.hid (B0.out.on hst.out)
  replace B1 := Lib.hid (B1.out.on hst.out)
  replace B2 := Lib.hid (B2.out.on hst.out)
  replace B3 := Lib.hid (B3.out.on hst.out)
  replace B4 := Lib.hid (B4.out.on hst.out)
  replace B5 := Lib.hid (B5.out.on hst.out)
  replace B6 := Lib.hid (B6.out.on hst.out)
  replace HW := Lib.hid (below_on HW.out hst.out)
  clear hst
  obtain ⟨_, B0p, B0q⟩ := B0.out
  obtain ⟨_, B1p, B1q⟩ := B1.out
  obtain ⟨_, B2p, B2q⟩ := B2.out
  obtain ⟨_, B3p, B3q⟩ := B3.out
  obtain ⟨_, B4p, B4q⟩ := B4.out
  obtain ⟨_, B5p, B5q⟩ := B5.out
  obtain ⟨_, B6p, B6q⟩ := B6.out
  go_wp2_with fail
  go_ret
  exact ⟨rfl, by have hB := HW.out; exact (by repeat' (first | (with_reducible exact Below.refl _ _) | (with_reducible assumption) | (with_reducible refine Below.alloc ?_ ?_ _) | (with_reducible refine below_drew ?_ _) | (with_reducible refine Below.drew ?_) | (with_reducible refine Below.setCell ?_ ?_ _) | go_size))⟩

end Go.Proofs.Ytknbhpnhnhfbpaa
