/- The walk of the law RatioReckons. -/
import Derived.Test.YtknbhpnhnhfbpaaDoorRRef15
import Derived.Test.YtknbhpnhnhfbpaaDoorRRef9
import Derived.Test.YtknbhpnhnhfbpaaDoorRLawMakes
import Derived.Test.YtknbhpnhnhfbpaaDoorRSto
namespace Go.Proofs.YtknbhpnhnhfbpaaDoor
set_option linter.unusedVariables false
open Go.RowKit Go.Shelf

theorem refTimes_yes (an ad bn bd : Int) (w : World) (va : Vld an ad) (vb : Vld bn bd) (n d er : Int) (h : mulT an ad bn bd = (n, d, er)) :
    Calls Tryd.prog 16 #[.agg #[.int .i64 an, .int .i64 ad], .agg #[.int .i64 bn, .int .i64 bd]] w fun e w' => e = .returned (.tuple #[.agg #[.int .i64 n, .int .i64 d], .int .i64 er]) ∧ Below w.heap.size w w' := by
  have a1 := va.d1; have a2 := va.d2; have a3 := va.n1; have a4 := va.n2
  have b1 := vb.d1; have b2 := vb.d2; have b3 := vb.n1; have b4 := vb.n2
  obtain ⟨x0, x1⟩ := nat_mul_bd (a := an) (b := bn) (by omega) (by omega)
  obtain ⟨y0, y1⟩ := nat_mul_bd (a := ad) (b := bd) (by omega) (by omega)
  rw [mul_made va vb] at h
  exact refTimes_any an ad bn bd w a3 a4 a1 a2 b3 b4 b1 b2 _ _ n d er rfl rfl (by omega) (by omega) (by omega) (by omega) h
theorem refOver_yes (an ad bn bd : Int) (w : World) (va : Vld an ad) (vb : Vld bn bd) (n d er : Int) (h : divT an ad bn bd = (n, d, er)) :
    Calls Tryd.prog 17 #[.agg #[.int .i64 an, .int .i64 ad], .agg #[.int .i64 bn, .int .i64 bd]] w fun e w' => e = .returned (.tuple #[.agg #[.int .i64 n, .int .i64 d], .int .i64 er]) ∧ Below w.heap.size w w' := by
  have a1 := va.d1; have a2 := va.d2; have a3 := va.n1; have a4 := va.n2
  have b1 := vb.d1; have b2 := vb.d2; have b3 := vb.n1; have b4 := vb.n2
  obtain ⟨x0, x1⟩ := nat_mul_bd (a := an) (b := bd) (by omega) (by omega)
  obtain ⟨y0, y1⟩ := nat_mul_bd (a := ad) (b := bn) (by omega) (by omega)
  rw [div_made va vb] at h
  exact refOver_any an ad bn bd w a3 a4 a1 a2 b3 b4 b1 b2 _ _ n d er rfl rfl (by omega) (by omega) (by omega) (by omega) h

set_option maxRecDepth 100000 in
set_option maxHeartbeats 8000000 in
theorem reckons_both (an ad bn bd : Int) (w : World) (a0 : -9223372036854775808 ≤ an) (a1 : an ≤ 9223372036854775807) (a2 : -9223372036854775808 ≤ ad) (a3 : ad ≤ 9223372036854775807) (b0 : -9223372036854775808 ≤ bn) (b1 : bn ≤ 9223372036854775807) (b2 : -9223372036854775808 ≤ bd) (b3 : bd ≤ 9223372036854775807) (hT : Hid (Pow10 w.heap.size w)) (va : Vld an ad) (vb : Vld bn bd) :
    Calls Tryd.prog 3 #[.agg #[.int .i64 an, .int .i64 ad], .agg #[.int .i64 bn, .int .i64 bd]] w fun e w' => e = .returned (.bool true) ∧ Below w.heap.size w w' := by
  have ha := vB_yes va
  have hb := vB_yes vb
  obtain ⟨n1, d1, e1, h1⟩ : ∃ a b c, addT an ad bn bd = (a, b, c) := ⟨_, _, _, rfl⟩
  obtain ⟨n2, d2, e2, h2⟩ : ∃ a b c, subT an ad bn bd = (a, b, c) := ⟨_, _, _, rfl⟩
  obtain ⟨n3, d3, e3, h3⟩ : ∃ a b c, mulT an ad bn bd = (a, b, c) := ⟨_, _, _, rfl⟩
  obtain ⟨n4, d4, e4, h4⟩ : ∃ a b c, divT an ad bn bd = (a, b, c) := ⟨_, _, _, rfl⟩
  obtain ⟨k, hk⟩ : ∃ a, sgn (an * bd + -bn * ad) = a := ⟨_, rfl⟩
  have h5 : cmpT an ad bn bd = (k, 0) := by unfold cmpT; rw [if_pos ⟨ha, hb⟩, hk]
  have R1 := fun w => Lib.hid (refAdd_any an ad bn bd w va vb n1 d1 e1 h1)
  have R2 := fun w => Lib.hid (refSub_any an ad bn bd w va vb n2 d2 e2 h2)
  have R3 := fun w => Lib.hid (refTimes_yes an ad bn bd w va vb n3 d3 e3 h3)
  have R4 := fun w => Lib.hid (refOver_yes an ad bn bd w va vb n4 d4 e4 h4)
  have R5 := fun w => Lib.hid (refCmp_any an ad bn bd w va vb k hk)
  have S1 := fun w => Lib.hid (same_eq n1 d1 e1 w)
  have S2 := fun w => Lib.hid (same_eq n2 d2 e2 w)
  have S3 := fun w => Lib.hid (same_eq n3 d3 e3 w)
  have S4 := fun w => Lib.hid (same_eq n4 d4 e4 w)
  have F1 := fun w => Lib.hid (Add_any an ad bn bd w a0 a1 a2 a3 b0 b1 b2 b3 n1 d1 e1 h1)
  have F2 := fun w => Lib.hid (Sub_any an ad bn bd w a0 a1 a2 a3 b0 b1 b2 b3 n2 d2 e2 h2)
  have F3 := fun w => Lib.hid (Mul_any an ad bn bd w a0 a1 a2 a3 b0 b1 b2 b3 n3 d3 e3 h3)
  have F4 := fun w => Lib.hid (Div_any an ad bn bd w a0 a1 a2 a3 b0 b1 b2 b3 n4 d4 e4 h4)
  have F5 := fun w => Lib.hid (Cmp_any an ad bn bd w a0 a1 a2 a3 b0 b1 b2 b3 k 0 h5)
  have VA := fun w => Lib.hid (refValid_any an ad w a0 a1 a2 a3)
  have VB := fun w => Lib.hid (refValid_any bn bd w b0 b1 b2 b3)
  simp only [ha] at VA
  simp only [hb] at VB
  clear h1 h2 h3 h4 h5 ha va vb hb hk a0 a1 a2 a3 b0 b1 b2 b3
  go_enter Tryd.func3, Tryd.ntmps3
  go_wp2_with fail
  have T : Hid (Sto w ((w.alloc (Obj.cells #[Value.int IntKind.i64 an, Value.int IntKind.i64 ad] 23)).alloc (Obj.cells #[Value.int IntKind.i64 bn, Value.int IntKind.i64 bd] 23)) [(w.heap.size + 1, .int .i64 bn, .int .i64 bd), (w.heap.size, .int .i64 an, .int .i64 ad)]) := two_sto w _ _ _ _ _
  (with_reducible refine ((awake_any _ (Lib.hid (pow_on hT.out T.out.below))).mono ?_))
  rintro e w0 ⟨rfl, hb⟩
  replace T := Lib.hid (T.out.on hb)
  clear hb hT
  obtain ⟨_, p1, q1⟩ := T.out.get (w.heap.size, .int .i64 an, .int .i64 ad) (by simp)
  obtain ⟨_, p0, q0⟩ := T.out.get (w.heap.size + 1, .int .i64 bn, .int .i64 bd) (by simp)
  go_wp2_with fail
  (with_reducible refine ((F1 _).out).mono ?_)
  rintro e w1 ⟨rfl, hb⟩
  replace T := Lib.hid (T.out.on hb)
  clear hb
  clear p1 q1 p0 q0
  obtain ⟨_, p1, q1⟩ := T.out.get (w.heap.size, .int .i64 an, .int .i64 ad) (by simp)
  obtain ⟨_, p0, q0⟩ := T.out.get (w.heap.size + 1, .int .i64 bn, .int .i64 bd) (by simp)
  go_wp2_with fail
  replace T := Lib.hid (T.out.add (.int .i64 n1) (.int .i64 d1) 23)
  (with_reducible refine ((F2 _).out).mono ?_)
  rintro e w2 ⟨rfl, hb⟩
  replace T := Lib.hid (T.out.on hb)
  clear hb
  clear p1 q1 p0 q0
  obtain ⟨_, p2, q2⟩ := T.out.get (w.heap.size, .int .i64 an, .int .i64 ad) (by simp)
  obtain ⟨_, p1, q1⟩ := T.out.get (w.heap.size + 1, .int .i64 bn, .int .i64 bd) (by simp)
  go_wp2_with fail
  replace T := Lib.hid (T.out.add (.int .i64 n2) (.int .i64 d2) 23)
  (with_reducible refine ((F3 _).out).mono ?_)
  rintro e w3 ⟨rfl, hb⟩
  replace T := Lib.hid (T.out.on hb)
  clear hb
  clear p2 q2 p1 q1
  obtain ⟨_, p3, q3⟩ := T.out.get (w.heap.size, .int .i64 an, .int .i64 ad) (by simp)
  obtain ⟨_, p2, q2⟩ := T.out.get (w.heap.size + 1, .int .i64 bn, .int .i64 bd) (by simp)
  go_wp2_with fail
  replace T := Lib.hid (T.out.add (.int .i64 n3) (.int .i64 d3) 23)
  (with_reducible refine ((F4 _).out).mono ?_)
  rintro e w4 ⟨rfl, hb⟩
  replace T := Lib.hid (T.out.on hb)
  clear hb
  clear p3 q3 p2 q2
  obtain ⟨_, p4, q4⟩ := T.out.get (w.heap.size, .int .i64 an, .int .i64 ad) (by simp)
  obtain ⟨_, p3, q3⟩ := T.out.get (w.heap.size + 1, .int .i64 bn, .int .i64 bd) (by simp)
  go_wp2_with fail
  replace T := Lib.hid (T.out.add (.int .i64 n4) (.int .i64 d4) 23)
  (with_reducible refine ((F5 _).out).mono ?_)
  rintro e w5 ⟨rfl, hb⟩
  replace T := Lib.hid (T.out.on hb)
  clear hb
  clear p4 q4 p3 q3
  obtain ⟨_, p5, q5⟩ := T.out.get (w.heap.size, .int .i64 an, .int .i64 ad) (by simp)
  go_wp2_with fail
  (with_reducible refine ((VA _).out).mono ?_)
  rintro e w6 ⟨rfl, hb⟩
  replace T := Lib.hid (T.out.on hb)
  clear hb
  clear p5 q5
  obtain ⟨_, p4, q4⟩ := T.out.get (w.heap.size + 1, .int .i64 bn, .int .i64 bd) (by simp)
  go_wp2_with fail
  (with_reducible refine ((VB _).out).mono ?_)
  rintro e w7 ⟨rfl, hb⟩
  replace T := Lib.hid (T.out.on hb)
  clear hb
  clear p4 q4
  obtain ⟨_, p5, q5⟩ := T.out.get (w.heap.size, .int .i64 an, .int .i64 ad) (by simp)
  obtain ⟨_, p4, q4⟩ := T.out.get (w.heap.size + 1, .int .i64 bn, .int .i64 bd) (by simp)
  go_wp2_with fail
  (with_reducible refine ((R1 _).out).mono ?_)
  rintro e w8 ⟨rfl, hb⟩
  replace T := Lib.hid (T.out.on hb)
  clear hb
  clear p5 q5 p4 q4
  obtain ⟨_, p5, q5⟩ := T.out.get (w.heap.size, .int .i64 an, .int .i64 ad) (by simp)
  obtain ⟨_, p4, q4⟩ := T.out.get (w.heap.size + 1, .int .i64 bn, .int .i64 bd) (by simp)
  go_wp2_with fail
  replace T := Lib.hid (T.out.add (.int .i64 n1) (.int .i64 d1) 23)
  (with_reducible refine ((R2 _).out).mono ?_)
  rintro e w9 ⟨rfl, hb⟩
  replace T := Lib.hid (T.out.on hb)
  clear hb
  clear p5 q5 p4 q4
  obtain ⟨_, p6, q6⟩ := T.out.get (w.heap.size, .int .i64 an, .int .i64 ad) (by simp)
  obtain ⟨_, p5, q5⟩ := T.out.get (w.heap.size + 1, .int .i64 bn, .int .i64 bd) (by simp)
  go_wp2_with fail
  replace T := Lib.hid (T.out.add (.int .i64 n2) (.int .i64 d2) 23)
  (with_reducible refine ((R3 _).out).mono ?_)
  rintro e w10 ⟨rfl, hb⟩
  replace T := Lib.hid (T.out.on hb)
  clear hb
  clear p6 q6 p5 q5
  obtain ⟨_, p7, q7⟩ := T.out.get (w.heap.size, .int .i64 an, .int .i64 ad) (by simp)
  obtain ⟨_, p6, q6⟩ := T.out.get (w.heap.size + 1, .int .i64 bn, .int .i64 bd) (by simp)
  go_wp2_with fail
  replace T := Lib.hid (T.out.add (.int .i64 n3) (.int .i64 d3) 23)
  (with_reducible refine ((R4 _).out).mono ?_)
  rintro e w11 ⟨rfl, hb⟩
  replace T := Lib.hid (T.out.on hb)
  clear hb
  clear p7 q7 p6 q6
  obtain ⟨_, p6, q6⟩ := T.out.get (w1.heap.size, (.int .i64 n1), (.int .i64 d1)) (by simp)
  obtain ⟨_, p2, q2⟩ := T.out.get (w8.heap.size, (.int .i64 n1), (.int .i64 d1)) (by simp)
  go_wp2_with fail
  replace T := Lib.hid (T.out.add (.int .i64 n4) (.int .i64 d4) 23)
  (with_reducible refine ((S1 _).out).mono ?_)
  rintro e w12 ⟨rfl, hb⟩
  replace T := Lib.hid (T.out.on hb)
  clear hb
  clear p6 q6 p2 q2
  obtain ⟨_, p6, q6⟩ := T.out.get (w2.heap.size, (.int .i64 n2), (.int .i64 d2)) (by simp)
  obtain ⟨_, p2, q2⟩ := T.out.get (w9.heap.size, (.int .i64 n2), (.int .i64 d2)) (by simp)
  go_wp2_with fail
  (with_reducible refine ((S2 _).out).mono ?_)
  rintro e w13 ⟨rfl, hb⟩
  replace T := Lib.hid (T.out.on hb)
  clear hb
  clear p6 q6 p2 q2
  obtain ⟨_, p5, q5⟩ := T.out.get (w3.heap.size, (.int .i64 n3), (.int .i64 d3)) (by simp)
  obtain ⟨_, p1, q1⟩ := T.out.get (w10.heap.size, (.int .i64 n3), (.int .i64 d3)) (by simp)
  go_wp2_with fail
  (with_reducible refine ((S3 _).out).mono ?_)
  rintro e w14 ⟨rfl, hb⟩
  replace T := Lib.hid (T.out.on hb)
  clear hb
  clear p5 q5 p1 q1
  obtain ⟨_, p4, q4⟩ := T.out.get (w4.heap.size, (.int .i64 n4), (.int .i64 d4)) (by simp)
  obtain ⟨_, p0, q0⟩ := T.out.get (w11.heap.size, (.int .i64 n4), (.int .i64 d4)) (by simp)
  go_wp2_with fail
  (with_reducible refine ((S4 _).out).mono ?_)
  rintro e w15 ⟨rfl, hb⟩
  replace T := Lib.hid (T.out.on hb)
  clear hb
  clear p4 q4 p0 q0
  obtain ⟨_, p9, q9⟩ := T.out.get (w.heap.size, .int .i64 an, .int .i64 ad) (by simp)
  obtain ⟨_, p8, q8⟩ := T.out.get (w.heap.size + 1, .int .i64 bn, .int .i64 bd) (by simp)
  go_wp2_with fail
  (with_reducible refine ((R5 _).out).mono ?_)
  rintro e w16 ⟨rfl, hb⟩
  replace T := Lib.hid (T.out.on hb)
  clear hb
  clear p9 q9 p8 q8
  go_wp2_with fail
  go_ret
  exact ⟨rfl, T.out.below⟩

set_option maxRecDepth 100000 in
set_option maxHeartbeats 8000000 in
theorem reckons_noA (an ad bn bd : Int) (w : World) (a0 : -9223372036854775808 ≤ an) (a1 : an ≤ 9223372036854775807) (a2 : -9223372036854775808 ≤ ad) (a3 : ad ≤ 9223372036854775807) (b0 : -9223372036854775808 ≤ bn) (b1 : bn ≤ 9223372036854775807) (b2 : -9223372036854775808 ≤ bd) (b3 : bd ≤ 9223372036854775807) (hT : Hid (Pow10 w.heap.size w)) (ha : vB an ad = false) :
    Calls Tryd.prog 3 #[.agg #[.int .i64 an, .int .i64 ad], .agg #[.int .i64 bn, .int .i64 bd]] w fun e w' => e = .returned (.bool true) ∧ Below w.heap.size w w' := by
  have h1 : addT an ad bn bd = (0, 0, 1) := by unfold addT; rw [okT_a ha]
  have h2 : subT an ad bn bd = (0, 0, 1) := by unfold subT; rw [okT_a ha]
  have h3 : mulT an ad bn bd = (0, 0, 1) := by unfold mulT; rw [okT_a ha]
  have h4 : divT an ad bn bd = (0, 0, 1) := by unfold divT; rw [okT_a ha]
  have h5 : cmpT an ad bn bd = (0, 1) := by unfold cmpT; rw [if_neg (by simp [ha])]
  have S1 := fun w => Lib.hid (same_eq 0 0 1 w)
  have F1 := fun w => Lib.hid (Add_any an ad bn bd w a0 a1 a2 a3 b0 b1 b2 b3 0 0 1 h1)
  have F2 := fun w => Lib.hid (Sub_any an ad bn bd w a0 a1 a2 a3 b0 b1 b2 b3 0 0 1 h2)
  have F3 := fun w => Lib.hid (Mul_any an ad bn bd w a0 a1 a2 a3 b0 b1 b2 b3 0 0 1 h3)
  have F4 := fun w => Lib.hid (Div_any an ad bn bd w a0 a1 a2 a3 b0 b1 b2 b3 0 0 1 h4)
  have F5 := fun w => Lib.hid (Cmp_any an ad bn bd w a0 a1 a2 a3 b0 b1 b2 b3 0 1 h5)
  have VA := fun w => Lib.hid (refValid_any an ad w a0 a1 a2 a3)
  have VB := fun w => Lib.hid (refValid_any bn bd w b0 b1 b2 b3)
  simp only [ha] at VA
  clear h1 h2 h3 h4 h5 ha  a0 a1 a2 a3 b0 b1 b2 b3
  go_enter Tryd.func3, Tryd.ntmps3
  go_wp2_with fail
  have T : Hid (Sto w ((w.alloc (Obj.cells #[Value.int IntKind.i64 an, Value.int IntKind.i64 ad] 23)).alloc (Obj.cells #[Value.int IntKind.i64 bn, Value.int IntKind.i64 bd] 23)) [(w.heap.size + 1, .int .i64 bn, .int .i64 bd), (w.heap.size, .int .i64 an, .int .i64 ad)]) := two_sto w _ _ _ _ _
  (with_reducible refine ((awake_any _ (Lib.hid (pow_on hT.out T.out.below))).mono ?_))
  rintro e w0 ⟨rfl, hb⟩
  replace T := Lib.hid (T.out.on hb)
  clear hb hT
  obtain ⟨_, p1, q1⟩ := T.out.get (w.heap.size, .int .i64 an, .int .i64 ad) (by simp)
  obtain ⟨_, p0, q0⟩ := T.out.get (w.heap.size + 1, .int .i64 bn, .int .i64 bd) (by simp)
  go_wp2_with fail
  (with_reducible refine ((F1 _).out).mono ?_)
  rintro e w1 ⟨rfl, hb⟩
  replace T := Lib.hid (T.out.on hb)
  clear hb
  clear p1 q1 p0 q0
  obtain ⟨_, p1, q1⟩ := T.out.get (w.heap.size, .int .i64 an, .int .i64 ad) (by simp)
  obtain ⟨_, p0, q0⟩ := T.out.get (w.heap.size + 1, .int .i64 bn, .int .i64 bd) (by simp)
  go_wp2_with fail
  replace T := Lib.hid (T.out.add (.int .i64 0) (.int .i64 0) 23)
  (with_reducible refine ((F2 _).out).mono ?_)
  rintro e w2 ⟨rfl, hb⟩
  replace T := Lib.hid (T.out.on hb)
  clear hb
  clear p1 q1 p0 q0
  obtain ⟨_, p2, q2⟩ := T.out.get (w.heap.size, .int .i64 an, .int .i64 ad) (by simp)
  obtain ⟨_, p1, q1⟩ := T.out.get (w.heap.size + 1, .int .i64 bn, .int .i64 bd) (by simp)
  go_wp2_with fail
  replace T := Lib.hid (T.out.add (.int .i64 0) (.int .i64 0) 23)
  (with_reducible refine ((F3 _).out).mono ?_)
  rintro e w3 ⟨rfl, hb⟩
  replace T := Lib.hid (T.out.on hb)
  clear hb
  clear p2 q2 p1 q1
  obtain ⟨_, p3, q3⟩ := T.out.get (w.heap.size, .int .i64 an, .int .i64 ad) (by simp)
  obtain ⟨_, p2, q2⟩ := T.out.get (w.heap.size + 1, .int .i64 bn, .int .i64 bd) (by simp)
  go_wp2_with fail
  replace T := Lib.hid (T.out.add (.int .i64 0) (.int .i64 0) 23)
  (with_reducible refine ((F4 _).out).mono ?_)
  rintro e w4 ⟨rfl, hb⟩
  replace T := Lib.hid (T.out.on hb)
  clear hb
  clear p3 q3 p2 q2
  obtain ⟨_, p4, q4⟩ := T.out.get (w.heap.size, .int .i64 an, .int .i64 ad) (by simp)
  obtain ⟨_, p3, q3⟩ := T.out.get (w.heap.size + 1, .int .i64 bn, .int .i64 bd) (by simp)
  go_wp2_with fail
  replace T := Lib.hid (T.out.add (.int .i64 0) (.int .i64 0) 23)
  (with_reducible refine ((F5 _).out).mono ?_)
  rintro e w5 ⟨rfl, hb⟩
  replace T := Lib.hid (T.out.on hb)
  clear hb
  clear p4 q4 p3 q3
  obtain ⟨_, p5, q5⟩ := T.out.get (w.heap.size, .int .i64 an, .int .i64 ad) (by simp)
  go_wp2_with fail
  (with_reducible refine ((VA _).out).mono ?_)
  rintro e w6 ⟨rfl, hb⟩
  replace T := Lib.hid (T.out.on hb)
  clear hb
  clear p5 q5
  obtain ⟨_, p3, q3⟩ := T.out.get (w1.heap.size, (.int .i64 0), (.int .i64 0)) (by simp)
  go_wp2_with fail
  replace T := Lib.hid (T.out.add (.int .i64 0) (.int .i64 0) 23)
  (with_reducible refine ((S1 _).out).mono ?_)
  rintro e w7 ⟨rfl, hb⟩
  replace T := Lib.hid (T.out.on hb)
  clear hb
  clear p3 q3
  obtain ⟨_, p3, q3⟩ := T.out.get (w2.heap.size, (.int .i64 0), (.int .i64 0)) (by simp)
  obtain ⟨_, p0, q0⟩ := T.out.get (w6.heap.size, .int .i64 0, .int .i64 0) (by simp)
  go_wp2_with fail
  (with_reducible refine ((S1 _).out).mono ?_)
  rintro e w8 ⟨rfl, hb⟩
  replace T := Lib.hid (T.out.on hb)
  clear hb
  clear p3 q3 p0 q0
  obtain ⟨_, p2, q2⟩ := T.out.get (w3.heap.size, (.int .i64 0), (.int .i64 0)) (by simp)
  obtain ⟨_, p0, q0⟩ := T.out.get (w6.heap.size, .int .i64 0, .int .i64 0) (by simp)
  go_wp2_with fail
  (with_reducible refine ((S1 _).out).mono ?_)
  rintro e w9 ⟨rfl, hb⟩
  replace T := Lib.hid (T.out.on hb)
  clear hb
  clear p2 q2 p0 q0
  obtain ⟨_, p1, q1⟩ := T.out.get (w4.heap.size, (.int .i64 0), (.int .i64 0)) (by simp)
  obtain ⟨_, p0, q0⟩ := T.out.get (w6.heap.size, .int .i64 0, .int .i64 0) (by simp)
  go_wp2_with fail
  (with_reducible refine ((S1 _).out).mono ?_)
  rintro e w10 ⟨rfl, hb⟩
  replace T := Lib.hid (T.out.on hb)
  clear hb
  clear p1 q1 p0 q0
  go_wp2_with fail
  go_ret
  exact ⟨rfl, T.out.below⟩

set_option maxRecDepth 100000 in
set_option maxHeartbeats 8000000 in
theorem reckons_noB (an ad bn bd : Int) (w : World) (a0 : -9223372036854775808 ≤ an) (a1 : an ≤ 9223372036854775807) (a2 : -9223372036854775808 ≤ ad) (a3 : ad ≤ 9223372036854775807) (b0 : -9223372036854775808 ≤ bn) (b1 : bn ≤ 9223372036854775807) (b2 : -9223372036854775808 ≤ bd) (b3 : bd ≤ 9223372036854775807) (hT : Hid (Pow10 w.heap.size w)) (ha : vB an ad = true) (hb : vB bn bd = false) :
    Calls Tryd.prog 3 #[.agg #[.int .i64 an, .int .i64 ad], .agg #[.int .i64 bn, .int .i64 bd]] w fun e w' => e = .returned (.bool true) ∧ Below w.heap.size w w' := by
  have h1 : addT an ad bn bd = (0, 0, 1) := by unfold addT; rw [okT_b hb]
  have h2 : subT an ad bn bd = (0, 0, 1) := by unfold subT; rw [okT_b hb]
  have h3 : mulT an ad bn bd = (0, 0, 1) := by unfold mulT; rw [okT_b hb]
  have h4 : divT an ad bn bd = (0, 0, 1) := by unfold divT; rw [okT_b hb]
  have h5 : cmpT an ad bn bd = (0, 1) := by unfold cmpT; rw [if_neg (by simp [hb])]
  have S1 := fun w => Lib.hid (same_eq 0 0 1 w)
  have F1 := fun w => Lib.hid (Add_any an ad bn bd w a0 a1 a2 a3 b0 b1 b2 b3 0 0 1 h1)
  have F2 := fun w => Lib.hid (Sub_any an ad bn bd w a0 a1 a2 a3 b0 b1 b2 b3 0 0 1 h2)
  have F3 := fun w => Lib.hid (Mul_any an ad bn bd w a0 a1 a2 a3 b0 b1 b2 b3 0 0 1 h3)
  have F4 := fun w => Lib.hid (Div_any an ad bn bd w a0 a1 a2 a3 b0 b1 b2 b3 0 0 1 h4)
  have F5 := fun w => Lib.hid (Cmp_any an ad bn bd w a0 a1 a2 a3 b0 b1 b2 b3 0 1 h5)
  have VA := fun w => Lib.hid (refValid_any an ad w a0 a1 a2 a3)
  have VB := fun w => Lib.hid (refValid_any bn bd w b0 b1 b2 b3)
  simp only [ha] at VA
  simp only [hb] at VB
  clear h1 h2 h3 h4 h5 ha hb a0 a1 a2 a3 b0 b1 b2 b3
  go_enter Tryd.func3, Tryd.ntmps3
  go_wp2_with fail
  have T : Hid (Sto w ((w.alloc (Obj.cells #[Value.int IntKind.i64 an, Value.int IntKind.i64 ad] 23)).alloc (Obj.cells #[Value.int IntKind.i64 bn, Value.int IntKind.i64 bd] 23)) [(w.heap.size + 1, .int .i64 bn, .int .i64 bd), (w.heap.size, .int .i64 an, .int .i64 ad)]) := two_sto w _ _ _ _ _
  (with_reducible refine ((awake_any _ (Lib.hid (pow_on hT.out T.out.below))).mono ?_))
  rintro e w0 ⟨rfl, hb⟩
  replace T := Lib.hid (T.out.on hb)
  clear hb hT
  obtain ⟨_, p1, q1⟩ := T.out.get (w.heap.size, .int .i64 an, .int .i64 ad) (by simp)
  obtain ⟨_, p0, q0⟩ := T.out.get (w.heap.size + 1, .int .i64 bn, .int .i64 bd) (by simp)
  go_wp2_with fail
  (with_reducible refine ((F1 _).out).mono ?_)
  rintro e w1 ⟨rfl, hb⟩
  replace T := Lib.hid (T.out.on hb)
  clear hb
  clear p1 q1 p0 q0
  obtain ⟨_, p1, q1⟩ := T.out.get (w.heap.size, .int .i64 an, .int .i64 ad) (by simp)
  obtain ⟨_, p0, q0⟩ := T.out.get (w.heap.size + 1, .int .i64 bn, .int .i64 bd) (by simp)
  go_wp2_with fail
  replace T := Lib.hid (T.out.add (.int .i64 0) (.int .i64 0) 23)
  (with_reducible refine ((F2 _).out).mono ?_)
  rintro e w2 ⟨rfl, hb⟩
  replace T := Lib.hid (T.out.on hb)
  clear hb
  clear p1 q1 p0 q0
  obtain ⟨_, p2, q2⟩ := T.out.get (w.heap.size, .int .i64 an, .int .i64 ad) (by simp)
  obtain ⟨_, p1, q1⟩ := T.out.get (w.heap.size + 1, .int .i64 bn, .int .i64 bd) (by simp)
  go_wp2_with fail
  replace T := Lib.hid (T.out.add (.int .i64 0) (.int .i64 0) 23)
  (with_reducible refine ((F3 _).out).mono ?_)
  rintro e w3 ⟨rfl, hb⟩
  replace T := Lib.hid (T.out.on hb)
  clear hb
  clear p2 q2 p1 q1
  obtain ⟨_, p3, q3⟩ := T.out.get (w.heap.size, .int .i64 an, .int .i64 ad) (by simp)
  obtain ⟨_, p2, q2⟩ := T.out.get (w.heap.size + 1, .int .i64 bn, .int .i64 bd) (by simp)
  go_wp2_with fail
  replace T := Lib.hid (T.out.add (.int .i64 0) (.int .i64 0) 23)
  (with_reducible refine ((F4 _).out).mono ?_)
  rintro e w4 ⟨rfl, hb⟩
  replace T := Lib.hid (T.out.on hb)
  clear hb
  clear p3 q3 p2 q2
  obtain ⟨_, p4, q4⟩ := T.out.get (w.heap.size, .int .i64 an, .int .i64 ad) (by simp)
  obtain ⟨_, p3, q3⟩ := T.out.get (w.heap.size + 1, .int .i64 bn, .int .i64 bd) (by simp)
  go_wp2_with fail
  replace T := Lib.hid (T.out.add (.int .i64 0) (.int .i64 0) 23)
  (with_reducible refine ((F5 _).out).mono ?_)
  rintro e w5 ⟨rfl, hb⟩
  replace T := Lib.hid (T.out.on hb)
  clear hb
  clear p4 q4 p3 q3
  obtain ⟨_, p5, q5⟩ := T.out.get (w.heap.size, .int .i64 an, .int .i64 ad) (by simp)
  go_wp2_with fail
  (with_reducible refine ((VA _).out).mono ?_)
  rintro e w6 ⟨rfl, hb⟩
  replace T := Lib.hid (T.out.on hb)
  clear hb
  clear p5 q5
  obtain ⟨_, p4, q4⟩ := T.out.get (w.heap.size + 1, .int .i64 bn, .int .i64 bd) (by simp)
  go_wp2_with fail
  (with_reducible refine ((VB _).out).mono ?_)
  rintro e w7 ⟨rfl, hb⟩
  replace T := Lib.hid (T.out.on hb)
  clear hb
  clear p4 q4
  obtain ⟨_, p3, q3⟩ := T.out.get (w1.heap.size, (.int .i64 0), (.int .i64 0)) (by simp)
  go_wp2_with fail
  replace T := Lib.hid (T.out.add (.int .i64 0) (.int .i64 0) 23)
  (with_reducible refine ((S1 _).out).mono ?_)
  rintro e w8 ⟨rfl, hb⟩
  replace T := Lib.hid (T.out.on hb)
  clear hb
  clear p3 q3
  obtain ⟨_, p3, q3⟩ := T.out.get (w2.heap.size, (.int .i64 0), (.int .i64 0)) (by simp)
  obtain ⟨_, p0, q0⟩ := T.out.get (w7.heap.size, .int .i64 0, .int .i64 0) (by simp)
  go_wp2_with fail
  (with_reducible refine ((S1 _).out).mono ?_)
  rintro e w9 ⟨rfl, hb⟩
  replace T := Lib.hid (T.out.on hb)
  clear hb
  clear p3 q3 p0 q0
  obtain ⟨_, p2, q2⟩ := T.out.get (w3.heap.size, (.int .i64 0), (.int .i64 0)) (by simp)
  obtain ⟨_, p0, q0⟩ := T.out.get (w7.heap.size, .int .i64 0, .int .i64 0) (by simp)
  go_wp2_with fail
  (with_reducible refine ((S1 _).out).mono ?_)
  rintro e w10 ⟨rfl, hb⟩
  replace T := Lib.hid (T.out.on hb)
  clear hb
  clear p2 q2 p0 q0
  obtain ⟨_, p1, q1⟩ := T.out.get (w4.heap.size, (.int .i64 0), (.int .i64 0)) (by simp)
  obtain ⟨_, p0, q0⟩ := T.out.get (w7.heap.size, .int .i64 0, .int .i64 0) (by simp)
  go_wp2_with fail
  (with_reducible refine ((S1 _).out).mono ?_)
  rintro e w11 ⟨rfl, hb⟩
  replace T := Lib.hid (T.out.on hb)
  clear hb
  clear p1 q1 p0 q0
  go_wp2_with fail
  go_ret
  exact ⟨rfl, T.out.below⟩

theorem reckons_walk (an ad bn bd : Int) (w : World) (a0 : -9223372036854775808 ≤ an) (a1 : an ≤ 9223372036854775807) (a2 : -9223372036854775808 ≤ ad) (a3 : ad ≤ 9223372036854775807) (b0 : -9223372036854775808 ≤ bn) (b1 : bn ≤ 9223372036854775807) (b2 : -9223372036854775808 ≤ bd) (b3 : bd ≤ 9223372036854775807) (hT : Hid (Pow10 w.heap.size w)) :
    Calls Tryd.prog 3 #[.agg #[.int .i64 an, .int .i64 ad], .agg #[.int .i64 bn, .int .i64 bd]] w fun e w' => e = .returned (.bool true) ∧ Below w.heap.size w w' := by
  by_cases ha : vB an ad = true
  · by_cases hb : vB bn bd = true
    · exact reckons_both an ad bn bd w a0 a1 a2 a3 b0 b1 b2 b3 hT (vB_vld ha) (vB_vld hb)
    · exact reckons_noB an ad bn bd w a0 a1 a2 a3 b0 b1 b2 b3 hT ha (by simpa using hb)
  · exact reckons_noA an ad bn bd w a0 a1 a2 a3 b0 b1 b2 b3 hT (by simpa using ha)

end Go.Proofs.YtknbhpnhnhfbpaaDoor
