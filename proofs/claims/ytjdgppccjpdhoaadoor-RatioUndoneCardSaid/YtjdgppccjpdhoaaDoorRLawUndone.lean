/- The walk of the law RatioUndone. -/
import Derived.Test.YtjdgppccjpdhoaaDoorRLawMath2
namespace Go.Proofs.YtjdgppccjpdhoaaDoor
set_option linter.unusedVariables false
open Go.RowKit Go.Shelf

set_option maxHeartbeats 4000000 in
theorem undone_ok_bad (an ad bn bd : Int) (w : World) (an0 : -9223372036854775808 ≤ an) (an1 : an ≤ 9223372036854775807) (ad0 : -9223372036854775808 ≤ ad) (ad1 : ad ≤ 9223372036854775807) (bn0 : -9223372036854775808 ≤ bn) (bn1 : bn ≤ 9223372036854775807) (bd0 : -9223372036854775808 ≤ bd) (bd1 : bd ≤ 9223372036854775807) (hT : Hid (Pow10 w.heap.size w)) (va : Vld an ad ∨ True) (sn sd se pn pd pe : Int) (hs : addT an ad bn bd = (sn, sd, se)) (hp : mulT an ad bn bd = (pn, pd, pe)) (es : se = 0) (vs : Vld sn sd) (hsub : subT sn sd bn bd = (an, ad, 0)) (ep : pe ≠ 0) (zp : pn = 0 ∧ pd = 0) :
    Calls Tryd.prog 6 #[.agg #[.int .i64 an, .int .i64 ad], .agg #[.int .i64 bn, .int .i64 bd]] w fun e w' => e = .returned (.bool true) ∧ Below w.heap.size w w' := by
  have hs2 := (addT_comm bn bd an ad).trans hs
  have hp2 := (mulT_comm bn bd an ad).trans hp
  have C1 := fun w => Lib.hid (Add_any an ad bn bd w (by omega) (by omega) (by omega) (by omega) (by omega) (by omega) (by omega) (by omega) sn sd se hs)
  have C2 := fun w => Lib.hid (Add_any bn bd an ad w (by omega) (by omega) (by omega) (by omega) (by omega) (by omega) (by omega) (by omega) sn sd se hs2)
  have C3 := fun w => Lib.hid (Mul_any an ad bn bd w (by omega) (by omega) (by omega) (by omega) (by omega) (by omega) (by omega) (by omega) pn pd pe hp)
  have C4 := fun w => Lib.hid (Mul_any bn bd an ad w (by omega) (by omega) (by omega) (by omega) (by omega) (by omega) (by omega) (by omega) pn pd pe hp2)
  have v1 := vs.d1; have v2 := vs.d2; have v3 := vs.n1; have v4 := vs.n2
  have C5 := fun w => Lib.hid (Sub_any sn sd bn bd w (by omega) (by omega) (by omega) (by omega) (by omega) (by omega) (by omega) (by omega) an ad 0 hsub)
  have C6 := fun w => Lib.hid (Valid_any sn sd w (by omega) (by omega) (by omega) (by omega))
  simp only [vB_yes vs] at C6
  subst es
  obtain ⟨z3, z4⟩ := zp
  subst z3; subst z4
  have f4 : (pe == 0) = false := by simpa using ep
  have f5 : (pe != 0) = true := by simpa using ep
  clear hs hp hs2 hp2 va an0 an1 ad0 ad1 bn0 bn1 bd0 bd1 hsub v1 v2 v3 v4 vs ep
  go_enter Tryd.func6, Tryd.ntmps6
  go_wp2_with fail
  have A0 : Below w.heap.size w ((w.alloc (Obj.cells #[Value.int IntKind.i64 an, Value.int IntKind.i64 ad] 23)).alloc (Obj.cells #[Value.int IntKind.i64 bn, Value.int IntKind.i64 bd] 23)) := (by repeat' (first | (with_reducible exact Below.refl _ _) | (with_reducible assumption) | (with_reducible refine Below.alloc ?_ ?_ _) | (with_reducible refine below_drew ?_ _) | (with_reducible refine Below.drew ?_) | (with_reducible refine Below.setCell ?_ ?_ _) | go_size))
  (with_reducible refine ((awake_any _ (Lib.hid (pow_on hT.out A0))).mono ?_))
  rintro e w1 ⟨rfl, b1⟩
  have B1 := Lib.hid (below_on A0 b1)
  have K1_0 := Lib.hid (Blk.on (W := ((w.alloc (Obj.cells #[Value.int IntKind.i64 an, Value.int IntKind.i64 ad] 23)).alloc (Obj.cells #[Value.int IntKind.i64 bn, Value.int IntKind.i64 bd] 23))) ((Blk.new w _ _ _).alloc _) b1)
  have K1_1 := Lib.hid (Blk.on (W := ((w.alloc (Obj.cells #[Value.int IntKind.i64 an, Value.int IntKind.i64 ad] 23)).alloc (Obj.cells #[Value.int IntKind.i64 bn, Value.int IntKind.i64 bd] 23))) (Blk.new1 w _ _ _ _) b1)
  clear b1 A0
  obtain ⟨s1_0, c1_0, d1_0⟩ := K1_0.out
  obtain ⟨s1_1, c1_1, d1_1⟩ := K1_1.out
  go_wp2_with fail
  (with_reducible refine ((C1 _).out).mono ?_)
  rintro e w2 ⟨rfl, b2⟩
  have K2_0 := Lib.hid (K1_0.out.on b2)
  have K2_1 := Lib.hid (K1_1.out.on b2)
  have B2 := Lib.hid (below_on B1.out b2)
  clear b2 s1_0 c1_0 d1_0 s1_1 c1_1 d1_1
  obtain ⟨s2_0, c2_0, d2_0⟩ := K2_0.out
  obtain ⟨s2_1, c2_1, d2_1⟩ := K2_1.out
  go_wp2_with fail
  (with_reducible refine ((C2 _).out).mono ?_)
  rintro e w3 ⟨rfl, b3⟩
  have K3_0 := Lib.hid ((K2_0.out.alloc _).on b3)
  have K3_1 := Lib.hid ((K2_1.out.alloc _).on b3)
  have K3_2 := Lib.hid ((Blk.new w2 _ _ _).on b3)
  have B3 := Lib.hid (below_on (B2.out.alloc B2.out.size _) b3)
  clear b3 s2_0 c2_0 d2_0 s2_1 c2_1 d2_1
  obtain ⟨s3_0, c3_0, d3_0⟩ := K3_0.out
  obtain ⟨s3_1, c3_1, d3_1⟩ := K3_1.out
  obtain ⟨s3_2, c3_2, d3_2⟩ := K3_2.out
  go_wp2_with fail
  (with_reducible refine ((C3 _).out).mono ?_)
  rintro e w4 ⟨rfl, b4⟩
  have K4_0 := Lib.hid ((K3_0.out.alloc _).on b4)
  have K4_1 := Lib.hid ((K3_1.out.alloc _).on b4)
  have K4_2 := Lib.hid ((K3_2.out.alloc _).on b4)
  have K4_3 := Lib.hid ((Blk.new w3 _ _ _).on b4)
  have B4 := Lib.hid (below_on (B3.out.alloc B3.out.size _) b4)
  clear b4 s3_0 c3_0 d3_0 s3_1 c3_1 d3_1 s3_2 c3_2 d3_2
  obtain ⟨s4_0, c4_0, d4_0⟩ := K4_0.out
  obtain ⟨s4_1, c4_1, d4_1⟩ := K4_1.out
  obtain ⟨s4_2, c4_2, d4_2⟩ := K4_2.out
  obtain ⟨s4_3, c4_3, d4_3⟩ := K4_3.out
  go_wp2_with fail
  (with_reducible refine ((C4 _).out).mono ?_)
  rintro e w5 ⟨rfl, b5⟩
  have K5_0 := Lib.hid ((K4_0.out.alloc _).on b5)
  have K5_1 := Lib.hid ((K4_1.out.alloc _).on b5)
  have K5_2 := Lib.hid ((K4_2.out.alloc _).on b5)
  have K5_3 := Lib.hid ((K4_3.out.alloc _).on b5)
  have K5_4 := Lib.hid ((Blk.new w4 _ _ _).on b5)
  have B5 := Lib.hid (below_on (B4.out.alloc B4.out.size _) b5)
  clear b5 s4_0 c4_0 d4_0 s4_1 c4_1 d4_1 s4_2 c4_2 d4_2 s4_3 c4_3 d4_3
  obtain ⟨s5_0, c5_0, d5_0⟩ := K5_0.out
  obtain ⟨s5_1, c5_1, d5_1⟩ := K5_1.out
  obtain ⟨s5_2, c5_2, d5_2⟩ := K5_2.out
  obtain ⟨s5_3, c5_3, d5_3⟩ := K5_3.out
  obtain ⟨s5_4, c5_4, d5_4⟩ := K5_4.out
  go_wp2_with fail
  (with_reducible refine ((C5 _).out).mono ?_)
  rintro e w6 ⟨rfl, b6⟩
  have K6_0 := Lib.hid ((K5_0.out.alloc _).on b6)
  have K6_1 := Lib.hid ((K5_1.out.alloc _).on b6)
  have K6_2 := Lib.hid ((K5_2.out.alloc _).on b6)
  have K6_3 := Lib.hid ((K5_3.out.alloc _).on b6)
  have K6_4 := Lib.hid ((K5_4.out.alloc _).on b6)
  have K6_5 := Lib.hid ((Blk.new w5 _ _ _).on b6)
  have B6 := Lib.hid (below_on (B5.out.alloc B5.out.size _) b6)
  clear b6 s5_0 c5_0 d5_0 s5_1 c5_1 d5_1 s5_2 c5_2 d5_2 s5_3 c5_3 d5_3 s5_4 c5_4 d5_4
  obtain ⟨s6_0, c6_0, d6_0⟩ := K6_0.out
  obtain ⟨s6_1, c6_1, d6_1⟩ := K6_1.out
  obtain ⟨s6_2, c6_2, d6_2⟩ := K6_2.out
  obtain ⟨s6_3, c6_3, d6_3⟩ := K6_3.out
  obtain ⟨s6_4, c6_4, d6_4⟩ := K6_4.out
  obtain ⟨s6_5, c6_5, d6_5⟩ := K6_5.out
  go_wp2_with fail
  (with_reducible refine ((C6 _).out).mono ?_)
  rintro e w7 ⟨rfl, b7⟩
  have K7_0 := Lib.hid ((K6_0.out.alloc _).on b7)
  have K7_1 := Lib.hid ((K6_1.out.alloc _).on b7)
  have K7_2 := Lib.hid ((K6_2.out.alloc _).on b7)
  have K7_3 := Lib.hid ((K6_3.out.alloc _).on b7)
  have K7_4 := Lib.hid ((K6_4.out.alloc _).on b7)
  have K7_5 := Lib.hid ((K6_5.out.alloc _).on b7)
  have K7_6 := Lib.hid ((Blk.new w6 _ _ _).on b7)
  have B7 := Lib.hid (below_on (B6.out.alloc B6.out.size _) b7)
  clear b7 s6_0 c6_0 d6_0 s6_1 c6_1 d6_1 s6_2 c6_2 d6_2 s6_3 c6_3 d6_3 s6_4 c6_4 d6_4 s6_5 c6_5 d6_5
  obtain ⟨s7_0, c7_0, d7_0⟩ := K7_0.out
  obtain ⟨s7_1, c7_1, d7_1⟩ := K7_1.out
  obtain ⟨s7_2, c7_2, d7_2⟩ := K7_2.out
  obtain ⟨s7_3, c7_3, d7_3⟩ := K7_3.out
  obtain ⟨s7_4, c7_4, d7_4⟩ := K7_4.out
  obtain ⟨s7_5, c7_5, d7_5⟩ := K7_5.out
  obtain ⟨s7_6, c7_6, d7_6⟩ := K7_6.out
  go_wp2
  go_ret
  exact ⟨rfl, B7.out⟩

set_option maxHeartbeats 4000000 in
theorem undone_ok_zero (an ad bn bd : Int) (w : World) (an0 : -9223372036854775808 ≤ an) (an1 : an ≤ 9223372036854775807) (ad0 : -9223372036854775808 ≤ ad) (ad1 : ad ≤ 9223372036854775807) (bn0 : -9223372036854775808 ≤ bn) (bn1 : bn ≤ 9223372036854775807) (bd0 : -9223372036854775808 ≤ bd) (bd1 : bd ≤ 9223372036854775807) (hT : Hid (Pow10 w.heap.size w)) (va : Vld an ad ∨ True) (sn sd se pn pd pe : Int) (hs : addT an ad bn bd = (sn, sd, se)) (hp : mulT an ad bn bd = (pn, pd, pe)) (es : se = 0) (vs : Vld sn sd) (hsub : subT sn sd bn bd = (an, ad, 0)) (ep : pe = 0) (vp : Vld pn pd) (zb : bn = 0) (zp : pn = 0) (hdiv : divT pn pd bn bd = (0, 0, 16)) :
    Calls Tryd.prog 6 #[.agg #[.int .i64 an, .int .i64 ad], .agg #[.int .i64 bn, .int .i64 bd]] w fun e w' => e = .returned (.bool true) ∧ Below w.heap.size w w' := by
  have hs2 := (addT_comm bn bd an ad).trans hs
  have hp2 := (mulT_comm bn bd an ad).trans hp
  have C1 := fun w => Lib.hid (Add_any an ad bn bd w (by omega) (by omega) (by omega) (by omega) (by omega) (by omega) (by omega) (by omega) sn sd se hs)
  have C2 := fun w => Lib.hid (Add_any bn bd an ad w (by omega) (by omega) (by omega) (by omega) (by omega) (by omega) (by omega) (by omega) sn sd se hs2)
  have C3 := fun w => Lib.hid (Mul_any an ad bn bd w (by omega) (by omega) (by omega) (by omega) (by omega) (by omega) (by omega) (by omega) pn pd pe hp)
  have C4 := fun w => Lib.hid (Mul_any bn bd an ad w (by omega) (by omega) (by omega) (by omega) (by omega) (by omega) (by omega) (by omega) pn pd pe hp2)
  have v1 := vs.d1; have v2 := vs.d2; have v3 := vs.n1; have v4 := vs.n2
  have C5 := fun w => Lib.hid (Sub_any sn sd bn bd w (by omega) (by omega) (by omega) (by omega) (by omega) (by omega) (by omega) (by omega) an ad 0 hsub)
  have C6 := fun w => Lib.hid (Valid_any sn sd w (by omega) (by omega) (by omega) (by omega))
  simp only [vB_yes vs] at C6
  subst es
  have u1 := vp.d1; have u2 := vp.d2; have u3 := vp.n1; have u4 := vp.n2
  have C7 := fun w => Lib.hid (Div_any pn pd bn bd w (by omega) (by omega) (by omega) (by omega) (by omega) (by omega) (by omega) (by omega) 0 0 16 hdiv)
  subst ep
  subst zb; subst zp
  clear hs hp hs2 hp2 va an0 an1 ad0 ad1 bn0 bn1 bd0 bd1 hsub v1 v2 v3 v4 vs hdiv u1 u2 u3 u4 vp
  go_enter Tryd.func6, Tryd.ntmps6
  go_wp2_with fail
  have A0 : Below w.heap.size w ((w.alloc (Obj.cells #[Value.int IntKind.i64 an, Value.int IntKind.i64 ad] 23)).alloc (Obj.cells #[Value.int IntKind.i64 0, Value.int IntKind.i64 bd] 23)) := (by repeat' (first | (with_reducible exact Below.refl _ _) | (with_reducible assumption) | (with_reducible refine Below.alloc ?_ ?_ _) | (with_reducible refine below_drew ?_ _) | (with_reducible refine Below.drew ?_) | (with_reducible refine Below.setCell ?_ ?_ _) | go_size))
  (with_reducible refine ((awake_any _ (Lib.hid (pow_on hT.out A0))).mono ?_))
  rintro e w1 ⟨rfl, b1⟩
  have B1 := Lib.hid (below_on A0 b1)
  have K1_0 := Lib.hid (Blk.on (W := ((w.alloc (Obj.cells #[Value.int IntKind.i64 an, Value.int IntKind.i64 ad] 23)).alloc (Obj.cells #[Value.int IntKind.i64 0, Value.int IntKind.i64 bd] 23))) ((Blk.new w _ _ _).alloc _) b1)
  have K1_1 := Lib.hid (Blk.on (W := ((w.alloc (Obj.cells #[Value.int IntKind.i64 an, Value.int IntKind.i64 ad] 23)).alloc (Obj.cells #[Value.int IntKind.i64 0, Value.int IntKind.i64 bd] 23))) (Blk.new1 w _ _ _ _) b1)
  clear b1 A0
  obtain ⟨s1_0, c1_0, d1_0⟩ := K1_0.out
  obtain ⟨s1_1, c1_1, d1_1⟩ := K1_1.out
  go_wp2_with fail
  (with_reducible refine ((C1 _).out).mono ?_)
  rintro e w2 ⟨rfl, b2⟩
  have K2_0 := Lib.hid (K1_0.out.on b2)
  have K2_1 := Lib.hid (K1_1.out.on b2)
  have B2 := Lib.hid (below_on B1.out b2)
  clear b2 s1_0 c1_0 d1_0 s1_1 c1_1 d1_1
  obtain ⟨s2_0, c2_0, d2_0⟩ := K2_0.out
  obtain ⟨s2_1, c2_1, d2_1⟩ := K2_1.out
  go_wp2_with fail
  (with_reducible refine ((C2 _).out).mono ?_)
  rintro e w3 ⟨rfl, b3⟩
  have K3_0 := Lib.hid ((K2_0.out.alloc _).on b3)
  have K3_1 := Lib.hid ((K2_1.out.alloc _).on b3)
  have K3_2 := Lib.hid ((Blk.new w2 _ _ _).on b3)
  have B3 := Lib.hid (below_on (B2.out.alloc B2.out.size _) b3)
  clear b3 s2_0 c2_0 d2_0 s2_1 c2_1 d2_1
  obtain ⟨s3_0, c3_0, d3_0⟩ := K3_0.out
  obtain ⟨s3_1, c3_1, d3_1⟩ := K3_1.out
  obtain ⟨s3_2, c3_2, d3_2⟩ := K3_2.out
  go_wp2_with fail
  (with_reducible refine ((C3 _).out).mono ?_)
  rintro e w4 ⟨rfl, b4⟩
  have K4_0 := Lib.hid ((K3_0.out.alloc _).on b4)
  have K4_1 := Lib.hid ((K3_1.out.alloc _).on b4)
  have K4_2 := Lib.hid ((K3_2.out.alloc _).on b4)
  have K4_3 := Lib.hid ((Blk.new w3 _ _ _).on b4)
  have B4 := Lib.hid (below_on (B3.out.alloc B3.out.size _) b4)
  clear b4 s3_0 c3_0 d3_0 s3_1 c3_1 d3_1 s3_2 c3_2 d3_2
  obtain ⟨s4_0, c4_0, d4_0⟩ := K4_0.out
  obtain ⟨s4_1, c4_1, d4_1⟩ := K4_1.out
  obtain ⟨s4_2, c4_2, d4_2⟩ := K4_2.out
  obtain ⟨s4_3, c4_3, d4_3⟩ := K4_3.out
  go_wp2_with fail
  (with_reducible refine ((C4 _).out).mono ?_)
  rintro e w5 ⟨rfl, b5⟩
  have K5_0 := Lib.hid ((K4_0.out.alloc _).on b5)
  have K5_1 := Lib.hid ((K4_1.out.alloc _).on b5)
  have K5_2 := Lib.hid ((K4_2.out.alloc _).on b5)
  have K5_3 := Lib.hid ((K4_3.out.alloc _).on b5)
  have K5_4 := Lib.hid ((Blk.new w4 _ _ _).on b5)
  have B5 := Lib.hid (below_on (B4.out.alloc B4.out.size _) b5)
  clear b5 s4_0 c4_0 d4_0 s4_1 c4_1 d4_1 s4_2 c4_2 d4_2 s4_3 c4_3 d4_3
  obtain ⟨s5_0, c5_0, d5_0⟩ := K5_0.out
  obtain ⟨s5_1, c5_1, d5_1⟩ := K5_1.out
  obtain ⟨s5_2, c5_2, d5_2⟩ := K5_2.out
  obtain ⟨s5_3, c5_3, d5_3⟩ := K5_3.out
  obtain ⟨s5_4, c5_4, d5_4⟩ := K5_4.out
  go_wp2_with fail
  (with_reducible refine ((C5 _).out).mono ?_)
  rintro e w6 ⟨rfl, b6⟩
  have K6_0 := Lib.hid ((K5_0.out.alloc _).on b6)
  have K6_1 := Lib.hid ((K5_1.out.alloc _).on b6)
  have K6_2 := Lib.hid ((K5_2.out.alloc _).on b6)
  have K6_3 := Lib.hid ((K5_3.out.alloc _).on b6)
  have K6_4 := Lib.hid ((K5_4.out.alloc _).on b6)
  have K6_5 := Lib.hid ((Blk.new w5 _ _ _).on b6)
  have B6 := Lib.hid (below_on (B5.out.alloc B5.out.size _) b6)
  clear b6 s5_0 c5_0 d5_0 s5_1 c5_1 d5_1 s5_2 c5_2 d5_2 s5_3 c5_3 d5_3 s5_4 c5_4 d5_4
  obtain ⟨s6_0, c6_0, d6_0⟩ := K6_0.out
  obtain ⟨s6_1, c6_1, d6_1⟩ := K6_1.out
  obtain ⟨s6_2, c6_2, d6_2⟩ := K6_2.out
  obtain ⟨s6_3, c6_3, d6_3⟩ := K6_3.out
  obtain ⟨s6_4, c6_4, d6_4⟩ := K6_4.out
  obtain ⟨s6_5, c6_5, d6_5⟩ := K6_5.out
  go_wp2_with fail
  (with_reducible refine ((C6 _).out).mono ?_)
  rintro e w7 ⟨rfl, b7⟩
  have K7_0 := Lib.hid ((K6_0.out.alloc _).on b7)
  have K7_1 := Lib.hid ((K6_1.out.alloc _).on b7)
  have K7_2 := Lib.hid ((K6_2.out.alloc _).on b7)
  have K7_3 := Lib.hid ((K6_3.out.alloc _).on b7)
  have K7_4 := Lib.hid ((K6_4.out.alloc _).on b7)
  have K7_5 := Lib.hid ((K6_5.out.alloc _).on b7)
  have K7_6 := Lib.hid ((Blk.new w6 _ _ _).on b7)
  have B7 := Lib.hid (below_on (B6.out.alloc B6.out.size _) b7)
  clear b7 s6_0 c6_0 d6_0 s6_1 c6_1 d6_1 s6_2 c6_2 d6_2 s6_3 c6_3 d6_3 s6_4 c6_4 d6_4 s6_5 c6_5 d6_5
  obtain ⟨s7_0, c7_0, d7_0⟩ := K7_0.out
  obtain ⟨s7_1, c7_1, d7_1⟩ := K7_1.out
  obtain ⟨s7_2, c7_2, d7_2⟩ := K7_2.out
  obtain ⟨s7_3, c7_3, d7_3⟩ := K7_3.out
  obtain ⟨s7_4, c7_4, d7_4⟩ := K7_4.out
  obtain ⟨s7_5, c7_5, d7_5⟩ := K7_5.out
  obtain ⟨s7_6, c7_6, d7_6⟩ := K7_6.out
  go_wp2_with fail
  (with_reducible refine ((C7 _).out).mono ?_)
  rintro e w8 ⟨rfl, b8⟩
  have K8_0 := Lib.hid (K7_0.out.on b8)
  have K8_1 := Lib.hid (K7_1.out.on b8)
  have K8_2 := Lib.hid (K7_2.out.on b8)
  have K8_3 := Lib.hid (K7_3.out.on b8)
  have K8_4 := Lib.hid (K7_4.out.on b8)
  have K8_5 := Lib.hid (K7_5.out.on b8)
  have K8_6 := Lib.hid (K7_6.out.on b8)
  have B8 := Lib.hid (below_on B7.out b8)
  clear b8 s7_0 c7_0 d7_0 s7_1 c7_1 d7_1 s7_2 c7_2 d7_2 s7_3 c7_3 d7_3 s7_4 c7_4 d7_4 s7_5 c7_5 d7_5 s7_6 c7_6 d7_6
  obtain ⟨s8_0, c8_0, d8_0⟩ := K8_0.out
  obtain ⟨s8_1, c8_1, d8_1⟩ := K8_1.out
  obtain ⟨s8_2, c8_2, d8_2⟩ := K8_2.out
  obtain ⟨s8_3, c8_3, d8_3⟩ := K8_3.out
  obtain ⟨s8_4, c8_4, d8_4⟩ := K8_4.out
  obtain ⟨s8_5, c8_5, d8_5⟩ := K8_5.out
  obtain ⟨s8_6, c8_6, d8_6⟩ := K8_6.out
  go_wp2
  go_ret
  exact ⟨rfl, B8.out.alloc B8.out.size _⟩

set_option maxHeartbeats 4000000 in
theorem undone_ok_ok (an ad bn bd : Int) (w : World) (an0 : -9223372036854775808 ≤ an) (an1 : an ≤ 9223372036854775807) (ad0 : -9223372036854775808 ≤ ad) (ad1 : ad ≤ 9223372036854775807) (bn0 : -9223372036854775808 ≤ bn) (bn1 : bn ≤ 9223372036854775807) (bd0 : -9223372036854775808 ≤ bd) (bd1 : bd ≤ 9223372036854775807) (hT : Hid (Pow10 w.heap.size w)) (va : Vld an ad ∨ True) (sn sd se pn pd pe : Int) (hs : addT an ad bn bd = (sn, sd, se)) (hp : mulT an ad bn bd = (pn, pd, pe)) (es : se = 0) (vs : Vld sn sd) (hsub : subT sn sd bn bd = (an, ad, 0)) (ep : pe = 0) (vp : Vld pn pd) (zb : bn ≠ 0) (hdiv : divT pn pd bn bd = (an, ad, 0)) :
    Calls Tryd.prog 6 #[.agg #[.int .i64 an, .int .i64 ad], .agg #[.int .i64 bn, .int .i64 bd]] w fun e w' => e = .returned (.bool true) ∧ Below w.heap.size w w' := by
  have hs2 := (addT_comm bn bd an ad).trans hs
  have hp2 := (mulT_comm bn bd an ad).trans hp
  have C1 := fun w => Lib.hid (Add_any an ad bn bd w (by omega) (by omega) (by omega) (by omega) (by omega) (by omega) (by omega) (by omega) sn sd se hs)
  have C2 := fun w => Lib.hid (Add_any bn bd an ad w (by omega) (by omega) (by omega) (by omega) (by omega) (by omega) (by omega) (by omega) sn sd se hs2)
  have C3 := fun w => Lib.hid (Mul_any an ad bn bd w (by omega) (by omega) (by omega) (by omega) (by omega) (by omega) (by omega) (by omega) pn pd pe hp)
  have C4 := fun w => Lib.hid (Mul_any bn bd an ad w (by omega) (by omega) (by omega) (by omega) (by omega) (by omega) (by omega) (by omega) pn pd pe hp2)
  have v1 := vs.d1; have v2 := vs.d2; have v3 := vs.n1; have v4 := vs.n2
  have C5 := fun w => Lib.hid (Sub_any sn sd bn bd w (by omega) (by omega) (by omega) (by omega) (by omega) (by omega) (by omega) (by omega) an ad 0 hsub)
  have C6 := fun w => Lib.hid (Valid_any sn sd w (by omega) (by omega) (by omega) (by omega))
  simp only [vB_yes vs] at C6
  subst es
  have u1 := vp.d1; have u2 := vp.d2; have u3 := vp.n1; have u4 := vp.n2
  have C7 := fun w => Lib.hid (Div_any pn pd bn bd w (by omega) (by omega) (by omega) (by omega) (by omega) (by omega) (by omega) (by omega) an ad 0 hdiv)
  subst ep
  have f3 : (bn == 0) = false := by simpa using zb
  clear hs hp hs2 hp2 va an0 an1 ad0 ad1 bn0 bn1 bd0 bd1 hsub v1 v2 v3 v4 vs hdiv u1 u2 u3 u4 vp zb
  go_enter Tryd.func6, Tryd.ntmps6
  go_wp2_with fail
  have A0 : Below w.heap.size w ((w.alloc (Obj.cells #[Value.int IntKind.i64 an, Value.int IntKind.i64 ad] 23)).alloc (Obj.cells #[Value.int IntKind.i64 bn, Value.int IntKind.i64 bd] 23)) := (by repeat' (first | (with_reducible exact Below.refl _ _) | (with_reducible assumption) | (with_reducible refine Below.alloc ?_ ?_ _) | (with_reducible refine below_drew ?_ _) | (with_reducible refine Below.drew ?_) | (with_reducible refine Below.setCell ?_ ?_ _) | go_size))
  (with_reducible refine ((awake_any _ (Lib.hid (pow_on hT.out A0))).mono ?_))
  rintro e w1 ⟨rfl, b1⟩
  have B1 := Lib.hid (below_on A0 b1)
  have K1_0 := Lib.hid (Blk.on (W := ((w.alloc (Obj.cells #[Value.int IntKind.i64 an, Value.int IntKind.i64 ad] 23)).alloc (Obj.cells #[Value.int IntKind.i64 bn, Value.int IntKind.i64 bd] 23))) ((Blk.new w _ _ _).alloc _) b1)
  have K1_1 := Lib.hid (Blk.on (W := ((w.alloc (Obj.cells #[Value.int IntKind.i64 an, Value.int IntKind.i64 ad] 23)).alloc (Obj.cells #[Value.int IntKind.i64 bn, Value.int IntKind.i64 bd] 23))) (Blk.new1 w _ _ _ _) b1)
  clear b1 A0
  obtain ⟨s1_0, c1_0, d1_0⟩ := K1_0.out
  obtain ⟨s1_1, c1_1, d1_1⟩ := K1_1.out
  go_wp2_with fail
  (with_reducible refine ((C1 _).out).mono ?_)
  rintro e w2 ⟨rfl, b2⟩
  have K2_0 := Lib.hid (K1_0.out.on b2)
  have K2_1 := Lib.hid (K1_1.out.on b2)
  have B2 := Lib.hid (below_on B1.out b2)
  clear b2 s1_0 c1_0 d1_0 s1_1 c1_1 d1_1
  obtain ⟨s2_0, c2_0, d2_0⟩ := K2_0.out
  obtain ⟨s2_1, c2_1, d2_1⟩ := K2_1.out
  go_wp2_with fail
  (with_reducible refine ((C2 _).out).mono ?_)
  rintro e w3 ⟨rfl, b3⟩
  have K3_0 := Lib.hid ((K2_0.out.alloc _).on b3)
  have K3_1 := Lib.hid ((K2_1.out.alloc _).on b3)
  have K3_2 := Lib.hid ((Blk.new w2 _ _ _).on b3)
  have B3 := Lib.hid (below_on (B2.out.alloc B2.out.size _) b3)
  clear b3 s2_0 c2_0 d2_0 s2_1 c2_1 d2_1
  obtain ⟨s3_0, c3_0, d3_0⟩ := K3_0.out
  obtain ⟨s3_1, c3_1, d3_1⟩ := K3_1.out
  obtain ⟨s3_2, c3_2, d3_2⟩ := K3_2.out
  go_wp2_with fail
  (with_reducible refine ((C3 _).out).mono ?_)
  rintro e w4 ⟨rfl, b4⟩
  have K4_0 := Lib.hid ((K3_0.out.alloc _).on b4)
  have K4_1 := Lib.hid ((K3_1.out.alloc _).on b4)
  have K4_2 := Lib.hid ((K3_2.out.alloc _).on b4)
  have K4_3 := Lib.hid ((Blk.new w3 _ _ _).on b4)
  have B4 := Lib.hid (below_on (B3.out.alloc B3.out.size _) b4)
  clear b4 s3_0 c3_0 d3_0 s3_1 c3_1 d3_1 s3_2 c3_2 d3_2
  obtain ⟨s4_0, c4_0, d4_0⟩ := K4_0.out
  obtain ⟨s4_1, c4_1, d4_1⟩ := K4_1.out
  obtain ⟨s4_2, c4_2, d4_2⟩ := K4_2.out
  obtain ⟨s4_3, c4_3, d4_3⟩ := K4_3.out
  go_wp2_with fail
  (with_reducible refine ((C4 _).out).mono ?_)
  rintro e w5 ⟨rfl, b5⟩
  have K5_0 := Lib.hid ((K4_0.out.alloc _).on b5)
  have K5_1 := Lib.hid ((K4_1.out.alloc _).on b5)
  have K5_2 := Lib.hid ((K4_2.out.alloc _).on b5)
  have K5_3 := Lib.hid ((K4_3.out.alloc _).on b5)
  have K5_4 := Lib.hid ((Blk.new w4 _ _ _).on b5)
  have B5 := Lib.hid (below_on (B4.out.alloc B4.out.size _) b5)
  clear b5 s4_0 c4_0 d4_0 s4_1 c4_1 d4_1 s4_2 c4_2 d4_2 s4_3 c4_3 d4_3
  obtain ⟨s5_0, c5_0, d5_0⟩ := K5_0.out
  obtain ⟨s5_1, c5_1, d5_1⟩ := K5_1.out
  obtain ⟨s5_2, c5_2, d5_2⟩ := K5_2.out
  obtain ⟨s5_3, c5_3, d5_3⟩ := K5_3.out
  obtain ⟨s5_4, c5_4, d5_4⟩ := K5_4.out
  go_wp2_with fail
  (with_reducible refine ((C5 _).out).mono ?_)
  rintro e w6 ⟨rfl, b6⟩
  have K6_0 := Lib.hid ((K5_0.out.alloc _).on b6)
  have K6_1 := Lib.hid ((K5_1.out.alloc _).on b6)
  have K6_2 := Lib.hid ((K5_2.out.alloc _).on b6)
  have K6_3 := Lib.hid ((K5_3.out.alloc _).on b6)
  have K6_4 := Lib.hid ((K5_4.out.alloc _).on b6)
  have K6_5 := Lib.hid ((Blk.new w5 _ _ _).on b6)
  have B6 := Lib.hid (below_on (B5.out.alloc B5.out.size _) b6)
  clear b6 s5_0 c5_0 d5_0 s5_1 c5_1 d5_1 s5_2 c5_2 d5_2 s5_3 c5_3 d5_3 s5_4 c5_4 d5_4
  obtain ⟨s6_0, c6_0, d6_0⟩ := K6_0.out
  obtain ⟨s6_1, c6_1, d6_1⟩ := K6_1.out
  obtain ⟨s6_2, c6_2, d6_2⟩ := K6_2.out
  obtain ⟨s6_3, c6_3, d6_3⟩ := K6_3.out
  obtain ⟨s6_4, c6_4, d6_4⟩ := K6_4.out
  obtain ⟨s6_5, c6_5, d6_5⟩ := K6_5.out
  go_wp2_with fail
  (with_reducible refine ((C6 _).out).mono ?_)
  rintro e w7 ⟨rfl, b7⟩
  have K7_0 := Lib.hid ((K6_0.out.alloc _).on b7)
  have K7_1 := Lib.hid ((K6_1.out.alloc _).on b7)
  have K7_2 := Lib.hid ((K6_2.out.alloc _).on b7)
  have K7_3 := Lib.hid ((K6_3.out.alloc _).on b7)
  have K7_4 := Lib.hid ((K6_4.out.alloc _).on b7)
  have K7_5 := Lib.hid ((K6_5.out.alloc _).on b7)
  have K7_6 := Lib.hid ((Blk.new w6 _ _ _).on b7)
  have B7 := Lib.hid (below_on (B6.out.alloc B6.out.size _) b7)
  clear b7 s6_0 c6_0 d6_0 s6_1 c6_1 d6_1 s6_2 c6_2 d6_2 s6_3 c6_3 d6_3 s6_4 c6_4 d6_4 s6_5 c6_5 d6_5
  obtain ⟨s7_0, c7_0, d7_0⟩ := K7_0.out
  obtain ⟨s7_1, c7_1, d7_1⟩ := K7_1.out
  obtain ⟨s7_2, c7_2, d7_2⟩ := K7_2.out
  obtain ⟨s7_3, c7_3, d7_3⟩ := K7_3.out
  obtain ⟨s7_4, c7_4, d7_4⟩ := K7_4.out
  obtain ⟨s7_5, c7_5, d7_5⟩ := K7_5.out
  obtain ⟨s7_6, c7_6, d7_6⟩ := K7_6.out
  go_wp2_with fail
  (with_reducible refine ((C7 _).out).mono ?_)
  rintro e w8 ⟨rfl, b8⟩
  have K8_0 := Lib.hid (K7_0.out.on b8)
  have K8_1 := Lib.hid (K7_1.out.on b8)
  have K8_2 := Lib.hid (K7_2.out.on b8)
  have K8_3 := Lib.hid (K7_3.out.on b8)
  have K8_4 := Lib.hid (K7_4.out.on b8)
  have K8_5 := Lib.hid (K7_5.out.on b8)
  have K8_6 := Lib.hid (K7_6.out.on b8)
  have B8 := Lib.hid (below_on B7.out b8)
  clear b8 s7_0 c7_0 d7_0 s7_1 c7_1 d7_1 s7_2 c7_2 d7_2 s7_3 c7_3 d7_3 s7_4 c7_4 d7_4 s7_5 c7_5 d7_5 s7_6 c7_6 d7_6
  obtain ⟨s8_0, c8_0, d8_0⟩ := K8_0.out
  obtain ⟨s8_1, c8_1, d8_1⟩ := K8_1.out
  obtain ⟨s8_2, c8_2, d8_2⟩ := K8_2.out
  obtain ⟨s8_3, c8_3, d8_3⟩ := K8_3.out
  obtain ⟨s8_4, c8_4, d8_4⟩ := K8_4.out
  obtain ⟨s8_5, c8_5, d8_5⟩ := K8_5.out
  obtain ⟨s8_6, c8_6, d8_6⟩ := K8_6.out
  go_wp2
  go_ret
  exact ⟨rfl, B8.out.alloc B8.out.size _⟩

set_option maxHeartbeats 4000000 in
theorem undone_bad_bad (an ad bn bd : Int) (w : World) (an0 : -9223372036854775808 ≤ an) (an1 : an ≤ 9223372036854775807) (ad0 : -9223372036854775808 ≤ ad) (ad1 : ad ≤ 9223372036854775807) (bn0 : -9223372036854775808 ≤ bn) (bn1 : bn ≤ 9223372036854775807) (bd0 : -9223372036854775808 ≤ bd) (bd1 : bd ≤ 9223372036854775807) (hT : Hid (Pow10 w.heap.size w)) (va : Vld an ad ∨ True) (sn sd se pn pd pe : Int) (hs : addT an ad bn bd = (sn, sd, se)) (hp : mulT an ad bn bd = (pn, pd, pe)) (es : se ≠ 0) (zs : sn = 0 ∧ sd = 0) (ep : pe ≠ 0) (zp : pn = 0 ∧ pd = 0) :
    Calls Tryd.prog 6 #[.agg #[.int .i64 an, .int .i64 ad], .agg #[.int .i64 bn, .int .i64 bd]] w fun e w' => e = .returned (.bool true) ∧ Below w.heap.size w w' := by
  have hs2 := (addT_comm bn bd an ad).trans hs
  have hp2 := (mulT_comm bn bd an ad).trans hp
  have C1 := fun w => Lib.hid (Add_any an ad bn bd w (by omega) (by omega) (by omega) (by omega) (by omega) (by omega) (by omega) (by omega) sn sd se hs)
  have C2 := fun w => Lib.hid (Add_any bn bd an ad w (by omega) (by omega) (by omega) (by omega) (by omega) (by omega) (by omega) (by omega) sn sd se hs2)
  have C3 := fun w => Lib.hid (Mul_any an ad bn bd w (by omega) (by omega) (by omega) (by omega) (by omega) (by omega) (by omega) (by omega) pn pd pe hp)
  have C4 := fun w => Lib.hid (Mul_any bn bd an ad w (by omega) (by omega) (by omega) (by omega) (by omega) (by omega) (by omega) (by omega) pn pd pe hp2)
  obtain ⟨z1, z2⟩ := zs
  subst z1; subst z2
  have f1 : (se == 0) = false := by simpa using es
  have f2 : (se != 0) = true := by simpa using es
  obtain ⟨z3, z4⟩ := zp
  subst z3; subst z4
  have f4 : (pe == 0) = false := by simpa using ep
  have f5 : (pe != 0) = true := by simpa using ep
  clear hs hp hs2 hp2 va an0 an1 ad0 ad1 bn0 bn1 bd0 bd1 es ep
  go_enter Tryd.func6, Tryd.ntmps6
  go_wp2_with fail
  have A0 : Below w.heap.size w ((w.alloc (Obj.cells #[Value.int IntKind.i64 an, Value.int IntKind.i64 ad] 23)).alloc (Obj.cells #[Value.int IntKind.i64 bn, Value.int IntKind.i64 bd] 23)) := (by repeat' (first | (with_reducible exact Below.refl _ _) | (with_reducible assumption) | (with_reducible refine Below.alloc ?_ ?_ _) | (with_reducible refine below_drew ?_ _) | (with_reducible refine Below.drew ?_) | (with_reducible refine Below.setCell ?_ ?_ _) | go_size))
  (with_reducible refine ((awake_any _ (Lib.hid (pow_on hT.out A0))).mono ?_))
  rintro e w1 ⟨rfl, b1⟩
  have B1 := Lib.hid (below_on A0 b1)
  have K1_0 := Lib.hid (Blk.on (W := ((w.alloc (Obj.cells #[Value.int IntKind.i64 an, Value.int IntKind.i64 ad] 23)).alloc (Obj.cells #[Value.int IntKind.i64 bn, Value.int IntKind.i64 bd] 23))) ((Blk.new w _ _ _).alloc _) b1)
  have K1_1 := Lib.hid (Blk.on (W := ((w.alloc (Obj.cells #[Value.int IntKind.i64 an, Value.int IntKind.i64 ad] 23)).alloc (Obj.cells #[Value.int IntKind.i64 bn, Value.int IntKind.i64 bd] 23))) (Blk.new1 w _ _ _ _) b1)
  clear b1 A0
  obtain ⟨s1_0, c1_0, d1_0⟩ := K1_0.out
  obtain ⟨s1_1, c1_1, d1_1⟩ := K1_1.out
  go_wp2_with fail
  (with_reducible refine ((C1 _).out).mono ?_)
  rintro e w2 ⟨rfl, b2⟩
  have K2_0 := Lib.hid (K1_0.out.on b2)
  have K2_1 := Lib.hid (K1_1.out.on b2)
  have B2 := Lib.hid (below_on B1.out b2)
  clear b2 s1_0 c1_0 d1_0 s1_1 c1_1 d1_1
  obtain ⟨s2_0, c2_0, d2_0⟩ := K2_0.out
  obtain ⟨s2_1, c2_1, d2_1⟩ := K2_1.out
  go_wp2_with fail
  (with_reducible refine ((C2 _).out).mono ?_)
  rintro e w3 ⟨rfl, b3⟩
  have K3_0 := Lib.hid ((K2_0.out.alloc _).on b3)
  have K3_1 := Lib.hid ((K2_1.out.alloc _).on b3)
  have K3_2 := Lib.hid ((Blk.new w2 _ _ _).on b3)
  have B3 := Lib.hid (below_on (B2.out.alloc B2.out.size _) b3)
  clear b3 s2_0 c2_0 d2_0 s2_1 c2_1 d2_1
  obtain ⟨s3_0, c3_0, d3_0⟩ := K3_0.out
  obtain ⟨s3_1, c3_1, d3_1⟩ := K3_1.out
  obtain ⟨s3_2, c3_2, d3_2⟩ := K3_2.out
  go_wp2_with fail
  (with_reducible refine ((C3 _).out).mono ?_)
  rintro e w4 ⟨rfl, b4⟩
  have K4_0 := Lib.hid ((K3_0.out.alloc _).on b4)
  have K4_1 := Lib.hid ((K3_1.out.alloc _).on b4)
  have K4_2 := Lib.hid ((K3_2.out.alloc _).on b4)
  have K4_3 := Lib.hid ((Blk.new w3 _ _ _).on b4)
  have B4 := Lib.hid (below_on (B3.out.alloc B3.out.size _) b4)
  clear b4 s3_0 c3_0 d3_0 s3_1 c3_1 d3_1 s3_2 c3_2 d3_2
  obtain ⟨s4_0, c4_0, d4_0⟩ := K4_0.out
  obtain ⟨s4_1, c4_1, d4_1⟩ := K4_1.out
  obtain ⟨s4_2, c4_2, d4_2⟩ := K4_2.out
  obtain ⟨s4_3, c4_3, d4_3⟩ := K4_3.out
  go_wp2_with fail
  (with_reducible refine ((C4 _).out).mono ?_)
  rintro e w5 ⟨rfl, b5⟩
  have K5_0 := Lib.hid ((K4_0.out.alloc _).on b5)
  have K5_1 := Lib.hid ((K4_1.out.alloc _).on b5)
  have K5_2 := Lib.hid ((K4_2.out.alloc _).on b5)
  have K5_3 := Lib.hid ((K4_3.out.alloc _).on b5)
  have K5_4 := Lib.hid ((Blk.new w4 _ _ _).on b5)
  have B5 := Lib.hid (below_on (B4.out.alloc B4.out.size _) b5)
  clear b5 s4_0 c4_0 d4_0 s4_1 c4_1 d4_1 s4_2 c4_2 d4_2 s4_3 c4_3 d4_3
  obtain ⟨s5_0, c5_0, d5_0⟩ := K5_0.out
  obtain ⟨s5_1, c5_1, d5_1⟩ := K5_1.out
  obtain ⟨s5_2, c5_2, d5_2⟩ := K5_2.out
  obtain ⟨s5_3, c5_3, d5_3⟩ := K5_3.out
  obtain ⟨s5_4, c5_4, d5_4⟩ := K5_4.out
  go_wp2
  go_ret
  exact ⟨rfl, B5.out.alloc B5.out.size _⟩

set_option maxHeartbeats 4000000 in
theorem undone_bad_zero (an ad bn bd : Int) (w : World) (an0 : -9223372036854775808 ≤ an) (an1 : an ≤ 9223372036854775807) (ad0 : -9223372036854775808 ≤ ad) (ad1 : ad ≤ 9223372036854775807) (bn0 : -9223372036854775808 ≤ bn) (bn1 : bn ≤ 9223372036854775807) (bd0 : -9223372036854775808 ≤ bd) (bd1 : bd ≤ 9223372036854775807) (hT : Hid (Pow10 w.heap.size w)) (va : Vld an ad ∨ True) (sn sd se pn pd pe : Int) (hs : addT an ad bn bd = (sn, sd, se)) (hp : mulT an ad bn bd = (pn, pd, pe)) (es : se ≠ 0) (zs : sn = 0 ∧ sd = 0) (ep : pe = 0) (vp : Vld pn pd) (zb : bn = 0) (zp : pn = 0) (hdiv : divT pn pd bn bd = (0, 0, 16)) :
    Calls Tryd.prog 6 #[.agg #[.int .i64 an, .int .i64 ad], .agg #[.int .i64 bn, .int .i64 bd]] w fun e w' => e = .returned (.bool true) ∧ Below w.heap.size w w' := by
  have hs2 := (addT_comm bn bd an ad).trans hs
  have hp2 := (mulT_comm bn bd an ad).trans hp
  have C1 := fun w => Lib.hid (Add_any an ad bn bd w (by omega) (by omega) (by omega) (by omega) (by omega) (by omega) (by omega) (by omega) sn sd se hs)
  have C2 := fun w => Lib.hid (Add_any bn bd an ad w (by omega) (by omega) (by omega) (by omega) (by omega) (by omega) (by omega) (by omega) sn sd se hs2)
  have C3 := fun w => Lib.hid (Mul_any an ad bn bd w (by omega) (by omega) (by omega) (by omega) (by omega) (by omega) (by omega) (by omega) pn pd pe hp)
  have C4 := fun w => Lib.hid (Mul_any bn bd an ad w (by omega) (by omega) (by omega) (by omega) (by omega) (by omega) (by omega) (by omega) pn pd pe hp2)
  obtain ⟨z1, z2⟩ := zs
  subst z1; subst z2
  have f1 : (se == 0) = false := by simpa using es
  have f2 : (se != 0) = true := by simpa using es
  have u1 := vp.d1; have u2 := vp.d2; have u3 := vp.n1; have u4 := vp.n2
  have C7 := fun w => Lib.hid (Div_any pn pd bn bd w (by omega) (by omega) (by omega) (by omega) (by omega) (by omega) (by omega) (by omega) 0 0 16 hdiv)
  subst ep
  subst zb; subst zp
  clear hs hp hs2 hp2 va an0 an1 ad0 ad1 bn0 bn1 bd0 bd1 es hdiv u1 u2 u3 u4 vp
  go_enter Tryd.func6, Tryd.ntmps6
  go_wp2_with fail
  have A0 : Below w.heap.size w ((w.alloc (Obj.cells #[Value.int IntKind.i64 an, Value.int IntKind.i64 ad] 23)).alloc (Obj.cells #[Value.int IntKind.i64 0, Value.int IntKind.i64 bd] 23)) := (by repeat' (first | (with_reducible exact Below.refl _ _) | (with_reducible assumption) | (with_reducible refine Below.alloc ?_ ?_ _) | (with_reducible refine below_drew ?_ _) | (with_reducible refine Below.drew ?_) | (with_reducible refine Below.setCell ?_ ?_ _) | go_size))
  (with_reducible refine ((awake_any _ (Lib.hid (pow_on hT.out A0))).mono ?_))
  rintro e w1 ⟨rfl, b1⟩
  have B1 := Lib.hid (below_on A0 b1)
  have K1_0 := Lib.hid (Blk.on (W := ((w.alloc (Obj.cells #[Value.int IntKind.i64 an, Value.int IntKind.i64 ad] 23)).alloc (Obj.cells #[Value.int IntKind.i64 0, Value.int IntKind.i64 bd] 23))) ((Blk.new w _ _ _).alloc _) b1)
  have K1_1 := Lib.hid (Blk.on (W := ((w.alloc (Obj.cells #[Value.int IntKind.i64 an, Value.int IntKind.i64 ad] 23)).alloc (Obj.cells #[Value.int IntKind.i64 0, Value.int IntKind.i64 bd] 23))) (Blk.new1 w _ _ _ _) b1)
  clear b1 A0
  obtain ⟨s1_0, c1_0, d1_0⟩ := K1_0.out
  obtain ⟨s1_1, c1_1, d1_1⟩ := K1_1.out
  go_wp2_with fail
  (with_reducible refine ((C1 _).out).mono ?_)
  rintro e w2 ⟨rfl, b2⟩
  have K2_0 := Lib.hid (K1_0.out.on b2)
  have K2_1 := Lib.hid (K1_1.out.on b2)
  have B2 := Lib.hid (below_on B1.out b2)
  clear b2 s1_0 c1_0 d1_0 s1_1 c1_1 d1_1
  obtain ⟨s2_0, c2_0, d2_0⟩ := K2_0.out
  obtain ⟨s2_1, c2_1, d2_1⟩ := K2_1.out
  go_wp2_with fail
  (with_reducible refine ((C2 _).out).mono ?_)
  rintro e w3 ⟨rfl, b3⟩
  have K3_0 := Lib.hid ((K2_0.out.alloc _).on b3)
  have K3_1 := Lib.hid ((K2_1.out.alloc _).on b3)
  have K3_2 := Lib.hid ((Blk.new w2 _ _ _).on b3)
  have B3 := Lib.hid (below_on (B2.out.alloc B2.out.size _) b3)
  clear b3 s2_0 c2_0 d2_0 s2_1 c2_1 d2_1
  obtain ⟨s3_0, c3_0, d3_0⟩ := K3_0.out
  obtain ⟨s3_1, c3_1, d3_1⟩ := K3_1.out
  obtain ⟨s3_2, c3_2, d3_2⟩ := K3_2.out
  go_wp2_with fail
  (with_reducible refine ((C3 _).out).mono ?_)
  rintro e w4 ⟨rfl, b4⟩
  have K4_0 := Lib.hid ((K3_0.out.alloc _).on b4)
  have K4_1 := Lib.hid ((K3_1.out.alloc _).on b4)
  have K4_2 := Lib.hid ((K3_2.out.alloc _).on b4)
  have K4_3 := Lib.hid ((Blk.new w3 _ _ _).on b4)
  have B4 := Lib.hid (below_on (B3.out.alloc B3.out.size _) b4)
  clear b4 s3_0 c3_0 d3_0 s3_1 c3_1 d3_1 s3_2 c3_2 d3_2
  obtain ⟨s4_0, c4_0, d4_0⟩ := K4_0.out
  obtain ⟨s4_1, c4_1, d4_1⟩ := K4_1.out
  obtain ⟨s4_2, c4_2, d4_2⟩ := K4_2.out
  obtain ⟨s4_3, c4_3, d4_3⟩ := K4_3.out
  go_wp2_with fail
  (with_reducible refine ((C4 _).out).mono ?_)
  rintro e w5 ⟨rfl, b5⟩
  have K5_0 := Lib.hid ((K4_0.out.alloc _).on b5)
  have K5_1 := Lib.hid ((K4_1.out.alloc _).on b5)
  have K5_2 := Lib.hid ((K4_2.out.alloc _).on b5)
  have K5_3 := Lib.hid ((K4_3.out.alloc _).on b5)
  have K5_4 := Lib.hid ((Blk.new w4 _ _ _).on b5)
  have B5 := Lib.hid (below_on (B4.out.alloc B4.out.size _) b5)
  clear b5 s4_0 c4_0 d4_0 s4_1 c4_1 d4_1 s4_2 c4_2 d4_2 s4_3 c4_3 d4_3
  obtain ⟨s5_0, c5_0, d5_0⟩ := K5_0.out
  obtain ⟨s5_1, c5_1, d5_1⟩ := K5_1.out
  obtain ⟨s5_2, c5_2, d5_2⟩ := K5_2.out
  obtain ⟨s5_3, c5_3, d5_3⟩ := K5_3.out
  obtain ⟨s5_4, c5_4, d5_4⟩ := K5_4.out
  go_wp2_with fail
  (with_reducible refine ((C7 _).out).mono ?_)
  rintro e w6 ⟨rfl, b6⟩
  have K6_0 := Lib.hid ((K5_0.out.alloc _).on b6)
  have K6_1 := Lib.hid ((K5_1.out.alloc _).on b6)
  have K6_2 := Lib.hid ((K5_2.out.alloc _).on b6)
  have K6_3 := Lib.hid ((K5_3.out.alloc _).on b6)
  have K6_4 := Lib.hid ((K5_4.out.alloc _).on b6)
  have K6_5 := Lib.hid ((Blk.new w5 _ _ _).on b6)
  have B6 := Lib.hid (below_on (B5.out.alloc B5.out.size _) b6)
  clear b6 s5_0 c5_0 d5_0 s5_1 c5_1 d5_1 s5_2 c5_2 d5_2 s5_3 c5_3 d5_3 s5_4 c5_4 d5_4
  obtain ⟨s6_0, c6_0, d6_0⟩ := K6_0.out
  obtain ⟨s6_1, c6_1, d6_1⟩ := K6_1.out
  obtain ⟨s6_2, c6_2, d6_2⟩ := K6_2.out
  obtain ⟨s6_3, c6_3, d6_3⟩ := K6_3.out
  obtain ⟨s6_4, c6_4, d6_4⟩ := K6_4.out
  obtain ⟨s6_5, c6_5, d6_5⟩ := K6_5.out
  go_wp2
  go_ret
  exact ⟨rfl, B6.out.alloc B6.out.size _⟩

set_option maxHeartbeats 4000000 in
theorem undone_bad_ok (an ad bn bd : Int) (w : World) (an0 : -9223372036854775808 ≤ an) (an1 : an ≤ 9223372036854775807) (ad0 : -9223372036854775808 ≤ ad) (ad1 : ad ≤ 9223372036854775807) (bn0 : -9223372036854775808 ≤ bn) (bn1 : bn ≤ 9223372036854775807) (bd0 : -9223372036854775808 ≤ bd) (bd1 : bd ≤ 9223372036854775807) (hT : Hid (Pow10 w.heap.size w)) (va : Vld an ad ∨ True) (sn sd se pn pd pe : Int) (hs : addT an ad bn bd = (sn, sd, se)) (hp : mulT an ad bn bd = (pn, pd, pe)) (es : se ≠ 0) (zs : sn = 0 ∧ sd = 0) (ep : pe = 0) (vp : Vld pn pd) (zb : bn ≠ 0) (hdiv : divT pn pd bn bd = (an, ad, 0)) :
    Calls Tryd.prog 6 #[.agg #[.int .i64 an, .int .i64 ad], .agg #[.int .i64 bn, .int .i64 bd]] w fun e w' => e = .returned (.bool true) ∧ Below w.heap.size w w' := by
  have hs2 := (addT_comm bn bd an ad).trans hs
  have hp2 := (mulT_comm bn bd an ad).trans hp
  have C1 := fun w => Lib.hid (Add_any an ad bn bd w (by omega) (by omega) (by omega) (by omega) (by omega) (by omega) (by omega) (by omega) sn sd se hs)
  have C2 := fun w => Lib.hid (Add_any bn bd an ad w (by omega) (by omega) (by omega) (by omega) (by omega) (by omega) (by omega) (by omega) sn sd se hs2)
  have C3 := fun w => Lib.hid (Mul_any an ad bn bd w (by omega) (by omega) (by omega) (by omega) (by omega) (by omega) (by omega) (by omega) pn pd pe hp)
  have C4 := fun w => Lib.hid (Mul_any bn bd an ad w (by omega) (by omega) (by omega) (by omega) (by omega) (by omega) (by omega) (by omega) pn pd pe hp2)
  obtain ⟨z1, z2⟩ := zs
  subst z1; subst z2
  have f1 : (se == 0) = false := by simpa using es
  have f2 : (se != 0) = true := by simpa using es
  have u1 := vp.d1; have u2 := vp.d2; have u3 := vp.n1; have u4 := vp.n2
  have C7 := fun w => Lib.hid (Div_any pn pd bn bd w (by omega) (by omega) (by omega) (by omega) (by omega) (by omega) (by omega) (by omega) an ad 0 hdiv)
  subst ep
  have f3 : (bn == 0) = false := by simpa using zb
  clear hs hp hs2 hp2 va an0 an1 ad0 ad1 bn0 bn1 bd0 bd1 es hdiv u1 u2 u3 u4 vp zb
  go_enter Tryd.func6, Tryd.ntmps6
  go_wp2_with fail
  have A0 : Below w.heap.size w ((w.alloc (Obj.cells #[Value.int IntKind.i64 an, Value.int IntKind.i64 ad] 23)).alloc (Obj.cells #[Value.int IntKind.i64 bn, Value.int IntKind.i64 bd] 23)) := (by repeat' (first | (with_reducible exact Below.refl _ _) | (with_reducible assumption) | (with_reducible refine Below.alloc ?_ ?_ _) | (with_reducible refine below_drew ?_ _) | (with_reducible refine Below.drew ?_) | (with_reducible refine Below.setCell ?_ ?_ _) | go_size))
  (with_reducible refine ((awake_any _ (Lib.hid (pow_on hT.out A0))).mono ?_))
  rintro e w1 ⟨rfl, b1⟩
  have B1 := Lib.hid (below_on A0 b1)
  have K1_0 := Lib.hid (Blk.on (W := ((w.alloc (Obj.cells #[Value.int IntKind.i64 an, Value.int IntKind.i64 ad] 23)).alloc (Obj.cells #[Value.int IntKind.i64 bn, Value.int IntKind.i64 bd] 23))) ((Blk.new w _ _ _).alloc _) b1)
  have K1_1 := Lib.hid (Blk.on (W := ((w.alloc (Obj.cells #[Value.int IntKind.i64 an, Value.int IntKind.i64 ad] 23)).alloc (Obj.cells #[Value.int IntKind.i64 bn, Value.int IntKind.i64 bd] 23))) (Blk.new1 w _ _ _ _) b1)
  clear b1 A0
  obtain ⟨s1_0, c1_0, d1_0⟩ := K1_0.out
  obtain ⟨s1_1, c1_1, d1_1⟩ := K1_1.out
  go_wp2_with fail
  (with_reducible refine ((C1 _).out).mono ?_)
  rintro e w2 ⟨rfl, b2⟩
  have K2_0 := Lib.hid (K1_0.out.on b2)
  have K2_1 := Lib.hid (K1_1.out.on b2)
  have B2 := Lib.hid (below_on B1.out b2)
  clear b2 s1_0 c1_0 d1_0 s1_1 c1_1 d1_1
  obtain ⟨s2_0, c2_0, d2_0⟩ := K2_0.out
  obtain ⟨s2_1, c2_1, d2_1⟩ := K2_1.out
  go_wp2_with fail
  (with_reducible refine ((C2 _).out).mono ?_)
  rintro e w3 ⟨rfl, b3⟩
  have K3_0 := Lib.hid ((K2_0.out.alloc _).on b3)
  have K3_1 := Lib.hid ((K2_1.out.alloc _).on b3)
  have K3_2 := Lib.hid ((Blk.new w2 _ _ _).on b3)
  have B3 := Lib.hid (below_on (B2.out.alloc B2.out.size _) b3)
  clear b3 s2_0 c2_0 d2_0 s2_1 c2_1 d2_1
  obtain ⟨s3_0, c3_0, d3_0⟩ := K3_0.out
  obtain ⟨s3_1, c3_1, d3_1⟩ := K3_1.out
  obtain ⟨s3_2, c3_2, d3_2⟩ := K3_2.out
  go_wp2_with fail
  (with_reducible refine ((C3 _).out).mono ?_)
  rintro e w4 ⟨rfl, b4⟩
  have K4_0 := Lib.hid ((K3_0.out.alloc _).on b4)
  have K4_1 := Lib.hid ((K3_1.out.alloc _).on b4)
  have K4_2 := Lib.hid ((K3_2.out.alloc _).on b4)
  have K4_3 := Lib.hid ((Blk.new w3 _ _ _).on b4)
  have B4 := Lib.hid (below_on (B3.out.alloc B3.out.size _) b4)
  clear b4 s3_0 c3_0 d3_0 s3_1 c3_1 d3_1 s3_2 c3_2 d3_2
  obtain ⟨s4_0, c4_0, d4_0⟩ := K4_0.out
  obtain ⟨s4_1, c4_1, d4_1⟩ := K4_1.out
  obtain ⟨s4_2, c4_2, d4_2⟩ := K4_2.out
  obtain ⟨s4_3, c4_3, d4_3⟩ := K4_3.out
  go_wp2_with fail
  (with_reducible refine ((C4 _).out).mono ?_)
  rintro e w5 ⟨rfl, b5⟩
  have K5_0 := Lib.hid ((K4_0.out.alloc _).on b5)
  have K5_1 := Lib.hid ((K4_1.out.alloc _).on b5)
  have K5_2 := Lib.hid ((K4_2.out.alloc _).on b5)
  have K5_3 := Lib.hid ((K4_3.out.alloc _).on b5)
  have K5_4 := Lib.hid ((Blk.new w4 _ _ _).on b5)
  have B5 := Lib.hid (below_on (B4.out.alloc B4.out.size _) b5)
  clear b5 s4_0 c4_0 d4_0 s4_1 c4_1 d4_1 s4_2 c4_2 d4_2 s4_3 c4_3 d4_3
  obtain ⟨s5_0, c5_0, d5_0⟩ := K5_0.out
  obtain ⟨s5_1, c5_1, d5_1⟩ := K5_1.out
  obtain ⟨s5_2, c5_2, d5_2⟩ := K5_2.out
  obtain ⟨s5_3, c5_3, d5_3⟩ := K5_3.out
  obtain ⟨s5_4, c5_4, d5_4⟩ := K5_4.out
  go_wp2_with fail
  (with_reducible refine ((C7 _).out).mono ?_)
  rintro e w6 ⟨rfl, b6⟩
  have K6_0 := Lib.hid ((K5_0.out.alloc _).on b6)
  have K6_1 := Lib.hid ((K5_1.out.alloc _).on b6)
  have K6_2 := Lib.hid ((K5_2.out.alloc _).on b6)
  have K6_3 := Lib.hid ((K5_3.out.alloc _).on b6)
  have K6_4 := Lib.hid ((K5_4.out.alloc _).on b6)
  have K6_5 := Lib.hid ((Blk.new w5 _ _ _).on b6)
  have B6 := Lib.hid (below_on (B5.out.alloc B5.out.size _) b6)
  clear b6 s5_0 c5_0 d5_0 s5_1 c5_1 d5_1 s5_2 c5_2 d5_2 s5_3 c5_3 d5_3 s5_4 c5_4 d5_4
  obtain ⟨s6_0, c6_0, d6_0⟩ := K6_0.out
  obtain ⟨s6_1, c6_1, d6_1⟩ := K6_1.out
  obtain ⟨s6_2, c6_2, d6_2⟩ := K6_2.out
  obtain ⟨s6_3, c6_3, d6_3⟩ := K6_3.out
  obtain ⟨s6_4, c6_4, d6_4⟩ := K6_4.out
  obtain ⟨s6_5, c6_5, d6_5⟩ := K6_5.out
  go_wp2
  go_ret
  exact ⟨rfl, B6.out.alloc B6.out.size _⟩

set_option maxHeartbeats 4000000 in
theorem undone_walk (an ad bn bd : Int) (w : World) (an0 : -9223372036854775808 ≤ an) (an1 : an ≤ 9223372036854775807) (ad0 : -9223372036854775808 ≤ ad) (ad1 : ad ≤ 9223372036854775807) (bn0 : -9223372036854775808 ≤ bn) (bn1 : bn ≤ 9223372036854775807) (bd0 : -9223372036854775808 ≤ bd) (bd1 : bd ≤ 9223372036854775807) (hT : Hid (Pow10 w.heap.size w)) :
    Calls Tryd.prog 6 #[.agg #[.int .i64 an, .int .i64 ad], .agg #[.int .i64 bn, .int .i64 bd]] w fun e w' => e = .returned (.bool true) ∧ Below w.heap.size w w' := by
  rcases addT_cases an ad bn bd with ⟨sn, sd, hs, va, vb, vs, es⟩ | ⟨se, hs, ns, _⟩
  · rcases mulT_cases an ad bn bd with ⟨pn, pd, hp, va', vb', vp, ep⟩ | ⟨pe, hp, np, _⟩
    · by_cases zb : bn = 0
      · obtain ⟨z, hd⟩ := div_zero va' vb' vp ep zb
        exact undone_ok_zero an ad bn bd w an0 an1 ad0 ad1 bn0 bn1 bd0 bd1 hT (.inr trivial) _ _ _ _ _ _ hs hp rfl vs (sub_undo va vb vs es) rfl vp zb z hd
      · exact undone_ok_ok an ad bn bd w an0 an1 ad0 ad1 bn0 bn1 bd0 bd1 hT (.inr trivial) _ _ _ _ _ _ hs hp rfl vs (sub_undo va vb vs es) rfl vp zb (div_undo va' vb' vp ep zb)
    · exact undone_ok_bad an ad bn bd w an0 an1 ad0 ad1 bn0 bn1 bd0 bd1 hT (.inr trivial) _ _ _ _ _ _ hs hp rfl vs (sub_undo va vb vs es) np ⟨rfl, rfl⟩
  · rcases mulT_cases an ad bn bd with ⟨pn, pd, hp, va', vb', vp, ep⟩ | ⟨pe, hp, np, _⟩
    · by_cases zb : bn = 0
      · obtain ⟨z, hd⟩ := div_zero va' vb' vp ep zb
        exact undone_bad_zero an ad bn bd w an0 an1 ad0 ad1 bn0 bn1 bd0 bd1 hT (.inr trivial) _ _ _ _ _ _ hs hp ns ⟨rfl, rfl⟩ rfl vp zb z hd
      · exact undone_bad_ok an ad bn bd w an0 an1 ad0 ad1 bn0 bn1 bd0 bd1 hT (.inr trivial) _ _ _ _ _ _ hs hp ns ⟨rfl, rfl⟩ rfl vp zb (div_undo va' vb' vp ep zb)
    · exact undone_bad_bad an ad bn bd w an0 an1 ad0 ad1 bn0 bn1 bd0 bd1 hT (.inr trivial) _ _ _ _ _ _ hs hp ns ⟨rfl, rfl⟩ np ⟨rfl, rfl⟩

end Go.Proofs.YtjdgppccjpdhoaaDoor
