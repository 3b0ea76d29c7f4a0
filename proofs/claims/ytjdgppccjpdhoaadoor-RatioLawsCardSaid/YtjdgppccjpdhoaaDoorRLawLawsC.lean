/- The walk of the law RatioLaws (a part of its ways). -/
import Derived.Test.YtjdgppccjpdhoaaDoorRLawMath2
namespace Go.Proofs.YtjdgppccjpdhoaaDoor
set_option linter.unusedVariables false
open Go.RowKit Go.Shelf

set_option maxHeartbeats 4000000 in
theorem laws_boooo (an ad bn bd cn cd : Int) (w : World) (an0 : -9223372036854775808 ≤ an) (an1 : an ≤ 9223372036854775807) (ad0 : -9223372036854775808 ≤ ad) (ad1 : ad ≤ 9223372036854775807) (bn0 : -9223372036854775808 ≤ bn) (bn1 : bn ≤ 9223372036854775807) (bd0 : -9223372036854775808 ≤ bd) (bd1 : bd ≤ 9223372036854775807) (cn0 : -9223372036854775808 ≤ cn) (cn1 : cn ≤ 9223372036854775807) (cd0 : -9223372036854775808 ≤ cd) (cd1 : cd ≤ 9223372036854775807) (hT : Hid (Pow10 w.heap.size w)) (sn sd se tn td te pn pd pe qn qd qe rn rd re xn xd xe yn yd ye un ud ue : Int) (hs : addT an ad bn bd = (sn, sd, se)) (zs : se ≠ 0) (vs : sn = 0 ∧ sd = 0) (ht : addT bn bd cn cd = (tn, td, te)) (zt : te = 0) (vt : Vld tn td) (hp : mulT an ad bn bd = (pn, pd, pe)) (zp : pe = 0) (vp : Vld pn pd) (hq : mulT bn bd cn cd = (qn, qd, qe)) (zq : qe = 0) (vq : Vld qn qd) (hr : mulT an ad cn cd = (rn, rd, re)) (zr : re = 0) (vr : Vld rn rd) (hy1 : mulT pn pd cn cd = (yn, yd, ye)) (hy2 : mulT an ad qn qd = (yn, yd, ye)) (hu : addT pn pd rn rd = (un, ud, ue)) (hv : mulT an ad tn td = (un, ud, ue)) :
    Calls Tryd.prog 7 #[.agg #[.int .i64 an, .int .i64 ad], .agg #[.int .i64 bn, .int .i64 bd], .agg #[.int .i64 cn, .int .i64 cd]] w fun e w' => e = .returned (.bool true) ∧ Below w.heap.size w w' := by
  obtain ⟨ys, ws⟩ := vs
  subst ys; subst ws
  have fs : (se == 0) = false := by simpa using zs
  have gs : (se != 0) = true := by simpa using zs
  have tb1 := vt.d1; have tb2 := vt.d2; have tb3 := vt.n1; have tb4 := vt.n2
  have pb1 := vp.d1; have pb2 := vp.d2; have pb3 := vp.n1; have pb4 := vp.n2
  have qb1 := vq.d1; have qb2 := vq.d2; have qb3 := vq.n1; have qb4 := vq.n2
  have rb1 := vr.d1; have rb2 := vr.d2; have rb3 := vr.n1; have rb4 := vr.n2
  have S1 := fun w => Lib.hid (Add_any an ad bn bd w (by omega) (by omega) (by omega) (by omega) (by omega) (by omega) (by omega) (by omega) 0 0 se hs)
  have S2 := fun w => Lib.hid (Add_any bn bd cn cd w (by omega) (by omega) (by omega) (by omega) (by omega) (by omega) (by omega) (by omega) tn td te ht)
  have M1 := fun w => Lib.hid (Mul_any an ad bn bd w (by omega) (by omega) (by omega) (by omega) (by omega) (by omega) (by omega) (by omega) pn pd pe hp)
  have M2 := fun w => Lib.hid (Mul_any bn bd cn cd w (by omega) (by omega) (by omega) (by omega) (by omega) (by omega) (by omega) (by omega) qn qd qe hq)
  have M3 := fun w => Lib.hid (Mul_any pn pd cn cd w (by omega) (by omega) (by omega) (by omega) (by omega) (by omega) (by omega) (by omega) yn yd ye hy1)
  have M4 := fun w => Lib.hid (Mul_any an ad qn qd w (by omega) (by omega) (by omega) (by omega) (by omega) (by omega) (by omega) (by omega) yn yd ye hy2)
  have M5 := fun w => Lib.hid (Mul_any an ad cn cd w (by omega) (by omega) (by omega) (by omega) (by omega) (by omega) (by omega) (by omega) rn rd re hr)
  have S5 := fun w => Lib.hid (Add_any pn pd rn rd w (by omega) (by omega) (by omega) (by omega) (by omega) (by omega) (by omega) (by omega) un ud ue hu)
  have M6 := fun w => Lib.hid (Mul_any an ad tn td w (by omega) (by omega) (by omega) (by omega) (by omega) (by omega) (by omega) (by omega) un ud ue hv)
  subst zt
  subst zp
  subst zq
  subst zr
  clear an0 an1 ad0 ad1 bn0 bn1 bd0 bd1 cn0 cn1 cd0 cd1 hs ht hp hq hr hu hy1 hy2 hv zs tb1 tb2 tb3 tb4 vt pb1 pb2 pb3 pb4 vp qb1 qb2 qb3 qb4 vq rb1 rb2 rb3 rb4 vr
  go_enter Tryd.func7, Tryd.ntmps7
  go_wp2_with fail
  have A0 : Below w.heap.size w (((w.alloc (Obj.cells #[Value.int IntKind.i64 an, Value.int IntKind.i64 ad] 23)).alloc (Obj.cells #[Value.int IntKind.i64 bn, Value.int IntKind.i64 bd] 23)).alloc (Obj.cells #[Value.int IntKind.i64 cn, Value.int IntKind.i64 cd] 23)) := (by repeat' (first | (with_reducible exact Below.refl _ _) | (with_reducible assumption) | (with_reducible refine Below.alloc ?_ ?_ _) | (with_reducible refine below_drew ?_ _) | (with_reducible refine Below.drew ?_) | (with_reducible refine Below.setCell ?_ ?_ _) | go_size))
  (with_reducible refine ((awake_any _ (Lib.hid (pow_on hT.out A0))).mono ?_))
  rintro e w1 ⟨rfl, b1⟩
  have B1 := Lib.hid (below_on A0 b1)
  have K1_0 := Lib.hid (Blk.on (W := (((w.alloc (Obj.cells #[Value.int IntKind.i64 an, Value.int IntKind.i64 ad] 23)).alloc (Obj.cells #[Value.int IntKind.i64 bn, Value.int IntKind.i64 bd] 23)).alloc (Obj.cells #[Value.int IntKind.i64 cn, Value.int IntKind.i64 cd] 23))) (((Blk.new w _ _ _).alloc _).alloc _) b1)
  have K1_1 := Lib.hid (Blk.on (W := (((w.alloc (Obj.cells #[Value.int IntKind.i64 an, Value.int IntKind.i64 ad] 23)).alloc (Obj.cells #[Value.int IntKind.i64 bn, Value.int IntKind.i64 bd] 23)).alloc (Obj.cells #[Value.int IntKind.i64 cn, Value.int IntKind.i64 cd] 23))) ((Blk.new1 w _ _ _ _).alloc _) b1)
  have K1_2 := Lib.hid (Blk.on (W := (((w.alloc (Obj.cells #[Value.int IntKind.i64 an, Value.int IntKind.i64 ad] 23)).alloc (Obj.cells #[Value.int IntKind.i64 bn, Value.int IntKind.i64 bd] 23)).alloc (Obj.cells #[Value.int IntKind.i64 cn, Value.int IntKind.i64 cd] 23))) (Blk.new2 w _ _ _ _ _) b1)
  clear b1 A0
  obtain ⟨s1_0, c1_0, d1_0⟩ := K1_0.out
  obtain ⟨s1_1, c1_1, d1_1⟩ := K1_1.out
  obtain ⟨s1_2, c1_2, d1_2⟩ := K1_2.out
  go_wp2_with fail
  (with_reducible refine ((S1 _).out).mono ?_)
  rintro e w2 ⟨rfl, b2⟩
  have K2_0 := Lib.hid (K1_0.out.on b2)
  have K2_1 := Lib.hid (K1_1.out.on b2)
  have K2_2 := Lib.hid (K1_2.out.on b2)
  have B2 := Lib.hid (below_on B1.out b2)
  clear b2 s1_0 c1_0 d1_0 s1_1 c1_1 d1_1 s1_2 c1_2 d1_2
  obtain ⟨s2_0, c2_0, d2_0⟩ := K2_0.out
  obtain ⟨s2_1, c2_1, d2_1⟩ := K2_1.out
  obtain ⟨s2_2, c2_2, d2_2⟩ := K2_2.out
  go_wp2_with fail
  (with_reducible refine ((S2 _).out).mono ?_)
  rintro e w3 ⟨rfl, b3⟩
  have K3_0 := Lib.hid ((K2_0.out.alloc _).on b3)
  have K3_1 := Lib.hid ((K2_1.out.alloc _).on b3)
  have K3_2 := Lib.hid ((K2_2.out.alloc _).on b3)
  have K3_3 := Lib.hid ((Blk.new w2 _ _ _).on b3)
  have B3 := Lib.hid (below_on (B2.out.alloc B2.out.size _) b3)
  clear b3 s2_0 c2_0 d2_0 s2_1 c2_1 d2_1 s2_2 c2_2 d2_2
  obtain ⟨s3_0, c3_0, d3_0⟩ := K3_0.out
  obtain ⟨s3_1, c3_1, d3_1⟩ := K3_1.out
  obtain ⟨s3_2, c3_2, d3_2⟩ := K3_2.out
  obtain ⟨s3_3, c3_3, d3_3⟩ := K3_3.out
  go_wp2_with fail
  (with_reducible refine ((M1 _).out).mono ?_)
  rintro e w4 ⟨rfl, b4⟩
  have K4_0 := Lib.hid ((K3_0.out.alloc _).on b4)
  have K4_1 := Lib.hid ((K3_1.out.alloc _).on b4)
  have K4_2 := Lib.hid ((K3_2.out.alloc _).on b4)
  have K4_3 := Lib.hid ((K3_3.out.alloc _).on b4)
  have K4_4 := Lib.hid ((Blk.new w3 _ _ _).on b4)
  have B4 := Lib.hid (below_on (B3.out.alloc B3.out.size _) b4)
  clear b4 s3_0 c3_0 d3_0 s3_1 c3_1 d3_1 s3_2 c3_2 d3_2 s3_3 c3_3 d3_3
  obtain ⟨s4_0, c4_0, d4_0⟩ := K4_0.out
  obtain ⟨s4_1, c4_1, d4_1⟩ := K4_1.out
  obtain ⟨s4_2, c4_2, d4_2⟩ := K4_2.out
  obtain ⟨s4_3, c4_3, d4_3⟩ := K4_3.out
  obtain ⟨s4_4, c4_4, d4_4⟩ := K4_4.out
  go_wp2_with fail
  (with_reducible refine ((M2 _).out).mono ?_)
  rintro e w5 ⟨rfl, b5⟩
  have K5_0 := Lib.hid ((K4_0.out.alloc _).on b5)
  have K5_1 := Lib.hid ((K4_1.out.alloc _).on b5)
  have K5_2 := Lib.hid ((K4_2.out.alloc _).on b5)
  have K5_3 := Lib.hid ((K4_3.out.alloc _).on b5)
  have K5_4 := Lib.hid ((K4_4.out.alloc _).on b5)
  have K5_5 := Lib.hid ((Blk.new w4 _ _ _).on b5)
  have B5 := Lib.hid (below_on (B4.out.alloc B4.out.size _) b5)
  clear b5 s4_0 c4_0 d4_0 s4_1 c4_1 d4_1 s4_2 c4_2 d4_2 s4_3 c4_3 d4_3 s4_4 c4_4 d4_4
  obtain ⟨s5_0, c5_0, d5_0⟩ := K5_0.out
  obtain ⟨s5_1, c5_1, d5_1⟩ := K5_1.out
  obtain ⟨s5_2, c5_2, d5_2⟩ := K5_2.out
  obtain ⟨s5_3, c5_3, d5_3⟩ := K5_3.out
  obtain ⟨s5_4, c5_4, d5_4⟩ := K5_4.out
  obtain ⟨s5_5, c5_5, d5_5⟩ := K5_5.out
  go_wp2_with fail
  (with_reducible refine ((M3 _).out).mono ?_)
  rintro e w6 ⟨rfl, b6⟩
  have K6_0 := Lib.hid ((K5_0.out.alloc _).on b6)
  have K6_1 := Lib.hid ((K5_1.out.alloc _).on b6)
  have K6_2 := Lib.hid ((K5_2.out.alloc _).on b6)
  have K6_3 := Lib.hid ((K5_3.out.alloc _).on b6)
  have K6_4 := Lib.hid ((K5_4.out.alloc _).on b6)
  have K6_5 := Lib.hid ((K5_5.out.alloc _).on b6)
  have K6_6 := Lib.hid ((Blk.new w5 _ _ _).on b6)
  have B6 := Lib.hid (below_on (B5.out.alloc B5.out.size _) b6)
  clear b6 s5_0 c5_0 d5_0 s5_1 c5_1 d5_1 s5_2 c5_2 d5_2 s5_3 c5_3 d5_3 s5_4 c5_4 d5_4 s5_5 c5_5 d5_5
  obtain ⟨s6_0, c6_0, d6_0⟩ := K6_0.out
  obtain ⟨s6_1, c6_1, d6_1⟩ := K6_1.out
  obtain ⟨s6_2, c6_2, d6_2⟩ := K6_2.out
  obtain ⟨s6_3, c6_3, d6_3⟩ := K6_3.out
  obtain ⟨s6_4, c6_4, d6_4⟩ := K6_4.out
  obtain ⟨s6_5, c6_5, d6_5⟩ := K6_5.out
  obtain ⟨s6_6, c6_6, d6_6⟩ := K6_6.out
  go_wp2_with fail
  (with_reducible refine ((M4 _).out).mono ?_)
  rintro e w7 ⟨rfl, b7⟩
  have K7_0 := Lib.hid ((K6_0.out.alloc _).on b7)
  have K7_1 := Lib.hid ((K6_1.out.alloc _).on b7)
  have K7_2 := Lib.hid ((K6_2.out.alloc _).on b7)
  have K7_3 := Lib.hid ((K6_3.out.alloc _).on b7)
  have K7_4 := Lib.hid ((K6_4.out.alloc _).on b7)
  have K7_5 := Lib.hid ((K6_5.out.alloc _).on b7)
  have K7_6 := Lib.hid ((K6_6.out.alloc _).on b7)
  have K7_7 := Lib.hid ((Blk.new w6 _ _ _).on b7)
  have B7 := Lib.hid (below_on (B6.out.alloc B6.out.size _) b7)
  clear b7 s6_0 c6_0 d6_0 s6_1 c6_1 d6_1 s6_2 c6_2 d6_2 s6_3 c6_3 d6_3 s6_4 c6_4 d6_4 s6_5 c6_5 d6_5 s6_6 c6_6 d6_6
  obtain ⟨s7_0, c7_0, d7_0⟩ := K7_0.out
  obtain ⟨s7_1, c7_1, d7_1⟩ := K7_1.out
  obtain ⟨s7_2, c7_2, d7_2⟩ := K7_2.out
  obtain ⟨s7_3, c7_3, d7_3⟩ := K7_3.out
  obtain ⟨s7_4, c7_4, d7_4⟩ := K7_4.out
  obtain ⟨s7_5, c7_5, d7_5⟩ := K7_5.out
  obtain ⟨s7_6, c7_6, d7_6⟩ := K7_6.out
  obtain ⟨s7_7, c7_7, d7_7⟩ := K7_7.out
  go_wp2_with fail
  (with_reducible refine ((M5 _).out).mono ?_)
  rintro e w8 ⟨rfl, b8⟩
  have K8_0 := Lib.hid ((K7_0.out.alloc _).on b8)
  have K8_1 := Lib.hid ((K7_1.out.alloc _).on b8)
  have K8_2 := Lib.hid ((K7_2.out.alloc _).on b8)
  have K8_3 := Lib.hid ((K7_3.out.alloc _).on b8)
  have K8_4 := Lib.hid ((K7_4.out.alloc _).on b8)
  have K8_5 := Lib.hid ((K7_5.out.alloc _).on b8)
  have K8_6 := Lib.hid ((K7_6.out.alloc _).on b8)
  have K8_7 := Lib.hid ((K7_7.out.alloc _).on b8)
  have K8_8 := Lib.hid ((Blk.new w7 _ _ _).on b8)
  have B8 := Lib.hid (below_on (B7.out.alloc B7.out.size _) b8)
  clear b8 s7_0 c7_0 d7_0 s7_1 c7_1 d7_1 s7_2 c7_2 d7_2 s7_3 c7_3 d7_3 s7_4 c7_4 d7_4 s7_5 c7_5 d7_5 s7_6 c7_6 d7_6 s7_7 c7_7 d7_7
  obtain ⟨s8_0, c8_0, d8_0⟩ := K8_0.out
  obtain ⟨s8_1, c8_1, d8_1⟩ := K8_1.out
  obtain ⟨s8_2, c8_2, d8_2⟩ := K8_2.out
  obtain ⟨s8_3, c8_3, d8_3⟩ := K8_3.out
  obtain ⟨s8_4, c8_4, d8_4⟩ := K8_4.out
  obtain ⟨s8_5, c8_5, d8_5⟩ := K8_5.out
  obtain ⟨s8_6, c8_6, d8_6⟩ := K8_6.out
  obtain ⟨s8_7, c8_7, d8_7⟩ := K8_7.out
  obtain ⟨s8_8, c8_8, d8_8⟩ := K8_8.out
  go_wp2_with fail
  (with_reducible refine ((S5 _).out).mono ?_)
  rintro e w9 ⟨rfl, b9⟩
  have K9_0 := Lib.hid ((K8_0.out.alloc _).on b9)
  have K9_1 := Lib.hid ((K8_1.out.alloc _).on b9)
  have K9_2 := Lib.hid ((K8_2.out.alloc _).on b9)
  have K9_3 := Lib.hid ((K8_3.out.alloc _).on b9)
  have K9_4 := Lib.hid ((K8_4.out.alloc _).on b9)
  have K9_5 := Lib.hid ((K8_5.out.alloc _).on b9)
  have K9_6 := Lib.hid ((K8_6.out.alloc _).on b9)
  have K9_7 := Lib.hid ((K8_7.out.alloc _).on b9)
  have K9_8 := Lib.hid ((K8_8.out.alloc _).on b9)
  have K9_9 := Lib.hid ((Blk.new w8 _ _ _).on b9)
  have B9 := Lib.hid (below_on (B8.out.alloc B8.out.size _) b9)
  clear b9 s8_0 c8_0 d8_0 s8_1 c8_1 d8_1 s8_2 c8_2 d8_2 s8_3 c8_3 d8_3 s8_4 c8_4 d8_4 s8_5 c8_5 d8_5 s8_6 c8_6 d8_6 s8_7 c8_7 d8_7 s8_8 c8_8 d8_8
  obtain ⟨s9_0, c9_0, d9_0⟩ := K9_0.out
  obtain ⟨s9_1, c9_1, d9_1⟩ := K9_1.out
  obtain ⟨s9_2, c9_2, d9_2⟩ := K9_2.out
  obtain ⟨s9_3, c9_3, d9_3⟩ := K9_3.out
  obtain ⟨s9_4, c9_4, d9_4⟩ := K9_4.out
  obtain ⟨s9_5, c9_5, d9_5⟩ := K9_5.out
  obtain ⟨s9_6, c9_6, d9_6⟩ := K9_6.out
  obtain ⟨s9_7, c9_7, d9_7⟩ := K9_7.out
  obtain ⟨s9_8, c9_8, d9_8⟩ := K9_8.out
  obtain ⟨s9_9, c9_9, d9_9⟩ := K9_9.out
  go_wp2_with fail
  (with_reducible refine ((S2 _).out).mono ?_)
  rintro e w10 ⟨rfl, b10⟩
  have K10_0 := Lib.hid ((K9_0.out.alloc _).on b10)
  have K10_1 := Lib.hid ((K9_1.out.alloc _).on b10)
  have K10_2 := Lib.hid ((K9_2.out.alloc _).on b10)
  have K10_3 := Lib.hid ((K9_3.out.alloc _).on b10)
  have K10_4 := Lib.hid ((K9_4.out.alloc _).on b10)
  have K10_5 := Lib.hid ((K9_5.out.alloc _).on b10)
  have K10_6 := Lib.hid ((K9_6.out.alloc _).on b10)
  have K10_7 := Lib.hid ((K9_7.out.alloc _).on b10)
  have K10_8 := Lib.hid ((K9_8.out.alloc _).on b10)
  have K10_9 := Lib.hid ((K9_9.out.alloc _).on b10)
  have K10_10 := Lib.hid ((Blk.new w9 _ _ _).on b10)
  have B10 := Lib.hid (below_on (B9.out.alloc B9.out.size _) b10)
  clear b10 s9_0 c9_0 d9_0 s9_1 c9_1 d9_1 s9_2 c9_2 d9_2 s9_3 c9_3 d9_3 s9_4 c9_4 d9_4 s9_5 c9_5 d9_5 s9_6 c9_6 d9_6 s9_7 c9_7 d9_7 s9_8 c9_8 d9_8 s9_9 c9_9 d9_9
  obtain ⟨s10_0, c10_0, d10_0⟩ := K10_0.out
  obtain ⟨s10_1, c10_1, d10_1⟩ := K10_1.out
  obtain ⟨s10_2, c10_2, d10_2⟩ := K10_2.out
  obtain ⟨s10_3, c10_3, d10_3⟩ := K10_3.out
  obtain ⟨s10_4, c10_4, d10_4⟩ := K10_4.out
  obtain ⟨s10_5, c10_5, d10_5⟩ := K10_5.out
  obtain ⟨s10_6, c10_6, d10_6⟩ := K10_6.out
  obtain ⟨s10_7, c10_7, d10_7⟩ := K10_7.out
  obtain ⟨s10_8, c10_8, d10_8⟩ := K10_8.out
  obtain ⟨s10_9, c10_9, d10_9⟩ := K10_9.out
  obtain ⟨s10_10, c10_10, d10_10⟩ := K10_10.out
  go_wp2_with fail
  (with_reducible refine ((M6 _).out).mono ?_)
  rintro e w11 ⟨rfl, b11⟩
  have K11_0 := Lib.hid ((K10_0.out.alloc _).on b11)
  have K11_1 := Lib.hid ((K10_1.out.alloc _).on b11)
  have K11_2 := Lib.hid ((K10_2.out.alloc _).on b11)
  have K11_3 := Lib.hid ((K10_3.out.alloc _).on b11)
  have K11_4 := Lib.hid ((K10_4.out.alloc _).on b11)
  have K11_5 := Lib.hid ((K10_5.out.alloc _).on b11)
  have K11_6 := Lib.hid ((K10_6.out.alloc _).on b11)
  have K11_7 := Lib.hid ((K10_7.out.alloc _).on b11)
  have K11_8 := Lib.hid ((K10_8.out.alloc _).on b11)
  have K11_9 := Lib.hid ((K10_9.out.alloc _).on b11)
  have K11_10 := Lib.hid ((K10_10.out.alloc _).on b11)
  have K11_11 := Lib.hid ((Blk.new w10 _ _ _).on b11)
  have B11 := Lib.hid (below_on (B10.out.alloc B10.out.size _) b11)
  clear b11 s10_0 c10_0 d10_0 s10_1 c10_1 d10_1 s10_2 c10_2 d10_2 s10_3 c10_3 d10_3 s10_4 c10_4 d10_4 s10_5 c10_5 d10_5 s10_6 c10_6 d10_6 s10_7 c10_7 d10_7 s10_8 c10_8 d10_8 s10_9 c10_9 d10_9 s10_10 c10_10 d10_10
  obtain ⟨s11_0, c11_0, d11_0⟩ := K11_0.out
  obtain ⟨s11_1, c11_1, d11_1⟩ := K11_1.out
  obtain ⟨s11_2, c11_2, d11_2⟩ := K11_2.out
  obtain ⟨s11_3, c11_3, d11_3⟩ := K11_3.out
  obtain ⟨s11_4, c11_4, d11_4⟩ := K11_4.out
  obtain ⟨s11_5, c11_5, d11_5⟩ := K11_5.out
  obtain ⟨s11_6, c11_6, d11_6⟩ := K11_6.out
  obtain ⟨s11_7, c11_7, d11_7⟩ := K11_7.out
  obtain ⟨s11_8, c11_8, d11_8⟩ := K11_8.out
  obtain ⟨s11_9, c11_9, d11_9⟩ := K11_9.out
  obtain ⟨s11_10, c11_10, d11_10⟩ := K11_10.out
  obtain ⟨s11_11, c11_11, d11_11⟩ := K11_11.out
  go_wp2
  go_ret
  exact ⟨rfl, B11.out.alloc B11.out.size _⟩

set_option maxHeartbeats 4000000 in
theorem laws_booob (an ad bn bd cn cd : Int) (w : World) (an0 : -9223372036854775808 ≤ an) (an1 : an ≤ 9223372036854775807) (ad0 : -9223372036854775808 ≤ ad) (ad1 : ad ≤ 9223372036854775807) (bn0 : -9223372036854775808 ≤ bn) (bn1 : bn ≤ 9223372036854775807) (bd0 : -9223372036854775808 ≤ bd) (bd1 : bd ≤ 9223372036854775807) (cn0 : -9223372036854775808 ≤ cn) (cn1 : cn ≤ 9223372036854775807) (cd0 : -9223372036854775808 ≤ cd) (cd1 : cd ≤ 9223372036854775807) (hT : Hid (Pow10 w.heap.size w)) (sn sd se tn td te pn pd pe qn qd qe rn rd re xn xd xe yn yd ye un ud ue : Int) (hs : addT an ad bn bd = (sn, sd, se)) (zs : se ≠ 0) (vs : sn = 0 ∧ sd = 0) (ht : addT bn bd cn cd = (tn, td, te)) (zt : te = 0) (vt : Vld tn td) (hp : mulT an ad bn bd = (pn, pd, pe)) (zp : pe = 0) (vp : Vld pn pd) (hq : mulT bn bd cn cd = (qn, qd, qe)) (zq : qe = 0) (vq : Vld qn qd) (hr : mulT an ad cn cd = (rn, rd, re)) (zr : re ≠ 0) (vr : rn = 0 ∧ rd = 0) (hy1 : mulT pn pd cn cd = (yn, yd, ye)) (hy2 : mulT an ad qn qd = (yn, yd, ye)) (hu : addT pn pd rn rd = (un, ud, ue)) :
    Calls Tryd.prog 7 #[.agg #[.int .i64 an, .int .i64 ad], .agg #[.int .i64 bn, .int .i64 bd], .agg #[.int .i64 cn, .int .i64 cd]] w fun e w' => e = .returned (.bool true) ∧ Below w.heap.size w w' := by
  obtain ⟨ys, ws⟩ := vs
  subst ys; subst ws
  have fs : (se == 0) = false := by simpa using zs
  have gs : (se != 0) = true := by simpa using zs
  have tb1 := vt.d1; have tb2 := vt.d2; have tb3 := vt.n1; have tb4 := vt.n2
  have pb1 := vp.d1; have pb2 := vp.d2; have pb3 := vp.n1; have pb4 := vp.n2
  have qb1 := vq.d1; have qb2 := vq.d2; have qb3 := vq.n1; have qb4 := vq.n2
  obtain ⟨yr, wr⟩ := vr
  subst yr; subst wr
  have fr : (re == 0) = false := by simpa using zr
  have gr : (re != 0) = true := by simpa using zr
  have S1 := fun w => Lib.hid (Add_any an ad bn bd w (by omega) (by omega) (by omega) (by omega) (by omega) (by omega) (by omega) (by omega) 0 0 se hs)
  have S2 := fun w => Lib.hid (Add_any bn bd cn cd w (by omega) (by omega) (by omega) (by omega) (by omega) (by omega) (by omega) (by omega) tn td te ht)
  have M1 := fun w => Lib.hid (Mul_any an ad bn bd w (by omega) (by omega) (by omega) (by omega) (by omega) (by omega) (by omega) (by omega) pn pd pe hp)
  have M2 := fun w => Lib.hid (Mul_any bn bd cn cd w (by omega) (by omega) (by omega) (by omega) (by omega) (by omega) (by omega) (by omega) qn qd qe hq)
  have M3 := fun w => Lib.hid (Mul_any pn pd cn cd w (by omega) (by omega) (by omega) (by omega) (by omega) (by omega) (by omega) (by omega) yn yd ye hy1)
  have M4 := fun w => Lib.hid (Mul_any an ad qn qd w (by omega) (by omega) (by omega) (by omega) (by omega) (by omega) (by omega) (by omega) yn yd ye hy2)
  have M5 := fun w => Lib.hid (Mul_any an ad cn cd w (by omega) (by omega) (by omega) (by omega) (by omega) (by omega) (by omega) (by omega) 0 0 re hr)
  have S5 := fun w => Lib.hid (Add_any pn pd 0 0 w (by omega) (by omega) (by omega) (by omega) (by omega) (by omega) (by omega) (by omega) un ud ue hu)
  subst zt
  subst zp
  subst zq
  clear an0 an1 ad0 ad1 bn0 bn1 bd0 bd1 cn0 cn1 cd0 cd1 hs ht hp hq hr hu hy1 hy2 zs tb1 tb2 tb3 tb4 vt pb1 pb2 pb3 pb4 vp qb1 qb2 qb3 qb4 vq zr
  go_enter Tryd.func7, Tryd.ntmps7
  go_wp2_with fail
  have A0 : Below w.heap.size w (((w.alloc (Obj.cells #[Value.int IntKind.i64 an, Value.int IntKind.i64 ad] 23)).alloc (Obj.cells #[Value.int IntKind.i64 bn, Value.int IntKind.i64 bd] 23)).alloc (Obj.cells #[Value.int IntKind.i64 cn, Value.int IntKind.i64 cd] 23)) := (by repeat' (first | (with_reducible exact Below.refl _ _) | (with_reducible assumption) | (with_reducible refine Below.alloc ?_ ?_ _) | (with_reducible refine below_drew ?_ _) | (with_reducible refine Below.drew ?_) | (with_reducible refine Below.setCell ?_ ?_ _) | go_size))
  (with_reducible refine ((awake_any _ (Lib.hid (pow_on hT.out A0))).mono ?_))
  rintro e w1 ⟨rfl, b1⟩
  have B1 := Lib.hid (below_on A0 b1)
  have K1_0 := Lib.hid (Blk.on (W := (((w.alloc (Obj.cells #[Value.int IntKind.i64 an, Value.int IntKind.i64 ad] 23)).alloc (Obj.cells #[Value.int IntKind.i64 bn, Value.int IntKind.i64 bd] 23)).alloc (Obj.cells #[Value.int IntKind.i64 cn, Value.int IntKind.i64 cd] 23))) (((Blk.new w _ _ _).alloc _).alloc _) b1)
  have K1_1 := Lib.hid (Blk.on (W := (((w.alloc (Obj.cells #[Value.int IntKind.i64 an, Value.int IntKind.i64 ad] 23)).alloc (Obj.cells #[Value.int IntKind.i64 bn, Value.int IntKind.i64 bd] 23)).alloc (Obj.cells #[Value.int IntKind.i64 cn, Value.int IntKind.i64 cd] 23))) ((Blk.new1 w _ _ _ _).alloc _) b1)
  have K1_2 := Lib.hid (Blk.on (W := (((w.alloc (Obj.cells #[Value.int IntKind.i64 an, Value.int IntKind.i64 ad] 23)).alloc (Obj.cells #[Value.int IntKind.i64 bn, Value.int IntKind.i64 bd] 23)).alloc (Obj.cells #[Value.int IntKind.i64 cn, Value.int IntKind.i64 cd] 23))) (Blk.new2 w _ _ _ _ _) b1)
  clear b1 A0
  obtain ⟨s1_0, c1_0, d1_0⟩ := K1_0.out
  obtain ⟨s1_1, c1_1, d1_1⟩ := K1_1.out
  obtain ⟨s1_2, c1_2, d1_2⟩ := K1_2.out
  go_wp2_with fail
  (with_reducible refine ((S1 _).out).mono ?_)
  rintro e w2 ⟨rfl, b2⟩
  have K2_0 := Lib.hid (K1_0.out.on b2)
  have K2_1 := Lib.hid (K1_1.out.on b2)
  have K2_2 := Lib.hid (K1_2.out.on b2)
  have B2 := Lib.hid (below_on B1.out b2)
  clear b2 s1_0 c1_0 d1_0 s1_1 c1_1 d1_1 s1_2 c1_2 d1_2
  obtain ⟨s2_0, c2_0, d2_0⟩ := K2_0.out
  obtain ⟨s2_1, c2_1, d2_1⟩ := K2_1.out
  obtain ⟨s2_2, c2_2, d2_2⟩ := K2_2.out
  go_wp2_with fail
  (with_reducible refine ((S2 _).out).mono ?_)
  rintro e w3 ⟨rfl, b3⟩
  have K3_0 := Lib.hid ((K2_0.out.alloc _).on b3)
  have K3_1 := Lib.hid ((K2_1.out.alloc _).on b3)
  have K3_2 := Lib.hid ((K2_2.out.alloc _).on b3)
  have K3_3 := Lib.hid ((Blk.new w2 _ _ _).on b3)
  have B3 := Lib.hid (below_on (B2.out.alloc B2.out.size _) b3)
  clear b3 s2_0 c2_0 d2_0 s2_1 c2_1 d2_1 s2_2 c2_2 d2_2
  obtain ⟨s3_0, c3_0, d3_0⟩ := K3_0.out
  obtain ⟨s3_1, c3_1, d3_1⟩ := K3_1.out
  obtain ⟨s3_2, c3_2, d3_2⟩ := K3_2.out
  obtain ⟨s3_3, c3_3, d3_3⟩ := K3_3.out
  go_wp2_with fail
  (with_reducible refine ((M1 _).out).mono ?_)
  rintro e w4 ⟨rfl, b4⟩
  have K4_0 := Lib.hid ((K3_0.out.alloc _).on b4)
  have K4_1 := Lib.hid ((K3_1.out.alloc _).on b4)
  have K4_2 := Lib.hid ((K3_2.out.alloc _).on b4)
  have K4_3 := Lib.hid ((K3_3.out.alloc _).on b4)
  have K4_4 := Lib.hid ((Blk.new w3 _ _ _).on b4)
  have B4 := Lib.hid (below_on (B3.out.alloc B3.out.size _) b4)
  clear b4 s3_0 c3_0 d3_0 s3_1 c3_1 d3_1 s3_2 c3_2 d3_2 s3_3 c3_3 d3_3
  obtain ⟨s4_0, c4_0, d4_0⟩ := K4_0.out
  obtain ⟨s4_1, c4_1, d4_1⟩ := K4_1.out
  obtain ⟨s4_2, c4_2, d4_2⟩ := K4_2.out
  obtain ⟨s4_3, c4_3, d4_3⟩ := K4_3.out
  obtain ⟨s4_4, c4_4, d4_4⟩ := K4_4.out
  go_wp2_with fail
  (with_reducible refine ((M2 _).out).mono ?_)
  rintro e w5 ⟨rfl, b5⟩
  have K5_0 := Lib.hid ((K4_0.out.alloc _).on b5)
  have K5_1 := Lib.hid ((K4_1.out.alloc _).on b5)
  have K5_2 := Lib.hid ((K4_2.out.alloc _).on b5)
  have K5_3 := Lib.hid ((K4_3.out.alloc _).on b5)
  have K5_4 := Lib.hid ((K4_4.out.alloc _).on b5)
  have K5_5 := Lib.hid ((Blk.new w4 _ _ _).on b5)
  have B5 := Lib.hid (below_on (B4.out.alloc B4.out.size _) b5)
  clear b5 s4_0 c4_0 d4_0 s4_1 c4_1 d4_1 s4_2 c4_2 d4_2 s4_3 c4_3 d4_3 s4_4 c4_4 d4_4
  obtain ⟨s5_0, c5_0, d5_0⟩ := K5_0.out
  obtain ⟨s5_1, c5_1, d5_1⟩ := K5_1.out
  obtain ⟨s5_2, c5_2, d5_2⟩ := K5_2.out
  obtain ⟨s5_3, c5_3, d5_3⟩ := K5_3.out
  obtain ⟨s5_4, c5_4, d5_4⟩ := K5_4.out
  obtain ⟨s5_5, c5_5, d5_5⟩ := K5_5.out
  go_wp2_with fail
  (with_reducible refine ((M3 _).out).mono ?_)
  rintro e w6 ⟨rfl, b6⟩
  have K6_0 := Lib.hid ((K5_0.out.alloc _).on b6)
  have K6_1 := Lib.hid ((K5_1.out.alloc _).on b6)
  have K6_2 := Lib.hid ((K5_2.out.alloc _).on b6)
  have K6_3 := Lib.hid ((K5_3.out.alloc _).on b6)
  have K6_4 := Lib.hid ((K5_4.out.alloc _).on b6)
  have K6_5 := Lib.hid ((K5_5.out.alloc _).on b6)
  have K6_6 := Lib.hid ((Blk.new w5 _ _ _).on b6)
  have B6 := Lib.hid (below_on (B5.out.alloc B5.out.size _) b6)
  clear b6 s5_0 c5_0 d5_0 s5_1 c5_1 d5_1 s5_2 c5_2 d5_2 s5_3 c5_3 d5_3 s5_4 c5_4 d5_4 s5_5 c5_5 d5_5
  obtain ⟨s6_0, c6_0, d6_0⟩ := K6_0.out
  obtain ⟨s6_1, c6_1, d6_1⟩ := K6_1.out
  obtain ⟨s6_2, c6_2, d6_2⟩ := K6_2.out
  obtain ⟨s6_3, c6_3, d6_3⟩ := K6_3.out
  obtain ⟨s6_4, c6_4, d6_4⟩ := K6_4.out
  obtain ⟨s6_5, c6_5, d6_5⟩ := K6_5.out
  obtain ⟨s6_6, c6_6, d6_6⟩ := K6_6.out
  go_wp2_with fail
  (with_reducible refine ((M4 _).out).mono ?_)
  rintro e w7 ⟨rfl, b7⟩
  have K7_0 := Lib.hid ((K6_0.out.alloc _).on b7)
  have K7_1 := Lib.hid ((K6_1.out.alloc _).on b7)
  have K7_2 := Lib.hid ((K6_2.out.alloc _).on b7)
  have K7_3 := Lib.hid ((K6_3.out.alloc _).on b7)
  have K7_4 := Lib.hid ((K6_4.out.alloc _).on b7)
  have K7_5 := Lib.hid ((K6_5.out.alloc _).on b7)
  have K7_6 := Lib.hid ((K6_6.out.alloc _).on b7)
  have K7_7 := Lib.hid ((Blk.new w6 _ _ _).on b7)
  have B7 := Lib.hid (below_on (B6.out.alloc B6.out.size _) b7)
  clear b7 s6_0 c6_0 d6_0 s6_1 c6_1 d6_1 s6_2 c6_2 d6_2 s6_3 c6_3 d6_3 s6_4 c6_4 d6_4 s6_5 c6_5 d6_5 s6_6 c6_6 d6_6
  obtain ⟨s7_0, c7_0, d7_0⟩ := K7_0.out
  obtain ⟨s7_1, c7_1, d7_1⟩ := K7_1.out
  obtain ⟨s7_2, c7_2, d7_2⟩ := K7_2.out
  obtain ⟨s7_3, c7_3, d7_3⟩ := K7_3.out
  obtain ⟨s7_4, c7_4, d7_4⟩ := K7_4.out
  obtain ⟨s7_5, c7_5, d7_5⟩ := K7_5.out
  obtain ⟨s7_6, c7_6, d7_6⟩ := K7_6.out
  obtain ⟨s7_7, c7_7, d7_7⟩ := K7_7.out
  go_wp2_with fail
  (with_reducible refine ((M5 _).out).mono ?_)
  rintro e w8 ⟨rfl, b8⟩
  have K8_0 := Lib.hid ((K7_0.out.alloc _).on b8)
  have K8_1 := Lib.hid ((K7_1.out.alloc _).on b8)
  have K8_2 := Lib.hid ((K7_2.out.alloc _).on b8)
  have K8_3 := Lib.hid ((K7_3.out.alloc _).on b8)
  have K8_4 := Lib.hid ((K7_4.out.alloc _).on b8)
  have K8_5 := Lib.hid ((K7_5.out.alloc _).on b8)
  have K8_6 := Lib.hid ((K7_6.out.alloc _).on b8)
  have K8_7 := Lib.hid ((K7_7.out.alloc _).on b8)
  have K8_8 := Lib.hid ((Blk.new w7 _ _ _).on b8)
  have B8 := Lib.hid (below_on (B7.out.alloc B7.out.size _) b8)
  clear b8 s7_0 c7_0 d7_0 s7_1 c7_1 d7_1 s7_2 c7_2 d7_2 s7_3 c7_3 d7_3 s7_4 c7_4 d7_4 s7_5 c7_5 d7_5 s7_6 c7_6 d7_6 s7_7 c7_7 d7_7
  obtain ⟨s8_0, c8_0, d8_0⟩ := K8_0.out
  obtain ⟨s8_1, c8_1, d8_1⟩ := K8_1.out
  obtain ⟨s8_2, c8_2, d8_2⟩ := K8_2.out
  obtain ⟨s8_3, c8_3, d8_3⟩ := K8_3.out
  obtain ⟨s8_4, c8_4, d8_4⟩ := K8_4.out
  obtain ⟨s8_5, c8_5, d8_5⟩ := K8_5.out
  obtain ⟨s8_6, c8_6, d8_6⟩ := K8_6.out
  obtain ⟨s8_7, c8_7, d8_7⟩ := K8_7.out
  obtain ⟨s8_8, c8_8, d8_8⟩ := K8_8.out
  go_wp2_with fail
  (with_reducible refine ((S5 _).out).mono ?_)
  rintro e w9 ⟨rfl, b9⟩
  have K9_0 := Lib.hid ((K8_0.out.alloc _).on b9)
  have K9_1 := Lib.hid ((K8_1.out.alloc _).on b9)
  have K9_2 := Lib.hid ((K8_2.out.alloc _).on b9)
  have K9_3 := Lib.hid ((K8_3.out.alloc _).on b9)
  have K9_4 := Lib.hid ((K8_4.out.alloc _).on b9)
  have K9_5 := Lib.hid ((K8_5.out.alloc _).on b9)
  have K9_6 := Lib.hid ((K8_6.out.alloc _).on b9)
  have K9_7 := Lib.hid ((K8_7.out.alloc _).on b9)
  have K9_8 := Lib.hid ((K8_8.out.alloc _).on b9)
  have K9_9 := Lib.hid ((Blk.new w8 _ _ _).on b9)
  have B9 := Lib.hid (below_on (B8.out.alloc B8.out.size _) b9)
  clear b9 s8_0 c8_0 d8_0 s8_1 c8_1 d8_1 s8_2 c8_2 d8_2 s8_3 c8_3 d8_3 s8_4 c8_4 d8_4 s8_5 c8_5 d8_5 s8_6 c8_6 d8_6 s8_7 c8_7 d8_7 s8_8 c8_8 d8_8
  obtain ⟨s9_0, c9_0, d9_0⟩ := K9_0.out
  obtain ⟨s9_1, c9_1, d9_1⟩ := K9_1.out
  obtain ⟨s9_2, c9_2, d9_2⟩ := K9_2.out
  obtain ⟨s9_3, c9_3, d9_3⟩ := K9_3.out
  obtain ⟨s9_4, c9_4, d9_4⟩ := K9_4.out
  obtain ⟨s9_5, c9_5, d9_5⟩ := K9_5.out
  obtain ⟨s9_6, c9_6, d9_6⟩ := K9_6.out
  obtain ⟨s9_7, c9_7, d9_7⟩ := K9_7.out
  obtain ⟨s9_8, c9_8, d9_8⟩ := K9_8.out
  obtain ⟨s9_9, c9_9, d9_9⟩ := K9_9.out
  go_wp2_with fail
  (with_reducible refine ((S2 _).out).mono ?_)
  rintro e w10 ⟨rfl, b10⟩
  have K10_0 := Lib.hid ((K9_0.out.alloc _).on b10)
  have K10_1 := Lib.hid ((K9_1.out.alloc _).on b10)
  have K10_2 := Lib.hid ((K9_2.out.alloc _).on b10)
  have K10_3 := Lib.hid ((K9_3.out.alloc _).on b10)
  have K10_4 := Lib.hid ((K9_4.out.alloc _).on b10)
  have K10_5 := Lib.hid ((K9_5.out.alloc _).on b10)
  have K10_6 := Lib.hid ((K9_6.out.alloc _).on b10)
  have K10_7 := Lib.hid ((K9_7.out.alloc _).on b10)
  have K10_8 := Lib.hid ((K9_8.out.alloc _).on b10)
  have K10_9 := Lib.hid ((K9_9.out.alloc _).on b10)
  have K10_10 := Lib.hid ((Blk.new w9 _ _ _).on b10)
  have B10 := Lib.hid (below_on (B9.out.alloc B9.out.size _) b10)
  clear b10 s9_0 c9_0 d9_0 s9_1 c9_1 d9_1 s9_2 c9_2 d9_2 s9_3 c9_3 d9_3 s9_4 c9_4 d9_4 s9_5 c9_5 d9_5 s9_6 c9_6 d9_6 s9_7 c9_7 d9_7 s9_8 c9_8 d9_8 s9_9 c9_9 d9_9
  obtain ⟨s10_0, c10_0, d10_0⟩ := K10_0.out
  obtain ⟨s10_1, c10_1, d10_1⟩ := K10_1.out
  obtain ⟨s10_2, c10_2, d10_2⟩ := K10_2.out
  obtain ⟨s10_3, c10_3, d10_3⟩ := K10_3.out
  obtain ⟨s10_4, c10_4, d10_4⟩ := K10_4.out
  obtain ⟨s10_5, c10_5, d10_5⟩ := K10_5.out
  obtain ⟨s10_6, c10_6, d10_6⟩ := K10_6.out
  obtain ⟨s10_7, c10_7, d10_7⟩ := K10_7.out
  obtain ⟨s10_8, c10_8, d10_8⟩ := K10_8.out
  obtain ⟨s10_9, c10_9, d10_9⟩ := K10_9.out
  obtain ⟨s10_10, c10_10, d10_10⟩ := K10_10.out
  go_wp2
  go_ret
  exact ⟨rfl, B10.out.alloc B10.out.size _⟩

set_option maxHeartbeats 4000000 in
theorem laws_boobo (an ad bn bd cn cd : Int) (w : World) (an0 : -9223372036854775808 ≤ an) (an1 : an ≤ 9223372036854775807) (ad0 : -9223372036854775808 ≤ ad) (ad1 : ad ≤ 9223372036854775807) (bn0 : -9223372036854775808 ≤ bn) (bn1 : bn ≤ 9223372036854775807) (bd0 : -9223372036854775808 ≤ bd) (bd1 : bd ≤ 9223372036854775807) (cn0 : -9223372036854775808 ≤ cn) (cn1 : cn ≤ 9223372036854775807) (cd0 : -9223372036854775808 ≤ cd) (cd1 : cd ≤ 9223372036854775807) (hT : Hid (Pow10 w.heap.size w)) (sn sd se tn td te pn pd pe qn qd qe rn rd re xn xd xe yn yd ye un ud ue : Int) (hs : addT an ad bn bd = (sn, sd, se)) (zs : se ≠ 0) (vs : sn = 0 ∧ sd = 0) (ht : addT bn bd cn cd = (tn, td, te)) (zt : te = 0) (vt : Vld tn td) (hp : mulT an ad bn bd = (pn, pd, pe)) (zp : pe = 0) (vp : Vld pn pd) (hq : mulT bn bd cn cd = (qn, qd, qe)) (zq : qe ≠ 0) (vq : qn = 0 ∧ qd = 0) (hr : mulT an ad cn cd = (rn, rd, re)) (zr : re = 0) (vr : Vld rn rd) (hu : addT pn pd rn rd = (un, ud, ue)) (hv : mulT an ad tn td = (un, ud, ue)) :
    Calls Tryd.prog 7 #[.agg #[.int .i64 an, .int .i64 ad], .agg #[.int .i64 bn, .int .i64 bd], .agg #[.int .i64 cn, .int .i64 cd]] w fun e w' => e = .returned (.bool true) ∧ Below w.heap.size w w' := by
  obtain ⟨ys, ws⟩ := vs
  subst ys; subst ws
  have fs : (se == 0) = false := by simpa using zs
  have gs : (se != 0) = true := by simpa using zs
  have tb1 := vt.d1; have tb2 := vt.d2; have tb3 := vt.n1; have tb4 := vt.n2
  have pb1 := vp.d1; have pb2 := vp.d2; have pb3 := vp.n1; have pb4 := vp.n2
  obtain ⟨yq, wq⟩ := vq
  subst yq; subst wq
  have fq : (qe == 0) = false := by simpa using zq
  have gq : (qe != 0) = true := by simpa using zq
  have rb1 := vr.d1; have rb2 := vr.d2; have rb3 := vr.n1; have rb4 := vr.n2
  have S1 := fun w => Lib.hid (Add_any an ad bn bd w (by omega) (by omega) (by omega) (by omega) (by omega) (by omega) (by omega) (by omega) 0 0 se hs)
  have S2 := fun w => Lib.hid (Add_any bn bd cn cd w (by omega) (by omega) (by omega) (by omega) (by omega) (by omega) (by omega) (by omega) tn td te ht)
  have M1 := fun w => Lib.hid (Mul_any an ad bn bd w (by omega) (by omega) (by omega) (by omega) (by omega) (by omega) (by omega) (by omega) pn pd pe hp)
  have M2 := fun w => Lib.hid (Mul_any bn bd cn cd w (by omega) (by omega) (by omega) (by omega) (by omega) (by omega) (by omega) (by omega) 0 0 qe hq)
  have M5 := fun w => Lib.hid (Mul_any an ad cn cd w (by omega) (by omega) (by omega) (by omega) (by omega) (by omega) (by omega) (by omega) rn rd re hr)
  have S5 := fun w => Lib.hid (Add_any pn pd rn rd w (by omega) (by omega) (by omega) (by omega) (by omega) (by omega) (by omega) (by omega) un ud ue hu)
  have M6 := fun w => Lib.hid (Mul_any an ad tn td w (by omega) (by omega) (by omega) (by omega) (by omega) (by omega) (by omega) (by omega) un ud ue hv)
  subst zt
  subst zp
  subst zr
  clear an0 an1 ad0 ad1 bn0 bn1 bd0 bd1 cn0 cn1 cd0 cd1 hs ht hp hq hr hu hv zs tb1 tb2 tb3 tb4 vt pb1 pb2 pb3 pb4 vp zq rb1 rb2 rb3 rb4 vr
  go_enter Tryd.func7, Tryd.ntmps7
  go_wp2_with fail
  have A0 : Below w.heap.size w (((w.alloc (Obj.cells #[Value.int IntKind.i64 an, Value.int IntKind.i64 ad] 23)).alloc (Obj.cells #[Value.int IntKind.i64 bn, Value.int IntKind.i64 bd] 23)).alloc (Obj.cells #[Value.int IntKind.i64 cn, Value.int IntKind.i64 cd] 23)) := (by repeat' (first | (with_reducible exact Below.refl _ _) | (with_reducible assumption) | (with_reducible refine Below.alloc ?_ ?_ _) | (with_reducible refine below_drew ?_ _) | (with_reducible refine Below.drew ?_) | (with_reducible refine Below.setCell ?_ ?_ _) | go_size))
  (with_reducible refine ((awake_any _ (Lib.hid (pow_on hT.out A0))).mono ?_))
  rintro e w1 ⟨rfl, b1⟩
  have B1 := Lib.hid (below_on A0 b1)
  have K1_0 := Lib.hid (Blk.on (W := (((w.alloc (Obj.cells #[Value.int IntKind.i64 an, Value.int IntKind.i64 ad] 23)).alloc (Obj.cells #[Value.int IntKind.i64 bn, Value.int IntKind.i64 bd] 23)).alloc (Obj.cells #[Value.int IntKind.i64 cn, Value.int IntKind.i64 cd] 23))) (((Blk.new w _ _ _).alloc _).alloc _) b1)
  have K1_1 := Lib.hid (Blk.on (W := (((w.alloc (Obj.cells #[Value.int IntKind.i64 an, Value.int IntKind.i64 ad] 23)).alloc (Obj.cells #[Value.int IntKind.i64 bn, Value.int IntKind.i64 bd] 23)).alloc (Obj.cells #[Value.int IntKind.i64 cn, Value.int IntKind.i64 cd] 23))) ((Blk.new1 w _ _ _ _).alloc _) b1)
  have K1_2 := Lib.hid (Blk.on (W := (((w.alloc (Obj.cells #[Value.int IntKind.i64 an, Value.int IntKind.i64 ad] 23)).alloc (Obj.cells #[Value.int IntKind.i64 bn, Value.int IntKind.i64 bd] 23)).alloc (Obj.cells #[Value.int IntKind.i64 cn, Value.int IntKind.i64 cd] 23))) (Blk.new2 w _ _ _ _ _) b1)
  clear b1 A0
  obtain ⟨s1_0, c1_0, d1_0⟩ := K1_0.out
  obtain ⟨s1_1, c1_1, d1_1⟩ := K1_1.out
  obtain ⟨s1_2, c1_2, d1_2⟩ := K1_2.out
  go_wp2_with fail
  (with_reducible refine ((S1 _).out).mono ?_)
  rintro e w2 ⟨rfl, b2⟩
  have K2_0 := Lib.hid (K1_0.out.on b2)
  have K2_1 := Lib.hid (K1_1.out.on b2)
  have K2_2 := Lib.hid (K1_2.out.on b2)
  have B2 := Lib.hid (below_on B1.out b2)
  clear b2 s1_0 c1_0 d1_0 s1_1 c1_1 d1_1 s1_2 c1_2 d1_2
  obtain ⟨s2_0, c2_0, d2_0⟩ := K2_0.out
  obtain ⟨s2_1, c2_1, d2_1⟩ := K2_1.out
  obtain ⟨s2_2, c2_2, d2_2⟩ := K2_2.out
  go_wp2_with fail
  (with_reducible refine ((S2 _).out).mono ?_)
  rintro e w3 ⟨rfl, b3⟩
  have K3_0 := Lib.hid ((K2_0.out.alloc _).on b3)
  have K3_1 := Lib.hid ((K2_1.out.alloc _).on b3)
  have K3_2 := Lib.hid ((K2_2.out.alloc _).on b3)
  have K3_3 := Lib.hid ((Blk.new w2 _ _ _).on b3)
  have B3 := Lib.hid (below_on (B2.out.alloc B2.out.size _) b3)
  clear b3 s2_0 c2_0 d2_0 s2_1 c2_1 d2_1 s2_2 c2_2 d2_2
  obtain ⟨s3_0, c3_0, d3_0⟩ := K3_0.out
  obtain ⟨s3_1, c3_1, d3_1⟩ := K3_1.out
  obtain ⟨s3_2, c3_2, d3_2⟩ := K3_2.out
  obtain ⟨s3_3, c3_3, d3_3⟩ := K3_3.out
  go_wp2_with fail
  (with_reducible refine ((M1 _).out).mono ?_)
  rintro e w4 ⟨rfl, b4⟩
  have K4_0 := Lib.hid ((K3_0.out.alloc _).on b4)
  have K4_1 := Lib.hid ((K3_1.out.alloc _).on b4)
  have K4_2 := Lib.hid ((K3_2.out.alloc _).on b4)
  have K4_3 := Lib.hid ((K3_3.out.alloc _).on b4)
  have K4_4 := Lib.hid ((Blk.new w3 _ _ _).on b4)
  have B4 := Lib.hid (below_on (B3.out.alloc B3.out.size _) b4)
  clear b4 s3_0 c3_0 d3_0 s3_1 c3_1 d3_1 s3_2 c3_2 d3_2 s3_3 c3_3 d3_3
  obtain ⟨s4_0, c4_0, d4_0⟩ := K4_0.out
  obtain ⟨s4_1, c4_1, d4_1⟩ := K4_1.out
  obtain ⟨s4_2, c4_2, d4_2⟩ := K4_2.out
  obtain ⟨s4_3, c4_3, d4_3⟩ := K4_3.out
  obtain ⟨s4_4, c4_4, d4_4⟩ := K4_4.out
  go_wp2_with fail
  (with_reducible refine ((M2 _).out).mono ?_)
  rintro e w5 ⟨rfl, b5⟩
  have K5_0 := Lib.hid ((K4_0.out.alloc _).on b5)
  have K5_1 := Lib.hid ((K4_1.out.alloc _).on b5)
  have K5_2 := Lib.hid ((K4_2.out.alloc _).on b5)
  have K5_3 := Lib.hid ((K4_3.out.alloc _).on b5)
  have K5_4 := Lib.hid ((K4_4.out.alloc _).on b5)
  have K5_5 := Lib.hid ((Blk.new w4 _ _ _).on b5)
  have B5 := Lib.hid (below_on (B4.out.alloc B4.out.size _) b5)
  clear b5 s4_0 c4_0 d4_0 s4_1 c4_1 d4_1 s4_2 c4_2 d4_2 s4_3 c4_3 d4_3 s4_4 c4_4 d4_4
  obtain ⟨s5_0, c5_0, d5_0⟩ := K5_0.out
  obtain ⟨s5_1, c5_1, d5_1⟩ := K5_1.out
  obtain ⟨s5_2, c5_2, d5_2⟩ := K5_2.out
  obtain ⟨s5_3, c5_3, d5_3⟩ := K5_3.out
  obtain ⟨s5_4, c5_4, d5_4⟩ := K5_4.out
  obtain ⟨s5_5, c5_5, d5_5⟩ := K5_5.out
  go_wp2_with fail
  (with_reducible refine ((M5 _).out).mono ?_)
  rintro e w6 ⟨rfl, b6⟩
  have K6_0 := Lib.hid ((K5_0.out.alloc _).on b6)
  have K6_1 := Lib.hid ((K5_1.out.alloc _).on b6)
  have K6_2 := Lib.hid ((K5_2.out.alloc _).on b6)
  have K6_3 := Lib.hid ((K5_3.out.alloc _).on b6)
  have K6_4 := Lib.hid ((K5_4.out.alloc _).on b6)
  have K6_5 := Lib.hid ((K5_5.out.alloc _).on b6)
  have K6_6 := Lib.hid ((Blk.new w5 _ _ _).on b6)
  have B6 := Lib.hid (below_on (B5.out.alloc B5.out.size _) b6)
  clear b6 s5_0 c5_0 d5_0 s5_1 c5_1 d5_1 s5_2 c5_2 d5_2 s5_3 c5_3 d5_3 s5_4 c5_4 d5_4 s5_5 c5_5 d5_5
  obtain ⟨s6_0, c6_0, d6_0⟩ := K6_0.out
  obtain ⟨s6_1, c6_1, d6_1⟩ := K6_1.out
  obtain ⟨s6_2, c6_2, d6_2⟩ := K6_2.out
  obtain ⟨s6_3, c6_3, d6_3⟩ := K6_3.out
  obtain ⟨s6_4, c6_4, d6_4⟩ := K6_4.out
  obtain ⟨s6_5, c6_5, d6_5⟩ := K6_5.out
  obtain ⟨s6_6, c6_6, d6_6⟩ := K6_6.out
  go_wp2_with fail
  (with_reducible refine ((S5 _).out).mono ?_)
  rintro e w7 ⟨rfl, b7⟩
  have K7_0 := Lib.hid ((K6_0.out.alloc _).on b7)
  have K7_1 := Lib.hid ((K6_1.out.alloc _).on b7)
  have K7_2 := Lib.hid ((K6_2.out.alloc _).on b7)
  have K7_3 := Lib.hid ((K6_3.out.alloc _).on b7)
  have K7_4 := Lib.hid ((K6_4.out.alloc _).on b7)
  have K7_5 := Lib.hid ((K6_5.out.alloc _).on b7)
  have K7_6 := Lib.hid ((K6_6.out.alloc _).on b7)
  have K7_7 := Lib.hid ((Blk.new w6 _ _ _).on b7)
  have B7 := Lib.hid (below_on (B6.out.alloc B6.out.size _) b7)
  clear b7 s6_0 c6_0 d6_0 s6_1 c6_1 d6_1 s6_2 c6_2 d6_2 s6_3 c6_3 d6_3 s6_4 c6_4 d6_4 s6_5 c6_5 d6_5 s6_6 c6_6 d6_6
  obtain ⟨s7_0, c7_0, d7_0⟩ := K7_0.out
  obtain ⟨s7_1, c7_1, d7_1⟩ := K7_1.out
  obtain ⟨s7_2, c7_2, d7_2⟩ := K7_2.out
  obtain ⟨s7_3, c7_3, d7_3⟩ := K7_3.out
  obtain ⟨s7_4, c7_4, d7_4⟩ := K7_4.out
  obtain ⟨s7_5, c7_5, d7_5⟩ := K7_5.out
  obtain ⟨s7_6, c7_6, d7_6⟩ := K7_6.out
  obtain ⟨s7_7, c7_7, d7_7⟩ := K7_7.out
  go_wp2_with fail
  (with_reducible refine ((S2 _).out).mono ?_)
  rintro e w8 ⟨rfl, b8⟩
  have K8_0 := Lib.hid ((K7_0.out.alloc _).on b8)
  have K8_1 := Lib.hid ((K7_1.out.alloc _).on b8)
  have K8_2 := Lib.hid ((K7_2.out.alloc _).on b8)
  have K8_3 := Lib.hid ((K7_3.out.alloc _).on b8)
  have K8_4 := Lib.hid ((K7_4.out.alloc _).on b8)
  have K8_5 := Lib.hid ((K7_5.out.alloc _).on b8)
  have K8_6 := Lib.hid ((K7_6.out.alloc _).on b8)
  have K8_7 := Lib.hid ((K7_7.out.alloc _).on b8)
  have K8_8 := Lib.hid ((Blk.new w7 _ _ _).on b8)
  have B8 := Lib.hid (below_on (B7.out.alloc B7.out.size _) b8)
  clear b8 s7_0 c7_0 d7_0 s7_1 c7_1 d7_1 s7_2 c7_2 d7_2 s7_3 c7_3 d7_3 s7_4 c7_4 d7_4 s7_5 c7_5 d7_5 s7_6 c7_6 d7_6 s7_7 c7_7 d7_7
  obtain ⟨s8_0, c8_0, d8_0⟩ := K8_0.out
  obtain ⟨s8_1, c8_1, d8_1⟩ := K8_1.out
  obtain ⟨s8_2, c8_2, d8_2⟩ := K8_2.out
  obtain ⟨s8_3, c8_3, d8_3⟩ := K8_3.out
  obtain ⟨s8_4, c8_4, d8_4⟩ := K8_4.out
  obtain ⟨s8_5, c8_5, d8_5⟩ := K8_5.out
  obtain ⟨s8_6, c8_6, d8_6⟩ := K8_6.out
  obtain ⟨s8_7, c8_7, d8_7⟩ := K8_7.out
  obtain ⟨s8_8, c8_8, d8_8⟩ := K8_8.out
  go_wp2_with fail
  (with_reducible refine ((M6 _).out).mono ?_)
  rintro e w9 ⟨rfl, b9⟩
  have K9_0 := Lib.hid ((K8_0.out.alloc _).on b9)
  have K9_1 := Lib.hid ((K8_1.out.alloc _).on b9)
  have K9_2 := Lib.hid ((K8_2.out.alloc _).on b9)
  have K9_3 := Lib.hid ((K8_3.out.alloc _).on b9)
  have K9_4 := Lib.hid ((K8_4.out.alloc _).on b9)
  have K9_5 := Lib.hid ((K8_5.out.alloc _).on b9)
  have K9_6 := Lib.hid ((K8_6.out.alloc _).on b9)
  have K9_7 := Lib.hid ((K8_7.out.alloc _).on b9)
  have K9_8 := Lib.hid ((K8_8.out.alloc _).on b9)
  have K9_9 := Lib.hid ((Blk.new w8 _ _ _).on b9)
  have B9 := Lib.hid (below_on (B8.out.alloc B8.out.size _) b9)
  clear b9 s8_0 c8_0 d8_0 s8_1 c8_1 d8_1 s8_2 c8_2 d8_2 s8_3 c8_3 d8_3 s8_4 c8_4 d8_4 s8_5 c8_5 d8_5 s8_6 c8_6 d8_6 s8_7 c8_7 d8_7 s8_8 c8_8 d8_8
  obtain ⟨s9_0, c9_0, d9_0⟩ := K9_0.out
  obtain ⟨s9_1, c9_1, d9_1⟩ := K9_1.out
  obtain ⟨s9_2, c9_2, d9_2⟩ := K9_2.out
  obtain ⟨s9_3, c9_3, d9_3⟩ := K9_3.out
  obtain ⟨s9_4, c9_4, d9_4⟩ := K9_4.out
  obtain ⟨s9_5, c9_5, d9_5⟩ := K9_5.out
  obtain ⟨s9_6, c9_6, d9_6⟩ := K9_6.out
  obtain ⟨s9_7, c9_7, d9_7⟩ := K9_7.out
  obtain ⟨s9_8, c9_8, d9_8⟩ := K9_8.out
  obtain ⟨s9_9, c9_9, d9_9⟩ := K9_9.out
  go_wp2
  go_ret
  exact ⟨rfl, B9.out.alloc B9.out.size _⟩

set_option maxHeartbeats 4000000 in
theorem laws_boobb (an ad bn bd cn cd : Int) (w : World) (an0 : -9223372036854775808 ≤ an) (an1 : an ≤ 9223372036854775807) (ad0 : -9223372036854775808 ≤ ad) (ad1 : ad ≤ 9223372036854775807) (bn0 : -9223372036854775808 ≤ bn) (bn1 : bn ≤ 9223372036854775807) (bd0 : -9223372036854775808 ≤ bd) (bd1 : bd ≤ 9223372036854775807) (cn0 : -9223372036854775808 ≤ cn) (cn1 : cn ≤ 9223372036854775807) (cd0 : -9223372036854775808 ≤ cd) (cd1 : cd ≤ 9223372036854775807) (hT : Hid (Pow10 w.heap.size w)) (sn sd se tn td te pn pd pe qn qd qe rn rd re xn xd xe yn yd ye un ud ue : Int) (hs : addT an ad bn bd = (sn, sd, se)) (zs : se ≠ 0) (vs : sn = 0 ∧ sd = 0) (ht : addT bn bd cn cd = (tn, td, te)) (zt : te = 0) (vt : Vld tn td) (hp : mulT an ad bn bd = (pn, pd, pe)) (zp : pe = 0) (vp : Vld pn pd) (hq : mulT bn bd cn cd = (qn, qd, qe)) (zq : qe ≠ 0) (vq : qn = 0 ∧ qd = 0) (hr : mulT an ad cn cd = (rn, rd, re)) (zr : re ≠ 0) (vr : rn = 0 ∧ rd = 0) (hu : addT pn pd rn rd = (un, ud, ue)) :
    Calls Tryd.prog 7 #[.agg #[.int .i64 an, .int .i64 ad], .agg #[.int .i64 bn, .int .i64 bd], .agg #[.int .i64 cn, .int .i64 cd]] w fun e w' => e = .returned (.bool true) ∧ Below w.heap.size w w' := by
  obtain ⟨ys, ws⟩ := vs
  subst ys; subst ws
  have fs : (se == 0) = false := by simpa using zs
  have gs : (se != 0) = true := by simpa using zs
  have tb1 := vt.d1; have tb2 := vt.d2; have tb3 := vt.n1; have tb4 := vt.n2
  have pb1 := vp.d1; have pb2 := vp.d2; have pb3 := vp.n1; have pb4 := vp.n2
  obtain ⟨yq, wq⟩ := vq
  subst yq; subst wq
  have fq : (qe == 0) = false := by simpa using zq
  have gq : (qe != 0) = true := by simpa using zq
  obtain ⟨yr, wr⟩ := vr
  subst yr; subst wr
  have fr : (re == 0) = false := by simpa using zr
  have gr : (re != 0) = true := by simpa using zr
  have S1 := fun w => Lib.hid (Add_any an ad bn bd w (by omega) (by omega) (by omega) (by omega) (by omega) (by omega) (by omega) (by omega) 0 0 se hs)
  have S2 := fun w => Lib.hid (Add_any bn bd cn cd w (by omega) (by omega) (by omega) (by omega) (by omega) (by omega) (by omega) (by omega) tn td te ht)
  have M1 := fun w => Lib.hid (Mul_any an ad bn bd w (by omega) (by omega) (by omega) (by omega) (by omega) (by omega) (by omega) (by omega) pn pd pe hp)
  have M2 := fun w => Lib.hid (Mul_any bn bd cn cd w (by omega) (by omega) (by omega) (by omega) (by omega) (by omega) (by omega) (by omega) 0 0 qe hq)
  have M5 := fun w => Lib.hid (Mul_any an ad cn cd w (by omega) (by omega) (by omega) (by omega) (by omega) (by omega) (by omega) (by omega) 0 0 re hr)
  have S5 := fun w => Lib.hid (Add_any pn pd 0 0 w (by omega) (by omega) (by omega) (by omega) (by omega) (by omega) (by omega) (by omega) un ud ue hu)
  subst zt
  subst zp
  clear an0 an1 ad0 ad1 bn0 bn1 bd0 bd1 cn0 cn1 cd0 cd1 hs ht hp hq hr hu zs tb1 tb2 tb3 tb4 vt pb1 pb2 pb3 pb4 vp zq zr
  go_enter Tryd.func7, Tryd.ntmps7
  go_wp2_with fail
  have A0 : Below w.heap.size w (((w.alloc (Obj.cells #[Value.int IntKind.i64 an, Value.int IntKind.i64 ad] 23)).alloc (Obj.cells #[Value.int IntKind.i64 bn, Value.int IntKind.i64 bd] 23)).alloc (Obj.cells #[Value.int IntKind.i64 cn, Value.int IntKind.i64 cd] 23)) := (by repeat' (first | (with_reducible exact Below.refl _ _) | (with_reducible assumption) | (with_reducible refine Below.alloc ?_ ?_ _) | (with_reducible refine below_drew ?_ _) | (with_reducible refine Below.drew ?_) | (with_reducible refine Below.setCell ?_ ?_ _) | go_size))
  (with_reducible refine ((awake_any _ (Lib.hid (pow_on hT.out A0))).mono ?_))
  rintro e w1 ⟨rfl, b1⟩
  have B1 := Lib.hid (below_on A0 b1)
  have K1_0 := Lib.hid (Blk.on (W := (((w.alloc (Obj.cells #[Value.int IntKind.i64 an, Value.int IntKind.i64 ad] 23)).alloc (Obj.cells #[Value.int IntKind.i64 bn, Value.int IntKind.i64 bd] 23)).alloc (Obj.cells #[Value.int IntKind.i64 cn, Value.int IntKind.i64 cd] 23))) (((Blk.new w _ _ _).alloc _).alloc _) b1)
  have K1_1 := Lib.hid (Blk.on (W := (((w.alloc (Obj.cells #[Value.int IntKind.i64 an, Value.int IntKind.i64 ad] 23)).alloc (Obj.cells #[Value.int IntKind.i64 bn, Value.int IntKind.i64 bd] 23)).alloc (Obj.cells #[Value.int IntKind.i64 cn, Value.int IntKind.i64 cd] 23))) ((Blk.new1 w _ _ _ _).alloc _) b1)
  have K1_2 := Lib.hid (Blk.on (W := (((w.alloc (Obj.cells #[Value.int IntKind.i64 an, Value.int IntKind.i64 ad] 23)).alloc (Obj.cells #[Value.int IntKind.i64 bn, Value.int IntKind.i64 bd] 23)).alloc (Obj.cells #[Value.int IntKind.i64 cn, Value.int IntKind.i64 cd] 23))) (Blk.new2 w _ _ _ _ _) b1)
  clear b1 A0
  obtain ⟨s1_0, c1_0, d1_0⟩ := K1_0.out
  obtain ⟨s1_1, c1_1, d1_1⟩ := K1_1.out
  obtain ⟨s1_2, c1_2, d1_2⟩ := K1_2.out
  go_wp2_with fail
  (with_reducible refine ((S1 _).out).mono ?_)
  rintro e w2 ⟨rfl, b2⟩
  have K2_0 := Lib.hid (K1_0.out.on b2)
  have K2_1 := Lib.hid (K1_1.out.on b2)
  have K2_2 := Lib.hid (K1_2.out.on b2)
  have B2 := Lib.hid (below_on B1.out b2)
  clear b2 s1_0 c1_0 d1_0 s1_1 c1_1 d1_1 s1_2 c1_2 d1_2
  obtain ⟨s2_0, c2_0, d2_0⟩ := K2_0.out
  obtain ⟨s2_1, c2_1, d2_1⟩ := K2_1.out
  obtain ⟨s2_2, c2_2, d2_2⟩ := K2_2.out
  go_wp2_with fail
  (with_reducible refine ((S2 _).out).mono ?_)
  rintro e w3 ⟨rfl, b3⟩
  have K3_0 := Lib.hid ((K2_0.out.alloc _).on b3)
  have K3_1 := Lib.hid ((K2_1.out.alloc _).on b3)
  have K3_2 := Lib.hid ((K2_2.out.alloc _).on b3)
  have K3_3 := Lib.hid ((Blk.new w2 _ _ _).on b3)
  have B3 := Lib.hid (below_on (B2.out.alloc B2.out.size _) b3)
  clear b3 s2_0 c2_0 d2_0 s2_1 c2_1 d2_1 s2_2 c2_2 d2_2
  obtain ⟨s3_0, c3_0, d3_0⟩ := K3_0.out
  obtain ⟨s3_1, c3_1, d3_1⟩ := K3_1.out
  obtain ⟨s3_2, c3_2, d3_2⟩ := K3_2.out
  obtain ⟨s3_3, c3_3, d3_3⟩ := K3_3.out
  go_wp2_with fail
  (with_reducible refine ((M1 _).out).mono ?_)
  rintro e w4 ⟨rfl, b4⟩
  have K4_0 := Lib.hid ((K3_0.out.alloc _).on b4)
  have K4_1 := Lib.hid ((K3_1.out.alloc _).on b4)
  have K4_2 := Lib.hid ((K3_2.out.alloc _).on b4)
  have K4_3 := Lib.hid ((K3_3.out.alloc _).on b4)
  have K4_4 := Lib.hid ((Blk.new w3 _ _ _).on b4)
  have B4 := Lib.hid (below_on (B3.out.alloc B3.out.size _) b4)
  clear b4 s3_0 c3_0 d3_0 s3_1 c3_1 d3_1 s3_2 c3_2 d3_2 s3_3 c3_3 d3_3
  obtain ⟨s4_0, c4_0, d4_0⟩ := K4_0.out
  obtain ⟨s4_1, c4_1, d4_1⟩ := K4_1.out
  obtain ⟨s4_2, c4_2, d4_2⟩ := K4_2.out
  obtain ⟨s4_3, c4_3, d4_3⟩ := K4_3.out
  obtain ⟨s4_4, c4_4, d4_4⟩ := K4_4.out
  go_wp2_with fail
  (with_reducible refine ((M2 _).out).mono ?_)
  rintro e w5 ⟨rfl, b5⟩
  have K5_0 := Lib.hid ((K4_0.out.alloc _).on b5)
  have K5_1 := Lib.hid ((K4_1.out.alloc _).on b5)
  have K5_2 := Lib.hid ((K4_2.out.alloc _).on b5)
  have K5_3 := Lib.hid ((K4_3.out.alloc _).on b5)
  have K5_4 := Lib.hid ((K4_4.out.alloc _).on b5)
  have K5_5 := Lib.hid ((Blk.new w4 _ _ _).on b5)
  have B5 := Lib.hid (below_on (B4.out.alloc B4.out.size _) b5)
  clear b5 s4_0 c4_0 d4_0 s4_1 c4_1 d4_1 s4_2 c4_2 d4_2 s4_3 c4_3 d4_3 s4_4 c4_4 d4_4
  obtain ⟨s5_0, c5_0, d5_0⟩ := K5_0.out
  obtain ⟨s5_1, c5_1, d5_1⟩ := K5_1.out
  obtain ⟨s5_2, c5_2, d5_2⟩ := K5_2.out
  obtain ⟨s5_3, c5_3, d5_3⟩ := K5_3.out
  obtain ⟨s5_4, c5_4, d5_4⟩ := K5_4.out
  obtain ⟨s5_5, c5_5, d5_5⟩ := K5_5.out
  go_wp2_with fail
  (with_reducible refine ((M5 _).out).mono ?_)
  rintro e w6 ⟨rfl, b6⟩
  have K6_0 := Lib.hid ((K5_0.out.alloc _).on b6)
  have K6_1 := Lib.hid ((K5_1.out.alloc _).on b6)
  have K6_2 := Lib.hid ((K5_2.out.alloc _).on b6)
  have K6_3 := Lib.hid ((K5_3.out.alloc _).on b6)
  have K6_4 := Lib.hid ((K5_4.out.alloc _).on b6)
  have K6_5 := Lib.hid ((K5_5.out.alloc _).on b6)
  have K6_6 := Lib.hid ((Blk.new w5 _ _ _).on b6)
  have B6 := Lib.hid (below_on (B5.out.alloc B5.out.size _) b6)
  clear b6 s5_0 c5_0 d5_0 s5_1 c5_1 d5_1 s5_2 c5_2 d5_2 s5_3 c5_3 d5_3 s5_4 c5_4 d5_4 s5_5 c5_5 d5_5
  obtain ⟨s6_0, c6_0, d6_0⟩ := K6_0.out
  obtain ⟨s6_1, c6_1, d6_1⟩ := K6_1.out
  obtain ⟨s6_2, c6_2, d6_2⟩ := K6_2.out
  obtain ⟨s6_3, c6_3, d6_3⟩ := K6_3.out
  obtain ⟨s6_4, c6_4, d6_4⟩ := K6_4.out
  obtain ⟨s6_5, c6_5, d6_5⟩ := K6_5.out
  obtain ⟨s6_6, c6_6, d6_6⟩ := K6_6.out
  go_wp2_with fail
  (with_reducible refine ((S5 _).out).mono ?_)
  rintro e w7 ⟨rfl, b7⟩
  have K7_0 := Lib.hid ((K6_0.out.alloc _).on b7)
  have K7_1 := Lib.hid ((K6_1.out.alloc _).on b7)
  have K7_2 := Lib.hid ((K6_2.out.alloc _).on b7)
  have K7_3 := Lib.hid ((K6_3.out.alloc _).on b7)
  have K7_4 := Lib.hid ((K6_4.out.alloc _).on b7)
  have K7_5 := Lib.hid ((K6_5.out.alloc _).on b7)
  have K7_6 := Lib.hid ((K6_6.out.alloc _).on b7)
  have K7_7 := Lib.hid ((Blk.new w6 _ _ _).on b7)
  have B7 := Lib.hid (below_on (B6.out.alloc B6.out.size _) b7)
  clear b7 s6_0 c6_0 d6_0 s6_1 c6_1 d6_1 s6_2 c6_2 d6_2 s6_3 c6_3 d6_3 s6_4 c6_4 d6_4 s6_5 c6_5 d6_5 s6_6 c6_6 d6_6
  obtain ⟨s7_0, c7_0, d7_0⟩ := K7_0.out
  obtain ⟨s7_1, c7_1, d7_1⟩ := K7_1.out
  obtain ⟨s7_2, c7_2, d7_2⟩ := K7_2.out
  obtain ⟨s7_3, c7_3, d7_3⟩ := K7_3.out
  obtain ⟨s7_4, c7_4, d7_4⟩ := K7_4.out
  obtain ⟨s7_5, c7_5, d7_5⟩ := K7_5.out
  obtain ⟨s7_6, c7_6, d7_6⟩ := K7_6.out
  obtain ⟨s7_7, c7_7, d7_7⟩ := K7_7.out
  go_wp2_with fail
  (with_reducible refine ((S2 _).out).mono ?_)
  rintro e w8 ⟨rfl, b8⟩
  have K8_0 := Lib.hid ((K7_0.out.alloc _).on b8)
  have K8_1 := Lib.hid ((K7_1.out.alloc _).on b8)
  have K8_2 := Lib.hid ((K7_2.out.alloc _).on b8)
  have K8_3 := Lib.hid ((K7_3.out.alloc _).on b8)
  have K8_4 := Lib.hid ((K7_4.out.alloc _).on b8)
  have K8_5 := Lib.hid ((K7_5.out.alloc _).on b8)
  have K8_6 := Lib.hid ((K7_6.out.alloc _).on b8)
  have K8_7 := Lib.hid ((K7_7.out.alloc _).on b8)
  have K8_8 := Lib.hid ((Blk.new w7 _ _ _).on b8)
  have B8 := Lib.hid (below_on (B7.out.alloc B7.out.size _) b8)
  clear b8 s7_0 c7_0 d7_0 s7_1 c7_1 d7_1 s7_2 c7_2 d7_2 s7_3 c7_3 d7_3 s7_4 c7_4 d7_4 s7_5 c7_5 d7_5 s7_6 c7_6 d7_6 s7_7 c7_7 d7_7
  obtain ⟨s8_0, c8_0, d8_0⟩ := K8_0.out
  obtain ⟨s8_1, c8_1, d8_1⟩ := K8_1.out
  obtain ⟨s8_2, c8_2, d8_2⟩ := K8_2.out
  obtain ⟨s8_3, c8_3, d8_3⟩ := K8_3.out
  obtain ⟨s8_4, c8_4, d8_4⟩ := K8_4.out
  obtain ⟨s8_5, c8_5, d8_5⟩ := K8_5.out
  obtain ⟨s8_6, c8_6, d8_6⟩ := K8_6.out
  obtain ⟨s8_7, c8_7, d8_7⟩ := K8_7.out
  obtain ⟨s8_8, c8_8, d8_8⟩ := K8_8.out
  go_wp2
  go_ret
  exact ⟨rfl, B8.out.alloc B8.out.size _⟩

set_option maxHeartbeats 4000000 in
theorem laws_boboo (an ad bn bd cn cd : Int) (w : World) (an0 : -9223372036854775808 ≤ an) (an1 : an ≤ 9223372036854775807) (ad0 : -9223372036854775808 ≤ ad) (ad1 : ad ≤ 9223372036854775807) (bn0 : -9223372036854775808 ≤ bn) (bn1 : bn ≤ 9223372036854775807) (bd0 : -9223372036854775808 ≤ bd) (bd1 : bd ≤ 9223372036854775807) (cn0 : -9223372036854775808 ≤ cn) (cn1 : cn ≤ 9223372036854775807) (cd0 : -9223372036854775808 ≤ cd) (cd1 : cd ≤ 9223372036854775807) (hT : Hid (Pow10 w.heap.size w)) (sn sd se tn td te pn pd pe qn qd qe rn rd re xn xd xe yn yd ye un ud ue : Int) (hs : addT an ad bn bd = (sn, sd, se)) (zs : se ≠ 0) (vs : sn = 0 ∧ sd = 0) (ht : addT bn bd cn cd = (tn, td, te)) (zt : te = 0) (vt : Vld tn td) (hp : mulT an ad bn bd = (pn, pd, pe)) (zp : pe ≠ 0) (vp : pn = 0 ∧ pd = 0) (hq : mulT bn bd cn cd = (qn, qd, qe)) (zq : qe = 0) (vq : Vld qn qd) (hr : mulT an ad cn cd = (rn, rd, re)) (zr : re = 0) (vr : Vld rn rd) (hu : addT pn pd rn rd = (un, ud, ue)) :
    Calls Tryd.prog 7 #[.agg #[.int .i64 an, .int .i64 ad], .agg #[.int .i64 bn, .int .i64 bd], .agg #[.int .i64 cn, .int .i64 cd]] w fun e w' => e = .returned (.bool true) ∧ Below w.heap.size w w' := by
  obtain ⟨ys, ws⟩ := vs
  subst ys; subst ws
  have fs : (se == 0) = false := by simpa using zs
  have gs : (se != 0) = true := by simpa using zs
  have tb1 := vt.d1; have tb2 := vt.d2; have tb3 := vt.n1; have tb4 := vt.n2
  obtain ⟨yp, wp⟩ := vp
  subst yp; subst wp
  have fp : (pe == 0) = false := by simpa using zp
  have gp : (pe != 0) = true := by simpa using zp
  have qb1 := vq.d1; have qb2 := vq.d2; have qb3 := vq.n1; have qb4 := vq.n2
  have rb1 := vr.d1; have rb2 := vr.d2; have rb3 := vr.n1; have rb4 := vr.n2
  have S1 := fun w => Lib.hid (Add_any an ad bn bd w (by omega) (by omega) (by omega) (by omega) (by omega) (by omega) (by omega) (by omega) 0 0 se hs)
  have S2 := fun w => Lib.hid (Add_any bn bd cn cd w (by omega) (by omega) (by omega) (by omega) (by omega) (by omega) (by omega) (by omega) tn td te ht)
  have M1 := fun w => Lib.hid (Mul_any an ad bn bd w (by omega) (by omega) (by omega) (by omega) (by omega) (by omega) (by omega) (by omega) 0 0 pe hp)
  have M2 := fun w => Lib.hid (Mul_any bn bd cn cd w (by omega) (by omega) (by omega) (by omega) (by omega) (by omega) (by omega) (by omega) qn qd qe hq)
  have M5 := fun w => Lib.hid (Mul_any an ad cn cd w (by omega) (by omega) (by omega) (by omega) (by omega) (by omega) (by omega) (by omega) rn rd re hr)
  have S5 := fun w => Lib.hid (Add_any 0 0 rn rd w (by omega) (by omega) (by omega) (by omega) (by omega) (by omega) (by omega) (by omega) un ud ue hu)
  subst zt
  subst zq
  subst zr
  clear an0 an1 ad0 ad1 bn0 bn1 bd0 bd1 cn0 cn1 cd0 cd1 hs ht hp hq hr hu zs tb1 tb2 tb3 tb4 vt zp qb1 qb2 qb3 qb4 vq rb1 rb2 rb3 rb4 vr
  go_enter Tryd.func7, Tryd.ntmps7
  go_wp2_with fail
  have A0 : Below w.heap.size w (((w.alloc (Obj.cells #[Value.int IntKind.i64 an, Value.int IntKind.i64 ad] 23)).alloc (Obj.cells #[Value.int IntKind.i64 bn, Value.int IntKind.i64 bd] 23)).alloc (Obj.cells #[Value.int IntKind.i64 cn, Value.int IntKind.i64 cd] 23)) := (by repeat' (first | (with_reducible exact Below.refl _ _) | (with_reducible assumption) | (with_reducible refine Below.alloc ?_ ?_ _) | (with_reducible refine below_drew ?_ _) | (with_reducible refine Below.drew ?_) | (with_reducible refine Below.setCell ?_ ?_ _) | go_size))
  (with_reducible refine ((awake_any _ (Lib.hid (pow_on hT.out A0))).mono ?_))
  rintro e w1 ⟨rfl, b1⟩
  have B1 := Lib.hid (below_on A0 b1)
  have K1_0 := Lib.hid (Blk.on (W := (((w.alloc (Obj.cells #[Value.int IntKind.i64 an, Value.int IntKind.i64 ad] 23)).alloc (Obj.cells #[Value.int IntKind.i64 bn, Value.int IntKind.i64 bd] 23)).alloc (Obj.cells #[Value.int IntKind.i64 cn, Value.int IntKind.i64 cd] 23))) (((Blk.new w _ _ _).alloc _).alloc _) b1)
  have K1_1 := Lib.hid (Blk.on (W := (((w.alloc (Obj.cells #[Value.int IntKind.i64 an, Value.int IntKind.i64 ad] 23)).alloc (Obj.cells #[Value.int IntKind.i64 bn, Value.int IntKind.i64 bd] 23)).alloc (Obj.cells #[Value.int IntKind.i64 cn, Value.int IntKind.i64 cd] 23))) ((Blk.new1 w _ _ _ _).alloc _) b1)
  have K1_2 := Lib.hid (Blk.on (W := (((w.alloc (Obj.cells #[Value.int IntKind.i64 an, Value.int IntKind.i64 ad] 23)).alloc (Obj.cells #[Value.int IntKind.i64 bn, Value.int IntKind.i64 bd] 23)).alloc (Obj.cells #[Value.int IntKind.i64 cn, Value.int IntKind.i64 cd] 23))) (Blk.new2 w _ _ _ _ _) b1)
  clear b1 A0
  obtain ⟨s1_0, c1_0, d1_0⟩ := K1_0.out
  obtain ⟨s1_1, c1_1, d1_1⟩ := K1_1.out
  obtain ⟨s1_2, c1_2, d1_2⟩ := K1_2.out
  go_wp2_with fail
  (with_reducible refine ((S1 _).out).mono ?_)
  rintro e w2 ⟨rfl, b2⟩
  have K2_0 := Lib.hid (K1_0.out.on b2)
  have K2_1 := Lib.hid (K1_1.out.on b2)
  have K2_2 := Lib.hid (K1_2.out.on b2)
  have B2 := Lib.hid (below_on B1.out b2)
  clear b2 s1_0 c1_0 d1_0 s1_1 c1_1 d1_1 s1_2 c1_2 d1_2
  obtain ⟨s2_0, c2_0, d2_0⟩ := K2_0.out
  obtain ⟨s2_1, c2_1, d2_1⟩ := K2_1.out
  obtain ⟨s2_2, c2_2, d2_2⟩ := K2_2.out
  go_wp2_with fail
  (with_reducible refine ((S2 _).out).mono ?_)
  rintro e w3 ⟨rfl, b3⟩
  have K3_0 := Lib.hid ((K2_0.out.alloc _).on b3)
  have K3_1 := Lib.hid ((K2_1.out.alloc _).on b3)
  have K3_2 := Lib.hid ((K2_2.out.alloc _).on b3)
  have K3_3 := Lib.hid ((Blk.new w2 _ _ _).on b3)
  have B3 := Lib.hid (below_on (B2.out.alloc B2.out.size _) b3)
  clear b3 s2_0 c2_0 d2_0 s2_1 c2_1 d2_1 s2_2 c2_2 d2_2
  obtain ⟨s3_0, c3_0, d3_0⟩ := K3_0.out
  obtain ⟨s3_1, c3_1, d3_1⟩ := K3_1.out
  obtain ⟨s3_2, c3_2, d3_2⟩ := K3_2.out
  obtain ⟨s3_3, c3_3, d3_3⟩ := K3_3.out
  go_wp2_with fail
  (with_reducible refine ((M1 _).out).mono ?_)
  rintro e w4 ⟨rfl, b4⟩
  have K4_0 := Lib.hid ((K3_0.out.alloc _).on b4)
  have K4_1 := Lib.hid ((K3_1.out.alloc _).on b4)
  have K4_2 := Lib.hid ((K3_2.out.alloc _).on b4)
  have K4_3 := Lib.hid ((K3_3.out.alloc _).on b4)
  have K4_4 := Lib.hid ((Blk.new w3 _ _ _).on b4)
  have B4 := Lib.hid (below_on (B3.out.alloc B3.out.size _) b4)
  clear b4 s3_0 c3_0 d3_0 s3_1 c3_1 d3_1 s3_2 c3_2 d3_2 s3_3 c3_3 d3_3
  obtain ⟨s4_0, c4_0, d4_0⟩ := K4_0.out
  obtain ⟨s4_1, c4_1, d4_1⟩ := K4_1.out
  obtain ⟨s4_2, c4_2, d4_2⟩ := K4_2.out
  obtain ⟨s4_3, c4_3, d4_3⟩ := K4_3.out
  obtain ⟨s4_4, c4_4, d4_4⟩ := K4_4.out
  go_wp2_with fail
  (with_reducible refine ((M2 _).out).mono ?_)
  rintro e w5 ⟨rfl, b5⟩
  have K5_0 := Lib.hid ((K4_0.out.alloc _).on b5)
  have K5_1 := Lib.hid ((K4_1.out.alloc _).on b5)
  have K5_2 := Lib.hid ((K4_2.out.alloc _).on b5)
  have K5_3 := Lib.hid ((K4_3.out.alloc _).on b5)
  have K5_4 := Lib.hid ((K4_4.out.alloc _).on b5)
  have K5_5 := Lib.hid ((Blk.new w4 _ _ _).on b5)
  have B5 := Lib.hid (below_on (B4.out.alloc B4.out.size _) b5)
  clear b5 s4_0 c4_0 d4_0 s4_1 c4_1 d4_1 s4_2 c4_2 d4_2 s4_3 c4_3 d4_3 s4_4 c4_4 d4_4
  obtain ⟨s5_0, c5_0, d5_0⟩ := K5_0.out
  obtain ⟨s5_1, c5_1, d5_1⟩ := K5_1.out
  obtain ⟨s5_2, c5_2, d5_2⟩ := K5_2.out
  obtain ⟨s5_3, c5_3, d5_3⟩ := K5_3.out
  obtain ⟨s5_4, c5_4, d5_4⟩ := K5_4.out
  obtain ⟨s5_5, c5_5, d5_5⟩ := K5_5.out
  go_wp2_with fail
  (with_reducible refine ((M5 _).out).mono ?_)
  rintro e w6 ⟨rfl, b6⟩
  have K6_0 := Lib.hid ((K5_0.out.alloc _).on b6)
  have K6_1 := Lib.hid ((K5_1.out.alloc _).on b6)
  have K6_2 := Lib.hid ((K5_2.out.alloc _).on b6)
  have K6_3 := Lib.hid ((K5_3.out.alloc _).on b6)
  have K6_4 := Lib.hid ((K5_4.out.alloc _).on b6)
  have K6_5 := Lib.hid ((K5_5.out.alloc _).on b6)
  have K6_6 := Lib.hid ((Blk.new w5 _ _ _).on b6)
  have B6 := Lib.hid (below_on (B5.out.alloc B5.out.size _) b6)
  clear b6 s5_0 c5_0 d5_0 s5_1 c5_1 d5_1 s5_2 c5_2 d5_2 s5_3 c5_3 d5_3 s5_4 c5_4 d5_4 s5_5 c5_5 d5_5
  obtain ⟨s6_0, c6_0, d6_0⟩ := K6_0.out
  obtain ⟨s6_1, c6_1, d6_1⟩ := K6_1.out
  obtain ⟨s6_2, c6_2, d6_2⟩ := K6_2.out
  obtain ⟨s6_3, c6_3, d6_3⟩ := K6_3.out
  obtain ⟨s6_4, c6_4, d6_4⟩ := K6_4.out
  obtain ⟨s6_5, c6_5, d6_5⟩ := K6_5.out
  obtain ⟨s6_6, c6_6, d6_6⟩ := K6_6.out
  go_wp2_with fail
  (with_reducible refine ((S5 _).out).mono ?_)
  rintro e w7 ⟨rfl, b7⟩
  have K7_0 := Lib.hid ((K6_0.out.alloc _).on b7)
  have K7_1 := Lib.hid ((K6_1.out.alloc _).on b7)
  have K7_2 := Lib.hid ((K6_2.out.alloc _).on b7)
  have K7_3 := Lib.hid ((K6_3.out.alloc _).on b7)
  have K7_4 := Lib.hid ((K6_4.out.alloc _).on b7)
  have K7_5 := Lib.hid ((K6_5.out.alloc _).on b7)
  have K7_6 := Lib.hid ((K6_6.out.alloc _).on b7)
  have K7_7 := Lib.hid ((Blk.new w6 _ _ _).on b7)
  have B7 := Lib.hid (below_on (B6.out.alloc B6.out.size _) b7)
  clear b7 s6_0 c6_0 d6_0 s6_1 c6_1 d6_1 s6_2 c6_2 d6_2 s6_3 c6_3 d6_3 s6_4 c6_4 d6_4 s6_5 c6_5 d6_5 s6_6 c6_6 d6_6
  obtain ⟨s7_0, c7_0, d7_0⟩ := K7_0.out
  obtain ⟨s7_1, c7_1, d7_1⟩ := K7_1.out
  obtain ⟨s7_2, c7_2, d7_2⟩ := K7_2.out
  obtain ⟨s7_3, c7_3, d7_3⟩ := K7_3.out
  obtain ⟨s7_4, c7_4, d7_4⟩ := K7_4.out
  obtain ⟨s7_5, c7_5, d7_5⟩ := K7_5.out
  obtain ⟨s7_6, c7_6, d7_6⟩ := K7_6.out
  obtain ⟨s7_7, c7_7, d7_7⟩ := K7_7.out
  go_wp2_with fail
  (with_reducible refine ((S2 _).out).mono ?_)
  rintro e w8 ⟨rfl, b8⟩
  have K8_0 := Lib.hid ((K7_0.out.alloc _).on b8)
  have K8_1 := Lib.hid ((K7_1.out.alloc _).on b8)
  have K8_2 := Lib.hid ((K7_2.out.alloc _).on b8)
  have K8_3 := Lib.hid ((K7_3.out.alloc _).on b8)
  have K8_4 := Lib.hid ((K7_4.out.alloc _).on b8)
  have K8_5 := Lib.hid ((K7_5.out.alloc _).on b8)
  have K8_6 := Lib.hid ((K7_6.out.alloc _).on b8)
  have K8_7 := Lib.hid ((K7_7.out.alloc _).on b8)
  have K8_8 := Lib.hid ((Blk.new w7 _ _ _).on b8)
  have B8 := Lib.hid (below_on (B7.out.alloc B7.out.size _) b8)
  clear b8 s7_0 c7_0 d7_0 s7_1 c7_1 d7_1 s7_2 c7_2 d7_2 s7_3 c7_3 d7_3 s7_4 c7_4 d7_4 s7_5 c7_5 d7_5 s7_6 c7_6 d7_6 s7_7 c7_7 d7_7
  obtain ⟨s8_0, c8_0, d8_0⟩ := K8_0.out
  obtain ⟨s8_1, c8_1, d8_1⟩ := K8_1.out
  obtain ⟨s8_2, c8_2, d8_2⟩ := K8_2.out
  obtain ⟨s8_3, c8_3, d8_3⟩ := K8_3.out
  obtain ⟨s8_4, c8_4, d8_4⟩ := K8_4.out
  obtain ⟨s8_5, c8_5, d8_5⟩ := K8_5.out
  obtain ⟨s8_6, c8_6, d8_6⟩ := K8_6.out
  obtain ⟨s8_7, c8_7, d8_7⟩ := K8_7.out
  obtain ⟨s8_8, c8_8, d8_8⟩ := K8_8.out
  go_wp2
  go_ret
  exact ⟨rfl, B8.out.alloc B8.out.size _⟩

set_option maxHeartbeats 4000000 in
theorem laws_bobob (an ad bn bd cn cd : Int) (w : World) (an0 : -9223372036854775808 ≤ an) (an1 : an ≤ 9223372036854775807) (ad0 : -9223372036854775808 ≤ ad) (ad1 : ad ≤ 9223372036854775807) (bn0 : -9223372036854775808 ≤ bn) (bn1 : bn ≤ 9223372036854775807) (bd0 : -9223372036854775808 ≤ bd) (bd1 : bd ≤ 9223372036854775807) (cn0 : -9223372036854775808 ≤ cn) (cn1 : cn ≤ 9223372036854775807) (cd0 : -9223372036854775808 ≤ cd) (cd1 : cd ≤ 9223372036854775807) (hT : Hid (Pow10 w.heap.size w)) (sn sd se tn td te pn pd pe qn qd qe rn rd re xn xd xe yn yd ye un ud ue : Int) (hs : addT an ad bn bd = (sn, sd, se)) (zs : se ≠ 0) (vs : sn = 0 ∧ sd = 0) (ht : addT bn bd cn cd = (tn, td, te)) (zt : te = 0) (vt : Vld tn td) (hp : mulT an ad bn bd = (pn, pd, pe)) (zp : pe ≠ 0) (vp : pn = 0 ∧ pd = 0) (hq : mulT bn bd cn cd = (qn, qd, qe)) (zq : qe = 0) (vq : Vld qn qd) (hr : mulT an ad cn cd = (rn, rd, re)) (zr : re ≠ 0) (vr : rn = 0 ∧ rd = 0) (hu : addT pn pd rn rd = (un, ud, ue)) :
    Calls Tryd.prog 7 #[.agg #[.int .i64 an, .int .i64 ad], .agg #[.int .i64 bn, .int .i64 bd], .agg #[.int .i64 cn, .int .i64 cd]] w fun e w' => e = .returned (.bool true) ∧ Below w.heap.size w w' := by
  obtain ⟨ys, ws⟩ := vs
  subst ys; subst ws
  have fs : (se == 0) = false := by simpa using zs
  have gs : (se != 0) = true := by simpa using zs
  have tb1 := vt.d1; have tb2 := vt.d2; have tb3 := vt.n1; have tb4 := vt.n2
  obtain ⟨yp, wp⟩ := vp
  subst yp; subst wp
  have fp : (pe == 0) = false := by simpa using zp
  have gp : (pe != 0) = true := by simpa using zp
  have qb1 := vq.d1; have qb2 := vq.d2; have qb3 := vq.n1; have qb4 := vq.n2
  obtain ⟨yr, wr⟩ := vr
  subst yr; subst wr
  have fr : (re == 0) = false := by simpa using zr
  have gr : (re != 0) = true := by simpa using zr
  have S1 := fun w => Lib.hid (Add_any an ad bn bd w (by omega) (by omega) (by omega) (by omega) (by omega) (by omega) (by omega) (by omega) 0 0 se hs)
  have S2 := fun w => Lib.hid (Add_any bn bd cn cd w (by omega) (by omega) (by omega) (by omega) (by omega) (by omega) (by omega) (by omega) tn td te ht)
  have M1 := fun w => Lib.hid (Mul_any an ad bn bd w (by omega) (by omega) (by omega) (by omega) (by omega) (by omega) (by omega) (by omega) 0 0 pe hp)
  have M2 := fun w => Lib.hid (Mul_any bn bd cn cd w (by omega) (by omega) (by omega) (by omega) (by omega) (by omega) (by omega) (by omega) qn qd qe hq)
  have M5 := fun w => Lib.hid (Mul_any an ad cn cd w (by omega) (by omega) (by omega) (by omega) (by omega) (by omega) (by omega) (by omega) 0 0 re hr)
  have S5 := fun w => Lib.hid (Add_any 0 0 0 0 w (by omega) (by omega) (by omega) (by omega) (by omega) (by omega) (by omega) (by omega) un ud ue hu)
  subst zt
  subst zq
  clear an0 an1 ad0 ad1 bn0 bn1 bd0 bd1 cn0 cn1 cd0 cd1 hs ht hp hq hr hu zs tb1 tb2 tb3 tb4 vt zp qb1 qb2 qb3 qb4 vq zr
  go_enter Tryd.func7, Tryd.ntmps7
  go_wp2_with fail
  have A0 : Below w.heap.size w (((w.alloc (Obj.cells #[Value.int IntKind.i64 an, Value.int IntKind.i64 ad] 23)).alloc (Obj.cells #[Value.int IntKind.i64 bn, Value.int IntKind.i64 bd] 23)).alloc (Obj.cells #[Value.int IntKind.i64 cn, Value.int IntKind.i64 cd] 23)) := (by repeat' (first | (with_reducible exact Below.refl _ _) | (with_reducible assumption) | (with_reducible refine Below.alloc ?_ ?_ _) | (with_reducible refine below_drew ?_ _) | (with_reducible refine Below.drew ?_) | (with_reducible refine Below.setCell ?_ ?_ _) | go_size))
  (with_reducible refine ((awake_any _ (Lib.hid (pow_on hT.out A0))).mono ?_))
  rintro e w1 ⟨rfl, b1⟩
  have B1 := Lib.hid (below_on A0 b1)
  have K1_0 := Lib.hid (Blk.on (W := (((w.alloc (Obj.cells #[Value.int IntKind.i64 an, Value.int IntKind.i64 ad] 23)).alloc (Obj.cells #[Value.int IntKind.i64 bn, Value.int IntKind.i64 bd] 23)).alloc (Obj.cells #[Value.int IntKind.i64 cn, Value.int IntKind.i64 cd] 23))) (((Blk.new w _ _ _).alloc _).alloc _) b1)
  have K1_1 := Lib.hid (Blk.on (W := (((w.alloc (Obj.cells #[Value.int IntKind.i64 an, Value.int IntKind.i64 ad] 23)).alloc (Obj.cells #[Value.int IntKind.i64 bn, Value.int IntKind.i64 bd] 23)).alloc (Obj.cells #[Value.int IntKind.i64 cn, Value.int IntKind.i64 cd] 23))) ((Blk.new1 w _ _ _ _).alloc _) b1)
  have K1_2 := Lib.hid (Blk.on (W := (((w.alloc (Obj.cells #[Value.int IntKind.i64 an, Value.int IntKind.i64 ad] 23)).alloc (Obj.cells #[Value.int IntKind.i64 bn, Value.int IntKind.i64 bd] 23)).alloc (Obj.cells #[Value.int IntKind.i64 cn, Value.int IntKind.i64 cd] 23))) (Blk.new2 w _ _ _ _ _) b1)
  clear b1 A0
  obtain ⟨s1_0, c1_0, d1_0⟩ := K1_0.out
  obtain ⟨s1_1, c1_1, d1_1⟩ := K1_1.out
  obtain ⟨s1_2, c1_2, d1_2⟩ := K1_2.out
  go_wp2_with fail
  (with_reducible refine ((S1 _).out).mono ?_)
  rintro e w2 ⟨rfl, b2⟩
  have K2_0 := Lib.hid (K1_0.out.on b2)
  have K2_1 := Lib.hid (K1_1.out.on b2)
  have K2_2 := Lib.hid (K1_2.out.on b2)
  have B2 := Lib.hid (below_on B1.out b2)
  clear b2 s1_0 c1_0 d1_0 s1_1 c1_1 d1_1 s1_2 c1_2 d1_2
  obtain ⟨s2_0, c2_0, d2_0⟩ := K2_0.out
  obtain ⟨s2_1, c2_1, d2_1⟩ := K2_1.out
  obtain ⟨s2_2, c2_2, d2_2⟩ := K2_2.out
  go_wp2_with fail
  (with_reducible refine ((S2 _).out).mono ?_)
  rintro e w3 ⟨rfl, b3⟩
  have K3_0 := Lib.hid ((K2_0.out.alloc _).on b3)
  have K3_1 := Lib.hid ((K2_1.out.alloc _).on b3)
  have K3_2 := Lib.hid ((K2_2.out.alloc _).on b3)
  have K3_3 := Lib.hid ((Blk.new w2 _ _ _).on b3)
  have B3 := Lib.hid (below_on (B2.out.alloc B2.out.size _) b3)
  clear b3 s2_0 c2_0 d2_0 s2_1 c2_1 d2_1 s2_2 c2_2 d2_2
  obtain ⟨s3_0, c3_0, d3_0⟩ := K3_0.out
  obtain ⟨s3_1, c3_1, d3_1⟩ := K3_1.out
  obtain ⟨s3_2, c3_2, d3_2⟩ := K3_2.out
  obtain ⟨s3_3, c3_3, d3_3⟩ := K3_3.out
  go_wp2_with fail
  (with_reducible refine ((M1 _).out).mono ?_)
  rintro e w4 ⟨rfl, b4⟩
  have K4_0 := Lib.hid ((K3_0.out.alloc _).on b4)
  have K4_1 := Lib.hid ((K3_1.out.alloc _).on b4)
  have K4_2 := Lib.hid ((K3_2.out.alloc _).on b4)
  have K4_3 := Lib.hid ((K3_3.out.alloc _).on b4)
  have K4_4 := Lib.hid ((Blk.new w3 _ _ _).on b4)
  have B4 := Lib.hid (below_on (B3.out.alloc B3.out.size _) b4)
  clear b4 s3_0 c3_0 d3_0 s3_1 c3_1 d3_1 s3_2 c3_2 d3_2 s3_3 c3_3 d3_3
  obtain ⟨s4_0, c4_0, d4_0⟩ := K4_0.out
  obtain ⟨s4_1, c4_1, d4_1⟩ := K4_1.out
  obtain ⟨s4_2, c4_2, d4_2⟩ := K4_2.out
  obtain ⟨s4_3, c4_3, d4_3⟩ := K4_3.out
  obtain ⟨s4_4, c4_4, d4_4⟩ := K4_4.out
  go_wp2_with fail
  (with_reducible refine ((M2 _).out).mono ?_)
  rintro e w5 ⟨rfl, b5⟩
  have K5_0 := Lib.hid ((K4_0.out.alloc _).on b5)
  have K5_1 := Lib.hid ((K4_1.out.alloc _).on b5)
  have K5_2 := Lib.hid ((K4_2.out.alloc _).on b5)
  have K5_3 := Lib.hid ((K4_3.out.alloc _).on b5)
  have K5_4 := Lib.hid ((K4_4.out.alloc _).on b5)
  have K5_5 := Lib.hid ((Blk.new w4 _ _ _).on b5)
  have B5 := Lib.hid (below_on (B4.out.alloc B4.out.size _) b5)
  clear b5 s4_0 c4_0 d4_0 s4_1 c4_1 d4_1 s4_2 c4_2 d4_2 s4_3 c4_3 d4_3 s4_4 c4_4 d4_4
  obtain ⟨s5_0, c5_0, d5_0⟩ := K5_0.out
  obtain ⟨s5_1, c5_1, d5_1⟩ := K5_1.out
  obtain ⟨s5_2, c5_2, d5_2⟩ := K5_2.out
  obtain ⟨s5_3, c5_3, d5_3⟩ := K5_3.out
  obtain ⟨s5_4, c5_4, d5_4⟩ := K5_4.out
  obtain ⟨s5_5, c5_5, d5_5⟩ := K5_5.out
  go_wp2_with fail
  (with_reducible refine ((M5 _).out).mono ?_)
  rintro e w6 ⟨rfl, b6⟩
  have K6_0 := Lib.hid ((K5_0.out.alloc _).on b6)
  have K6_1 := Lib.hid ((K5_1.out.alloc _).on b6)
  have K6_2 := Lib.hid ((K5_2.out.alloc _).on b6)
  have K6_3 := Lib.hid ((K5_3.out.alloc _).on b6)
  have K6_4 := Lib.hid ((K5_4.out.alloc _).on b6)
  have K6_5 := Lib.hid ((K5_5.out.alloc _).on b6)
  have K6_6 := Lib.hid ((Blk.new w5 _ _ _).on b6)
  have B6 := Lib.hid (below_on (B5.out.alloc B5.out.size _) b6)
  clear b6 s5_0 c5_0 d5_0 s5_1 c5_1 d5_1 s5_2 c5_2 d5_2 s5_3 c5_3 d5_3 s5_4 c5_4 d5_4 s5_5 c5_5 d5_5
  obtain ⟨s6_0, c6_0, d6_0⟩ := K6_0.out
  obtain ⟨s6_1, c6_1, d6_1⟩ := K6_1.out
  obtain ⟨s6_2, c6_2, d6_2⟩ := K6_2.out
  obtain ⟨s6_3, c6_3, d6_3⟩ := K6_3.out
  obtain ⟨s6_4, c6_4, d6_4⟩ := K6_4.out
  obtain ⟨s6_5, c6_5, d6_5⟩ := K6_5.out
  obtain ⟨s6_6, c6_6, d6_6⟩ := K6_6.out
  go_wp2_with fail
  (with_reducible refine ((S5 _).out).mono ?_)
  rintro e w7 ⟨rfl, b7⟩
  have K7_0 := Lib.hid ((K6_0.out.alloc _).on b7)
  have K7_1 := Lib.hid ((K6_1.out.alloc _).on b7)
  have K7_2 := Lib.hid ((K6_2.out.alloc _).on b7)
  have K7_3 := Lib.hid ((K6_3.out.alloc _).on b7)
  have K7_4 := Lib.hid ((K6_4.out.alloc _).on b7)
  have K7_5 := Lib.hid ((K6_5.out.alloc _).on b7)
  have K7_6 := Lib.hid ((K6_6.out.alloc _).on b7)
  have K7_7 := Lib.hid ((Blk.new w6 _ _ _).on b7)
  have B7 := Lib.hid (below_on (B6.out.alloc B6.out.size _) b7)
  clear b7 s6_0 c6_0 d6_0 s6_1 c6_1 d6_1 s6_2 c6_2 d6_2 s6_3 c6_3 d6_3 s6_4 c6_4 d6_4 s6_5 c6_5 d6_5 s6_6 c6_6 d6_6
  obtain ⟨s7_0, c7_0, d7_0⟩ := K7_0.out
  obtain ⟨s7_1, c7_1, d7_1⟩ := K7_1.out
  obtain ⟨s7_2, c7_2, d7_2⟩ := K7_2.out
  obtain ⟨s7_3, c7_3, d7_3⟩ := K7_3.out
  obtain ⟨s7_4, c7_4, d7_4⟩ := K7_4.out
  obtain ⟨s7_5, c7_5, d7_5⟩ := K7_5.out
  obtain ⟨s7_6, c7_6, d7_6⟩ := K7_6.out
  obtain ⟨s7_7, c7_7, d7_7⟩ := K7_7.out
  go_wp2_with fail
  (with_reducible refine ((S2 _).out).mono ?_)
  rintro e w8 ⟨rfl, b8⟩
  have K8_0 := Lib.hid ((K7_0.out.alloc _).on b8)
  have K8_1 := Lib.hid ((K7_1.out.alloc _).on b8)
  have K8_2 := Lib.hid ((K7_2.out.alloc _).on b8)
  have K8_3 := Lib.hid ((K7_3.out.alloc _).on b8)
  have K8_4 := Lib.hid ((K7_4.out.alloc _).on b8)
  have K8_5 := Lib.hid ((K7_5.out.alloc _).on b8)
  have K8_6 := Lib.hid ((K7_6.out.alloc _).on b8)
  have K8_7 := Lib.hid ((K7_7.out.alloc _).on b8)
  have K8_8 := Lib.hid ((Blk.new w7 _ _ _).on b8)
  have B8 := Lib.hid (below_on (B7.out.alloc B7.out.size _) b8)
  clear b8 s7_0 c7_0 d7_0 s7_1 c7_1 d7_1 s7_2 c7_2 d7_2 s7_3 c7_3 d7_3 s7_4 c7_4 d7_4 s7_5 c7_5 d7_5 s7_6 c7_6 d7_6 s7_7 c7_7 d7_7
  obtain ⟨s8_0, c8_0, d8_0⟩ := K8_0.out
  obtain ⟨s8_1, c8_1, d8_1⟩ := K8_1.out
  obtain ⟨s8_2, c8_2, d8_2⟩ := K8_2.out
  obtain ⟨s8_3, c8_3, d8_3⟩ := K8_3.out
  obtain ⟨s8_4, c8_4, d8_4⟩ := K8_4.out
  obtain ⟨s8_5, c8_5, d8_5⟩ := K8_5.out
  obtain ⟨s8_6, c8_6, d8_6⟩ := K8_6.out
  obtain ⟨s8_7, c8_7, d8_7⟩ := K8_7.out
  obtain ⟨s8_8, c8_8, d8_8⟩ := K8_8.out
  go_wp2
  go_ret
  exact ⟨rfl, B8.out.alloc B8.out.size _⟩

set_option maxHeartbeats 4000000 in
theorem laws_bobbo (an ad bn bd cn cd : Int) (w : World) (an0 : -9223372036854775808 ≤ an) (an1 : an ≤ 9223372036854775807) (ad0 : -9223372036854775808 ≤ ad) (ad1 : ad ≤ 9223372036854775807) (bn0 : -9223372036854775808 ≤ bn) (bn1 : bn ≤ 9223372036854775807) (bd0 : -9223372036854775808 ≤ bd) (bd1 : bd ≤ 9223372036854775807) (cn0 : -9223372036854775808 ≤ cn) (cn1 : cn ≤ 9223372036854775807) (cd0 : -9223372036854775808 ≤ cd) (cd1 : cd ≤ 9223372036854775807) (hT : Hid (Pow10 w.heap.size w)) (sn sd se tn td te pn pd pe qn qd qe rn rd re xn xd xe yn yd ye un ud ue : Int) (hs : addT an ad bn bd = (sn, sd, se)) (zs : se ≠ 0) (vs : sn = 0 ∧ sd = 0) (ht : addT bn bd cn cd = (tn, td, te)) (zt : te = 0) (vt : Vld tn td) (hp : mulT an ad bn bd = (pn, pd, pe)) (zp : pe ≠ 0) (vp : pn = 0 ∧ pd = 0) (hq : mulT bn bd cn cd = (qn, qd, qe)) (zq : qe ≠ 0) (vq : qn = 0 ∧ qd = 0) (hr : mulT an ad cn cd = (rn, rd, re)) (zr : re = 0) (vr : Vld rn rd) (hu : addT pn pd rn rd = (un, ud, ue)) :
    Calls Tryd.prog 7 #[.agg #[.int .i64 an, .int .i64 ad], .agg #[.int .i64 bn, .int .i64 bd], .agg #[.int .i64 cn, .int .i64 cd]] w fun e w' => e = .returned (.bool true) ∧ Below w.heap.size w w' := by
  obtain ⟨ys, ws⟩ := vs
  subst ys; subst ws
  have fs : (se == 0) = false := by simpa using zs
  have gs : (se != 0) = true := by simpa using zs
  have tb1 := vt.d1; have tb2 := vt.d2; have tb3 := vt.n1; have tb4 := vt.n2
  obtain ⟨yp, wp⟩ := vp
  subst yp; subst wp
  have fp : (pe == 0) = false := by simpa using zp
  have gp : (pe != 0) = true := by simpa using zp
  obtain ⟨yq, wq⟩ := vq
  subst yq; subst wq
  have fq : (qe == 0) = false := by simpa using zq
  have gq : (qe != 0) = true := by simpa using zq
  have rb1 := vr.d1; have rb2 := vr.d2; have rb3 := vr.n1; have rb4 := vr.n2
  have S1 := fun w => Lib.hid (Add_any an ad bn bd w (by omega) (by omega) (by omega) (by omega) (by omega) (by omega) (by omega) (by omega) 0 0 se hs)
  have S2 := fun w => Lib.hid (Add_any bn bd cn cd w (by omega) (by omega) (by omega) (by omega) (by omega) (by omega) (by omega) (by omega) tn td te ht)
  have M1 := fun w => Lib.hid (Mul_any an ad bn bd w (by omega) (by omega) (by omega) (by omega) (by omega) (by omega) (by omega) (by omega) 0 0 pe hp)
  have M2 := fun w => Lib.hid (Mul_any bn bd cn cd w (by omega) (by omega) (by omega) (by omega) (by omega) (by omega) (by omega) (by omega) 0 0 qe hq)
  have M5 := fun w => Lib.hid (Mul_any an ad cn cd w (by omega) (by omega) (by omega) (by omega) (by omega) (by omega) (by omega) (by omega) rn rd re hr)
  have S5 := fun w => Lib.hid (Add_any 0 0 rn rd w (by omega) (by omega) (by omega) (by omega) (by omega) (by omega) (by omega) (by omega) un ud ue hu)
  subst zt
  subst zr
  clear an0 an1 ad0 ad1 bn0 bn1 bd0 bd1 cn0 cn1 cd0 cd1 hs ht hp hq hr hu zs tb1 tb2 tb3 tb4 vt zp zq rb1 rb2 rb3 rb4 vr
  go_enter Tryd.func7, Tryd.ntmps7
  go_wp2_with fail
  have A0 : Below w.heap.size w (((w.alloc (Obj.cells #[Value.int IntKind.i64 an, Value.int IntKind.i64 ad] 23)).alloc (Obj.cells #[Value.int IntKind.i64 bn, Value.int IntKind.i64 bd] 23)).alloc (Obj.cells #[Value.int IntKind.i64 cn, Value.int IntKind.i64 cd] 23)) := (by repeat' (first | (with_reducible exact Below.refl _ _) | (with_reducible assumption) | (with_reducible refine Below.alloc ?_ ?_ _) | (with_reducible refine below_drew ?_ _) | (with_reducible refine Below.drew ?_) | (with_reducible refine Below.setCell ?_ ?_ _) | go_size))
  (with_reducible refine ((awake_any _ (Lib.hid (pow_on hT.out A0))).mono ?_))
  rintro e w1 ⟨rfl, b1⟩
  have B1 := Lib.hid (below_on A0 b1)
  have K1_0 := Lib.hid (Blk.on (W := (((w.alloc (Obj.cells #[Value.int IntKind.i64 an, Value.int IntKind.i64 ad] 23)).alloc (Obj.cells #[Value.int IntKind.i64 bn, Value.int IntKind.i64 bd] 23)).alloc (Obj.cells #[Value.int IntKind.i64 cn, Value.int IntKind.i64 cd] 23))) (((Blk.new w _ _ _).alloc _).alloc _) b1)
  have K1_1 := Lib.hid (Blk.on (W := (((w.alloc (Obj.cells #[Value.int IntKind.i64 an, Value.int IntKind.i64 ad] 23)).alloc (Obj.cells #[Value.int IntKind.i64 bn, Value.int IntKind.i64 bd] 23)).alloc (Obj.cells #[Value.int IntKind.i64 cn, Value.int IntKind.i64 cd] 23))) ((Blk.new1 w _ _ _ _).alloc _) b1)
  have K1_2 := Lib.hid (Blk.on (W := (((w.alloc (Obj.cells #[Value.int IntKind.i64 an, Value.int IntKind.i64 ad] 23)).alloc (Obj.cells #[Value.int IntKind.i64 bn, Value.int IntKind.i64 bd] 23)).alloc (Obj.cells #[Value.int IntKind.i64 cn, Value.int IntKind.i64 cd] 23))) (Blk.new2 w _ _ _ _ _) b1)
  clear b1 A0
  obtain ⟨s1_0, c1_0, d1_0⟩ := K1_0.out
  obtain ⟨s1_1, c1_1, d1_1⟩ := K1_1.out
  obtain ⟨s1_2, c1_2, d1_2⟩ := K1_2.out
  go_wp2_with fail
  (with_reducible refine ((S1 _).out).mono ?_)
  rintro e w2 ⟨rfl, b2⟩
  have K2_0 := Lib.hid (K1_0.out.on b2)
  have K2_1 := Lib.hid (K1_1.out.on b2)
  have K2_2 := Lib.hid (K1_2.out.on b2)
  have B2 := Lib.hid (below_on B1.out b2)
  clear b2 s1_0 c1_0 d1_0 s1_1 c1_1 d1_1 s1_2 c1_2 d1_2
  obtain ⟨s2_0, c2_0, d2_0⟩ := K2_0.out
  obtain ⟨s2_1, c2_1, d2_1⟩ := K2_1.out
  obtain ⟨s2_2, c2_2, d2_2⟩ := K2_2.out
  go_wp2_with fail
  (with_reducible refine ((S2 _).out).mono ?_)
  rintro e w3 ⟨rfl, b3⟩
  have K3_0 := Lib.hid ((K2_0.out.alloc _).on b3)
  have K3_1 := Lib.hid ((K2_1.out.alloc _).on b3)
  have K3_2 := Lib.hid ((K2_2.out.alloc _).on b3)
  have K3_3 := Lib.hid ((Blk.new w2 _ _ _).on b3)
  have B3 := Lib.hid (below_on (B2.out.alloc B2.out.size _) b3)
  clear b3 s2_0 c2_0 d2_0 s2_1 c2_1 d2_1 s2_2 c2_2 d2_2
  obtain ⟨s3_0, c3_0, d3_0⟩ := K3_0.out
  obtain ⟨s3_1, c3_1, d3_1⟩ := K3_1.out
  obtain ⟨s3_2, c3_2, d3_2⟩ := K3_2.out
  obtain ⟨s3_3, c3_3, d3_3⟩ := K3_3.out
  go_wp2_with fail
  (with_reducible refine ((M1 _).out).mono ?_)
  rintro e w4 ⟨rfl, b4⟩
  have K4_0 := Lib.hid ((K3_0.out.alloc _).on b4)
  have K4_1 := Lib.hid ((K3_1.out.alloc _).on b4)
  have K4_2 := Lib.hid ((K3_2.out.alloc _).on b4)
  have K4_3 := Lib.hid ((K3_3.out.alloc _).on b4)
  have K4_4 := Lib.hid ((Blk.new w3 _ _ _).on b4)
  have B4 := Lib.hid (below_on (B3.out.alloc B3.out.size _) b4)
  clear b4 s3_0 c3_0 d3_0 s3_1 c3_1 d3_1 s3_2 c3_2 d3_2 s3_3 c3_3 d3_3
  obtain ⟨s4_0, c4_0, d4_0⟩ := K4_0.out
  obtain ⟨s4_1, c4_1, d4_1⟩ := K4_1.out
  obtain ⟨s4_2, c4_2, d4_2⟩ := K4_2.out
  obtain ⟨s4_3, c4_3, d4_3⟩ := K4_3.out
  obtain ⟨s4_4, c4_4, d4_4⟩ := K4_4.out
  go_wp2_with fail
  (with_reducible refine ((M2 _).out).mono ?_)
  rintro e w5 ⟨rfl, b5⟩
  have K5_0 := Lib.hid ((K4_0.out.alloc _).on b5)
  have K5_1 := Lib.hid ((K4_1.out.alloc _).on b5)
  have K5_2 := Lib.hid ((K4_2.out.alloc _).on b5)
  have K5_3 := Lib.hid ((K4_3.out.alloc _).on b5)
  have K5_4 := Lib.hid ((K4_4.out.alloc _).on b5)
  have K5_5 := Lib.hid ((Blk.new w4 _ _ _).on b5)
  have B5 := Lib.hid (below_on (B4.out.alloc B4.out.size _) b5)
  clear b5 s4_0 c4_0 d4_0 s4_1 c4_1 d4_1 s4_2 c4_2 d4_2 s4_3 c4_3 d4_3 s4_4 c4_4 d4_4
  obtain ⟨s5_0, c5_0, d5_0⟩ := K5_0.out
  obtain ⟨s5_1, c5_1, d5_1⟩ := K5_1.out
  obtain ⟨s5_2, c5_2, d5_2⟩ := K5_2.out
  obtain ⟨s5_3, c5_3, d5_3⟩ := K5_3.out
  obtain ⟨s5_4, c5_4, d5_4⟩ := K5_4.out
  obtain ⟨s5_5, c5_5, d5_5⟩ := K5_5.out
  go_wp2_with fail
  (with_reducible refine ((M5 _).out).mono ?_)
  rintro e w6 ⟨rfl, b6⟩
  have K6_0 := Lib.hid ((K5_0.out.alloc _).on b6)
  have K6_1 := Lib.hid ((K5_1.out.alloc _).on b6)
  have K6_2 := Lib.hid ((K5_2.out.alloc _).on b6)
  have K6_3 := Lib.hid ((K5_3.out.alloc _).on b6)
  have K6_4 := Lib.hid ((K5_4.out.alloc _).on b6)
  have K6_5 := Lib.hid ((K5_5.out.alloc _).on b6)
  have K6_6 := Lib.hid ((Blk.new w5 _ _ _).on b6)
  have B6 := Lib.hid (below_on (B5.out.alloc B5.out.size _) b6)
  clear b6 s5_0 c5_0 d5_0 s5_1 c5_1 d5_1 s5_2 c5_2 d5_2 s5_3 c5_3 d5_3 s5_4 c5_4 d5_4 s5_5 c5_5 d5_5
  obtain ⟨s6_0, c6_0, d6_0⟩ := K6_0.out
  obtain ⟨s6_1, c6_1, d6_1⟩ := K6_1.out
  obtain ⟨s6_2, c6_2, d6_2⟩ := K6_2.out
  obtain ⟨s6_3, c6_3, d6_3⟩ := K6_3.out
  obtain ⟨s6_4, c6_4, d6_4⟩ := K6_4.out
  obtain ⟨s6_5, c6_5, d6_5⟩ := K6_5.out
  obtain ⟨s6_6, c6_6, d6_6⟩ := K6_6.out
  go_wp2_with fail
  (with_reducible refine ((S5 _).out).mono ?_)
  rintro e w7 ⟨rfl, b7⟩
  have K7_0 := Lib.hid ((K6_0.out.alloc _).on b7)
  have K7_1 := Lib.hid ((K6_1.out.alloc _).on b7)
  have K7_2 := Lib.hid ((K6_2.out.alloc _).on b7)
  have K7_3 := Lib.hid ((K6_3.out.alloc _).on b7)
  have K7_4 := Lib.hid ((K6_4.out.alloc _).on b7)
  have K7_5 := Lib.hid ((K6_5.out.alloc _).on b7)
  have K7_6 := Lib.hid ((K6_6.out.alloc _).on b7)
  have K7_7 := Lib.hid ((Blk.new w6 _ _ _).on b7)
  have B7 := Lib.hid (below_on (B6.out.alloc B6.out.size _) b7)
  clear b7 s6_0 c6_0 d6_0 s6_1 c6_1 d6_1 s6_2 c6_2 d6_2 s6_3 c6_3 d6_3 s6_4 c6_4 d6_4 s6_5 c6_5 d6_5 s6_6 c6_6 d6_6
  obtain ⟨s7_0, c7_0, d7_0⟩ := K7_0.out
  obtain ⟨s7_1, c7_1, d7_1⟩ := K7_1.out
  obtain ⟨s7_2, c7_2, d7_2⟩ := K7_2.out
  obtain ⟨s7_3, c7_3, d7_3⟩ := K7_3.out
  obtain ⟨s7_4, c7_4, d7_4⟩ := K7_4.out
  obtain ⟨s7_5, c7_5, d7_5⟩ := K7_5.out
  obtain ⟨s7_6, c7_6, d7_6⟩ := K7_6.out
  obtain ⟨s7_7, c7_7, d7_7⟩ := K7_7.out
  go_wp2_with fail
  (with_reducible refine ((S2 _).out).mono ?_)
  rintro e w8 ⟨rfl, b8⟩
  have K8_0 := Lib.hid ((K7_0.out.alloc _).on b8)
  have K8_1 := Lib.hid ((K7_1.out.alloc _).on b8)
  have K8_2 := Lib.hid ((K7_2.out.alloc _).on b8)
  have K8_3 := Lib.hid ((K7_3.out.alloc _).on b8)
  have K8_4 := Lib.hid ((K7_4.out.alloc _).on b8)
  have K8_5 := Lib.hid ((K7_5.out.alloc _).on b8)
  have K8_6 := Lib.hid ((K7_6.out.alloc _).on b8)
  have K8_7 := Lib.hid ((K7_7.out.alloc _).on b8)
  have K8_8 := Lib.hid ((Blk.new w7 _ _ _).on b8)
  have B8 := Lib.hid (below_on (B7.out.alloc B7.out.size _) b8)
  clear b8 s7_0 c7_0 d7_0 s7_1 c7_1 d7_1 s7_2 c7_2 d7_2 s7_3 c7_3 d7_3 s7_4 c7_4 d7_4 s7_5 c7_5 d7_5 s7_6 c7_6 d7_6 s7_7 c7_7 d7_7
  obtain ⟨s8_0, c8_0, d8_0⟩ := K8_0.out
  obtain ⟨s8_1, c8_1, d8_1⟩ := K8_1.out
  obtain ⟨s8_2, c8_2, d8_2⟩ := K8_2.out
  obtain ⟨s8_3, c8_3, d8_3⟩ := K8_3.out
  obtain ⟨s8_4, c8_4, d8_4⟩ := K8_4.out
  obtain ⟨s8_5, c8_5, d8_5⟩ := K8_5.out
  obtain ⟨s8_6, c8_6, d8_6⟩ := K8_6.out
  obtain ⟨s8_7, c8_7, d8_7⟩ := K8_7.out
  obtain ⟨s8_8, c8_8, d8_8⟩ := K8_8.out
  go_wp2
  go_ret
  exact ⟨rfl, B8.out.alloc B8.out.size _⟩

set_option maxHeartbeats 4000000 in
theorem laws_bobbb (an ad bn bd cn cd : Int) (w : World) (an0 : -9223372036854775808 ≤ an) (an1 : an ≤ 9223372036854775807) (ad0 : -9223372036854775808 ≤ ad) (ad1 : ad ≤ 9223372036854775807) (bn0 : -9223372036854775808 ≤ bn) (bn1 : bn ≤ 9223372036854775807) (bd0 : -9223372036854775808 ≤ bd) (bd1 : bd ≤ 9223372036854775807) (cn0 : -9223372036854775808 ≤ cn) (cn1 : cn ≤ 9223372036854775807) (cd0 : -9223372036854775808 ≤ cd) (cd1 : cd ≤ 9223372036854775807) (hT : Hid (Pow10 w.heap.size w)) (sn sd se tn td te pn pd pe qn qd qe rn rd re xn xd xe yn yd ye un ud ue : Int) (hs : addT an ad bn bd = (sn, sd, se)) (zs : se ≠ 0) (vs : sn = 0 ∧ sd = 0) (ht : addT bn bd cn cd = (tn, td, te)) (zt : te = 0) (vt : Vld tn td) (hp : mulT an ad bn bd = (pn, pd, pe)) (zp : pe ≠ 0) (vp : pn = 0 ∧ pd = 0) (hq : mulT bn bd cn cd = (qn, qd, qe)) (zq : qe ≠ 0) (vq : qn = 0 ∧ qd = 0) (hr : mulT an ad cn cd = (rn, rd, re)) (zr : re ≠ 0) (vr : rn = 0 ∧ rd = 0) (hu : addT pn pd rn rd = (un, ud, ue)) :
    Calls Tryd.prog 7 #[.agg #[.int .i64 an, .int .i64 ad], .agg #[.int .i64 bn, .int .i64 bd], .agg #[.int .i64 cn, .int .i64 cd]] w fun e w' => e = .returned (.bool true) ∧ Below w.heap.size w w' := by
  obtain ⟨ys, ws⟩ := vs
  subst ys; subst ws
  have fs : (se == 0) = false := by simpa using zs
  have gs : (se != 0) = true := by simpa using zs
  have tb1 := vt.d1; have tb2 := vt.d2; have tb3 := vt.n1; have tb4 := vt.n2
  obtain ⟨yp, wp⟩ := vp
  subst yp; subst wp
  have fp : (pe == 0) = false := by simpa using zp
  have gp : (pe != 0) = true := by simpa using zp
  obtain ⟨yq, wq⟩ := vq
  subst yq; subst wq
  have fq : (qe == 0) = false := by simpa using zq
  have gq : (qe != 0) = true := by simpa using zq
  obtain ⟨yr, wr⟩ := vr
  subst yr; subst wr
  have fr : (re == 0) = false := by simpa using zr
  have gr : (re != 0) = true := by simpa using zr
  have S1 := fun w => Lib.hid (Add_any an ad bn bd w (by omega) (by omega) (by omega) (by omega) (by omega) (by omega) (by omega) (by omega) 0 0 se hs)
  have S2 := fun w => Lib.hid (Add_any bn bd cn cd w (by omega) (by omega) (by omega) (by omega) (by omega) (by omega) (by omega) (by omega) tn td te ht)
  have M1 := fun w => Lib.hid (Mul_any an ad bn bd w (by omega) (by omega) (by omega) (by omega) (by omega) (by omega) (by omega) (by omega) 0 0 pe hp)
  have M2 := fun w => Lib.hid (Mul_any bn bd cn cd w (by omega) (by omega) (by omega) (by omega) (by omega) (by omega) (by omega) (by omega) 0 0 qe hq)
  have M5 := fun w => Lib.hid (Mul_any an ad cn cd w (by omega) (by omega) (by omega) (by omega) (by omega) (by omega) (by omega) (by omega) 0 0 re hr)
  have S5 := fun w => Lib.hid (Add_any 0 0 0 0 w (by omega) (by omega) (by omega) (by omega) (by omega) (by omega) (by omega) (by omega) un ud ue hu)
  subst zt
  clear an0 an1 ad0 ad1 bn0 bn1 bd0 bd1 cn0 cn1 cd0 cd1 hs ht hp hq hr hu zs tb1 tb2 tb3 tb4 vt zp zq zr
  go_enter Tryd.func7, Tryd.ntmps7
  go_wp2_with fail
  have A0 : Below w.heap.size w (((w.alloc (Obj.cells #[Value.int IntKind.i64 an, Value.int IntKind.i64 ad] 23)).alloc (Obj.cells #[Value.int IntKind.i64 bn, Value.int IntKind.i64 bd] 23)).alloc (Obj.cells #[Value.int IntKind.i64 cn, Value.int IntKind.i64 cd] 23)) := (by repeat' (first | (with_reducible exact Below.refl _ _) | (with_reducible assumption) | (with_reducible refine Below.alloc ?_ ?_ _) | (with_reducible refine below_drew ?_ _) | (with_reducible refine Below.drew ?_) | (with_reducible refine Below.setCell ?_ ?_ _) | go_size))
  (with_reducible refine ((awake_any _ (Lib.hid (pow_on hT.out A0))).mono ?_))
  rintro e w1 ⟨rfl, b1⟩
  have B1 := Lib.hid (below_on A0 b1)
  have K1_0 := Lib.hid (Blk.on (W := (((w.alloc (Obj.cells #[Value.int IntKind.i64 an, Value.int IntKind.i64 ad] 23)).alloc (Obj.cells #[Value.int IntKind.i64 bn, Value.int IntKind.i64 bd] 23)).alloc (Obj.cells #[Value.int IntKind.i64 cn, Value.int IntKind.i64 cd] 23))) (((Blk.new w _ _ _).alloc _).alloc _) b1)
  have K1_1 := Lib.hid (Blk.on (W := (((w.alloc (Obj.cells #[Value.int IntKind.i64 an, Value.int IntKind.i64 ad] 23)).alloc (Obj.cells #[Value.int IntKind.i64 bn, Value.int IntKind.i64 bd] 23)).alloc (Obj.cells #[Value.int IntKind.i64 cn, Value.int IntKind.i64 cd] 23))) ((Blk.new1 w _ _ _ _).alloc _) b1)
  have K1_2 := Lib.hid (Blk.on (W := (((w.alloc (Obj.cells #[Value.int IntKind.i64 an, Value.int IntKind.i64 ad] 23)).alloc (Obj.cells #[Value.int IntKind.i64 bn, Value.int IntKind.i64 bd] 23)).alloc (Obj.cells #[Value.int IntKind.i64 cn, Value.int IntKind.i64 cd] 23))) (Blk.new2 w _ _ _ _ _) b1)
  clear b1 A0
  obtain ⟨s1_0, c1_0, d1_0⟩ := K1_0.out
  obtain ⟨s1_1, c1_1, d1_1⟩ := K1_1.out
  obtain ⟨s1_2, c1_2, d1_2⟩ := K1_2.out
  go_wp2_with fail
  (with_reducible refine ((S1 _).out).mono ?_)
  rintro e w2 ⟨rfl, b2⟩
  have K2_0 := Lib.hid (K1_0.out.on b2)
  have K2_1 := Lib.hid (K1_1.out.on b2)
  have K2_2 := Lib.hid (K1_2.out.on b2)
  have B2 := Lib.hid (below_on B1.out b2)
  clear b2 s1_0 c1_0 d1_0 s1_1 c1_1 d1_1 s1_2 c1_2 d1_2
  obtain ⟨s2_0, c2_0, d2_0⟩ := K2_0.out
  obtain ⟨s2_1, c2_1, d2_1⟩ := K2_1.out
  obtain ⟨s2_2, c2_2, d2_2⟩ := K2_2.out
  go_wp2_with fail
  (with_reducible refine ((S2 _).out).mono ?_)
  rintro e w3 ⟨rfl, b3⟩
  have K3_0 := Lib.hid ((K2_0.out.alloc _).on b3)
  have K3_1 := Lib.hid ((K2_1.out.alloc _).on b3)
  have K3_2 := Lib.hid ((K2_2.out.alloc _).on b3)
  have K3_3 := Lib.hid ((Blk.new w2 _ _ _).on b3)
  have B3 := Lib.hid (below_on (B2.out.alloc B2.out.size _) b3)
  clear b3 s2_0 c2_0 d2_0 s2_1 c2_1 d2_1 s2_2 c2_2 d2_2
  obtain ⟨s3_0, c3_0, d3_0⟩ := K3_0.out
  obtain ⟨s3_1, c3_1, d3_1⟩ := K3_1.out
  obtain ⟨s3_2, c3_2, d3_2⟩ := K3_2.out
  obtain ⟨s3_3, c3_3, d3_3⟩ := K3_3.out
  go_wp2_with fail
  (with_reducible refine ((M1 _).out).mono ?_)
  rintro e w4 ⟨rfl, b4⟩
  have K4_0 := Lib.hid ((K3_0.out.alloc _).on b4)
  have K4_1 := Lib.hid ((K3_1.out.alloc _).on b4)
  have K4_2 := Lib.hid ((K3_2.out.alloc _).on b4)
  have K4_3 := Lib.hid ((K3_3.out.alloc _).on b4)
  have K4_4 := Lib.hid ((Blk.new w3 _ _ _).on b4)
  have B4 := Lib.hid (below_on (B3.out.alloc B3.out.size _) b4)
  clear b4 s3_0 c3_0 d3_0 s3_1 c3_1 d3_1 s3_2 c3_2 d3_2 s3_3 c3_3 d3_3
  obtain ⟨s4_0, c4_0, d4_0⟩ := K4_0.out
  obtain ⟨s4_1, c4_1, d4_1⟩ := K4_1.out
  obtain ⟨s4_2, c4_2, d4_2⟩ := K4_2.out
  obtain ⟨s4_3, c4_3, d4_3⟩ := K4_3.out
  obtain ⟨s4_4, c4_4, d4_4⟩ := K4_4.out
  go_wp2_with fail
  (with_reducible refine ((M2 _).out).mono ?_)
  rintro e w5 ⟨rfl, b5⟩
  have K5_0 := Lib.hid ((K4_0.out.alloc _).on b5)
  have K5_1 := Lib.hid ((K4_1.out.alloc _).on b5)
  have K5_2 := Lib.hid ((K4_2.out.alloc _).on b5)
  have K5_3 := Lib.hid ((K4_3.out.alloc _).on b5)
  have K5_4 := Lib.hid ((K4_4.out.alloc _).on b5)
  have K5_5 := Lib.hid ((Blk.new w4 _ _ _).on b5)
  have B5 := Lib.hid (below_on (B4.out.alloc B4.out.size _) b5)
  clear b5 s4_0 c4_0 d4_0 s4_1 c4_1 d4_1 s4_2 c4_2 d4_2 s4_3 c4_3 d4_3 s4_4 c4_4 d4_4
  obtain ⟨s5_0, c5_0, d5_0⟩ := K5_0.out
  obtain ⟨s5_1, c5_1, d5_1⟩ := K5_1.out
  obtain ⟨s5_2, c5_2, d5_2⟩ := K5_2.out
  obtain ⟨s5_3, c5_3, d5_3⟩ := K5_3.out
  obtain ⟨s5_4, c5_4, d5_4⟩ := K5_4.out
  obtain ⟨s5_5, c5_5, d5_5⟩ := K5_5.out
  go_wp2_with fail
  (with_reducible refine ((M5 _).out).mono ?_)
  rintro e w6 ⟨rfl, b6⟩
  have K6_0 := Lib.hid ((K5_0.out.alloc _).on b6)
  have K6_1 := Lib.hid ((K5_1.out.alloc _).on b6)
  have K6_2 := Lib.hid ((K5_2.out.alloc _).on b6)
  have K6_3 := Lib.hid ((K5_3.out.alloc _).on b6)
  have K6_4 := Lib.hid ((K5_4.out.alloc _).on b6)
  have K6_5 := Lib.hid ((K5_5.out.alloc _).on b6)
  have K6_6 := Lib.hid ((Blk.new w5 _ _ _).on b6)
  have B6 := Lib.hid (below_on (B5.out.alloc B5.out.size _) b6)
  clear b6 s5_0 c5_0 d5_0 s5_1 c5_1 d5_1 s5_2 c5_2 d5_2 s5_3 c5_3 d5_3 s5_4 c5_4 d5_4 s5_5 c5_5 d5_5
  obtain ⟨s6_0, c6_0, d6_0⟩ := K6_0.out
  obtain ⟨s6_1, c6_1, d6_1⟩ := K6_1.out
  obtain ⟨s6_2, c6_2, d6_2⟩ := K6_2.out
  obtain ⟨s6_3, c6_3, d6_3⟩ := K6_3.out
  obtain ⟨s6_4, c6_4, d6_4⟩ := K6_4.out
  obtain ⟨s6_5, c6_5, d6_5⟩ := K6_5.out
  obtain ⟨s6_6, c6_6, d6_6⟩ := K6_6.out
  go_wp2_with fail
  (with_reducible refine ((S5 _).out).mono ?_)
  rintro e w7 ⟨rfl, b7⟩
  have K7_0 := Lib.hid ((K6_0.out.alloc _).on b7)
  have K7_1 := Lib.hid ((K6_1.out.alloc _).on b7)
  have K7_2 := Lib.hid ((K6_2.out.alloc _).on b7)
  have K7_3 := Lib.hid ((K6_3.out.alloc _).on b7)
  have K7_4 := Lib.hid ((K6_4.out.alloc _).on b7)
  have K7_5 := Lib.hid ((K6_5.out.alloc _).on b7)
  have K7_6 := Lib.hid ((K6_6.out.alloc _).on b7)
  have K7_7 := Lib.hid ((Blk.new w6 _ _ _).on b7)
  have B7 := Lib.hid (below_on (B6.out.alloc B6.out.size _) b7)
  clear b7 s6_0 c6_0 d6_0 s6_1 c6_1 d6_1 s6_2 c6_2 d6_2 s6_3 c6_3 d6_3 s6_4 c6_4 d6_4 s6_5 c6_5 d6_5 s6_6 c6_6 d6_6
  obtain ⟨s7_0, c7_0, d7_0⟩ := K7_0.out
  obtain ⟨s7_1, c7_1, d7_1⟩ := K7_1.out
  obtain ⟨s7_2, c7_2, d7_2⟩ := K7_2.out
  obtain ⟨s7_3, c7_3, d7_3⟩ := K7_3.out
  obtain ⟨s7_4, c7_4, d7_4⟩ := K7_4.out
  obtain ⟨s7_5, c7_5, d7_5⟩ := K7_5.out
  obtain ⟨s7_6, c7_6, d7_6⟩ := K7_6.out
  obtain ⟨s7_7, c7_7, d7_7⟩ := K7_7.out
  go_wp2_with fail
  (with_reducible refine ((S2 _).out).mono ?_)
  rintro e w8 ⟨rfl, b8⟩
  have K8_0 := Lib.hid ((K7_0.out.alloc _).on b8)
  have K8_1 := Lib.hid ((K7_1.out.alloc _).on b8)
  have K8_2 := Lib.hid ((K7_2.out.alloc _).on b8)
  have K8_3 := Lib.hid ((K7_3.out.alloc _).on b8)
  have K8_4 := Lib.hid ((K7_4.out.alloc _).on b8)
  have K8_5 := Lib.hid ((K7_5.out.alloc _).on b8)
  have K8_6 := Lib.hid ((K7_6.out.alloc _).on b8)
  have K8_7 := Lib.hid ((K7_7.out.alloc _).on b8)
  have K8_8 := Lib.hid ((Blk.new w7 _ _ _).on b8)
  have B8 := Lib.hid (below_on (B7.out.alloc B7.out.size _) b8)
  clear b8 s7_0 c7_0 d7_0 s7_1 c7_1 d7_1 s7_2 c7_2 d7_2 s7_3 c7_3 d7_3 s7_4 c7_4 d7_4 s7_5 c7_5 d7_5 s7_6 c7_6 d7_6 s7_7 c7_7 d7_7
  obtain ⟨s8_0, c8_0, d8_0⟩ := K8_0.out
  obtain ⟨s8_1, c8_1, d8_1⟩ := K8_1.out
  obtain ⟨s8_2, c8_2, d8_2⟩ := K8_2.out
  obtain ⟨s8_3, c8_3, d8_3⟩ := K8_3.out
  obtain ⟨s8_4, c8_4, d8_4⟩ := K8_4.out
  obtain ⟨s8_5, c8_5, d8_5⟩ := K8_5.out
  obtain ⟨s8_6, c8_6, d8_6⟩ := K8_6.out
  obtain ⟨s8_7, c8_7, d8_7⟩ := K8_7.out
  obtain ⟨s8_8, c8_8, d8_8⟩ := K8_8.out
  go_wp2
  go_ret
  exact ⟨rfl, B8.out.alloc B8.out.size _⟩

end Go.Proofs.YtjdgppccjpdhoaaDoor
