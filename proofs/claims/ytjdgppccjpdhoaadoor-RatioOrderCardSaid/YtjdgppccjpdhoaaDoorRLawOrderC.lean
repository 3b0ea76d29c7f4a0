/- The walk of the law RatioOrder (a part of its ways). -/
import Derived.Test.YtjdgppccjpdhoaaDoorRLawStore
import Derived.Deep.DeepCutAuto
namespace Go.Proofs.YtjdgppccjpdhoaaDoor
set_option linter.unusedVariables false
open Go.RowKit Go.Shelf

set_option maxRecDepth 100000 in
set_option maxHeartbeats 4000000 in
theorem order_oo_b (an ad bn bd cn cd : Int) (w : World) (an0 : -9223372036854775808 ≤ an) (an1 : an ≤ 9223372036854775807) (ad0 : -9223372036854775808 ≤ ad) (ad1 : ad ≤ 9223372036854775807) (bn0 : -9223372036854775808 ≤ bn) (bn1 : bn ≤ 9223372036854775807) (bd0 : -9223372036854775808 ≤ bd) (bd1 : bd ≤ 9223372036854775807) (cn0 : -9223372036854775808 ≤ cn) (cn1 : cn ≤ 9223372036854775807) (cd0 : -9223372036854775808 ≤ cd) (cd1 : cd ≤ 9223372036854775807) (hT : Hid (Pow10 w.heap.size w)) (k dn dd de xn xd xe yn yd ye un ud ue vn vd ve : Int) (hk : cmpT an ad bn bd = (k, 0)) (hl : cmpT bn bd an ad = (-k, 0)) (k0 : -1 ≤ k) (k1 : k ≤ 1) (hz : (k = 0 ∧ an = bn ∧ ad = bd) ∨ (k ≠ 0 ∧ an ≠ bn) ∨ (k ≠ 0 ∧ an = bn ∧ ad ≠ bd)) (hd : subT an ad bn bd = (dn, dd, de)) (hd2 : (de = 0 ∧ (0 < dn ↔ 0 < k) ∧ (dn < 0 ↔ k < 0)) ∨ de ≠ 0) (hx : addT an ad cn cd = (xn, xd, xe)) (zx : xe = 0) (vx : Vld xn xd) (hy : addT bn bd cn cd = (yn, yd, ye)) (zy : ye = 0) (vy : Vld yn yd) (hu : mulT an ad cn cd = (un, ud, ue)) (zu : ue ≠ 0) (vu : un = 0 ∧ ud = 0) (hv : mulT bn bd cn cd = (vn, vd, ve)) (hc : cmpT xn xd yn yd = (k, 0)) :
    Calls Tryd.prog 8 #[.agg #[.int .i64 an, .int .i64 ad], .agg #[.int .i64 bn, .int .i64 bd], .agg #[.int .i64 cn, .int .i64 cd]] w fun e w' => e = .returned (.bool true) ∧ Below w.heap.size w w' := by
  have xb1 := vx.d1; have xb2 := vx.d2; have xb3 := vx.n1; have xb4 := vx.n2
  have yb1 := vy.d1; have yb2 := vy.d2; have yb3 := vy.n1; have yb4 := vy.n2
  obtain ⟨yu, wu⟩ := vu
  subst yu; subst wu
  have fu : (ue == 0) = false := by simpa using zu
  have gu : (ue != 0) = true := by simpa using zu
  have D1 := fun w => Lib.hid (Cmp_any an ad bn bd w (by omega) (by omega) (by omega) (by omega) (by omega) (by omega) (by omega) (by omega) k 0 hk)
  have D2 := fun w => Lib.hid (Cmp_any bn bd an ad w (by omega) (by omega) (by omega) (by omega) (by omega) (by omega) (by omega) (by omega) (-k) 0 hl)
  have D3 := fun w => Lib.hid (Sub_any an ad bn bd w (by omega) (by omega) (by omega) (by omega) (by omega) (by omega) (by omega) (by omega) dn dd de hd)
  have D4 := fun w => Lib.hid (Add_any an ad cn cd w (by omega) (by omega) (by omega) (by omega) (by omega) (by omega) (by omega) (by omega) xn xd xe hx)
  have D5 := fun w => Lib.hid (Add_any bn bd cn cd w (by omega) (by omega) (by omega) (by omega) (by omega) (by omega) (by omega) (by omega) yn yd ye hy)
  have D7 := fun w => Lib.hid (Mul_any an ad cn cd w (by omega) (by omega) (by omega) (by omega) (by omega) (by omega) (by omega) (by omega) 0 0 ue hu)
  have D8 := fun w => Lib.hid (Mul_any bn bd cn cd w (by omega) (by omega) (by omega) (by omega) (by omega) (by omega) (by omega) (by omega) vn vd ve hv)
  have D6 := fun w => Lib.hid (Cmp_any xn xd yn yd w (by omega) (by omega) (by omega) (by omega) (by omega) (by omega) (by omega) (by omega) k 0 hc)
  subst zx
  subst zy
  clear hk hl hd hx hy hu hv hc xb1 xb2 xb3 xb4 vx yb1 yb2 yb3 yb4 vy zu an0 an1 ad0 ad1 bn0 bn1 bd0 bd1 cn0 cn1 cd0 cd1
  have HZ := Lib.hid hz
  have HD := Lib.hid hd2
  clear hz hd2
  go_enter Tryd.func8, Tryd.ntmps8
  go_wp2_with fail
  have A0 : Below w.heap.size w (((w.alloc (Obj.cells #[Value.int IntKind.i64 an, Value.int IntKind.i64 ad] 23)).alloc (Obj.cells #[Value.int IntKind.i64 bn, Value.int IntKind.i64 bd] 23)).alloc (Obj.cells #[Value.int IntKind.i64 cn, Value.int IntKind.i64 cd] 23)) := (by repeat' (first | (with_reducible exact Below.refl _ _) | (with_reducible assumption) | (with_reducible refine Below.alloc ?_ ?_ _) | (with_reducible refine below_drew ?_ _) | (with_reducible refine Below.drew ?_) | (with_reducible refine Below.setCell ?_ ?_ _) | go_size))
  (with_reducible refine ((awake_any _ (Lib.hid (pow_on hT.out A0))).mono ?_))
  rintro e w1 ⟨rfl, b1⟩
  have B1 := Lib.hid (below_on A0 b1)
  have K1_0 := Lib.hid (Blk.on (W := (((w.alloc (Obj.cells #[Value.int IntKind.i64 an, Value.int IntKind.i64 ad] 23)).alloc (Obj.cells #[Value.int IntKind.i64 bn, Value.int IntKind.i64 bd] 23)).alloc (Obj.cells #[Value.int IntKind.i64 cn, Value.int IntKind.i64 cd] 23))) (((Blk.new w _ _ _).alloc _).alloc _) b1)
  have K1_1 := Lib.hid (Blk.on (W := (((w.alloc (Obj.cells #[Value.int IntKind.i64 an, Value.int IntKind.i64 ad] 23)).alloc (Obj.cells #[Value.int IntKind.i64 bn, Value.int IntKind.i64 bd] 23)).alloc (Obj.cells #[Value.int IntKind.i64 cn, Value.int IntKind.i64 cd] 23))) ((Blk.new1 w _ _ _ _).alloc _) b1)
  have K1_2 := Lib.hid (Blk.on (W := (((w.alloc (Obj.cells #[Value.int IntKind.i64 an, Value.int IntKind.i64 ad] 23)).alloc (Obj.cells #[Value.int IntKind.i64 bn, Value.int IntKind.i64 bd] 23)).alloc (Obj.cells #[Value.int IntKind.i64 cn, Value.int IntKind.i64 cd] 23))) (Blk.new2 w _ _ _ _ _) b1)
  clear b1 A0
  obtain ⟨s1_0, c1_0, d1_0⟩ := K1_0.out
  obtain ⟨s1_1, c1_1, d1_1⟩ := K1_1.out
  obtain ⟨s1_2, c1_2, d1_2⟩ := K1_2.out
  go_wp2_with fail
  (with_reducible refine ((D1 _).out).mono ?_)
  rintro e w2 ⟨rfl, b2⟩
  have K2_0 := Lib.hid (K1_0.out.on b2)
  have K2_1 := Lib.hid (K1_1.out.on b2)
  have K2_2 := Lib.hid (K1_2.out.on b2)
  have B2 := Lib.hid (below_on B1.out b2)
  clear b2 s1_0 c1_0 d1_0 s1_1 c1_1 d1_1 s1_2 c1_2 d1_2 
  obtain ⟨s2_0, c2_0, d2_0⟩ := K2_0.out
  obtain ⟨s2_1, c2_1, d2_1⟩ := K2_1.out
  obtain ⟨s2_2, c2_2, d2_2⟩ := K2_2.out
  go_wp2_with fail
  (with_reducible refine ((D2 _).out).mono ?_)
  rintro e w3 ⟨rfl, b3⟩
  have K3_0 := Lib.hid (K2_0.out.on b3)
  have K3_1 := Lib.hid (K2_1.out.on b3)
  have K3_2 := Lib.hid (K2_2.out.on b3)
  have B3 := Lib.hid (below_on B2.out b3)
  clear b3 s2_0 c2_0 d2_0 s2_1 c2_1 d2_1 s2_2 c2_2 d2_2 
  obtain ⟨s3_0, c3_0, d3_0⟩ := K3_0.out
  obtain ⟨s3_1, c3_1, d3_1⟩ := K3_1.out
  obtain ⟨s3_2, c3_2, d3_2⟩ := K3_2.out
  go_upto_region 7 with fail
  go_cut [64] (fun s64 wx => s64 = .bool false ∧ w3 = wx)
  case first =>
    rcases HZ.out with ⟨rfl, rfl, rfl⟩ | ⟨g1, g2⟩ | ⟨g1, rfl, g2⟩
    · go_wp2_with fail
      go_meet
      exact ⟨rfl, rfl⟩
    · have g3 : (k == 0) = false := by simpa using g1
      go_wp2_with fail
      go_meet
      exact ⟨rfl, rfl⟩
    · have g3 : (k == 0) = false := by simpa using g1
      go_wp2_with fail
      go_meet
      exact ⟨rfl, rfl⟩
  case rest =>
    obtain ⟨rfl, rfl⟩ := hcut
    go_wp2_with fail
    (with_reducible refine ((D3 _).out).mono ?_)
    rintro e w4 ⟨rfl, b4⟩
    have K4_0 := Lib.hid (K3_0.out.on b4)
    have K4_1 := Lib.hid (K3_1.out.on b4)
    have K4_2 := Lib.hid (K3_2.out.on b4)
    have B4 := Lib.hid (below_on B3.out b4)
    clear b4 s3_0 c3_0 d3_0 s3_1 c3_1 d3_1 s3_2 c3_2 d3_2 
    obtain ⟨s4_0, c4_0, d4_0⟩ := K4_0.out
    obtain ⟨s4_1, c4_1, d4_1⟩ := K4_1.out
    obtain ⟨s4_2, c4_2, d4_2⟩ := K4_2.out
    have N3 : Hid (w.heap.size ≤ w4.heap.size ∧ w.heap.size < w4.heap.size ∧ w.heap.size + 1 < w4.heap.size ∧ w.heap.size + 1 + 1 < w4.heap.size) := ⟨B4.out.size, K4_0.out.1, K4_1.out.1, K4_2.out.1⟩
    go_upto_region 10 with fail
    go_cut [88] (fun s88 wx => s88 = .bool false ∧ w4.alloc (Obj.cells #[Value.int IntKind.i64 dn, Value.int IntKind.i64 dd] 23) = wx)
    case first =>
      rcases HD.out with ⟨rfl, g1, g2⟩ | g0
      · rcases Int.lt_trichotomy k 0 with g | g | g
        · have e1 : decide (0 < dn) = false := by simp; omega
          have e2 : decide (0 < k) = false := by simp; omega
          have e3 : decide (dn < 0) = true := by simp; omega
          have e4 : decide (k < 0) = true := by simp; omega
          go_wp2_with fail
          go_meet
          exact ⟨rfl, rfl⟩
        · have e1 : decide (0 < dn) = false := by simp; omega
          have e2 : decide (0 < k) = false := by simp; omega
          have e3 : decide (dn < 0) = false := by simp; omega
          have e4 : decide (k < 0) = false := by simp; omega
          clear g
          go_wp2_with fail
          go_meet
          exact ⟨rfl, rfl⟩
        · have e1 : decide (0 < dn) = true := by simp; omega
          have e2 : decide (0 < k) = true := by simp; omega
          have e3 : decide (dn < 0) = false := by simp; omega
          have e4 : decide (k < 0) = false := by simp; omega
          go_wp2_with fail
          go_meet
          exact ⟨rfl, rfl⟩
      · have g1 : (de == 0) = false := by simpa using g0
        have g2 : (de != 0) = true := by simpa using g0
        go_wp2_with fail
        go_meet
        exact ⟨rfl, rfl⟩
    case rest =>
      obtain ⟨rfl, rfl⟩ := hcut
      go_wp2_with fail
      (with_reducible refine ((D4 _).out).mono ?_)
      rintro e w5 ⟨rfl, b5⟩
      have K5_0 := Lib.hid ((K4_0.out.alloc _).on b5)
      have K5_1 := Lib.hid ((K4_1.out.alloc _).on b5)
      have K5_2 := Lib.hid ((K4_2.out.alloc _).on b5)
      have K5_3 := Lib.hid ((Blk.new w4 _ _ _).on b5)
      have B5 := Lib.hid (below_on (B4.out.alloc B4.out.size _) b5)
      clear b5 s4_0 c4_0 d4_0 s4_1 c4_1 d4_1 s4_2 c4_2 d4_2 
      obtain ⟨s5_0, c5_0, d5_0⟩ := K5_0.out
      obtain ⟨s5_1, c5_1, d5_1⟩ := K5_1.out
      obtain ⟨s5_2, c5_2, d5_2⟩ := K5_2.out
      obtain ⟨s5_3, c5_3, d5_3⟩ := K5_3.out
      have N4 : Hid (w.heap.size ≤ w5.heap.size ∧ w.heap.size < w5.heap.size ∧ w.heap.size + 1 < w5.heap.size ∧ w.heap.size + 1 + 1 < w5.heap.size ∧ w4.heap.size < w5.heap.size) := ⟨B5.out.size, K5_0.out.1, K5_1.out.1, K5_2.out.1, K5_3.out.1⟩
      go_wp2_with fail
      (with_reducible refine ((D5 _).out).mono ?_)
      rintro e w6 ⟨rfl, b6⟩
      have K6_0 := Lib.hid ((K5_0.out.alloc _).on b6)
      have K6_1 := Lib.hid ((K5_1.out.alloc _).on b6)
      have K6_2 := Lib.hid ((K5_2.out.alloc _).on b6)
      have K6_3 := Lib.hid ((K5_3.out.alloc _).on b6)
      have K6_4 := Lib.hid ((Blk.new w5 _ _ _).on b6)
      have Q6_4 := Lib.hid ((Frz.new w5 _ _ _).on (by simp) b6)
      have B6 := Lib.hid (below_on (B5.out.alloc B5.out.size _) b6)
      clear b6 s5_0 c5_0 d5_0 s5_1 c5_1 d5_1 s5_2 c5_2 d5_2 s5_3 c5_3 d5_3 
      obtain ⟨s6_0, c6_0, d6_0⟩ := K6_0.out
      obtain ⟨s6_1, c6_1, d6_1⟩ := K6_1.out
      obtain ⟨s6_2, c6_2, d6_2⟩ := K6_2.out
      obtain ⟨s6_3, c6_3, d6_3⟩ := K6_3.out
      obtain ⟨s6_4, c6_4, d6_4⟩ := K6_4.out
      obtain ⟨fa6_4, fb6_4⟩ := Q6_4.out
      have N5 : Hid (w.heap.size ≤ w6.heap.size ∧ w.heap.size < w6.heap.size ∧ w.heap.size + 1 < w6.heap.size ∧ w.heap.size + 1 + 1 < w6.heap.size ∧ w4.heap.size < w6.heap.size ∧ w5.heap.size < w6.heap.size) := ⟨B6.out.size, K6_0.out.1, K6_1.out.1, K6_2.out.1, K6_3.out.1, K6_4.out.1⟩
      go_wp2_with fail
      (with_reducible refine ((D6 _).out).mono ?_)
      rintro e w7 ⟨rfl, b7⟩
      have K7_0 := Lib.hid ((K6_0.out.alloc _).on b7)
      have K7_1 := Lib.hid ((K6_1.out.alloc _).on b7)
      have K7_2 := Lib.hid ((K6_2.out.alloc _).on b7)
      have K7_3 := Lib.hid ((K6_3.out.alloc _).on b7)
      have K7_4 := Lib.hid ((K6_4.out.alloc _).on b7)
      have Q7_4 := Lib.hid ((Q6_4.out.alloc K6_4.out.1 _).on (K6_4.out.alloc _).1 b7)
      have K7_5 := Lib.hid ((Blk.new w6 _ _ _).on b7)
      have Q7_5 := Lib.hid ((Frz.new w6 _ _ _).on (by simp) b7)
      have B7 := Lib.hid (below_on (B6.out.alloc B6.out.size _) b7)
      clear b7 s6_0 c6_0 d6_0 s6_1 c6_1 d6_1 s6_2 c6_2 d6_2 s6_3 c6_3 d6_3 s6_4 c6_4 d6_4 fa6_4 fb6_4
      obtain ⟨s7_0, c7_0, d7_0⟩ := K7_0.out
      obtain ⟨s7_1, c7_1, d7_1⟩ := K7_1.out
      obtain ⟨s7_2, c7_2, d7_2⟩ := K7_2.out
      obtain ⟨s7_3, c7_3, d7_3⟩ := K7_3.out
      obtain ⟨s7_4, c7_4, d7_4⟩ := K7_4.out
      obtain ⟨s7_5, c7_5, d7_5⟩ := K7_5.out
      obtain ⟨fa7_4, fb7_4⟩ := Q7_4.out
      obtain ⟨fa7_5, fb7_5⟩ := Q7_5.out
      go_wp2_with fail
      (with_reducible refine ((D7 _).out).mono ?_)
      rintro e w8 ⟨rfl, b8⟩
      have K8_0 := Lib.hid (K7_0.out.on b8)
      have K8_1 := Lib.hid (K7_1.out.on b8)
      have K8_2 := Lib.hid (K7_2.out.on b8)
      have K8_3 := Lib.hid (K7_3.out.on b8)
      have K8_4 := Lib.hid (K7_4.out.on b8)
      have Q8_4 := Lib.hid (Q7_4.out.on K7_4.out.1 b8)
      have K8_5 := Lib.hid (K7_5.out.on b8)
      have Q8_5 := Lib.hid (Q7_5.out.on K7_5.out.1 b8)
      have B8 := Lib.hid (below_on B7.out b8)
      clear b8 s7_0 c7_0 d7_0 s7_1 c7_1 d7_1 s7_2 c7_2 d7_2 s7_3 c7_3 d7_3 s7_4 c7_4 d7_4 s7_5 c7_5 d7_5 fa7_4 fb7_4 fa7_5 fb7_5
      obtain ⟨s8_0, c8_0, d8_0⟩ := K8_0.out
      obtain ⟨s8_1, c8_1, d8_1⟩ := K8_1.out
      obtain ⟨s8_2, c8_2, d8_2⟩ := K8_2.out
      obtain ⟨s8_3, c8_3, d8_3⟩ := K8_3.out
      obtain ⟨s8_4, c8_4, d8_4⟩ := K8_4.out
      obtain ⟨s8_5, c8_5, d8_5⟩ := K8_5.out
      obtain ⟨fa8_4, fb8_4⟩ := Q8_4.out
      obtain ⟨fa8_5, fb8_5⟩ := Q8_5.out
      have ua0 : ¬ w5.heap.size = w.heap.size := by have := N4.out; omega
      have ub0 : ¬ w.heap.size = w5.heap.size := by have := N4.out; omega
      have ua1 : ¬ w5.heap.size = w.heap.size + 1 := by have := N4.out; omega
      have ub1 : ¬ w.heap.size + 1 = w5.heap.size := by have := N4.out; omega
      have ua2 : ¬ w5.heap.size = w.heap.size + 1 + 1 := by have := N4.out; omega
      have ub2 : ¬ w.heap.size + 1 + 1 = w5.heap.size := by have := N4.out; omega
      have ua3 : ¬ w5.heap.size = w4.heap.size := by have := N4.out; omega
      have ub3 : ¬ w4.heap.size = w5.heap.size := by have := N4.out; omega
      have ua5 : ¬ w5.heap.size = w6.heap.size := by have := N5.out; omega
      have ub5 : ¬ w6.heap.size = w5.heap.size := by have := N5.out; omega
      go_wp2_with fail
      clear ua0 ub0 ua1 ub1 ua2 ub2 ua3 ub3 ua5 ub5
      (with_reducible refine ((D8 _).out).mono ?_)
      rintro e w9 ⟨rfl, b9⟩
      have K9_0 := Lib.hid ((K8_0.out.far (by have := N4.out; omega)).on b9)
      have K9_1 := Lib.hid ((K8_1.out.far (by have := N4.out; omega)).on b9)
      have K9_2 := Lib.hid ((K8_2.out.far (by have := N4.out; omega)).on b9)
      have K9_3 := Lib.hid ((K8_3.out.far (by have := N4.out; omega)).on b9)
      have K9_4 := Lib.hid ((K8_4.out.set).on b9)
      have Q9_4 := Lib.hid ((Q8_4.out.set).on (by simpa using K8_4.out.1) b9)
      have K9_5 := Lib.hid ((K8_5.out.far (by have := N5.out; omega)).on b9)
      have Q9_5 := Lib.hid ((Q8_5.out.set).on (by simpa using K8_5.out.1) b9)
      have B9 := Lib.hid (below_on ((B8.out.setCell (by have := N4.out; simp; omega) _).setCell (by have := N4.out; simp; omega) _) b9)
      clear b9 s8_0 c8_0 d8_0 s8_1 c8_1 d8_1 s8_2 c8_2 d8_2 s8_3 c8_3 d8_3 s8_4 c8_4 d8_4 s8_5 c8_5 d8_5 fa8_4 fb8_4 fa8_5 fb8_5
      obtain ⟨s9_0, c9_0, d9_0⟩ := K9_0.out
      obtain ⟨s9_1, c9_1, d9_1⟩ := K9_1.out
      obtain ⟨s9_2, c9_2, d9_2⟩ := K9_2.out
      obtain ⟨s9_3, c9_3, d9_3⟩ := K9_3.out
      obtain ⟨s9_4, c9_4, d9_4⟩ := K9_4.out
      obtain ⟨s9_5, c9_5, d9_5⟩ := K9_5.out
      obtain ⟨fa9_4, fb9_4⟩ := Q9_4.out
      obtain ⟨fa9_5, fb9_5⟩ := Q9_5.out
      have ua0 : ¬ w6.heap.size = w.heap.size := by have := N5.out; omega
      have ub0 : ¬ w.heap.size = w6.heap.size := by have := N5.out; omega
      have ua1 : ¬ w6.heap.size = w.heap.size + 1 := by have := N5.out; omega
      have ub1 : ¬ w.heap.size + 1 = w6.heap.size := by have := N5.out; omega
      have ua2 : ¬ w6.heap.size = w.heap.size + 1 + 1 := by have := N5.out; omega
      have ub2 : ¬ w.heap.size + 1 + 1 = w6.heap.size := by have := N5.out; omega
      have ua3 : ¬ w6.heap.size = w4.heap.size := by have := N5.out; omega
      have ub3 : ¬ w4.heap.size = w6.heap.size := by have := N5.out; omega
      have ua4 : ¬ w6.heap.size = w5.heap.size := by have := N5.out; omega
      have ub4 : ¬ w5.heap.size = w6.heap.size := by have := N5.out; omega
      go_wp2
      go_ret
      exact ⟨rfl, (B9.out.setCell (by have := N5.out; simp; omega) _).setCell (by have := N5.out; simp; omega) _⟩

set_option maxRecDepth 100000 in
set_option maxHeartbeats 4000000 in
theorem order_oo_ob (an ad bn bd cn cd : Int) (w : World) (an0 : -9223372036854775808 ≤ an) (an1 : an ≤ 9223372036854775807) (ad0 : -9223372036854775808 ≤ ad) (ad1 : ad ≤ 9223372036854775807) (bn0 : -9223372036854775808 ≤ bn) (bn1 : bn ≤ 9223372036854775807) (bd0 : -9223372036854775808 ≤ bd) (bd1 : bd ≤ 9223372036854775807) (cn0 : -9223372036854775808 ≤ cn) (cn1 : cn ≤ 9223372036854775807) (cd0 : -9223372036854775808 ≤ cd) (cd1 : cd ≤ 9223372036854775807) (hT : Hid (Pow10 w.heap.size w)) (k dn dd de xn xd xe yn yd ye un ud ue vn vd ve : Int) (hk : cmpT an ad bn bd = (k, 0)) (hl : cmpT bn bd an ad = (-k, 0)) (k0 : -1 ≤ k) (k1 : k ≤ 1) (hz : (k = 0 ∧ an = bn ∧ ad = bd) ∨ (k ≠ 0 ∧ an ≠ bn) ∨ (k ≠ 0 ∧ an = bn ∧ ad ≠ bd)) (hd : subT an ad bn bd = (dn, dd, de)) (hd2 : (de = 0 ∧ (0 < dn ↔ 0 < k) ∧ (dn < 0 ↔ k < 0)) ∨ de ≠ 0) (hx : addT an ad cn cd = (xn, xd, xe)) (zx : xe = 0) (vx : Vld xn xd) (hy : addT bn bd cn cd = (yn, yd, ye)) (zy : ye = 0) (vy : Vld yn yd) (hu : mulT an ad cn cd = (un, ud, ue)) (zu : ue = 0) (vu : Vld un ud) (hv : mulT bn bd cn cd = (vn, vd, ve)) (zv : ve ≠ 0) (vv : vn = 0 ∧ vd = 0) (hc : cmpT xn xd yn yd = (k, 0)) :
    Calls Tryd.prog 8 #[.agg #[.int .i64 an, .int .i64 ad], .agg #[.int .i64 bn, .int .i64 bd], .agg #[.int .i64 cn, .int .i64 cd]] w fun e w' => e = .returned (.bool true) ∧ Below w.heap.size w w' := by
  have xb1 := vx.d1; have xb2 := vx.d2; have xb3 := vx.n1; have xb4 := vx.n2
  have yb1 := vy.d1; have yb2 := vy.d2; have yb3 := vy.n1; have yb4 := vy.n2
  have ub1 := vu.d1; have ub2 := vu.d2; have ub3 := vu.n1; have ub4 := vu.n2
  obtain ⟨yv, wv⟩ := vv
  subst yv; subst wv
  have fv : (ve == 0) = false := by simpa using zv
  have gv : (ve != 0) = true := by simpa using zv
  have D1 := fun w => Lib.hid (Cmp_any an ad bn bd w (by omega) (by omega) (by omega) (by omega) (by omega) (by omega) (by omega) (by omega) k 0 hk)
  have D2 := fun w => Lib.hid (Cmp_any bn bd an ad w (by omega) (by omega) (by omega) (by omega) (by omega) (by omega) (by omega) (by omega) (-k) 0 hl)
  have D3 := fun w => Lib.hid (Sub_any an ad bn bd w (by omega) (by omega) (by omega) (by omega) (by omega) (by omega) (by omega) (by omega) dn dd de hd)
  have D4 := fun w => Lib.hid (Add_any an ad cn cd w (by omega) (by omega) (by omega) (by omega) (by omega) (by omega) (by omega) (by omega) xn xd xe hx)
  have D5 := fun w => Lib.hid (Add_any bn bd cn cd w (by omega) (by omega) (by omega) (by omega) (by omega) (by omega) (by omega) (by omega) yn yd ye hy)
  have D7 := fun w => Lib.hid (Mul_any an ad cn cd w (by omega) (by omega) (by omega) (by omega) (by omega) (by omega) (by omega) (by omega) un ud ue hu)
  have D8 := fun w => Lib.hid (Mul_any bn bd cn cd w (by omega) (by omega) (by omega) (by omega) (by omega) (by omega) (by omega) (by omega) 0 0 ve hv)
  have D6 := fun w => Lib.hid (Cmp_any xn xd yn yd w (by omega) (by omega) (by omega) (by omega) (by omega) (by omega) (by omega) (by omega) k 0 hc)
  subst zx
  subst zy
  subst zu
  clear hk hl hd hx hy hu hv hc xb1 xb2 xb3 xb4 vx yb1 yb2 yb3 yb4 vy ub1 ub2 ub3 ub4 vu zv an0 an1 ad0 ad1 bn0 bn1 bd0 bd1 cn0 cn1 cd0 cd1
  have HZ := Lib.hid hz
  have HD := Lib.hid hd2
  clear hz hd2
  go_enter Tryd.func8, Tryd.ntmps8
  go_wp2_with fail
  have A0 : Below w.heap.size w (((w.alloc (Obj.cells #[Value.int IntKind.i64 an, Value.int IntKind.i64 ad] 23)).alloc (Obj.cells #[Value.int IntKind.i64 bn, Value.int IntKind.i64 bd] 23)).alloc (Obj.cells #[Value.int IntKind.i64 cn, Value.int IntKind.i64 cd] 23)) := (by repeat' (first | (with_reducible exact Below.refl _ _) | (with_reducible assumption) | (with_reducible refine Below.alloc ?_ ?_ _) | (with_reducible refine below_drew ?_ _) | (with_reducible refine Below.drew ?_) | (with_reducible refine Below.setCell ?_ ?_ _) | go_size))
  (with_reducible refine ((awake_any _ (Lib.hid (pow_on hT.out A0))).mono ?_))
  rintro e w1 ⟨rfl, b1⟩
  have B1 := Lib.hid (below_on A0 b1)
  have K1_0 := Lib.hid (Blk.on (W := (((w.alloc (Obj.cells #[Value.int IntKind.i64 an, Value.int IntKind.i64 ad] 23)).alloc (Obj.cells #[Value.int IntKind.i64 bn, Value.int IntKind.i64 bd] 23)).alloc (Obj.cells #[Value.int IntKind.i64 cn, Value.int IntKind.i64 cd] 23))) (((Blk.new w _ _ _).alloc _).alloc _) b1)
  have K1_1 := Lib.hid (Blk.on (W := (((w.alloc (Obj.cells #[Value.int IntKind.i64 an, Value.int IntKind.i64 ad] 23)).alloc (Obj.cells #[Value.int IntKind.i64 bn, Value.int IntKind.i64 bd] 23)).alloc (Obj.cells #[Value.int IntKind.i64 cn, Value.int IntKind.i64 cd] 23))) ((Blk.new1 w _ _ _ _).alloc _) b1)
  have K1_2 := Lib.hid (Blk.on (W := (((w.alloc (Obj.cells #[Value.int IntKind.i64 an, Value.int IntKind.i64 ad] 23)).alloc (Obj.cells #[Value.int IntKind.i64 bn, Value.int IntKind.i64 bd] 23)).alloc (Obj.cells #[Value.int IntKind.i64 cn, Value.int IntKind.i64 cd] 23))) (Blk.new2 w _ _ _ _ _) b1)
  clear b1 A0
  obtain ⟨s1_0, c1_0, d1_0⟩ := K1_0.out
  obtain ⟨s1_1, c1_1, d1_1⟩ := K1_1.out
  obtain ⟨s1_2, c1_2, d1_2⟩ := K1_2.out
  go_wp2_with fail
  (with_reducible refine ((D1 _).out).mono ?_)
  rintro e w2 ⟨rfl, b2⟩
  have K2_0 := Lib.hid (K1_0.out.on b2)
  have K2_1 := Lib.hid (K1_1.out.on b2)
  have K2_2 := Lib.hid (K1_2.out.on b2)
  have B2 := Lib.hid (below_on B1.out b2)
  clear b2 s1_0 c1_0 d1_0 s1_1 c1_1 d1_1 s1_2 c1_2 d1_2 
  obtain ⟨s2_0, c2_0, d2_0⟩ := K2_0.out
  obtain ⟨s2_1, c2_1, d2_1⟩ := K2_1.out
  obtain ⟨s2_2, c2_2, d2_2⟩ := K2_2.out
  go_wp2_with fail
  (with_reducible refine ((D2 _).out).mono ?_)
  rintro e w3 ⟨rfl, b3⟩
  have K3_0 := Lib.hid (K2_0.out.on b3)
  have K3_1 := Lib.hid (K2_1.out.on b3)
  have K3_2 := Lib.hid (K2_2.out.on b3)
  have B3 := Lib.hid (below_on B2.out b3)
  clear b3 s2_0 c2_0 d2_0 s2_1 c2_1 d2_1 s2_2 c2_2 d2_2 
  obtain ⟨s3_0, c3_0, d3_0⟩ := K3_0.out
  obtain ⟨s3_1, c3_1, d3_1⟩ := K3_1.out
  obtain ⟨s3_2, c3_2, d3_2⟩ := K3_2.out
  go_upto_region 7 with fail
  go_cut [64] (fun s64 wx => s64 = .bool false ∧ w3 = wx)
  case first =>
    rcases HZ.out with ⟨rfl, rfl, rfl⟩ | ⟨g1, g2⟩ | ⟨g1, rfl, g2⟩
    · go_wp2_with fail
      go_meet
      exact ⟨rfl, rfl⟩
    · have g3 : (k == 0) = false := by simpa using g1
      go_wp2_with fail
      go_meet
      exact ⟨rfl, rfl⟩
    · have g3 : (k == 0) = false := by simpa using g1
      go_wp2_with fail
      go_meet
      exact ⟨rfl, rfl⟩
  case rest =>
    obtain ⟨rfl, rfl⟩ := hcut
    go_wp2_with fail
    (with_reducible refine ((D3 _).out).mono ?_)
    rintro e w4 ⟨rfl, b4⟩
    have K4_0 := Lib.hid (K3_0.out.on b4)
    have K4_1 := Lib.hid (K3_1.out.on b4)
    have K4_2 := Lib.hid (K3_2.out.on b4)
    have B4 := Lib.hid (below_on B3.out b4)
    clear b4 s3_0 c3_0 d3_0 s3_1 c3_1 d3_1 s3_2 c3_2 d3_2 
    obtain ⟨s4_0, c4_0, d4_0⟩ := K4_0.out
    obtain ⟨s4_1, c4_1, d4_1⟩ := K4_1.out
    obtain ⟨s4_2, c4_2, d4_2⟩ := K4_2.out
    have N3 : Hid (w.heap.size ≤ w4.heap.size ∧ w.heap.size < w4.heap.size ∧ w.heap.size + 1 < w4.heap.size ∧ w.heap.size + 1 + 1 < w4.heap.size) := ⟨B4.out.size, K4_0.out.1, K4_1.out.1, K4_2.out.1⟩
    go_upto_region 10 with fail
    go_cut [88] (fun s88 wx => s88 = .bool false ∧ w4.alloc (Obj.cells #[Value.int IntKind.i64 dn, Value.int IntKind.i64 dd] 23) = wx)
    case first =>
      rcases HD.out with ⟨rfl, g1, g2⟩ | g0
      · rcases Int.lt_trichotomy k 0 with g | g | g
        · have e1 : decide (0 < dn) = false := by simp; omega
          have e2 : decide (0 < k) = false := by simp; omega
          have e3 : decide (dn < 0) = true := by simp; omega
          have e4 : decide (k < 0) = true := by simp; omega
          go_wp2_with fail
          go_meet
          exact ⟨rfl, rfl⟩
        · have e1 : decide (0 < dn) = false := by simp; omega
          have e2 : decide (0 < k) = false := by simp; omega
          have e3 : decide (dn < 0) = false := by simp; omega
          have e4 : decide (k < 0) = false := by simp; omega
          clear g
          go_wp2_with fail
          go_meet
          exact ⟨rfl, rfl⟩
        · have e1 : decide (0 < dn) = true := by simp; omega
          have e2 : decide (0 < k) = true := by simp; omega
          have e3 : decide (dn < 0) = false := by simp; omega
          have e4 : decide (k < 0) = false := by simp; omega
          go_wp2_with fail
          go_meet
          exact ⟨rfl, rfl⟩
      · have g1 : (de == 0) = false := by simpa using g0
        have g2 : (de != 0) = true := by simpa using g0
        go_wp2_with fail
        go_meet
        exact ⟨rfl, rfl⟩
    case rest =>
      obtain ⟨rfl, rfl⟩ := hcut
      go_wp2_with fail
      (with_reducible refine ((D4 _).out).mono ?_)
      rintro e w5 ⟨rfl, b5⟩
      have K5_0 := Lib.hid ((K4_0.out.alloc _).on b5)
      have K5_1 := Lib.hid ((K4_1.out.alloc _).on b5)
      have K5_2 := Lib.hid ((K4_2.out.alloc _).on b5)
      have K5_3 := Lib.hid ((Blk.new w4 _ _ _).on b5)
      have B5 := Lib.hid (below_on (B4.out.alloc B4.out.size _) b5)
      clear b5 s4_0 c4_0 d4_0 s4_1 c4_1 d4_1 s4_2 c4_2 d4_2 
      obtain ⟨s5_0, c5_0, d5_0⟩ := K5_0.out
      obtain ⟨s5_1, c5_1, d5_1⟩ := K5_1.out
      obtain ⟨s5_2, c5_2, d5_2⟩ := K5_2.out
      obtain ⟨s5_3, c5_3, d5_3⟩ := K5_3.out
      have N4 : Hid (w.heap.size ≤ w5.heap.size ∧ w.heap.size < w5.heap.size ∧ w.heap.size + 1 < w5.heap.size ∧ w.heap.size + 1 + 1 < w5.heap.size ∧ w4.heap.size < w5.heap.size) := ⟨B5.out.size, K5_0.out.1, K5_1.out.1, K5_2.out.1, K5_3.out.1⟩
      go_wp2_with fail
      (with_reducible refine ((D5 _).out).mono ?_)
      rintro e w6 ⟨rfl, b6⟩
      have K6_0 := Lib.hid ((K5_0.out.alloc _).on b6)
      have K6_1 := Lib.hid ((K5_1.out.alloc _).on b6)
      have K6_2 := Lib.hid ((K5_2.out.alloc _).on b6)
      have K6_3 := Lib.hid ((K5_3.out.alloc _).on b6)
      have K6_4 := Lib.hid ((Blk.new w5 _ _ _).on b6)
      have Q6_4 := Lib.hid ((Frz.new w5 _ _ _).on (by simp) b6)
      have B6 := Lib.hid (below_on (B5.out.alloc B5.out.size _) b6)
      clear b6 s5_0 c5_0 d5_0 s5_1 c5_1 d5_1 s5_2 c5_2 d5_2 s5_3 c5_3 d5_3 
      obtain ⟨s6_0, c6_0, d6_0⟩ := K6_0.out
      obtain ⟨s6_1, c6_1, d6_1⟩ := K6_1.out
      obtain ⟨s6_2, c6_2, d6_2⟩ := K6_2.out
      obtain ⟨s6_3, c6_3, d6_3⟩ := K6_3.out
      obtain ⟨s6_4, c6_4, d6_4⟩ := K6_4.out
      obtain ⟨fa6_4, fb6_4⟩ := Q6_4.out
      have N5 : Hid (w.heap.size ≤ w6.heap.size ∧ w.heap.size < w6.heap.size ∧ w.heap.size + 1 < w6.heap.size ∧ w.heap.size + 1 + 1 < w6.heap.size ∧ w4.heap.size < w6.heap.size ∧ w5.heap.size < w6.heap.size) := ⟨B6.out.size, K6_0.out.1, K6_1.out.1, K6_2.out.1, K6_3.out.1, K6_4.out.1⟩
      go_wp2_with fail
      (with_reducible refine ((D6 _).out).mono ?_)
      rintro e w7 ⟨rfl, b7⟩
      have K7_0 := Lib.hid ((K6_0.out.alloc _).on b7)
      have K7_1 := Lib.hid ((K6_1.out.alloc _).on b7)
      have K7_2 := Lib.hid ((K6_2.out.alloc _).on b7)
      have K7_3 := Lib.hid ((K6_3.out.alloc _).on b7)
      have K7_4 := Lib.hid ((K6_4.out.alloc _).on b7)
      have Q7_4 := Lib.hid ((Q6_4.out.alloc K6_4.out.1 _).on (K6_4.out.alloc _).1 b7)
      have K7_5 := Lib.hid ((Blk.new w6 _ _ _).on b7)
      have Q7_5 := Lib.hid ((Frz.new w6 _ _ _).on (by simp) b7)
      have B7 := Lib.hid (below_on (B6.out.alloc B6.out.size _) b7)
      clear b7 s6_0 c6_0 d6_0 s6_1 c6_1 d6_1 s6_2 c6_2 d6_2 s6_3 c6_3 d6_3 s6_4 c6_4 d6_4 fa6_4 fb6_4
      obtain ⟨s7_0, c7_0, d7_0⟩ := K7_0.out
      obtain ⟨s7_1, c7_1, d7_1⟩ := K7_1.out
      obtain ⟨s7_2, c7_2, d7_2⟩ := K7_2.out
      obtain ⟨s7_3, c7_3, d7_3⟩ := K7_3.out
      obtain ⟨s7_4, c7_4, d7_4⟩ := K7_4.out
      obtain ⟨s7_5, c7_5, d7_5⟩ := K7_5.out
      obtain ⟨fa7_4, fb7_4⟩ := Q7_4.out
      obtain ⟨fa7_5, fb7_5⟩ := Q7_5.out
      go_wp2_with fail
      (with_reducible refine ((D7 _).out).mono ?_)
      rintro e w8 ⟨rfl, b8⟩
      have K8_0 := Lib.hid (K7_0.out.on b8)
      have K8_1 := Lib.hid (K7_1.out.on b8)
      have K8_2 := Lib.hid (K7_2.out.on b8)
      have K8_3 := Lib.hid (K7_3.out.on b8)
      have K8_4 := Lib.hid (K7_4.out.on b8)
      have Q8_4 := Lib.hid (Q7_4.out.on K7_4.out.1 b8)
      have K8_5 := Lib.hid (K7_5.out.on b8)
      have Q8_5 := Lib.hid (Q7_5.out.on K7_5.out.1 b8)
      have B8 := Lib.hid (below_on B7.out b8)
      clear b8 s7_0 c7_0 d7_0 s7_1 c7_1 d7_1 s7_2 c7_2 d7_2 s7_3 c7_3 d7_3 s7_4 c7_4 d7_4 s7_5 c7_5 d7_5 fa7_4 fb7_4 fa7_5 fb7_5
      obtain ⟨s8_0, c8_0, d8_0⟩ := K8_0.out
      obtain ⟨s8_1, c8_1, d8_1⟩ := K8_1.out
      obtain ⟨s8_2, c8_2, d8_2⟩ := K8_2.out
      obtain ⟨s8_3, c8_3, d8_3⟩ := K8_3.out
      obtain ⟨s8_4, c8_4, d8_4⟩ := K8_4.out
      obtain ⟨s8_5, c8_5, d8_5⟩ := K8_5.out
      obtain ⟨fa8_4, fb8_4⟩ := Q8_4.out
      obtain ⟨fa8_5, fb8_5⟩ := Q8_5.out
      have ua0 : ¬ w5.heap.size = w.heap.size := by have := N4.out; omega
      have ub0 : ¬ w.heap.size = w5.heap.size := by have := N4.out; omega
      have ua1 : ¬ w5.heap.size = w.heap.size + 1 := by have := N4.out; omega
      have ub1 : ¬ w.heap.size + 1 = w5.heap.size := by have := N4.out; omega
      have ua2 : ¬ w5.heap.size = w.heap.size + 1 + 1 := by have := N4.out; omega
      have ub2 : ¬ w.heap.size + 1 + 1 = w5.heap.size := by have := N4.out; omega
      have ua3 : ¬ w5.heap.size = w4.heap.size := by have := N4.out; omega
      have ub3 : ¬ w4.heap.size = w5.heap.size := by have := N4.out; omega
      have ua5 : ¬ w5.heap.size = w6.heap.size := by have := N5.out; omega
      have ub5 : ¬ w6.heap.size = w5.heap.size := by have := N5.out; omega
      go_wp2_with fail
      clear ua0 ub0 ua1 ub1 ua2 ub2 ua3 ub3 ua5 ub5
      (with_reducible refine ((D8 _).out).mono ?_)
      rintro e w9 ⟨rfl, b9⟩
      have K9_0 := Lib.hid ((K8_0.out.far (by have := N4.out; omega)).on b9)
      have K9_1 := Lib.hid ((K8_1.out.far (by have := N4.out; omega)).on b9)
      have K9_2 := Lib.hid ((K8_2.out.far (by have := N4.out; omega)).on b9)
      have K9_3 := Lib.hid ((K8_3.out.far (by have := N4.out; omega)).on b9)
      have K9_4 := Lib.hid ((K8_4.out.set).on b9)
      have Q9_4 := Lib.hid ((Q8_4.out.set).on (by simpa using K8_4.out.1) b9)
      have K9_5 := Lib.hid ((K8_5.out.far (by have := N5.out; omega)).on b9)
      have Q9_5 := Lib.hid ((Q8_5.out.set).on (by simpa using K8_5.out.1) b9)
      have B9 := Lib.hid (below_on ((B8.out.setCell (by have := N4.out; simp; omega) _).setCell (by have := N4.out; simp; omega) _) b9)
      clear b9 s8_0 c8_0 d8_0 s8_1 c8_1 d8_1 s8_2 c8_2 d8_2 s8_3 c8_3 d8_3 s8_4 c8_4 d8_4 s8_5 c8_5 d8_5 fa8_4 fb8_4 fa8_5 fb8_5
      obtain ⟨s9_0, c9_0, d9_0⟩ := K9_0.out
      obtain ⟨s9_1, c9_1, d9_1⟩ := K9_1.out
      obtain ⟨s9_2, c9_2, d9_2⟩ := K9_2.out
      obtain ⟨s9_3, c9_3, d9_3⟩ := K9_3.out
      obtain ⟨s9_4, c9_4, d9_4⟩ := K9_4.out
      obtain ⟨s9_5, c9_5, d9_5⟩ := K9_5.out
      obtain ⟨fa9_4, fb9_4⟩ := Q9_4.out
      obtain ⟨fa9_5, fb9_5⟩ := Q9_5.out
      have ua0 : ¬ w6.heap.size = w.heap.size := by have := N5.out; omega
      have ub0 : ¬ w.heap.size = w6.heap.size := by have := N5.out; omega
      have ua1 : ¬ w6.heap.size = w.heap.size + 1 := by have := N5.out; omega
      have ub1 : ¬ w.heap.size + 1 = w6.heap.size := by have := N5.out; omega
      have ua2 : ¬ w6.heap.size = w.heap.size + 1 + 1 := by have := N5.out; omega
      have ub2 : ¬ w.heap.size + 1 + 1 = w6.heap.size := by have := N5.out; omega
      have ua3 : ¬ w6.heap.size = w4.heap.size := by have := N5.out; omega
      have ub3 : ¬ w4.heap.size = w6.heap.size := by have := N5.out; omega
      have ua4 : ¬ w6.heap.size = w5.heap.size := by have := N5.out; omega
      have ub4 : ¬ w5.heap.size = w6.heap.size := by have := N5.out; omega
      go_wp2
      go_ret
      exact ⟨rfl, (B9.out.setCell (by have := N5.out; simp; omega) _).setCell (by have := N5.out; simp; omega) _⟩

set_option maxRecDepth 100000 in
set_option maxHeartbeats 4000000 in
theorem order_oo_pos (an ad bn bd cn cd : Int) (w : World) (an0 : -9223372036854775808 ≤ an) (an1 : an ≤ 9223372036854775807) (ad0 : -9223372036854775808 ≤ ad) (ad1 : ad ≤ 9223372036854775807) (bn0 : -9223372036854775808 ≤ bn) (bn1 : bn ≤ 9223372036854775807) (bd0 : -9223372036854775808 ≤ bd) (bd1 : bd ≤ 9223372036854775807) (cn0 : -9223372036854775808 ≤ cn) (cn1 : cn ≤ 9223372036854775807) (cd0 : -9223372036854775808 ≤ cd) (cd1 : cd ≤ 9223372036854775807) (hT : Hid (Pow10 w.heap.size w)) (k dn dd de xn xd xe yn yd ye un ud ue vn vd ve : Int) (hk : cmpT an ad bn bd = (k, 0)) (hl : cmpT bn bd an ad = (-k, 0)) (k0 : -1 ≤ k) (k1 : k ≤ 1) (hz : (k = 0 ∧ an = bn ∧ ad = bd) ∨ (k ≠ 0 ∧ an ≠ bn) ∨ (k ≠ 0 ∧ an = bn ∧ ad ≠ bd)) (hd : subT an ad bn bd = (dn, dd, de)) (hd2 : (de = 0 ∧ (0 < dn ↔ 0 < k) ∧ (dn < 0 ↔ k < 0)) ∨ de ≠ 0) (hx : addT an ad cn cd = (xn, xd, xe)) (zx : xe = 0) (vx : Vld xn xd) (hy : addT bn bd cn cd = (yn, yd, ye)) (zy : ye = 0) (vy : Vld yn yd) (hu : mulT an ad cn cd = (un, ud, ue)) (zu : ue = 0) (vu : Vld un ud) (hv : mulT bn bd cn cd = (vn, vd, ve)) (zv : ve = 0) (vv : Vld vn vd) (hc : cmpT xn xd yn yd = (k, 0)) (hm : cmpT un ud vn vd = (k, 0)) (zc : 0 < cn) :
    Calls Tryd.prog 8 #[.agg #[.int .i64 an, .int .i64 ad], .agg #[.int .i64 bn, .int .i64 bd], .agg #[.int .i64 cn, .int .i64 cd]] w fun e w' => e = .returned (.bool true) ∧ Below w.heap.size w w' := by
  have xb1 := vx.d1; have xb2 := vx.d2; have xb3 := vx.n1; have xb4 := vx.n2
  have yb1 := vy.d1; have yb2 := vy.d2; have yb3 := vy.n1; have yb4 := vy.n2
  have ub1 := vu.d1; have ub2 := vu.d2; have ub3 := vu.n1; have ub4 := vu.n2
  have vb1 := vv.d1; have vb2 := vv.d2; have vb3 := vv.n1; have vb4 := vv.n2
  have D1 := fun w => Lib.hid (Cmp_any an ad bn bd w (by omega) (by omega) (by omega) (by omega) (by omega) (by omega) (by omega) (by omega) k 0 hk)
  have D2 := fun w => Lib.hid (Cmp_any bn bd an ad w (by omega) (by omega) (by omega) (by omega) (by omega) (by omega) (by omega) (by omega) (-k) 0 hl)
  have D3 := fun w => Lib.hid (Sub_any an ad bn bd w (by omega) (by omega) (by omega) (by omega) (by omega) (by omega) (by omega) (by omega) dn dd de hd)
  have D4 := fun w => Lib.hid (Add_any an ad cn cd w (by omega) (by omega) (by omega) (by omega) (by omega) (by omega) (by omega) (by omega) xn xd xe hx)
  have D5 := fun w => Lib.hid (Add_any bn bd cn cd w (by omega) (by omega) (by omega) (by omega) (by omega) (by omega) (by omega) (by omega) yn yd ye hy)
  have D7 := fun w => Lib.hid (Mul_any an ad cn cd w (by omega) (by omega) (by omega) (by omega) (by omega) (by omega) (by omega) (by omega) un ud ue hu)
  have D8 := fun w => Lib.hid (Mul_any bn bd cn cd w (by omega) (by omega) (by omega) (by omega) (by omega) (by omega) (by omega) (by omega) vn vd ve hv)
  have D6 := fun w => Lib.hid (Cmp_any xn xd yn yd w (by omega) (by omega) (by omega) (by omega) (by omega) (by omega) (by omega) (by omega) k 0 hc)
  have D9 := fun w => Lib.hid (Cmp_any un ud vn vd w (by omega) (by omega) (by omega) (by omega) (by omega) (by omega) (by omega) (by omega) (k) 0 hm)
  subst zx
  subst zy
  subst zu
  subst zv
  clear hk hl hd hx hy hu hv hc hm xb1 xb2 xb3 xb4 vx yb1 yb2 yb3 yb4 vy ub1 ub2 ub3 ub4 vu vb1 vb2 vb3 vb4 vv an0 an1 ad0 ad1 bn0 bn1 bd0 bd1 cn0 cn1 cd0 cd1
  have HZ := Lib.hid hz
  have HD := Lib.hid hd2
  have ZC := Lib.hid zc
  clear hz hd2 zc
  go_enter Tryd.func8, Tryd.ntmps8
  go_wp2_with fail
  have A0 : Below w.heap.size w (((w.alloc (Obj.cells #[Value.int IntKind.i64 an, Value.int IntKind.i64 ad] 23)).alloc (Obj.cells #[Value.int IntKind.i64 bn, Value.int IntKind.i64 bd] 23)).alloc (Obj.cells #[Value.int IntKind.i64 cn, Value.int IntKind.i64 cd] 23)) := (by repeat' (first | (with_reducible exact Below.refl _ _) | (with_reducible assumption) | (with_reducible refine Below.alloc ?_ ?_ _) | (with_reducible refine below_drew ?_ _) | (with_reducible refine Below.drew ?_) | (with_reducible refine Below.setCell ?_ ?_ _) | go_size))
  (with_reducible refine ((awake_any _ (Lib.hid (pow_on hT.out A0))).mono ?_))
  rintro e w1 ⟨rfl, b1⟩
  have B1 := Lib.hid (below_on A0 b1)
  have K1_0 := Lib.hid (Blk.on (W := (((w.alloc (Obj.cells #[Value.int IntKind.i64 an, Value.int IntKind.i64 ad] 23)).alloc (Obj.cells #[Value.int IntKind.i64 bn, Value.int IntKind.i64 bd] 23)).alloc (Obj.cells #[Value.int IntKind.i64 cn, Value.int IntKind.i64 cd] 23))) (((Blk.new w _ _ _).alloc _).alloc _) b1)
  have K1_1 := Lib.hid (Blk.on (W := (((w.alloc (Obj.cells #[Value.int IntKind.i64 an, Value.int IntKind.i64 ad] 23)).alloc (Obj.cells #[Value.int IntKind.i64 bn, Value.int IntKind.i64 bd] 23)).alloc (Obj.cells #[Value.int IntKind.i64 cn, Value.int IntKind.i64 cd] 23))) ((Blk.new1 w _ _ _ _).alloc _) b1)
  have K1_2 := Lib.hid (Blk.on (W := (((w.alloc (Obj.cells #[Value.int IntKind.i64 an, Value.int IntKind.i64 ad] 23)).alloc (Obj.cells #[Value.int IntKind.i64 bn, Value.int IntKind.i64 bd] 23)).alloc (Obj.cells #[Value.int IntKind.i64 cn, Value.int IntKind.i64 cd] 23))) (Blk.new2 w _ _ _ _ _) b1)
  clear b1 A0
  obtain ⟨s1_0, c1_0, d1_0⟩ := K1_0.out
  obtain ⟨s1_1, c1_1, d1_1⟩ := K1_1.out
  obtain ⟨s1_2, c1_2, d1_2⟩ := K1_2.out
  go_wp2_with fail
  (with_reducible refine ((D1 _).out).mono ?_)
  rintro e w2 ⟨rfl, b2⟩
  have K2_0 := Lib.hid (K1_0.out.on b2)
  have K2_1 := Lib.hid (K1_1.out.on b2)
  have K2_2 := Lib.hid (K1_2.out.on b2)
  have B2 := Lib.hid (below_on B1.out b2)
  clear b2 s1_0 c1_0 d1_0 s1_1 c1_1 d1_1 s1_2 c1_2 d1_2 
  obtain ⟨s2_0, c2_0, d2_0⟩ := K2_0.out
  obtain ⟨s2_1, c2_1, d2_1⟩ := K2_1.out
  obtain ⟨s2_2, c2_2, d2_2⟩ := K2_2.out
  go_wp2_with fail
  (with_reducible refine ((D2 _).out).mono ?_)
  rintro e w3 ⟨rfl, b3⟩
  have K3_0 := Lib.hid (K2_0.out.on b3)
  have K3_1 := Lib.hid (K2_1.out.on b3)
  have K3_2 := Lib.hid (K2_2.out.on b3)
  have B3 := Lib.hid (below_on B2.out b3)
  clear b3 s2_0 c2_0 d2_0 s2_1 c2_1 d2_1 s2_2 c2_2 d2_2 
  obtain ⟨s3_0, c3_0, d3_0⟩ := K3_0.out
  obtain ⟨s3_1, c3_1, d3_1⟩ := K3_1.out
  obtain ⟨s3_2, c3_2, d3_2⟩ := K3_2.out
  go_upto_region 7 with fail
  go_cut [64] (fun s64 wx => s64 = .bool false ∧ w3 = wx)
  case first =>
    rcases HZ.out with ⟨rfl, rfl, rfl⟩ | ⟨g1, g2⟩ | ⟨g1, rfl, g2⟩
    · go_wp2_with fail
      go_meet
      exact ⟨rfl, rfl⟩
    · have g3 : (k == 0) = false := by simpa using g1
      go_wp2_with fail
      go_meet
      exact ⟨rfl, rfl⟩
    · have g3 : (k == 0) = false := by simpa using g1
      go_wp2_with fail
      go_meet
      exact ⟨rfl, rfl⟩
  case rest =>
    obtain ⟨rfl, rfl⟩ := hcut
    go_wp2_with fail
    (with_reducible refine ((D3 _).out).mono ?_)
    rintro e w4 ⟨rfl, b4⟩
    have K4_0 := Lib.hid (K3_0.out.on b4)
    have K4_1 := Lib.hid (K3_1.out.on b4)
    have K4_2 := Lib.hid (K3_2.out.on b4)
    have B4 := Lib.hid (below_on B3.out b4)
    clear b4 s3_0 c3_0 d3_0 s3_1 c3_1 d3_1 s3_2 c3_2 d3_2 
    obtain ⟨s4_0, c4_0, d4_0⟩ := K4_0.out
    obtain ⟨s4_1, c4_1, d4_1⟩ := K4_1.out
    obtain ⟨s4_2, c4_2, d4_2⟩ := K4_2.out
    have N3 : Hid (w.heap.size ≤ w4.heap.size ∧ w.heap.size < w4.heap.size ∧ w.heap.size + 1 < w4.heap.size ∧ w.heap.size + 1 + 1 < w4.heap.size) := ⟨B4.out.size, K4_0.out.1, K4_1.out.1, K4_2.out.1⟩
    go_upto_region 10 with fail
    go_cut [88] (fun s88 wx => s88 = .bool false ∧ w4.alloc (Obj.cells #[Value.int IntKind.i64 dn, Value.int IntKind.i64 dd] 23) = wx)
    case first =>
      rcases HD.out with ⟨rfl, g1, g2⟩ | g0
      · rcases Int.lt_trichotomy k 0 with g | g | g
        · have e1 : decide (0 < dn) = false := by simp; omega
          have e2 : decide (0 < k) = false := by simp; omega
          have e3 : decide (dn < 0) = true := by simp; omega
          have e4 : decide (k < 0) = true := by simp; omega
          go_wp2_with fail
          go_meet
          exact ⟨rfl, rfl⟩
        · have e1 : decide (0 < dn) = false := by simp; omega
          have e2 : decide (0 < k) = false := by simp; omega
          have e3 : decide (dn < 0) = false := by simp; omega
          have e4 : decide (k < 0) = false := by simp; omega
          clear g
          go_wp2_with fail
          go_meet
          exact ⟨rfl, rfl⟩
        · have e1 : decide (0 < dn) = true := by simp; omega
          have e2 : decide (0 < k) = true := by simp; omega
          have e3 : decide (dn < 0) = false := by simp; omega
          have e4 : decide (k < 0) = false := by simp; omega
          go_wp2_with fail
          go_meet
          exact ⟨rfl, rfl⟩
      · have g1 : (de == 0) = false := by simpa using g0
        have g2 : (de != 0) = true := by simpa using g0
        go_wp2_with fail
        go_meet
        exact ⟨rfl, rfl⟩
    case rest =>
      obtain ⟨rfl, rfl⟩ := hcut
      go_wp2_with fail
      (with_reducible refine ((D4 _).out).mono ?_)
      rintro e w5 ⟨rfl, b5⟩
      have K5_0 := Lib.hid ((K4_0.out.alloc _).on b5)
      have K5_1 := Lib.hid ((K4_1.out.alloc _).on b5)
      have K5_2 := Lib.hid ((K4_2.out.alloc _).on b5)
      have K5_3 := Lib.hid ((Blk.new w4 _ _ _).on b5)
      have B5 := Lib.hid (below_on (B4.out.alloc B4.out.size _) b5)
      clear b5 s4_0 c4_0 d4_0 s4_1 c4_1 d4_1 s4_2 c4_2 d4_2 
      obtain ⟨s5_0, c5_0, d5_0⟩ := K5_0.out
      obtain ⟨s5_1, c5_1, d5_1⟩ := K5_1.out
      obtain ⟨s5_2, c5_2, d5_2⟩ := K5_2.out
      obtain ⟨s5_3, c5_3, d5_3⟩ := K5_3.out
      have N4 : Hid (w.heap.size ≤ w5.heap.size ∧ w.heap.size < w5.heap.size ∧ w.heap.size + 1 < w5.heap.size ∧ w.heap.size + 1 + 1 < w5.heap.size ∧ w4.heap.size < w5.heap.size) := ⟨B5.out.size, K5_0.out.1, K5_1.out.1, K5_2.out.1, K5_3.out.1⟩
      go_wp2_with fail
      (with_reducible refine ((D5 _).out).mono ?_)
      rintro e w6 ⟨rfl, b6⟩
      have K6_0 := Lib.hid ((K5_0.out.alloc _).on b6)
      have K6_1 := Lib.hid ((K5_1.out.alloc _).on b6)
      have K6_2 := Lib.hid ((K5_2.out.alloc _).on b6)
      have K6_3 := Lib.hid ((K5_3.out.alloc _).on b6)
      have K6_4 := Lib.hid ((Blk.new w5 _ _ _).on b6)
      have Q6_4 := Lib.hid ((Frz.new w5 _ _ _).on (by simp) b6)
      have B6 := Lib.hid (below_on (B5.out.alloc B5.out.size _) b6)
      clear b6 s5_0 c5_0 d5_0 s5_1 c5_1 d5_1 s5_2 c5_2 d5_2 s5_3 c5_3 d5_3 
      obtain ⟨s6_0, c6_0, d6_0⟩ := K6_0.out
      obtain ⟨s6_1, c6_1, d6_1⟩ := K6_1.out
      obtain ⟨s6_2, c6_2, d6_2⟩ := K6_2.out
      obtain ⟨s6_3, c6_3, d6_3⟩ := K6_3.out
      obtain ⟨s6_4, c6_4, d6_4⟩ := K6_4.out
      obtain ⟨fa6_4, fb6_4⟩ := Q6_4.out
      have N5 : Hid (w.heap.size ≤ w6.heap.size ∧ w.heap.size < w6.heap.size ∧ w.heap.size + 1 < w6.heap.size ∧ w.heap.size + 1 + 1 < w6.heap.size ∧ w4.heap.size < w6.heap.size ∧ w5.heap.size < w6.heap.size) := ⟨B6.out.size, K6_0.out.1, K6_1.out.1, K6_2.out.1, K6_3.out.1, K6_4.out.1⟩
      go_wp2_with fail
      (with_reducible refine ((D6 _).out).mono ?_)
      rintro e w7 ⟨rfl, b7⟩
      have K7_0 := Lib.hid ((K6_0.out.alloc _).on b7)
      have K7_1 := Lib.hid ((K6_1.out.alloc _).on b7)
      have K7_2 := Lib.hid ((K6_2.out.alloc _).on b7)
      have K7_3 := Lib.hid ((K6_3.out.alloc _).on b7)
      have K7_4 := Lib.hid ((K6_4.out.alloc _).on b7)
      have Q7_4 := Lib.hid ((Q6_4.out.alloc K6_4.out.1 _).on (K6_4.out.alloc _).1 b7)
      have K7_5 := Lib.hid ((Blk.new w6 _ _ _).on b7)
      have Q7_5 := Lib.hid ((Frz.new w6 _ _ _).on (by simp) b7)
      have B7 := Lib.hid (below_on (B6.out.alloc B6.out.size _) b7)
      clear b7 s6_0 c6_0 d6_0 s6_1 c6_1 d6_1 s6_2 c6_2 d6_2 s6_3 c6_3 d6_3 s6_4 c6_4 d6_4 fa6_4 fb6_4
      obtain ⟨s7_0, c7_0, d7_0⟩ := K7_0.out
      obtain ⟨s7_1, c7_1, d7_1⟩ := K7_1.out
      obtain ⟨s7_2, c7_2, d7_2⟩ := K7_2.out
      obtain ⟨s7_3, c7_3, d7_3⟩ := K7_3.out
      obtain ⟨s7_4, c7_4, d7_4⟩ := K7_4.out
      obtain ⟨s7_5, c7_5, d7_5⟩ := K7_5.out
      obtain ⟨fa7_4, fb7_4⟩ := Q7_4.out
      obtain ⟨fa7_5, fb7_5⟩ := Q7_5.out
      go_wp2_with fail
      (with_reducible refine ((D7 _).out).mono ?_)
      rintro e w8 ⟨rfl, b8⟩
      have K8_0 := Lib.hid (K7_0.out.on b8)
      have K8_1 := Lib.hid (K7_1.out.on b8)
      have K8_2 := Lib.hid (K7_2.out.on b8)
      have K8_3 := Lib.hid (K7_3.out.on b8)
      have K8_4 := Lib.hid (K7_4.out.on b8)
      have Q8_4 := Lib.hid (Q7_4.out.on K7_4.out.1 b8)
      have K8_5 := Lib.hid (K7_5.out.on b8)
      have Q8_5 := Lib.hid (Q7_5.out.on K7_5.out.1 b8)
      have B8 := Lib.hid (below_on B7.out b8)
      clear b8 s7_0 c7_0 d7_0 s7_1 c7_1 d7_1 s7_2 c7_2 d7_2 s7_3 c7_3 d7_3 s7_4 c7_4 d7_4 s7_5 c7_5 d7_5 fa7_4 fb7_4 fa7_5 fb7_5
      obtain ⟨s8_0, c8_0, d8_0⟩ := K8_0.out
      obtain ⟨s8_1, c8_1, d8_1⟩ := K8_1.out
      obtain ⟨s8_2, c8_2, d8_2⟩ := K8_2.out
      obtain ⟨s8_3, c8_3, d8_3⟩ := K8_3.out
      obtain ⟨s8_4, c8_4, d8_4⟩ := K8_4.out
      obtain ⟨s8_5, c8_5, d8_5⟩ := K8_5.out
      obtain ⟨fa8_4, fb8_4⟩ := Q8_4.out
      obtain ⟨fa8_5, fb8_5⟩ := Q8_5.out
      have ua0 : ¬ w5.heap.size = w.heap.size := by have := N4.out; omega
      have ub0 : ¬ w.heap.size = w5.heap.size := by have := N4.out; omega
      have ua1 : ¬ w5.heap.size = w.heap.size + 1 := by have := N4.out; omega
      have ub1 : ¬ w.heap.size + 1 = w5.heap.size := by have := N4.out; omega
      have ua2 : ¬ w5.heap.size = w.heap.size + 1 + 1 := by have := N4.out; omega
      have ub2 : ¬ w.heap.size + 1 + 1 = w5.heap.size := by have := N4.out; omega
      have ua3 : ¬ w5.heap.size = w4.heap.size := by have := N4.out; omega
      have ub3 : ¬ w4.heap.size = w5.heap.size := by have := N4.out; omega
      have ua5 : ¬ w5.heap.size = w6.heap.size := by have := N5.out; omega
      have ub5 : ¬ w6.heap.size = w5.heap.size := by have := N5.out; omega
      go_wp2_with fail
      clear ua0 ub0 ua1 ub1 ua2 ub2 ua3 ub3 ua5 ub5
      (with_reducible refine ((D8 _).out).mono ?_)
      rintro e w9 ⟨rfl, b9⟩
      have K9_0 := Lib.hid ((K8_0.out.far (by have := N4.out; omega)).on b9)
      have K9_1 := Lib.hid ((K8_1.out.far (by have := N4.out; omega)).on b9)
      have K9_2 := Lib.hid ((K8_2.out.far (by have := N4.out; omega)).on b9)
      have K9_3 := Lib.hid ((K8_3.out.far (by have := N4.out; omega)).on b9)
      have K9_4 := Lib.hid ((K8_4.out.set).on b9)
      have Q9_4 := Lib.hid ((Q8_4.out.set).on (by simpa using K8_4.out.1) b9)
      have K9_5 := Lib.hid ((K8_5.out.far (by have := N5.out; omega)).on b9)
      have Q9_5 := Lib.hid ((Q8_5.out.set).on (by simpa using K8_5.out.1) b9)
      have B9 := Lib.hid (below_on ((B8.out.setCell (by have := N4.out; simp; omega) _).setCell (by have := N4.out; simp; omega) _) b9)
      clear b9 s8_0 c8_0 d8_0 s8_1 c8_1 d8_1 s8_2 c8_2 d8_2 s8_3 c8_3 d8_3 s8_4 c8_4 d8_4 s8_5 c8_5 d8_5 fa8_4 fb8_4 fa8_5 fb8_5
      obtain ⟨s9_0, c9_0, d9_0⟩ := K9_0.out
      obtain ⟨s9_1, c9_1, d9_1⟩ := K9_1.out
      obtain ⟨s9_2, c9_2, d9_2⟩ := K9_2.out
      obtain ⟨s9_3, c9_3, d9_3⟩ := K9_3.out
      obtain ⟨s9_4, c9_4, d9_4⟩ := K9_4.out
      obtain ⟨s9_5, c9_5, d9_5⟩ := K9_5.out
      obtain ⟨fa9_4, fb9_4⟩ := Q9_4.out
      obtain ⟨fa9_5, fb9_5⟩ := Q9_5.out
      have ua0 : ¬ w6.heap.size = w.heap.size := by have := N5.out; omega
      have ub0 : ¬ w.heap.size = w6.heap.size := by have := N5.out; omega
      have ua1 : ¬ w6.heap.size = w.heap.size + 1 := by have := N5.out; omega
      have ub1 : ¬ w.heap.size + 1 = w6.heap.size := by have := N5.out; omega
      have ua2 : ¬ w6.heap.size = w.heap.size + 1 + 1 := by have := N5.out; omega
      have ub2 : ¬ w.heap.size + 1 + 1 = w6.heap.size := by have := N5.out; omega
      have ua3 : ¬ w6.heap.size = w4.heap.size := by have := N5.out; omega
      have ub3 : ¬ w4.heap.size = w6.heap.size := by have := N5.out; omega
      have ua4 : ¬ w6.heap.size = w5.heap.size := by have := N5.out; omega
      have ub4 : ¬ w5.heap.size = w6.heap.size := by have := N5.out; omega
      go_wp2_with fail
      clear ua0 ub0 ua1 ub1 ua2 ub2 ua3 ub3 ua4 ub4
      (with_reducible refine ((D9 _).out).mono ?_)
      rintro e w10 ⟨rfl, b10⟩
      have K10_0 := Lib.hid ((K9_0.out.far (by have := N5.out; omega)).on b10)
      have K10_1 := Lib.hid ((K9_1.out.far (by have := N5.out; omega)).on b10)
      have K10_2 := Lib.hid ((K9_2.out.far (by have := N5.out; omega)).on b10)
      have K10_3 := Lib.hid ((K9_3.out.far (by have := N5.out; omega)).on b10)
      have K10_4 := Lib.hid ((K9_4.out.far (by have := N5.out; omega)).on b10)
      have Q10_4 := Lib.hid ((Q9_4.out.set).on (by simpa using K9_4.out.1) b10)
      have K10_5 := Lib.hid ((K9_5.out.set).on b10)
      have Q10_5 := Lib.hid ((Q9_5.out.set).on (by simpa using K9_5.out.1) b10)
      have B10 := Lib.hid (below_on ((B9.out.setCell (by have := N5.out; simp; omega) _).setCell (by have := N5.out; simp; omega) _) b10)
      clear b10 s9_0 c9_0 d9_0 s9_1 c9_1 d9_1 s9_2 c9_2 d9_2 s9_3 c9_3 d9_3 s9_4 c9_4 d9_4 s9_5 c9_5 d9_5 fa9_4 fb9_4 fa9_5 fb9_5
      obtain ⟨s10_0, c10_0, d10_0⟩ := K10_0.out
      obtain ⟨s10_1, c10_1, d10_1⟩ := K10_1.out
      obtain ⟨s10_2, c10_2, d10_2⟩ := K10_2.out
      obtain ⟨s10_3, c10_3, d10_3⟩ := K10_3.out
      obtain ⟨s10_4, c10_4, d10_4⟩ := K10_4.out
      obtain ⟨s10_5, c10_5, d10_5⟩ := K10_5.out
      obtain ⟨fa10_4, fb10_4⟩ := Q10_4.out
      obtain ⟨fa10_5, fb10_5⟩ := Q10_5.out
      have zc := ZC.out
      go_wp2
      go_ret
      exact ⟨rfl, B10.out⟩

set_option maxRecDepth 100000 in
set_option maxHeartbeats 4000000 in
theorem order_oo_neg (an ad bn bd cn cd : Int) (w : World) (an0 : -9223372036854775808 ≤ an) (an1 : an ≤ 9223372036854775807) (ad0 : -9223372036854775808 ≤ ad) (ad1 : ad ≤ 9223372036854775807) (bn0 : -9223372036854775808 ≤ bn) (bn1 : bn ≤ 9223372036854775807) (bd0 : -9223372036854775808 ≤ bd) (bd1 : bd ≤ 9223372036854775807) (cn0 : -9223372036854775808 ≤ cn) (cn1 : cn ≤ 9223372036854775807) (cd0 : -9223372036854775808 ≤ cd) (cd1 : cd ≤ 9223372036854775807) (hT : Hid (Pow10 w.heap.size w)) (k dn dd de xn xd xe yn yd ye un ud ue vn vd ve : Int) (hk : cmpT an ad bn bd = (k, 0)) (hl : cmpT bn bd an ad = (-k, 0)) (k0 : -1 ≤ k) (k1 : k ≤ 1) (hz : (k = 0 ∧ an = bn ∧ ad = bd) ∨ (k ≠ 0 ∧ an ≠ bn) ∨ (k ≠ 0 ∧ an = bn ∧ ad ≠ bd)) (hd : subT an ad bn bd = (dn, dd, de)) (hd2 : (de = 0 ∧ (0 < dn ↔ 0 < k) ∧ (dn < 0 ↔ k < 0)) ∨ de ≠ 0) (hx : addT an ad cn cd = (xn, xd, xe)) (zx : xe = 0) (vx : Vld xn xd) (hy : addT bn bd cn cd = (yn, yd, ye)) (zy : ye = 0) (vy : Vld yn yd) (hu : mulT an ad cn cd = (un, ud, ue)) (zu : ue = 0) (vu : Vld un ud) (hv : mulT bn bd cn cd = (vn, vd, ve)) (zv : ve = 0) (vv : Vld vn vd) (hc : cmpT xn xd yn yd = (k, 0)) (hm : cmpT un ud vn vd = (-k, 0)) (zc : cn < 0) :
    Calls Tryd.prog 8 #[.agg #[.int .i64 an, .int .i64 ad], .agg #[.int .i64 bn, .int .i64 bd], .agg #[.int .i64 cn, .int .i64 cd]] w fun e w' => e = .returned (.bool true) ∧ Below w.heap.size w w' := by
  have xb1 := vx.d1; have xb2 := vx.d2; have xb3 := vx.n1; have xb4 := vx.n2
  have yb1 := vy.d1; have yb2 := vy.d2; have yb3 := vy.n1; have yb4 := vy.n2
  have ub1 := vu.d1; have ub2 := vu.d2; have ub3 := vu.n1; have ub4 := vu.n2
  have vb1 := vv.d1; have vb2 := vv.d2; have vb3 := vv.n1; have vb4 := vv.n2
  have D1 := fun w => Lib.hid (Cmp_any an ad bn bd w (by omega) (by omega) (by omega) (by omega) (by omega) (by omega) (by omega) (by omega) k 0 hk)
  have D2 := fun w => Lib.hid (Cmp_any bn bd an ad w (by omega) (by omega) (by omega) (by omega) (by omega) (by omega) (by omega) (by omega) (-k) 0 hl)
  have D3 := fun w => Lib.hid (Sub_any an ad bn bd w (by omega) (by omega) (by omega) (by omega) (by omega) (by omega) (by omega) (by omega) dn dd de hd)
  have D4 := fun w => Lib.hid (Add_any an ad cn cd w (by omega) (by omega) (by omega) (by omega) (by omega) (by omega) (by omega) (by omega) xn xd xe hx)
  have D5 := fun w => Lib.hid (Add_any bn bd cn cd w (by omega) (by omega) (by omega) (by omega) (by omega) (by omega) (by omega) (by omega) yn yd ye hy)
  have D7 := fun w => Lib.hid (Mul_any an ad cn cd w (by omega) (by omega) (by omega) (by omega) (by omega) (by omega) (by omega) (by omega) un ud ue hu)
  have D8 := fun w => Lib.hid (Mul_any bn bd cn cd w (by omega) (by omega) (by omega) (by omega) (by omega) (by omega) (by omega) (by omega) vn vd ve hv)
  have D6 := fun w => Lib.hid (Cmp_any xn xd yn yd w (by omega) (by omega) (by omega) (by omega) (by omega) (by omega) (by omega) (by omega) k 0 hc)
  have D9 := fun w => Lib.hid (Cmp_any un ud vn vd w (by omega) (by omega) (by omega) (by omega) (by omega) (by omega) (by omega) (by omega) (-k) 0 hm)
  subst zx
  subst zy
  subst zu
  subst zv
  clear hk hl hd hx hy hu hv hc hm xb1 xb2 xb3 xb4 vx yb1 yb2 yb3 yb4 vy ub1 ub2 ub3 ub4 vu vb1 vb2 vb3 vb4 vv an0 an1 ad0 ad1 bn0 bn1 bd0 bd1 cn0 cn1 cd0 cd1
  have HZ := Lib.hid hz
  have HD := Lib.hid hd2
  have ZC := Lib.hid zc
  clear hz hd2 zc
  go_enter Tryd.func8, Tryd.ntmps8
  go_wp2_with fail
  have A0 : Below w.heap.size w (((w.alloc (Obj.cells #[Value.int IntKind.i64 an, Value.int IntKind.i64 ad] 23)).alloc (Obj.cells #[Value.int IntKind.i64 bn, Value.int IntKind.i64 bd] 23)).alloc (Obj.cells #[Value.int IntKind.i64 cn, Value.int IntKind.i64 cd] 23)) := (by repeat' (first | (with_reducible exact Below.refl _ _) | (with_reducible assumption) | (with_reducible refine Below.alloc ?_ ?_ _) | (with_reducible refine below_drew ?_ _) | (with_reducible refine Below.drew ?_) | (with_reducible refine Below.setCell ?_ ?_ _) | go_size))
  (with_reducible refine ((awake_any _ (Lib.hid (pow_on hT.out A0))).mono ?_))
  rintro e w1 ⟨rfl, b1⟩
  have B1 := Lib.hid (below_on A0 b1)
  have K1_0 := Lib.hid (Blk.on (W := (((w.alloc (Obj.cells #[Value.int IntKind.i64 an, Value.int IntKind.i64 ad] 23)).alloc (Obj.cells #[Value.int IntKind.i64 bn, Value.int IntKind.i64 bd] 23)).alloc (Obj.cells #[Value.int IntKind.i64 cn, Value.int IntKind.i64 cd] 23))) (((Blk.new w _ _ _).alloc _).alloc _) b1)
  have K1_1 := Lib.hid (Blk.on (W := (((w.alloc (Obj.cells #[Value.int IntKind.i64 an, Value.int IntKind.i64 ad] 23)).alloc (Obj.cells #[Value.int IntKind.i64 bn, Value.int IntKind.i64 bd] 23)).alloc (Obj.cells #[Value.int IntKind.i64 cn, Value.int IntKind.i64 cd] 23))) ((Blk.new1 w _ _ _ _).alloc _) b1)
  have K1_2 := Lib.hid (Blk.on (W := (((w.alloc (Obj.cells #[Value.int IntKind.i64 an, Value.int IntKind.i64 ad] 23)).alloc (Obj.cells #[Value.int IntKind.i64 bn, Value.int IntKind.i64 bd] 23)).alloc (Obj.cells #[Value.int IntKind.i64 cn, Value.int IntKind.i64 cd] 23))) (Blk.new2 w _ _ _ _ _) b1)
  clear b1 A0
  obtain ⟨s1_0, c1_0, d1_0⟩ := K1_0.out
  obtain ⟨s1_1, c1_1, d1_1⟩ := K1_1.out
  obtain ⟨s1_2, c1_2, d1_2⟩ := K1_2.out
  go_wp2_with fail
  (with_reducible refine ((D1 _).out).mono ?_)
  rintro e w2 ⟨rfl, b2⟩
  have K2_0 := Lib.hid (K1_0.out.on b2)
  have K2_1 := Lib.hid (K1_1.out.on b2)
  have K2_2 := Lib.hid (K1_2.out.on b2)
  have B2 := Lib.hid (below_on B1.out b2)
  clear b2 s1_0 c1_0 d1_0 s1_1 c1_1 d1_1 s1_2 c1_2 d1_2 
  obtain ⟨s2_0, c2_0, d2_0⟩ := K2_0.out
  obtain ⟨s2_1, c2_1, d2_1⟩ := K2_1.out
  obtain ⟨s2_2, c2_2, d2_2⟩ := K2_2.out
  go_wp2_with fail
  (with_reducible refine ((D2 _).out).mono ?_)
  rintro e w3 ⟨rfl, b3⟩
  have K3_0 := Lib.hid (K2_0.out.on b3)
  have K3_1 := Lib.hid (K2_1.out.on b3)
  have K3_2 := Lib.hid (K2_2.out.on b3)
  have B3 := Lib.hid (below_on B2.out b3)
  clear b3 s2_0 c2_0 d2_0 s2_1 c2_1 d2_1 s2_2 c2_2 d2_2 
  obtain ⟨s3_0, c3_0, d3_0⟩ := K3_0.out
  obtain ⟨s3_1, c3_1, d3_1⟩ := K3_1.out
  obtain ⟨s3_2, c3_2, d3_2⟩ := K3_2.out
  go_upto_region 7 with fail
  go_cut [64] (fun s64 wx => s64 = .bool false ∧ w3 = wx)
  case first =>
    rcases HZ.out with ⟨rfl, rfl, rfl⟩ | ⟨g1, g2⟩ | ⟨g1, rfl, g2⟩
    · go_wp2_with fail
      go_meet
      exact ⟨rfl, rfl⟩
    · have g3 : (k == 0) = false := by simpa using g1
      go_wp2_with fail
      go_meet
      exact ⟨rfl, rfl⟩
    · have g3 : (k == 0) = false := by simpa using g1
      go_wp2_with fail
      go_meet
      exact ⟨rfl, rfl⟩
  case rest =>
    obtain ⟨rfl, rfl⟩ := hcut
    go_wp2_with fail
    (with_reducible refine ((D3 _).out).mono ?_)
    rintro e w4 ⟨rfl, b4⟩
    have K4_0 := Lib.hid (K3_0.out.on b4)
    have K4_1 := Lib.hid (K3_1.out.on b4)
    have K4_2 := Lib.hid (K3_2.out.on b4)
    have B4 := Lib.hid (below_on B3.out b4)
    clear b4 s3_0 c3_0 d3_0 s3_1 c3_1 d3_1 s3_2 c3_2 d3_2 
    obtain ⟨s4_0, c4_0, d4_0⟩ := K4_0.out
    obtain ⟨s4_1, c4_1, d4_1⟩ := K4_1.out
    obtain ⟨s4_2, c4_2, d4_2⟩ := K4_2.out
    have N3 : Hid (w.heap.size ≤ w4.heap.size ∧ w.heap.size < w4.heap.size ∧ w.heap.size + 1 < w4.heap.size ∧ w.heap.size + 1 + 1 < w4.heap.size) := ⟨B4.out.size, K4_0.out.1, K4_1.out.1, K4_2.out.1⟩
    go_upto_region 10 with fail
    go_cut [88] (fun s88 wx => s88 = .bool false ∧ w4.alloc (Obj.cells #[Value.int IntKind.i64 dn, Value.int IntKind.i64 dd] 23) = wx)
    case first =>
      rcases HD.out with ⟨rfl, g1, g2⟩ | g0
      · rcases Int.lt_trichotomy k 0 with g | g | g
        · have e1 : decide (0 < dn) = false := by simp; omega
          have e2 : decide (0 < k) = false := by simp; omega
          have e3 : decide (dn < 0) = true := by simp; omega
          have e4 : decide (k < 0) = true := by simp; omega
          go_wp2_with fail
          go_meet
          exact ⟨rfl, rfl⟩
        · have e1 : decide (0 < dn) = false := by simp; omega
          have e2 : decide (0 < k) = false := by simp; omega
          have e3 : decide (dn < 0) = false := by simp; omega
          have e4 : decide (k < 0) = false := by simp; omega
          clear g
          go_wp2_with fail
          go_meet
          exact ⟨rfl, rfl⟩
        · have e1 : decide (0 < dn) = true := by simp; omega
          have e2 : decide (0 < k) = true := by simp; omega
          have e3 : decide (dn < 0) = false := by simp; omega
          have e4 : decide (k < 0) = false := by simp; omega
          go_wp2_with fail
          go_meet
          exact ⟨rfl, rfl⟩
      · have g1 : (de == 0) = false := by simpa using g0
        have g2 : (de != 0) = true := by simpa using g0
        go_wp2_with fail
        go_meet
        exact ⟨rfl, rfl⟩
    case rest =>
      obtain ⟨rfl, rfl⟩ := hcut
      go_wp2_with fail
      (with_reducible refine ((D4 _).out).mono ?_)
      rintro e w5 ⟨rfl, b5⟩
      have K5_0 := Lib.hid ((K4_0.out.alloc _).on b5)
      have K5_1 := Lib.hid ((K4_1.out.alloc _).on b5)
      have K5_2 := Lib.hid ((K4_2.out.alloc _).on b5)
      have K5_3 := Lib.hid ((Blk.new w4 _ _ _).on b5)
      have B5 := Lib.hid (below_on (B4.out.alloc B4.out.size _) b5)
      clear b5 s4_0 c4_0 d4_0 s4_1 c4_1 d4_1 s4_2 c4_2 d4_2 
      obtain ⟨s5_0, c5_0, d5_0⟩ := K5_0.out
      obtain ⟨s5_1, c5_1, d5_1⟩ := K5_1.out
      obtain ⟨s5_2, c5_2, d5_2⟩ := K5_2.out
      obtain ⟨s5_3, c5_3, d5_3⟩ := K5_3.out
      have N4 : Hid (w.heap.size ≤ w5.heap.size ∧ w.heap.size < w5.heap.size ∧ w.heap.size + 1 < w5.heap.size ∧ w.heap.size + 1 + 1 < w5.heap.size ∧ w4.heap.size < w5.heap.size) := ⟨B5.out.size, K5_0.out.1, K5_1.out.1, K5_2.out.1, K5_3.out.1⟩
      go_wp2_with fail
      (with_reducible refine ((D5 _).out).mono ?_)
      rintro e w6 ⟨rfl, b6⟩
      have K6_0 := Lib.hid ((K5_0.out.alloc _).on b6)
      have K6_1 := Lib.hid ((K5_1.out.alloc _).on b6)
      have K6_2 := Lib.hid ((K5_2.out.alloc _).on b6)
      have K6_3 := Lib.hid ((K5_3.out.alloc _).on b6)
      have K6_4 := Lib.hid ((Blk.new w5 _ _ _).on b6)
      have Q6_4 := Lib.hid ((Frz.new w5 _ _ _).on (by simp) b6)
      have B6 := Lib.hid (below_on (B5.out.alloc B5.out.size _) b6)
      clear b6 s5_0 c5_0 d5_0 s5_1 c5_1 d5_1 s5_2 c5_2 d5_2 s5_3 c5_3 d5_3 
      obtain ⟨s6_0, c6_0, d6_0⟩ := K6_0.out
      obtain ⟨s6_1, c6_1, d6_1⟩ := K6_1.out
      obtain ⟨s6_2, c6_2, d6_2⟩ := K6_2.out
      obtain ⟨s6_3, c6_3, d6_3⟩ := K6_3.out
      obtain ⟨s6_4, c6_4, d6_4⟩ := K6_4.out
      obtain ⟨fa6_4, fb6_4⟩ := Q6_4.out
      have N5 : Hid (w.heap.size ≤ w6.heap.size ∧ w.heap.size < w6.heap.size ∧ w.heap.size + 1 < w6.heap.size ∧ w.heap.size + 1 + 1 < w6.heap.size ∧ w4.heap.size < w6.heap.size ∧ w5.heap.size < w6.heap.size) := ⟨B6.out.size, K6_0.out.1, K6_1.out.1, K6_2.out.1, K6_3.out.1, K6_4.out.1⟩
      go_wp2_with fail
      (with_reducible refine ((D6 _).out).mono ?_)
      rintro e w7 ⟨rfl, b7⟩
      have K7_0 := Lib.hid ((K6_0.out.alloc _).on b7)
      have K7_1 := Lib.hid ((K6_1.out.alloc _).on b7)
      have K7_2 := Lib.hid ((K6_2.out.alloc _).on b7)
      have K7_3 := Lib.hid ((K6_3.out.alloc _).on b7)
      have K7_4 := Lib.hid ((K6_4.out.alloc _).on b7)
      have Q7_4 := Lib.hid ((Q6_4.out.alloc K6_4.out.1 _).on (K6_4.out.alloc _).1 b7)
      have K7_5 := Lib.hid ((Blk.new w6 _ _ _).on b7)
      have Q7_5 := Lib.hid ((Frz.new w6 _ _ _).on (by simp) b7)
      have B7 := Lib.hid (below_on (B6.out.alloc B6.out.size _) b7)
      clear b7 s6_0 c6_0 d6_0 s6_1 c6_1 d6_1 s6_2 c6_2 d6_2 s6_3 c6_3 d6_3 s6_4 c6_4 d6_4 fa6_4 fb6_4
      obtain ⟨s7_0, c7_0, d7_0⟩ := K7_0.out
      obtain ⟨s7_1, c7_1, d7_1⟩ := K7_1.out
      obtain ⟨s7_2, c7_2, d7_2⟩ := K7_2.out
      obtain ⟨s7_3, c7_3, d7_3⟩ := K7_3.out
      obtain ⟨s7_4, c7_4, d7_4⟩ := K7_4.out
      obtain ⟨s7_5, c7_5, d7_5⟩ := K7_5.out
      obtain ⟨fa7_4, fb7_4⟩ := Q7_4.out
      obtain ⟨fa7_5, fb7_5⟩ := Q7_5.out
      go_wp2_with fail
      (with_reducible refine ((D7 _).out).mono ?_)
      rintro e w8 ⟨rfl, b8⟩
      have K8_0 := Lib.hid (K7_0.out.on b8)
      have K8_1 := Lib.hid (K7_1.out.on b8)
      have K8_2 := Lib.hid (K7_2.out.on b8)
      have K8_3 := Lib.hid (K7_3.out.on b8)
      have K8_4 := Lib.hid (K7_4.out.on b8)
      have Q8_4 := Lib.hid (Q7_4.out.on K7_4.out.1 b8)
      have K8_5 := Lib.hid (K7_5.out.on b8)
      have Q8_5 := Lib.hid (Q7_5.out.on K7_5.out.1 b8)
      have B8 := Lib.hid (below_on B7.out b8)
      clear b8 s7_0 c7_0 d7_0 s7_1 c7_1 d7_1 s7_2 c7_2 d7_2 s7_3 c7_3 d7_3 s7_4 c7_4 d7_4 s7_5 c7_5 d7_5 fa7_4 fb7_4 fa7_5 fb7_5
      obtain ⟨s8_0, c8_0, d8_0⟩ := K8_0.out
      obtain ⟨s8_1, c8_1, d8_1⟩ := K8_1.out
      obtain ⟨s8_2, c8_2, d8_2⟩ := K8_2.out
      obtain ⟨s8_3, c8_3, d8_3⟩ := K8_3.out
      obtain ⟨s8_4, c8_4, d8_4⟩ := K8_4.out
      obtain ⟨s8_5, c8_5, d8_5⟩ := K8_5.out
      obtain ⟨fa8_4, fb8_4⟩ := Q8_4.out
      obtain ⟨fa8_5, fb8_5⟩ := Q8_5.out
      have ua0 : ¬ w5.heap.size = w.heap.size := by have := N4.out; omega
      have ub0 : ¬ w.heap.size = w5.heap.size := by have := N4.out; omega
      have ua1 : ¬ w5.heap.size = w.heap.size + 1 := by have := N4.out; omega
      have ub1 : ¬ w.heap.size + 1 = w5.heap.size := by have := N4.out; omega
      have ua2 : ¬ w5.heap.size = w.heap.size + 1 + 1 := by have := N4.out; omega
      have ub2 : ¬ w.heap.size + 1 + 1 = w5.heap.size := by have := N4.out; omega
      have ua3 : ¬ w5.heap.size = w4.heap.size := by have := N4.out; omega
      have ub3 : ¬ w4.heap.size = w5.heap.size := by have := N4.out; omega
      have ua5 : ¬ w5.heap.size = w6.heap.size := by have := N5.out; omega
      have ub5 : ¬ w6.heap.size = w5.heap.size := by have := N5.out; omega
      go_wp2_with fail
      clear ua0 ub0 ua1 ub1 ua2 ub2 ua3 ub3 ua5 ub5
      (with_reducible refine ((D8 _).out).mono ?_)
      rintro e w9 ⟨rfl, b9⟩
      have K9_0 := Lib.hid ((K8_0.out.far (by have := N4.out; omega)).on b9)
      have K9_1 := Lib.hid ((K8_1.out.far (by have := N4.out; omega)).on b9)
      have K9_2 := Lib.hid ((K8_2.out.far (by have := N4.out; omega)).on b9)
      have K9_3 := Lib.hid ((K8_3.out.far (by have := N4.out; omega)).on b9)
      have K9_4 := Lib.hid ((K8_4.out.set).on b9)
      have Q9_4 := Lib.hid ((Q8_4.out.set).on (by simpa using K8_4.out.1) b9)
      have K9_5 := Lib.hid ((K8_5.out.far (by have := N5.out; omega)).on b9)
      have Q9_5 := Lib.hid ((Q8_5.out.set).on (by simpa using K8_5.out.1) b9)
      have B9 := Lib.hid (below_on ((B8.out.setCell (by have := N4.out; simp; omega) _).setCell (by have := N4.out; simp; omega) _) b9)
      clear b9 s8_0 c8_0 d8_0 s8_1 c8_1 d8_1 s8_2 c8_2 d8_2 s8_3 c8_3 d8_3 s8_4 c8_4 d8_4 s8_5 c8_5 d8_5 fa8_4 fb8_4 fa8_5 fb8_5
      obtain ⟨s9_0, c9_0, d9_0⟩ := K9_0.out
      obtain ⟨s9_1, c9_1, d9_1⟩ := K9_1.out
      obtain ⟨s9_2, c9_2, d9_2⟩ := K9_2.out
      obtain ⟨s9_3, c9_3, d9_3⟩ := K9_3.out
      obtain ⟨s9_4, c9_4, d9_4⟩ := K9_4.out
      obtain ⟨s9_5, c9_5, d9_5⟩ := K9_5.out
      obtain ⟨fa9_4, fb9_4⟩ := Q9_4.out
      obtain ⟨fa9_5, fb9_5⟩ := Q9_5.out
      have ua0 : ¬ w6.heap.size = w.heap.size := by have := N5.out; omega
      have ub0 : ¬ w.heap.size = w6.heap.size := by have := N5.out; omega
      have ua1 : ¬ w6.heap.size = w.heap.size + 1 := by have := N5.out; omega
      have ub1 : ¬ w.heap.size + 1 = w6.heap.size := by have := N5.out; omega
      have ua2 : ¬ w6.heap.size = w.heap.size + 1 + 1 := by have := N5.out; omega
      have ub2 : ¬ w.heap.size + 1 + 1 = w6.heap.size := by have := N5.out; omega
      have ua3 : ¬ w6.heap.size = w4.heap.size := by have := N5.out; omega
      have ub3 : ¬ w4.heap.size = w6.heap.size := by have := N5.out; omega
      have ua4 : ¬ w6.heap.size = w5.heap.size := by have := N5.out; omega
      have ub4 : ¬ w5.heap.size = w6.heap.size := by have := N5.out; omega
      go_wp2_with fail
      clear ua0 ub0 ua1 ub1 ua2 ub2 ua3 ub3 ua4 ub4
      (with_reducible refine ((D9 _).out).mono ?_)
      rintro e w10 ⟨rfl, b10⟩
      have K10_0 := Lib.hid ((K9_0.out.far (by have := N5.out; omega)).on b10)
      have K10_1 := Lib.hid ((K9_1.out.far (by have := N5.out; omega)).on b10)
      have K10_2 := Lib.hid ((K9_2.out.far (by have := N5.out; omega)).on b10)
      have K10_3 := Lib.hid ((K9_3.out.far (by have := N5.out; omega)).on b10)
      have K10_4 := Lib.hid ((K9_4.out.far (by have := N5.out; omega)).on b10)
      have Q10_4 := Lib.hid ((Q9_4.out.set).on (by simpa using K9_4.out.1) b10)
      have K10_5 := Lib.hid ((K9_5.out.set).on b10)
      have Q10_5 := Lib.hid ((Q9_5.out.set).on (by simpa using K9_5.out.1) b10)
      have B10 := Lib.hid (below_on ((B9.out.setCell (by have := N5.out; simp; omega) _).setCell (by have := N5.out; simp; omega) _) b10)
      clear b10 s9_0 c9_0 d9_0 s9_1 c9_1 d9_1 s9_2 c9_2 d9_2 s9_3 c9_3 d9_3 s9_4 c9_4 d9_4 s9_5 c9_5 d9_5 fa9_4 fb9_4 fa9_5 fb9_5
      obtain ⟨s10_0, c10_0, d10_0⟩ := K10_0.out
      obtain ⟨s10_1, c10_1, d10_1⟩ := K10_1.out
      obtain ⟨s10_2, c10_2, d10_2⟩ := K10_2.out
      obtain ⟨s10_3, c10_3, d10_3⟩ := K10_3.out
      obtain ⟨s10_4, c10_4, d10_4⟩ := K10_4.out
      obtain ⟨s10_5, c10_5, d10_5⟩ := K10_5.out
      obtain ⟨fa10_4, fb10_4⟩ := Q10_4.out
      obtain ⟨fa10_5, fb10_5⟩ := Q10_5.out
      have zc := ZC.out
      go_wp2
      go_ret
      exact ⟨rfl, B10.out⟩

set_option maxRecDepth 100000 in
set_option maxHeartbeats 4000000 in
theorem order_oo_zero (an ad bn bd cn cd : Int) (w : World) (an0 : -9223372036854775808 ≤ an) (an1 : an ≤ 9223372036854775807) (ad0 : -9223372036854775808 ≤ ad) (ad1 : ad ≤ 9223372036854775807) (bn0 : -9223372036854775808 ≤ bn) (bn1 : bn ≤ 9223372036854775807) (bd0 : -9223372036854775808 ≤ bd) (bd1 : bd ≤ 9223372036854775807) (cn0 : -9223372036854775808 ≤ cn) (cn1 : cn ≤ 9223372036854775807) (cd0 : -9223372036854775808 ≤ cd) (cd1 : cd ≤ 9223372036854775807) (hT : Hid (Pow10 w.heap.size w)) (k dn dd de xn xd xe yn yd ye un ud ue vn vd ve : Int) (hk : cmpT an ad bn bd = (k, 0)) (hl : cmpT bn bd an ad = (-k, 0)) (k0 : -1 ≤ k) (k1 : k ≤ 1) (hz : (k = 0 ∧ an = bn ∧ ad = bd) ∨ (k ≠ 0 ∧ an ≠ bn) ∨ (k ≠ 0 ∧ an = bn ∧ ad ≠ bd)) (hd : subT an ad bn bd = (dn, dd, de)) (hd2 : (de = 0 ∧ (0 < dn ↔ 0 < k) ∧ (dn < 0 ↔ k < 0)) ∨ de ≠ 0) (hx : addT an ad cn cd = (xn, xd, xe)) (zx : xe = 0) (vx : Vld xn xd) (hy : addT bn bd cn cd = (yn, yd, ye)) (zy : ye = 0) (vy : Vld yn yd) (hu : mulT an ad cn cd = (un, ud, ue)) (zu : ue = 0) (vu : Vld un ud) (hv : mulT bn bd cn cd = (vn, vd, ve)) (zv : ve = 0) (vv : Vld vn vd) (hc : cmpT xn xd yn yd = (k, 0)) (hm : cmpT un ud vn vd = (0, 0)) (zc : cn = 0) :
    Calls Tryd.prog 8 #[.agg #[.int .i64 an, .int .i64 ad], .agg #[.int .i64 bn, .int .i64 bd], .agg #[.int .i64 cn, .int .i64 cd]] w fun e w' => e = .returned (.bool true) ∧ Below w.heap.size w w' := by
  have xb1 := vx.d1; have xb2 := vx.d2; have xb3 := vx.n1; have xb4 := vx.n2
  have yb1 := vy.d1; have yb2 := vy.d2; have yb3 := vy.n1; have yb4 := vy.n2
  have ub1 := vu.d1; have ub2 := vu.d2; have ub3 := vu.n1; have ub4 := vu.n2
  have vb1 := vv.d1; have vb2 := vv.d2; have vb3 := vv.n1; have vb4 := vv.n2
  have D1 := fun w => Lib.hid (Cmp_any an ad bn bd w (by omega) (by omega) (by omega) (by omega) (by omega) (by omega) (by omega) (by omega) k 0 hk)
  have D2 := fun w => Lib.hid (Cmp_any bn bd an ad w (by omega) (by omega) (by omega) (by omega) (by omega) (by omega) (by omega) (by omega) (-k) 0 hl)
  have D3 := fun w => Lib.hid (Sub_any an ad bn bd w (by omega) (by omega) (by omega) (by omega) (by omega) (by omega) (by omega) (by omega) dn dd de hd)
  have D4 := fun w => Lib.hid (Add_any an ad cn cd w (by omega) (by omega) (by omega) (by omega) (by omega) (by omega) (by omega) (by omega) xn xd xe hx)
  have D5 := fun w => Lib.hid (Add_any bn bd cn cd w (by omega) (by omega) (by omega) (by omega) (by omega) (by omega) (by omega) (by omega) yn yd ye hy)
  have D7 := fun w => Lib.hid (Mul_any an ad cn cd w (by omega) (by omega) (by omega) (by omega) (by omega) (by omega) (by omega) (by omega) un ud ue hu)
  have D8 := fun w => Lib.hid (Mul_any bn bd cn cd w (by omega) (by omega) (by omega) (by omega) (by omega) (by omega) (by omega) (by omega) vn vd ve hv)
  have D6 := fun w => Lib.hid (Cmp_any xn xd yn yd w (by omega) (by omega) (by omega) (by omega) (by omega) (by omega) (by omega) (by omega) k 0 hc)
  have D9 := fun w => Lib.hid (Cmp_any un ud vn vd w (by omega) (by omega) (by omega) (by omega) (by omega) (by omega) (by omega) (by omega) (0) 0 hm)
  subst zx
  subst zy
  subst zu
  subst zv
  clear hk hl hd hx hy hu hv hc hm xb1 xb2 xb3 xb4 vx yb1 yb2 yb3 yb4 vy ub1 ub2 ub3 ub4 vu vb1 vb2 vb3 vb4 vv an0 an1 ad0 ad1 bn0 bn1 bd0 bd1 cn0 cn1 cd0 cd1
  have HZ := Lib.hid hz
  have HD := Lib.hid hd2
  subst zc
  clear hz hd2
  go_enter Tryd.func8, Tryd.ntmps8
  go_wp2_with fail
  have A0 : Below w.heap.size w (((w.alloc (Obj.cells #[Value.int IntKind.i64 an, Value.int IntKind.i64 ad] 23)).alloc (Obj.cells #[Value.int IntKind.i64 bn, Value.int IntKind.i64 bd] 23)).alloc (Obj.cells #[Value.int IntKind.i64 0, Value.int IntKind.i64 cd] 23)) := (by repeat' (first | (with_reducible exact Below.refl _ _) | (with_reducible assumption) | (with_reducible refine Below.alloc ?_ ?_ _) | (with_reducible refine below_drew ?_ _) | (with_reducible refine Below.drew ?_) | (with_reducible refine Below.setCell ?_ ?_ _) | go_size))
  (with_reducible refine ((awake_any _ (Lib.hid (pow_on hT.out A0))).mono ?_))
  rintro e w1 ⟨rfl, b1⟩
  have B1 := Lib.hid (below_on A0 b1)
  have K1_0 := Lib.hid (Blk.on (W := (((w.alloc (Obj.cells #[Value.int IntKind.i64 an, Value.int IntKind.i64 ad] 23)).alloc (Obj.cells #[Value.int IntKind.i64 bn, Value.int IntKind.i64 bd] 23)).alloc (Obj.cells #[Value.int IntKind.i64 0, Value.int IntKind.i64 cd] 23))) (((Blk.new w _ _ _).alloc _).alloc _) b1)
  have K1_1 := Lib.hid (Blk.on (W := (((w.alloc (Obj.cells #[Value.int IntKind.i64 an, Value.int IntKind.i64 ad] 23)).alloc (Obj.cells #[Value.int IntKind.i64 bn, Value.int IntKind.i64 bd] 23)).alloc (Obj.cells #[Value.int IntKind.i64 0, Value.int IntKind.i64 cd] 23))) ((Blk.new1 w _ _ _ _).alloc _) b1)
  have K1_2 := Lib.hid (Blk.on (W := (((w.alloc (Obj.cells #[Value.int IntKind.i64 an, Value.int IntKind.i64 ad] 23)).alloc (Obj.cells #[Value.int IntKind.i64 bn, Value.int IntKind.i64 bd] 23)).alloc (Obj.cells #[Value.int IntKind.i64 0, Value.int IntKind.i64 cd] 23))) (Blk.new2 w _ _ _ _ _) b1)
  clear b1 A0
  obtain ⟨s1_0, c1_0, d1_0⟩ := K1_0.out
  obtain ⟨s1_1, c1_1, d1_1⟩ := K1_1.out
  obtain ⟨s1_2, c1_2, d1_2⟩ := K1_2.out
  go_wp2_with fail
  (with_reducible refine ((D1 _).out).mono ?_)
  rintro e w2 ⟨rfl, b2⟩
  have K2_0 := Lib.hid (K1_0.out.on b2)
  have K2_1 := Lib.hid (K1_1.out.on b2)
  have K2_2 := Lib.hid (K1_2.out.on b2)
  have B2 := Lib.hid (below_on B1.out b2)
  clear b2 s1_0 c1_0 d1_0 s1_1 c1_1 d1_1 s1_2 c1_2 d1_2 
  obtain ⟨s2_0, c2_0, d2_0⟩ := K2_0.out
  obtain ⟨s2_1, c2_1, d2_1⟩ := K2_1.out
  obtain ⟨s2_2, c2_2, d2_2⟩ := K2_2.out
  go_wp2_with fail
  (with_reducible refine ((D2 _).out).mono ?_)
  rintro e w3 ⟨rfl, b3⟩
  have K3_0 := Lib.hid (K2_0.out.on b3)
  have K3_1 := Lib.hid (K2_1.out.on b3)
  have K3_2 := Lib.hid (K2_2.out.on b3)
  have B3 := Lib.hid (below_on B2.out b3)
  clear b3 s2_0 c2_0 d2_0 s2_1 c2_1 d2_1 s2_2 c2_2 d2_2 
  obtain ⟨s3_0, c3_0, d3_0⟩ := K3_0.out
  obtain ⟨s3_1, c3_1, d3_1⟩ := K3_1.out
  obtain ⟨s3_2, c3_2, d3_2⟩ := K3_2.out
  go_upto_region 7 with fail
  go_cut [64] (fun s64 wx => s64 = .bool false ∧ w3 = wx)
  case first =>
    rcases HZ.out with ⟨rfl, rfl, rfl⟩ | ⟨g1, g2⟩ | ⟨g1, rfl, g2⟩
    · go_wp2_with fail
      go_meet
      exact ⟨rfl, rfl⟩
    · have g3 : (k == 0) = false := by simpa using g1
      go_wp2_with fail
      go_meet
      exact ⟨rfl, rfl⟩
    · have g3 : (k == 0) = false := by simpa using g1
      go_wp2_with fail
      go_meet
      exact ⟨rfl, rfl⟩
  case rest =>
    obtain ⟨rfl, rfl⟩ := hcut
    go_wp2_with fail
    (with_reducible refine ((D3 _).out).mono ?_)
    rintro e w4 ⟨rfl, b4⟩
    have K4_0 := Lib.hid (K3_0.out.on b4)
    have K4_1 := Lib.hid (K3_1.out.on b4)
    have K4_2 := Lib.hid (K3_2.out.on b4)
    have B4 := Lib.hid (below_on B3.out b4)
    clear b4 s3_0 c3_0 d3_0 s3_1 c3_1 d3_1 s3_2 c3_2 d3_2 
    obtain ⟨s4_0, c4_0, d4_0⟩ := K4_0.out
    obtain ⟨s4_1, c4_1, d4_1⟩ := K4_1.out
    obtain ⟨s4_2, c4_2, d4_2⟩ := K4_2.out
    have N3 : Hid (w.heap.size ≤ w4.heap.size ∧ w.heap.size < w4.heap.size ∧ w.heap.size + 1 < w4.heap.size ∧ w.heap.size + 1 + 1 < w4.heap.size) := ⟨B4.out.size, K4_0.out.1, K4_1.out.1, K4_2.out.1⟩
    go_upto_region 10 with fail
    go_cut [88] (fun s88 wx => s88 = .bool false ∧ w4.alloc (Obj.cells #[Value.int IntKind.i64 dn, Value.int IntKind.i64 dd] 23) = wx)
    case first =>
      rcases HD.out with ⟨rfl, g1, g2⟩ | g0
      · rcases Int.lt_trichotomy k 0 with g | g | g
        · have e1 : decide (0 < dn) = false := by simp; omega
          have e2 : decide (0 < k) = false := by simp; omega
          have e3 : decide (dn < 0) = true := by simp; omega
          have e4 : decide (k < 0) = true := by simp; omega
          go_wp2_with fail
          go_meet
          exact ⟨rfl, rfl⟩
        · have e1 : decide (0 < dn) = false := by simp; omega
          have e2 : decide (0 < k) = false := by simp; omega
          have e3 : decide (dn < 0) = false := by simp; omega
          have e4 : decide (k < 0) = false := by simp; omega
          clear g
          go_wp2_with fail
          go_meet
          exact ⟨rfl, rfl⟩
        · have e1 : decide (0 < dn) = true := by simp; omega
          have e2 : decide (0 < k) = true := by simp; omega
          have e3 : decide (dn < 0) = false := by simp; omega
          have e4 : decide (k < 0) = false := by simp; omega
          go_wp2_with fail
          go_meet
          exact ⟨rfl, rfl⟩
      · have g1 : (de == 0) = false := by simpa using g0
        have g2 : (de != 0) = true := by simpa using g0
        go_wp2_with fail
        go_meet
        exact ⟨rfl, rfl⟩
    case rest =>
      obtain ⟨rfl, rfl⟩ := hcut
      go_wp2_with fail
      (with_reducible refine ((D4 _).out).mono ?_)
      rintro e w5 ⟨rfl, b5⟩
      have K5_0 := Lib.hid ((K4_0.out.alloc _).on b5)
      have K5_1 := Lib.hid ((K4_1.out.alloc _).on b5)
      have K5_2 := Lib.hid ((K4_2.out.alloc _).on b5)
      have K5_3 := Lib.hid ((Blk.new w4 _ _ _).on b5)
      have B5 := Lib.hid (below_on (B4.out.alloc B4.out.size _) b5)
      clear b5 s4_0 c4_0 d4_0 s4_1 c4_1 d4_1 s4_2 c4_2 d4_2 
      obtain ⟨s5_0, c5_0, d5_0⟩ := K5_0.out
      obtain ⟨s5_1, c5_1, d5_1⟩ := K5_1.out
      obtain ⟨s5_2, c5_2, d5_2⟩ := K5_2.out
      obtain ⟨s5_3, c5_3, d5_3⟩ := K5_3.out
      have N4 : Hid (w.heap.size ≤ w5.heap.size ∧ w.heap.size < w5.heap.size ∧ w.heap.size + 1 < w5.heap.size ∧ w.heap.size + 1 + 1 < w5.heap.size ∧ w4.heap.size < w5.heap.size) := ⟨B5.out.size, K5_0.out.1, K5_1.out.1, K5_2.out.1, K5_3.out.1⟩
      go_wp2_with fail
      (with_reducible refine ((D5 _).out).mono ?_)
      rintro e w6 ⟨rfl, b6⟩
      have K6_0 := Lib.hid ((K5_0.out.alloc _).on b6)
      have K6_1 := Lib.hid ((K5_1.out.alloc _).on b6)
      have K6_2 := Lib.hid ((K5_2.out.alloc _).on b6)
      have K6_3 := Lib.hid ((K5_3.out.alloc _).on b6)
      have K6_4 := Lib.hid ((Blk.new w5 _ _ _).on b6)
      have Q6_4 := Lib.hid ((Frz.new w5 _ _ _).on (by simp) b6)
      have B6 := Lib.hid (below_on (B5.out.alloc B5.out.size _) b6)
      clear b6 s5_0 c5_0 d5_0 s5_1 c5_1 d5_1 s5_2 c5_2 d5_2 s5_3 c5_3 d5_3 
      obtain ⟨s6_0, c6_0, d6_0⟩ := K6_0.out
      obtain ⟨s6_1, c6_1, d6_1⟩ := K6_1.out
      obtain ⟨s6_2, c6_2, d6_2⟩ := K6_2.out
      obtain ⟨s6_3, c6_3, d6_3⟩ := K6_3.out
      obtain ⟨s6_4, c6_4, d6_4⟩ := K6_4.out
      obtain ⟨fa6_4, fb6_4⟩ := Q6_4.out
      have N5 : Hid (w.heap.size ≤ w6.heap.size ∧ w.heap.size < w6.heap.size ∧ w.heap.size + 1 < w6.heap.size ∧ w.heap.size + 1 + 1 < w6.heap.size ∧ w4.heap.size < w6.heap.size ∧ w5.heap.size < w6.heap.size) := ⟨B6.out.size, K6_0.out.1, K6_1.out.1, K6_2.out.1, K6_3.out.1, K6_4.out.1⟩
      go_wp2_with fail
      (with_reducible refine ((D6 _).out).mono ?_)
      rintro e w7 ⟨rfl, b7⟩
      have K7_0 := Lib.hid ((K6_0.out.alloc _).on b7)
      have K7_1 := Lib.hid ((K6_1.out.alloc _).on b7)
      have K7_2 := Lib.hid ((K6_2.out.alloc _).on b7)
      have K7_3 := Lib.hid ((K6_3.out.alloc _).on b7)
      have K7_4 := Lib.hid ((K6_4.out.alloc _).on b7)
      have Q7_4 := Lib.hid ((Q6_4.out.alloc K6_4.out.1 _).on (K6_4.out.alloc _).1 b7)
      have K7_5 := Lib.hid ((Blk.new w6 _ _ _).on b7)
      have Q7_5 := Lib.hid ((Frz.new w6 _ _ _).on (by simp) b7)
      have B7 := Lib.hid (below_on (B6.out.alloc B6.out.size _) b7)
      clear b7 s6_0 c6_0 d6_0 s6_1 c6_1 d6_1 s6_2 c6_2 d6_2 s6_3 c6_3 d6_3 s6_4 c6_4 d6_4 fa6_4 fb6_4
      obtain ⟨s7_0, c7_0, d7_0⟩ := K7_0.out
      obtain ⟨s7_1, c7_1, d7_1⟩ := K7_1.out
      obtain ⟨s7_2, c7_2, d7_2⟩ := K7_2.out
      obtain ⟨s7_3, c7_3, d7_3⟩ := K7_3.out
      obtain ⟨s7_4, c7_4, d7_4⟩ := K7_4.out
      obtain ⟨s7_5, c7_5, d7_5⟩ := K7_5.out
      obtain ⟨fa7_4, fb7_4⟩ := Q7_4.out
      obtain ⟨fa7_5, fb7_5⟩ := Q7_5.out
      go_wp2_with fail
      (with_reducible refine ((D7 _).out).mono ?_)
      rintro e w8 ⟨rfl, b8⟩
      have K8_0 := Lib.hid (K7_0.out.on b8)
      have K8_1 := Lib.hid (K7_1.out.on b8)
      have K8_2 := Lib.hid (K7_2.out.on b8)
      have K8_3 := Lib.hid (K7_3.out.on b8)
      have K8_4 := Lib.hid (K7_4.out.on b8)
      have Q8_4 := Lib.hid (Q7_4.out.on K7_4.out.1 b8)
      have K8_5 := Lib.hid (K7_5.out.on b8)
      have Q8_5 := Lib.hid (Q7_5.out.on K7_5.out.1 b8)
      have B8 := Lib.hid (below_on B7.out b8)
      clear b8 s7_0 c7_0 d7_0 s7_1 c7_1 d7_1 s7_2 c7_2 d7_2 s7_3 c7_3 d7_3 s7_4 c7_4 d7_4 s7_5 c7_5 d7_5 fa7_4 fb7_4 fa7_5 fb7_5
      obtain ⟨s8_0, c8_0, d8_0⟩ := K8_0.out
      obtain ⟨s8_1, c8_1, d8_1⟩ := K8_1.out
      obtain ⟨s8_2, c8_2, d8_2⟩ := K8_2.out
      obtain ⟨s8_3, c8_3, d8_3⟩ := K8_3.out
      obtain ⟨s8_4, c8_4, d8_4⟩ := K8_4.out
      obtain ⟨s8_5, c8_5, d8_5⟩ := K8_5.out
      obtain ⟨fa8_4, fb8_4⟩ := Q8_4.out
      obtain ⟨fa8_5, fb8_5⟩ := Q8_5.out
      have ua0 : ¬ w5.heap.size = w.heap.size := by have := N4.out; omega
      have ub0 : ¬ w.heap.size = w5.heap.size := by have := N4.out; omega
      have ua1 : ¬ w5.heap.size = w.heap.size + 1 := by have := N4.out; omega
      have ub1 : ¬ w.heap.size + 1 = w5.heap.size := by have := N4.out; omega
      have ua2 : ¬ w5.heap.size = w.heap.size + 1 + 1 := by have := N4.out; omega
      have ub2 : ¬ w.heap.size + 1 + 1 = w5.heap.size := by have := N4.out; omega
      have ua3 : ¬ w5.heap.size = w4.heap.size := by have := N4.out; omega
      have ub3 : ¬ w4.heap.size = w5.heap.size := by have := N4.out; omega
      have ua5 : ¬ w5.heap.size = w6.heap.size := by have := N5.out; omega
      have ub5 : ¬ w6.heap.size = w5.heap.size := by have := N5.out; omega
      go_wp2_with fail
      clear ua0 ub0 ua1 ub1 ua2 ub2 ua3 ub3 ua5 ub5
      (with_reducible refine ((D8 _).out).mono ?_)
      rintro e w9 ⟨rfl, b9⟩
      have K9_0 := Lib.hid ((K8_0.out.far (by have := N4.out; omega)).on b9)
      have K9_1 := Lib.hid ((K8_1.out.far (by have := N4.out; omega)).on b9)
      have K9_2 := Lib.hid ((K8_2.out.far (by have := N4.out; omega)).on b9)
      have K9_3 := Lib.hid ((K8_3.out.far (by have := N4.out; omega)).on b9)
      have K9_4 := Lib.hid ((K8_4.out.set).on b9)
      have Q9_4 := Lib.hid ((Q8_4.out.set).on (by simpa using K8_4.out.1) b9)
      have K9_5 := Lib.hid ((K8_5.out.far (by have := N5.out; omega)).on b9)
      have Q9_5 := Lib.hid ((Q8_5.out.set).on (by simpa using K8_5.out.1) b9)
      have B9 := Lib.hid (below_on ((B8.out.setCell (by have := N4.out; simp; omega) _).setCell (by have := N4.out; simp; omega) _) b9)
      clear b9 s8_0 c8_0 d8_0 s8_1 c8_1 d8_1 s8_2 c8_2 d8_2 s8_3 c8_3 d8_3 s8_4 c8_4 d8_4 s8_5 c8_5 d8_5 fa8_4 fb8_4 fa8_5 fb8_5
      obtain ⟨s9_0, c9_0, d9_0⟩ := K9_0.out
      obtain ⟨s9_1, c9_1, d9_1⟩ := K9_1.out
      obtain ⟨s9_2, c9_2, d9_2⟩ := K9_2.out
      obtain ⟨s9_3, c9_3, d9_3⟩ := K9_3.out
      obtain ⟨s9_4, c9_4, d9_4⟩ := K9_4.out
      obtain ⟨s9_5, c9_5, d9_5⟩ := K9_5.out
      obtain ⟨fa9_4, fb9_4⟩ := Q9_4.out
      obtain ⟨fa9_5, fb9_5⟩ := Q9_5.out
      have ua0 : ¬ w6.heap.size = w.heap.size := by have := N5.out; omega
      have ub0 : ¬ w.heap.size = w6.heap.size := by have := N5.out; omega
      have ua1 : ¬ w6.heap.size = w.heap.size + 1 := by have := N5.out; omega
      have ub1 : ¬ w.heap.size + 1 = w6.heap.size := by have := N5.out; omega
      have ua2 : ¬ w6.heap.size = w.heap.size + 1 + 1 := by have := N5.out; omega
      have ub2 : ¬ w.heap.size + 1 + 1 = w6.heap.size := by have := N5.out; omega
      have ua3 : ¬ w6.heap.size = w4.heap.size := by have := N5.out; omega
      have ub3 : ¬ w4.heap.size = w6.heap.size := by have := N5.out; omega
      have ua4 : ¬ w6.heap.size = w5.heap.size := by have := N5.out; omega
      have ub4 : ¬ w5.heap.size = w6.heap.size := by have := N5.out; omega
      go_wp2_with fail
      clear ua0 ub0 ua1 ub1 ua2 ub2 ua3 ub3 ua4 ub4
      (with_reducible refine ((D9 _).out).mono ?_)
      rintro e w10 ⟨rfl, b10⟩
      have K10_0 := Lib.hid ((K9_0.out.far (by have := N5.out; omega)).on b10)
      have K10_1 := Lib.hid ((K9_1.out.far (by have := N5.out; omega)).on b10)
      have K10_2 := Lib.hid ((K9_2.out.far (by have := N5.out; omega)).on b10)
      have K10_3 := Lib.hid ((K9_3.out.far (by have := N5.out; omega)).on b10)
      have K10_4 := Lib.hid ((K9_4.out.far (by have := N5.out; omega)).on b10)
      have Q10_4 := Lib.hid ((Q9_4.out.set).on (by simpa using K9_4.out.1) b10)
      have K10_5 := Lib.hid ((K9_5.out.set).on b10)
      have Q10_5 := Lib.hid ((Q9_5.out.set).on (by simpa using K9_5.out.1) b10)
      have B10 := Lib.hid (below_on ((B9.out.setCell (by have := N5.out; simp; omega) _).setCell (by have := N5.out; simp; omega) _) b10)
      clear b10 s9_0 c9_0 d9_0 s9_1 c9_1 d9_1 s9_2 c9_2 d9_2 s9_3 c9_3 d9_3 s9_4 c9_4 d9_4 s9_5 c9_5 d9_5 fa9_4 fb9_4 fa9_5 fb9_5
      obtain ⟨s10_0, c10_0, d10_0⟩ := K10_0.out
      obtain ⟨s10_1, c10_1, d10_1⟩ := K10_1.out
      obtain ⟨s10_2, c10_2, d10_2⟩ := K10_2.out
      obtain ⟨s10_3, c10_3, d10_3⟩ := K10_3.out
      obtain ⟨s10_4, c10_4, d10_4⟩ := K10_4.out
      obtain ⟨s10_5, c10_5, d10_5⟩ := K10_5.out
      obtain ⟨fa10_4, fb10_4⟩ := Q10_4.out
      obtain ⟨fa10_5, fb10_5⟩ := Q10_5.out
      go_wp2
      go_ret
      exact ⟨rfl, B10.out⟩

end Go.Proofs.YtjdgppccjpdhoaaDoor
