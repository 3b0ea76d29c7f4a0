/- The walk of the law RatioFloors. -/
import Derived.Test.YtjdgppccjpdhoaaDoorRLawMath2
namespace Go.Proofs.YtjdgppccjpdhoaaDoor
set_option linter.unusedVariables false
open Go.RowKit Go.Shelf

set_option maxHeartbeats 4000000 in
theorem floors_bad (n d : Int) (w : World) (n0 : -9223372036854775808 ≤ n) (n1 : n ≤ 9223372036854775807) (d0 : -9223372036854775808 ≤ d) (d1 : d ≤ 9223372036854775807) (hT : Hid (Pow10 w.heap.size w)) (hf : floorT n d = (0, 1)) (hc : ceilT n d = (0, 1)) (hv : vB n d = false) :
    Calls Tryd.prog 9 #[.agg #[.int .i64 n, .int .i64 d]] w fun e w' => e = .returned (.bool true) ∧ Below w.heap.size w w' := by
  have F1 := fun w => Lib.hid (Floor_any n d w n0 n1 d0 d1 0 1 hf)
  have F2 := fun w => Lib.hid (Ceil_any n d w n0 n1 d0 d1 0 1 hc)
  have F3 := fun w => Lib.hid (Valid_any n d w n0 n1 d0 d1)
  simp only [hv] at F3
  clear hf hc hv n0 n1 d0 d1
  go_enter Tryd.func9, Tryd.ntmps9
  go_wp2_with fail
  have A0 : Below w.heap.size w (w.alloc (Obj.cells #[Value.int IntKind.i64 n, Value.int IntKind.i64 d] 23)) := (by repeat' (first | (with_reducible exact Below.refl _ _) | (with_reducible assumption) | (with_reducible refine Below.alloc ?_ ?_ _) | (with_reducible refine below_drew ?_ _) | (with_reducible refine Below.drew ?_) | (with_reducible refine Below.setCell ?_ ?_ _) | go_size))
  (with_reducible refine ((awake_any _ (Lib.hid (pow_on hT.out A0))).mono ?_))
  rintro e w1 ⟨rfl, b1⟩
  have B1 := Lib.hid (below_on A0 b1)
  have K1_0 := Lib.hid (Blk.on (W := (w.alloc (Obj.cells #[Value.int IntKind.i64 n, Value.int IntKind.i64 d] 23))) (Blk.new w _ _ _) b1)
  clear b1 A0
  obtain ⟨s1_0, c1_0, d1_0⟩ := K1_0.out
  go_wp2_with fail
  (with_reducible refine ((F1 _).out).mono ?_)
  rintro e w2 ⟨rfl, b2⟩
  have K2_0 := Lib.hid (K1_0.out.on b2)
  have B2 := Lib.hid (below_on B1.out b2)
  clear b2 s1_0 c1_0 d1_0
  obtain ⟨s2_0, c2_0, d2_0⟩ := K2_0.out
  go_wp2_with fail
  (with_reducible refine ((F2 _).out).mono ?_)
  rintro e w3 ⟨rfl, b3⟩
  have K3_0 := Lib.hid (K2_0.out.on b3)
  have B3 := Lib.hid (below_on B2.out b3)
  clear b3 s2_0 c2_0 d2_0
  obtain ⟨s3_0, c3_0, d3_0⟩ := K3_0.out
  go_wp2_with fail
  (with_reducible refine ((F3 _).out).mono ?_)
  rintro e w4 ⟨rfl, b4⟩
  have K4_0 := Lib.hid (K3_0.out.on b4)
  have B4 := Lib.hid (below_on B3.out b4)
  clear b4 s3_0 c3_0 d3_0
  obtain ⟨s4_0, c4_0, d4_0⟩ := K4_0.out
  go_wp2
  go_ret
  exact ⟨rfl, B4.out⟩

set_option maxHeartbeats 4000000 in
theorem floors_one (n d : Int) (w : World) (n0 : -9223372036854775808 ≤ n) (n1 : n ≤ 9223372036854775807) (d0 : -9223372036854775808 ≤ d) (d1 : d ≤ 9223372036854775807) (hT : Hid (Pow10 w.heap.size w)) (p q k l : Int) (hf : floorT n d = (p, 0)) (hc : ceilT n d = (p, 0)) (hp : makeT p 1 = (p, 1, 0)) (hq : makeT p 1 = (p, 1, 0)) (hk : cmpT p 1 n d = (0, 0)) (hl : cmpT n d p 1 = (0, 0)) (p0 : -1152921504606846976 ≤ p) (p1 : p ≤ 1152921504606846976) (q0 : -1152921504606846976 ≤ q) (q1 : q ≤ 1152921504606846976) (zd : d = 1) :
    Calls Tryd.prog 9 #[.agg #[.int .i64 n, .int .i64 d]] w fun e w' => e = .returned (.bool true) ∧ Below w.heap.size w w' := by
  have F1 := fun w => Lib.hid (Floor_any n d w n0 n1 d0 d1 p 0 hf)
  have F2 := fun w => Lib.hid (Ceil_any n d w n0 n1 d0 d1 p 0 hc)
  have F3 := fun w => Lib.hid (Make_any p 1 w (by omega) (by omega) (by omega) (by omega) p 1 0 hp)
  have F4 := fun w => Lib.hid (Make_any p 1 w (by omega) (by omega) (by omega) (by omega) p 1 0 hq)
  have F5 := fun w => Lib.hid (Cmp_any p 1 n d w (by omega) (by omega) (by omega) (by omega) n0 n1 d0 d1 0 0 hk)
  have F6 := fun w => Lib.hid (Cmp_any n d p 1 w n0 n1 d0 d1 (by omega) (by omega) (by omega) (by omega) 0 0 hl)
  subst zd
  clear hf hc hp hq hk hl n0 n1 d0 d1
  go_enter Tryd.func9, Tryd.ntmps9
  go_wp2_with fail
  have A0 : Below w.heap.size w (w.alloc (Obj.cells #[Value.int IntKind.i64 n, Value.int IntKind.i64 1] 23)) := (by repeat' (first | (with_reducible exact Below.refl _ _) | (with_reducible assumption) | (with_reducible refine Below.alloc ?_ ?_ _) | (with_reducible refine below_drew ?_ _) | (with_reducible refine Below.drew ?_) | (with_reducible refine Below.setCell ?_ ?_ _) | go_size))
  (with_reducible refine ((awake_any _ (Lib.hid (pow_on hT.out A0))).mono ?_))
  rintro e w1 ⟨rfl, b1⟩
  have B1 := Lib.hid (below_on A0 b1)
  have K1_0 := Lib.hid (Blk.on (W := (w.alloc (Obj.cells #[Value.int IntKind.i64 n, Value.int IntKind.i64 1] 23))) (Blk.new w _ _ _) b1)
  clear b1 A0
  obtain ⟨s1_0, c1_0, d1_0⟩ := K1_0.out
  go_wp2_with fail
  (with_reducible refine ((F1 _).out).mono ?_)
  rintro e w2 ⟨rfl, b2⟩
  have K2_0 := Lib.hid (K1_0.out.on b2)
  have B2 := Lib.hid (below_on B1.out b2)
  clear b2 s1_0 c1_0 d1_0
  obtain ⟨s2_0, c2_0, d2_0⟩ := K2_0.out
  go_wp2_with fail
  (with_reducible refine ((F2 _).out).mono ?_)
  rintro e w3 ⟨rfl, b3⟩
  have K3_0 := Lib.hid (K2_0.out.on b3)
  have B3 := Lib.hid (below_on B2.out b3)
  clear b3 s2_0 c2_0 d2_0
  obtain ⟨s3_0, c3_0, d3_0⟩ := K3_0.out
  go_wp2_with fail
  (with_reducible refine ((F3 _).out).mono ?_)
  rintro e w4 ⟨rfl, b4⟩
  have K4_0 := Lib.hid (K3_0.out.on b4)
  have B4 := Lib.hid (below_on B3.out b4)
  clear b4 s3_0 c3_0 d3_0
  obtain ⟨s4_0, c4_0, d4_0⟩ := K4_0.out
  go_wp2_with fail
  (with_reducible refine ((F4 _).out).mono ?_)
  rintro e w5 ⟨rfl, b5⟩
  have K5_0 := Lib.hid ((K4_0.out.alloc _).on b5)
  have K5_1 := Lib.hid ((Blk.new w4 _ _ _).on b5)
  have B5 := Lib.hid (below_on (B4.out.alloc B4.out.size _) b5)
  clear b5 s4_0 c4_0 d4_0
  obtain ⟨s5_0, c5_0, d5_0⟩ := K5_0.out
  obtain ⟨s5_1, c5_1, d5_1⟩ := K5_1.out
  go_wp2_with fail
  (with_reducible refine ((F5 _).out).mono ?_)
  rintro e w6 ⟨rfl, b6⟩
  have K6_0 := Lib.hid ((K5_0.out.alloc _).on b6)
  have K6_1 := Lib.hid ((K5_1.out.alloc _).on b6)
  have K6_2 := Lib.hid ((Blk.new w5 _ _ _).on b6)
  have B6 := Lib.hid (below_on (B5.out.alloc B5.out.size _) b6)
  clear b6 s5_0 c5_0 d5_0 s5_1 c5_1 d5_1
  obtain ⟨s6_0, c6_0, d6_0⟩ := K6_0.out
  obtain ⟨s6_1, c6_1, d6_1⟩ := K6_1.out
  obtain ⟨s6_2, c6_2, d6_2⟩ := K6_2.out
  go_wp2_with fail
  (with_reducible refine ((F6 _).out).mono ?_)
  rintro e w7 ⟨rfl, b7⟩
  have K7_0 := Lib.hid (K6_0.out.on b7)
  have K7_1 := Lib.hid (K6_1.out.on b7)
  have K7_2 := Lib.hid (K6_2.out.on b7)
  have B7 := Lib.hid (below_on B6.out b7)
  clear b7 s6_0 c6_0 d6_0 s6_1 c6_1 d6_1 s6_2 c6_2 d6_2
  obtain ⟨s7_0, c7_0, d7_0⟩ := K7_0.out
  obtain ⟨s7_1, c7_1, d7_1⟩ := K7_1.out
  obtain ⟨s7_2, c7_2, d7_2⟩ := K7_2.out
  go_wp2
  go_ret
  exact ⟨rfl, B7.out⟩

set_option maxHeartbeats 4000000 in
theorem floors_many (n d : Int) (w : World) (n0 : -9223372036854775808 ≤ n) (n1 : n ≤ 9223372036854775807) (d0 : -9223372036854775808 ≤ d) (d1 : d ≤ 9223372036854775807) (hT : Hid (Pow10 w.heap.size w)) (p q k l : Int) (hf : floorT n d = (p, 0)) (hc : ceilT n d = (q, 0)) (hp : makeT p 1 = (p, 1, 0)) (hq : makeT q 1 = (q, 1, 0)) (hk : cmpT p 1 n d = (k, 0)) (hl : cmpT n d q 1 = (l, 0)) (p0 : -1152921504606846976 ≤ p) (p1 : p ≤ 1152921504606846976) (q0 : -1152921504606846976 ≤ q) (q1 : q ≤ 1152921504606846976) (zd : d ≠ 1) (zk : k < 0) (zl : l < 0) (zk1 : -1 ≤ k) (zl1 : -1 ≤ l) (zp : p ≠ q) (zq : q - p ≤ 1) :
    Calls Tryd.prog 9 #[.agg #[.int .i64 n, .int .i64 d]] w fun e w' => e = .returned (.bool true) ∧ Below w.heap.size w w' := by
  have F1 := fun w => Lib.hid (Floor_any n d w n0 n1 d0 d1 p 0 hf)
  have F2 := fun w => Lib.hid (Ceil_any n d w n0 n1 d0 d1 q 0 hc)
  have F3 := fun w => Lib.hid (Make_any p 1 w (by omega) (by omega) (by omega) (by omega) p 1 0 hp)
  have F4 := fun w => Lib.hid (Make_any q 1 w (by omega) (by omega) (by omega) (by omega) q 1 0 hq)
  have F5 := fun w => Lib.hid (Cmp_any p 1 n d w (by omega) (by omega) (by omega) (by omega) n0 n1 d0 d1 k 0 hk)
  have F6 := fun w => Lib.hid (Cmp_any n d q 1 w n0 n1 d0 d1 (by omega) (by omega) (by omega) (by omega) l 0 hl)
  have f1 : (d == 1) = false := by simpa using zd
  have f2 : (k == 0) = false := by simp; omega
  have f3 : (l == 0) = false := by simp; omega
  have f4 : (p == q) = false := by simpa using zp
  have f5 : decide (k ≤ 0) = true := by simp; omega
  have f6 : decide (l ≤ 0) = true := by simp; omega
  clear hf hc hp hq hk hl n0 n1 d0 d1 zd zp
  go_enter Tryd.func9, Tryd.ntmps9
  go_wp2_with fail
  have A0 : Below w.heap.size w (w.alloc (Obj.cells #[Value.int IntKind.i64 n, Value.int IntKind.i64 d] 23)) := (by repeat' (first | (with_reducible exact Below.refl _ _) | (with_reducible assumption) | (with_reducible refine Below.alloc ?_ ?_ _) | (with_reducible refine below_drew ?_ _) | (with_reducible refine Below.drew ?_) | (with_reducible refine Below.setCell ?_ ?_ _) | go_size))
  (with_reducible refine ((awake_any _ (Lib.hid (pow_on hT.out A0))).mono ?_))
  rintro e w1 ⟨rfl, b1⟩
  have B1 := Lib.hid (below_on A0 b1)
  have K1_0 := Lib.hid (Blk.on (W := (w.alloc (Obj.cells #[Value.int IntKind.i64 n, Value.int IntKind.i64 d] 23))) (Blk.new w _ _ _) b1)
  clear b1 A0
  obtain ⟨s1_0, c1_0, d1_0⟩ := K1_0.out
  go_wp2_with fail
  (with_reducible refine ((F1 _).out).mono ?_)
  rintro e w2 ⟨rfl, b2⟩
  have K2_0 := Lib.hid (K1_0.out.on b2)
  have B2 := Lib.hid (below_on B1.out b2)
  clear b2 s1_0 c1_0 d1_0
  obtain ⟨s2_0, c2_0, d2_0⟩ := K2_0.out
  go_wp2_with fail
  (with_reducible refine ((F2 _).out).mono ?_)
  rintro e w3 ⟨rfl, b3⟩
  have K3_0 := Lib.hid (K2_0.out.on b3)
  have B3 := Lib.hid (below_on B2.out b3)
  clear b3 s2_0 c2_0 d2_0
  obtain ⟨s3_0, c3_0, d3_0⟩ := K3_0.out
  go_wp2_with fail
  (with_reducible refine ((F3 _).out).mono ?_)
  rintro e w4 ⟨rfl, b4⟩
  have K4_0 := Lib.hid (K3_0.out.on b4)
  have B4 := Lib.hid (below_on B3.out b4)
  clear b4 s3_0 c3_0 d3_0
  obtain ⟨s4_0, c4_0, d4_0⟩ := K4_0.out
  go_wp2_with fail
  (with_reducible refine ((F4 _).out).mono ?_)
  rintro e w5 ⟨rfl, b5⟩
  have K5_0 := Lib.hid ((K4_0.out.alloc _).on b5)
  have K5_1 := Lib.hid ((Blk.new w4 _ _ _).on b5)
  have B5 := Lib.hid (below_on (B4.out.alloc B4.out.size _) b5)
  clear b5 s4_0 c4_0 d4_0
  obtain ⟨s5_0, c5_0, d5_0⟩ := K5_0.out
  obtain ⟨s5_1, c5_1, d5_1⟩ := K5_1.out
  go_wp2_with fail
  (with_reducible refine ((F5 _).out).mono ?_)
  rintro e w6 ⟨rfl, b6⟩
  have K6_0 := Lib.hid ((K5_0.out.alloc _).on b6)
  have K6_1 := Lib.hid ((K5_1.out.alloc _).on b6)
  have K6_2 := Lib.hid ((Blk.new w5 _ _ _).on b6)
  have B6 := Lib.hid (below_on (B5.out.alloc B5.out.size _) b6)
  clear b6 s5_0 c5_0 d5_0 s5_1 c5_1 d5_1
  obtain ⟨s6_0, c6_0, d6_0⟩ := K6_0.out
  obtain ⟨s6_1, c6_1, d6_1⟩ := K6_1.out
  obtain ⟨s6_2, c6_2, d6_2⟩ := K6_2.out
  go_wp2_with fail
  (with_reducible refine ((F6 _).out).mono ?_)
  rintro e w7 ⟨rfl, b7⟩
  have K7_0 := Lib.hid (K6_0.out.on b7)
  have K7_1 := Lib.hid (K6_1.out.on b7)
  have K7_2 := Lib.hid (K6_2.out.on b7)
  have B7 := Lib.hid (below_on B6.out b7)
  clear b7 s6_0 c6_0 d6_0 s6_1 c6_1 d6_1 s6_2 c6_2 d6_2
  obtain ⟨s7_0, c7_0, d7_0⟩ := K7_0.out
  obtain ⟨s7_1, c7_1, d7_1⟩ := K7_1.out
  obtain ⟨s7_2, c7_2, d7_2⟩ := K7_2.out
  go_wp2
  go_ret
  exact ⟨rfl, B7.out⟩

set_option maxHeartbeats 4000000 in
theorem floors_walk (n d : Int) (w : World) (n0 : -9223372036854775808 ≤ n) (n1 : n ≤ 9223372036854775807) (d0 : -9223372036854775808 ≤ d) (d1 : d ≤ 9223372036854775807) (hT : Hid (Pow10 w.heap.size w)) :
    Calls Tryd.prog 9 #[.agg #[.int .i64 n, .int .i64 d]] w fun e w' => e = .returned (.bool true) ∧ Below w.heap.size w w' := by
  by_cases hv : vB n d = true
  · have v := vB_vld hv
    have A := around v
    have hf : floorT n d = (n / d, 0) := by unfold floorT; rw [if_pos hv]
    have hc : ceilT n d = (-(-n / d), 0) := by unfold ceilT; rw [if_pos hv]
    generalize n / d = p at *
    generalize -(-n / d) = q at *
    obtain ⟨vp, hp⟩ := make_int A.p0 A.p1
    obtain ⟨vq, hq⟩ := make_int A.q0 A.q1
    have hk := cmp_vld vp v
    have hl := cmp_vld v vq
    by_cases zd : d = 1
    · obtain rfl := A.pq.2 zd
      rw [A.le.2 zd, show sgn 0 = 0 from rfl] at hk
      rw [A.he.2 zd, show sgn 0 = 0 from rfl] at hl
      exact floors_one n d w n0 n1 d0 d1 hT p p 0 0 hf hc hp hp hk hl A.p0 A.p1 A.p0 A.p1 zd
    · have zk : sgn (p * d + -n * 1) < 0 := sgn_neg_iff.2 (by have := A.lo; have := mt A.le.1 zd; omega)
      have zl : sgn (n * 1 + -q * d) < 0 := sgn_neg_iff.2 (by have := A.hi; have := mt A.he.1 zd; omega)
      exact floors_many n d w n0 n1 d0 d1 hT p q _ _ hf hc hp hq hk hl A.p0 A.p1 A.q0 A.q1 zd zk zl (sgn_bd _).1 (sgn_bd _).1 (mt A.pq.1 zd) A.df
  · have hb : vB n d = false := by simpa using hv
    exact floors_bad n d w n0 n1 d0 d1 hT (by unfold floorT; rw [if_neg hv]) (by unfold ceilT; rw [if_neg hv]) hb

end Go.Proofs.YtjdgppccjpdhoaaDoor
