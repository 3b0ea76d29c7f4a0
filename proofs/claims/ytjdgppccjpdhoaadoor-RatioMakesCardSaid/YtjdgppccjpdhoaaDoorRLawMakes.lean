/- The walk of the law RatioMakes. -/
import Derived.Test.YtjdgppccjpdhoaaDoorRRef8
import Derived.Test.YtjdgppccjpdhoaaDoorRRef9
namespace Go.Proofs.YtjdgppccjpdhoaaDoor
set_option linter.unusedVariables false
open Go.RowKit Go.Shelf

set_option maxHeartbeats 1000000 in
theorem same_eq (n d e : Int) (w : World) :
    Calls Tryd.prog 16 #[.agg #[.int .i64 n, .int .i64 d], .int .i64 e, .agg #[.int .i64 n, .int .i64 d], .int .i64 e] w fun r w' => r = .returned (.bool true) ∧ Below w.heap.size w w' := by
  go_enter Tryd.func16, Tryd.ntmps16
  go_wp2
  go_ret
  exact ⟨rfl, (by repeat' (first | (with_reducible exact Below.refl _ _) | (with_reducible assumption) | (with_reducible refine Below.alloc ?_ ?_ _) | (with_reducible refine below_drew ?_ _) | (with_reducible refine Below.drew ?_) | (with_reducible refine Below.setCell ?_ ?_ _) | go_size))⟩

def MkSt (w W : World) (n d : Int) : Prop := Blk W w.heap.size (.int .i64 n) (.int .i64 d) ∧ Below w.heap.size w W
theorem MkSt.on {w W W2 : World} {n d : Int} (h : MkSt w W n d) (hb : Below W.heap.size W W2) : MkSt w W2 n d := ⟨h.1.on hb, below_on h.2 hb⟩
theorem MkSt.drew {w W : World} {n d : Int} (h : MkSt w W n d) : MkSt w W.drew n d := h.on (Below.drew (Below.refl _ _))

set_option maxRecDepth 100000 in
set_option maxHeartbeats 4000000 in
theorem makes_valid (num den n d : Int) (w : World) (m0 : -9223372036854775808 ≤ num) (m1 : num ≤ 9223372036854775807) (k0 : -9223372036854775808 ≤ den) (k1 : den ≤ 9223372036854775807) (n0 : -9223372036854775808 ≤ n) (n1 : n ≤ 9223372036854775807) (d0 : -9223372036854775808 ≤ d) (d1 : d ≤ 9223372036854775807) (hT : Hid (Pow10 w.heap.size w)) (v : Vld n d) :
    Calls Tryd.prog 3 #[.int .i64 num, .int .i64 den, .agg #[.int .i64 n, .int .i64 d]] w fun e w' => e = .returned (.bool true) ∧ Below w.heap.size w w' := by
  obtain ⟨mn, md, me, hm⟩ : ∃ a b c, makeT num den = (a, b, c) := ⟨_, _, _, rfl⟩
  have F1 := fun w => Lib.hid (Make_any num den w m0 m1 k0 k1 mn md me hm)
  have F2 := fun w => Lib.hid (refMake_any num den w m0 m1 k0 k1 mn md me hm)
  have CS := fun w => Lib.hid (same_eq mn md me w)
  have CV := fun w => Lib.hid (Valid_any n d w n0 n1 d0 d1)
  have CW := fun w => Lib.hid (refValid_any n d w n0 n1 d0 d1)
  have hv := vB_yes v
  obtain ⟨p, hp⟩ : ∃ p, n / d = p := ⟨_, rfl⟩
  obtain ⟨q, hq⟩ : ∃ q, -(-n / d) = q := ⟨_, rfl⟩
  have F3 := fun w => Lib.hid (Floor_any n d w n0 n1 d0 d1 p 0 (by unfold floorT; rw [if_pos hv, hp]))
  have F4 := fun w => Lib.hid (Ceil_any n d w n0 n1 d0 d1 q 0 (by unfold ceilT; rw [if_pos hv, hq]))
  have F5 := fun w => Lib.hid (refFloor_any n d w v.d1 v.d2 v.n1 v.n2)
  have F6 := fun w => Lib.hid (refCeil_any n d w v.d1 v.d2 v.n1 v.n2)
  simp only [hp] at F5
  simp only [hq] at F6
  simp only [hv] at CV CW
  clear hp hq hv v
  clear hm m0 m1 k0 k1 n0 n1 d0 d1
  go_enter Tryd.func3, Tryd.ntmps3
  go_wp2_with fail
  have A0 : Below w.heap.size w (w.alloc (Obj.cells #[Value.int IntKind.i64 n, Value.int IntKind.i64 d] 23)) := (by repeat' (first | (with_reducible exact Below.refl _ _) | (with_reducible assumption) | (with_reducible refine Below.alloc ?_ ?_ _) | (with_reducible refine below_drew ?_ _) | (with_reducible refine Below.drew ?_) | (with_reducible refine Below.setCell ?_ ?_ _) | go_size))
  (with_reducible refine ((awake_any _ (Lib.hid (pow_on hT.out A0))).mono ?_))
  rintro e w1 ⟨rfl, b1⟩
  have B1 := Lib.hid (below_on A0 b1)
  have K1 := Lib.hid (Blk.on (W := (w.alloc (Obj.cells #[Value.int IntKind.i64 n, Value.int IntKind.i64 d] 23))) (Blk.new w _ _ _) b1)
  clear b1 A0 hT
  go_wp2_with fail
  (with_reducible refine ((F1 _).out).mono ?_)
  rintro e w2 ⟨rfl, b2⟩
  have K2 := Lib.hid (K1.out.on b2)
  have B2 := Lib.hid (below_on B1.out b2)
  clear b2
  go_wp2_with fail
  (with_reducible refine ((F2 _).out).mono ?_)
  rintro e w3 ⟨rfl, b3⟩
  have K3 := Lib.hid ((K2.out.alloc _).on b3)
  have J3 := Lib.hid ((Blk.new w2 _ _ _).on b3)
  have B3 := Lib.hid (below_on (B2.out.alloc B2.out.size _) b3)
  clear b3 K1 K2 B1 B2
  obtain ⟨s3, c3, e3⟩ := K3.out
  go_wp2_with fail
  (with_reducible refine ((F3 _).out).mono ?_)
  rintro e w4 ⟨rfl, b4⟩
  have K4 := Lib.hid ((K3.out.alloc _).on b4)
  have J4 := Lib.hid ((J3.out.alloc _).on b4)
  have H4 := Lib.hid ((Blk.new w3 _ _ _).on b4)
  have B4 := Lib.hid (below_on (B3.out.alloc B3.out.size _) b4)
  clear b4 K3 J3 B3 s3 c3 e3
  obtain ⟨s4, c4, e4⟩ := K4.out
  go_wp2_with fail
  (with_reducible refine ((F4 _).out).mono ?_)
  rintro e w5 ⟨rfl, b5⟩
  have T0 : Hid (MkSt w w5 n d) := ⟨K4.out.on b5, below_on B4.out b5⟩
  have J5 := Lib.hid (J4.out.on b5)
  have H5 := Lib.hid (H4.out.on b5)
  clear b5 K4 J4 H4 B4 s4 c4 e4
  obtain ⟨⟨s5, c5, e5⟩, _⟩ := T0.out
  obtain ⟨s6, c6, e6⟩ := J5.out
  obtain ⟨s7, c7, e7⟩ := H5.out
  go_upto_region 7 with fail
  go_cut [51] (fun s51 wx => s51 = .bool false ∧ MkSt w wx n d)
  case first =>
    go_region_with (first | (go_at_call 16; (with_reducible refine ((CS _).out).mono ?_); rintro e w6 ⟨rfl, hb⟩; have T1 := Lib.hid (MkSt.on (by first | exact T1.out | exact T1.out.drew | exact T1.out.drew.drew | exact T0.out | exact T0.out.drew | exact T0.out.drew.drew) hb); clear hb; obtain ⟨⟨_, t0, t1⟩, _⟩ := T1.out) | (go_at_call 17; (with_reducible refine ((CV _).out).mono ?_); rintro e w6 ⟨rfl, hb⟩; have T1 := Lib.hid (MkSt.on (by first | exact T1.out | exact T1.out.drew | exact T1.out.drew.drew | exact T0.out | exact T0.out.drew | exact T0.out.drew.drew) hb); clear hb; obtain ⟨⟨_, t0, t1⟩, _⟩ := T1.out) | (go_at_call 18; (with_reducible refine ((CW _).out).mono ?_); rintro e w6 ⟨rfl, hb⟩; have T1 := Lib.hid (MkSt.on (by first | exact T1.out | exact T1.out.drew | exact T1.out.drew.drew | exact T0.out | exact T0.out.drew | exact T0.out.drew.drew) hb); clear hb; obtain ⟨⟨_, t0, t1⟩, _⟩ := T1.out))
    all_goals
      go_wp2_with fail
      go_meet
      exact ⟨rfl, T1.out⟩
  case rest =>
    clear T0 J5 H5 s5 c5 e5 s6 c6 e6 s7 c7 e7
    obtain ⟨rfl, hS⟩ := hcut
    have T0 := Lib.hid hS
    clear hS
    obtain ⟨⟨_, c5, e5⟩, _⟩ := T0.out
    go_wp2_with (first | (go_at_call 18; (with_reducible refine ((CW _).out).mono ?_); rintro e w6 ⟨rfl, hb⟩; have T1 := Lib.hid (MkSt.on (by first | exact T1.out | exact T1.out.drew | exact T1.out.drew.drew | exact T0.out | exact T0.out.drew | exact T0.out.drew.drew) hb); clear hb; obtain ⟨⟨_, t0, t1⟩, _⟩ := T1.out) | (go_at_call 19; (with_reducible refine ((F5 _).out).mono ?_); rintro e w6 ⟨rfl, hb⟩; have T1 := Lib.hid (MkSt.on (by first | exact T1.out | exact T1.out.drew | exact T1.out.drew.drew | exact T0.out | exact T0.out.drew | exact T0.out.drew.drew) hb); clear hb; obtain ⟨⟨_, t0, t1⟩, _⟩ := T1.out) | (go_at_call 20; (with_reducible refine ((F6 _).out).mono ?_); rintro e w6 ⟨rfl, hb⟩; have T1 := Lib.hid (MkSt.on (by first | exact T1.out | exact T1.out.drew | exact T1.out.drew.drew | exact T0.out | exact T0.out.drew | exact T0.out.drew.drew) hb); clear hb; obtain ⟨⟨_, t0, t1⟩, _⟩ := T1.out))
    go_ret
    exact ⟨rfl, T1.out.2⟩

set_option maxRecDepth 100000 in
set_option maxHeartbeats 4000000 in
theorem makes_bad (num den n d : Int) (w : World) (m0 : -9223372036854775808 ≤ num) (m1 : num ≤ 9223372036854775807) (k0 : -9223372036854775808 ≤ den) (k1 : den ≤ 9223372036854775807) (n0 : -9223372036854775808 ≤ n) (n1 : n ≤ 9223372036854775807) (d0 : -9223372036854775808 ≤ d) (d1 : d ≤ 9223372036854775807) (hT : Hid (Pow10 w.heap.size w)) (hv : vB n d = false) :
    Calls Tryd.prog 3 #[.int .i64 num, .int .i64 den, .agg #[.int .i64 n, .int .i64 d]] w fun e w' => e = .returned (.bool true) ∧ Below w.heap.size w w' := by
  obtain ⟨mn, md, me, hm⟩ : ∃ a b c, makeT num den = (a, b, c) := ⟨_, _, _, rfl⟩
  have F1 := fun w => Lib.hid (Make_any num den w m0 m1 k0 k1 mn md me hm)
  have F2 := fun w => Lib.hid (refMake_any num den w m0 m1 k0 k1 mn md me hm)
  have CS := fun w => Lib.hid (same_eq mn md me w)
  have CV := fun w => Lib.hid (Valid_any n d w n0 n1 d0 d1)
  have CW := fun w => Lib.hid (refValid_any n d w n0 n1 d0 d1)
  have F3 := fun w => Lib.hid (Floor_any n d w n0 n1 d0 d1 0 1 (by unfold floorT; rw [if_neg (by simp [hv])]))
  have F4 := fun w => Lib.hid (Ceil_any n d w n0 n1 d0 d1 0 1 (by unfold ceilT; rw [if_neg (by simp [hv])]))
  simp only [hv] at CV CW
  clear hv
  clear hm m0 m1 k0 k1 n0 n1 d0 d1
  go_enter Tryd.func3, Tryd.ntmps3
  go_wp2_with fail
  have A0 : Below w.heap.size w (w.alloc (Obj.cells #[Value.int IntKind.i64 n, Value.int IntKind.i64 d] 23)) := (by repeat' (first | (with_reducible exact Below.refl _ _) | (with_reducible assumption) | (with_reducible refine Below.alloc ?_ ?_ _) | (with_reducible refine below_drew ?_ _) | (with_reducible refine Below.drew ?_) | (with_reducible refine Below.setCell ?_ ?_ _) | go_size))
  (with_reducible refine ((awake_any _ (Lib.hid (pow_on hT.out A0))).mono ?_))
  rintro e w1 ⟨rfl, b1⟩
  have B1 := Lib.hid (below_on A0 b1)
  have K1 := Lib.hid (Blk.on (W := (w.alloc (Obj.cells #[Value.int IntKind.i64 n, Value.int IntKind.i64 d] 23))) (Blk.new w _ _ _) b1)
  clear b1 A0 hT
  go_wp2_with fail
  (with_reducible refine ((F1 _).out).mono ?_)
  rintro e w2 ⟨rfl, b2⟩
  have K2 := Lib.hid (K1.out.on b2)
  have B2 := Lib.hid (below_on B1.out b2)
  clear b2
  go_wp2_with fail
  (with_reducible refine ((F2 _).out).mono ?_)
  rintro e w3 ⟨rfl, b3⟩
  have K3 := Lib.hid ((K2.out.alloc _).on b3)
  have J3 := Lib.hid ((Blk.new w2 _ _ _).on b3)
  have B3 := Lib.hid (below_on (B2.out.alloc B2.out.size _) b3)
  clear b3 K1 K2 B1 B2
  obtain ⟨s3, c3, e3⟩ := K3.out
  go_wp2_with fail
  (with_reducible refine ((F3 _).out).mono ?_)
  rintro e w4 ⟨rfl, b4⟩
  have K4 := Lib.hid ((K3.out.alloc _).on b4)
  have J4 := Lib.hid ((J3.out.alloc _).on b4)
  have H4 := Lib.hid ((Blk.new w3 _ _ _).on b4)
  have B4 := Lib.hid (below_on (B3.out.alloc B3.out.size _) b4)
  clear b4 K3 J3 B3 s3 c3 e3
  obtain ⟨s4, c4, e4⟩ := K4.out
  go_wp2_with fail
  (with_reducible refine ((F4 _).out).mono ?_)
  rintro e w5 ⟨rfl, b5⟩
  have T0 : Hid (MkSt w w5 n d) := ⟨K4.out.on b5, below_on B4.out b5⟩
  have J5 := Lib.hid (J4.out.on b5)
  have H5 := Lib.hid (H4.out.on b5)
  clear b5 K4 J4 H4 B4 s4 c4 e4
  obtain ⟨⟨s5, c5, e5⟩, _⟩ := T0.out
  obtain ⟨s6, c6, e6⟩ := J5.out
  obtain ⟨s7, c7, e7⟩ := H5.out
  go_upto_region 7 with fail
  go_cut [51] (fun s51 wx => s51 = .bool false ∧ MkSt w wx n d)
  case first =>
    go_region_with (first | (go_at_call 16; (with_reducible refine ((CS _).out).mono ?_); rintro e w6 ⟨rfl, hb⟩; have T1 := Lib.hid (MkSt.on (by first | exact T1.out | exact T1.out.drew | exact T1.out.drew.drew | exact T0.out | exact T0.out.drew | exact T0.out.drew.drew) hb); clear hb; obtain ⟨⟨_, t0, t1⟩, _⟩ := T1.out) | (go_at_call 17; (with_reducible refine ((CV _).out).mono ?_); rintro e w6 ⟨rfl, hb⟩; have T1 := Lib.hid (MkSt.on (by first | exact T1.out | exact T1.out.drew | exact T1.out.drew.drew | exact T0.out | exact T0.out.drew | exact T0.out.drew.drew) hb); clear hb; obtain ⟨⟨_, t0, t1⟩, _⟩ := T1.out) | (go_at_call 18; (with_reducible refine ((CW _).out).mono ?_); rintro e w6 ⟨rfl, hb⟩; have T1 := Lib.hid (MkSt.on (by first | exact T1.out | exact T1.out.drew | exact T1.out.drew.drew | exact T0.out | exact T0.out.drew | exact T0.out.drew.drew) hb); clear hb; obtain ⟨⟨_, t0, t1⟩, _⟩ := T1.out))
    all_goals
      go_wp2_with fail
      go_meet
      exact ⟨rfl, T1.out⟩
  case rest =>
    clear T0 J5 H5 s5 c5 e5 s6 c6 e6 s7 c7 e7
    obtain ⟨rfl, hS⟩ := hcut
    have T0 := Lib.hid hS
    clear hS
    obtain ⟨⟨_, c5, e5⟩, _⟩ := T0.out
    go_wp2_with (first | (go_at_call 18; (with_reducible refine ((CW _).out).mono ?_); rintro e w6 ⟨rfl, hb⟩; have T1 := Lib.hid (MkSt.on (by first | exact T1.out | exact T1.out.drew | exact T1.out.drew.drew | exact T0.out | exact T0.out.drew | exact T0.out.drew.drew) hb); clear hb; obtain ⟨⟨_, t0, t1⟩, _⟩ := T1.out))
    go_ret
    exact ⟨rfl, T1.out.2⟩

theorem makes_walk (num den n d : Int) (w : World) (m0 : -9223372036854775808 ≤ num) (m1 : num ≤ 9223372036854775807) (k0 : -9223372036854775808 ≤ den) (k1 : den ≤ 9223372036854775807) (n0 : -9223372036854775808 ≤ n) (n1 : n ≤ 9223372036854775807) (d0 : -9223372036854775808 ≤ d) (d1 : d ≤ 9223372036854775807) (hT : Hid (Pow10 w.heap.size w)) :
    Calls Tryd.prog 3 #[.int .i64 num, .int .i64 den, .agg #[.int .i64 n, .int .i64 d]] w fun e w' => e = .returned (.bool true) ∧ Below w.heap.size w w' := by
  by_cases hv : vB n d = true
  · exact makes_valid num den n d w m0 m1 k0 k1 n0 n1 d0 d1 hT (vB_vld hv)
  · exact makes_bad num den n d w m0 m1 k0 k1 n0 n1 d0 d1 hT (by simpa using hv)

end Go.Proofs.YtjdgppccjpdhoaaDoor
