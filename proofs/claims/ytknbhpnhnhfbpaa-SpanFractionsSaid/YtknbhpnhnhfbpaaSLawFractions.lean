/- The walk of the law SpanFractions. -/
import Derived.Test.YtknbhpnhnhfbpaaS6
import Derived.Test.YtknbhpnhnhfbpaaS9
import Derived.Test.YtknbhpnhnhfbpaaSMath4
import Derived.Test.YtknbhpnhnhfbpaaRRef9
namespace Go.Proofs.Ytknbhpnhnhfbpaa
set_option linter.unusedVariables false
open Go.RowKit Go.Shelf

structure Fr11110R (w : World) (n d u s1 s2 t1 t2 pn pd pf z1 z2 hh : Int) (b : Bool) (y3 : World) (y4 : World) (Wc : World) (L : Nat → Bool) (v : Nat → Value) (g : Nat → Nat) (W : World) : Prop where
  st : Below Wc.heap.size Wc W
  f0 : Had L 0 (v 57 = .int .i64 0)
  f1 : Had L 1 (v 58 = .bool false)
  f2 : Had L 2 (v 59 = .bool false)
  f3 : Had L 3 (v 60 = .int .i64 0)
  f4 : Had L 4 (v 61 = .bool false)
  f5 : Had L 5 (v 62 = .bool false)
  f6 : Had L 6 (v 63 = .bool false)
  f7 : Had L 7 (v 64 = .int .i64 0)
  f8 : Had L 8 (v 65 = .bool false)
  f9 : Had L 9 (v 66 = .bool false)
  f10 : Had L 10 (v 67 = .bool false)
  f11 : Had L 11 (v 68 = .agg #[.int .i64 s1, .int .i64 s2])
  f12 : Had L 12 (v 69 = .int .i64 s1)
  f13 : Had L 13 (v 70 = .int .i64 s2)
  f14 : Had L 14 (v 71 = .agg #[.int .i64 s1, .int .i64 s2])
  f15 : Had L 15 (v 72 = .bool false)
  f16 : Had L 16 (v 73 = .bool false)
  f17 : Had L 17 (v 74 = .bool false)
  f18 : Had L 18 (v 75 = .pointer (some ⟨y3.heap.size, 1, none⟩))
  f19 : Had L 19 (v 76 = .int .i64 s2)
  f20 : Had L 20 (v 77 = .pointer (some ⟨y3.heap.size, 0, none⟩))
  f21 : Had L 21 (v 78 = .int .i64 s1)
  f22 : Had L 22 (v 79 = .int .i64 (s2 - s1))
  f23 : Had L 23 (v 80 = .bool false)
  f24 : Had L 24 (v 81 = .bool false)
  f25 : Had L 25 (v 82 = .bool false)
  f26 : Had L 26 (v 83 = .pointer (some ⟨y4.heap.size, 1, none⟩))
  f27 : Had L 27 (v 84 = .int .i64 pd)
  f28 : Had L 28 (v 85 = .bool b)
  f29 : Had L 29 (v 86 = .pointer (some ⟨y3.heap.size, 0, none⟩))
  f30 : Had L 30 (v 87 = .int .i64 s1)
  f31 : Had L 31 (v 88 = .pointer (some ⟨y3.heap.size, 1, none⟩))
  f32 : Had L 32 (v 89 = .int .i64 s2)
  f33 : Had L 33 (v 90 = .bool b)
  f34 : Had L 34 (v 91 = .bool false)
  f35 : Had L 35 (v 92 = .bool false)

structure Fr11115R (w : World) (n d u s1 s2 t1 t2 pn pd pf z1 z2 hh : Int) (b : Bool) (Wc : World) (L : Nat → Bool) (v : Nat → Value) (g : Nat → Nat) (W : World) : Prop where
  st : Below Wc.heap.size Wc W
  f0 : Had L 0 (v 107 = .agg #[.int .i64 t1, .int .i64 t2])
  f1 : Had L 1 (v 108 = .int .i64 u)
  f2 : Had L 2 (v 109 = .int .i64 u)
  f3 : Had L 3 (v 110 = .agg #[.int .i64 u, .int .i64 u])
  f4 : Had L 4 (v 111 = .tuple #[.agg #[.int .i64 z1, .int .i64 z2], .int .i64 0])
  f5 : Had L 5 (v 106 = .tuple #[.agg #[.int .i64 z1, .int .i64 z2], .int .i64 0])
  f6 : Had L 6 (v 112 = .agg #[.int .i64 z1, .int .i64 z2])
  f7 : Had L 7 (v 113 = .int .i64 0)
  f8 : Had L 8 (v 15 = .pointer (some ⟨g 8, 0, none⟩))
  f10 : Had L 10 (v 16 = .int .i64 0)
  b8 : Had L 8 (Own Wc.heap.size W (g 8))
  c9 : Had L 9 (L 8 = true ∧ Blk W (g 8) (.int .i64 z1) (.int .i64 z2))

set_option maxRecDepth 100000 in
set_option maxHeartbeats 32000000 in
theorem frac_FW (n d u pn pd z1 z2 : Int) (w : World) (v : Vld n d) (u0 : 1 ≤ u) (u1 : u ≤ 1099511627776) (hm : mulT n d u 1 = (pn, pd, 0)) (vp : Vld pn pd) (hx : pn * (d * 1) = n * u * pd) (hw : mulS (n / d) (-(-n / d)) u u = (z1, z2, 0)) :
    Calls Try.prog 9 #[.agg #[.int .i64 n, .int .i64 d], .int .i64 u] w fun e w' => e = .returned (.bool true) ∧ Below w.heap.size w w' := by
  have va1 := v.d1; have va2 := v.d2; have va3 := v.n1; have va4 := v.n2
  have hvb := vB_yes v
  have VA := fun w => Lib.hid (refValid_any n d w (by omega) (by omega) (by omega) (by omega))
  simp only [hvb] at VA
  have g1 : decide (u < 1) = false := decide_eq_false (by omega)
  have g2 : decide (1099511627776 < u) = false := decide_eq_false (by omega)
  have C2 := fun w => Lib.hid (Mul_any n d u 1 w (by omega) (by omega) (by omega) (by omega) (by omega) (by omega) (by omega) (by omega) pn pd 0 hm)
  have hfit := frac_fits va1 vp hx
  have hs : sOf n d u = (n * u / d, -(-(n * u) / d), 0) := by unfold sOf; rw [if_pos hvb, ofS_eq va1 u0 u1, if_pos hfit]
  have ho : sOf n d 1 = (n / d, -(-n / d), 0) := by
    unfold sOf
    rw [if_pos hvb, ofS_eq va1 (by decide) (by decide), Int.mul_one, if_pos (by omega)]
  have C1 := fun w => Lib.hid (sOf_any n d u w (by omega) (by omega) (by omega) (by omega) _ _ 0 hs)
  have C5 := fun w => Lib.hid (sOf_any n d 1 w (by omega) (by omega) (by omega) (by omega) _ _ 0 ho)
  have O2 : ∀ w, Hid (Calls Try.prog 39 #[.int .i64 u, .int .i64 u] w fun e w' => e = .returned (.agg #[.int .i64 u, .int .i64 u]) ∧ Below w.heap.size w w') := fun w => by
    have h := of_any u u w
    rw [show min u u = u by omega, show max u u = u by omega] at h
    exact h
  have ar := around v
  have r1 := ar.p0; have r2 := ar.p1; have r3 := ar.q0; have r4 := ar.q1
  have lh : n / d ≤ -(-n / d) := by
    have a := Int.ediv_mul_le n (show d ≠ 0 by omega)
    have c := Int.ediv_mul_le (-n) (show d ≠ 0 by omega)
    rcases Int.lt_or_le (-(-n / d)) (n / d) with h | h
    · have := Int.mul_le_mul_of_nonneg_right (show n / d + -n / d ≥ 1 by omega) (show 0 ≤ d by omega)
      rw [Int.add_mul] at this
      omega
    · exact h
  have vt : SVd (n / d) (-(-n / d)) := ⟨r1, lh, r4⟩
  have vu : SVd u u := ⟨by omega, by omega, by omega⟩
  have C6 := fun w => Lib.hid (sMul_any (n / d) (-(-n / d)) u u w (by omega) (by omega) (by omega) (by omega) (by omega) (by omega) (by omega) (by omega) z1 z2 0 (by unfold sMul; rw [okS_yes (sV_yes vt) (sV_yes vu)]; exact hw))
  have C7 := fun w => Lib.hid (sTimes_any (n / d) (-(-n / d)) u 1 w z1 z2 0 (by unfold sTimes; rw [if_pos (sV_yes vt), ← wide_eq lh u0 u1]; exact hw))
  have wi := wide_in va1 u0 hw
  have I1 := fun w => Lib.hid (inside_yes (n * u / d) (-(-(n * u) / d)) z1 z2 w wi.1 wi.2)
  have hx2 : pn * d = n * u * pd := by rw [Int.mul_one] at hx; exact hx
  have p1 := vp.d1; have p2 := vp.d2; have p3 := vp.n1; have p4 := vp.n2
  have e1 := div_cross (show 0 < d by omega) (show 0 < pd by omega) hx2
  have e2 := div_cross (N := -(n * u)) (p := -pn) (show 0 < d by omega) (show 0 < pd by omega) (by rw [Int.neg_mul, Int.neg_mul, hx2])
  have ap := around vp
  have al := ap.lo; have ah := ap.hi; have ale := ap.le; have ahe := ap.he
  have C3 := fun w => Lib.hid (Floor_any pn pd w (by omega) (by omega) (by omega) (by omega) (n * u / d) 0 (by unfold floorT; rw [if_pos (vB_yes vp), e1]))
  have C4 := fun w => Lib.hid (Ceil_any pn pd w (by omega) (by omega) (by omega) (by omega) (-(-(n * u) / d)) 0 (by unfold ceilT; rw [if_pos (vB_yes vp), e2]))
  have lo1 := Int.mul_ediv_add_emod pn pd
  have lo2 := Int.emod_lt_of_pos pn (show 0 < pd by omega)
  have lo3 := Int.emod_nonneg pn (show pd ≠ 0 by omega)
  have hq := q_pos (P := pn) (show 0 < pd by omega)
  have hup : up (pn % pd) = 0 ∨ up (pn % pd) = 1 := by unfold up; split <;> omega
  have hb : (pd = 1 ↔ pn / pd = -(-pn / pd)) := by
    rw [hq]
    constructor
    · rintro rfl
      rw [Int.emod_one]; unfold up; simp
    · intro hz
      have u0' : up (pn % pd) = 0 := by omega
      have m0 : pn % pd = 0 := by
        unfold up at u0'
        split at u0'
        · omega
        · omega
      refine ale.1 ?_
      rw [Int.mul_comm (pn / pd) pd]
      omega
  rw [← e1, ← e2] at hb
  rw [← e1, ← e2] at hq
  have g3 : decide (1 < -(-(n * u) / d) - n * u / d) = false := decide_eq_false (by omega)
  have lh2 : n * u / d ≤ -(-(n * u) / d) := by omega
  obtain ⟨b, g4⟩ : ∃ b, (pd == 1) = b := ⟨_, rfl⟩
  have g5 : (n * u / d == -(-(n * u) / d)) = b := by
    rw [← g4, Bool.eq_iff_iff, beq_iff_eq, beq_iff_eq]; exact hb.symm
  have O1 : ∀ w, Hid (Calls Try.prog 39 #[.int .i64 (n * u / d), .int .i64 (-(-(n * u) / d))] w fun e w' => e = .returned (.agg #[.int .i64 (n * u / d), .int .i64 (-(-(n * u) / d))]) ∧ Below w.heap.size w w') := fun w => by
    have h := of_any (n * u / d) (-(-(n * u) / d)) w
    rw [show min (n * u / d) (-(-(n * u) / d)) = n * u / d by omega, show max (n * u / d) (-(-(n * u) / d)) = -(-(n * u) / d) by omega] at h
    exact h
  have sb1 : n * u / d ≤ 1152921504606846976 ∧ -1152921504606846976 ≤ n * u / d := by rw [e1]; have a := ap.p0; have b := ap.p1; omega
  have sb2 : -(-(n * u) / d) ≤ 1152921504606846976 ∧ -1152921504606846976 ≤ -(-(n * u) / d) := by rw [e2]; have a := ap.q0; have b := ap.q1; omega
  obtain ⟨pf, _⟩ : ∃ z : Int, True := ⟨0, trivial⟩
  obtain ⟨s1, hs1⟩ : ∃ z, n * u / d = z := ⟨_, rfl⟩
  obtain ⟨s2, hs2⟩ : ∃ z, -(-(n * u) / d) = z := ⟨_, rfl⟩
  obtain ⟨t1, ht1⟩ : ∃ z, n / d = z := ⟨_, rfl⟩
  obtain ⟨t2, ht2⟩ : ∃ z, -(-n / d) = z := ⟨_, rfl⟩
  obtain ⟨hh, _⟩ : ∃ z : Int, True := ⟨0, trivial⟩
  simp only [hs1, hs2] at C1
  simp only [hs1, hs2] at I1
  simp only [hs1] at C3
  simp only [hs2] at C4
  simp only [hs1, hs2] at O1
  simp only [hs1, hs2] at g3
  simp only [hs1, hs2] at g5
  simp only [hs1] at sb1
  simp only [hs2] at sb2
  simp only [ht1, ht2] at C5
  simp only [ht1, ht2] at C6
  simp only [ht1, ht2] at C7
  clear hs1 hs2 ht1 ht2 hs ho ar r1 r2 r3 r4 lh vt vu hw wi
  obtain ⟨sb1, sb3⟩ := sb1
  obtain ⟨sb2, sb4⟩ := sb2
  have wd : IntKind.i64.wrap (s2 - s1) = s2 - s1 := IntWalk.i64_in _ (by omega)
  clear hx2 e1 e2 ap al ah ale ahe lo1 lo2 lo3 hq hup hb lh2 p1 p2 p3 p4 vp hx
  clear hvb hfit hm v va1 va2 va3 va4
  have HW := Lib.hid (Below.refl w.heap.size w)
  have AW := fun w => Lib.hid (sawake_any w)
  go_enter Try.func9, Try.ntmps9
  go_wp2_with fail
  (with_reducible refine ((AW _).out).mono ?_)
  rintro e y1 ⟨rfl, hb⟩
  have hst := Lib.hid (below_on (w := w) (by repeat' (first | (with_reducible exact Below.refl _ _) | (with_reducible assumption) | (with_reducible refine Below.alloc ?_ ?_ _) | (with_reducible refine below_drew ?_ _) | (with_reducible refine Below.drew ?_) | (with_reducible refine Below.setCell ?_ ?_ _) | go_size)) hb)
  have B0 : Hid (Blk y1 (w.heap.size) (.int .i64 n) (.int .i64 d)) := Blk.on (W := (w.alloc (Obj.cells #[Value.int .i64 n, Value.int .i64 d] 35))) (by first | exact Blk.new _ _ _ _ | exact (Blk.new _ _ _ _).alloc _ | exact ((Blk.new _ _ _ _).alloc _).alloc _ | (have hn := Blk.new (w) (Value.int .i64 n) (Value.int .i64 d) 35; simpa using hn)) hb
  clear hb
  replace HW := Lib.hid (below_on HW.out hst.out)
  clear hst
  obtain ⟨_, B0p, B0q⟩ := B0.out
  go_wp2_with fail
  (with_reducible refine ((VA _).out).mono ?_)
  rintro e y2 ⟨rfl, hb⟩
  clear B0p B0q
  have hst := Lib.hid hb
  clear hb
  replace B0 := Lib.hid (B0.out.on hst.out)
  replace HW := Lib.hid (below_on HW.out hst.out)
  clear hst
  obtain ⟨_, B0p, B0q⟩ := B0.out
  go_wp2_with fail
  (with_reducible refine ((C1 _).out).mono ?_)
  rintro e y3 ⟨rfl, hb⟩
  clear B0p B0q
  have hst := Lib.hid hb
  clear hb
  replace B0 := Lib.hid (B0.out.on hst.out)
  replace HW := Lib.hid (below_on HW.out hst.out)
  clear hst
  obtain ⟨_, B0p, B0q⟩ := B0.out
  go_wp2_with fail
  (with_reducible refine ((C2 _).out).mono ?_)
  rintro e y4 ⟨rfl, hb⟩
  clear B0p B0q
  have hst := Lib.hid (below_on (w := y3) (by repeat' (first | (with_reducible exact Below.refl _ _) | (with_reducible assumption) | (with_reducible refine Below.alloc ?_ ?_ _) | (with_reducible refine below_drew ?_ _) | (with_reducible refine Below.drew ?_) | (with_reducible refine Below.setCell ?_ ?_ _) | go_size)) hb)
  have B1 : Hid (Blk y4 (y3.heap.size) (.int .i64 s1) (.int .i64 s2)) := Blk.on (W := (y3.alloc (Obj.cells #[Value.int .i64 s1, Value.int .i64 s2] 23))) (by first | exact Blk.new _ _ _ _ | exact (Blk.new _ _ _ _).alloc _ | exact ((Blk.new _ _ _ _).alloc _).alloc _ | (have hn := Blk.new (y3) (Value.int .i64 s1) (Value.int .i64 s2) 23; simpa using hn)) hb
  clear hb
  replace B0 := Lib.hid (B0.out.on hst.out)
  replace HW := Lib.hid (below_on HW.out hst.out)
  clear hst
  go_wp2_with fail
  (with_reducible refine ((C3 _).out).mono ?_)
  rintro e y5 ⟨rfl, hb⟩
  have hst := Lib.hid (below_on (w := y4) (by repeat' (first | (with_reducible exact Below.refl _ _) | (with_reducible assumption) | (with_reducible refine Below.alloc ?_ ?_ _) | (with_reducible refine below_drew ?_ _) | (with_reducible refine Below.drew ?_) | (with_reducible refine Below.setCell ?_ ?_ _) | go_size)) hb)
  have B2 : Hid (Blk y5 (y4.heap.size) (.int .i64 pn) (.int .i64 pd)) := Blk.on (W := (y4.alloc (Obj.cells #[Value.int .i64 pn, Value.int .i64 pd] 35))) (by first | exact Blk.new _ _ _ _ | exact (Blk.new _ _ _ _).alloc _ | exact ((Blk.new _ _ _ _).alloc _).alloc _ | (have hn := Blk.new (y4) (Value.int .i64 pn) (Value.int .i64 pd) 35; simpa using hn)) hb
  clear hb
  replace B0 := Lib.hid (B0.out.on hst.out)
  replace B1 := Lib.hid (B1.out.on hst.out)
  replace HW := Lib.hid (below_on HW.out hst.out)
  clear hst
  obtain ⟨_, B2p, B2q⟩ := B2.out
  go_wp2_with fail
  (with_reducible refine ((C4 _).out).mono ?_)
  rintro e y6 ⟨rfl, hb⟩
  clear B2p B2q
  have hst := Lib.hid hb
  clear hb
  replace B0 := Lib.hid (B0.out.on hst.out)
  replace B1 := Lib.hid (B1.out.on hst.out)
  replace B2 := Lib.hid (B2.out.on hst.out)
  replace HW := Lib.hid (below_on HW.out hst.out)
  clear hst
  clear AW VA C1 C2 C3 C4
  go_wp2_with fail
  refine wp_region_each (fun L A W => ∃ (v : Nat → Value) (g : Nat → Nat), A = ⟨#[.agg #[.int .i64 n, .int .i64 d], .int .i64 u, .pointer (some ⟨w.heap.size, 0, none⟩), undef, .bool false, .pointer (some ⟨y3.heap.size, 0, none⟩), .int .i64 0, .pointer (some ⟨y4.heap.size, 0, none⟩), .int .i64 0, .int .i64 s1, .int .i64 0, .int .i64 s2, .int .i64 0, undef, undef, undef, undef, undef, undef, .bool true, .bool false, .agg #[.int .i64 n, .int .i64 d], .bool true, .bool false, .bool false, .int .i64 u, .bool false, .bool false, .bool false, .int .i64 u, .bool false, .bool false, .tuple #[.agg #[.int .i64 s1, .int .i64 s2], .int .i64 0], .agg #[.int .i64 n, .int .i64 d], .int .i64 u, .tuple #[.agg #[.int .i64 s1, .int .i64 s2], .int .i64 0], .agg #[.int .i64 s1, .int .i64 s2], .int .i64 0, .tuple #[.agg #[.int .i64 pn, .int .i64 pd], .int .i64 0], .agg #[.int .i64 n, .int .i64 d], .int .i64 u, .agg #[.int .i64 u, .int .i64 1], .tuple #[.agg #[.int .i64 pn, .int .i64 pd], .int .i64 0], .agg #[.int .i64 pn, .int .i64 pd], .int .i64 0, .int .i64 0, .bool true, .tuple #[.int .i64 s1, .int .i64 0], .agg #[.int .i64 pn, .int .i64 pd], .tuple #[.int .i64 s1, .int .i64 0], .int .i64 s1, .int .i64 0, .tuple #[.int .i64 s2, .int .i64 0], .agg #[.int .i64 pn, .int .i64 pd], .tuple #[.int .i64 s2, .int .i64 0], .int .i64 s2, .int .i64 0, v 57, v 58, v 59, v 60, v 61, v 62, v 63, v 64, v 65, v 66, v 67, v 68, v 69, v 70, v 71, v 72, v 73, v 74, v 75, v 76, v 77, v 78, v 79, v 80, v 81, v 82, v 83, v 84, v 85, v 86, v 87, v 88, v 89, v 90, v 91, v 92, undef, undef, undef, undef, undef, undef, undef, undef, undef, undef, undef, undef, undef, undef, undef, undef, undef, undef, undef, undef, undef, undef, undef, undef, undef, undef, undef, undef, undef, undef, undef, undef, undef, undef, undef, undef, undef, undef, undef, undef, undef, undef, undef, undef, undef, undef, undef, undef], []⟩ ∧ Fr11110R w n d u s1 s2 t1 t2 pn pd pf z1 z2 hh b y3 y4 y6 L v g W) (by kernel_rfl) (by kernel_rfl) ⟨fun _ => undef, fun _ => 0, rfl, ⟨Below.drew (Below.refl _ _), Had.none, Had.none, Had.none, Had.none, Had.none, Had.none, Had.none, Had.none, Had.none, Had.none, Had.none, Had.none, Had.none, Had.none, Had.none, Had.none, Had.none, Had.none, Had.none, Had.none, Had.none, Had.none, Had.none, Had.none, Had.none, Had.none, Had.none, Had.none, Had.none, Had.none, Had.none, Had.none, Had.none, Had.none, Had.none, Had.none⟩⟩ (rs := [0, 1, 2, 3, 4, 5, 6, 7, 8, 9, 10, 11, 12, 13, 14, 15, 16, 17, 18, 19, 20, 21, 22, 23, 24, 25, 26, 27, 28, 29, 30, 31, 32, 33, 34, 35]) (by kernel_rfl) ?_ ?_
  · refine EachOf.cons [] rfl (by kernel_rfl) ?_ ?_
    · rintro L A W ⟨v, g, rfl, hR⟩ hi hw K hK
      go_simp
      refine hK.out _ _ ?_
      exact ⟨(fun jz => if jz = 57 then .int .i64 0 else v jz), g, rfl, ⟨hR.st, (fun _ => rfl), hR.f1.keep rfl, hR.f2.keep rfl, hR.f3.keep rfl, hR.f4.keep rfl, hR.f5.keep rfl, hR.f6.keep rfl, hR.f7.keep rfl, hR.f8.keep rfl, hR.f9.keep rfl, hR.f10.keep rfl, hR.f11.keep rfl, hR.f12.keep rfl, hR.f13.keep rfl, hR.f14.keep rfl, hR.f15.keep rfl, hR.f16.keep rfl, hR.f17.keep rfl, hR.f18.keep rfl, hR.f19.keep rfl, hR.f20.keep rfl, hR.f21.keep rfl, hR.f22.keep rfl, hR.f23.keep rfl, hR.f24.keep rfl, hR.f25.keep rfl, hR.f26.keep rfl, hR.f27.keep rfl, hR.f28.keep rfl, hR.f29.keep rfl, hR.f30.keep rfl, hR.f31.keep rfl, hR.f32.keep rfl, hR.f33.keep rfl, hR.f34.keep rfl, hR.f35.keep rfl⟩⟩
    refine EachOf.cons [0] rfl (by kernel_rfl) ?_ ?_
    · rintro L A W ⟨v, g, rfl, hR⟩ hi hw K hK
      have e0 := hR.f0 (hw 0 (by simp))
      simp only [e0]
      clear e0
      go_simp
      refine hK.out _ _ ?_
      exact ⟨(fun jz => if jz = 57 then .int .i64 0 else if jz = 58 then .bool false else v jz), g, rfl, ⟨hR.st, (fun _ => rfl), (fun _ => rfl), hR.f2.keep rfl, hR.f3.keep rfl, hR.f4.keep rfl, hR.f5.keep rfl, hR.f6.keep rfl, hR.f7.keep rfl, hR.f8.keep rfl, hR.f9.keep rfl, hR.f10.keep rfl, hR.f11.keep rfl, hR.f12.keep rfl, hR.f13.keep rfl, hR.f14.keep rfl, hR.f15.keep rfl, hR.f16.keep rfl, hR.f17.keep rfl, hR.f18.keep rfl, hR.f19.keep rfl, hR.f20.keep rfl, hR.f21.keep rfl, hR.f22.keep rfl, hR.f23.keep rfl, hR.f24.keep rfl, hR.f25.keep rfl, hR.f26.keep rfl, hR.f27.keep rfl, hR.f28.keep rfl, hR.f29.keep rfl, hR.f30.keep rfl, hR.f31.keep rfl, hR.f32.keep rfl, hR.f33.keep rfl, hR.f34.keep rfl, hR.f35.keep rfl⟩⟩
    refine EachOf.cons [1] rfl (by kernel_rfl) ?_ ?_
    · rintro L A W ⟨v, g, rfl, hR⟩ hi hw K hK
      have e1 := hR.f1 (hw 1 (by simp))
      simp only [e1]
      clear e1
      go_simp
      refine hK.out _ _ ?_
      exact ⟨(fun jz => if jz = 58 then .bool false else if jz = 59 then .bool false else v jz), g, rfl, ⟨hR.st, hR.f0.keep rfl, (fun _ => rfl), (fun _ => rfl), hR.f3.keep rfl, hR.f4.keep rfl, hR.f5.keep rfl, hR.f6.keep rfl, hR.f7.keep rfl, hR.f8.keep rfl, hR.f9.keep rfl, hR.f10.keep rfl, hR.f11.keep rfl, hR.f12.keep rfl, hR.f13.keep rfl, hR.f14.keep rfl, hR.f15.keep rfl, hR.f16.keep rfl, hR.f17.keep rfl, hR.f18.keep rfl, hR.f19.keep rfl, hR.f20.keep rfl, hR.f21.keep rfl, hR.f22.keep rfl, hR.f23.keep rfl, hR.f24.keep rfl, hR.f25.keep rfl, hR.f26.keep rfl, hR.f27.keep rfl, hR.f28.keep rfl, hR.f29.keep rfl, hR.f30.keep rfl, hR.f31.keep rfl, hR.f32.keep rfl, hR.f33.keep rfl, hR.f34.keep rfl, hR.f35.keep rfl⟩⟩
    refine EachOf.cons [2] rfl (by kernel_rfl) ?_ ?_
    · rintro L A W ⟨v, g, rfl, hR⟩ hi hw K hK
      have e2 := hR.f2 (hw 2 (by simp))
      simp only [e2]
      clear e2
      go_simp
      refine hK.out _ _ ?_
      exact ⟨(fun jz => if jz = 59 then .bool false else if jz = 60 then .int .i64 0 else v jz), g, rfl, ⟨hR.st, hR.f0.keep rfl, hR.f1.keep rfl, (fun _ => rfl), (fun _ => rfl), hR.f4.keep rfl, hR.f5.keep rfl, hR.f6.keep rfl, hR.f7.keep rfl, hR.f8.keep rfl, hR.f9.keep rfl, hR.f10.keep rfl, hR.f11.keep rfl, hR.f12.keep rfl, hR.f13.keep rfl, hR.f14.keep rfl, hR.f15.keep rfl, hR.f16.keep rfl, hR.f17.keep rfl, hR.f18.keep rfl, hR.f19.keep rfl, hR.f20.keep rfl, hR.f21.keep rfl, hR.f22.keep rfl, hR.f23.keep rfl, hR.f24.keep rfl, hR.f25.keep rfl, hR.f26.keep rfl, hR.f27.keep rfl, hR.f28.keep rfl, hR.f29.keep rfl, hR.f30.keep rfl, hR.f31.keep rfl, hR.f32.keep rfl, hR.f33.keep rfl, hR.f34.keep rfl, hR.f35.keep rfl⟩⟩
    refine EachOf.cons [3, 2] rfl (by kernel_rfl) ?_ ?_
    · rintro L A W ⟨v, g, rfl, hR⟩ hi hw K hK
      have e3 := hR.f3 (hw 3 (by simp))
      have e2 := hR.f2 (hw 2 (by simp))
      simp only [e3, e2]
      clear e3 e2
      go_simp
      refine hK.out _ _ ?_
      exact ⟨(fun jz => if jz = 60 then .int .i64 0 else if jz = 59 then .bool false else if jz = 61 then .bool false else v jz), g, rfl, ⟨hR.st, hR.f0.keep rfl, hR.f1.keep rfl, (fun _ => rfl), (fun _ => rfl), (fun _ => rfl), hR.f5.keep rfl, hR.f6.keep rfl, hR.f7.keep rfl, hR.f8.keep rfl, hR.f9.keep rfl, hR.f10.keep rfl, hR.f11.keep rfl, hR.f12.keep rfl, hR.f13.keep rfl, hR.f14.keep rfl, hR.f15.keep rfl, hR.f16.keep rfl, hR.f17.keep rfl, hR.f18.keep rfl, hR.f19.keep rfl, hR.f20.keep rfl, hR.f21.keep rfl, hR.f22.keep rfl, hR.f23.keep rfl, hR.f24.keep rfl, hR.f25.keep rfl, hR.f26.keep rfl, hR.f27.keep rfl, hR.f28.keep rfl, hR.f29.keep rfl, hR.f30.keep rfl, hR.f31.keep rfl, hR.f32.keep rfl, hR.f33.keep rfl, hR.f34.keep rfl, hR.f35.keep rfl⟩⟩
    refine EachOf.cons [2, 4] rfl (by kernel_rfl) ?_ ?_
    · rintro L A W ⟨v, g, rfl, hR⟩ hi hw K hK
      have e2 := hR.f2 (hw 2 (by simp))
      have e4 := hR.f4 (hw 4 (by simp))
      simp only [e2, e4]
      clear e2 e4
      go_simp
      refine hK.out _ _ ?_
      exact ⟨(fun jz => if jz = 59 then .bool false else if jz = 61 then .bool false else if jz = 62 then .bool false else v jz), g, rfl, ⟨hR.st, hR.f0.keep rfl, hR.f1.keep rfl, (fun _ => rfl), hR.f3.keep rfl, (fun _ => rfl), (fun _ => rfl), hR.f6.keep rfl, hR.f7.keep rfl, hR.f8.keep rfl, hR.f9.keep rfl, hR.f10.keep rfl, hR.f11.keep rfl, hR.f12.keep rfl, hR.f13.keep rfl, hR.f14.keep rfl, hR.f15.keep rfl, hR.f16.keep rfl, hR.f17.keep rfl, hR.f18.keep rfl, hR.f19.keep rfl, hR.f20.keep rfl, hR.f21.keep rfl, hR.f22.keep rfl, hR.f23.keep rfl, hR.f24.keep rfl, hR.f25.keep rfl, hR.f26.keep rfl, hR.f27.keep rfl, hR.f28.keep rfl, hR.f29.keep rfl, hR.f30.keep rfl, hR.f31.keep rfl, hR.f32.keep rfl, hR.f33.keep rfl, hR.f34.keep rfl, hR.f35.keep rfl⟩⟩
    refine EachOf.cons [5] rfl (by kernel_rfl) ?_ ?_
    · rintro L A W ⟨v, g, rfl, hR⟩ hi hw K hK
      have e5 := hR.f5 (hw 5 (by simp))
      simp only [e5]
      clear e5
      go_simp
      refine hK.out _ _ ?_
      exact ⟨(fun jz => if jz = 62 then .bool false else if jz = 63 then .bool false else v jz), g, rfl, ⟨hR.st, hR.f0.keep rfl, hR.f1.keep rfl, hR.f2.keep rfl, hR.f3.keep rfl, hR.f4.keep rfl, (fun _ => rfl), (fun _ => rfl), hR.f7.keep rfl, hR.f8.keep rfl, hR.f9.keep rfl, hR.f10.keep rfl, hR.f11.keep rfl, hR.f12.keep rfl, hR.f13.keep rfl, hR.f14.keep rfl, hR.f15.keep rfl, hR.f16.keep rfl, hR.f17.keep rfl, hR.f18.keep rfl, hR.f19.keep rfl, hR.f20.keep rfl, hR.f21.keep rfl, hR.f22.keep rfl, hR.f23.keep rfl, hR.f24.keep rfl, hR.f25.keep rfl, hR.f26.keep rfl, hR.f27.keep rfl, hR.f28.keep rfl, hR.f29.keep rfl, hR.f30.keep rfl, hR.f31.keep rfl, hR.f32.keep rfl, hR.f33.keep rfl, hR.f34.keep rfl, hR.f35.keep rfl⟩⟩
    refine EachOf.cons [6] rfl (by kernel_rfl) ?_ ?_
    · rintro L A W ⟨v, g, rfl, hR⟩ hi hw K hK
      have e6 := hR.f6 (hw 6 (by simp))
      simp only [e6]
      clear e6
      go_simp
      refine hK.out _ _ ?_
      exact ⟨(fun jz => if jz = 63 then .bool false else if jz = 64 then .int .i64 0 else v jz), g, rfl, ⟨hR.st, hR.f0.keep rfl, hR.f1.keep rfl, hR.f2.keep rfl, hR.f3.keep rfl, hR.f4.keep rfl, hR.f5.keep rfl, (fun _ => rfl), (fun _ => rfl), hR.f8.keep rfl, hR.f9.keep rfl, hR.f10.keep rfl, hR.f11.keep rfl, hR.f12.keep rfl, hR.f13.keep rfl, hR.f14.keep rfl, hR.f15.keep rfl, hR.f16.keep rfl, hR.f17.keep rfl, hR.f18.keep rfl, hR.f19.keep rfl, hR.f20.keep rfl, hR.f21.keep rfl, hR.f22.keep rfl, hR.f23.keep rfl, hR.f24.keep rfl, hR.f25.keep rfl, hR.f26.keep rfl, hR.f27.keep rfl, hR.f28.keep rfl, hR.f29.keep rfl, hR.f30.keep rfl, hR.f31.keep rfl, hR.f32.keep rfl, hR.f33.keep rfl, hR.f34.keep rfl, hR.f35.keep rfl⟩⟩
    refine EachOf.cons [7, 6] rfl (by kernel_rfl) ?_ ?_
    · rintro L A W ⟨v, g, rfl, hR⟩ hi hw K hK
      have e7 := hR.f7 (hw 7 (by simp))
      have e6 := hR.f6 (hw 6 (by simp))
      simp only [e7, e6]
      clear e7 e6
      go_simp
      refine hK.out _ _ ?_
      exact ⟨(fun jz => if jz = 64 then .int .i64 0 else if jz = 63 then .bool false else if jz = 65 then .bool false else v jz), g, rfl, ⟨hR.st, hR.f0.keep rfl, hR.f1.keep rfl, hR.f2.keep rfl, hR.f3.keep rfl, hR.f4.keep rfl, hR.f5.keep rfl, (fun _ => rfl), (fun _ => rfl), (fun _ => rfl), hR.f9.keep rfl, hR.f10.keep rfl, hR.f11.keep rfl, hR.f12.keep rfl, hR.f13.keep rfl, hR.f14.keep rfl, hR.f15.keep rfl, hR.f16.keep rfl, hR.f17.keep rfl, hR.f18.keep rfl, hR.f19.keep rfl, hR.f20.keep rfl, hR.f21.keep rfl, hR.f22.keep rfl, hR.f23.keep rfl, hR.f24.keep rfl, hR.f25.keep rfl, hR.f26.keep rfl, hR.f27.keep rfl, hR.f28.keep rfl, hR.f29.keep rfl, hR.f30.keep rfl, hR.f31.keep rfl, hR.f32.keep rfl, hR.f33.keep rfl, hR.f34.keep rfl, hR.f35.keep rfl⟩⟩
    refine EachOf.cons [6, 8] rfl (by kernel_rfl) ?_ ?_
    · rintro L A W ⟨v, g, rfl, hR⟩ hi hw K hK
      have e6 := hR.f6 (hw 6 (by simp))
      have e8 := hR.f8 (hw 8 (by simp))
      simp only [e6, e8]
      clear e6 e8
      go_simp
      refine hK.out _ _ ?_
      exact ⟨(fun jz => if jz = 63 then .bool false else if jz = 65 then .bool false else if jz = 66 then .bool false else v jz), g, rfl, ⟨hR.st, hR.f0.keep rfl, hR.f1.keep rfl, hR.f2.keep rfl, hR.f3.keep rfl, hR.f4.keep rfl, hR.f5.keep rfl, (fun _ => rfl), hR.f7.keep rfl, (fun _ => rfl), (fun _ => rfl), hR.f10.keep rfl, hR.f11.keep rfl, hR.f12.keep rfl, hR.f13.keep rfl, hR.f14.keep rfl, hR.f15.keep rfl, hR.f16.keep rfl, hR.f17.keep rfl, hR.f18.keep rfl, hR.f19.keep rfl, hR.f20.keep rfl, hR.f21.keep rfl, hR.f22.keep rfl, hR.f23.keep rfl, hR.f24.keep rfl, hR.f25.keep rfl, hR.f26.keep rfl, hR.f27.keep rfl, hR.f28.keep rfl, hR.f29.keep rfl, hR.f30.keep rfl, hR.f31.keep rfl, hR.f32.keep rfl, hR.f33.keep rfl, hR.f34.keep rfl, hR.f35.keep rfl⟩⟩
    refine EachOf.cons [9] rfl (by kernel_rfl) ?_ ?_
    · rintro L A W ⟨v, g, rfl, hR⟩ hi hw K hK
      have e9 := hR.f9 (hw 9 (by simp))
      simp only [e9]
      clear e9
      go_simp
      refine hK.out _ _ ?_
      exact ⟨(fun jz => if jz = 66 then .bool false else if jz = 67 then .bool false else v jz), g, rfl, ⟨hR.st, hR.f0.keep rfl, hR.f1.keep rfl, hR.f2.keep rfl, hR.f3.keep rfl, hR.f4.keep rfl, hR.f5.keep rfl, hR.f6.keep rfl, hR.f7.keep rfl, hR.f8.keep rfl, (fun _ => rfl), (fun _ => rfl), hR.f11.keep rfl, hR.f12.keep rfl, hR.f13.keep rfl, hR.f14.keep rfl, hR.f15.keep rfl, hR.f16.keep rfl, hR.f17.keep rfl, hR.f18.keep rfl, hR.f19.keep rfl, hR.f20.keep rfl, hR.f21.keep rfl, hR.f22.keep rfl, hR.f23.keep rfl, hR.f24.keep rfl, hR.f25.keep rfl, hR.f26.keep rfl, hR.f27.keep rfl, hR.f28.keep rfl, hR.f29.keep rfl, hR.f30.keep rfl, hR.f31.keep rfl, hR.f32.keep rfl, hR.f33.keep rfl, hR.f34.keep rfl, hR.f35.keep rfl⟩⟩
    refine EachOf.cons [10] rfl (by kernel_rfl) ?_ ?_
    · rintro L A W ⟨v, g, rfl, hR⟩ hi hw K hK
      have e10 := hR.f10 (hw 10 (by simp))
      simp only [e10]
      clear e10
      obtain ⟨_, q0, q1⟩ := B1.out.on hR.st
      go_simp
      refine hK.out _ _ ?_
      exact ⟨(fun jz => if jz = 67 then .bool false else if jz = 68 then .agg #[.int .i64 s1, .int .i64 s2] else v jz), g, rfl, ⟨hR.st, hR.f0.keep rfl, hR.f1.keep rfl, hR.f2.keep rfl, hR.f3.keep rfl, hR.f4.keep rfl, hR.f5.keep rfl, hR.f6.keep rfl, hR.f7.keep rfl, hR.f8.keep rfl, hR.f9.keep rfl, (fun _ => rfl), (fun _ => rfl), hR.f12.keep rfl, hR.f13.keep rfl, hR.f14.keep rfl, hR.f15.keep rfl, hR.f16.keep rfl, hR.f17.keep rfl, hR.f18.keep rfl, hR.f19.keep rfl, hR.f20.keep rfl, hR.f21.keep rfl, hR.f22.keep rfl, hR.f23.keep rfl, hR.f24.keep rfl, hR.f25.keep rfl, hR.f26.keep rfl, hR.f27.keep rfl, hR.f28.keep rfl, hR.f29.keep rfl, hR.f30.keep rfl, hR.f31.keep rfl, hR.f32.keep rfl, hR.f33.keep rfl, hR.f34.keep rfl, hR.f35.keep rfl⟩⟩
    refine EachOf.cons [10] rfl (by kernel_rfl) ?_ ?_
    · rintro L A W ⟨v, g, rfl, hR⟩ hi hw K hK
      have e10 := hR.f10 (hw 10 (by simp))
      simp only [e10]
      clear e10
      go_simp
      refine hK.out _ _ ?_
      exact ⟨(fun jz => if jz = 67 then .bool false else if jz = 69 then .int .i64 s1 else v jz), g, rfl, ⟨hR.st, hR.f0.keep rfl, hR.f1.keep rfl, hR.f2.keep rfl, hR.f3.keep rfl, hR.f4.keep rfl, hR.f5.keep rfl, hR.f6.keep rfl, hR.f7.keep rfl, hR.f8.keep rfl, hR.f9.keep rfl, (fun _ => rfl), hR.f11.keep rfl, (fun _ => rfl), hR.f13.keep rfl, hR.f14.keep rfl, hR.f15.keep rfl, hR.f16.keep rfl, hR.f17.keep rfl, hR.f18.keep rfl, hR.f19.keep rfl, hR.f20.keep rfl, hR.f21.keep rfl, hR.f22.keep rfl, hR.f23.keep rfl, hR.f24.keep rfl, hR.f25.keep rfl, hR.f26.keep rfl, hR.f27.keep rfl, hR.f28.keep rfl, hR.f29.keep rfl, hR.f30.keep rfl, hR.f31.keep rfl, hR.f32.keep rfl, hR.f33.keep rfl, hR.f34.keep rfl, hR.f35.keep rfl⟩⟩
    refine EachOf.cons [10] rfl (by kernel_rfl) ?_ ?_
    · rintro L A W ⟨v, g, rfl, hR⟩ hi hw K hK
      have e10 := hR.f10 (hw 10 (by simp))
      simp only [e10]
      clear e10
      go_simp
      refine hK.out _ _ ?_
      exact ⟨(fun jz => if jz = 67 then .bool false else if jz = 70 then .int .i64 s2 else v jz), g, rfl, ⟨hR.st, hR.f0.keep rfl, hR.f1.keep rfl, hR.f2.keep rfl, hR.f3.keep rfl, hR.f4.keep rfl, hR.f5.keep rfl, hR.f6.keep rfl, hR.f7.keep rfl, hR.f8.keep rfl, hR.f9.keep rfl, (fun _ => rfl), hR.f11.keep rfl, hR.f12.keep rfl, (fun _ => rfl), hR.f14.keep rfl, hR.f15.keep rfl, hR.f16.keep rfl, hR.f17.keep rfl, hR.f18.keep rfl, hR.f19.keep rfl, hR.f20.keep rfl, hR.f21.keep rfl, hR.f22.keep rfl, hR.f23.keep rfl, hR.f24.keep rfl, hR.f25.keep rfl, hR.f26.keep rfl, hR.f27.keep rfl, hR.f28.keep rfl, hR.f29.keep rfl, hR.f30.keep rfl, hR.f31.keep rfl, hR.f32.keep rfl, hR.f33.keep rfl, hR.f34.keep rfl, hR.f35.keep rfl⟩⟩
    refine EachOf.cons [12, 13, 10] rfl (by kernel_rfl) ?_ ?_
    · rintro L A W ⟨v, g, rfl, hR⟩ hi hw K hK
      have e12 := hR.f12 (hw 12 (by simp))
      have e13 := hR.f13 (hw 13 (by simp))
      have e10 := hR.f10 (hw 10 (by simp))
      simp only [e12, e13, e10]
      clear e12 e13 e10
      go_simp
      go_at_call 39
      (with_reducible refine ((O1 _).out).mono ?_)
      rintro e w2 ⟨rfl, hb⟩
      go_simp
      refine hK.out _ _ ?_
      exact ⟨(fun jz => if jz = 69 then .int .i64 s1 else if jz = 70 then .int .i64 s2 else if jz = 67 then .bool false else if jz = 71 then .agg #[.int .i64 s1, .int .i64 s2] else v jz), g, rfl, ⟨below_on hR.st hb, hR.f0.keep rfl, hR.f1.keep rfl, hR.f2.keep rfl, hR.f3.keep rfl, hR.f4.keep rfl, hR.f5.keep rfl, hR.f6.keep rfl, hR.f7.keep rfl, hR.f8.keep rfl, hR.f9.keep rfl, (fun _ => rfl), hR.f11.keep rfl, (fun _ => rfl), (fun _ => rfl), (fun _ => rfl), hR.f15.keep rfl, hR.f16.keep rfl, hR.f17.keep rfl, hR.f18.keep rfl, hR.f19.keep rfl, hR.f20.keep rfl, hR.f21.keep rfl, hR.f22.keep rfl, hR.f23.keep rfl, hR.f24.keep rfl, hR.f25.keep rfl, hR.f26.keep rfl, hR.f27.keep rfl, hR.f28.keep rfl, hR.f29.keep rfl, hR.f30.keep rfl, hR.f31.keep rfl, hR.f32.keep rfl, hR.f33.keep rfl, hR.f34.keep rfl, hR.f35.keep rfl⟩⟩
    refine EachOf.cons [11, 14, 10] rfl (by kernel_rfl) ?_ ?_
    · rintro L A W ⟨v, g, rfl, hR⟩ hi hw K hK
      have e11 := hR.f11 (hw 11 (by simp))
      have e14 := hR.f14 (hw 14 (by simp))
      have e10 := hR.f10 (hw 10 (by simp))
      simp only [e11, e14, e10]
      clear e11 e14 e10
      go_simp
      refine hK.out _ _ ?_
      exact ⟨(fun jz => if jz = 68 then .agg #[.int .i64 s1, .int .i64 s2] else if jz = 71 then .agg #[.int .i64 s1, .int .i64 s2] else if jz = 67 then .bool false else if jz = 72 then .bool false else v jz), g, rfl, ⟨hR.st, hR.f0.keep rfl, hR.f1.keep rfl, hR.f2.keep rfl, hR.f3.keep rfl, hR.f4.keep rfl, hR.f5.keep rfl, hR.f6.keep rfl, hR.f7.keep rfl, hR.f8.keep rfl, hR.f9.keep rfl, (fun _ => rfl), (fun _ => rfl), hR.f12.keep rfl, hR.f13.keep rfl, (fun _ => rfl), (fun _ => rfl), hR.f16.keep rfl, hR.f17.keep rfl, hR.f18.keep rfl, hR.f19.keep rfl, hR.f20.keep rfl, hR.f21.keep rfl, hR.f22.keep rfl, hR.f23.keep rfl, hR.f24.keep rfl, hR.f25.keep rfl, hR.f26.keep rfl, hR.f27.keep rfl, hR.f28.keep rfl, hR.f29.keep rfl, hR.f30.keep rfl, hR.f31.keep rfl, hR.f32.keep rfl, hR.f33.keep rfl, hR.f34.keep rfl, hR.f35.keep rfl⟩⟩
    refine EachOf.cons [10, 15] rfl (by kernel_rfl) ?_ ?_
    · rintro L A W ⟨v, g, rfl, hR⟩ hi hw K hK
      have e10 := hR.f10 (hw 10 (by simp))
      have e15 := hR.f15 (hw 15 (by simp))
      simp only [e10, e15]
      clear e10 e15
      go_simp
      refine hK.out _ _ ?_
      exact ⟨(fun jz => if jz = 67 then .bool false else if jz = 72 then .bool false else if jz = 73 then .bool false else v jz), g, rfl, ⟨hR.st, hR.f0.keep rfl, hR.f1.keep rfl, hR.f2.keep rfl, hR.f3.keep rfl, hR.f4.keep rfl, hR.f5.keep rfl, hR.f6.keep rfl, hR.f7.keep rfl, hR.f8.keep rfl, hR.f9.keep rfl, (fun _ => rfl), hR.f11.keep rfl, hR.f12.keep rfl, hR.f13.keep rfl, hR.f14.keep rfl, (fun _ => rfl), (fun _ => rfl), hR.f17.keep rfl, hR.f18.keep rfl, hR.f19.keep rfl, hR.f20.keep rfl, hR.f21.keep rfl, hR.f22.keep rfl, hR.f23.keep rfl, hR.f24.keep rfl, hR.f25.keep rfl, hR.f26.keep rfl, hR.f27.keep rfl, hR.f28.keep rfl, hR.f29.keep rfl, hR.f30.keep rfl, hR.f31.keep rfl, hR.f32.keep rfl, hR.f33.keep rfl, hR.f34.keep rfl, hR.f35.keep rfl⟩⟩
    refine EachOf.cons [16] rfl (by kernel_rfl) ?_ ?_
    · rintro L A W ⟨v, g, rfl, hR⟩ hi hw K hK
      have e16 := hR.f16 (hw 16 (by simp))
      simp only [e16]
      clear e16
      go_simp
      refine hK.out _ _ ?_
      exact ⟨(fun jz => if jz = 73 then .bool false else if jz = 74 then .bool false else v jz), g, rfl, ⟨hR.st, hR.f0.keep rfl, hR.f1.keep rfl, hR.f2.keep rfl, hR.f3.keep rfl, hR.f4.keep rfl, hR.f5.keep rfl, hR.f6.keep rfl, hR.f7.keep rfl, hR.f8.keep rfl, hR.f9.keep rfl, hR.f10.keep rfl, hR.f11.keep rfl, hR.f12.keep rfl, hR.f13.keep rfl, hR.f14.keep rfl, hR.f15.keep rfl, (fun _ => rfl), (fun _ => rfl), hR.f18.keep rfl, hR.f19.keep rfl, hR.f20.keep rfl, hR.f21.keep rfl, hR.f22.keep rfl, hR.f23.keep rfl, hR.f24.keep rfl, hR.f25.keep rfl, hR.f26.keep rfl, hR.f27.keep rfl, hR.f28.keep rfl, hR.f29.keep rfl, hR.f30.keep rfl, hR.f31.keep rfl, hR.f32.keep rfl, hR.f33.keep rfl, hR.f34.keep rfl, hR.f35.keep rfl⟩⟩
    refine EachOf.cons [17] rfl (by kernel_rfl) ?_ ?_
    · rintro L A W ⟨v, g, rfl, hR⟩ hi hw K hK
      have e17 := hR.f17 (hw 17 (by simp))
      simp only [e17]
      clear e17
      go_simp
      refine hK.out _ _ ?_
      exact ⟨(fun jz => if jz = 74 then .bool false else if jz = 75 then .pointer (some ⟨y3.heap.size, 1, none⟩) else v jz), g, rfl, ⟨hR.st, hR.f0.keep rfl, hR.f1.keep rfl, hR.f2.keep rfl, hR.f3.keep rfl, hR.f4.keep rfl, hR.f5.keep rfl, hR.f6.keep rfl, hR.f7.keep rfl, hR.f8.keep rfl, hR.f9.keep rfl, hR.f10.keep rfl, hR.f11.keep rfl, hR.f12.keep rfl, hR.f13.keep rfl, hR.f14.keep rfl, hR.f15.keep rfl, hR.f16.keep rfl, (fun _ => rfl), (fun _ => rfl), hR.f19.keep rfl, hR.f20.keep rfl, hR.f21.keep rfl, hR.f22.keep rfl, hR.f23.keep rfl, hR.f24.keep rfl, hR.f25.keep rfl, hR.f26.keep rfl, hR.f27.keep rfl, hR.f28.keep rfl, hR.f29.keep rfl, hR.f30.keep rfl, hR.f31.keep rfl, hR.f32.keep rfl, hR.f33.keep rfl, hR.f34.keep rfl, hR.f35.keep rfl⟩⟩
    refine EachOf.cons [18, 17] rfl (by kernel_rfl) ?_ ?_
    · rintro L A W ⟨v, g, rfl, hR⟩ hi hw K hK
      have e18 := hR.f18 (hw 18 (by simp))
      have e17 := hR.f17 (hw 17 (by simp))
      simp only [e18, e17]
      clear e18 e17
      obtain ⟨_, q0, q1⟩ := B1.out.on hR.st
      go_simp
      refine hK.out _ _ ?_
      exact ⟨(fun jz => if jz = 75 then .pointer (some ⟨y3.heap.size, 1, none⟩) else if jz = 74 then .bool false else if jz = 76 then .int .i64 s2 else v jz), g, rfl, ⟨hR.st, hR.f0.keep rfl, hR.f1.keep rfl, hR.f2.keep rfl, hR.f3.keep rfl, hR.f4.keep rfl, hR.f5.keep rfl, hR.f6.keep rfl, hR.f7.keep rfl, hR.f8.keep rfl, hR.f9.keep rfl, hR.f10.keep rfl, hR.f11.keep rfl, hR.f12.keep rfl, hR.f13.keep rfl, hR.f14.keep rfl, hR.f15.keep rfl, hR.f16.keep rfl, (fun _ => rfl), (fun _ => rfl), (fun _ => rfl), hR.f20.keep rfl, hR.f21.keep rfl, hR.f22.keep rfl, hR.f23.keep rfl, hR.f24.keep rfl, hR.f25.keep rfl, hR.f26.keep rfl, hR.f27.keep rfl, hR.f28.keep rfl, hR.f29.keep rfl, hR.f30.keep rfl, hR.f31.keep rfl, hR.f32.keep rfl, hR.f33.keep rfl, hR.f34.keep rfl, hR.f35.keep rfl⟩⟩
    refine EachOf.cons [17] rfl (by kernel_rfl) ?_ ?_
    · rintro L A W ⟨v, g, rfl, hR⟩ hi hw K hK
      have e17 := hR.f17 (hw 17 (by simp))
      simp only [e17]
      clear e17
      go_simp
      refine hK.out _ _ ?_
      exact ⟨(fun jz => if jz = 74 then .bool false else if jz = 77 then .pointer (some ⟨y3.heap.size, 0, none⟩) else v jz), g, rfl, ⟨hR.st, hR.f0.keep rfl, hR.f1.keep rfl, hR.f2.keep rfl, hR.f3.keep rfl, hR.f4.keep rfl, hR.f5.keep rfl, hR.f6.keep rfl, hR.f7.keep rfl, hR.f8.keep rfl, hR.f9.keep rfl, hR.f10.keep rfl, hR.f11.keep rfl, hR.f12.keep rfl, hR.f13.keep rfl, hR.f14.keep rfl, hR.f15.keep rfl, hR.f16.keep rfl, (fun _ => rfl), hR.f18.keep rfl, hR.f19.keep rfl, (fun _ => rfl), hR.f21.keep rfl, hR.f22.keep rfl, hR.f23.keep rfl, hR.f24.keep rfl, hR.f25.keep rfl, hR.f26.keep rfl, hR.f27.keep rfl, hR.f28.keep rfl, hR.f29.keep rfl, hR.f30.keep rfl, hR.f31.keep rfl, hR.f32.keep rfl, hR.f33.keep rfl, hR.f34.keep rfl, hR.f35.keep rfl⟩⟩
    refine EachOf.cons [20, 17] rfl (by kernel_rfl) ?_ ?_
    · rintro L A W ⟨v, g, rfl, hR⟩ hi hw K hK
      have e20 := hR.f20 (hw 20 (by simp))
      have e17 := hR.f17 (hw 17 (by simp))
      simp only [e20, e17]
      clear e20 e17
      obtain ⟨_, q0, q1⟩ := B1.out.on hR.st
      go_simp
      refine hK.out _ _ ?_
      exact ⟨(fun jz => if jz = 77 then .pointer (some ⟨y3.heap.size, 0, none⟩) else if jz = 74 then .bool false else if jz = 78 then .int .i64 s1 else v jz), g, rfl, ⟨hR.st, hR.f0.keep rfl, hR.f1.keep rfl, hR.f2.keep rfl, hR.f3.keep rfl, hR.f4.keep rfl, hR.f5.keep rfl, hR.f6.keep rfl, hR.f7.keep rfl, hR.f8.keep rfl, hR.f9.keep rfl, hR.f10.keep rfl, hR.f11.keep rfl, hR.f12.keep rfl, hR.f13.keep rfl, hR.f14.keep rfl, hR.f15.keep rfl, hR.f16.keep rfl, (fun _ => rfl), hR.f18.keep rfl, hR.f19.keep rfl, (fun _ => rfl), (fun _ => rfl), hR.f22.keep rfl, hR.f23.keep rfl, hR.f24.keep rfl, hR.f25.keep rfl, hR.f26.keep rfl, hR.f27.keep rfl, hR.f28.keep rfl, hR.f29.keep rfl, hR.f30.keep rfl, hR.f31.keep rfl, hR.f32.keep rfl, hR.f33.keep rfl, hR.f34.keep rfl, hR.f35.keep rfl⟩⟩
    refine EachOf.cons [19, 21, 17] rfl (by kernel_rfl) ?_ ?_
    · rintro L A W ⟨v, g, rfl, hR⟩ hi hw K hK
      have e19 := hR.f19 (hw 19 (by simp))
      have e21 := hR.f21 (hw 21 (by simp))
      have e17 := hR.f17 (hw 17 (by simp))
      simp only [e19, e21, e17]
      clear e19 e21 e17
      go_simp
      refine hK.out _ _ ?_
      exact ⟨(fun jz => if jz = 76 then .int .i64 s2 else if jz = 78 then .int .i64 s1 else if jz = 74 then .bool false else if jz = 79 then .int .i64 (s2 - s1) else v jz), g, rfl, ⟨hR.st, hR.f0.keep rfl, hR.f1.keep rfl, hR.f2.keep rfl, hR.f3.keep rfl, hR.f4.keep rfl, hR.f5.keep rfl, hR.f6.keep rfl, hR.f7.keep rfl, hR.f8.keep rfl, hR.f9.keep rfl, hR.f10.keep rfl, hR.f11.keep rfl, hR.f12.keep rfl, hR.f13.keep rfl, hR.f14.keep rfl, hR.f15.keep rfl, hR.f16.keep rfl, (fun _ => rfl), hR.f18.keep rfl, (fun _ => rfl), hR.f20.keep rfl, (fun _ => rfl), (fun _ => rfl), hR.f23.keep rfl, hR.f24.keep rfl, hR.f25.keep rfl, hR.f26.keep rfl, hR.f27.keep rfl, hR.f28.keep rfl, hR.f29.keep rfl, hR.f30.keep rfl, hR.f31.keep rfl, hR.f32.keep rfl, hR.f33.keep rfl, hR.f34.keep rfl, hR.f35.keep rfl⟩⟩
    refine EachOf.cons [22, 17] rfl (by kernel_rfl) ?_ ?_
    · rintro L A W ⟨v, g, rfl, hR⟩ hi hw K hK
      have e22 := hR.f22 (hw 22 (by simp))
      have e17 := hR.f17 (hw 17 (by simp))
      simp only [e22, e17]
      clear e22 e17
      go_simp
      refine hK.out _ _ ?_
      exact ⟨(fun jz => if jz = 79 then .int .i64 (s2 - s1) else if jz = 74 then .bool false else if jz = 80 then .bool false else v jz), g, rfl, ⟨hR.st, hR.f0.keep rfl, hR.f1.keep rfl, hR.f2.keep rfl, hR.f3.keep rfl, hR.f4.keep rfl, hR.f5.keep rfl, hR.f6.keep rfl, hR.f7.keep rfl, hR.f8.keep rfl, hR.f9.keep rfl, hR.f10.keep rfl, hR.f11.keep rfl, hR.f12.keep rfl, hR.f13.keep rfl, hR.f14.keep rfl, hR.f15.keep rfl, hR.f16.keep rfl, (fun _ => rfl), hR.f18.keep rfl, hR.f19.keep rfl, hR.f20.keep rfl, hR.f21.keep rfl, (fun _ => rfl), (fun _ => rfl), hR.f24.keep rfl, hR.f25.keep rfl, hR.f26.keep rfl, hR.f27.keep rfl, hR.f28.keep rfl, hR.f29.keep rfl, hR.f30.keep rfl, hR.f31.keep rfl, hR.f32.keep rfl, hR.f33.keep rfl, hR.f34.keep rfl, hR.f35.keep rfl⟩⟩
    refine EachOf.cons [17, 23] rfl (by kernel_rfl) ?_ ?_
    · rintro L A W ⟨v, g, rfl, hR⟩ hi hw K hK
      have e17 := hR.f17 (hw 17 (by simp))
      have e23 := hR.f23 (hw 23 (by simp))
      simp only [e17, e23]
      clear e17 e23
      go_simp
      refine hK.out _ _ ?_
      exact ⟨(fun jz => if jz = 74 then .bool false else if jz = 80 then .bool false else if jz = 81 then .bool false else v jz), g, rfl, ⟨hR.st, hR.f0.keep rfl, hR.f1.keep rfl, hR.f2.keep rfl, hR.f3.keep rfl, hR.f4.keep rfl, hR.f5.keep rfl, hR.f6.keep rfl, hR.f7.keep rfl, hR.f8.keep rfl, hR.f9.keep rfl, hR.f10.keep rfl, hR.f11.keep rfl, hR.f12.keep rfl, hR.f13.keep rfl, hR.f14.keep rfl, hR.f15.keep rfl, hR.f16.keep rfl, (fun _ => rfl), hR.f18.keep rfl, hR.f19.keep rfl, hR.f20.keep rfl, hR.f21.keep rfl, hR.f22.keep rfl, (fun _ => rfl), (fun _ => rfl), hR.f25.keep rfl, hR.f26.keep rfl, hR.f27.keep rfl, hR.f28.keep rfl, hR.f29.keep rfl, hR.f30.keep rfl, hR.f31.keep rfl, hR.f32.keep rfl, hR.f33.keep rfl, hR.f34.keep rfl, hR.f35.keep rfl⟩⟩
    refine EachOf.cons [24] rfl (by kernel_rfl) ?_ ?_
    · rintro L A W ⟨v, g, rfl, hR⟩ hi hw K hK
      have e24 := hR.f24 (hw 24 (by simp))
      simp only [e24]
      clear e24
      go_simp
      refine hK.out _ _ ?_
      exact ⟨(fun jz => if jz = 81 then .bool false else if jz = 82 then .bool false else v jz), g, rfl, ⟨hR.st, hR.f0.keep rfl, hR.f1.keep rfl, hR.f2.keep rfl, hR.f3.keep rfl, hR.f4.keep rfl, hR.f5.keep rfl, hR.f6.keep rfl, hR.f7.keep rfl, hR.f8.keep rfl, hR.f9.keep rfl, hR.f10.keep rfl, hR.f11.keep rfl, hR.f12.keep rfl, hR.f13.keep rfl, hR.f14.keep rfl, hR.f15.keep rfl, hR.f16.keep rfl, hR.f17.keep rfl, hR.f18.keep rfl, hR.f19.keep rfl, hR.f20.keep rfl, hR.f21.keep rfl, hR.f22.keep rfl, hR.f23.keep rfl, (fun _ => rfl), (fun _ => rfl), hR.f26.keep rfl, hR.f27.keep rfl, hR.f28.keep rfl, hR.f29.keep rfl, hR.f30.keep rfl, hR.f31.keep rfl, hR.f32.keep rfl, hR.f33.keep rfl, hR.f34.keep rfl, hR.f35.keep rfl⟩⟩
    refine EachOf.cons [25] rfl (by kernel_rfl) ?_ ?_
    · rintro L A W ⟨v, g, rfl, hR⟩ hi hw K hK
      have e25 := hR.f25 (hw 25 (by simp))
      simp only [e25]
      clear e25
      go_simp
      refine hK.out _ _ ?_
      exact ⟨(fun jz => if jz = 82 then .bool false else if jz = 83 then .pointer (some ⟨y4.heap.size, 1, none⟩) else v jz), g, rfl, ⟨hR.st, hR.f0.keep rfl, hR.f1.keep rfl, hR.f2.keep rfl, hR.f3.keep rfl, hR.f4.keep rfl, hR.f5.keep rfl, hR.f6.keep rfl, hR.f7.keep rfl, hR.f8.keep rfl, hR.f9.keep rfl, hR.f10.keep rfl, hR.f11.keep rfl, hR.f12.keep rfl, hR.f13.keep rfl, hR.f14.keep rfl, hR.f15.keep rfl, hR.f16.keep rfl, hR.f17.keep rfl, hR.f18.keep rfl, hR.f19.keep rfl, hR.f20.keep rfl, hR.f21.keep rfl, hR.f22.keep rfl, hR.f23.keep rfl, hR.f24.keep rfl, (fun _ => rfl), (fun _ => rfl), hR.f27.keep rfl, hR.f28.keep rfl, hR.f29.keep rfl, hR.f30.keep rfl, hR.f31.keep rfl, hR.f32.keep rfl, hR.f33.keep rfl, hR.f34.keep rfl, hR.f35.keep rfl⟩⟩
    refine EachOf.cons [26, 25] rfl (by kernel_rfl) ?_ ?_
    · rintro L A W ⟨v, g, rfl, hR⟩ hi hw K hK
      have e26 := hR.f26 (hw 26 (by simp))
      have e25 := hR.f25 (hw 25 (by simp))
      simp only [e26, e25]
      clear e26 e25
      obtain ⟨_, q0, q1⟩ := B2.out.on hR.st
      go_simp
      refine hK.out _ _ ?_
      exact ⟨(fun jz => if jz = 83 then .pointer (some ⟨y4.heap.size, 1, none⟩) else if jz = 82 then .bool false else if jz = 84 then .int .i64 pd else v jz), g, rfl, ⟨hR.st, hR.f0.keep rfl, hR.f1.keep rfl, hR.f2.keep rfl, hR.f3.keep rfl, hR.f4.keep rfl, hR.f5.keep rfl, hR.f6.keep rfl, hR.f7.keep rfl, hR.f8.keep rfl, hR.f9.keep rfl, hR.f10.keep rfl, hR.f11.keep rfl, hR.f12.keep rfl, hR.f13.keep rfl, hR.f14.keep rfl, hR.f15.keep rfl, hR.f16.keep rfl, hR.f17.keep rfl, hR.f18.keep rfl, hR.f19.keep rfl, hR.f20.keep rfl, hR.f21.keep rfl, hR.f22.keep rfl, hR.f23.keep rfl, hR.f24.keep rfl, (fun _ => rfl), (fun _ => rfl), (fun _ => rfl), hR.f28.keep rfl, hR.f29.keep rfl, hR.f30.keep rfl, hR.f31.keep rfl, hR.f32.keep rfl, hR.f33.keep rfl, hR.f34.keep rfl, hR.f35.keep rfl⟩⟩
    refine EachOf.cons [27, 25] rfl (by kernel_rfl) ?_ ?_
    · rintro L A W ⟨v, g, rfl, hR⟩ hi hw K hK
      have e27 := hR.f27 (hw 27 (by simp))
      have e25 := hR.f25 (hw 25 (by simp))
      simp only [e27, e25]
      clear e27 e25
      go_simp
      refine hK.out _ _ ?_
      exact ⟨(fun jz => if jz = 84 then .int .i64 pd else if jz = 82 then .bool false else if jz = 85 then .bool b else v jz), g, rfl, ⟨hR.st, hR.f0.keep rfl, hR.f1.keep rfl, hR.f2.keep rfl, hR.f3.keep rfl, hR.f4.keep rfl, hR.f5.keep rfl, hR.f6.keep rfl, hR.f7.keep rfl, hR.f8.keep rfl, hR.f9.keep rfl, hR.f10.keep rfl, hR.f11.keep rfl, hR.f12.keep rfl, hR.f13.keep rfl, hR.f14.keep rfl, hR.f15.keep rfl, hR.f16.keep rfl, hR.f17.keep rfl, hR.f18.keep rfl, hR.f19.keep rfl, hR.f20.keep rfl, hR.f21.keep rfl, hR.f22.keep rfl, hR.f23.keep rfl, hR.f24.keep rfl, (fun _ => rfl), hR.f26.keep rfl, (fun _ => rfl), (fun _ => rfl), hR.f29.keep rfl, hR.f30.keep rfl, hR.f31.keep rfl, hR.f32.keep rfl, hR.f33.keep rfl, hR.f34.keep rfl, hR.f35.keep rfl⟩⟩
    refine EachOf.cons [25] rfl (by kernel_rfl) ?_ ?_
    · rintro L A W ⟨v, g, rfl, hR⟩ hi hw K hK
      have e25 := hR.f25 (hw 25 (by simp))
      simp only [e25]
      clear e25
      go_simp
      refine hK.out _ _ ?_
      exact ⟨(fun jz => if jz = 82 then .bool false else if jz = 86 then .pointer (some ⟨y3.heap.size, 0, none⟩) else v jz), g, rfl, ⟨hR.st, hR.f0.keep rfl, hR.f1.keep rfl, hR.f2.keep rfl, hR.f3.keep rfl, hR.f4.keep rfl, hR.f5.keep rfl, hR.f6.keep rfl, hR.f7.keep rfl, hR.f8.keep rfl, hR.f9.keep rfl, hR.f10.keep rfl, hR.f11.keep rfl, hR.f12.keep rfl, hR.f13.keep rfl, hR.f14.keep rfl, hR.f15.keep rfl, hR.f16.keep rfl, hR.f17.keep rfl, hR.f18.keep rfl, hR.f19.keep rfl, hR.f20.keep rfl, hR.f21.keep rfl, hR.f22.keep rfl, hR.f23.keep rfl, hR.f24.keep rfl, (fun _ => rfl), hR.f26.keep rfl, hR.f27.keep rfl, hR.f28.keep rfl, (fun _ => rfl), hR.f30.keep rfl, hR.f31.keep rfl, hR.f32.keep rfl, hR.f33.keep rfl, hR.f34.keep rfl, hR.f35.keep rfl⟩⟩
    refine EachOf.cons [29, 25] rfl (by kernel_rfl) ?_ ?_
    · rintro L A W ⟨v, g, rfl, hR⟩ hi hw K hK
      have e29 := hR.f29 (hw 29 (by simp))
      have e25 := hR.f25 (hw 25 (by simp))
      simp only [e29, e25]
      clear e29 e25
      obtain ⟨_, q0, q1⟩ := B1.out.on hR.st
      go_simp
      refine hK.out _ _ ?_
      exact ⟨(fun jz => if jz = 86 then .pointer (some ⟨y3.heap.size, 0, none⟩) else if jz = 82 then .bool false else if jz = 87 then .int .i64 s1 else v jz), g, rfl, ⟨hR.st, hR.f0.keep rfl, hR.f1.keep rfl, hR.f2.keep rfl, hR.f3.keep rfl, hR.f4.keep rfl, hR.f5.keep rfl, hR.f6.keep rfl, hR.f7.keep rfl, hR.f8.keep rfl, hR.f9.keep rfl, hR.f10.keep rfl, hR.f11.keep rfl, hR.f12.keep rfl, hR.f13.keep rfl, hR.f14.keep rfl, hR.f15.keep rfl, hR.f16.keep rfl, hR.f17.keep rfl, hR.f18.keep rfl, hR.f19.keep rfl, hR.f20.keep rfl, hR.f21.keep rfl, hR.f22.keep rfl, hR.f23.keep rfl, hR.f24.keep rfl, (fun _ => rfl), hR.f26.keep rfl, hR.f27.keep rfl, hR.f28.keep rfl, (fun _ => rfl), (fun _ => rfl), hR.f31.keep rfl, hR.f32.keep rfl, hR.f33.keep rfl, hR.f34.keep rfl, hR.f35.keep rfl⟩⟩
    refine EachOf.cons [25] rfl (by kernel_rfl) ?_ ?_
    · rintro L A W ⟨v, g, rfl, hR⟩ hi hw K hK
      have e25 := hR.f25 (hw 25 (by simp))
      simp only [e25]
      clear e25
      go_simp
      refine hK.out _ _ ?_
      exact ⟨(fun jz => if jz = 82 then .bool false else if jz = 88 then .pointer (some ⟨y3.heap.size, 1, none⟩) else v jz), g, rfl, ⟨hR.st, hR.f0.keep rfl, hR.f1.keep rfl, hR.f2.keep rfl, hR.f3.keep rfl, hR.f4.keep rfl, hR.f5.keep rfl, hR.f6.keep rfl, hR.f7.keep rfl, hR.f8.keep rfl, hR.f9.keep rfl, hR.f10.keep rfl, hR.f11.keep rfl, hR.f12.keep rfl, hR.f13.keep rfl, hR.f14.keep rfl, hR.f15.keep rfl, hR.f16.keep rfl, hR.f17.keep rfl, hR.f18.keep rfl, hR.f19.keep rfl, hR.f20.keep rfl, hR.f21.keep rfl, hR.f22.keep rfl, hR.f23.keep rfl, hR.f24.keep rfl, (fun _ => rfl), hR.f26.keep rfl, hR.f27.keep rfl, hR.f28.keep rfl, hR.f29.keep rfl, hR.f30.keep rfl, (fun _ => rfl), hR.f32.keep rfl, hR.f33.keep rfl, hR.f34.keep rfl, hR.f35.keep rfl⟩⟩
    refine EachOf.cons [31, 25] rfl (by kernel_rfl) ?_ ?_
    · rintro L A W ⟨v, g, rfl, hR⟩ hi hw K hK
      have e31 := hR.f31 (hw 31 (by simp))
      have e25 := hR.f25 (hw 25 (by simp))
      simp only [e31, e25]
      clear e31 e25
      obtain ⟨_, q0, q1⟩ := B1.out.on hR.st
      go_simp
      refine hK.out _ _ ?_
      exact ⟨(fun jz => if jz = 88 then .pointer (some ⟨y3.heap.size, 1, none⟩) else if jz = 82 then .bool false else if jz = 89 then .int .i64 s2 else v jz), g, rfl, ⟨hR.st, hR.f0.keep rfl, hR.f1.keep rfl, hR.f2.keep rfl, hR.f3.keep rfl, hR.f4.keep rfl, hR.f5.keep rfl, hR.f6.keep rfl, hR.f7.keep rfl, hR.f8.keep rfl, hR.f9.keep rfl, hR.f10.keep rfl, hR.f11.keep rfl, hR.f12.keep rfl, hR.f13.keep rfl, hR.f14.keep rfl, hR.f15.keep rfl, hR.f16.keep rfl, hR.f17.keep rfl, hR.f18.keep rfl, hR.f19.keep rfl, hR.f20.keep rfl, hR.f21.keep rfl, hR.f22.keep rfl, hR.f23.keep rfl, hR.f24.keep rfl, (fun _ => rfl), hR.f26.keep rfl, hR.f27.keep rfl, hR.f28.keep rfl, hR.f29.keep rfl, hR.f30.keep rfl, (fun _ => rfl), (fun _ => rfl), hR.f33.keep rfl, hR.f34.keep rfl, hR.f35.keep rfl⟩⟩
    refine EachOf.cons [30, 32, 25] rfl (by kernel_rfl) ?_ ?_
    · rintro L A W ⟨v, g, rfl, hR⟩ hi hw K hK
      have e30 := hR.f30 (hw 30 (by simp))
      have e32 := hR.f32 (hw 32 (by simp))
      have e25 := hR.f25 (hw 25 (by simp))
      simp only [e30, e32, e25]
      clear e30 e32 e25
      go_simp
      refine hK.out _ _ ?_
      exact ⟨(fun jz => if jz = 87 then .int .i64 s1 else if jz = 89 then .int .i64 s2 else if jz = 82 then .bool false else if jz = 90 then .bool b else v jz), g, rfl, ⟨hR.st, hR.f0.keep rfl, hR.f1.keep rfl, hR.f2.keep rfl, hR.f3.keep rfl, hR.f4.keep rfl, hR.f5.keep rfl, hR.f6.keep rfl, hR.f7.keep rfl, hR.f8.keep rfl, hR.f9.keep rfl, hR.f10.keep rfl, hR.f11.keep rfl, hR.f12.keep rfl, hR.f13.keep rfl, hR.f14.keep rfl, hR.f15.keep rfl, hR.f16.keep rfl, hR.f17.keep rfl, hR.f18.keep rfl, hR.f19.keep rfl, hR.f20.keep rfl, hR.f21.keep rfl, hR.f22.keep rfl, hR.f23.keep rfl, hR.f24.keep rfl, (fun _ => rfl), hR.f26.keep rfl, hR.f27.keep rfl, hR.f28.keep rfl, hR.f29.keep rfl, (fun _ => rfl), hR.f31.keep rfl, (fun _ => rfl), (fun _ => rfl), hR.f34.keep rfl, hR.f35.keep rfl⟩⟩
    refine EachOf.cons [28, 33, 25] rfl (by kernel_rfl) ?_ ?_
    · rintro L A W ⟨v, g, rfl, hR⟩ hi hw K hK
      have e28 := hR.f28 (hw 28 (by simp))
      have e33 := hR.f33 (hw 33 (by simp))
      have e25 := hR.f25 (hw 25 (by simp))
      simp only [e28, e33, e25]
      clear e28 e33 e25
      go_simp
      refine hK.out _ _ ?_
      exact ⟨(fun jz => if jz = 85 then .bool b else if jz = 90 then .bool b else if jz = 82 then .bool false else if jz = 91 then .bool false else v jz), g, rfl, ⟨hR.st, hR.f0.keep rfl, hR.f1.keep rfl, hR.f2.keep rfl, hR.f3.keep rfl, hR.f4.keep rfl, hR.f5.keep rfl, hR.f6.keep rfl, hR.f7.keep rfl, hR.f8.keep rfl, hR.f9.keep rfl, hR.f10.keep rfl, hR.f11.keep rfl, hR.f12.keep rfl, hR.f13.keep rfl, hR.f14.keep rfl, hR.f15.keep rfl, hR.f16.keep rfl, hR.f17.keep rfl, hR.f18.keep rfl, hR.f19.keep rfl, hR.f20.keep rfl, hR.f21.keep rfl, hR.f22.keep rfl, hR.f23.keep rfl, hR.f24.keep rfl, (fun _ => rfl), hR.f26.keep rfl, hR.f27.keep rfl, (fun _ => rfl), hR.f29.keep rfl, hR.f30.keep rfl, hR.f31.keep rfl, hR.f32.keep rfl, (fun _ => rfl), (fun _ => rfl), hR.f35.keep rfl⟩⟩
    refine EachOf.cons [25, 34] rfl (by kernel_rfl) ?_ ?_
    · rintro L A W ⟨v, g, rfl, hR⟩ hi hw K hK
      have e25 := hR.f25 (hw 25 (by simp))
      have e34 := hR.f34 (hw 34 (by simp))
      simp only [e25, e34]
      clear e25 e34
      go_simp
      refine hK.out _ _ ?_
      exact ⟨(fun jz => if jz = 82 then .bool false else if jz = 91 then .bool false else if jz = 92 then .bool false else v jz), g, rfl, ⟨hR.st, hR.f0.keep rfl, hR.f1.keep rfl, hR.f2.keep rfl, hR.f3.keep rfl, hR.f4.keep rfl, hR.f5.keep rfl, hR.f6.keep rfl, hR.f7.keep rfl, hR.f8.keep rfl, hR.f9.keep rfl, hR.f10.keep rfl, hR.f11.keep rfl, hR.f12.keep rfl, hR.f13.keep rfl, hR.f14.keep rfl, hR.f15.keep rfl, hR.f16.keep rfl, hR.f17.keep rfl, hR.f18.keep rfl, hR.f19.keep rfl, hR.f20.keep rfl, hR.f21.keep rfl, hR.f22.keep rfl, hR.f23.keep rfl, hR.f24.keep rfl, (fun _ => rfl), hR.f26.keep rfl, hR.f27.keep rfl, hR.f28.keep rfl, hR.f29.keep rfl, hR.f30.keep rfl, hR.f31.keep rfl, hR.f32.keep rfl, hR.f33.keep rfl, (fun _ => rfl), (fun _ => rfl)⟩⟩
    exact EachOf.nil
  rintro L A W1 ⟨v1, g1, rfl, hR⟩ hL
  have e35 := hR.f35 (hL 35 (by simp))
  have hst := Lib.hid hR.st
  simp only [e35]
  clear e35
  clear hR hL
  replace B0 := Lib.hid (B0.out.on hst.out)
  replace B1 := Lib.hid (B1.out.on hst.out)
  replace B2 := Lib.hid (B2.out.on hst.out)
  replace HW := Lib.hid (below_on HW.out hst.out)
  clear O1
  obtain ⟨_, B0p, B0q⟩ := B0.out
  go_wp2_with fail
  (with_reducible refine ((C5 _).out).mono ?_)
  rintro e y7 ⟨rfl, hb⟩
  clear B0p B0q
  have hst := Lib.hid hb
  clear hb
  replace B0 := Lib.hid (B0.out.on hst.out)
  replace B1 := Lib.hid (B1.out.on hst.out)
  replace B2 := Lib.hid (B2.out.on hst.out)
  replace HW := Lib.hid (below_on HW.out hst.out)
  clear hst
  go_wp2_with fail
  obtain ⟨y8, hy⟩ : ∃ W, W = (y7.alloc (Obj.cells #[Value.int .i64 t1, Value.int .i64 t2] 23)) := ⟨_, rfl⟩
  rw [← hy]
  have hb : Below ((y7.alloc (Obj.cells #[Value.int .i64 t1, Value.int .i64 t2] 23))).heap.size ((y7.alloc (Obj.cells #[Value.int .i64 t1, Value.int .i64 t2] 23))) y8 := by rw [hy]; exact Below.refl _ _
  clear hy
  have hst := Lib.hid (below_on (w := y7) (by repeat' (first | (with_reducible exact Below.refl _ _) | (with_reducible assumption) | (with_reducible refine Below.alloc ?_ ?_ _) | (with_reducible refine below_drew ?_ _) | (with_reducible refine Below.drew ?_) | (with_reducible refine Below.setCell ?_ ?_ _) | go_size)) hb)
  have B3 : Hid (Blk y8 (y7.heap.size) (.int .i64 t1) (.int .i64 t2)) := Blk.on (W := (y7.alloc (Obj.cells #[Value.int .i64 t1, Value.int .i64 t2] 23))) (by first | exact Blk.new _ _ _ _ | exact (Blk.new _ _ _ _).alloc _ | (have hn := Blk.new (y7) (Value.int .i64 t1) (Value.int .i64 t2) 23; simpa using hn)) hb
  clear hb
  replace B0 := Lib.hid (B0.out.on hst.out)
  replace B1 := Lib.hid (B1.out.on hst.out)
  replace B2 := Lib.hid (B2.out.on hst.out)
  replace HW := Lib.hid (below_on HW.out hst.out)
  clear hst
  refine wp_region_each (fun L A W => ∃ (v : Nat → Value) (g : Nat → Nat), A = ⟨#[.agg #[.int .i64 n, .int .i64 d], .int .i64 u, .pointer (some ⟨w.heap.size, 0, none⟩), undef, .bool false, .pointer (some ⟨y3.heap.size, 0, none⟩), .int .i64 0, .pointer (some ⟨y4.heap.size, 0, none⟩), .int .i64 0, .int .i64 s1, .int .i64 0, .int .i64 s2, .int .i64 0, .pointer (some ⟨y7.heap.size, 0, none⟩), .int .i64 0, v 15, v 16, undef, undef, .bool true, .bool false, .agg #[.int .i64 n, .int .i64 d], .bool true, .bool false, .bool false, .int .i64 u, .bool false, .bool false, .bool false, .int .i64 u, .bool false, .bool false, .tuple #[.agg #[.int .i64 s1, .int .i64 s2], .int .i64 0], .agg #[.int .i64 n, .int .i64 d], .int .i64 u, .tuple #[.agg #[.int .i64 s1, .int .i64 s2], .int .i64 0], .agg #[.int .i64 s1, .int .i64 s2], .int .i64 0, .tuple #[.agg #[.int .i64 pn, .int .i64 pd], .int .i64 0], .agg #[.int .i64 n, .int .i64 d], .int .i64 u, .agg #[.int .i64 u, .int .i64 1], .tuple #[.agg #[.int .i64 pn, .int .i64 pd], .int .i64 0], .agg #[.int .i64 pn, .int .i64 pd], .int .i64 0, .int .i64 0, .bool true, .tuple #[.int .i64 s1, .int .i64 0], .agg #[.int .i64 pn, .int .i64 pd], .tuple #[.int .i64 s1, .int .i64 0], .int .i64 s1, .int .i64 0, .tuple #[.int .i64 s2, .int .i64 0], .agg #[.int .i64 pn, .int .i64 pd], .tuple #[.int .i64 s2, .int .i64 0], .int .i64 s2, .int .i64 0, v1 57, v1 58, v1 59, v1 60, v1 61, v1 62, v1 63, v1 64, v1 65, v1 66, v1 67, v1 68, v1 69, v1 70, v1 71, v1 72, v1 73, v1 74, v1 75, v1 76, v1 77, v1 78, v1 79, v1 80, v1 81, v1 82, v1 83, v1 84, v1 85, v1 86, v1 87, v1 88, v1 89, v1 90, v1 91, .bool false, .int .i64 0, .bool false, undef, undef, undef, undef, undef, undef, .tuple #[.agg #[.int .i64 t1, .int .i64 t2], .int .i64 0], .agg #[.int .i64 n, .int .i64 d], .tuple #[.agg #[.int .i64 t1, .int .i64 t2], .int .i64 0], .agg #[.int .i64 t1, .int .i64 t2], .int .i64 0, v 106, v 107, v 108, v 109, v 110, v 111, v 112, v 113, undef, undef, undef, undef, undef, undef, undef, undef, undef, undef, undef, undef, undef, undef, undef, undef, undef, undef, undef, undef, undef, undef, undef, undef, undef, undef, undef], []⟩ ∧ Fr11115R w n d u s1 s2 t1 t2 pn pd pf z1 z2 hh b y8 L v g W) (by kernel_rfl) (by kernel_rfl) ⟨fun _ => undef, fun _ => 0, rfl, ⟨Below.drew (Below.refl _ _), Had.none, Had.none, Had.none, Had.none, Had.none, Had.none, Had.none, Had.none, Had.none, Had.none, Had.none, Had.none⟩⟩ (rs := [0, 1, 2, 3, 4, 5, 6, 7, 8, 9, 10]) (by kernel_rfl) ?_ ?_
  · refine EachOf.cons [] rfl (by kernel_rfl) ?_ ?_
    · rintro L A W ⟨v, g, rfl, hR⟩ hi hw K hK
      obtain ⟨_, q0, q1⟩ := B3.out.on hR.st
      go_simp
      refine hK.out _ _ ?_
      exact ⟨(fun jz => if jz = 107 then .agg #[.int .i64 t1, .int .i64 t2] else v jz), g, rfl, ⟨hR.st, (fun _ => rfl), hR.f1.keep rfl, hR.f2.keep rfl, hR.f3.keep rfl, hR.f4.keep rfl, hR.f5.keep rfl, hR.f6.keep rfl, hR.f7.keep rfl, hR.f8.keep rfl, hR.f10.keep rfl, hR.b8.keep rfl, hR.c9.keepM rfl (fun h => ⟨upd_on h.1, h.2⟩)⟩⟩
    refine EachOf.cons [] rfl (by kernel_rfl) ?_ ?_
    · rintro L A W ⟨v, g, rfl, hR⟩ hi hw K hK
      go_simp
      refine hK.out _ _ ?_
      exact ⟨(fun jz => if jz = 108 then .int .i64 u else v jz), g, rfl, ⟨hR.st, hR.f0.keep rfl, (fun _ => rfl), hR.f2.keep rfl, hR.f3.keep rfl, hR.f4.keep rfl, hR.f5.keep rfl, hR.f6.keep rfl, hR.f7.keep rfl, hR.f8.keep rfl, hR.f10.keep rfl, hR.b8.keep rfl, hR.c9.keepM rfl (fun h => ⟨upd_on h.1, h.2⟩)⟩⟩
    refine EachOf.cons [] rfl (by kernel_rfl) ?_ ?_
    · rintro L A W ⟨v, g, rfl, hR⟩ hi hw K hK
      go_simp
      refine hK.out _ _ ?_
      exact ⟨(fun jz => if jz = 109 then .int .i64 u else v jz), g, rfl, ⟨hR.st, hR.f0.keep rfl, hR.f1.keep rfl, (fun _ => rfl), hR.f3.keep rfl, hR.f4.keep rfl, hR.f5.keep rfl, hR.f6.keep rfl, hR.f7.keep rfl, hR.f8.keep rfl, hR.f10.keep rfl, hR.b8.keep rfl, hR.c9.keepM rfl (fun h => ⟨upd_on h.1, h.2⟩)⟩⟩
    refine EachOf.cons [1, 2] rfl (by kernel_rfl) ?_ ?_
    · rintro L A W ⟨v, g, rfl, hR⟩ hi hw K hK
      have e1 := hR.f1 (hw 1 (by simp))
      have e2 := hR.f2 (hw 2 (by simp))
      simp only [e1, e2]
      clear e1 e2
      go_simp
      go_at_call 39
      (with_reducible refine ((O2 _).out).mono ?_)
      rintro e w2 ⟨rfl, hb⟩
      go_simp
      refine hK.out _ _ ?_
      exact ⟨(fun jz => if jz = 108 then .int .i64 u else if jz = 109 then .int .i64 u else if jz = 110 then .agg #[.int .i64 u, .int .i64 u] else v jz), g, rfl, ⟨below_on hR.st hb, hR.f0.keep rfl, (fun _ => rfl), (fun _ => rfl), (fun _ => rfl), hR.f4.keep rfl, hR.f5.keep rfl, hR.f6.keep rfl, hR.f7.keep rfl, hR.f8.keep rfl, hR.f10.keep rfl, hR.b8.keepM rfl (fun h => h.on hb), hR.c9.keepM rfl (fun h => ⟨upd_on h.1, h.2.on hb⟩)⟩⟩
    refine EachOf.cons [0, 3] rfl (by kernel_rfl) ?_ ?_
    · rintro L A W ⟨v, g, rfl, hR⟩ hi hw K hK
      have e0 := hR.f0 (hw 0 (by simp))
      have e3 := hR.f3 (hw 3 (by simp))
      simp only [e0, e3]
      clear e0 e3
      go_simp
      go_at_call 23
      (with_reducible refine ((C6 _).out).mono ?_)
      rintro e w2 ⟨rfl, hb⟩
      go_simp
      refine hK.out _ _ ?_
      exact ⟨(fun jz => if jz = 107 then .agg #[.int .i64 t1, .int .i64 t2] else if jz = 110 then .agg #[.int .i64 u, .int .i64 u] else if jz = 111 then .tuple #[.agg #[.int .i64 z1, .int .i64 z2], .int .i64 0] else v jz), g, rfl, ⟨below_on hR.st hb, (fun _ => rfl), hR.f1.keep rfl, hR.f2.keep rfl, (fun _ => rfl), (fun _ => rfl), hR.f5.keep rfl, hR.f6.keep rfl, hR.f7.keep rfl, hR.f8.keep rfl, hR.f10.keep rfl, hR.b8.keepM rfl (fun h => h.on hb), hR.c9.keepM rfl (fun h => ⟨upd_on h.1, h.2.on hb⟩)⟩⟩
    refine EachOf.cons [4] rfl (by kernel_rfl) ?_ ?_
    · rintro L A W ⟨v, g, rfl, hR⟩ hi hw K hK
      have e4 := hR.f4 (hw 4 (by simp))
      simp only [e4]
      clear e4
      go_simp
      refine hK.out _ _ ?_
      exact ⟨(fun jz => if jz = 111 then .tuple #[.agg #[.int .i64 z1, .int .i64 z2], .int .i64 0] else if jz = 106 then .tuple #[.agg #[.int .i64 z1, .int .i64 z2], .int .i64 0] else v jz), g, rfl, ⟨hR.st, hR.f0.keep rfl, hR.f1.keep rfl, hR.f2.keep rfl, hR.f3.keep rfl, (fun _ => rfl), (fun _ => rfl), hR.f6.keep rfl, hR.f7.keep rfl, hR.f8.keep rfl, hR.f10.keep rfl, hR.b8.keep rfl, hR.c9.keepM rfl (fun h => ⟨upd_on h.1, h.2⟩)⟩⟩
    refine EachOf.cons [5] rfl (by kernel_rfl) ?_ ?_
    · rintro L A W ⟨v, g, rfl, hR⟩ hi hw K hK
      have e5 := hR.f5 (hw 5 (by simp))
      simp only [e5]
      clear e5
      go_simp
      refine hK.out _ _ ?_
      exact ⟨(fun jz => if jz = 106 then .tuple #[.agg #[.int .i64 z1, .int .i64 z2], .int .i64 0] else if jz = 112 then .agg #[.int .i64 z1, .int .i64 z2] else v jz), g, rfl, ⟨hR.st, hR.f0.keep rfl, hR.f1.keep rfl, hR.f2.keep rfl, hR.f3.keep rfl, hR.f4.keep rfl, (fun _ => rfl), (fun _ => rfl), hR.f7.keep rfl, hR.f8.keep rfl, hR.f10.keep rfl, hR.b8.keep rfl, hR.c9.keepM rfl (fun h => ⟨upd_on h.1, h.2⟩)⟩⟩
    refine EachOf.cons [5] rfl (by kernel_rfl) ?_ ?_
    · rintro L A W ⟨v, g, rfl, hR⟩ hi hw K hK
      have e5 := hR.f5 (hw 5 (by simp))
      simp only [e5]
      clear e5
      go_simp
      refine hK.out _ _ ?_
      exact ⟨(fun jz => if jz = 106 then .tuple #[.agg #[.int .i64 z1, .int .i64 z2], .int .i64 0] else if jz = 113 then .int .i64 0 else v jz), g, rfl, ⟨hR.st, hR.f0.keep rfl, hR.f1.keep rfl, hR.f2.keep rfl, hR.f3.keep rfl, hR.f4.keep rfl, (fun _ => rfl), hR.f6.keep rfl, (fun _ => rfl), hR.f8.keep rfl, hR.f10.keep rfl, hR.b8.keep rfl, hR.c9.keepM rfl (fun h => ⟨upd_on h.1, h.2⟩)⟩⟩
    refine EachOf.cons [] rfl (by kernel_rfl) ?_ ?_
    · rintro L A W ⟨v, g, rfl, hR⟩ hi hw K hK
      have hz := hR.st.size
      go_simp
      refine hK.out _ _ ?_
      have hb : Below W.heap.size W (W.alloc (Obj.cells #[Value.int IntKind.i64 0, Value.int IntKind.i64 0] 23)) := (Below.refl _ _).alloc (Nat.le_refl _) _
      exact ⟨(fun jz => if jz = 15 then .pointer (some ⟨W.heap.size, 0, none⟩) else v jz), (fun jz => if jz = 8 then W.heap.size else g jz), rfl, ⟨below_on hR.st hb, hR.f0.keep rfl, hR.f1.keep rfl, hR.f2.keep rfl, hR.f3.keep rfl, hR.f4.keep rfl, hR.f5.keep rfl, hR.f6.keep rfl, hR.f7.keep rfl, (fun _ => rfl), hR.f10.keep rfl, (fun _ => Own.new _ _ _ _ hz), (fun h => absurd ((hR.c9 (upd_back h rfl)).1) (by simp [hi]))⟩⟩
    refine EachOf.cons [8, 6] rfl (by kernel_rfl) ?_ ?_
    · rintro L A W ⟨v, g, rfl, hR⟩ hi hw K hK
      have e8 := hR.f8 (hw 8 (by simp))
      have e6 := hR.f6 (hw 6 (by simp))
      simp only [e8, e6]
      clear e8 e6
      have o2 := hR.b8 (hw 8 (by simp))
      have o1 := o2.1
      have HO := Lib.hid o2
      clear o2
      obtain ⟨_, ⟨u5, v5, l5, p5, q5⟩, r5, s5⟩ := HO.out
      go_simp
      have o2 := HO.out
      refine hK.out _ _ ?_
      exact ⟨(fun jz => if jz = 15 then .pointer (some ⟨g 8, 0, none⟩) else if jz = 112 then .agg #[.int .i64 z1, .int .i64 z2] else v jz), g, rfl, ⟨(hR.st.setCell (by simpa using o1) _).setCell (by simpa using o1) _, hR.f0.keep rfl, hR.f1.keep rfl, hR.f2.keep rfl, hR.f3.keep rfl, hR.f4.keep rfl, hR.f5.keep rfl, (fun _ => rfl), hR.f7.keep rfl, (fun _ => rfl), hR.f10.keep rfl, hR.b8.keepM rfl (fun h => h.set), (fun _ => ⟨upd_on (hw 8 (by simp)), o2.setw⟩)⟩⟩
    refine EachOf.cons [7] rfl (by kernel_rfl) ?_ ?_
    · rintro L A W ⟨v, g, rfl, hR⟩ hi hw K hK
      have e7 := hR.f7 (hw 7 (by simp))
      simp only [e7]
      clear e7
      go_simp
      refine hK.out _ _ ?_
      exact ⟨(fun jz => if jz = 113 then .int .i64 0 else if jz = 16 then .int .i64 0 else v jz), g, rfl, ⟨hR.st, hR.f0.keep rfl, hR.f1.keep rfl, hR.f2.keep rfl, hR.f3.keep rfl, hR.f4.keep rfl, hR.f5.keep rfl, hR.f6.keep rfl, (fun _ => rfl), hR.f8.keep rfl, (fun _ => rfl), hR.b8.keep rfl, hR.c9.keepM rfl (fun h => ⟨upd_on h.1, h.2⟩)⟩⟩
    exact EachOf.nil
  rintro L A W2 ⟨v2, g2, rfl, hR⟩ hL
  have e8 := hR.f8 (hL 8 (by simp))
  have e10 := hR.f10 (hL 10 (by simp))
  have hst := Lib.hid hR.st
  simp only [e8, e10]
  clear e8 e10
  have HWD := Lib.hid (hR.c9 (hL 9 (by simp))).2
  have HWDF := Lib.hid (hR.b8 (hL 8 (by simp))).2.2
  have HWDN := Lib.hid (hR.b8 (hL 8 (by simp))).1
  clear hR hL
  generalize g2 8 = gw at *
  replace B0 := Lib.hid (B0.out.on hst.out)
  replace B1 := Lib.hid (B1.out.on hst.out)
  replace B2 := Lib.hid (B2.out.on hst.out)
  replace B3 := Lib.hid (B3.out.on hst.out)
  replace HW := Lib.hid (below_on HW.out hst.out)
  obtain ⟨_, B3p, B3q⟩ := B3.out
  go_wp2_with fail
  (with_reducible refine ((C7 _).out).mono ?_)
  rintro e y9 ⟨rfl, hb⟩
  clear B3p B3q
  have hst := Lib.hid hb
  clear hb
  replace HWDF := Lib.hid (HWDF.out.on HWD.out.1 hst.out)
  replace B0 := Lib.hid (B0.out.on hst.out)
  replace B1 := Lib.hid (B1.out.on hst.out)
  replace B2 := Lib.hid (B2.out.on hst.out)
  replace B3 := Lib.hid (B3.out.on hst.out)
  replace HWD := Lib.hid (HWD.out.on hst.out)
  replace HW := Lib.hid (below_on HW.out hst.out)
  clear hst
  obtain ⟨_, HWDp, HWDq⟩ := HWD.out
  obtain ⟨_, B1p, B1q⟩ := B1.out
  go_wp2_with fail
  (with_reducible refine ((I1 _).out).mono ?_)
  rintro e y10 ⟨rfl, hb⟩
  clear HWDp HWDq B1p B1q
  have hst := Lib.hid (below_on (w := y9) (by repeat' (first | (with_reducible exact Below.refl _ _) | (with_reducible assumption) | (with_reducible refine Below.alloc ?_ ?_ _) | (with_reducible refine below_drew ?_ _) | (with_reducible refine Below.drew ?_) | (with_reducible refine Below.setCell ?_ ?_ _) | go_size)) hb)
  have B4 : Hid (Blk y10 (y9.heap.size) (.int .i64 z1) (.int .i64 z2)) := Blk.on (W := (y9.alloc (Obj.cells #[Value.int .i64 z1, Value.int .i64 z2] 23))) (by first | exact Blk.new _ _ _ _ | exact (Blk.new _ _ _ _).alloc _ | exact ((Blk.new _ _ _ _).alloc _).alloc _ | (have hn := Blk.new (y9) (Value.int .i64 z1) (Value.int .i64 z2) 23; simpa using hn)) hb
  clear hb
  replace HWDF := Lib.hid (HWDF.out.on HWD.out.1 hst.out)
  replace B0 := Lib.hid (B0.out.on hst.out)
  replace B1 := Lib.hid (B1.out.on hst.out)
  replace B2 := Lib.hid (B2.out.on hst.out)
  replace B3 := Lib.hid (B3.out.on hst.out)
  replace HWD := Lib.hid (HWD.out.on hst.out)
  replace HW := Lib.hid (below_on HW.out hst.out)
  clear hst
  go_wp2_with fail
  go_ret
  exact ⟨rfl, by have hB := HW.out; exact (by repeat' (first | (with_reducible exact Below.refl _ _) | (with_reducible assumption) | (with_reducible refine Below.alloc ?_ ?_ _) | (with_reducible refine below_drew ?_ _) | (with_reducible refine Below.drew ?_) | (with_reducible refine Below.setCell ?_ ?_ _) | go_size))⟩

structure Fr11010R (w : World) (n d u s1 s2 t1 t2 pn pd pf z1 z2 hh : Int) (b : Bool) (y3 : World) (y4 : World) (Wc : World) (L : Nat → Bool) (v : Nat → Value) (g : Nat → Nat) (W : World) : Prop where
  st : Below Wc.heap.size Wc W
  f0 : Had L 0 (v 57 = .int .i64 0)
  f1 : Had L 1 (v 58 = .bool false)
  f2 : Had L 2 (v 59 = .bool false)
  f3 : Had L 3 (v 60 = .int .i64 0)
  f4 : Had L 4 (v 61 = .bool false)
  f5 : Had L 5 (v 62 = .bool false)
  f6 : Had L 6 (v 63 = .bool false)
  f7 : Had L 7 (v 64 = .int .i64 0)
  f8 : Had L 8 (v 65 = .bool false)
  f9 : Had L 9 (v 66 = .bool false)
  f10 : Had L 10 (v 67 = .bool false)
  f11 : Had L 11 (v 68 = .agg #[.int .i64 s1, .int .i64 s2])
  f12 : Had L 12 (v 69 = .int .i64 s1)
  f13 : Had L 13 (v 70 = .int .i64 s2)
  f14 : Had L 14 (v 71 = .agg #[.int .i64 s1, .int .i64 s2])
  f15 : Had L 15 (v 72 = .bool false)
  f16 : Had L 16 (v 73 = .bool false)
  f17 : Had L 17 (v 74 = .bool false)
  f18 : Had L 18 (v 75 = .pointer (some ⟨y3.heap.size, 1, none⟩))
  f19 : Had L 19 (v 76 = .int .i64 s2)
  f20 : Had L 20 (v 77 = .pointer (some ⟨y3.heap.size, 0, none⟩))
  f21 : Had L 21 (v 78 = .int .i64 s1)
  f22 : Had L 22 (v 79 = .int .i64 (s2 - s1))
  f23 : Had L 23 (v 80 = .bool false)
  f24 : Had L 24 (v 81 = .bool false)
  f25 : Had L 25 (v 82 = .bool false)
  f26 : Had L 26 (v 83 = .pointer (some ⟨y4.heap.size, 1, none⟩))
  f27 : Had L 27 (v 84 = .int .i64 pd)
  f28 : Had L 28 (v 85 = .bool b)
  f29 : Had L 29 (v 86 = .pointer (some ⟨y3.heap.size, 0, none⟩))
  f30 : Had L 30 (v 87 = .int .i64 s1)
  f31 : Had L 31 (v 88 = .pointer (some ⟨y3.heap.size, 1, none⟩))
  f32 : Had L 32 (v 89 = .int .i64 s2)
  f33 : Had L 33 (v 90 = .bool b)
  f34 : Had L 34 (v 91 = .bool false)
  f35 : Had L 35 (v 92 = .bool false)

structure Fr11015R (w : World) (n d u s1 s2 t1 t2 pn pd pf z1 z2 hh : Int) (b : Bool) (Wc : World) (L : Nat → Bool) (v : Nat → Value) (g : Nat → Nat) (W : World) : Prop where
  st : Below Wc.heap.size Wc W
  f0 : Had L 0 (v 107 = .agg #[.int .i64 t1, .int .i64 t2])
  f1 : Had L 1 (v 108 = .int .i64 u)
  f2 : Had L 2 (v 109 = .int .i64 u)
  f3 : Had L 3 (v 110 = .agg #[.int .i64 u, .int .i64 u])
  f4 : Had L 4 (v 111 = .tuple #[.agg #[.int .i64 z1, .int .i64 z2], .int .i64 5])
  f5 : Had L 5 (v 106 = .tuple #[.agg #[.int .i64 z1, .int .i64 z2], .int .i64 5])
  f6 : Had L 6 (v 112 = .agg #[.int .i64 z1, .int .i64 z2])
  f7 : Had L 7 (v 113 = .int .i64 5)
  f8 : Had L 8 (v 15 = .pointer (some ⟨g 8, 0, none⟩))
  f10 : Had L 10 (v 16 = .int .i64 5)
  b8 : Had L 8 (Own Wc.heap.size W (g 8))
  c9 : Had L 9 (L 8 = true ∧ Blk W (g 8) (.int .i64 z1) (.int .i64 z2))

set_option maxRecDepth 100000 in
set_option maxHeartbeats 32000000 in
theorem frac_FN (n d u pn pd z1 z2 : Int) (w : World) (v : Vld n d) (u0 : 1 ≤ u) (u1 : u ≤ 1099511627776) (hm : mulT n d u 1 = (pn, pd, 0)) (vp : Vld pn pd) (hx : pn * (d * 1) = n * u * pd) (hw : mulS (n / d) (-(-n / d)) u u = (z1, z2, 5)) :
    Calls Try.prog 9 #[.agg #[.int .i64 n, .int .i64 d], .int .i64 u] w fun e w' => e = .returned (.bool true) ∧ Below w.heap.size w w' := by
  have va1 := v.d1; have va2 := v.d2; have va3 := v.n1; have va4 := v.n2
  have hvb := vB_yes v
  have VA := fun w => Lib.hid (refValid_any n d w (by omega) (by omega) (by omega) (by omega))
  simp only [hvb] at VA
  have g1 : decide (u < 1) = false := decide_eq_false (by omega)
  have g2 : decide (1099511627776 < u) = false := decide_eq_false (by omega)
  have C2 := fun w => Lib.hid (Mul_any n d u 1 w (by omega) (by omega) (by omega) (by omega) (by omega) (by omega) (by omega) (by omega) pn pd 0 hm)
  have hfit := frac_fits va1 vp hx
  have hs : sOf n d u = (n * u / d, -(-(n * u) / d), 0) := by unfold sOf; rw [if_pos hvb, ofS_eq va1 u0 u1, if_pos hfit]
  have ho : sOf n d 1 = (n / d, -(-n / d), 0) := by
    unfold sOf
    rw [if_pos hvb, ofS_eq va1 (by decide) (by decide), Int.mul_one, if_pos (by omega)]
  have C1 := fun w => Lib.hid (sOf_any n d u w (by omega) (by omega) (by omega) (by omega) _ _ 0 hs)
  have C5 := fun w => Lib.hid (sOf_any n d 1 w (by omega) (by omega) (by omega) (by omega) _ _ 0 ho)
  have O2 : ∀ w, Hid (Calls Try.prog 39 #[.int .i64 u, .int .i64 u] w fun e w' => e = .returned (.agg #[.int .i64 u, .int .i64 u]) ∧ Below w.heap.size w w') := fun w => by
    have h := of_any u u w
    rw [show min u u = u by omega, show max u u = u by omega] at h
    exact h
  have ar := around v
  have r1 := ar.p0; have r2 := ar.p1; have r3 := ar.q0; have r4 := ar.q1
  have lh : n / d ≤ -(-n / d) := by
    have a := Int.ediv_mul_le n (show d ≠ 0 by omega)
    have c := Int.ediv_mul_le (-n) (show d ≠ 0 by omega)
    rcases Int.lt_or_le (-(-n / d)) (n / d) with h | h
    · have := Int.mul_le_mul_of_nonneg_right (show n / d + -n / d ≥ 1 by omega) (show 0 ≤ d by omega)
      rw [Int.add_mul] at this
      omega
    · exact h
  have vt : SVd (n / d) (-(-n / d)) := ⟨r1, lh, r4⟩
  have vu : SVd u u := ⟨by omega, by omega, by omega⟩
  have C6 := fun w => Lib.hid (sMul_any (n / d) (-(-n / d)) u u w (by omega) (by omega) (by omega) (by omega) (by omega) (by omega) (by omega) (by omega) z1 z2 5 (by unfold sMul; rw [okS_yes (sV_yes vt) (sV_yes vu)]; exact hw))
  have C7 := fun w => Lib.hid (sTimes_any (n / d) (-(-n / d)) u 1 w z1 z2 5 (by unfold sTimes; rw [if_pos (sV_yes vt), ← wide_eq lh u0 u1]; exact hw))
  have hx2 : pn * d = n * u * pd := by rw [Int.mul_one] at hx; exact hx
  have p1 := vp.d1; have p2 := vp.d2; have p3 := vp.n1; have p4 := vp.n2
  have e1 := div_cross (show 0 < d by omega) (show 0 < pd by omega) hx2
  have e2 := div_cross (N := -(n * u)) (p := -pn) (show 0 < d by omega) (show 0 < pd by omega) (by rw [Int.neg_mul, Int.neg_mul, hx2])
  have ap := around vp
  have al := ap.lo; have ah := ap.hi; have ale := ap.le; have ahe := ap.he
  have C3 := fun w => Lib.hid (Floor_any pn pd w (by omega) (by omega) (by omega) (by omega) (n * u / d) 0 (by unfold floorT; rw [if_pos (vB_yes vp), e1]))
  have C4 := fun w => Lib.hid (Ceil_any pn pd w (by omega) (by omega) (by omega) (by omega) (-(-(n * u) / d)) 0 (by unfold ceilT; rw [if_pos (vB_yes vp), e2]))
  have lo1 := Int.mul_ediv_add_emod pn pd
  have lo2 := Int.emod_lt_of_pos pn (show 0 < pd by omega)
  have lo3 := Int.emod_nonneg pn (show pd ≠ 0 by omega)
  have hq := q_pos (P := pn) (show 0 < pd by omega)
  have hup : up (pn % pd) = 0 ∨ up (pn % pd) = 1 := by unfold up; split <;> omega
  have hb : (pd = 1 ↔ pn / pd = -(-pn / pd)) := by
    rw [hq]
    constructor
    · rintro rfl
      rw [Int.emod_one]; unfold up; simp
    · intro hz
      have u0' : up (pn % pd) = 0 := by omega
      have m0 : pn % pd = 0 := by
        unfold up at u0'
        split at u0'
        · omega
        · omega
      refine ale.1 ?_
      rw [Int.mul_comm (pn / pd) pd]
      omega
  rw [← e1, ← e2] at hb
  rw [← e1, ← e2] at hq
  have g3 : decide (1 < -(-(n * u) / d) - n * u / d) = false := decide_eq_false (by omega)
  have lh2 : n * u / d ≤ -(-(n * u) / d) := by omega
  obtain ⟨b, g4⟩ : ∃ b, (pd == 1) = b := ⟨_, rfl⟩
  have g5 : (n * u / d == -(-(n * u) / d)) = b := by
    rw [← g4, Bool.eq_iff_iff, beq_iff_eq, beq_iff_eq]; exact hb.symm
  have O1 : ∀ w, Hid (Calls Try.prog 39 #[.int .i64 (n * u / d), .int .i64 (-(-(n * u) / d))] w fun e w' => e = .returned (.agg #[.int .i64 (n * u / d), .int .i64 (-(-(n * u) / d))]) ∧ Below w.heap.size w w') := fun w => by
    have h := of_any (n * u / d) (-(-(n * u) / d)) w
    rw [show min (n * u / d) (-(-(n * u) / d)) = n * u / d by omega, show max (n * u / d) (-(-(n * u) / d)) = -(-(n * u) / d) by omega] at h
    exact h
  have sb1 : n * u / d ≤ 1152921504606846976 ∧ -1152921504606846976 ≤ n * u / d := by rw [e1]; have a := ap.p0; have b := ap.p1; omega
  have sb2 : -(-(n * u) / d) ≤ 1152921504606846976 ∧ -1152921504606846976 ≤ -(-(n * u) / d) := by rw [e2]; have a := ap.q0; have b := ap.q1; omega
  obtain ⟨pf, _⟩ : ∃ z : Int, True := ⟨0, trivial⟩
  obtain ⟨s1, hs1⟩ : ∃ z, n * u / d = z := ⟨_, rfl⟩
  obtain ⟨s2, hs2⟩ : ∃ z, -(-(n * u) / d) = z := ⟨_, rfl⟩
  obtain ⟨t1, ht1⟩ : ∃ z, n / d = z := ⟨_, rfl⟩
  obtain ⟨t2, ht2⟩ : ∃ z, -(-n / d) = z := ⟨_, rfl⟩
  obtain ⟨hh, _⟩ : ∃ z : Int, True := ⟨0, trivial⟩
  simp only [hs1, hs2] at C1
  simp only [hs1] at C3
  simp only [hs2] at C4
  simp only [hs1, hs2] at O1
  simp only [hs1, hs2] at g3
  simp only [hs1, hs2] at g5
  simp only [hs1] at sb1
  simp only [hs2] at sb2
  simp only [ht1, ht2] at C5
  simp only [ht1, ht2] at C6
  simp only [ht1, ht2] at C7
  clear hs1 hs2 ht1 ht2 hs ho ar r1 r2 r3 r4 lh vt vu hw
  obtain ⟨sb1, sb3⟩ := sb1
  obtain ⟨sb2, sb4⟩ := sb2
  have wd : IntKind.i64.wrap (s2 - s1) = s2 - s1 := IntWalk.i64_in _ (by omega)
  clear hx2 e1 e2 ap al ah ale ahe lo1 lo2 lo3 hq hup hb lh2 p1 p2 p3 p4 vp hx
  clear hvb hfit hm v va1 va2 va3 va4
  have HW := Lib.hid (Below.refl w.heap.size w)
  have AW := fun w => Lib.hid (sawake_any w)
  go_enter Try.func9, Try.ntmps9
  go_wp2_with fail
  (with_reducible refine ((AW _).out).mono ?_)
  rintro e y1 ⟨rfl, hb⟩
  have hst := Lib.hid (below_on (w := w) (by repeat' (first | (with_reducible exact Below.refl _ _) | (with_reducible assumption) | (with_reducible refine Below.alloc ?_ ?_ _) | (with_reducible refine below_drew ?_ _) | (with_reducible refine Below.drew ?_) | (with_reducible refine Below.setCell ?_ ?_ _) | go_size)) hb)
  have B0 : Hid (Blk y1 (w.heap.size) (.int .i64 n) (.int .i64 d)) := Blk.on (W := (w.alloc (Obj.cells #[Value.int .i64 n, Value.int .i64 d] 35))) (by first | exact Blk.new _ _ _ _ | exact (Blk.new _ _ _ _).alloc _ | exact ((Blk.new _ _ _ _).alloc _).alloc _ | (have hn := Blk.new (w) (Value.int .i64 n) (Value.int .i64 d) 35; simpa using hn)) hb
  clear hb
  replace HW := Lib.hid (below_on HW.out hst.out)
  clear hst
  obtain ⟨_, B0p, B0q⟩ := B0.out
  go_wp2_with fail
  (with_reducible refine ((VA _).out).mono ?_)
  rintro e y2 ⟨rfl, hb⟩
  clear B0p B0q
  have hst := Lib.hid hb
  clear hb
  replace B0 := Lib.hid (B0.out.on hst.out)
  replace HW := Lib.hid (below_on HW.out hst.out)
  clear hst
  obtain ⟨_, B0p, B0q⟩ := B0.out
  go_wp2_with fail
  (with_reducible refine ((C1 _).out).mono ?_)
  rintro e y3 ⟨rfl, hb⟩
  clear B0p B0q
  have hst := Lib.hid hb
  clear hb
  replace B0 := Lib.hid (B0.out.on hst.out)
  replace HW := Lib.hid (below_on HW.out hst.out)
  clear hst
  obtain ⟨_, B0p, B0q⟩ := B0.out
  go_wp2_with fail
  (with_reducible refine ((C2 _).out).mono ?_)
  rintro e y4 ⟨rfl, hb⟩
  clear B0p B0q
  have hst := Lib.hid (below_on (w := y3) (by repeat' (first | (with_reducible exact Below.refl _ _) | (with_reducible assumption) | (with_reducible refine Below.alloc ?_ ?_ _) | (with_reducible refine below_drew ?_ _) | (with_reducible refine Below.drew ?_) | (with_reducible refine Below.setCell ?_ ?_ _) | go_size)) hb)
  have B1 : Hid (Blk y4 (y3.heap.size) (.int .i64 s1) (.int .i64 s2)) := Blk.on (W := (y3.alloc (Obj.cells #[Value.int .i64 s1, Value.int .i64 s2] 23))) (by first | exact Blk.new _ _ _ _ | exact (Blk.new _ _ _ _).alloc _ | exact ((Blk.new _ _ _ _).alloc _).alloc _ | (have hn := Blk.new (y3) (Value.int .i64 s1) (Value.int .i64 s2) 23; simpa using hn)) hb
  clear hb
  replace B0 := Lib.hid (B0.out.on hst.out)
  replace HW := Lib.hid (below_on HW.out hst.out)
  clear hst
  go_wp2_with fail
  (with_reducible refine ((C3 _).out).mono ?_)
  rintro e y5 ⟨rfl, hb⟩
  have hst := Lib.hid (below_on (w := y4) (by repeat' (first | (with_reducible exact Below.refl _ _) | (with_reducible assumption) | (with_reducible refine Below.alloc ?_ ?_ _) | (with_reducible refine below_drew ?_ _) | (with_reducible refine Below.drew ?_) | (with_reducible refine Below.setCell ?_ ?_ _) | go_size)) hb)
  have B2 : Hid (Blk y5 (y4.heap.size) (.int .i64 pn) (.int .i64 pd)) := Blk.on (W := (y4.alloc (Obj.cells #[Value.int .i64 pn, Value.int .i64 pd] 35))) (by first | exact Blk.new _ _ _ _ | exact (Blk.new _ _ _ _).alloc _ | exact ((Blk.new _ _ _ _).alloc _).alloc _ | (have hn := Blk.new (y4) (Value.int .i64 pn) (Value.int .i64 pd) 35; simpa using hn)) hb
  clear hb
  replace B0 := Lib.hid (B0.out.on hst.out)
  replace B1 := Lib.hid (B1.out.on hst.out)
  replace HW := Lib.hid (below_on HW.out hst.out)
  clear hst
  obtain ⟨_, B2p, B2q⟩ := B2.out
  go_wp2_with fail
  (with_reducible refine ((C4 _).out).mono ?_)
  rintro e y6 ⟨rfl, hb⟩
  clear B2p B2q
  have hst := Lib.hid hb
  clear hb
  replace B0 := Lib.hid (B0.out.on hst.out)
  replace B1 := Lib.hid (B1.out.on hst.out)
  replace B2 := Lib.hid (B2.out.on hst.out)
  replace HW := Lib.hid (below_on HW.out hst.out)
  clear hst
  clear AW VA C1 C2 C3 C4
  go_wp2_with fail
  refine wp_region_each (fun L A W => ∃ (v : Nat → Value) (g : Nat → Nat), A = ⟨#[.agg #[.int .i64 n, .int .i64 d], .int .i64 u, .pointer (some ⟨w.heap.size, 0, none⟩), undef, .bool false, .pointer (some ⟨y3.heap.size, 0, none⟩), .int .i64 0, .pointer (some ⟨y4.heap.size, 0, none⟩), .int .i64 0, .int .i64 s1, .int .i64 0, .int .i64 s2, .int .i64 0, undef, undef, undef, undef, undef, undef, .bool true, .bool false, .agg #[.int .i64 n, .int .i64 d], .bool true, .bool false, .bool false, .int .i64 u, .bool false, .bool false, .bool false, .int .i64 u, .bool false, .bool false, .tuple #[.agg #[.int .i64 s1, .int .i64 s2], .int .i64 0], .agg #[.int .i64 n, .int .i64 d], .int .i64 u, .tuple #[.agg #[.int .i64 s1, .int .i64 s2], .int .i64 0], .agg #[.int .i64 s1, .int .i64 s2], .int .i64 0, .tuple #[.agg #[.int .i64 pn, .int .i64 pd], .int .i64 0], .agg #[.int .i64 n, .int .i64 d], .int .i64 u, .agg #[.int .i64 u, .int .i64 1], .tuple #[.agg #[.int .i64 pn, .int .i64 pd], .int .i64 0], .agg #[.int .i64 pn, .int .i64 pd], .int .i64 0, .int .i64 0, .bool true, .tuple #[.int .i64 s1, .int .i64 0], .agg #[.int .i64 pn, .int .i64 pd], .tuple #[.int .i64 s1, .int .i64 0], .int .i64 s1, .int .i64 0, .tuple #[.int .i64 s2, .int .i64 0], .agg #[.int .i64 pn, .int .i64 pd], .tuple #[.int .i64 s2, .int .i64 0], .int .i64 s2, .int .i64 0, v 57, v 58, v 59, v 60, v 61, v 62, v 63, v 64, v 65, v 66, v 67, v 68, v 69, v 70, v 71, v 72, v 73, v 74, v 75, v 76, v 77, v 78, v 79, v 80, v 81, v 82, v 83, v 84, v 85, v 86, v 87, v 88, v 89, v 90, v 91, v 92, undef, undef, undef, undef, undef, undef, undef, undef, undef, undef, undef, undef, undef, undef, undef, undef, undef, undef, undef, undef, undef, undef, undef, undef, undef, undef, undef, undef, undef, undef, undef, undef, undef, undef, undef, undef, undef, undef, undef, undef, undef, undef, undef, undef, undef, undef, undef, undef], []⟩ ∧ Fr11010R w n d u s1 s2 t1 t2 pn pd pf z1 z2 hh b y3 y4 y6 L v g W) (by kernel_rfl) (by kernel_rfl) ⟨fun _ => undef, fun _ => 0, rfl, ⟨Below.drew (Below.refl _ _), Had.none, Had.none, Had.none, Had.none, Had.none, Had.none, Had.none, Had.none, Had.none, Had.none, Had.none, Had.none, Had.none, Had.none, Had.none, Had.none, Had.none, Had.none, Had.none, Had.none, Had.none, Had.none, Had.none, Had.none, Had.none, Had.none, Had.none, Had.none, Had.none, Had.none, Had.none, Had.none, Had.none, Had.none, Had.none, Had.none⟩⟩ (rs := [0, 1, 2, 3, 4, 5, 6, 7, 8, 9, 10, 11, 12, 13, 14, 15, 16, 17, 18, 19, 20, 21, 22, 23, 24, 25, 26, 27, 28, 29, 30, 31, 32, 33, 34, 35]) (by kernel_rfl) ?_ ?_
  · refine EachOf.cons [] rfl (by kernel_rfl) ?_ ?_
    · rintro L A W ⟨v, g, rfl, hR⟩ hi hw K hK
      go_simp
      refine hK.out _ _ ?_
      exact ⟨(fun jz => if jz = 57 then .int .i64 0 else v jz), g, rfl, ⟨hR.st, (fun _ => rfl), hR.f1.keep rfl, hR.f2.keep rfl, hR.f3.keep rfl, hR.f4.keep rfl, hR.f5.keep rfl, hR.f6.keep rfl, hR.f7.keep rfl, hR.f8.keep rfl, hR.f9.keep rfl, hR.f10.keep rfl, hR.f11.keep rfl, hR.f12.keep rfl, hR.f13.keep rfl, hR.f14.keep rfl, hR.f15.keep rfl, hR.f16.keep rfl, hR.f17.keep rfl, hR.f18.keep rfl, hR.f19.keep rfl, hR.f20.keep rfl, hR.f21.keep rfl, hR.f22.keep rfl, hR.f23.keep rfl, hR.f24.keep rfl, hR.f25.keep rfl, hR.f26.keep rfl, hR.f27.keep rfl, hR.f28.keep rfl, hR.f29.keep rfl, hR.f30.keep rfl, hR.f31.keep rfl, hR.f32.keep rfl, hR.f33.keep rfl, hR.f34.keep rfl, hR.f35.keep rfl⟩⟩
    refine EachOf.cons [0] rfl (by kernel_rfl) ?_ ?_
    · rintro L A W ⟨v, g, rfl, hR⟩ hi hw K hK
      have e0 := hR.f0 (hw 0 (by simp))
      simp only [e0]
      clear e0
      go_simp
      refine hK.out _ _ ?_
      exact ⟨(fun jz => if jz = 57 then .int .i64 0 else if jz = 58 then .bool false else v jz), g, rfl, ⟨hR.st, (fun _ => rfl), (fun _ => rfl), hR.f2.keep rfl, hR.f3.keep rfl, hR.f4.keep rfl, hR.f5.keep rfl, hR.f6.keep rfl, hR.f7.keep rfl, hR.f8.keep rfl, hR.f9.keep rfl, hR.f10.keep rfl, hR.f11.keep rfl, hR.f12.keep rfl, hR.f13.keep rfl, hR.f14.keep rfl, hR.f15.keep rfl, hR.f16.keep rfl, hR.f17.keep rfl, hR.f18.keep rfl, hR.f19.keep rfl, hR.f20.keep rfl, hR.f21.keep rfl, hR.f22.keep rfl, hR.f23.keep rfl, hR.f24.keep rfl, hR.f25.keep rfl, hR.f26.keep rfl, hR.f27.keep rfl, hR.f28.keep rfl, hR.f29.keep rfl, hR.f30.keep rfl, hR.f31.keep rfl, hR.f32.keep rfl, hR.f33.keep rfl, hR.f34.keep rfl, hR.f35.keep rfl⟩⟩
    refine EachOf.cons [1] rfl (by kernel_rfl) ?_ ?_
    · rintro L A W ⟨v, g, rfl, hR⟩ hi hw K hK
      have e1 := hR.f1 (hw 1 (by simp))
      simp only [e1]
      clear e1
      go_simp
      refine hK.out _ _ ?_
      exact ⟨(fun jz => if jz = 58 then .bool false else if jz = 59 then .bool false else v jz), g, rfl, ⟨hR.st, hR.f0.keep rfl, (fun _ => rfl), (fun _ => rfl), hR.f3.keep rfl, hR.f4.keep rfl, hR.f5.keep rfl, hR.f6.keep rfl, hR.f7.keep rfl, hR.f8.keep rfl, hR.f9.keep rfl, hR.f10.keep rfl, hR.f11.keep rfl, hR.f12.keep rfl, hR.f13.keep rfl, hR.f14.keep rfl, hR.f15.keep rfl, hR.f16.keep rfl, hR.f17.keep rfl, hR.f18.keep rfl, hR.f19.keep rfl, hR.f20.keep rfl, hR.f21.keep rfl, hR.f22.keep rfl, hR.f23.keep rfl, hR.f24.keep rfl, hR.f25.keep rfl, hR.f26.keep rfl, hR.f27.keep rfl, hR.f28.keep rfl, hR.f29.keep rfl, hR.f30.keep rfl, hR.f31.keep rfl, hR.f32.keep rfl, hR.f33.keep rfl, hR.f34.keep rfl, hR.f35.keep rfl⟩⟩
    refine EachOf.cons [2] rfl (by kernel_rfl) ?_ ?_
    · rintro L A W ⟨v, g, rfl, hR⟩ hi hw K hK
      have e2 := hR.f2 (hw 2 (by simp))
      simp only [e2]
      clear e2
      go_simp
      refine hK.out _ _ ?_
      exact ⟨(fun jz => if jz = 59 then .bool false else if jz = 60 then .int .i64 0 else v jz), g, rfl, ⟨hR.st, hR.f0.keep rfl, hR.f1.keep rfl, (fun _ => rfl), (fun _ => rfl), hR.f4.keep rfl, hR.f5.keep rfl, hR.f6.keep rfl, hR.f7.keep rfl, hR.f8.keep rfl, hR.f9.keep rfl, hR.f10.keep rfl, hR.f11.keep rfl, hR.f12.keep rfl, hR.f13.keep rfl, hR.f14.keep rfl, hR.f15.keep rfl, hR.f16.keep rfl, hR.f17.keep rfl, hR.f18.keep rfl, hR.f19.keep rfl, hR.f20.keep rfl, hR.f21.keep rfl, hR.f22.keep rfl, hR.f23.keep rfl, hR.f24.keep rfl, hR.f25.keep rfl, hR.f26.keep rfl, hR.f27.keep rfl, hR.f28.keep rfl, hR.f29.keep rfl, hR.f30.keep rfl, hR.f31.keep rfl, hR.f32.keep rfl, hR.f33.keep rfl, hR.f34.keep rfl, hR.f35.keep rfl⟩⟩
    refine EachOf.cons [3, 2] rfl (by kernel_rfl) ?_ ?_
    · rintro L A W ⟨v, g, rfl, hR⟩ hi hw K hK
      have e3 := hR.f3 (hw 3 (by simp))
      have e2 := hR.f2 (hw 2 (by simp))
      simp only [e3, e2]
      clear e3 e2
      go_simp
      refine hK.out _ _ ?_
      exact ⟨(fun jz => if jz = 60 then .int .i64 0 else if jz = 59 then .bool false else if jz = 61 then .bool false else v jz), g, rfl, ⟨hR.st, hR.f0.keep rfl, hR.f1.keep rfl, (fun _ => rfl), (fun _ => rfl), (fun _ => rfl), hR.f5.keep rfl, hR.f6.keep rfl, hR.f7.keep rfl, hR.f8.keep rfl, hR.f9.keep rfl, hR.f10.keep rfl, hR.f11.keep rfl, hR.f12.keep rfl, hR.f13.keep rfl, hR.f14.keep rfl, hR.f15.keep rfl, hR.f16.keep rfl, hR.f17.keep rfl, hR.f18.keep rfl, hR.f19.keep rfl, hR.f20.keep rfl, hR.f21.keep rfl, hR.f22.keep rfl, hR.f23.keep rfl, hR.f24.keep rfl, hR.f25.keep rfl, hR.f26.keep rfl, hR.f27.keep rfl, hR.f28.keep rfl, hR.f29.keep rfl, hR.f30.keep rfl, hR.f31.keep rfl, hR.f32.keep rfl, hR.f33.keep rfl, hR.f34.keep rfl, hR.f35.keep rfl⟩⟩
    refine EachOf.cons [2, 4] rfl (by kernel_rfl) ?_ ?_
    · rintro L A W ⟨v, g, rfl, hR⟩ hi hw K hK
      have e2 := hR.f2 (hw 2 (by simp))
      have e4 := hR.f4 (hw 4 (by simp))
      simp only [e2, e4]
      clear e2 e4
      go_simp
      refine hK.out _ _ ?_
      exact ⟨(fun jz => if jz = 59 then .bool false else if jz = 61 then .bool false else if jz = 62 then .bool false else v jz), g, rfl, ⟨hR.st, hR.f0.keep rfl, hR.f1.keep rfl, (fun _ => rfl), hR.f3.keep rfl, (fun _ => rfl), (fun _ => rfl), hR.f6.keep rfl, hR.f7.keep rfl, hR.f8.keep rfl, hR.f9.keep rfl, hR.f10.keep rfl, hR.f11.keep rfl, hR.f12.keep rfl, hR.f13.keep rfl, hR.f14.keep rfl, hR.f15.keep rfl, hR.f16.keep rfl, hR.f17.keep rfl, hR.f18.keep rfl, hR.f19.keep rfl, hR.f20.keep rfl, hR.f21.keep rfl, hR.f22.keep rfl, hR.f23.keep rfl, hR.f24.keep rfl, hR.f25.keep rfl, hR.f26.keep rfl, hR.f27.keep rfl, hR.f28.keep rfl, hR.f29.keep rfl, hR.f30.keep rfl, hR.f31.keep rfl, hR.f32.keep rfl, hR.f33.keep rfl, hR.f34.keep rfl, hR.f35.keep rfl⟩⟩
    refine EachOf.cons [5] rfl (by kernel_rfl) ?_ ?_
    · rintro L A W ⟨v, g, rfl, hR⟩ hi hw K hK
      have e5 := hR.f5 (hw 5 (by simp))
      simp only [e5]
      clear e5
      go_simp
      refine hK.out _ _ ?_
      exact ⟨(fun jz => if jz = 62 then .bool false else if jz = 63 then .bool false else v jz), g, rfl, ⟨hR.st, hR.f0.keep rfl, hR.f1.keep rfl, hR.f2.keep rfl, hR.f3.keep rfl, hR.f4.keep rfl, (fun _ => rfl), (fun _ => rfl), hR.f7.keep rfl, hR.f8.keep rfl, hR.f9.keep rfl, hR.f10.keep rfl, hR.f11.keep rfl, hR.f12.keep rfl, hR.f13.keep rfl, hR.f14.keep rfl, hR.f15.keep rfl, hR.f16.keep rfl, hR.f17.keep rfl, hR.f18.keep rfl, hR.f19.keep rfl, hR.f20.keep rfl, hR.f21.keep rfl, hR.f22.keep rfl, hR.f23.keep rfl, hR.f24.keep rfl, hR.f25.keep rfl, hR.f26.keep rfl, hR.f27.keep rfl, hR.f28.keep rfl, hR.f29.keep rfl, hR.f30.keep rfl, hR.f31.keep rfl, hR.f32.keep rfl, hR.f33.keep rfl, hR.f34.keep rfl, hR.f35.keep rfl⟩⟩
    refine EachOf.cons [6] rfl (by kernel_rfl) ?_ ?_
    · rintro L A W ⟨v, g, rfl, hR⟩ hi hw K hK
      have e6 := hR.f6 (hw 6 (by simp))
      simp only [e6]
      clear e6
      go_simp
      refine hK.out _ _ ?_
      exact ⟨(fun jz => if jz = 63 then .bool false else if jz = 64 then .int .i64 0 else v jz), g, rfl, ⟨hR.st, hR.f0.keep rfl, hR.f1.keep rfl, hR.f2.keep rfl, hR.f3.keep rfl, hR.f4.keep rfl, hR.f5.keep rfl, (fun _ => rfl), (fun _ => rfl), hR.f8.keep rfl, hR.f9.keep rfl, hR.f10.keep rfl, hR.f11.keep rfl, hR.f12.keep rfl, hR.f13.keep rfl, hR.f14.keep rfl, hR.f15.keep rfl, hR.f16.keep rfl, hR.f17.keep rfl, hR.f18.keep rfl, hR.f19.keep rfl, hR.f20.keep rfl, hR.f21.keep rfl, hR.f22.keep rfl, hR.f23.keep rfl, hR.f24.keep rfl, hR.f25.keep rfl, hR.f26.keep rfl, hR.f27.keep rfl, hR.f28.keep rfl, hR.f29.keep rfl, hR.f30.keep rfl, hR.f31.keep rfl, hR.f32.keep rfl, hR.f33.keep rfl, hR.f34.keep rfl, hR.f35.keep rfl⟩⟩
    refine EachOf.cons [7, 6] rfl (by kernel_rfl) ?_ ?_
    · rintro L A W ⟨v, g, rfl, hR⟩ hi hw K hK
      have e7 := hR.f7 (hw 7 (by simp))
      have e6 := hR.f6 (hw 6 (by simp))
      simp only [e7, e6]
      clear e7 e6
      go_simp
      refine hK.out _ _ ?_
      exact ⟨(fun jz => if jz = 64 then .int .i64 0 else if jz = 63 then .bool false else if jz = 65 then .bool false else v jz), g, rfl, ⟨hR.st, hR.f0.keep rfl, hR.f1.keep rfl, hR.f2.keep rfl, hR.f3.keep rfl, hR.f4.keep rfl, hR.f5.keep rfl, (fun _ => rfl), (fun _ => rfl), (fun _ => rfl), hR.f9.keep rfl, hR.f10.keep rfl, hR.f11.keep rfl, hR.f12.keep rfl, hR.f13.keep rfl, hR.f14.keep rfl, hR.f15.keep rfl, hR.f16.keep rfl, hR.f17.keep rfl, hR.f18.keep rfl, hR.f19.keep rfl, hR.f20.keep rfl, hR.f21.keep rfl, hR.f22.keep rfl, hR.f23.keep rfl, hR.f24.keep rfl, hR.f25.keep rfl, hR.f26.keep rfl, hR.f27.keep rfl, hR.f28.keep rfl, hR.f29.keep rfl, hR.f30.keep rfl, hR.f31.keep rfl, hR.f32.keep rfl, hR.f33.keep rfl, hR.f34.keep rfl, hR.f35.keep rfl⟩⟩
    refine EachOf.cons [6, 8] rfl (by kernel_rfl) ?_ ?_
    · rintro L A W ⟨v, g, rfl, hR⟩ hi hw K hK
      have e6 := hR.f6 (hw 6 (by simp))
      have e8 := hR.f8 (hw 8 (by simp))
      simp only [e6, e8]
      clear e6 e8
      go_simp
      refine hK.out _ _ ?_
      exact ⟨(fun jz => if jz = 63 then .bool false else if jz = 65 then .bool false else if jz = 66 then .bool false else v jz), g, rfl, ⟨hR.st, hR.f0.keep rfl, hR.f1.keep rfl, hR.f2.keep rfl, hR.f3.keep rfl, hR.f4.keep rfl, hR.f5.keep rfl, (fun _ => rfl), hR.f7.keep rfl, (fun _ => rfl), (fun _ => rfl), hR.f10.keep rfl, hR.f11.keep rfl, hR.f12.keep rfl, hR.f13.keep rfl, hR.f14.keep rfl, hR.f15.keep rfl, hR.f16.keep rfl, hR.f17.keep rfl, hR.f18.keep rfl, hR.f19.keep rfl, hR.f20.keep rfl, hR.f21.keep rfl, hR.f22.keep rfl, hR.f23.keep rfl, hR.f24.keep rfl, hR.f25.keep rfl, hR.f26.keep rfl, hR.f27.keep rfl, hR.f28.keep rfl, hR.f29.keep rfl, hR.f30.keep rfl, hR.f31.keep rfl, hR.f32.keep rfl, hR.f33.keep rfl, hR.f34.keep rfl, hR.f35.keep rfl⟩⟩
    refine EachOf.cons [9] rfl (by kernel_rfl) ?_ ?_
    · rintro L A W ⟨v, g, rfl, hR⟩ hi hw K hK
      have e9 := hR.f9 (hw 9 (by simp))
      simp only [e9]
      clear e9
      go_simp
      refine hK.out _ _ ?_
      exact ⟨(fun jz => if jz = 66 then .bool false else if jz = 67 then .bool false else v jz), g, rfl, ⟨hR.st, hR.f0.keep rfl, hR.f1.keep rfl, hR.f2.keep rfl, hR.f3.keep rfl, hR.f4.keep rfl, hR.f5.keep rfl, hR.f6.keep rfl, hR.f7.keep rfl, hR.f8.keep rfl, (fun _ => rfl), (fun _ => rfl), hR.f11.keep rfl, hR.f12.keep rfl, hR.f13.keep rfl, hR.f14.keep rfl, hR.f15.keep rfl, hR.f16.keep rfl, hR.f17.keep rfl, hR.f18.keep rfl, hR.f19.keep rfl, hR.f20.keep rfl, hR.f21.keep rfl, hR.f22.keep rfl, hR.f23.keep rfl, hR.f24.keep rfl, hR.f25.keep rfl, hR.f26.keep rfl, hR.f27.keep rfl, hR.f28.keep rfl, hR.f29.keep rfl, hR.f30.keep rfl, hR.f31.keep rfl, hR.f32.keep rfl, hR.f33.keep rfl, hR.f34.keep rfl, hR.f35.keep rfl⟩⟩
    refine EachOf.cons [10] rfl (by kernel_rfl) ?_ ?_
    · rintro L A W ⟨v, g, rfl, hR⟩ hi hw K hK
      have e10 := hR.f10 (hw 10 (by simp))
      simp only [e10]
      clear e10
      obtain ⟨_, q0, q1⟩ := B1.out.on hR.st
      go_simp
      refine hK.out _ _ ?_
      exact ⟨(fun jz => if jz = 67 then .bool false else if jz = 68 then .agg #[.int .i64 s1, .int .i64 s2] else v jz), g, rfl, ⟨hR.st, hR.f0.keep rfl, hR.f1.keep rfl, hR.f2.keep rfl, hR.f3.keep rfl, hR.f4.keep rfl, hR.f5.keep rfl, hR.f6.keep rfl, hR.f7.keep rfl, hR.f8.keep rfl, hR.f9.keep rfl, (fun _ => rfl), (fun _ => rfl), hR.f12.keep rfl, hR.f13.keep rfl, hR.f14.keep rfl, hR.f15.keep rfl, hR.f16.keep rfl, hR.f17.keep rfl, hR.f18.keep rfl, hR.f19.keep rfl, hR.f20.keep rfl, hR.f21.keep rfl, hR.f22.keep rfl, hR.f23.keep rfl, hR.f24.keep rfl, hR.f25.keep rfl, hR.f26.keep rfl, hR.f27.keep rfl, hR.f28.keep rfl, hR.f29.keep rfl, hR.f30.keep rfl, hR.f31.keep rfl, hR.f32.keep rfl, hR.f33.keep rfl, hR.f34.keep rfl, hR.f35.keep rfl⟩⟩
    refine EachOf.cons [10] rfl (by kernel_rfl) ?_ ?_
    · rintro L A W ⟨v, g, rfl, hR⟩ hi hw K hK
      have e10 := hR.f10 (hw 10 (by simp))
      simp only [e10]
      clear e10
      go_simp
      refine hK.out _ _ ?_
      exact ⟨(fun jz => if jz = 67 then .bool false else if jz = 69 then .int .i64 s1 else v jz), g, rfl, ⟨hR.st, hR.f0.keep rfl, hR.f1.keep rfl, hR.f2.keep rfl, hR.f3.keep rfl, hR.f4.keep rfl, hR.f5.keep rfl, hR.f6.keep rfl, hR.f7.keep rfl, hR.f8.keep rfl, hR.f9.keep rfl, (fun _ => rfl), hR.f11.keep rfl, (fun _ => rfl), hR.f13.keep rfl, hR.f14.keep rfl, hR.f15.keep rfl, hR.f16.keep rfl, hR.f17.keep rfl, hR.f18.keep rfl, hR.f19.keep rfl, hR.f20.keep rfl, hR.f21.keep rfl, hR.f22.keep rfl, hR.f23.keep rfl, hR.f24.keep rfl, hR.f25.keep rfl, hR.f26.keep rfl, hR.f27.keep rfl, hR.f28.keep rfl, hR.f29.keep rfl, hR.f30.keep rfl, hR.f31.keep rfl, hR.f32.keep rfl, hR.f33.keep rfl, hR.f34.keep rfl, hR.f35.keep rfl⟩⟩
    refine EachOf.cons [10] rfl (by kernel_rfl) ?_ ?_
    · rintro L A W ⟨v, g, rfl, hR⟩ hi hw K hK
      have e10 := hR.f10 (hw 10 (by simp))
      simp only [e10]
      clear e10
      go_simp
      refine hK.out _ _ ?_
      exact ⟨(fun jz => if jz = 67 then .bool false else if jz = 70 then .int .i64 s2 else v jz), g, rfl, ⟨hR.st, hR.f0.keep rfl, hR.f1.keep rfl, hR.f2.keep rfl, hR.f3.keep rfl, hR.f4.keep rfl, hR.f5.keep rfl, hR.f6.keep rfl, hR.f7.keep rfl, hR.f8.keep rfl, hR.f9.keep rfl, (fun _ => rfl), hR.f11.keep rfl, hR.f12.keep rfl, (fun _ => rfl), hR.f14.keep rfl, hR.f15.keep rfl, hR.f16.keep rfl, hR.f17.keep rfl, hR.f18.keep rfl, hR.f19.keep rfl, hR.f20.keep rfl, hR.f21.keep rfl, hR.f22.keep rfl, hR.f23.keep rfl, hR.f24.keep rfl, hR.f25.keep rfl, hR.f26.keep rfl, hR.f27.keep rfl, hR.f28.keep rfl, hR.f29.keep rfl, hR.f30.keep rfl, hR.f31.keep rfl, hR.f32.keep rfl, hR.f33.keep rfl, hR.f34.keep rfl, hR.f35.keep rfl⟩⟩
    refine EachOf.cons [12, 13, 10] rfl (by kernel_rfl) ?_ ?_
    · rintro L A W ⟨v, g, rfl, hR⟩ hi hw K hK
      have e12 := hR.f12 (hw 12 (by simp))
      have e13 := hR.f13 (hw 13 (by simp))
      have e10 := hR.f10 (hw 10 (by simp))
      simp only [e12, e13, e10]
      clear e12 e13 e10
      go_simp
      go_at_call 39
      (with_reducible refine ((O1 _).out).mono ?_)
      rintro e w2 ⟨rfl, hb⟩
      go_simp
      refine hK.out _ _ ?_
      exact ⟨(fun jz => if jz = 69 then .int .i64 s1 else if jz = 70 then .int .i64 s2 else if jz = 67 then .bool false else if jz = 71 then .agg #[.int .i64 s1, .int .i64 s2] else v jz), g, rfl, ⟨below_on hR.st hb, hR.f0.keep rfl, hR.f1.keep rfl, hR.f2.keep rfl, hR.f3.keep rfl, hR.f4.keep rfl, hR.f5.keep rfl, hR.f6.keep rfl, hR.f7.keep rfl, hR.f8.keep rfl, hR.f9.keep rfl, (fun _ => rfl), hR.f11.keep rfl, (fun _ => rfl), (fun _ => rfl), (fun _ => rfl), hR.f15.keep rfl, hR.f16.keep rfl, hR.f17.keep rfl, hR.f18.keep rfl, hR.f19.keep rfl, hR.f20.keep rfl, hR.f21.keep rfl, hR.f22.keep rfl, hR.f23.keep rfl, hR.f24.keep rfl, hR.f25.keep rfl, hR.f26.keep rfl, hR.f27.keep rfl, hR.f28.keep rfl, hR.f29.keep rfl, hR.f30.keep rfl, hR.f31.keep rfl, hR.f32.keep rfl, hR.f33.keep rfl, hR.f34.keep rfl, hR.f35.keep rfl⟩⟩
    refine EachOf.cons [11, 14, 10] rfl (by kernel_rfl) ?_ ?_
    · rintro L A W ⟨v, g, rfl, hR⟩ hi hw K hK
      have e11 := hR.f11 (hw 11 (by simp))
      have e14 := hR.f14 (hw 14 (by simp))
      have e10 := hR.f10 (hw 10 (by simp))
      simp only [e11, e14, e10]
      clear e11 e14 e10
      go_simp
      refine hK.out _ _ ?_
      exact ⟨(fun jz => if jz = 68 then .agg #[.int .i64 s1, .int .i64 s2] else if jz = 71 then .agg #[.int .i64 s1, .int .i64 s2] else if jz = 67 then .bool false else if jz = 72 then .bool false else v jz), g, rfl, ⟨hR.st, hR.f0.keep rfl, hR.f1.keep rfl, hR.f2.keep rfl, hR.f3.keep rfl, hR.f4.keep rfl, hR.f5.keep rfl, hR.f6.keep rfl, hR.f7.keep rfl, hR.f8.keep rfl, hR.f9.keep rfl, (fun _ => rfl), (fun _ => rfl), hR.f12.keep rfl, hR.f13.keep rfl, (fun _ => rfl), (fun _ => rfl), hR.f16.keep rfl, hR.f17.keep rfl, hR.f18.keep rfl, hR.f19.keep rfl, hR.f20.keep rfl, hR.f21.keep rfl, hR.f22.keep rfl, hR.f23.keep rfl, hR.f24.keep rfl, hR.f25.keep rfl, hR.f26.keep rfl, hR.f27.keep rfl, hR.f28.keep rfl, hR.f29.keep rfl, hR.f30.keep rfl, hR.f31.keep rfl, hR.f32.keep rfl, hR.f33.keep rfl, hR.f34.keep rfl, hR.f35.keep rfl⟩⟩
    refine EachOf.cons [10, 15] rfl (by kernel_rfl) ?_ ?_
    · rintro L A W ⟨v, g, rfl, hR⟩ hi hw K hK
      have e10 := hR.f10 (hw 10 (by simp))
      have e15 := hR.f15 (hw 15 (by simp))
      simp only [e10, e15]
      clear e10 e15
      go_simp
      refine hK.out _ _ ?_
      exact ⟨(fun jz => if jz = 67 then .bool false else if jz = 72 then .bool false else if jz = 73 then .bool false else v jz), g, rfl, ⟨hR.st, hR.f0.keep rfl, hR.f1.keep rfl, hR.f2.keep rfl, hR.f3.keep rfl, hR.f4.keep rfl, hR.f5.keep rfl, hR.f6.keep rfl, hR.f7.keep rfl, hR.f8.keep rfl, hR.f9.keep rfl, (fun _ => rfl), hR.f11.keep rfl, hR.f12.keep rfl, hR.f13.keep rfl, hR.f14.keep rfl, (fun _ => rfl), (fun _ => rfl), hR.f17.keep rfl, hR.f18.keep rfl, hR.f19.keep rfl, hR.f20.keep rfl, hR.f21.keep rfl, hR.f22.keep rfl, hR.f23.keep rfl, hR.f24.keep rfl, hR.f25.keep rfl, hR.f26.keep rfl, hR.f27.keep rfl, hR.f28.keep rfl, hR.f29.keep rfl, hR.f30.keep rfl, hR.f31.keep rfl, hR.f32.keep rfl, hR.f33.keep rfl, hR.f34.keep rfl, hR.f35.keep rfl⟩⟩
    refine EachOf.cons [16] rfl (by kernel_rfl) ?_ ?_
    · rintro L A W ⟨v, g, rfl, hR⟩ hi hw K hK
      have e16 := hR.f16 (hw 16 (by simp))
      simp only [e16]
      clear e16
      go_simp
      refine hK.out _ _ ?_
      exact ⟨(fun jz => if jz = 73 then .bool false else if jz = 74 then .bool false else v jz), g, rfl, ⟨hR.st, hR.f0.keep rfl, hR.f1.keep rfl, hR.f2.keep rfl, hR.f3.keep rfl, hR.f4.keep rfl, hR.f5.keep rfl, hR.f6.keep rfl, hR.f7.keep rfl, hR.f8.keep rfl, hR.f9.keep rfl, hR.f10.keep rfl, hR.f11.keep rfl, hR.f12.keep rfl, hR.f13.keep rfl, hR.f14.keep rfl, hR.f15.keep rfl, (fun _ => rfl), (fun _ => rfl), hR.f18.keep rfl, hR.f19.keep rfl, hR.f20.keep rfl, hR.f21.keep rfl, hR.f22.keep rfl, hR.f23.keep rfl, hR.f24.keep rfl, hR.f25.keep rfl, hR.f26.keep rfl, hR.f27.keep rfl, hR.f28.keep rfl, hR.f29.keep rfl, hR.f30.keep rfl, hR.f31.keep rfl, hR.f32.keep rfl, hR.f33.keep rfl, hR.f34.keep rfl, hR.f35.keep rfl⟩⟩
    refine EachOf.cons [17] rfl (by kernel_rfl) ?_ ?_
    · rintro L A W ⟨v, g, rfl, hR⟩ hi hw K hK
      have e17 := hR.f17 (hw 17 (by simp))
      simp only [e17]
      clear e17
      go_simp
      refine hK.out _ _ ?_
      exact ⟨(fun jz => if jz = 74 then .bool false else if jz = 75 then .pointer (some ⟨y3.heap.size, 1, none⟩) else v jz), g, rfl, ⟨hR.st, hR.f0.keep rfl, hR.f1.keep rfl, hR.f2.keep rfl, hR.f3.keep rfl, hR.f4.keep rfl, hR.f5.keep rfl, hR.f6.keep rfl, hR.f7.keep rfl, hR.f8.keep rfl, hR.f9.keep rfl, hR.f10.keep rfl, hR.f11.keep rfl, hR.f12.keep rfl, hR.f13.keep rfl, hR.f14.keep rfl, hR.f15.keep rfl, hR.f16.keep rfl, (fun _ => rfl), (fun _ => rfl), hR.f19.keep rfl, hR.f20.keep rfl, hR.f21.keep rfl, hR.f22.keep rfl, hR.f23.keep rfl, hR.f24.keep rfl, hR.f25.keep rfl, hR.f26.keep rfl, hR.f27.keep rfl, hR.f28.keep rfl, hR.f29.keep rfl, hR.f30.keep rfl, hR.f31.keep rfl, hR.f32.keep rfl, hR.f33.keep rfl, hR.f34.keep rfl, hR.f35.keep rfl⟩⟩
    refine EachOf.cons [18, 17] rfl (by kernel_rfl) ?_ ?_
    · rintro L A W ⟨v, g, rfl, hR⟩ hi hw K hK
      have e18 := hR.f18 (hw 18 (by simp))
      have e17 := hR.f17 (hw 17 (by simp))
      simp only [e18, e17]
      clear e18 e17
      obtain ⟨_, q0, q1⟩ := B1.out.on hR.st
      go_simp
      refine hK.out _ _ ?_
      exact ⟨(fun jz => if jz = 75 then .pointer (some ⟨y3.heap.size, 1, none⟩) else if jz = 74 then .bool false else if jz = 76 then .int .i64 s2 else v jz), g, rfl, ⟨hR.st, hR.f0.keep rfl, hR.f1.keep rfl, hR.f2.keep rfl, hR.f3.keep rfl, hR.f4.keep rfl, hR.f5.keep rfl, hR.f6.keep rfl, hR.f7.keep rfl, hR.f8.keep rfl, hR.f9.keep rfl, hR.f10.keep rfl, hR.f11.keep rfl, hR.f12.keep rfl, hR.f13.keep rfl, hR.f14.keep rfl, hR.f15.keep rfl, hR.f16.keep rfl, (fun _ => rfl), (fun _ => rfl), (fun _ => rfl), hR.f20.keep rfl, hR.f21.keep rfl, hR.f22.keep rfl, hR.f23.keep rfl, hR.f24.keep rfl, hR.f25.keep rfl, hR.f26.keep rfl, hR.f27.keep rfl, hR.f28.keep rfl, hR.f29.keep rfl, hR.f30.keep rfl, hR.f31.keep rfl, hR.f32.keep rfl, hR.f33.keep rfl, hR.f34.keep rfl, hR.f35.keep rfl⟩⟩
    refine EachOf.cons [17] rfl (by kernel_rfl) ?_ ?_
    · rintro L A W ⟨v, g, rfl, hR⟩ hi hw K hK
      have e17 := hR.f17 (hw 17 (by simp))
      simp only [e17]
      clear e17
      go_simp
      refine hK.out _ _ ?_
      exact ⟨(fun jz => if jz = 74 then .bool false else if jz = 77 then .pointer (some ⟨y3.heap.size, 0, none⟩) else v jz), g, rfl, ⟨hR.st, hR.f0.keep rfl, hR.f1.keep rfl, hR.f2.keep rfl, hR.f3.keep rfl, hR.f4.keep rfl, hR.f5.keep rfl, hR.f6.keep rfl, hR.f7.keep rfl, hR.f8.keep rfl, hR.f9.keep rfl, hR.f10.keep rfl, hR.f11.keep rfl, hR.f12.keep rfl, hR.f13.keep rfl, hR.f14.keep rfl, hR.f15.keep rfl, hR.f16.keep rfl, (fun _ => rfl), hR.f18.keep rfl, hR.f19.keep rfl, (fun _ => rfl), hR.f21.keep rfl, hR.f22.keep rfl, hR.f23.keep rfl, hR.f24.keep rfl, hR.f25.keep rfl, hR.f26.keep rfl, hR.f27.keep rfl, hR.f28.keep rfl, hR.f29.keep rfl, hR.f30.keep rfl, hR.f31.keep rfl, hR.f32.keep rfl, hR.f33.keep rfl, hR.f34.keep rfl, hR.f35.keep rfl⟩⟩
    refine EachOf.cons [20, 17] rfl (by kernel_rfl) ?_ ?_
    · rintro L A W ⟨v, g, rfl, hR⟩ hi hw K hK
      have e20 := hR.f20 (hw 20 (by simp))
      have e17 := hR.f17 (hw 17 (by simp))
      simp only [e20, e17]
      clear e20 e17
      obtain ⟨_, q0, q1⟩ := B1.out.on hR.st
      go_simp
      refine hK.out _ _ ?_
      exact ⟨(fun jz => if jz = 77 then .pointer (some ⟨y3.heap.size, 0, none⟩) else if jz = 74 then .bool false else if jz = 78 then .int .i64 s1 else v jz), g, rfl, ⟨hR.st, hR.f0.keep rfl, hR.f1.keep rfl, hR.f2.keep rfl, hR.f3.keep rfl, hR.f4.keep rfl, hR.f5.keep rfl, hR.f6.keep rfl, hR.f7.keep rfl, hR.f8.keep rfl, hR.f9.keep rfl, hR.f10.keep rfl, hR.f11.keep rfl, hR.f12.keep rfl, hR.f13.keep rfl, hR.f14.keep rfl, hR.f15.keep rfl, hR.f16.keep rfl, (fun _ => rfl), hR.f18.keep rfl, hR.f19.keep rfl, (fun _ => rfl), (fun _ => rfl), hR.f22.keep rfl, hR.f23.keep rfl, hR.f24.keep rfl, hR.f25.keep rfl, hR.f26.keep rfl, hR.f27.keep rfl, hR.f28.keep rfl, hR.f29.keep rfl, hR.f30.keep rfl, hR.f31.keep rfl, hR.f32.keep rfl, hR.f33.keep rfl, hR.f34.keep rfl, hR.f35.keep rfl⟩⟩
    refine EachOf.cons [19, 21, 17] rfl (by kernel_rfl) ?_ ?_
    · rintro L A W ⟨v, g, rfl, hR⟩ hi hw K hK
      have e19 := hR.f19 (hw 19 (by simp))
      have e21 := hR.f21 (hw 21 (by simp))
      have e17 := hR.f17 (hw 17 (by simp))
      simp only [e19, e21, e17]
      clear e19 e21 e17
      go_simp
      refine hK.out _ _ ?_
      exact ⟨(fun jz => if jz = 76 then .int .i64 s2 else if jz = 78 then .int .i64 s1 else if jz = 74 then .bool false else if jz = 79 then .int .i64 (s2 - s1) else v jz), g, rfl, ⟨hR.st, hR.f0.keep rfl, hR.f1.keep rfl, hR.f2.keep rfl, hR.f3.keep rfl, hR.f4.keep rfl, hR.f5.keep rfl, hR.f6.keep rfl, hR.f7.keep rfl, hR.f8.keep rfl, hR.f9.keep rfl, hR.f10.keep rfl, hR.f11.keep rfl, hR.f12.keep rfl, hR.f13.keep rfl, hR.f14.keep rfl, hR.f15.keep rfl, hR.f16.keep rfl, (fun _ => rfl), hR.f18.keep rfl, (fun _ => rfl), hR.f20.keep rfl, (fun _ => rfl), (fun _ => rfl), hR.f23.keep rfl, hR.f24.keep rfl, hR.f25.keep rfl, hR.f26.keep rfl, hR.f27.keep rfl, hR.f28.keep rfl, hR.f29.keep rfl, hR.f30.keep rfl, hR.f31.keep rfl, hR.f32.keep rfl, hR.f33.keep rfl, hR.f34.keep rfl, hR.f35.keep rfl⟩⟩
    refine EachOf.cons [22, 17] rfl (by kernel_rfl) ?_ ?_
    · rintro L A W ⟨v, g, rfl, hR⟩ hi hw K hK
      have e22 := hR.f22 (hw 22 (by simp))
      have e17 := hR.f17 (hw 17 (by simp))
      simp only [e22, e17]
      clear e22 e17
      go_simp
      refine hK.out _ _ ?_
      exact ⟨(fun jz => if jz = 79 then .int .i64 (s2 - s1) else if jz = 74 then .bool false else if jz = 80 then .bool false else v jz), g, rfl, ⟨hR.st, hR.f0.keep rfl, hR.f1.keep rfl, hR.f2.keep rfl, hR.f3.keep rfl, hR.f4.keep rfl, hR.f5.keep rfl, hR.f6.keep rfl, hR.f7.keep rfl, hR.f8.keep rfl, hR.f9.keep rfl, hR.f10.keep rfl, hR.f11.keep rfl, hR.f12.keep rfl, hR.f13.keep rfl, hR.f14.keep rfl, hR.f15.keep rfl, hR.f16.keep rfl, (fun _ => rfl), hR.f18.keep rfl, hR.f19.keep rfl, hR.f20.keep rfl, hR.f21.keep rfl, (fun _ => rfl), (fun _ => rfl), hR.f24.keep rfl, hR.f25.keep rfl, hR.f26.keep rfl, hR.f27.keep rfl, hR.f28.keep rfl, hR.f29.keep rfl, hR.f30.keep rfl, hR.f31.keep rfl, hR.f32.keep rfl, hR.f33.keep rfl, hR.f34.keep rfl, hR.f35.keep rfl⟩⟩
    refine EachOf.cons [17, 23] rfl (by kernel_rfl) ?_ ?_
    · rintro L A W ⟨v, g, rfl, hR⟩ hi hw K hK
      have e17 := hR.f17 (hw 17 (by simp))
      have e23 := hR.f23 (hw 23 (by simp))
      simp only [e17, e23]
      clear e17 e23
      go_simp
      refine hK.out _ _ ?_
      exact ⟨(fun jz => if jz = 74 then .bool false else if jz = 80 then .bool false else if jz = 81 then .bool false else v jz), g, rfl, ⟨hR.st, hR.f0.keep rfl, hR.f1.keep rfl, hR.f2.keep rfl, hR.f3.keep rfl, hR.f4.keep rfl, hR.f5.keep rfl, hR.f6.keep rfl, hR.f7.keep rfl, hR.f8.keep rfl, hR.f9.keep rfl, hR.f10.keep rfl, hR.f11.keep rfl, hR.f12.keep rfl, hR.f13.keep rfl, hR.f14.keep rfl, hR.f15.keep rfl, hR.f16.keep rfl, (fun _ => rfl), hR.f18.keep rfl, hR.f19.keep rfl, hR.f20.keep rfl, hR.f21.keep rfl, hR.f22.keep rfl, (fun _ => rfl), (fun _ => rfl), hR.f25.keep rfl, hR.f26.keep rfl, hR.f27.keep rfl, hR.f28.keep rfl, hR.f29.keep rfl, hR.f30.keep rfl, hR.f31.keep rfl, hR.f32.keep rfl, hR.f33.keep rfl, hR.f34.keep rfl, hR.f35.keep rfl⟩⟩
    refine EachOf.cons [24] rfl (by kernel_rfl) ?_ ?_
    · rintro L A W ⟨v, g, rfl, hR⟩ hi hw K hK
      have e24 := hR.f24 (hw 24 (by simp))
      simp only [e24]
      clear e24
      go_simp
      refine hK.out _ _ ?_
      exact ⟨(fun jz => if jz = 81 then .bool false else if jz = 82 then .bool false else v jz), g, rfl, ⟨hR.st, hR.f0.keep rfl, hR.f1.keep rfl, hR.f2.keep rfl, hR.f3.keep rfl, hR.f4.keep rfl, hR.f5.keep rfl, hR.f6.keep rfl, hR.f7.keep rfl, hR.f8.keep rfl, hR.f9.keep rfl, hR.f10.keep rfl, hR.f11.keep rfl, hR.f12.keep rfl, hR.f13.keep rfl, hR.f14.keep rfl, hR.f15.keep rfl, hR.f16.keep rfl, hR.f17.keep rfl, hR.f18.keep rfl, hR.f19.keep rfl, hR.f20.keep rfl, hR.f21.keep rfl, hR.f22.keep rfl, hR.f23.keep rfl, (fun _ => rfl), (fun _ => rfl), hR.f26.keep rfl, hR.f27.keep rfl, hR.f28.keep rfl, hR.f29.keep rfl, hR.f30.keep rfl, hR.f31.keep rfl, hR.f32.keep rfl, hR.f33.keep rfl, hR.f34.keep rfl, hR.f35.keep rfl⟩⟩
    refine EachOf.cons [25] rfl (by kernel_rfl) ?_ ?_
    · rintro L A W ⟨v, g, rfl, hR⟩ hi hw K hK
      have e25 := hR.f25 (hw 25 (by simp))
      simp only [e25]
      clear e25
      go_simp
      refine hK.out _ _ ?_
      exact ⟨(fun jz => if jz = 82 then .bool false else if jz = 83 then .pointer (some ⟨y4.heap.size, 1, none⟩) else v jz), g, rfl, ⟨hR.st, hR.f0.keep rfl, hR.f1.keep rfl, hR.f2.keep rfl, hR.f3.keep rfl, hR.f4.keep rfl, hR.f5.keep rfl, hR.f6.keep rfl, hR.f7.keep rfl, hR.f8.keep rfl, hR.f9.keep rfl, hR.f10.keep rfl, hR.f11.keep rfl, hR.f12.keep rfl, hR.f13.keep rfl, hR.f14.keep rfl, hR.f15.keep rfl, hR.f16.keep rfl, hR.f17.keep rfl, hR.f18.keep rfl, hR.f19.keep rfl, hR.f20.keep rfl, hR.f21.keep rfl, hR.f22.keep rfl, hR.f23.keep rfl, hR.f24.keep rfl, (fun _ => rfl), (fun _ => rfl), hR.f27.keep rfl, hR.f28.keep rfl, hR.f29.keep rfl, hR.f30.keep rfl, hR.f31.keep rfl, hR.f32.keep rfl, hR.f33.keep rfl, hR.f34.keep rfl, hR.f35.keep rfl⟩⟩
    refine EachOf.cons [26, 25] rfl (by kernel_rfl) ?_ ?_
    · rintro L A W ⟨v, g, rfl, hR⟩ hi hw K hK
      have e26 := hR.f26 (hw 26 (by simp))
      have e25 := hR.f25 (hw 25 (by simp))
      simp only [e26, e25]
      clear e26 e25
      obtain ⟨_, q0, q1⟩ := B2.out.on hR.st
      go_simp
      refine hK.out _ _ ?_
      exact ⟨(fun jz => if jz = 83 then .pointer (some ⟨y4.heap.size, 1, none⟩) else if jz = 82 then .bool false else if jz = 84 then .int .i64 pd else v jz), g, rfl, ⟨hR.st, hR.f0.keep rfl, hR.f1.keep rfl, hR.f2.keep rfl, hR.f3.keep rfl, hR.f4.keep rfl, hR.f5.keep rfl, hR.f6.keep rfl, hR.f7.keep rfl, hR.f8.keep rfl, hR.f9.keep rfl, hR.f10.keep rfl, hR.f11.keep rfl, hR.f12.keep rfl, hR.f13.keep rfl, hR.f14.keep rfl, hR.f15.keep rfl, hR.f16.keep rfl, hR.f17.keep rfl, hR.f18.keep rfl, hR.f19.keep rfl, hR.f20.keep rfl, hR.f21.keep rfl, hR.f22.keep rfl, hR.f23.keep rfl, hR.f24.keep rfl, (fun _ => rfl), (fun _ => rfl), (fun _ => rfl), hR.f28.keep rfl, hR.f29.keep rfl, hR.f30.keep rfl, hR.f31.keep rfl, hR.f32.keep rfl, hR.f33.keep rfl, hR.f34.keep rfl, hR.f35.keep rfl⟩⟩
    refine EachOf.cons [27, 25] rfl (by kernel_rfl) ?_ ?_
    · rintro L A W ⟨v, g, rfl, hR⟩ hi hw K hK
      have e27 := hR.f27 (hw 27 (by simp))
      have e25 := hR.f25 (hw 25 (by simp))
      simp only [e27, e25]
      clear e27 e25
      go_simp
      refine hK.out _ _ ?_
      exact ⟨(fun jz => if jz = 84 then .int .i64 pd else if jz = 82 then .bool false else if jz = 85 then .bool b else v jz), g, rfl, ⟨hR.st, hR.f0.keep rfl, hR.f1.keep rfl, hR.f2.keep rfl, hR.f3.keep rfl, hR.f4.keep rfl, hR.f5.keep rfl, hR.f6.keep rfl, hR.f7.keep rfl, hR.f8.keep rfl, hR.f9.keep rfl, hR.f10.keep rfl, hR.f11.keep rfl, hR.f12.keep rfl, hR.f13.keep rfl, hR.f14.keep rfl, hR.f15.keep rfl, hR.f16.keep rfl, hR.f17.keep rfl, hR.f18.keep rfl, hR.f19.keep rfl, hR.f20.keep rfl, hR.f21.keep rfl, hR.f22.keep rfl, hR.f23.keep rfl, hR.f24.keep rfl, (fun _ => rfl), hR.f26.keep rfl, (fun _ => rfl), (fun _ => rfl), hR.f29.keep rfl, hR.f30.keep rfl, hR.f31.keep rfl, hR.f32.keep rfl, hR.f33.keep rfl, hR.f34.keep rfl, hR.f35.keep rfl⟩⟩
    refine EachOf.cons [25] rfl (by kernel_rfl) ?_ ?_
    · rintro L A W ⟨v, g, rfl, hR⟩ hi hw K hK
      have e25 := hR.f25 (hw 25 (by simp))
      simp only [e25]
      clear e25
      go_simp
      refine hK.out _ _ ?_
      exact ⟨(fun jz => if jz = 82 then .bool false else if jz = 86 then .pointer (some ⟨y3.heap.size, 0, none⟩) else v jz), g, rfl, ⟨hR.st, hR.f0.keep rfl, hR.f1.keep rfl, hR.f2.keep rfl, hR.f3.keep rfl, hR.f4.keep rfl, hR.f5.keep rfl, hR.f6.keep rfl, hR.f7.keep rfl, hR.f8.keep rfl, hR.f9.keep rfl, hR.f10.keep rfl, hR.f11.keep rfl, hR.f12.keep rfl, hR.f13.keep rfl, hR.f14.keep rfl, hR.f15.keep rfl, hR.f16.keep rfl, hR.f17.keep rfl, hR.f18.keep rfl, hR.f19.keep rfl, hR.f20.keep rfl, hR.f21.keep rfl, hR.f22.keep rfl, hR.f23.keep rfl, hR.f24.keep rfl, (fun _ => rfl), hR.f26.keep rfl, hR.f27.keep rfl, hR.f28.keep rfl, (fun _ => rfl), hR.f30.keep rfl, hR.f31.keep rfl, hR.f32.keep rfl, hR.f33.keep rfl, hR.f34.keep rfl, hR.f35.keep rfl⟩⟩
    refine EachOf.cons [29, 25] rfl (by kernel_rfl) ?_ ?_
    · rintro L A W ⟨v, g, rfl, hR⟩ hi hw K hK
      have e29 := hR.f29 (hw 29 (by simp))
      have e25 := hR.f25 (hw 25 (by simp))
      simp only [e29, e25]
      clear e29 e25
      obtain ⟨_, q0, q1⟩ := B1.out.on hR.st
      go_simp
      refine hK.out _ _ ?_
      exact ⟨(fun jz => if jz = 86 then .pointer (some ⟨y3.heap.size, 0, none⟩) else if jz = 82 then .bool false else if jz = 87 then .int .i64 s1 else v jz), g, rfl, ⟨hR.st, hR.f0.keep rfl, hR.f1.keep rfl, hR.f2.keep rfl, hR.f3.keep rfl, hR.f4.keep rfl, hR.f5.keep rfl, hR.f6.keep rfl, hR.f7.keep rfl, hR.f8.keep rfl, hR.f9.keep rfl, hR.f10.keep rfl, hR.f11.keep rfl, hR.f12.keep rfl, hR.f13.keep rfl, hR.f14.keep rfl, hR.f15.keep rfl, hR.f16.keep rfl, hR.f17.keep rfl, hR.f18.keep rfl, hR.f19.keep rfl, hR.f20.keep rfl, hR.f21.keep rfl, hR.f22.keep rfl, hR.f23.keep rfl, hR.f24.keep rfl, (fun _ => rfl), hR.f26.keep rfl, hR.f27.keep rfl, hR.f28.keep rfl, (fun _ => rfl), (fun _ => rfl), hR.f31.keep rfl, hR.f32.keep rfl, hR.f33.keep rfl, hR.f34.keep rfl, hR.f35.keep rfl⟩⟩
    refine EachOf.cons [25] rfl (by kernel_rfl) ?_ ?_
    · rintro L A W ⟨v, g, rfl, hR⟩ hi hw K hK
      have e25 := hR.f25 (hw 25 (by simp))
      simp only [e25]
      clear e25
      go_simp
      refine hK.out _ _ ?_
      exact ⟨(fun jz => if jz = 82 then .bool false else if jz = 88 then .pointer (some ⟨y3.heap.size, 1, none⟩) else v jz), g, rfl, ⟨hR.st, hR.f0.keep rfl, hR.f1.keep rfl, hR.f2.keep rfl, hR.f3.keep rfl, hR.f4.keep rfl, hR.f5.keep rfl, hR.f6.keep rfl, hR.f7.keep rfl, hR.f8.keep rfl, hR.f9.keep rfl, hR.f10.keep rfl, hR.f11.keep rfl, hR.f12.keep rfl, hR.f13.keep rfl, hR.f14.keep rfl, hR.f15.keep rfl, hR.f16.keep rfl, hR.f17.keep rfl, hR.f18.keep rfl, hR.f19.keep rfl, hR.f20.keep rfl, hR.f21.keep rfl, hR.f22.keep rfl, hR.f23.keep rfl, hR.f24.keep rfl, (fun _ => rfl), hR.f26.keep rfl, hR.f27.keep rfl, hR.f28.keep rfl, hR.f29.keep rfl, hR.f30.keep rfl, (fun _ => rfl), hR.f32.keep rfl, hR.f33.keep rfl, hR.f34.keep rfl, hR.f35.keep rfl⟩⟩
    refine EachOf.cons [31, 25] rfl (by kernel_rfl) ?_ ?_
    · rintro L A W ⟨v, g, rfl, hR⟩ hi hw K hK
      have e31 := hR.f31 (hw 31 (by simp))
      have e25 := hR.f25 (hw 25 (by simp))
      simp only [e31, e25]
      clear e31 e25
      obtain ⟨_, q0, q1⟩ := B1.out.on hR.st
      go_simp
      refine hK.out _ _ ?_
      exact ⟨(fun jz => if jz = 88 then .pointer (some ⟨y3.heap.size, 1, none⟩) else if jz = 82 then .bool false else if jz = 89 then .int .i64 s2 else v jz), g, rfl, ⟨hR.st, hR.f0.keep rfl, hR.f1.keep rfl, hR.f2.keep rfl, hR.f3.keep rfl, hR.f4.keep rfl, hR.f5.keep rfl, hR.f6.keep rfl, hR.f7.keep rfl, hR.f8.keep rfl, hR.f9.keep rfl, hR.f10.keep rfl, hR.f11.keep rfl, hR.f12.keep rfl, hR.f13.keep rfl, hR.f14.keep rfl, hR.f15.keep rfl, hR.f16.keep rfl, hR.f17.keep rfl, hR.f18.keep rfl, hR.f19.keep rfl, hR.f20.keep rfl, hR.f21.keep rfl, hR.f22.keep rfl, hR.f23.keep rfl, hR.f24.keep rfl, (fun _ => rfl), hR.f26.keep rfl, hR.f27.keep rfl, hR.f28.keep rfl, hR.f29.keep rfl, hR.f30.keep rfl, (fun _ => rfl), (fun _ => rfl), hR.f33.keep rfl, hR.f34.keep rfl, hR.f35.keep rfl⟩⟩
    refine EachOf.cons [30, 32, 25] rfl (by kernel_rfl) ?_ ?_
    · rintro L A W ⟨v, g, rfl, hR⟩ hi hw K hK
      have e30 := hR.f30 (hw 30 (by simp))
      have e32 := hR.f32 (hw 32 (by simp))
      have e25 := hR.f25 (hw 25 (by simp))
      simp only [e30, e32, e25]
      clear e30 e32 e25
      go_simp
      refine hK.out _ _ ?_
      exact ⟨(fun jz => if jz = 87 then .int .i64 s1 else if jz = 89 then .int .i64 s2 else if jz = 82 then .bool false else if jz = 90 then .bool b else v jz), g, rfl, ⟨hR.st, hR.f0.keep rfl, hR.f1.keep rfl, hR.f2.keep rfl, hR.f3.keep rfl, hR.f4.keep rfl, hR.f5.keep rfl, hR.f6.keep rfl, hR.f7.keep rfl, hR.f8.keep rfl, hR.f9.keep rfl, hR.f10.keep rfl, hR.f11.keep rfl, hR.f12.keep rfl, hR.f13.keep rfl, hR.f14.keep rfl, hR.f15.keep rfl, hR.f16.keep rfl, hR.f17.keep rfl, hR.f18.keep rfl, hR.f19.keep rfl, hR.f20.keep rfl, hR.f21.keep rfl, hR.f22.keep rfl, hR.f23.keep rfl, hR.f24.keep rfl, (fun _ => rfl), hR.f26.keep rfl, hR.f27.keep rfl, hR.f28.keep rfl, hR.f29.keep rfl, (fun _ => rfl), hR.f31.keep rfl, (fun _ => rfl), (fun _ => rfl), hR.f34.keep rfl, hR.f35.keep rfl⟩⟩
    refine EachOf.cons [28, 33, 25] rfl (by kernel_rfl) ?_ ?_
    · rintro L A W ⟨v, g, rfl, hR⟩ hi hw K hK
      have e28 := hR.f28 (hw 28 (by simp))
      have e33 := hR.f33 (hw 33 (by simp))
      have e25 := hR.f25 (hw 25 (by simp))
      simp only [e28, e33, e25]
      clear e28 e33 e25
      go_simp
      refine hK.out _ _ ?_
      exact ⟨(fun jz => if jz = 85 then .bool b else if jz = 90 then .bool b else if jz = 82 then .bool false else if jz = 91 then .bool false else v jz), g, rfl, ⟨hR.st, hR.f0.keep rfl, hR.f1.keep rfl, hR.f2.keep rfl, hR.f3.keep rfl, hR.f4.keep rfl, hR.f5.keep rfl, hR.f6.keep rfl, hR.f7.keep rfl, hR.f8.keep rfl, hR.f9.keep rfl, hR.f10.keep rfl, hR.f11.keep rfl, hR.f12.keep rfl, hR.f13.keep rfl, hR.f14.keep rfl, hR.f15.keep rfl, hR.f16.keep rfl, hR.f17.keep rfl, hR.f18.keep rfl, hR.f19.keep rfl, hR.f20.keep rfl, hR.f21.keep rfl, hR.f22.keep rfl, hR.f23.keep rfl, hR.f24.keep rfl, (fun _ => rfl), hR.f26.keep rfl, hR.f27.keep rfl, (fun _ => rfl), hR.f29.keep rfl, hR.f30.keep rfl, hR.f31.keep rfl, hR.f32.keep rfl, (fun _ => rfl), (fun _ => rfl), hR.f35.keep rfl⟩⟩
    refine EachOf.cons [25, 34] rfl (by kernel_rfl) ?_ ?_
    · rintro L A W ⟨v, g, rfl, hR⟩ hi hw K hK
      have e25 := hR.f25 (hw 25 (by simp))
      have e34 := hR.f34 (hw 34 (by simp))
      simp only [e25, e34]
      clear e25 e34
      go_simp
      refine hK.out _ _ ?_
      exact ⟨(fun jz => if jz = 82 then .bool false else if jz = 91 then .bool false else if jz = 92 then .bool false else v jz), g, rfl, ⟨hR.st, hR.f0.keep rfl, hR.f1.keep rfl, hR.f2.keep rfl, hR.f3.keep rfl, hR.f4.keep rfl, hR.f5.keep rfl, hR.f6.keep rfl, hR.f7.keep rfl, hR.f8.keep rfl, hR.f9.keep rfl, hR.f10.keep rfl, hR.f11.keep rfl, hR.f12.keep rfl, hR.f13.keep rfl, hR.f14.keep rfl, hR.f15.keep rfl, hR.f16.keep rfl, hR.f17.keep rfl, hR.f18.keep rfl, hR.f19.keep rfl, hR.f20.keep rfl, hR.f21.keep rfl, hR.f22.keep rfl, hR.f23.keep rfl, hR.f24.keep rfl, (fun _ => rfl), hR.f26.keep rfl, hR.f27.keep rfl, hR.f28.keep rfl, hR.f29.keep rfl, hR.f30.keep rfl, hR.f31.keep rfl, hR.f32.keep rfl, hR.f33.keep rfl, (fun _ => rfl), (fun _ => rfl)⟩⟩
    exact EachOf.nil
  rintro L A W1 ⟨v1, g1, rfl, hR⟩ hL
  have e35 := hR.f35 (hL 35 (by simp))
  have hst := Lib.hid hR.st
  simp only [e35]
  clear e35
  clear hR hL
  replace B0 := Lib.hid (B0.out.on hst.out)
  replace B1 := Lib.hid (B1.out.on hst.out)
  replace B2 := Lib.hid (B2.out.on hst.out)
  replace HW := Lib.hid (below_on HW.out hst.out)
  clear O1
  obtain ⟨_, B0p, B0q⟩ := B0.out
  go_wp2_with fail
  (with_reducible refine ((C5 _).out).mono ?_)
  rintro e y7 ⟨rfl, hb⟩
  clear B0p B0q
  have hst := Lib.hid hb
  clear hb
  replace B0 := Lib.hid (B0.out.on hst.out)
  replace B1 := Lib.hid (B1.out.on hst.out)
  replace B2 := Lib.hid (B2.out.on hst.out)
  replace HW := Lib.hid (below_on HW.out hst.out)
  clear hst
  go_wp2_with fail
  obtain ⟨y8, hy⟩ : ∃ W, W = (y7.alloc (Obj.cells #[Value.int .i64 t1, Value.int .i64 t2] 23)) := ⟨_, rfl⟩
  rw [← hy]
  have hb : Below ((y7.alloc (Obj.cells #[Value.int .i64 t1, Value.int .i64 t2] 23))).heap.size ((y7.alloc (Obj.cells #[Value.int .i64 t1, Value.int .i64 t2] 23))) y8 := by rw [hy]; exact Below.refl _ _
  clear hy
  have hst := Lib.hid (below_on (w := y7) (by repeat' (first | (with_reducible exact Below.refl _ _) | (with_reducible assumption) | (with_reducible refine Below.alloc ?_ ?_ _) | (with_reducible refine below_drew ?_ _) | (with_reducible refine Below.drew ?_) | (with_reducible refine Below.setCell ?_ ?_ _) | go_size)) hb)
  have B3 : Hid (Blk y8 (y7.heap.size) (.int .i64 t1) (.int .i64 t2)) := Blk.on (W := (y7.alloc (Obj.cells #[Value.int .i64 t1, Value.int .i64 t2] 23))) (by first | exact Blk.new _ _ _ _ | exact (Blk.new _ _ _ _).alloc _ | (have hn := Blk.new (y7) (Value.int .i64 t1) (Value.int .i64 t2) 23; simpa using hn)) hb
  clear hb
  replace B0 := Lib.hid (B0.out.on hst.out)
  replace B1 := Lib.hid (B1.out.on hst.out)
  replace B2 := Lib.hid (B2.out.on hst.out)
  replace HW := Lib.hid (below_on HW.out hst.out)
  clear hst
  refine wp_region_each (fun L A W => ∃ (v : Nat → Value) (g : Nat → Nat), A = ⟨#[.agg #[.int .i64 n, .int .i64 d], .int .i64 u, .pointer (some ⟨w.heap.size, 0, none⟩), undef, .bool false, .pointer (some ⟨y3.heap.size, 0, none⟩), .int .i64 0, .pointer (some ⟨y4.heap.size, 0, none⟩), .int .i64 0, .int .i64 s1, .int .i64 0, .int .i64 s2, .int .i64 0, .pointer (some ⟨y7.heap.size, 0, none⟩), .int .i64 0, v 15, v 16, undef, undef, .bool true, .bool false, .agg #[.int .i64 n, .int .i64 d], .bool true, .bool false, .bool false, .int .i64 u, .bool false, .bool false, .bool false, .int .i64 u, .bool false, .bool false, .tuple #[.agg #[.int .i64 s1, .int .i64 s2], .int .i64 0], .agg #[.int .i64 n, .int .i64 d], .int .i64 u, .tuple #[.agg #[.int .i64 s1, .int .i64 s2], .int .i64 0], .agg #[.int .i64 s1, .int .i64 s2], .int .i64 0, .tuple #[.agg #[.int .i64 pn, .int .i64 pd], .int .i64 0], .agg #[.int .i64 n, .int .i64 d], .int .i64 u, .agg #[.int .i64 u, .int .i64 1], .tuple #[.agg #[.int .i64 pn, .int .i64 pd], .int .i64 0], .agg #[.int .i64 pn, .int .i64 pd], .int .i64 0, .int .i64 0, .bool true, .tuple #[.int .i64 s1, .int .i64 0], .agg #[.int .i64 pn, .int .i64 pd], .tuple #[.int .i64 s1, .int .i64 0], .int .i64 s1, .int .i64 0, .tuple #[.int .i64 s2, .int .i64 0], .agg #[.int .i64 pn, .int .i64 pd], .tuple #[.int .i64 s2, .int .i64 0], .int .i64 s2, .int .i64 0, v1 57, v1 58, v1 59, v1 60, v1 61, v1 62, v1 63, v1 64, v1 65, v1 66, v1 67, v1 68, v1 69, v1 70, v1 71, v1 72, v1 73, v1 74, v1 75, v1 76, v1 77, v1 78, v1 79, v1 80, v1 81, v1 82, v1 83, v1 84, v1 85, v1 86, v1 87, v1 88, v1 89, v1 90, v1 91, .bool false, .int .i64 0, .bool false, undef, undef, undef, undef, undef, undef, .tuple #[.agg #[.int .i64 t1, .int .i64 t2], .int .i64 0], .agg #[.int .i64 n, .int .i64 d], .tuple #[.agg #[.int .i64 t1, .int .i64 t2], .int .i64 0], .agg #[.int .i64 t1, .int .i64 t2], .int .i64 0, v 106, v 107, v 108, v 109, v 110, v 111, v 112, v 113, undef, undef, undef, undef, undef, undef, undef, undef, undef, undef, undef, undef, undef, undef, undef, undef, undef, undef, undef, undef, undef, undef, undef, undef, undef, undef, undef], []⟩ ∧ Fr11015R w n d u s1 s2 t1 t2 pn pd pf z1 z2 hh b y8 L v g W) (by kernel_rfl) (by kernel_rfl) ⟨fun _ => undef, fun _ => 0, rfl, ⟨Below.drew (Below.refl _ _), Had.none, Had.none, Had.none, Had.none, Had.none, Had.none, Had.none, Had.none, Had.none, Had.none, Had.none, Had.none⟩⟩ (rs := [0, 1, 2, 3, 4, 5, 6, 7, 8, 9, 10]) (by kernel_rfl) ?_ ?_
  · refine EachOf.cons [] rfl (by kernel_rfl) ?_ ?_
    · rintro L A W ⟨v, g, rfl, hR⟩ hi hw K hK
      obtain ⟨_, q0, q1⟩ := B3.out.on hR.st
      go_simp
      refine hK.out _ _ ?_
      exact ⟨(fun jz => if jz = 107 then .agg #[.int .i64 t1, .int .i64 t2] else v jz), g, rfl, ⟨hR.st, (fun _ => rfl), hR.f1.keep rfl, hR.f2.keep rfl, hR.f3.keep rfl, hR.f4.keep rfl, hR.f5.keep rfl, hR.f6.keep rfl, hR.f7.keep rfl, hR.f8.keep rfl, hR.f10.keep rfl, hR.b8.keep rfl, hR.c9.keepM rfl (fun h => ⟨upd_on h.1, h.2⟩)⟩⟩
    refine EachOf.cons [] rfl (by kernel_rfl) ?_ ?_
    · rintro L A W ⟨v, g, rfl, hR⟩ hi hw K hK
      go_simp
      refine hK.out _ _ ?_
      exact ⟨(fun jz => if jz = 108 then .int .i64 u else v jz), g, rfl, ⟨hR.st, hR.f0.keep rfl, (fun _ => rfl), hR.f2.keep rfl, hR.f3.keep rfl, hR.f4.keep rfl, hR.f5.keep rfl, hR.f6.keep rfl, hR.f7.keep rfl, hR.f8.keep rfl, hR.f10.keep rfl, hR.b8.keep rfl, hR.c9.keepM rfl (fun h => ⟨upd_on h.1, h.2⟩)⟩⟩
    refine EachOf.cons [] rfl (by kernel_rfl) ?_ ?_
    · rintro L A W ⟨v, g, rfl, hR⟩ hi hw K hK
      go_simp
      refine hK.out _ _ ?_
      exact ⟨(fun jz => if jz = 109 then .int .i64 u else v jz), g, rfl, ⟨hR.st, hR.f0.keep rfl, hR.f1.keep rfl, (fun _ => rfl), hR.f3.keep rfl, hR.f4.keep rfl, hR.f5.keep rfl, hR.f6.keep rfl, hR.f7.keep rfl, hR.f8.keep rfl, hR.f10.keep rfl, hR.b8.keep rfl, hR.c9.keepM rfl (fun h => ⟨upd_on h.1, h.2⟩)⟩⟩
    refine EachOf.cons [1, 2] rfl (by kernel_rfl) ?_ ?_
    · rintro L A W ⟨v, g, rfl, hR⟩ hi hw K hK
      have e1 := hR.f1 (hw 1 (by simp))
      have e2 := hR.f2 (hw 2 (by simp))
      simp only [e1, e2]
      clear e1 e2
      go_simp
      go_at_call 39
      (with_reducible refine ((O2 _).out).mono ?_)
      rintro e w2 ⟨rfl, hb⟩
      go_simp
      refine hK.out _ _ ?_
      exact ⟨(fun jz => if jz = 108 then .int .i64 u else if jz = 109 then .int .i64 u else if jz = 110 then .agg #[.int .i64 u, .int .i64 u] else v jz), g, rfl, ⟨below_on hR.st hb, hR.f0.keep rfl, (fun _ => rfl), (fun _ => rfl), (fun _ => rfl), hR.f4.keep rfl, hR.f5.keep rfl, hR.f6.keep rfl, hR.f7.keep rfl, hR.f8.keep rfl, hR.f10.keep rfl, hR.b8.keepM rfl (fun h => h.on hb), hR.c9.keepM rfl (fun h => ⟨upd_on h.1, h.2.on hb⟩)⟩⟩
    refine EachOf.cons [0, 3] rfl (by kernel_rfl) ?_ ?_
    · rintro L A W ⟨v, g, rfl, hR⟩ hi hw K hK
      have e0 := hR.f0 (hw 0 (by simp))
      have e3 := hR.f3 (hw 3 (by simp))
      simp only [e0, e3]
      clear e0 e3
      go_simp
      go_at_call 23
      (with_reducible refine ((C6 _).out).mono ?_)
      rintro e w2 ⟨rfl, hb⟩
      go_simp
      refine hK.out _ _ ?_
      exact ⟨(fun jz => if jz = 107 then .agg #[.int .i64 t1, .int .i64 t2] else if jz = 110 then .agg #[.int .i64 u, .int .i64 u] else if jz = 111 then .tuple #[.agg #[.int .i64 z1, .int .i64 z2], .int .i64 5] else v jz), g, rfl, ⟨below_on hR.st hb, (fun _ => rfl), hR.f1.keep rfl, hR.f2.keep rfl, (fun _ => rfl), (fun _ => rfl), hR.f5.keep rfl, hR.f6.keep rfl, hR.f7.keep rfl, hR.f8.keep rfl, hR.f10.keep rfl, hR.b8.keepM rfl (fun h => h.on hb), hR.c9.keepM rfl (fun h => ⟨upd_on h.1, h.2.on hb⟩)⟩⟩
    refine EachOf.cons [4] rfl (by kernel_rfl) ?_ ?_
    · rintro L A W ⟨v, g, rfl, hR⟩ hi hw K hK
      have e4 := hR.f4 (hw 4 (by simp))
      simp only [e4]
      clear e4
      go_simp
      refine hK.out _ _ ?_
      exact ⟨(fun jz => if jz = 111 then .tuple #[.agg #[.int .i64 z1, .int .i64 z2], .int .i64 5] else if jz = 106 then .tuple #[.agg #[.int .i64 z1, .int .i64 z2], .int .i64 5] else v jz), g, rfl, ⟨hR.st, hR.f0.keep rfl, hR.f1.keep rfl, hR.f2.keep rfl, hR.f3.keep rfl, (fun _ => rfl), (fun _ => rfl), hR.f6.keep rfl, hR.f7.keep rfl, hR.f8.keep rfl, hR.f10.keep rfl, hR.b8.keep rfl, hR.c9.keepM rfl (fun h => ⟨upd_on h.1, h.2⟩)⟩⟩
    refine EachOf.cons [5] rfl (by kernel_rfl) ?_ ?_
    · rintro L A W ⟨v, g, rfl, hR⟩ hi hw K hK
      have e5 := hR.f5 (hw 5 (by simp))
      simp only [e5]
      clear e5
      go_simp
      refine hK.out _ _ ?_
      exact ⟨(fun jz => if jz = 106 then .tuple #[.agg #[.int .i64 z1, .int .i64 z2], .int .i64 5] else if jz = 112 then .agg #[.int .i64 z1, .int .i64 z2] else v jz), g, rfl, ⟨hR.st, hR.f0.keep rfl, hR.f1.keep rfl, hR.f2.keep rfl, hR.f3.keep rfl, hR.f4.keep rfl, (fun _ => rfl), (fun _ => rfl), hR.f7.keep rfl, hR.f8.keep rfl, hR.f10.keep rfl, hR.b8.keep rfl, hR.c9.keepM rfl (fun h => ⟨upd_on h.1, h.2⟩)⟩⟩
    refine EachOf.cons [5] rfl (by kernel_rfl) ?_ ?_
    · rintro L A W ⟨v, g, rfl, hR⟩ hi hw K hK
      have e5 := hR.f5 (hw 5 (by simp))
      simp only [e5]
      clear e5
      go_simp
      refine hK.out _ _ ?_
      exact ⟨(fun jz => if jz = 106 then .tuple #[.agg #[.int .i64 z1, .int .i64 z2], .int .i64 5] else if jz = 113 then .int .i64 5 else v jz), g, rfl, ⟨hR.st, hR.f0.keep rfl, hR.f1.keep rfl, hR.f2.keep rfl, hR.f3.keep rfl, hR.f4.keep rfl, (fun _ => rfl), hR.f6.keep rfl, (fun _ => rfl), hR.f8.keep rfl, hR.f10.keep rfl, hR.b8.keep rfl, hR.c9.keepM rfl (fun h => ⟨upd_on h.1, h.2⟩)⟩⟩
    refine EachOf.cons [] rfl (by kernel_rfl) ?_ ?_
    · rintro L A W ⟨v, g, rfl, hR⟩ hi hw K hK
      have hz := hR.st.size
      go_simp
      refine hK.out _ _ ?_
      have hb : Below W.heap.size W (W.alloc (Obj.cells #[Value.int IntKind.i64 0, Value.int IntKind.i64 0] 23)) := (Below.refl _ _).alloc (Nat.le_refl _) _
      exact ⟨(fun jz => if jz = 15 then .pointer (some ⟨W.heap.size, 0, none⟩) else v jz), (fun jz => if jz = 8 then W.heap.size else g jz), rfl, ⟨below_on hR.st hb, hR.f0.keep rfl, hR.f1.keep rfl, hR.f2.keep rfl, hR.f3.keep rfl, hR.f4.keep rfl, hR.f5.keep rfl, hR.f6.keep rfl, hR.f7.keep rfl, (fun _ => rfl), hR.f10.keep rfl, (fun _ => Own.new _ _ _ _ hz), (fun h => absurd ((hR.c9 (upd_back h rfl)).1) (by simp [hi]))⟩⟩
    refine EachOf.cons [8, 6] rfl (by kernel_rfl) ?_ ?_
    · rintro L A W ⟨v, g, rfl, hR⟩ hi hw K hK
      have e8 := hR.f8 (hw 8 (by simp))
      have e6 := hR.f6 (hw 6 (by simp))
      simp only [e8, e6]
      clear e8 e6
      have o2 := hR.b8 (hw 8 (by simp))
      have o1 := o2.1
      have HO := Lib.hid o2
      clear o2
      obtain ⟨_, ⟨u5, v5, l5, p5, q5⟩, r5, s5⟩ := HO.out
      go_simp
      have o2 := HO.out
      refine hK.out _ _ ?_
      exact ⟨(fun jz => if jz = 15 then .pointer (some ⟨g 8, 0, none⟩) else if jz = 112 then .agg #[.int .i64 z1, .int .i64 z2] else v jz), g, rfl, ⟨(hR.st.setCell (by simpa using o1) _).setCell (by simpa using o1) _, hR.f0.keep rfl, hR.f1.keep rfl, hR.f2.keep rfl, hR.f3.keep rfl, hR.f4.keep rfl, hR.f5.keep rfl, (fun _ => rfl), hR.f7.keep rfl, (fun _ => rfl), hR.f10.keep rfl, hR.b8.keepM rfl (fun h => h.set), (fun _ => ⟨upd_on (hw 8 (by simp)), o2.setw⟩)⟩⟩
    refine EachOf.cons [7] rfl (by kernel_rfl) ?_ ?_
    · rintro L A W ⟨v, g, rfl, hR⟩ hi hw K hK
      have e7 := hR.f7 (hw 7 (by simp))
      simp only [e7]
      clear e7
      go_simp
      refine hK.out _ _ ?_
      exact ⟨(fun jz => if jz = 113 then .int .i64 5 else if jz = 16 then .int .i64 5 else v jz), g, rfl, ⟨hR.st, hR.f0.keep rfl, hR.f1.keep rfl, hR.f2.keep rfl, hR.f3.keep rfl, hR.f4.keep rfl, hR.f5.keep rfl, hR.f6.keep rfl, (fun _ => rfl), hR.f8.keep rfl, (fun _ => rfl), hR.b8.keep rfl, hR.c9.keepM rfl (fun h => ⟨upd_on h.1, h.2⟩)⟩⟩
    exact EachOf.nil
  rintro L A W2 ⟨v2, g2, rfl, hR⟩ hL
  have e8 := hR.f8 (hL 8 (by simp))
  have e10 := hR.f10 (hL 10 (by simp))
  have hst := Lib.hid hR.st
  simp only [e8, e10]
  clear e8 e10
  have HWD := Lib.hid (hR.c9 (hL 9 (by simp))).2
  have HWDF := Lib.hid (hR.b8 (hL 8 (by simp))).2.2
  have HWDN := Lib.hid (hR.b8 (hL 8 (by simp))).1
  clear hR hL
  generalize g2 8 = gw at *
  replace B0 := Lib.hid (B0.out.on hst.out)
  replace B1 := Lib.hid (B1.out.on hst.out)
  replace B2 := Lib.hid (B2.out.on hst.out)
  replace B3 := Lib.hid (B3.out.on hst.out)
  replace HW := Lib.hid (below_on HW.out hst.out)
  obtain ⟨_, B3p, B3q⟩ := B3.out
  go_wp2_with fail
  (with_reducible refine ((C7 _).out).mono ?_)
  rintro e y9 ⟨rfl, hb⟩
  clear B3p B3q
  have hst := Lib.hid hb
  clear hb
  replace HWDF := Lib.hid (HWDF.out.on HWD.out.1 hst.out)
  replace B0 := Lib.hid (B0.out.on hst.out)
  replace B1 := Lib.hid (B1.out.on hst.out)
  replace B2 := Lib.hid (B2.out.on hst.out)
  replace B3 := Lib.hid (B3.out.on hst.out)
  replace HWD := Lib.hid (HWD.out.on hst.out)
  replace HW := Lib.hid (below_on HW.out hst.out)
  clear hst
  obtain ⟨_, B0p, B0q⟩ := B0.out
  obtain ⟨_, B1p, B1q⟩ := B1.out
  obtain ⟨_, B2p, B2q⟩ := B2.out
  obtain ⟨_, B3p, B3q⟩ := B3.out
  obtain ⟨_, HWDp, HWDq⟩ := HWD.out
  go_wp2_with fail
  go_ret
  exact ⟨rfl, by have hB := HW.out; exact (by repeat' (first | (with_reducible exact Below.refl _ _) | (with_reducible assumption) | (with_reducible refine Below.alloc ?_ ?_ _) | (with_reducible refine below_drew ?_ _) | (with_reducible refine Below.drew ?_) | (with_reducible refine Below.setCell ?_ ?_ _) | go_size))⟩

structure Fr01115R (w : World) (n d u s1 s2 t1 t2 pn pd pf z1 z2 hh : Int) (b : Bool) (Wc : World) (L : Nat → Bool) (v : Nat → Value) (g : Nat → Nat) (W : World) : Prop where
  st : Below Wc.heap.size Wc W
  f0 : Had L 0 (v 107 = .agg #[.int .i64 t1, .int .i64 t2])
  f1 : Had L 1 (v 108 = .int .i64 u)
  f2 : Had L 2 (v 109 = .int .i64 u)
  f3 : Had L 3 (v 110 = .agg #[.int .i64 u, .int .i64 u])
  f4 : Had L 4 (v 111 = .tuple #[.agg #[.int .i64 z1, .int .i64 z2], .int .i64 0])
  f5 : Had L 5 (v 106 = .tuple #[.agg #[.int .i64 z1, .int .i64 z2], .int .i64 0])
  f6 : Had L 6 (v 112 = .agg #[.int .i64 z1, .int .i64 z2])
  f7 : Had L 7 (v 113 = .int .i64 0)
  f8 : Had L 8 (v 15 = .pointer (some ⟨g 8, 0, none⟩))
  f10 : Had L 10 (v 16 = .int .i64 0)
  b8 : Had L 8 (Own Wc.heap.size W (g 8))
  c9 : Had L 9 (L 8 = true ∧ Blk W (g 8) (.int .i64 z1) (.int .i64 z2))

set_option maxRecDepth 100000 in
set_option maxHeartbeats 32000000 in
theorem frac_EW (n d u pn pd pf z1 z2 : Int) (w : World) (v : Vld n d) (u0 : 1 ≤ u) (u1 : u ≤ 1099511627776) (hm : mulT n d u 1 = (pn, pd, pf)) (hpf : pf ≠ 0) (hfit : ((n * u).natAbs : Int) ≤ 1152921504606846976 * d) (hw : mulS (n / d) (-(-n / d)) u u = (z1, z2, 0)) :
    Calls Try.prog 9 #[.agg #[.int .i64 n, .int .i64 d], .int .i64 u] w fun e w' => e = .returned (.bool true) ∧ Below w.heap.size w w' := by
  have va1 := v.d1; have va2 := v.d2; have va3 := v.n1; have va4 := v.n2
  have hvb := vB_yes v
  have VA := fun w => Lib.hid (refValid_any n d w (by omega) (by omega) (by omega) (by omega))
  simp only [hvb] at VA
  have g1 : decide (u < 1) = false := decide_eq_false (by omega)
  have g2 : decide (1099511627776 < u) = false := decide_eq_false (by omega)
  have C2 := fun w => Lib.hid (Mul_any n d u 1 w (by omega) (by omega) (by omega) (by omega) (by omega) (by omega) (by omega) (by omega) pn pd pf hm)
  have hs : sOf n d u = (n * u / d, -(-(n * u) / d), 0) := by unfold sOf; rw [if_pos hvb, ofS_eq va1 u0 u1, if_pos hfit]
  have ho : sOf n d 1 = (n / d, -(-n / d), 0) := by
    unfold sOf
    rw [if_pos hvb, ofS_eq va1 (by decide) (by decide), Int.mul_one, if_pos (by omega)]
  have C1 := fun w => Lib.hid (sOf_any n d u w (by omega) (by omega) (by omega) (by omega) _ _ 0 hs)
  have C5 := fun w => Lib.hid (sOf_any n d 1 w (by omega) (by omega) (by omega) (by omega) _ _ 0 ho)
  have O2 : ∀ w, Hid (Calls Try.prog 39 #[.int .i64 u, .int .i64 u] w fun e w' => e = .returned (.agg #[.int .i64 u, .int .i64 u]) ∧ Below w.heap.size w w') := fun w => by
    have h := of_any u u w
    rw [show min u u = u by omega, show max u u = u by omega] at h
    exact h
  have ar := around v
  have r1 := ar.p0; have r2 := ar.p1; have r3 := ar.q0; have r4 := ar.q1
  have lh : n / d ≤ -(-n / d) := by
    have a := Int.ediv_mul_le n (show d ≠ 0 by omega)
    have c := Int.ediv_mul_le (-n) (show d ≠ 0 by omega)
    rcases Int.lt_or_le (-(-n / d)) (n / d) with h | h
    · have := Int.mul_le_mul_of_nonneg_right (show n / d + -n / d ≥ 1 by omega) (show 0 ≤ d by omega)
      rw [Int.add_mul] at this
      omega
    · exact h
  have vt : SVd (n / d) (-(-n / d)) := ⟨r1, lh, r4⟩
  have vu : SVd u u := ⟨by omega, by omega, by omega⟩
  have C6 := fun w => Lib.hid (sMul_any (n / d) (-(-n / d)) u u w (by omega) (by omega) (by omega) (by omega) (by omega) (by omega) (by omega) (by omega) z1 z2 0 (by unfold sMul; rw [okS_yes (sV_yes vt) (sV_yes vu)]; exact hw))
  have C7 := fun w => Lib.hid (sTimes_any (n / d) (-(-n / d)) u 1 w z1 z2 0 (by unfold sTimes; rw [if_pos (sV_yes vt), ← wide_eq lh u0 u1]; exact hw))
  have wi := wide_in va1 u0 hw
  have I1 := fun w => Lib.hid (inside_yes (n * u / d) (-(-(n * u) / d)) z1 z2 w wi.1 wi.2)
  have g5 : (pf == 0) = false := by simpa using hpf
  obtain ⟨b, _⟩ : ∃ b : Bool, True := ⟨true, trivial⟩
  obtain ⟨s1, hs1⟩ : ∃ z, n * u / d = z := ⟨_, rfl⟩
  obtain ⟨s2, hs2⟩ : ∃ z, -(-(n * u) / d) = z := ⟨_, rfl⟩
  obtain ⟨t1, ht1⟩ : ∃ z, n / d = z := ⟨_, rfl⟩
  obtain ⟨t2, ht2⟩ : ∃ z, -(-n / d) = z := ⟨_, rfl⟩
  obtain ⟨hh, _⟩ : ∃ z : Int, True := ⟨0, trivial⟩
  simp only [hs1, hs2] at C1
  simp only [hs1, hs2] at I1
  simp only [ht1, ht2] at C5
  simp only [ht1, ht2] at C6
  simp only [ht1, ht2] at C7
  clear hs1 hs2 ht1 ht2 hs ho ar r1 r2 r3 r4 lh vt vu hw wi
  clear hvb hfit hm v va1 va2 va3 va4 hpf
  have HW := Lib.hid (Below.refl w.heap.size w)
  have AW := fun w => Lib.hid (sawake_any w)
  go_enter Try.func9, Try.ntmps9
  go_wp2_with fail
  (with_reducible refine ((AW _).out).mono ?_)
  rintro e y1 ⟨rfl, hb⟩
  have hst := Lib.hid (below_on (w := w) (by repeat' (first | (with_reducible exact Below.refl _ _) | (with_reducible assumption) | (with_reducible refine Below.alloc ?_ ?_ _) | (with_reducible refine below_drew ?_ _) | (with_reducible refine Below.drew ?_) | (with_reducible refine Below.setCell ?_ ?_ _) | go_size)) hb)
  have B0 : Hid (Blk y1 (w.heap.size) (.int .i64 n) (.int .i64 d)) := Blk.on (W := (w.alloc (Obj.cells #[Value.int .i64 n, Value.int .i64 d] 35))) (by first | exact Blk.new _ _ _ _ | exact (Blk.new _ _ _ _).alloc _ | exact ((Blk.new _ _ _ _).alloc _).alloc _ | (have hn := Blk.new (w) (Value.int .i64 n) (Value.int .i64 d) 35; simpa using hn)) hb
  clear hb
  replace HW := Lib.hid (below_on HW.out hst.out)
  clear hst
  obtain ⟨_, B0p, B0q⟩ := B0.out
  go_wp2_with fail
  (with_reducible refine ((VA _).out).mono ?_)
  rintro e y2 ⟨rfl, hb⟩
  clear B0p B0q
  have hst := Lib.hid hb
  clear hb
  replace B0 := Lib.hid (B0.out.on hst.out)
  replace HW := Lib.hid (below_on HW.out hst.out)
  clear hst
  obtain ⟨_, B0p, B0q⟩ := B0.out
  go_wp2_with fail
  (with_reducible refine ((C1 _).out).mono ?_)
  rintro e y3 ⟨rfl, hb⟩
  clear B0p B0q
  have hst := Lib.hid hb
  clear hb
  replace B0 := Lib.hid (B0.out.on hst.out)
  replace HW := Lib.hid (below_on HW.out hst.out)
  clear hst
  obtain ⟨_, B0p, B0q⟩ := B0.out
  go_wp2_with fail
  (with_reducible refine ((C2 _).out).mono ?_)
  rintro e y4 ⟨rfl, hb⟩
  clear B0p B0q
  have hst := Lib.hid (below_on (w := y3) (by repeat' (first | (with_reducible exact Below.refl _ _) | (with_reducible assumption) | (with_reducible refine Below.alloc ?_ ?_ _) | (with_reducible refine below_drew ?_ _) | (with_reducible refine Below.drew ?_) | (with_reducible refine Below.setCell ?_ ?_ _) | go_size)) hb)
  have B1 : Hid (Blk y4 (y3.heap.size) (.int .i64 s1) (.int .i64 s2)) := Blk.on (W := (y3.alloc (Obj.cells #[Value.int .i64 s1, Value.int .i64 s2] 23))) (by first | exact Blk.new _ _ _ _ | exact (Blk.new _ _ _ _).alloc _ | exact ((Blk.new _ _ _ _).alloc _).alloc _ | (have hn := Blk.new (y3) (Value.int .i64 s1) (Value.int .i64 s2) 23; simpa using hn)) hb
  clear hb
  replace B0 := Lib.hid (B0.out.on hst.out)
  replace HW := Lib.hid (below_on HW.out hst.out)
  clear hst
  obtain ⟨_, B0p, B0q⟩ := B0.out
  go_wp2_with fail
  (with_reducible refine ((C5 _).out).mono ?_)
  rintro e y5 ⟨rfl, hb⟩
  clear B0p B0q
  have hst := Lib.hid (below_on (w := y4) (by repeat' (first | (with_reducible exact Below.refl _ _) | (with_reducible assumption) | (with_reducible refine Below.alloc ?_ ?_ _) | (with_reducible refine below_drew ?_ _) | (with_reducible refine Below.drew ?_) | (with_reducible refine Below.setCell ?_ ?_ _) | go_size)) hb)
  have B2 : Hid (Blk y5 (y4.heap.size) (.int .i64 pn) (.int .i64 pd)) := Blk.on (W := (y4.alloc (Obj.cells #[Value.int .i64 pn, Value.int .i64 pd] 35))) (by first | exact Blk.new _ _ _ _ | exact (Blk.new _ _ _ _).alloc _ | exact ((Blk.new _ _ _ _).alloc _).alloc _ | (have hn := Blk.new (y4) (Value.int .i64 pn) (Value.int .i64 pd) 35; simpa using hn)) hb
  clear hb
  replace B0 := Lib.hid (B0.out.on hst.out)
  replace B1 := Lib.hid (B1.out.on hst.out)
  replace HW := Lib.hid (below_on HW.out hst.out)
  clear hst
  go_wp2_with fail
  obtain ⟨y6, hy⟩ : ∃ W, W = (y5.alloc (Obj.cells #[Value.int .i64 t1, Value.int .i64 t2] 23)) := ⟨_, rfl⟩
  rw [← hy]
  have hb : Below ((y5.alloc (Obj.cells #[Value.int .i64 t1, Value.int .i64 t2] 23))).heap.size ((y5.alloc (Obj.cells #[Value.int .i64 t1, Value.int .i64 t2] 23))) y6 := by rw [hy]; exact Below.refl _ _
  clear hy
  have hst := Lib.hid (below_on (w := y5) (by repeat' (first | (with_reducible exact Below.refl _ _) | (with_reducible assumption) | (with_reducible refine Below.alloc ?_ ?_ _) | (with_reducible refine below_drew ?_ _) | (with_reducible refine Below.drew ?_) | (with_reducible refine Below.setCell ?_ ?_ _) | go_size)) hb)
  have B3 : Hid (Blk y6 (y5.heap.size) (.int .i64 t1) (.int .i64 t2)) := Blk.on (W := (y5.alloc (Obj.cells #[Value.int .i64 t1, Value.int .i64 t2] 23))) (by first | exact Blk.new _ _ _ _ | exact (Blk.new _ _ _ _).alloc _ | (have hn := Blk.new (y5) (Value.int .i64 t1) (Value.int .i64 t2) 23; simpa using hn)) hb
  clear hb
  replace B0 := Lib.hid (B0.out.on hst.out)
  replace B1 := Lib.hid (B1.out.on hst.out)
  replace B2 := Lib.hid (B2.out.on hst.out)
  replace HW := Lib.hid (below_on HW.out hst.out)
  clear hst
  refine wp_region_each (fun L A W => ∃ (v : Nat → Value) (g : Nat → Nat), A = ⟨#[.agg #[.int .i64 n, .int .i64 d], .int .i64 u, .pointer (some ⟨w.heap.size, 0, none⟩), undef, .bool false, .pointer (some ⟨y3.heap.size, 0, none⟩), .int .i64 0, .pointer (some ⟨y4.heap.size, 0, none⟩), .int .i64 pf, undef, undef, undef, undef, .pointer (some ⟨y5.heap.size, 0, none⟩), .int .i64 0, v 15, v 16, undef, undef, .bool true, .bool false, .agg #[.int .i64 n, .int .i64 d], .bool true, .bool false, .bool false, .int .i64 u, .bool false, .bool false, .bool false, .int .i64 u, .bool false, .bool false, .tuple #[.agg #[.int .i64 s1, .int .i64 s2], .int .i64 0], .agg #[.int .i64 n, .int .i64 d], .int .i64 u, .tuple #[.agg #[.int .i64 s1, .int .i64 s2], .int .i64 0], .agg #[.int .i64 s1, .int .i64 s2], .int .i64 0, .tuple #[.agg #[.int .i64 pn, .int .i64 pd], .int .i64 pf], .agg #[.int .i64 n, .int .i64 d], .int .i64 u, .agg #[.int .i64 u, .int .i64 1], .tuple #[.agg #[.int .i64 pn, .int .i64 pd], .int .i64 pf], .agg #[.int .i64 pn, .int .i64 pd], .int .i64 pf, .int .i64 pf, .bool false, undef, undef, undef, undef, undef, undef, undef, undef, undef, undef, undef, undef, undef, undef, undef, undef, undef, undef, undef, undef, undef, undef, undef, undef, undef, undef, undef, undef, undef, undef, undef, undef, undef, undef, undef, undef, undef, undef, undef, undef, undef, undef, undef, undef, undef, undef, .int .i64 0, .bool false, undef, undef, undef, undef, undef, undef, .tuple #[.agg #[.int .i64 t1, .int .i64 t2], .int .i64 0], .agg #[.int .i64 n, .int .i64 d], .tuple #[.agg #[.int .i64 t1, .int .i64 t2], .int .i64 0], .agg #[.int .i64 t1, .int .i64 t2], .int .i64 0, v 106, v 107, v 108, v 109, v 110, v 111, v 112, v 113, undef, undef, undef, undef, undef, undef, undef, undef, undef, undef, undef, undef, undef, undef, undef, undef, undef, undef, undef, undef, undef, undef, undef, undef, undef, undef, undef], []⟩ ∧ Fr01115R w n d u s1 s2 t1 t2 pn pd pf z1 z2 hh b y6 L v g W) (by kernel_rfl) (by kernel_rfl) ⟨fun _ => undef, fun _ => 0, rfl, ⟨Below.drew (Below.refl _ _), Had.none, Had.none, Had.none, Had.none, Had.none, Had.none, Had.none, Had.none, Had.none, Had.none, Had.none, Had.none⟩⟩ (rs := [0, 1, 2, 3, 4, 5, 6, 7, 8, 9, 10]) (by kernel_rfl) ?_ ?_
  · refine EachOf.cons [] rfl (by kernel_rfl) ?_ ?_
    · rintro L A W ⟨v, g, rfl, hR⟩ hi hw K hK
      obtain ⟨_, q0, q1⟩ := B3.out.on hR.st
      go_simp
      refine hK.out _ _ ?_
      exact ⟨(fun jz => if jz = 107 then .agg #[.int .i64 t1, .int .i64 t2] else v jz), g, rfl, ⟨hR.st, (fun _ => rfl), hR.f1.keep rfl, hR.f2.keep rfl, hR.f3.keep rfl, hR.f4.keep rfl, hR.f5.keep rfl, hR.f6.keep rfl, hR.f7.keep rfl, hR.f8.keep rfl, hR.f10.keep rfl, hR.b8.keep rfl, hR.c9.keepM rfl (fun h => ⟨upd_on h.1, h.2⟩)⟩⟩
    refine EachOf.cons [] rfl (by kernel_rfl) ?_ ?_
    · rintro L A W ⟨v, g, rfl, hR⟩ hi hw K hK
      go_simp
      refine hK.out _ _ ?_
      exact ⟨(fun jz => if jz = 108 then .int .i64 u else v jz), g, rfl, ⟨hR.st, hR.f0.keep rfl, (fun _ => rfl), hR.f2.keep rfl, hR.f3.keep rfl, hR.f4.keep rfl, hR.f5.keep rfl, hR.f6.keep rfl, hR.f7.keep rfl, hR.f8.keep rfl, hR.f10.keep rfl, hR.b8.keep rfl, hR.c9.keepM rfl (fun h => ⟨upd_on h.1, h.2⟩)⟩⟩
    refine EachOf.cons [] rfl (by kernel_rfl) ?_ ?_
    · rintro L A W ⟨v, g, rfl, hR⟩ hi hw K hK
      go_simp
      refine hK.out _ _ ?_
      exact ⟨(fun jz => if jz = 109 then .int .i64 u else v jz), g, rfl, ⟨hR.st, hR.f0.keep rfl, hR.f1.keep rfl, (fun _ => rfl), hR.f3.keep rfl, hR.f4.keep rfl, hR.f5.keep rfl, hR.f6.keep rfl, hR.f7.keep rfl, hR.f8.keep rfl, hR.f10.keep rfl, hR.b8.keep rfl, hR.c9.keepM rfl (fun h => ⟨upd_on h.1, h.2⟩)⟩⟩
    refine EachOf.cons [1, 2] rfl (by kernel_rfl) ?_ ?_
    · rintro L A W ⟨v, g, rfl, hR⟩ hi hw K hK
      have e1 := hR.f1 (hw 1 (by simp))
      have e2 := hR.f2 (hw 2 (by simp))
      simp only [e1, e2]
      clear e1 e2
      go_simp
      go_at_call 39
      (with_reducible refine ((O2 _).out).mono ?_)
      rintro e w2 ⟨rfl, hb⟩
      go_simp
      refine hK.out _ _ ?_
      exact ⟨(fun jz => if jz = 108 then .int .i64 u else if jz = 109 then .int .i64 u else if jz = 110 then .agg #[.int .i64 u, .int .i64 u] else v jz), g, rfl, ⟨below_on hR.st hb, hR.f0.keep rfl, (fun _ => rfl), (fun _ => rfl), (fun _ => rfl), hR.f4.keep rfl, hR.f5.keep rfl, hR.f6.keep rfl, hR.f7.keep rfl, hR.f8.keep rfl, hR.f10.keep rfl, hR.b8.keepM rfl (fun h => h.on hb), hR.c9.keepM rfl (fun h => ⟨upd_on h.1, h.2.on hb⟩)⟩⟩
    refine EachOf.cons [0, 3] rfl (by kernel_rfl) ?_ ?_
    · rintro L A W ⟨v, g, rfl, hR⟩ hi hw K hK
      have e0 := hR.f0 (hw 0 (by simp))
      have e3 := hR.f3 (hw 3 (by simp))
      simp only [e0, e3]
      clear e0 e3
      go_simp
      go_at_call 23
      (with_reducible refine ((C6 _).out).mono ?_)
      rintro e w2 ⟨rfl, hb⟩
      go_simp
      refine hK.out _ _ ?_
      exact ⟨(fun jz => if jz = 107 then .agg #[.int .i64 t1, .int .i64 t2] else if jz = 110 then .agg #[.int .i64 u, .int .i64 u] else if jz = 111 then .tuple #[.agg #[.int .i64 z1, .int .i64 z2], .int .i64 0] else v jz), g, rfl, ⟨below_on hR.st hb, (fun _ => rfl), hR.f1.keep rfl, hR.f2.keep rfl, (fun _ => rfl), (fun _ => rfl), hR.f5.keep rfl, hR.f6.keep rfl, hR.f7.keep rfl, hR.f8.keep rfl, hR.f10.keep rfl, hR.b8.keepM rfl (fun h => h.on hb), hR.c9.keepM rfl (fun h => ⟨upd_on h.1, h.2.on hb⟩)⟩⟩
    refine EachOf.cons [4] rfl (by kernel_rfl) ?_ ?_
    · rintro L A W ⟨v, g, rfl, hR⟩ hi hw K hK
      have e4 := hR.f4 (hw 4 (by simp))
      simp only [e4]
      clear e4
      go_simp
      refine hK.out _ _ ?_
      exact ⟨(fun jz => if jz = 111 then .tuple #[.agg #[.int .i64 z1, .int .i64 z2], .int .i64 0] else if jz = 106 then .tuple #[.agg #[.int .i64 z1, .int .i64 z2], .int .i64 0] else v jz), g, rfl, ⟨hR.st, hR.f0.keep rfl, hR.f1.keep rfl, hR.f2.keep rfl, hR.f3.keep rfl, (fun _ => rfl), (fun _ => rfl), hR.f6.keep rfl, hR.f7.keep rfl, hR.f8.keep rfl, hR.f10.keep rfl, hR.b8.keep rfl, hR.c9.keepM rfl (fun h => ⟨upd_on h.1, h.2⟩)⟩⟩
    refine EachOf.cons [5] rfl (by kernel_rfl) ?_ ?_
    · rintro L A W ⟨v, g, rfl, hR⟩ hi hw K hK
      have e5 := hR.f5 (hw 5 (by simp))
      simp only [e5]
      clear e5
      go_simp
      refine hK.out _ _ ?_
      exact ⟨(fun jz => if jz = 106 then .tuple #[.agg #[.int .i64 z1, .int .i64 z2], .int .i64 0] else if jz = 112 then .agg #[.int .i64 z1, .int .i64 z2] else v jz), g, rfl, ⟨hR.st, hR.f0.keep rfl, hR.f1.keep rfl, hR.f2.keep rfl, hR.f3.keep rfl, hR.f4.keep rfl, (fun _ => rfl), (fun _ => rfl), hR.f7.keep rfl, hR.f8.keep rfl, hR.f10.keep rfl, hR.b8.keep rfl, hR.c9.keepM rfl (fun h => ⟨upd_on h.1, h.2⟩)⟩⟩
    refine EachOf.cons [5] rfl (by kernel_rfl) ?_ ?_
    · rintro L A W ⟨v, g, rfl, hR⟩ hi hw K hK
      have e5 := hR.f5 (hw 5 (by simp))
      simp only [e5]
      clear e5
      go_simp
      refine hK.out _ _ ?_
      exact ⟨(fun jz => if jz = 106 then .tuple #[.agg #[.int .i64 z1, .int .i64 z2], .int .i64 0] else if jz = 113 then .int .i64 0 else v jz), g, rfl, ⟨hR.st, hR.f0.keep rfl, hR.f1.keep rfl, hR.f2.keep rfl, hR.f3.keep rfl, hR.f4.keep rfl, (fun _ => rfl), hR.f6.keep rfl, (fun _ => rfl), hR.f8.keep rfl, hR.f10.keep rfl, hR.b8.keep rfl, hR.c9.keepM rfl (fun h => ⟨upd_on h.1, h.2⟩)⟩⟩
    refine EachOf.cons [] rfl (by kernel_rfl) ?_ ?_
    · rintro L A W ⟨v, g, rfl, hR⟩ hi hw K hK
      have hz := hR.st.size
      go_simp
      refine hK.out _ _ ?_
      have hb : Below W.heap.size W (W.alloc (Obj.cells #[Value.int IntKind.i64 0, Value.int IntKind.i64 0] 23)) := (Below.refl _ _).alloc (Nat.le_refl _) _
      exact ⟨(fun jz => if jz = 15 then .pointer (some ⟨W.heap.size, 0, none⟩) else v jz), (fun jz => if jz = 8 then W.heap.size else g jz), rfl, ⟨below_on hR.st hb, hR.f0.keep rfl, hR.f1.keep rfl, hR.f2.keep rfl, hR.f3.keep rfl, hR.f4.keep rfl, hR.f5.keep rfl, hR.f6.keep rfl, hR.f7.keep rfl, (fun _ => rfl), hR.f10.keep rfl, (fun _ => Own.new _ _ _ _ hz), (fun h => absurd ((hR.c9 (upd_back h rfl)).1) (by simp [hi]))⟩⟩
    refine EachOf.cons [8, 6] rfl (by kernel_rfl) ?_ ?_
    · rintro L A W ⟨v, g, rfl, hR⟩ hi hw K hK
      have e8 := hR.f8 (hw 8 (by simp))
      have e6 := hR.f6 (hw 6 (by simp))
      simp only [e8, e6]
      clear e8 e6
      have o2 := hR.b8 (hw 8 (by simp))
      have o1 := o2.1
      have HO := Lib.hid o2
      clear o2
      obtain ⟨_, ⟨u5, v5, l5, p5, q5⟩, r5, s5⟩ := HO.out
      go_simp
      have o2 := HO.out
      refine hK.out _ _ ?_
      exact ⟨(fun jz => if jz = 15 then .pointer (some ⟨g 8, 0, none⟩) else if jz = 112 then .agg #[.int .i64 z1, .int .i64 z2] else v jz), g, rfl, ⟨(hR.st.setCell (by simpa using o1) _).setCell (by simpa using o1) _, hR.f0.keep rfl, hR.f1.keep rfl, hR.f2.keep rfl, hR.f3.keep rfl, hR.f4.keep rfl, hR.f5.keep rfl, (fun _ => rfl), hR.f7.keep rfl, (fun _ => rfl), hR.f10.keep rfl, hR.b8.keepM rfl (fun h => h.set), (fun _ => ⟨upd_on (hw 8 (by simp)), o2.setw⟩)⟩⟩
    refine EachOf.cons [7] rfl (by kernel_rfl) ?_ ?_
    · rintro L A W ⟨v, g, rfl, hR⟩ hi hw K hK
      have e7 := hR.f7 (hw 7 (by simp))
      simp only [e7]
      clear e7
      go_simp
      refine hK.out _ _ ?_
      exact ⟨(fun jz => if jz = 113 then .int .i64 0 else if jz = 16 then .int .i64 0 else v jz), g, rfl, ⟨hR.st, hR.f0.keep rfl, hR.f1.keep rfl, hR.f2.keep rfl, hR.f3.keep rfl, hR.f4.keep rfl, hR.f5.keep rfl, hR.f6.keep rfl, (fun _ => rfl), hR.f8.keep rfl, (fun _ => rfl), hR.b8.keep rfl, hR.c9.keepM rfl (fun h => ⟨upd_on h.1, h.2⟩)⟩⟩
    exact EachOf.nil
  rintro L A W1 ⟨v1, g1, rfl, hR⟩ hL
  have e8 := hR.f8 (hL 8 (by simp))
  have e10 := hR.f10 (hL 10 (by simp))
  have hst := Lib.hid hR.st
  simp only [e8, e10]
  clear e8 e10
  have HWD := Lib.hid (hR.c9 (hL 9 (by simp))).2
  have HWDF := Lib.hid (hR.b8 (hL 8 (by simp))).2.2
  have HWDN := Lib.hid (hR.b8 (hL 8 (by simp))).1
  clear hR hL
  generalize g1 8 = gw at *
  replace B0 := Lib.hid (B0.out.on hst.out)
  replace B1 := Lib.hid (B1.out.on hst.out)
  replace B2 := Lib.hid (B2.out.on hst.out)
  replace B3 := Lib.hid (B3.out.on hst.out)
  replace HW := Lib.hid (below_on HW.out hst.out)
  obtain ⟨_, B3p, B3q⟩ := B3.out
  go_wp2_with fail
  (with_reducible refine ((C7 _).out).mono ?_)
  rintro e y7 ⟨rfl, hb⟩
  clear B3p B3q
  have hst := Lib.hid hb
  clear hb
  replace HWDF := Lib.hid (HWDF.out.on HWD.out.1 hst.out)
  replace B0 := Lib.hid (B0.out.on hst.out)
  replace B1 := Lib.hid (B1.out.on hst.out)
  replace B2 := Lib.hid (B2.out.on hst.out)
  replace B3 := Lib.hid (B3.out.on hst.out)
  replace HWD := Lib.hid (HWD.out.on hst.out)
  replace HW := Lib.hid (below_on HW.out hst.out)
  clear hst
  obtain ⟨_, HWDp, HWDq⟩ := HWD.out
  obtain ⟨_, B1p, B1q⟩ := B1.out
  go_wp2_with fail
  (with_reducible refine ((I1 _).out).mono ?_)
  rintro e y8 ⟨rfl, hb⟩
  clear HWDp HWDq B1p B1q
  have hst := Lib.hid (below_on (w := y7) (by repeat' (first | (with_reducible exact Below.refl _ _) | (with_reducible assumption) | (with_reducible refine Below.alloc ?_ ?_ _) | (with_reducible refine below_drew ?_ _) | (with_reducible refine Below.drew ?_) | (with_reducible refine Below.setCell ?_ ?_ _) | go_size)) hb)
  have B4 : Hid (Blk y8 (y7.heap.size) (.int .i64 z1) (.int .i64 z2)) := Blk.on (W := (y7.alloc (Obj.cells #[Value.int .i64 z1, Value.int .i64 z2] 23))) (by first | exact Blk.new _ _ _ _ | exact (Blk.new _ _ _ _).alloc _ | exact ((Blk.new _ _ _ _).alloc _).alloc _ | (have hn := Blk.new (y7) (Value.int .i64 z1) (Value.int .i64 z2) 23; simpa using hn)) hb
  clear hb
  replace HWDF := Lib.hid (HWDF.out.on HWD.out.1 hst.out)
  replace B0 := Lib.hid (B0.out.on hst.out)
  replace B1 := Lib.hid (B1.out.on hst.out)
  replace B2 := Lib.hid (B2.out.on hst.out)
  replace B3 := Lib.hid (B3.out.on hst.out)
  replace HWD := Lib.hid (HWD.out.on hst.out)
  replace HW := Lib.hid (below_on HW.out hst.out)
  clear hst
  go_wp2_with fail
  go_ret
  exact ⟨rfl, by have hB := HW.out; exact (by repeat' (first | (with_reducible exact Below.refl _ _) | (with_reducible assumption) | (with_reducible refine Below.alloc ?_ ?_ _) | (with_reducible refine below_drew ?_ _) | (with_reducible refine Below.drew ?_) | (with_reducible refine Below.setCell ?_ ?_ _) | go_size))⟩

structure Fr01015R (w : World) (n d u s1 s2 t1 t2 pn pd pf z1 z2 hh : Int) (b : Bool) (Wc : World) (L : Nat → Bool) (v : Nat → Value) (g : Nat → Nat) (W : World) : Prop where
  st : Below Wc.heap.size Wc W
  f0 : Had L 0 (v 107 = .agg #[.int .i64 t1, .int .i64 t2])
  f1 : Had L 1 (v 108 = .int .i64 u)
  f2 : Had L 2 (v 109 = .int .i64 u)
  f3 : Had L 3 (v 110 = .agg #[.int .i64 u, .int .i64 u])
  f4 : Had L 4 (v 111 = .tuple #[.agg #[.int .i64 z1, .int .i64 z2], .int .i64 5])
  f5 : Had L 5 (v 106 = .tuple #[.agg #[.int .i64 z1, .int .i64 z2], .int .i64 5])
  f6 : Had L 6 (v 112 = .agg #[.int .i64 z1, .int .i64 z2])
  f7 : Had L 7 (v 113 = .int .i64 5)
  f8 : Had L 8 (v 15 = .pointer (some ⟨g 8, 0, none⟩))
  f10 : Had L 10 (v 16 = .int .i64 5)
  b8 : Had L 8 (Own Wc.heap.size W (g 8))
  c9 : Had L 9 (L 8 = true ∧ Blk W (g 8) (.int .i64 z1) (.int .i64 z2))

set_option maxRecDepth 100000 in
set_option maxHeartbeats 32000000 in
theorem frac_EN (n d u pn pd pf z1 z2 : Int) (w : World) (v : Vld n d) (u0 : 1 ≤ u) (u1 : u ≤ 1099511627776) (hm : mulT n d u 1 = (pn, pd, pf)) (hpf : pf ≠ 0) (hfit : ((n * u).natAbs : Int) ≤ 1152921504606846976 * d) (hw : mulS (n / d) (-(-n / d)) u u = (z1, z2, 5)) :
    Calls Try.prog 9 #[.agg #[.int .i64 n, .int .i64 d], .int .i64 u] w fun e w' => e = .returned (.bool true) ∧ Below w.heap.size w w' := by
  have va1 := v.d1; have va2 := v.d2; have va3 := v.n1; have va4 := v.n2
  have hvb := vB_yes v
  have VA := fun w => Lib.hid (refValid_any n d w (by omega) (by omega) (by omega) (by omega))
  simp only [hvb] at VA
  have g1 : decide (u < 1) = false := decide_eq_false (by omega)
  have g2 : decide (1099511627776 < u) = false := decide_eq_false (by omega)
  have C2 := fun w => Lib.hid (Mul_any n d u 1 w (by omega) (by omega) (by omega) (by omega) (by omega) (by omega) (by omega) (by omega) pn pd pf hm)
  have hs : sOf n d u = (n * u / d, -(-(n * u) / d), 0) := by unfold sOf; rw [if_pos hvb, ofS_eq va1 u0 u1, if_pos hfit]
  have ho : sOf n d 1 = (n / d, -(-n / d), 0) := by
    unfold sOf
    rw [if_pos hvb, ofS_eq va1 (by decide) (by decide), Int.mul_one, if_pos (by omega)]
  have C1 := fun w => Lib.hid (sOf_any n d u w (by omega) (by omega) (by omega) (by omega) _ _ 0 hs)
  have C5 := fun w => Lib.hid (sOf_any n d 1 w (by omega) (by omega) (by omega) (by omega) _ _ 0 ho)
  have O2 : ∀ w, Hid (Calls Try.prog 39 #[.int .i64 u, .int .i64 u] w fun e w' => e = .returned (.agg #[.int .i64 u, .int .i64 u]) ∧ Below w.heap.size w w') := fun w => by
    have h := of_any u u w
    rw [show min u u = u by omega, show max u u = u by omega] at h
    exact h
  have ar := around v
  have r1 := ar.p0; have r2 := ar.p1; have r3 := ar.q0; have r4 := ar.q1
  have lh : n / d ≤ -(-n / d) := by
    have a := Int.ediv_mul_le n (show d ≠ 0 by omega)
    have c := Int.ediv_mul_le (-n) (show d ≠ 0 by omega)
    rcases Int.lt_or_le (-(-n / d)) (n / d) with h | h
    · have := Int.mul_le_mul_of_nonneg_right (show n / d + -n / d ≥ 1 by omega) (show 0 ≤ d by omega)
      rw [Int.add_mul] at this
      omega
    · exact h
  have vt : SVd (n / d) (-(-n / d)) := ⟨r1, lh, r4⟩
  have vu : SVd u u := ⟨by omega, by omega, by omega⟩
  have C6 := fun w => Lib.hid (sMul_any (n / d) (-(-n / d)) u u w (by omega) (by omega) (by omega) (by omega) (by omega) (by omega) (by omega) (by omega) z1 z2 5 (by unfold sMul; rw [okS_yes (sV_yes vt) (sV_yes vu)]; exact hw))
  have C7 := fun w => Lib.hid (sTimes_any (n / d) (-(-n / d)) u 1 w z1 z2 5 (by unfold sTimes; rw [if_pos (sV_yes vt), ← wide_eq lh u0 u1]; exact hw))
  have g5 : (pf == 0) = false := by simpa using hpf
  obtain ⟨b, _⟩ : ∃ b : Bool, True := ⟨true, trivial⟩
  obtain ⟨s1, hs1⟩ : ∃ z, n * u / d = z := ⟨_, rfl⟩
  obtain ⟨s2, hs2⟩ : ∃ z, -(-(n * u) / d) = z := ⟨_, rfl⟩
  obtain ⟨t1, ht1⟩ : ∃ z, n / d = z := ⟨_, rfl⟩
  obtain ⟨t2, ht2⟩ : ∃ z, -(-n / d) = z := ⟨_, rfl⟩
  obtain ⟨hh, _⟩ : ∃ z : Int, True := ⟨0, trivial⟩
  simp only [hs1, hs2] at C1
  simp only [ht1, ht2] at C5
  simp only [ht1, ht2] at C6
  simp only [ht1, ht2] at C7
  clear hs1 hs2 ht1 ht2 hs ho ar r1 r2 r3 r4 lh vt vu hw
  clear hvb hfit hm v va1 va2 va3 va4 hpf
  have HW := Lib.hid (Below.refl w.heap.size w)
  have AW := fun w => Lib.hid (sawake_any w)
  go_enter Try.func9, Try.ntmps9
  go_wp2_with fail
  (with_reducible refine ((AW _).out).mono ?_)
  rintro e y1 ⟨rfl, hb⟩
  have hst := Lib.hid (below_on (w := w) (by repeat' (first | (with_reducible exact Below.refl _ _) | (with_reducible assumption) | (with_reducible refine Below.alloc ?_ ?_ _) | (with_reducible refine below_drew ?_ _) | (with_reducible refine Below.drew ?_) | (with_reducible refine Below.setCell ?_ ?_ _) | go_size)) hb)
  have B0 : Hid (Blk y1 (w.heap.size) (.int .i64 n) (.int .i64 d)) := Blk.on (W := (w.alloc (Obj.cells #[Value.int .i64 n, Value.int .i64 d] 35))) (by first | exact Blk.new _ _ _ _ | exact (Blk.new _ _ _ _).alloc _ | exact ((Blk.new _ _ _ _).alloc _).alloc _ | (have hn := Blk.new (w) (Value.int .i64 n) (Value.int .i64 d) 35; simpa using hn)) hb
  clear hb
  replace HW := Lib.hid (below_on HW.out hst.out)
  clear hst
  obtain ⟨_, B0p, B0q⟩ := B0.out
  go_wp2_with fail
  (with_reducible refine ((VA _).out).mono ?_)
  rintro e y2 ⟨rfl, hb⟩
  clear B0p B0q
  have hst := Lib.hid hb
  clear hb
  replace B0 := Lib.hid (B0.out.on hst.out)
  replace HW := Lib.hid (below_on HW.out hst.out)
  clear hst
  obtain ⟨_, B0p, B0q⟩ := B0.out
  go_wp2_with fail
  (with_reducible refine ((C1 _).out).mono ?_)
  rintro e y3 ⟨rfl, hb⟩
  clear B0p B0q
  have hst := Lib.hid hb
  clear hb
  replace B0 := Lib.hid (B0.out.on hst.out)
  replace HW := Lib.hid (below_on HW.out hst.out)
  clear hst
  obtain ⟨_, B0p, B0q⟩ := B0.out
  go_wp2_with fail
  (with_reducible refine ((C2 _).out).mono ?_)
  rintro e y4 ⟨rfl, hb⟩
  clear B0p B0q
  have hst := Lib.hid (below_on (w := y3) (by repeat' (first | (with_reducible exact Below.refl _ _) | (with_reducible assumption) | (with_reducible refine Below.alloc ?_ ?_ _) | (with_reducible refine below_drew ?_ _) | (with_reducible refine Below.drew ?_) | (with_reducible refine Below.setCell ?_ ?_ _) | go_size)) hb)
  have B1 : Hid (Blk y4 (y3.heap.size) (.int .i64 s1) (.int .i64 s2)) := Blk.on (W := (y3.alloc (Obj.cells #[Value.int .i64 s1, Value.int .i64 s2] 23))) (by first | exact Blk.new _ _ _ _ | exact (Blk.new _ _ _ _).alloc _ | exact ((Blk.new _ _ _ _).alloc _).alloc _ | (have hn := Blk.new (y3) (Value.int .i64 s1) (Value.int .i64 s2) 23; simpa using hn)) hb
  clear hb
  replace B0 := Lib.hid (B0.out.on hst.out)
  replace HW := Lib.hid (below_on HW.out hst.out)
  clear hst
  obtain ⟨_, B0p, B0q⟩ := B0.out
  go_wp2_with fail
  (with_reducible refine ((C5 _).out).mono ?_)
  rintro e y5 ⟨rfl, hb⟩
  clear B0p B0q
  have hst := Lib.hid (below_on (w := y4) (by repeat' (first | (with_reducible exact Below.refl _ _) | (with_reducible assumption) | (with_reducible refine Below.alloc ?_ ?_ _) | (with_reducible refine below_drew ?_ _) | (with_reducible refine Below.drew ?_) | (with_reducible refine Below.setCell ?_ ?_ _) | go_size)) hb)
  have B2 : Hid (Blk y5 (y4.heap.size) (.int .i64 pn) (.int .i64 pd)) := Blk.on (W := (y4.alloc (Obj.cells #[Value.int .i64 pn, Value.int .i64 pd] 35))) (by first | exact Blk.new _ _ _ _ | exact (Blk.new _ _ _ _).alloc _ | exact ((Blk.new _ _ _ _).alloc _).alloc _ | (have hn := Blk.new (y4) (Value.int .i64 pn) (Value.int .i64 pd) 35; simpa using hn)) hb
  clear hb
  replace B0 := Lib.hid (B0.out.on hst.out)
  replace B1 := Lib.hid (B1.out.on hst.out)
  replace HW := Lib.hid (below_on HW.out hst.out)
  clear hst
  go_wp2_with fail
  obtain ⟨y6, hy⟩ : ∃ W, W = (y5.alloc (Obj.cells #[Value.int .i64 t1, Value.int .i64 t2] 23)) := ⟨_, rfl⟩
  rw [← hy]
  have hb : Below ((y5.alloc (Obj.cells #[Value.int .i64 t1, Value.int .i64 t2] 23))).heap.size ((y5.alloc (Obj.cells #[Value.int .i64 t1, Value.int .i64 t2] 23))) y6 := by rw [hy]; exact Below.refl _ _
  clear hy
  have hst := Lib.hid (below_on (w := y5) (by repeat' (first | (with_reducible exact Below.refl _ _) | (with_reducible assumption) | (with_reducible refine Below.alloc ?_ ?_ _) | (with_reducible refine below_drew ?_ _) | (with_reducible refine Below.drew ?_) | (with_reducible refine Below.setCell ?_ ?_ _) | go_size)) hb)
  have B3 : Hid (Blk y6 (y5.heap.size) (.int .i64 t1) (.int .i64 t2)) := Blk.on (W := (y5.alloc (Obj.cells #[Value.int .i64 t1, Value.int .i64 t2] 23))) (by first | exact Blk.new _ _ _ _ | exact (Blk.new _ _ _ _).alloc _ | (have hn := Blk.new (y5) (Value.int .i64 t1) (Value.int .i64 t2) 23; simpa using hn)) hb
  clear hb
  replace B0 := Lib.hid (B0.out.on hst.out)
  replace B1 := Lib.hid (B1.out.on hst.out)
  replace B2 := Lib.hid (B2.out.on hst.out)
  replace HW := Lib.hid (below_on HW.out hst.out)
  clear hst
  refine wp_region_each (fun L A W => ∃ (v : Nat → Value) (g : Nat → Nat), A = ⟨#[.agg #[.int .i64 n, .int .i64 d], .int .i64 u, .pointer (some ⟨w.heap.size, 0, none⟩), undef, .bool false, .pointer (some ⟨y3.heap.size, 0, none⟩), .int .i64 0, .pointer (some ⟨y4.heap.size, 0, none⟩), .int .i64 pf, undef, undef, undef, undef, .pointer (some ⟨y5.heap.size, 0, none⟩), .int .i64 0, v 15, v 16, undef, undef, .bool true, .bool false, .agg #[.int .i64 n, .int .i64 d], .bool true, .bool false, .bool false, .int .i64 u, .bool false, .bool false, .bool false, .int .i64 u, .bool false, .bool false, .tuple #[.agg #[.int .i64 s1, .int .i64 s2], .int .i64 0], .agg #[.int .i64 n, .int .i64 d], .int .i64 u, .tuple #[.agg #[.int .i64 s1, .int .i64 s2], .int .i64 0], .agg #[.int .i64 s1, .int .i64 s2], .int .i64 0, .tuple #[.agg #[.int .i64 pn, .int .i64 pd], .int .i64 pf], .agg #[.int .i64 n, .int .i64 d], .int .i64 u, .agg #[.int .i64 u, .int .i64 1], .tuple #[.agg #[.int .i64 pn, .int .i64 pd], .int .i64 pf], .agg #[.int .i64 pn, .int .i64 pd], .int .i64 pf, .int .i64 pf, .bool false, undef, undef, undef, undef, undef, undef, undef, undef, undef, undef, undef, undef, undef, undef, undef, undef, undef, undef, undef, undef, undef, undef, undef, undef, undef, undef, undef, undef, undef, undef, undef, undef, undef, undef, undef, undef, undef, undef, undef, undef, undef, undef, undef, undef, undef, undef, .int .i64 0, .bool false, undef, undef, undef, undef, undef, undef, .tuple #[.agg #[.int .i64 t1, .int .i64 t2], .int .i64 0], .agg #[.int .i64 n, .int .i64 d], .tuple #[.agg #[.int .i64 t1, .int .i64 t2], .int .i64 0], .agg #[.int .i64 t1, .int .i64 t2], .int .i64 0, v 106, v 107, v 108, v 109, v 110, v 111, v 112, v 113, undef, undef, undef, undef, undef, undef, undef, undef, undef, undef, undef, undef, undef, undef, undef, undef, undef, undef, undef, undef, undef, undef, undef, undef, undef, undef, undef], []⟩ ∧ Fr01015R w n d u s1 s2 t1 t2 pn pd pf z1 z2 hh b y6 L v g W) (by kernel_rfl) (by kernel_rfl) ⟨fun _ => undef, fun _ => 0, rfl, ⟨Below.drew (Below.refl _ _), Had.none, Had.none, Had.none, Had.none, Had.none, Had.none, Had.none, Had.none, Had.none, Had.none, Had.none, Had.none⟩⟩ (rs := [0, 1, 2, 3, 4, 5, 6, 7, 8, 9, 10]) (by kernel_rfl) ?_ ?_
  · refine EachOf.cons [] rfl (by kernel_rfl) ?_ ?_
    · rintro L A W ⟨v, g, rfl, hR⟩ hi hw K hK
      obtain ⟨_, q0, q1⟩ := B3.out.on hR.st
      go_simp
      refine hK.out _ _ ?_
      exact ⟨(fun jz => if jz = 107 then .agg #[.int .i64 t1, .int .i64 t2] else v jz), g, rfl, ⟨hR.st, (fun _ => rfl), hR.f1.keep rfl, hR.f2.keep rfl, hR.f3.keep rfl, hR.f4.keep rfl, hR.f5.keep rfl, hR.f6.keep rfl, hR.f7.keep rfl, hR.f8.keep rfl, hR.f10.keep rfl, hR.b8.keep rfl, hR.c9.keepM rfl (fun h => ⟨upd_on h.1, h.2⟩)⟩⟩
    refine EachOf.cons [] rfl (by kernel_rfl) ?_ ?_
    · rintro L A W ⟨v, g, rfl, hR⟩ hi hw K hK
      go_simp
      refine hK.out _ _ ?_
      exact ⟨(fun jz => if jz = 108 then .int .i64 u else v jz), g, rfl, ⟨hR.st, hR.f0.keep rfl, (fun _ => rfl), hR.f2.keep rfl, hR.f3.keep rfl, hR.f4.keep rfl, hR.f5.keep rfl, hR.f6.keep rfl, hR.f7.keep rfl, hR.f8.keep rfl, hR.f10.keep rfl, hR.b8.keep rfl, hR.c9.keepM rfl (fun h => ⟨upd_on h.1, h.2⟩)⟩⟩
    refine EachOf.cons [] rfl (by kernel_rfl) ?_ ?_
    · rintro L A W ⟨v, g, rfl, hR⟩ hi hw K hK
      go_simp
      refine hK.out _ _ ?_
      exact ⟨(fun jz => if jz = 109 then .int .i64 u else v jz), g, rfl, ⟨hR.st, hR.f0.keep rfl, hR.f1.keep rfl, (fun _ => rfl), hR.f3.keep rfl, hR.f4.keep rfl, hR.f5.keep rfl, hR.f6.keep rfl, hR.f7.keep rfl, hR.f8.keep rfl, hR.f10.keep rfl, hR.b8.keep rfl, hR.c9.keepM rfl (fun h => ⟨upd_on h.1, h.2⟩)⟩⟩
    refine EachOf.cons [1, 2] rfl (by kernel_rfl) ?_ ?_
    · rintro L A W ⟨v, g, rfl, hR⟩ hi hw K hK
      have e1 := hR.f1 (hw 1 (by simp))
      have e2 := hR.f2 (hw 2 (by simp))
      simp only [e1, e2]
      clear e1 e2
      go_simp
      go_at_call 39
      (with_reducible refine ((O2 _).out).mono ?_)
      rintro e w2 ⟨rfl, hb⟩
      go_simp
      refine hK.out _ _ ?_
      exact ⟨(fun jz => if jz = 108 then .int .i64 u else if jz = 109 then .int .i64 u else if jz = 110 then .agg #[.int .i64 u, .int .i64 u] else v jz), g, rfl, ⟨below_on hR.st hb, hR.f0.keep rfl, (fun _ => rfl), (fun _ => rfl), (fun _ => rfl), hR.f4.keep rfl, hR.f5.keep rfl, hR.f6.keep rfl, hR.f7.keep rfl, hR.f8.keep rfl, hR.f10.keep rfl, hR.b8.keepM rfl (fun h => h.on hb), hR.c9.keepM rfl (fun h => ⟨upd_on h.1, h.2.on hb⟩)⟩⟩
    refine EachOf.cons [0, 3] rfl (by kernel_rfl) ?_ ?_
    · rintro L A W ⟨v, g, rfl, hR⟩ hi hw K hK
      have e0 := hR.f0 (hw 0 (by simp))
      have e3 := hR.f3 (hw 3 (by simp))
      simp only [e0, e3]
      clear e0 e3
      go_simp
      go_at_call 23
      (with_reducible refine ((C6 _).out).mono ?_)
      rintro e w2 ⟨rfl, hb⟩
      go_simp
      refine hK.out _ _ ?_
      exact ⟨(fun jz => if jz = 107 then .agg #[.int .i64 t1, .int .i64 t2] else if jz = 110 then .agg #[.int .i64 u, .int .i64 u] else if jz = 111 then .tuple #[.agg #[.int .i64 z1, .int .i64 z2], .int .i64 5] else v jz), g, rfl, ⟨below_on hR.st hb, (fun _ => rfl), hR.f1.keep rfl, hR.f2.keep rfl, (fun _ => rfl), (fun _ => rfl), hR.f5.keep rfl, hR.f6.keep rfl, hR.f7.keep rfl, hR.f8.keep rfl, hR.f10.keep rfl, hR.b8.keepM rfl (fun h => h.on hb), hR.c9.keepM rfl (fun h => ⟨upd_on h.1, h.2.on hb⟩)⟩⟩
    refine EachOf.cons [4] rfl (by kernel_rfl) ?_ ?_
    · rintro L A W ⟨v, g, rfl, hR⟩ hi hw K hK
      have e4 := hR.f4 (hw 4 (by simp))
      simp only [e4]
      clear e4
      go_simp
      refine hK.out _ _ ?_
      exact ⟨(fun jz => if jz = 111 then .tuple #[.agg #[.int .i64 z1, .int .i64 z2], .int .i64 5] else if jz = 106 then .tuple #[.agg #[.int .i64 z1, .int .i64 z2], .int .i64 5] else v jz), g, rfl, ⟨hR.st, hR.f0.keep rfl, hR.f1.keep rfl, hR.f2.keep rfl, hR.f3.keep rfl, (fun _ => rfl), (fun _ => rfl), hR.f6.keep rfl, hR.f7.keep rfl, hR.f8.keep rfl, hR.f10.keep rfl, hR.b8.keep rfl, hR.c9.keepM rfl (fun h => ⟨upd_on h.1, h.2⟩)⟩⟩
    refine EachOf.cons [5] rfl (by kernel_rfl) ?_ ?_
    · rintro L A W ⟨v, g, rfl, hR⟩ hi hw K hK
      have e5 := hR.f5 (hw 5 (by simp))
      simp only [e5]
      clear e5
      go_simp
      refine hK.out _ _ ?_
      exact ⟨(fun jz => if jz = 106 then .tuple #[.agg #[.int .i64 z1, .int .i64 z2], .int .i64 5] else if jz = 112 then .agg #[.int .i64 z1, .int .i64 z2] else v jz), g, rfl, ⟨hR.st, hR.f0.keep rfl, hR.f1.keep rfl, hR.f2.keep rfl, hR.f3.keep rfl, hR.f4.keep rfl, (fun _ => rfl), (fun _ => rfl), hR.f7.keep rfl, hR.f8.keep rfl, hR.f10.keep rfl, hR.b8.keep rfl, hR.c9.keepM rfl (fun h => ⟨upd_on h.1, h.2⟩)⟩⟩
    refine EachOf.cons [5] rfl (by kernel_rfl) ?_ ?_
    · rintro L A W ⟨v, g, rfl, hR⟩ hi hw K hK
      have e5 := hR.f5 (hw 5 (by simp))
      simp only [e5]
      clear e5
      go_simp
      refine hK.out _ _ ?_
      exact ⟨(fun jz => if jz = 106 then .tuple #[.agg #[.int .i64 z1, .int .i64 z2], .int .i64 5] else if jz = 113 then .int .i64 5 else v jz), g, rfl, ⟨hR.st, hR.f0.keep rfl, hR.f1.keep rfl, hR.f2.keep rfl, hR.f3.keep rfl, hR.f4.keep rfl, (fun _ => rfl), hR.f6.keep rfl, (fun _ => rfl), hR.f8.keep rfl, hR.f10.keep rfl, hR.b8.keep rfl, hR.c9.keepM rfl (fun h => ⟨upd_on h.1, h.2⟩)⟩⟩
    refine EachOf.cons [] rfl (by kernel_rfl) ?_ ?_
    · rintro L A W ⟨v, g, rfl, hR⟩ hi hw K hK
      have hz := hR.st.size
      go_simp
      refine hK.out _ _ ?_
      have hb : Below W.heap.size W (W.alloc (Obj.cells #[Value.int IntKind.i64 0, Value.int IntKind.i64 0] 23)) := (Below.refl _ _).alloc (Nat.le_refl _) _
      exact ⟨(fun jz => if jz = 15 then .pointer (some ⟨W.heap.size, 0, none⟩) else v jz), (fun jz => if jz = 8 then W.heap.size else g jz), rfl, ⟨below_on hR.st hb, hR.f0.keep rfl, hR.f1.keep rfl, hR.f2.keep rfl, hR.f3.keep rfl, hR.f4.keep rfl, hR.f5.keep rfl, hR.f6.keep rfl, hR.f7.keep rfl, (fun _ => rfl), hR.f10.keep rfl, (fun _ => Own.new _ _ _ _ hz), (fun h => absurd ((hR.c9 (upd_back h rfl)).1) (by simp [hi]))⟩⟩
    refine EachOf.cons [8, 6] rfl (by kernel_rfl) ?_ ?_
    · rintro L A W ⟨v, g, rfl, hR⟩ hi hw K hK
      have e8 := hR.f8 (hw 8 (by simp))
      have e6 := hR.f6 (hw 6 (by simp))
      simp only [e8, e6]
      clear e8 e6
      have o2 := hR.b8 (hw 8 (by simp))
      have o1 := o2.1
      have HO := Lib.hid o2
      clear o2
      obtain ⟨_, ⟨u5, v5, l5, p5, q5⟩, r5, s5⟩ := HO.out
      go_simp
      have o2 := HO.out
      refine hK.out _ _ ?_
      exact ⟨(fun jz => if jz = 15 then .pointer (some ⟨g 8, 0, none⟩) else if jz = 112 then .agg #[.int .i64 z1, .int .i64 z2] else v jz), g, rfl, ⟨(hR.st.setCell (by simpa using o1) _).setCell (by simpa using o1) _, hR.f0.keep rfl, hR.f1.keep rfl, hR.f2.keep rfl, hR.f3.keep rfl, hR.f4.keep rfl, hR.f5.keep rfl, (fun _ => rfl), hR.f7.keep rfl, (fun _ => rfl), hR.f10.keep rfl, hR.b8.keepM rfl (fun h => h.set), (fun _ => ⟨upd_on (hw 8 (by simp)), o2.setw⟩)⟩⟩
    refine EachOf.cons [7] rfl (by kernel_rfl) ?_ ?_
    · rintro L A W ⟨v, g, rfl, hR⟩ hi hw K hK
      have e7 := hR.f7 (hw 7 (by simp))
      simp only [e7]
      clear e7
      go_simp
      refine hK.out _ _ ?_
      exact ⟨(fun jz => if jz = 113 then .int .i64 5 else if jz = 16 then .int .i64 5 else v jz), g, rfl, ⟨hR.st, hR.f0.keep rfl, hR.f1.keep rfl, hR.f2.keep rfl, hR.f3.keep rfl, hR.f4.keep rfl, hR.f5.keep rfl, hR.f6.keep rfl, (fun _ => rfl), hR.f8.keep rfl, (fun _ => rfl), hR.b8.keep rfl, hR.c9.keepM rfl (fun h => ⟨upd_on h.1, h.2⟩)⟩⟩
    exact EachOf.nil
  rintro L A W1 ⟨v1, g1, rfl, hR⟩ hL
  have e8 := hR.f8 (hL 8 (by simp))
  have e10 := hR.f10 (hL 10 (by simp))
  have hst := Lib.hid hR.st
  simp only [e8, e10]
  clear e8 e10
  have HWD := Lib.hid (hR.c9 (hL 9 (by simp))).2
  have HWDF := Lib.hid (hR.b8 (hL 8 (by simp))).2.2
  have HWDN := Lib.hid (hR.b8 (hL 8 (by simp))).1
  clear hR hL
  generalize g1 8 = gw at *
  replace B0 := Lib.hid (B0.out.on hst.out)
  replace B1 := Lib.hid (B1.out.on hst.out)
  replace B2 := Lib.hid (B2.out.on hst.out)
  replace B3 := Lib.hid (B3.out.on hst.out)
  replace HW := Lib.hid (below_on HW.out hst.out)
  obtain ⟨_, B3p, B3q⟩ := B3.out
  go_wp2_with fail
  (with_reducible refine ((C7 _).out).mono ?_)
  rintro e y7 ⟨rfl, hb⟩
  clear B3p B3q
  have hst := Lib.hid hb
  clear hb
  replace HWDF := Lib.hid (HWDF.out.on HWD.out.1 hst.out)
  replace B0 := Lib.hid (B0.out.on hst.out)
  replace B1 := Lib.hid (B1.out.on hst.out)
  replace B2 := Lib.hid (B2.out.on hst.out)
  replace B3 := Lib.hid (B3.out.on hst.out)
  replace HWD := Lib.hid (HWD.out.on hst.out)
  replace HW := Lib.hid (below_on HW.out hst.out)
  clear hst
  obtain ⟨_, B0p, B0q⟩ := B0.out
  obtain ⟨_, B1p, B1q⟩ := B1.out
  obtain ⟨_, B2p, B2q⟩ := B2.out
  obtain ⟨_, B3p, B3q⟩ := B3.out
  obtain ⟨_, HWDp, HWDq⟩ := HWD.out
  go_wp2_with fail
  go_ret
  exact ⟨rfl, by have hB := HW.out; exact (by repeat' (first | (with_reducible exact Below.refl _ _) | (with_reducible assumption) | (with_reducible refine Below.alloc ?_ ?_ _) | (with_reducible refine below_drew ?_ _) | (with_reducible refine Below.drew ?_) | (with_reducible refine Below.setCell ?_ ?_ _) | go_size))⟩


set_option maxRecDepth 100000 in
set_option maxHeartbeats 32000000 in
theorem frac_B (n d u pn pd pf  : Int) (w : World) (v : Vld n d) (u0 : 1 ≤ u) (u1 : u ≤ 1099511627776) (hm : mulT n d u 1 = (pn, pd, pf)) (hpf : pf ≠ 0) (hfit : ¬ ((n * u).natAbs : Int) ≤ 1152921504606846976 * d) :
    Calls Try.prog 9 #[.agg #[.int .i64 n, .int .i64 d], .int .i64 u] w fun e w' => e = .returned (.bool true) ∧ Below w.heap.size w w' := by
  have va1 := v.d1; have va2 := v.d2; have va3 := v.n1; have va4 := v.n2
  have hvb := vB_yes v
  have VA := fun w => Lib.hid (refValid_any n d w (by omega) (by omega) (by omega) (by omega))
  simp only [hvb] at VA
  have g1 : decide (u < 1) = false := decide_eq_false (by omega)
  have g2 : decide (1099511627776 < u) = false := decide_eq_false (by omega)
  have C2 := fun w => Lib.hid (Mul_any n d u 1 w (by omega) (by omega) (by omega) (by omega) (by omega) (by omega) (by omega) (by omega) pn pd pf hm)
  have hs : sOf n d u = (0, 0, 5) := by unfold sOf; rw [if_pos hvb, ofS_eq va1 u0 u1, if_neg hfit]
  obtain ⟨s1, hs1⟩ : ∃ z : Int, 0 = z := ⟨_, rfl⟩
  obtain ⟨s2, hs2⟩ : ∃ z : Int, 0 = z := ⟨_, rfl⟩
  have C1 := fun w => Lib.hid (sOf_any n d u w (by omega) (by omega) (by omega) (by omega) s1 s2 5 (by rw [← hs1, ← hs2]; exact hs))
  obtain ⟨t1, t2, z1, z2, hh, b, _⟩ : ∃ (x y z t r : Int) (b : Bool), True := ⟨0, 0, 0, 0, 0, true, trivial⟩
  clear hs1 hs2
  have g5 : (pf == 0) = false := by simpa using hpf
  have g6 : (pf != 0) = true := by simpa using hpf
  clear hs
  clear hvb hfit hm v va1 va2 va3 va4 hpf
  have HW := Lib.hid (Below.refl w.heap.size w)
  have AW := fun w => Lib.hid (sawake_any w)
  go_enter Try.func9, Try.ntmps9
  go_wp2_with fail
  (with_reducible refine ((AW _).out).mono ?_)
  rintro e y1 ⟨rfl, hb⟩
  have hst := Lib.hid (below_on (w := w) (by repeat' (first | (with_reducible exact Below.refl _ _) | (with_reducible assumption) | (with_reducible refine Below.alloc ?_ ?_ _) | (with_reducible refine below_drew ?_ _) | (with_reducible refine Below.drew ?_) | (with_reducible refine Below.setCell ?_ ?_ _) | go_size)) hb)
  have B0 : Hid (Blk y1 (w.heap.size) (.int .i64 n) (.int .i64 d)) := Blk.on (W := (w.alloc (Obj.cells #[Value.int .i64 n, Value.int .i64 d] 35))) (by first | exact Blk.new _ _ _ _ | exact (Blk.new _ _ _ _).alloc _ | exact ((Blk.new _ _ _ _).alloc _).alloc _ | (have hn := Blk.new (w) (Value.int .i64 n) (Value.int .i64 d) 35; simpa using hn)) hb
  clear hb
  replace HW := Lib.hid (below_on HW.out hst.out)
  clear hst
  obtain ⟨_, B0p, B0q⟩ := B0.out
  go_wp2_with fail
  (with_reducible refine ((VA _).out).mono ?_)
  rintro e y2 ⟨rfl, hb⟩
  clear B0p B0q
  have hst := Lib.hid hb
  clear hb
  replace B0 := Lib.hid (B0.out.on hst.out)
  replace HW := Lib.hid (below_on HW.out hst.out)
  clear hst
  obtain ⟨_, B0p, B0q⟩ := B0.out
  go_wp2_with fail
  (with_reducible refine ((C1 _).out).mono ?_)
  rintro e y3 ⟨rfl, hb⟩
  clear B0p B0q
  have hst := Lib.hid hb
  clear hb
  replace B0 := Lib.hid (B0.out.on hst.out)
  replace HW := Lib.hid (below_on HW.out hst.out)
  clear hst
  obtain ⟨_, B0p, B0q⟩ := B0.out
  go_wp2_with fail
  (with_reducible refine ((C2 _).out).mono ?_)
  rintro e y4 ⟨rfl, hb⟩
  clear B0p B0q
  have hst := Lib.hid (below_on (w := y3) (by repeat' (first | (with_reducible exact Below.refl _ _) | (with_reducible assumption) | (with_reducible refine Below.alloc ?_ ?_ _) | (with_reducible refine below_drew ?_ _) | (with_reducible refine Below.drew ?_) | (with_reducible refine Below.setCell ?_ ?_ _) | go_size)) hb)
  have B1 : Hid (Blk y4 (y3.heap.size) (.int .i64 s1) (.int .i64 s2)) := Blk.on (W := (y3.alloc (Obj.cells #[Value.int .i64 s1, Value.int .i64 s2] 23))) (by first | exact Blk.new _ _ _ _ | exact (Blk.new _ _ _ _).alloc _ | exact ((Blk.new _ _ _ _).alloc _).alloc _ | (have hn := Blk.new (y3) (Value.int .i64 s1) (Value.int .i64 s2) 23; simpa using hn)) hb
  clear hb
  replace B0 := Lib.hid (B0.out.on hst.out)
  replace HW := Lib.hid (below_on HW.out hst.out)
  clear hst
  obtain ⟨_, B0p, B0q⟩ := B0.out
  obtain ⟨_, B1p, B1q⟩ := B1.out
  go_wp2_with fail
  go_ret
  first | exact ⟨rfl, HW.out⟩ | exact ⟨rfl, below_on HW.out (by repeat' (first | (with_reducible exact Below.refl _ _) | (with_reducible assumption) | (with_reducible refine Below.alloc ?_ ?_ _) | (with_reducible refine below_drew ?_ _) | (with_reducible refine Below.drew ?_) | (with_reducible refine Below.setCell ?_ ?_ _) | go_size))⟩

set_option maxRecDepth 100000 in
set_option maxHeartbeats 8000000 in
theorem frac_noA (n d u : Int) (w : World) (n0 : -9223372036854775808 ≤ n) (n1 : n ≤ 9223372036854775807) (d0 : -9223372036854775808 ≤ d) (d1 : d ≤ 9223372036854775807) (u0 : -9223372036854775808 ≤ u) (u1 : u ≤ 9223372036854775807) (hv : vB n d = false) :
    Calls Try.prog 9 #[.agg #[.int .i64 n, .int .i64 d], .int .i64 u] w fun e w' => e = .returned (.bool true) ∧ Below w.heap.size w w' := by
  have VA := fun w => Lib.hid (refValid_any n d w n0 n1 d0 d1)
  simp only [hv] at VA
  clear hv
  have HW := Lib.hid (Below.refl w.heap.size w)
  have AW := fun w => Lib.hid (sawake_any w)
  go_enter Try.func9, Try.ntmps9
  go_wp2_with fail
  (with_reducible refine ((AW _).out).mono ?_)
  rintro e y1 ⟨rfl, hb⟩
  have hst := Lib.hid (below_on (w := w) (by repeat' (first | (with_reducible exact Below.refl _ _) | (with_reducible assumption) | (with_reducible refine Below.alloc ?_ ?_ _) | (with_reducible refine below_drew ?_ _) | (with_reducible refine Below.drew ?_) | (with_reducible refine Below.setCell ?_ ?_ _) | go_size)) hb)
  have B0 : Hid (Blk y1 (w.heap.size) (.int .i64 n) (.int .i64 d)) := Blk.on (W := (w.alloc (Obj.cells #[Value.int .i64 n, Value.int .i64 d] 35))) (by first | exact Blk.new _ _ _ _ | exact (Blk.new _ _ _ _).alloc _ | exact ((Blk.new _ _ _ _).alloc _).alloc _ | (have hn := Blk.new (w) (Value.int .i64 n) (Value.int .i64 d) 35; simpa using hn)) hb
  clear hb
  replace HW := Lib.hid (below_on HW.out hst.out)
  clear hst
  obtain ⟨_, B0p, B0q⟩ := B0.out
  go_wp2_with fail
  (with_reducible refine ((VA _).out).mono ?_)
  rintro e y2 ⟨rfl, hb⟩
  clear B0p B0q
  have hst := Lib.hid hb
  clear hb
  replace B0 := Lib.hid (B0.out.on hst.out)
  replace HW := Lib.hid (below_on HW.out hst.out)
  clear hst
  go_wp2_with fail
  go_ret
  exact ⟨rfl, HW.out⟩

set_option maxRecDepth 100000 in
set_option maxHeartbeats 8000000 in
theorem frac_noB (n d u : Int) (w : World) (n0 : -9223372036854775808 ≤ n) (n1 : n ≤ 9223372036854775807) (d0 : -9223372036854775808 ≤ d) (d1 : d ≤ 9223372036854775807) (u0 : -9223372036854775808 ≤ u) (u1 : u ≤ 9223372036854775807) (hv : vB n d = true) (g1 : decide (u < 1) = true) :
    Calls Try.prog 9 #[.agg #[.int .i64 n, .int .i64 d], .int .i64 u] w fun e w' => e = .returned (.bool true) ∧ Below w.heap.size w w' := by
  have VA := fun w => Lib.hid (refValid_any n d w n0 n1 d0 d1)
  simp only [hv] at VA
  clear hv
  have HW := Lib.hid (Below.refl w.heap.size w)
  have AW := fun w => Lib.hid (sawake_any w)
  go_enter Try.func9, Try.ntmps9
  go_wp2_with fail
  (with_reducible refine ((AW _).out).mono ?_)
  rintro e y1 ⟨rfl, hb⟩
  have hst := Lib.hid (below_on (w := w) (by repeat' (first | (with_reducible exact Below.refl _ _) | (with_reducible assumption) | (with_reducible refine Below.alloc ?_ ?_ _) | (with_reducible refine below_drew ?_ _) | (with_reducible refine Below.drew ?_) | (with_reducible refine Below.setCell ?_ ?_ _) | go_size)) hb)
  have B0 : Hid (Blk y1 (w.heap.size) (.int .i64 n) (.int .i64 d)) := Blk.on (W := (w.alloc (Obj.cells #[Value.int .i64 n, Value.int .i64 d] 35))) (by first | exact Blk.new _ _ _ _ | exact (Blk.new _ _ _ _).alloc _ | exact ((Blk.new _ _ _ _).alloc _).alloc _ | (have hn := Blk.new (w) (Value.int .i64 n) (Value.int .i64 d) 35; simpa using hn)) hb
  clear hb
  replace HW := Lib.hid (below_on HW.out hst.out)
  clear hst
  obtain ⟨_, B0p, B0q⟩ := B0.out
  go_wp2_with fail
  (with_reducible refine ((VA _).out).mono ?_)
  rintro e y2 ⟨rfl, hb⟩
  clear B0p B0q
  have hst := Lib.hid hb
  clear hb
  replace B0 := Lib.hid (B0.out.on hst.out)
  replace HW := Lib.hid (below_on HW.out hst.out)
  clear hst
  go_wp2_with fail
  go_ret
  exact ⟨rfl, HW.out⟩

set_option maxRecDepth 100000 in
set_option maxHeartbeats 8000000 in
theorem frac_noC (n d u : Int) (w : World) (n0 : -9223372036854775808 ≤ n) (n1 : n ≤ 9223372036854775807) (d0 : -9223372036854775808 ≤ d) (d1 : d ≤ 9223372036854775807) (u0 : -9223372036854775808 ≤ u) (u1 : u ≤ 9223372036854775807) (hv : vB n d = true) (g1 : decide (u < 1) = false) (g2 : decide (1099511627776 < u) = true) :
    Calls Try.prog 9 #[.agg #[.int .i64 n, .int .i64 d], .int .i64 u] w fun e w' => e = .returned (.bool true) ∧ Below w.heap.size w w' := by
  have VA := fun w => Lib.hid (refValid_any n d w n0 n1 d0 d1)
  simp only [hv] at VA
  clear hv
  have HW := Lib.hid (Below.refl w.heap.size w)
  have AW := fun w => Lib.hid (sawake_any w)
  go_enter Try.func9, Try.ntmps9
  go_wp2_with fail
  (with_reducible refine ((AW _).out).mono ?_)
  rintro e y1 ⟨rfl, hb⟩
  have hst := Lib.hid (below_on (w := w) (by repeat' (first | (with_reducible exact Below.refl _ _) | (with_reducible assumption) | (with_reducible refine Below.alloc ?_ ?_ _) | (with_reducible refine below_drew ?_ _) | (with_reducible refine Below.drew ?_) | (with_reducible refine Below.setCell ?_ ?_ _) | go_size)) hb)
  have B0 : Hid (Blk y1 (w.heap.size) (.int .i64 n) (.int .i64 d)) := Blk.on (W := (w.alloc (Obj.cells #[Value.int .i64 n, Value.int .i64 d] 35))) (by first | exact Blk.new _ _ _ _ | exact (Blk.new _ _ _ _).alloc _ | exact ((Blk.new _ _ _ _).alloc _).alloc _ | (have hn := Blk.new (w) (Value.int .i64 n) (Value.int .i64 d) 35; simpa using hn)) hb
  clear hb
  replace HW := Lib.hid (below_on HW.out hst.out)
  clear hst
  obtain ⟨_, B0p, B0q⟩ := B0.out
  go_wp2_with fail
  (with_reducible refine ((VA _).out).mono ?_)
  rintro e y2 ⟨rfl, hb⟩
  clear B0p B0q
  have hst := Lib.hid hb
  clear hb
  replace B0 := Lib.hid (B0.out.on hst.out)
  replace HW := Lib.hid (below_on HW.out hst.out)
  clear hst
  go_wp2_with fail
  go_ret
  exact ⟨rfl, HW.out⟩

theorem fractions_walk (n d u : Int) (w : World) (n0 : -9223372036854775808 ≤ n) (n1 : n ≤ 9223372036854775807) (d0 : -9223372036854775808 ≤ d) (d1 : d ≤ 9223372036854775807) (u0 : -9223372036854775808 ≤ u) (u1 : u ≤ 9223372036854775807) :
    Calls Try.prog 9 #[.agg #[.int .i64 n, .int .i64 d], .int .i64 u] w fun e w' => e = .returned (.bool true) ∧ Below w.heap.size w w' := by
  by_cases hv : vB n d = true
  · by_cases g1 : u < 1
    · exact frac_noB n d u w n0 n1 d0 d1 u0 u1 hv (decide_eq_true g1)
    · by_cases g2 : 1099511627776 < u
      · exact frac_noC n d u w n0 n1 d0 d1 u0 u1 hv (decide_eq_false g1) (decide_eq_true g2)
      · have v := vB_vld hv
        obtain ⟨z1, z2, hh, hw⟩ : ∃ a b c, mulS (n / d) (-(-n / d)) u u = (a, b, c) := ⟨_, _, _, rfl⟩
        have he : hh = 0 ∨ hh = 5 := by rw [mulS_eq] at hw; exact mul4_err hw
        rcases mulT_cases n d u 1 with ⟨pn, pd, hm, _, _, vp, hx⟩ | ⟨pf, hm, hpf, _⟩
        · rcases he with rfl | rfl
          · exact frac_FW n d u pn pd z1 z2 w v (by omega) (by omega) hm vp hx hw
          · exact frac_FN n d u pn pd z1 z2 w v (by omega) (by omega) hm vp hx hw
        · by_cases hfit : ((n * u).natAbs : Int) ≤ 1152921504606846976 * d
          · rcases he with rfl | rfl
            · exact frac_EW n d u 0 0 pf z1 z2 w v (by omega) (by omega) hm hpf hfit hw
            · exact frac_EN n d u 0 0 pf z1 z2 w v (by omega) (by omega) hm hpf hfit hw
          · exact frac_B n d u 0 0 pf w v (by omega) (by omega) hm hpf hfit
  · exact frac_noA n d u w n0 n1 d0 d1 u0 u1 (by simpa using hv)

end Go.Proofs.Ytknbhpnhnhfbpaa
