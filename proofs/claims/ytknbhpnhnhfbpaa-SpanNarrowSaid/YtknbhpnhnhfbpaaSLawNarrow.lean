/- The walk of the law SpanNarrow. -/
import Derived.Test.YtknbhpnhnhfbpaaS6
import Derived.Test.YtknbhpnhnhfbpaaS9
import Derived.Test.YtknbhpnhnhfbpaaSMath3
namespace Go.Proofs.Ytknbhpnhnhfbpaa
set_option linter.unusedVariables false
open Go.RowKit Go.Shelf

set_option maxHeartbeats 2000000 in
theorem clo_true (n d e m f g : Int) (w : World) (h : Nar n d e m f g) : Hid (Calls Try.prog 40 #[.agg #[.int .i64 n, .int .i64 d], .int .i64 e, .agg #[.int .i64 m, .int .i64 f], .int .i64 g] w fun r w' => r = .returned (.bool true) ∧ Below w.heap.size w w') := by
  show Calls _ _ _ _ _
  rcases h with h | ⟨rfl, rfl, h1, h2⟩
  · have g1 : (g != 0) = true := by simpa using h
    have g2 : (g == 0) = false := by simpa using h
    go_enter Try.func40, Try.ntmps40
    go_wp2
    go_ret
    exact ⟨rfl, (by repeat' (first | (with_reducible exact Below.refl _ _) | (with_reducible assumption) | (with_reducible refine Below.alloc ?_ ?_ _) | (with_reducible refine below_drew ?_ _) | (with_reducible refine Below.drew ?_) | (with_reducible refine Below.setCell ?_ ?_ _) | go_size))⟩
  · have C := fun w => Lib.hid (inside_yes n d m f w h1 h2)
    clear h1 h2
    go_enter Try.func40, Try.ntmps40
    go_wp2_with fail
    (with_reducible refine ((C _).out).mono ?_)
    rintro r w1 ⟨rfl, hb⟩
    go_wp2_with fail
    go_ret
    exact ⟨rfl, below_on (w := w) (by repeat' (first | (with_reducible exact Below.refl _ _) | (with_reducible assumption) | (with_reducible refine Below.alloc ?_ ?_ _) | (with_reducible refine below_drew ?_ _) | (with_reducible refine Below.drew ?_) | (with_reducible refine Below.setCell ?_ ?_ _) | go_size)) hb⟩

structure Nw5R (w : World) (al ah bl bh i j k l x1 x2 x3 x4 p1 p2 q1 q2 : Int) (Wc : World) (L : Nat → Bool) (v : Nat → Value) (g : Nat → Nat) (W : World) : Prop where
  st : Below Wc.heap.size Wc W
  f0 : Had L 0 (v 30 = .agg #[.int .i64 al, .int .i64 ah])
  f1 : Had L 1 (v 31 = .int .u64 i)
  f2 : Had L 2 (v 32 = .int .i64 x1)
  f3 : Had L 3 (v 33 = .agg #[.int .i64 al, .int .i64 ah])
  f4 : Had L 4 (v 34 = .int .u64 j)
  f5 : Had L 5 (v 35 = .int .i64 x2)
  f6 : Had L 6 (v 36 = .agg #[.int .i64 p1, .int .i64 p2])
  f7 : Had L 7 (v 37 = .agg #[.int .i64 bl, .int .i64 bh])
  f8 : Had L 8 (v 38 = .int .u64 k)
  f9 : Had L 9 (v 39 = .int .i64 x3)
  f10 : Had L 10 (v 40 = .agg #[.int .i64 bl, .int .i64 bh])
  f11 : Had L 11 (v 41 = .int .u64 l)
  f12 : Had L 12 (v 42 = .int .i64 x4)
  f13 : Had L 13 (v 43 = .agg #[.int .i64 q1, .int .i64 q2])
  f14 : Had L 14 (v 13 = .pointer (some ⟨g 14, 0, none⟩))
  f15 : Had L 15 (v 14 = .pointer (some ⟨g 15, 0, none⟩))
  b14 : Had L 14 (Own Wc.heap.size W (g 14))
  b15 : Had L 15 (Own Wc.heap.size W (g 15))
  n14_15 : Had2 L 14 15 (g 14 ≠ g 15)
  c16 : Had L 16 (L 14 = true ∧ Blk W (g 14) (.int .i64 p1) (.int .i64 p2))
  c17 : Had L 17 (L 15 = true ∧ Blk W (g 15) (.int .i64 q1) (.int .i64 q2))

set_option maxRecDepth 100000 in
set_option maxHeartbeats 32000000 in
theorem narrow_yes (al ah bl bh i j k l : Int) (w : World) (va : SVd al ah) (vb : SVd bl bh) (i0 : 0 ≤ i) (i1 : i < 18446744073709551616) (j0 : 0 ≤ j) (j1 : j < 18446744073709551616) (k0 : 0 ≤ k) (k1 : k < 18446744073709551616) (l0 : 0 ≤ l) (l1 : l < 18446744073709551616) :
    Calls Try.prog 7 #[.agg #[.int .i64 al, .int .i64 ah], .agg #[.int .i64 bl, .int .i64 bh], .int .u64 i, .int .u64 j, .int .u64 k, .int .u64 l] w fun e w' => e = .returned (.bool true) ∧ Below w.heap.size w w' := by
  have ha := sV_yes va
  have hb := sV_yes vb
  have VA := fun w => Lib.hid (rsValid_any al ah w)
  have VB := fun w => Lib.hid (rsValid_any bl bh w)
  simp only [ha] at VA
  simp only [hb] at VB
  have A1 := fun w => Lib.hid (at_any al ah i w va i0 i1)
  have A2 := fun w => Lib.hid (at_any al ah j w va j0 j1)
  have A3 := fun w => Lib.hid (at_any bl bh k w vb k0 k1)
  have A4 := fun w => Lib.hid (at_any bl bh l w vb l0 l1)
  obtain ⟨s1, t1⟩ := atV_bd va.m i
  obtain ⟨x1, hx1⟩ : ∃ x, atV al ah i = x := ⟨_, rfl⟩
  rw [hx1] at s1 t1
  simp only [hx1] at A1
  obtain ⟨s2, t2⟩ := atV_bd va.m j
  obtain ⟨x2, hx2⟩ : ∃ x, atV al ah j = x := ⟨_, rfl⟩
  rw [hx2] at s2 t2
  simp only [hx2] at A2
  obtain ⟨s3, t3⟩ := atV_bd vb.m k
  obtain ⟨x3, hx3⟩ : ∃ x, atV bl bh k = x := ⟨_, rfl⟩
  rw [hx3] at s3 t3
  simp only [hx3] at A3
  obtain ⟨s4, t4⟩ := atV_bd vb.m l
  obtain ⟨x4, hx4⟩ : ∃ x, atV bl bh l = x := ⟨_, rfl⟩
  rw [hx4] at s4 t4
  simp only [hx4] at A4
  have O1 := fun w => Lib.hid (of_any x1 x2 w)
  have O2 := fun w => Lib.hid (of_any x3 x4 w)
  have va' := va; have vb' := vb
  obtain ⟨va1, va2, va3⟩ := va'
  obtain ⟨vb1, vb2, vb3⟩ := vb'
  have r1 : al ≤ min x1 x2 := by omega
  have r2 : min x1 x2 ≤ max x1 x2 := by omega
  have r3 : max x1 x2 ≤ ah := by omega
  have r4 : bl ≤ min x3 x4 := by omega
  have r5 : min x3 x4 ≤ max x3 x4 := by omega
  have r6 : max x3 x4 ≤ bh := by omega
  obtain ⟨p1, hp1⟩ : ∃ z, min x1 x2 = z := ⟨_, rfl⟩
  obtain ⟨p2, hp2⟩ : ∃ z, max x1 x2 = z := ⟨_, rfl⟩
  obtain ⟨q1, hq1⟩ : ∃ z, min x3 x4 = z := ⟨_, rfl⟩
  obtain ⟨q2, hq2⟩ : ∃ z, max x3 x4 = z := ⟨_, rfl⟩
  rw [hp1] at r1 r2
  rw [hp2] at r2 r3
  rw [hq1] at r4 r5
  rw [hq2] at r5 r6
  simp only [hp1, hp2] at O1
  simp only [hq1, hq2] at O2
  clear hx1 hx2 hx3 hx4 hp1 hp2 hq1 hq2 s1 s2 s3 s4 t1 t2 t3 t4
  obtain ⟨n1, d1, e1, y1⟩ : ∃ a b c, sAdd p1 p2 q1 q2 = (a, b, c) := ⟨_, _, _, rfl⟩
  obtain ⟨m1, f1, g1, z1⟩ : ∃ a b c, sAdd al ah bl bh = (a, b, c) := ⟨_, _, _, rfl⟩
  have C1 := fun w => Lib.hid (sAdd_any p1 p2 q1 q2 w (by omega) (by omega) (by omega) (by omega) (by omega) (by omega) (by omega) (by omega) n1 d1 e1 y1)
  have D1 := fun w => Lib.hid (sAdd_any al ah bl bh w (by omega) (by omega) (by omega) (by omega) (by omega) (by omega) (by omega) (by omega) m1 f1 g1 z1)
  have I1 : ∀ w, Hid (Calls Try.prog 40 #[.agg #[.int .i64 n1, .int .i64 d1], .int .i64 e1, .agg #[.int .i64 m1, .int .i64 f1], .int .i64 g1] w fun e w' => e = .returned (.bool true) ∧ Below w.heap.size w w') := fun w => clo_true n1 d1 e1 m1 f1 g1 w (add_nar va vb r1 r2 r3 r4 r5 r6 y1 z1)
  clear y1 z1
  obtain ⟨n2, d2, e2, y2⟩ : ∃ a b c, sSub p1 p2 q1 q2 = (a, b, c) := ⟨_, _, _, rfl⟩
  obtain ⟨m2, f2, g2, z2⟩ : ∃ a b c, sSub al ah bl bh = (a, b, c) := ⟨_, _, _, rfl⟩
  have C2 := fun w => Lib.hid (sSub_any p1 p2 q1 q2 w (by omega) (by omega) (by omega) (by omega) (by omega) (by omega) (by omega) (by omega) n2 d2 e2 y2)
  have D2 := fun w => Lib.hid (sSub_any al ah bl bh w (by omega) (by omega) (by omega) (by omega) (by omega) (by omega) (by omega) (by omega) m2 f2 g2 z2)
  have I2 : ∀ w, Hid (Calls Try.prog 40 #[.agg #[.int .i64 n2, .int .i64 d2], .int .i64 e2, .agg #[.int .i64 m2, .int .i64 f2], .int .i64 g2] w fun e w' => e = .returned (.bool true) ∧ Below w.heap.size w w') := fun w => clo_true n2 d2 e2 m2 f2 g2 w (sub_nar va vb r1 r2 r3 r4 r5 r6 y2 z2)
  clear y2 z2
  obtain ⟨n3, d3, e3, y3⟩ : ∃ a b c, sMul p1 p2 q1 q2 = (a, b, c) := ⟨_, _, _, rfl⟩
  obtain ⟨m3, f3, g3, z3⟩ : ∃ a b c, sMul al ah bl bh = (a, b, c) := ⟨_, _, _, rfl⟩
  have C3 := fun w => Lib.hid (sMul_any p1 p2 q1 q2 w (by omega) (by omega) (by omega) (by omega) (by omega) (by omega) (by omega) (by omega) n3 d3 e3 y3)
  have D3 := fun w => Lib.hid (sMul_any al ah bl bh w (by omega) (by omega) (by omega) (by omega) (by omega) (by omega) (by omega) (by omega) m3 f3 g3 z3)
  have I3 : ∀ w, Hid (Calls Try.prog 40 #[.agg #[.int .i64 n3, .int .i64 d3], .int .i64 e3, .agg #[.int .i64 m3, .int .i64 f3], .int .i64 g3] w fun e w' => e = .returned (.bool true) ∧ Below w.heap.size w w') := fun w => clo_true n3 d3 e3 m3 f3 g3 w (mul_nar va vb r1 r2 r3 r4 r5 r6 y3 z3)
  clear y3 z3
  obtain ⟨n4, d4, e4, y4⟩ : ∃ a b c, sDiv p1 p2 q1 q2 = (a, b, c) := ⟨_, _, _, rfl⟩
  obtain ⟨m4, f4, g4, z4⟩ : ∃ a b c, sDiv al ah bl bh = (a, b, c) := ⟨_, _, _, rfl⟩
  have C4 := fun w => Lib.hid (sDiv_any p1 p2 q1 q2 w (by omega) (by omega) (by omega) (by omega) (by omega) (by omega) (by omega) (by omega) n4 d4 e4 y4)
  have D4 := fun w => Lib.hid (sDiv_any al ah bl bh w (by omega) (by omega) (by omega) (by omega) (by omega) (by omega) (by omega) (by omega) m4 f4 g4 z4)
  have I4 : ∀ w, Hid (Calls Try.prog 40 #[.agg #[.int .i64 n4, .int .i64 d4], .int .i64 e4, .agg #[.int .i64 m4, .int .i64 f4], .int .i64 g4] w fun e w' => e = .returned (.bool true) ∧ Below w.heap.size w w') := fun w => clo_true n4 d4 e4 m4 f4 g4 w (div_nar va vb r1 r2 r3 r4 r5 r6 y4 z4)
  clear y4 z4
  obtain ⟨u, v, huv⟩ : ∃ u v, 0 ≤ al → FlR al u ∧ ClR ah v := by
    by_cases c : 0 ≤ al
    · obtain ⟨u, hu⟩ := flR_ex al c (by omega)
      obtain ⟨v, hv⟩ := clR_ex ah (by omega) (by omega)
      exact ⟨u, v, fun _ => ⟨hu, hv⟩⟩
    · exact ⟨0, 0, fun h => absurd h c⟩
  obtain ⟨u', v', huv'⟩ : ∃ u v, 0 ≤ p1 → FlR p1 u ∧ ClR p2 v := by
    by_cases c : 0 ≤ p1
    · obtain ⟨u, hu⟩ := flR_ex p1 c (by omega)
      obtain ⟨v, hv⟩ := clR_ex p2 (by omega) (by omega)
      exact ⟨u, v, fun _ => ⟨hu, hv⟩⟩
    · exact ⟨0, 0, fun h => absurd h c⟩
  obtain ⟨n5, d5, e5, y5⟩ : ∃ a b c, sRoot p1 p2 u' v' = (a, b, c) := ⟨_, _, _, rfl⟩
  obtain ⟨m5, f5, g5, z5⟩ : ∃ a b c, sRoot al ah u v = (a, b, c) := ⟨_, _, _, rfl⟩
  have C5 := fun w => Lib.hid (sRoot_any p1 p2 u' v' w (fun h _ => huv' h) n5 d5 e5 y5)
  have D5 := fun w => Lib.hid (sRoot_any al ah u v w (fun h _ => huv h) m5 f5 g5 z5)
  have I5 : ∀ w, Hid (Calls Try.prog 40 #[.agg #[.int .i64 n5, .int .i64 d5], .int .i64 e5, .agg #[.int .i64 m5, .int .i64 f5], .int .i64 g5] w fun e w' => e = .returned (.bool true) ∧ Below w.heap.size w w') := fun w => clo_true n5 d5 e5 m5 f5 g5 w (root_nar va r1 r2 r3 huv huv' y5 z5)
  clear y5 z5 huv huv' r1 r2 r3 r4 r5 r6 va1 va2 va3 vb1 vb2 vb3 va vb ha hb
  have HW := Lib.hid (Below.refl w.heap.size w)
  have AW := fun w => Lib.hid (sawake_any w)
  go_enter Try.func7, Try.ntmps7
  go_wp2_with fail
  (with_reducible refine ((AW _).out).mono ?_)
  rintro e y1 ⟨rfl, hb⟩
  have hst := Lib.hid (below_on (w := w) (by repeat' (first | (with_reducible exact Below.refl _ _) | (with_reducible assumption) | (with_reducible refine Below.alloc ?_ ?_ _) | (with_reducible refine below_drew ?_ _) | (with_reducible refine Below.drew ?_) | (with_reducible refine Below.setCell ?_ ?_ _) | go_size)) hb)
  have B0 : Hid (Blk y1 (w.heap.size) (.int .i64 al) (.int .i64 ah)) := Blk.on (W := ((w.alloc (Obj.cells #[Value.int .i64 al, Value.int .i64 ah] 23)).alloc (Obj.cells #[Value.int .i64 bl, Value.int .i64 bh] 23))) (by first | exact Blk.new _ _ _ _ | exact (Blk.new _ _ _ _).alloc _ | exact ((Blk.new _ _ _ _).alloc _).alloc _ | (have hn := Blk.new (w) (Value.int .i64 al) (Value.int .i64 ah) 23; simpa using hn)) hb
  have B1 : Hid (Blk y1 (w.heap.size + 1) (.int .i64 bl) (.int .i64 bh)) := Blk.on (W := ((w.alloc (Obj.cells #[Value.int .i64 al, Value.int .i64 ah] 23)).alloc (Obj.cells #[Value.int .i64 bl, Value.int .i64 bh] 23))) (by first | exact Blk.new _ _ _ _ | exact (Blk.new _ _ _ _).alloc _ | exact ((Blk.new _ _ _ _).alloc _).alloc _ | (have hn := Blk.new ((w.alloc (Obj.cells #[Value.int .i64 al, Value.int .i64 ah] 23))) (Value.int .i64 bl) (Value.int .i64 bh) 23; simpa using hn)) hb
  clear hb
  replace HW := Lib.hid (below_on HW.out hst.out)
  clear hst
  obtain ⟨_, B0p, B0q⟩ := B0.out
  go_wp2_with fail
  (with_reducible refine ((VA _).out).mono ?_)
  rintro e y2 ⟨rfl, hb⟩
  clear B0p B0q
  have hst := Lib.hid hb
  clear hb
  replace B0 := Lib.hid (B0.out.on hst.out)
  replace B1 := Lib.hid (B1.out.on hst.out)
  replace HW := Lib.hid (below_on HW.out hst.out)
  clear hst
  obtain ⟨_, B1p, B1q⟩ := B1.out
  go_wp2_with fail
  (with_reducible refine ((VB _).out).mono ?_)
  rintro e y3 ⟨rfl, hb⟩
  clear B1p B1q
  have hst := Lib.hid hb
  clear hb
  replace B0 := Lib.hid (B0.out.on hst.out)
  replace B1 := Lib.hid (B1.out.on hst.out)
  replace HW := Lib.hid (below_on HW.out hst.out)
  clear hst
  go_wp2_with fail
  refine wp_region_each (fun L A W => ∃ (v : Nat → Value) (g : Nat → Nat), A = ⟨#[.agg #[.int .i64 al, .int .i64 ah], .agg #[.int .i64 bl, .int .i64 bh], .int .u64 i, .int .u64 j, .int .u64 k, .int .u64 l, .pointer (some ⟨w.heap.size, 0, none⟩), .pointer (some ⟨w.heap.size + 1, 0, none⟩), undef, undef, undef, undef, .bool false, v 13, v 14, undef, undef, undef, undef, undef, .bool true, .bool false, .agg #[.int .i64 al, .int .i64 ah], .bool true, .bool false, .bool false, .agg #[.int .i64 bl, .int .i64 bh], .bool true, .bool false, .bool false, v 30, v 31, v 32, v 33, v 34, v 35, v 36, v 37, v 38, v 39, v 40, v 41, v 42, v 43, undef, undef, undef, undef, undef, undef, undef, undef, undef, undef, undef, undef, undef, undef, undef, undef, undef, undef, undef, undef, undef, undef, undef, undef, undef, undef, undef, undef, undef, undef, undef, undef, undef, undef, undef, undef, undef, undef, undef, undef, undef, undef, undef, undef, undef, undef, undef, undef, undef, undef, undef, undef, undef, undef, undef, undef, undef, undef, undef, undef, undef, undef, undef, undef, undef, undef, undef, undef, undef, undef, undef, undef, undef, undef, undef, undef, undef, undef, undef, undef, undef, undef, undef, undef, undef, undef, undef, undef, undef, undef, undef, undef], []⟩ ∧ Nw5R w al ah bl bh i j k l x1 x2 x3 x4 p1 p2 q1 q2 y3 L v g W) (by kernel_rfl) (by kernel_rfl) ⟨fun _ => undef, fun _ => 0, rfl, ⟨Below.drew (Below.refl _ _), Had.none, Had.none, Had.none, Had.none, Had.none, Had.none, Had.none, Had.none, Had.none, Had.none, Had.none, Had.none, Had.none, Had.none, Had.none, Had.none, Had.none, Had.none, (fun h => by cases h), Had.none, Had.none⟩⟩ (rs := [0, 1, 2, 3, 4, 5, 6, 7, 8, 9, 10, 11, 12, 13, 14, 15, 16, 17]) (by kernel_rfl) ?_ ?_
  · refine EachOf.cons [] rfl (by kernel_rfl) ?_ ?_
    · rintro L A W ⟨v, g, rfl, hR⟩ hi hw K hK
      obtain ⟨_, q0, q1⟩ := B0.out.on hR.st
      go_simp
      refine hK.out _ _ ?_
      exact ⟨(fun jz => if jz = 30 then .agg #[.int .i64 al, .int .i64 ah] else v jz), g, rfl, ⟨hR.st, (fun _ => rfl), hR.f1.keep rfl, hR.f2.keep rfl, hR.f3.keep rfl, hR.f4.keep rfl, hR.f5.keep rfl, hR.f6.keep rfl, hR.f7.keep rfl, hR.f8.keep rfl, hR.f9.keep rfl, hR.f10.keep rfl, hR.f11.keep rfl, hR.f12.keep rfl, hR.f13.keep rfl, hR.f14.keep rfl, hR.f15.keep rfl, hR.b14.keep rfl, hR.b15.keep rfl, hR.n14_15.keep rfl rfl, hR.c16.keepM rfl (fun h => ⟨upd_on h.1, h.2⟩), hR.c17.keepM rfl (fun h => ⟨upd_on h.1, h.2⟩)⟩⟩
    refine EachOf.cons [] rfl (by kernel_rfl) ?_ ?_
    · rintro L A W ⟨v, g, rfl, hR⟩ hi hw K hK
      go_simp
      refine hK.out _ _ ?_
      exact ⟨(fun jz => if jz = 31 then .int .u64 i else v jz), g, rfl, ⟨hR.st, hR.f0.keep rfl, (fun _ => rfl), hR.f2.keep rfl, hR.f3.keep rfl, hR.f4.keep rfl, hR.f5.keep rfl, hR.f6.keep rfl, hR.f7.keep rfl, hR.f8.keep rfl, hR.f9.keep rfl, hR.f10.keep rfl, hR.f11.keep rfl, hR.f12.keep rfl, hR.f13.keep rfl, hR.f14.keep rfl, hR.f15.keep rfl, hR.b14.keep rfl, hR.b15.keep rfl, hR.n14_15.keep rfl rfl, hR.c16.keepM rfl (fun h => ⟨upd_on h.1, h.2⟩), hR.c17.keepM rfl (fun h => ⟨upd_on h.1, h.2⟩)⟩⟩
    refine EachOf.cons [0, 1] rfl (by kernel_rfl) ?_ ?_
    · rintro L A W ⟨v, g, rfl, hR⟩ hi hw K hK
      have e0 := hR.f0 (hw 0 (by simp))
      have e1 := hR.f1 (hw 1 (by simp))
      simp only [e0, e1]
      clear e0 e1
      go_simp
      go_at_call 34
      (with_reducible refine ((A1 _).out).mono ?_)
      rintro e w2 ⟨rfl, hb⟩
      go_simp
      refine hK.out _ _ ?_
      exact ⟨(fun jz => if jz = 30 then .agg #[.int .i64 al, .int .i64 ah] else if jz = 31 then .int .u64 i else if jz = 32 then .int .i64 x1 else v jz), g, rfl, ⟨below_on hR.st hb, (fun _ => rfl), (fun _ => rfl), (fun _ => rfl), hR.f3.keep rfl, hR.f4.keep rfl, hR.f5.keep rfl, hR.f6.keep rfl, hR.f7.keep rfl, hR.f8.keep rfl, hR.f9.keep rfl, hR.f10.keep rfl, hR.f11.keep rfl, hR.f12.keep rfl, hR.f13.keep rfl, hR.f14.keep rfl, hR.f15.keep rfl, hR.b14.keepM rfl (fun h => h.on hb), hR.b15.keepM rfl (fun h => h.on hb), hR.n14_15.keep rfl rfl, hR.c16.keepM rfl (fun h => ⟨upd_on h.1, h.2.on hb⟩), hR.c17.keepM rfl (fun h => ⟨upd_on h.1, h.2.on hb⟩)⟩⟩
    refine EachOf.cons [] rfl (by kernel_rfl) ?_ ?_
    · rintro L A W ⟨v, g, rfl, hR⟩ hi hw K hK
      obtain ⟨_, q0, q1⟩ := B0.out.on hR.st
      go_simp
      refine hK.out _ _ ?_
      exact ⟨(fun jz => if jz = 33 then .agg #[.int .i64 al, .int .i64 ah] else v jz), g, rfl, ⟨hR.st, hR.f0.keep rfl, hR.f1.keep rfl, hR.f2.keep rfl, (fun _ => rfl), hR.f4.keep rfl, hR.f5.keep rfl, hR.f6.keep rfl, hR.f7.keep rfl, hR.f8.keep rfl, hR.f9.keep rfl, hR.f10.keep rfl, hR.f11.keep rfl, hR.f12.keep rfl, hR.f13.keep rfl, hR.f14.keep rfl, hR.f15.keep rfl, hR.b14.keep rfl, hR.b15.keep rfl, hR.n14_15.keep rfl rfl, hR.c16.keepM rfl (fun h => ⟨upd_on h.1, h.2⟩), hR.c17.keepM rfl (fun h => ⟨upd_on h.1, h.2⟩)⟩⟩
    refine EachOf.cons [] rfl (by kernel_rfl) ?_ ?_
    · rintro L A W ⟨v, g, rfl, hR⟩ hi hw K hK
      go_simp
      refine hK.out _ _ ?_
      exact ⟨(fun jz => if jz = 34 then .int .u64 j else v jz), g, rfl, ⟨hR.st, hR.f0.keep rfl, hR.f1.keep rfl, hR.f2.keep rfl, hR.f3.keep rfl, (fun _ => rfl), hR.f5.keep rfl, hR.f6.keep rfl, hR.f7.keep rfl, hR.f8.keep rfl, hR.f9.keep rfl, hR.f10.keep rfl, hR.f11.keep rfl, hR.f12.keep rfl, hR.f13.keep rfl, hR.f14.keep rfl, hR.f15.keep rfl, hR.b14.keep rfl, hR.b15.keep rfl, hR.n14_15.keep rfl rfl, hR.c16.keepM rfl (fun h => ⟨upd_on h.1, h.2⟩), hR.c17.keepM rfl (fun h => ⟨upd_on h.1, h.2⟩)⟩⟩
    refine EachOf.cons [3, 4] rfl (by kernel_rfl) ?_ ?_
    · rintro L A W ⟨v, g, rfl, hR⟩ hi hw K hK
      have e3 := hR.f3 (hw 3 (by simp))
      have e4 := hR.f4 (hw 4 (by simp))
      simp only [e3, e4]
      clear e3 e4
      go_simp
      go_at_call 34
      (with_reducible refine ((A2 _).out).mono ?_)
      rintro e w2 ⟨rfl, hb⟩
      go_simp
      refine hK.out _ _ ?_
      exact ⟨(fun jz => if jz = 33 then .agg #[.int .i64 al, .int .i64 ah] else if jz = 34 then .int .u64 j else if jz = 35 then .int .i64 x2 else v jz), g, rfl, ⟨below_on hR.st hb, hR.f0.keep rfl, hR.f1.keep rfl, hR.f2.keep rfl, (fun _ => rfl), (fun _ => rfl), (fun _ => rfl), hR.f6.keep rfl, hR.f7.keep rfl, hR.f8.keep rfl, hR.f9.keep rfl, hR.f10.keep rfl, hR.f11.keep rfl, hR.f12.keep rfl, hR.f13.keep rfl, hR.f14.keep rfl, hR.f15.keep rfl, hR.b14.keepM rfl (fun h => h.on hb), hR.b15.keepM rfl (fun h => h.on hb), hR.n14_15.keep rfl rfl, hR.c16.keepM rfl (fun h => ⟨upd_on h.1, h.2.on hb⟩), hR.c17.keepM rfl (fun h => ⟨upd_on h.1, h.2.on hb⟩)⟩⟩
    refine EachOf.cons [2, 5] rfl (by kernel_rfl) ?_ ?_
    · rintro L A W ⟨v, g, rfl, hR⟩ hi hw K hK
      have e2 := hR.f2 (hw 2 (by simp))
      have e5 := hR.f5 (hw 5 (by simp))
      simp only [e2, e5]
      clear e2 e5
      go_simp
      go_at_call 39
      (with_reducible refine ((O1 _).out).mono ?_)
      rintro e w2 ⟨rfl, hb⟩
      go_simp
      refine hK.out _ _ ?_
      exact ⟨(fun jz => if jz = 32 then .int .i64 x1 else if jz = 35 then .int .i64 x2 else if jz = 36 then .agg #[.int .i64 p1, .int .i64 p2] else v jz), g, rfl, ⟨below_on hR.st hb, hR.f0.keep rfl, hR.f1.keep rfl, (fun _ => rfl), hR.f3.keep rfl, hR.f4.keep rfl, (fun _ => rfl), (fun _ => rfl), hR.f7.keep rfl, hR.f8.keep rfl, hR.f9.keep rfl, hR.f10.keep rfl, hR.f11.keep rfl, hR.f12.keep rfl, hR.f13.keep rfl, hR.f14.keep rfl, hR.f15.keep rfl, hR.b14.keepM rfl (fun h => h.on hb), hR.b15.keepM rfl (fun h => h.on hb), hR.n14_15.keep rfl rfl, hR.c16.keepM rfl (fun h => ⟨upd_on h.1, h.2.on hb⟩), hR.c17.keepM rfl (fun h => ⟨upd_on h.1, h.2.on hb⟩)⟩⟩
    refine EachOf.cons [] rfl (by kernel_rfl) ?_ ?_
    · rintro L A W ⟨v, g, rfl, hR⟩ hi hw K hK
      obtain ⟨_, q0, q1⟩ := B1.out.on hR.st
      go_simp
      refine hK.out _ _ ?_
      exact ⟨(fun jz => if jz = 37 then .agg #[.int .i64 bl, .int .i64 bh] else v jz), g, rfl, ⟨hR.st, hR.f0.keep rfl, hR.f1.keep rfl, hR.f2.keep rfl, hR.f3.keep rfl, hR.f4.keep rfl, hR.f5.keep rfl, hR.f6.keep rfl, (fun _ => rfl), hR.f8.keep rfl, hR.f9.keep rfl, hR.f10.keep rfl, hR.f11.keep rfl, hR.f12.keep rfl, hR.f13.keep rfl, hR.f14.keep rfl, hR.f15.keep rfl, hR.b14.keep rfl, hR.b15.keep rfl, hR.n14_15.keep rfl rfl, hR.c16.keepM rfl (fun h => ⟨upd_on h.1, h.2⟩), hR.c17.keepM rfl (fun h => ⟨upd_on h.1, h.2⟩)⟩⟩
    refine EachOf.cons [] rfl (by kernel_rfl) ?_ ?_
    · rintro L A W ⟨v, g, rfl, hR⟩ hi hw K hK
      go_simp
      refine hK.out _ _ ?_
      exact ⟨(fun jz => if jz = 38 then .int .u64 k else v jz), g, rfl, ⟨hR.st, hR.f0.keep rfl, hR.f1.keep rfl, hR.f2.keep rfl, hR.f3.keep rfl, hR.f4.keep rfl, hR.f5.keep rfl, hR.f6.keep rfl, hR.f7.keep rfl, (fun _ => rfl), hR.f9.keep rfl, hR.f10.keep rfl, hR.f11.keep rfl, hR.f12.keep rfl, hR.f13.keep rfl, hR.f14.keep rfl, hR.f15.keep rfl, hR.b14.keep rfl, hR.b15.keep rfl, hR.n14_15.keep rfl rfl, hR.c16.keepM rfl (fun h => ⟨upd_on h.1, h.2⟩), hR.c17.keepM rfl (fun h => ⟨upd_on h.1, h.2⟩)⟩⟩
    refine EachOf.cons [7, 8] rfl (by kernel_rfl) ?_ ?_
    · rintro L A W ⟨v, g, rfl, hR⟩ hi hw K hK
      have e7 := hR.f7 (hw 7 (by simp))
      have e8 := hR.f8 (hw 8 (by simp))
      simp only [e7, e8]
      clear e7 e8
      go_simp
      go_at_call 34
      (with_reducible refine ((A3 _).out).mono ?_)
      rintro e w2 ⟨rfl, hb⟩
      go_simp
      refine hK.out _ _ ?_
      exact ⟨(fun jz => if jz = 37 then .agg #[.int .i64 bl, .int .i64 bh] else if jz = 38 then .int .u64 k else if jz = 39 then .int .i64 x3 else v jz), g, rfl, ⟨below_on hR.st hb, hR.f0.keep rfl, hR.f1.keep rfl, hR.f2.keep rfl, hR.f3.keep rfl, hR.f4.keep rfl, hR.f5.keep rfl, hR.f6.keep rfl, (fun _ => rfl), (fun _ => rfl), (fun _ => rfl), hR.f10.keep rfl, hR.f11.keep rfl, hR.f12.keep rfl, hR.f13.keep rfl, hR.f14.keep rfl, hR.f15.keep rfl, hR.b14.keepM rfl (fun h => h.on hb), hR.b15.keepM rfl (fun h => h.on hb), hR.n14_15.keep rfl rfl, hR.c16.keepM rfl (fun h => ⟨upd_on h.1, h.2.on hb⟩), hR.c17.keepM rfl (fun h => ⟨upd_on h.1, h.2.on hb⟩)⟩⟩
    refine EachOf.cons [] rfl (by kernel_rfl) ?_ ?_
    · rintro L A W ⟨v, g, rfl, hR⟩ hi hw K hK
      obtain ⟨_, q0, q1⟩ := B1.out.on hR.st
      go_simp
      refine hK.out _ _ ?_
      exact ⟨(fun jz => if jz = 40 then .agg #[.int .i64 bl, .int .i64 bh] else v jz), g, rfl, ⟨hR.st, hR.f0.keep rfl, hR.f1.keep rfl, hR.f2.keep rfl, hR.f3.keep rfl, hR.f4.keep rfl, hR.f5.keep rfl, hR.f6.keep rfl, hR.f7.keep rfl, hR.f8.keep rfl, hR.f9.keep rfl, (fun _ => rfl), hR.f11.keep rfl, hR.f12.keep rfl, hR.f13.keep rfl, hR.f14.keep rfl, hR.f15.keep rfl, hR.b14.keep rfl, hR.b15.keep rfl, hR.n14_15.keep rfl rfl, hR.c16.keepM rfl (fun h => ⟨upd_on h.1, h.2⟩), hR.c17.keepM rfl (fun h => ⟨upd_on h.1, h.2⟩)⟩⟩
    refine EachOf.cons [] rfl (by kernel_rfl) ?_ ?_
    · rintro L A W ⟨v, g, rfl, hR⟩ hi hw K hK
      go_simp
      refine hK.out _ _ ?_
      exact ⟨(fun jz => if jz = 41 then .int .u64 l else v jz), g, rfl, ⟨hR.st, hR.f0.keep rfl, hR.f1.keep rfl, hR.f2.keep rfl, hR.f3.keep rfl, hR.f4.keep rfl, hR.f5.keep rfl, hR.f6.keep rfl, hR.f7.keep rfl, hR.f8.keep rfl, hR.f9.keep rfl, hR.f10.keep rfl, (fun _ => rfl), hR.f12.keep rfl, hR.f13.keep rfl, hR.f14.keep rfl, hR.f15.keep rfl, hR.b14.keep rfl, hR.b15.keep rfl, hR.n14_15.keep rfl rfl, hR.c16.keepM rfl (fun h => ⟨upd_on h.1, h.2⟩), hR.c17.keepM rfl (fun h => ⟨upd_on h.1, h.2⟩)⟩⟩
    refine EachOf.cons [10, 11] rfl (by kernel_rfl) ?_ ?_
    · rintro L A W ⟨v, g, rfl, hR⟩ hi hw K hK
      have e10 := hR.f10 (hw 10 (by simp))
      have e11 := hR.f11 (hw 11 (by simp))
      simp only [e10, e11]
      clear e10 e11
      go_simp
      go_at_call 34
      (with_reducible refine ((A4 _).out).mono ?_)
      rintro e w2 ⟨rfl, hb⟩
      go_simp
      refine hK.out _ _ ?_
      exact ⟨(fun jz => if jz = 40 then .agg #[.int .i64 bl, .int .i64 bh] else if jz = 41 then .int .u64 l else if jz = 42 then .int .i64 x4 else v jz), g, rfl, ⟨below_on hR.st hb, hR.f0.keep rfl, hR.f1.keep rfl, hR.f2.keep rfl, hR.f3.keep rfl, hR.f4.keep rfl, hR.f5.keep rfl, hR.f6.keep rfl, hR.f7.keep rfl, hR.f8.keep rfl, hR.f9.keep rfl, (fun _ => rfl), (fun _ => rfl), (fun _ => rfl), hR.f13.keep rfl, hR.f14.keep rfl, hR.f15.keep rfl, hR.b14.keepM rfl (fun h => h.on hb), hR.b15.keepM rfl (fun h => h.on hb), hR.n14_15.keep rfl rfl, hR.c16.keepM rfl (fun h => ⟨upd_on h.1, h.2.on hb⟩), hR.c17.keepM rfl (fun h => ⟨upd_on h.1, h.2.on hb⟩)⟩⟩
    refine EachOf.cons [9, 12] rfl (by kernel_rfl) ?_ ?_
    · rintro L A W ⟨v, g, rfl, hR⟩ hi hw K hK
      have e9 := hR.f9 (hw 9 (by simp))
      have e12 := hR.f12 (hw 12 (by simp))
      simp only [e9, e12]
      clear e9 e12
      go_simp
      go_at_call 39
      (with_reducible refine ((O2 _).out).mono ?_)
      rintro e w2 ⟨rfl, hb⟩
      go_simp
      refine hK.out _ _ ?_
      exact ⟨(fun jz => if jz = 39 then .int .i64 x3 else if jz = 42 then .int .i64 x4 else if jz = 43 then .agg #[.int .i64 q1, .int .i64 q2] else v jz), g, rfl, ⟨below_on hR.st hb, hR.f0.keep rfl, hR.f1.keep rfl, hR.f2.keep rfl, hR.f3.keep rfl, hR.f4.keep rfl, hR.f5.keep rfl, hR.f6.keep rfl, hR.f7.keep rfl, hR.f8.keep rfl, (fun _ => rfl), hR.f10.keep rfl, hR.f11.keep rfl, (fun _ => rfl), (fun _ => rfl), hR.f14.keep rfl, hR.f15.keep rfl, hR.b14.keepM rfl (fun h => h.on hb), hR.b15.keepM rfl (fun h => h.on hb), hR.n14_15.keep rfl rfl, hR.c16.keepM rfl (fun h => ⟨upd_on h.1, h.2.on hb⟩), hR.c17.keepM rfl (fun h => ⟨upd_on h.1, h.2.on hb⟩)⟩⟩
    refine EachOf.cons [] rfl (by kernel_rfl) ?_ ?_
    · rintro L A W ⟨v, g, rfl, hR⟩ hi hw K hK
      have hz := hR.st.size
      go_simp
      refine hK.out _ _ ?_
      have hb : Below W.heap.size W (W.alloc (Obj.cells #[Value.int IntKind.i64 0, Value.int IntKind.i64 0] 23)) := (Below.refl _ _).alloc (Nat.le_refl _) _
      exact ⟨(fun jz => if jz = 13 then .pointer (some ⟨W.heap.size, 0, none⟩) else v jz), (fun jz => if jz = 14 then W.heap.size else g jz), rfl, ⟨below_on hR.st hb, hR.f0.keep rfl, hR.f1.keep rfl, hR.f2.keep rfl, hR.f3.keep rfl, hR.f4.keep rfl, hR.f5.keep rfl, hR.f6.keep rfl, hR.f7.keep rfl, hR.f8.keep rfl, hR.f9.keep rfl, hR.f10.keep rfl, hR.f11.keep rfl, hR.f12.keep rfl, hR.f13.keep rfl, (fun _ => rfl), hR.f15.keep rfl, (fun _ => Own.new _ _ _ _ hz), hR.b15.keepM rfl (fun h => h.on hb), (fun _ h => by have h1 := (hR.b15 (upd_back h rfl)).lt; exact Nat.ne_of_gt h1), (fun h => absurd ((hR.c16 (upd_back h rfl)).1) (by simp [hi])), hR.c17.keepM rfl (fun h => ⟨upd_on h.1, h.2.on hb⟩)⟩⟩
    refine EachOf.cons [] rfl (by kernel_rfl) ?_ ?_
    · rintro L A W ⟨v, g, rfl, hR⟩ hi hw K hK
      have hz := hR.st.size
      go_simp
      refine hK.out _ _ ?_
      have hb : Below W.heap.size W (W.alloc (Obj.cells #[Value.int IntKind.i64 0, Value.int IntKind.i64 0] 23)) := (Below.refl _ _).alloc (Nat.le_refl _) _
      exact ⟨(fun jz => if jz = 14 then .pointer (some ⟨W.heap.size, 0, none⟩) else v jz), (fun jz => if jz = 15 then W.heap.size else g jz), rfl, ⟨below_on hR.st hb, hR.f0.keep rfl, hR.f1.keep rfl, hR.f2.keep rfl, hR.f3.keep rfl, hR.f4.keep rfl, hR.f5.keep rfl, hR.f6.keep rfl, hR.f7.keep rfl, hR.f8.keep rfl, hR.f9.keep rfl, hR.f10.keep rfl, hR.f11.keep rfl, hR.f12.keep rfl, hR.f13.keep rfl, hR.f14.keep rfl, (fun _ => rfl), hR.b14.keepM rfl (fun h => h.on hb), (fun _ => Own.new _ _ _ _ hz), (fun h _ => by have h1 := (hR.b14 (upd_back h rfl)).lt; exact Nat.ne_of_lt h1), hR.c16.keepM rfl (fun h => ⟨upd_on h.1, h.2.on hb⟩), (fun h => absurd ((hR.c17 (upd_back h rfl)).1) (by simp [hi]))⟩⟩
    refine EachOf.cons [14, 6] rfl (by kernel_rfl) ?_ ?_
    · rintro L A W ⟨v, g, rfl, hR⟩ hi hw K hK
      have e14 := hR.f14 (hw 14 (by simp))
      have e6 := hR.f6 (hw 6 (by simp))
      simp only [e14, e6]
      clear e14 e6
      have o2 := hR.b14 (hw 14 (by simp))
      have o1 := o2.1
      have HO := Lib.hid o2
      clear o2
      obtain ⟨_, ⟨u5, v5, l5, p5, q5⟩, r5, s5⟩ := HO.out
      go_simp
      have o2 := HO.out
      refine hK.out _ _ ?_
      exact ⟨(fun jz => if jz = 13 then .pointer (some ⟨g 14, 0, none⟩) else if jz = 36 then .agg #[.int .i64 p1, .int .i64 p2] else v jz), g, rfl, ⟨(hR.st.setCell (by simpa using o1) _).setCell (by simpa using o1) _, hR.f0.keep rfl, hR.f1.keep rfl, hR.f2.keep rfl, hR.f3.keep rfl, hR.f4.keep rfl, hR.f5.keep rfl, (fun _ => rfl), hR.f7.keep rfl, hR.f8.keep rfl, hR.f9.keep rfl, hR.f10.keep rfl, hR.f11.keep rfl, hR.f12.keep rfl, hR.f13.keep rfl, (fun _ => rfl), hR.f15.keep rfl, hR.b14.keepM rfl (fun h => h.set), hR.b15.keepM rfl (fun h => h.set), hR.n14_15.keep rfl rfl, (fun _ => ⟨upd_on (hw 14 (by simp)), o2.setw⟩), hR.c17.keepM rfl (fun h => ⟨upd_on h.1, h.2.far (hR.n14_15 (hw 14 (by simp)) h.1)⟩)⟩⟩
    refine EachOf.cons [15, 13] rfl (by kernel_rfl) ?_ ?_
    · rintro L A W ⟨v, g, rfl, hR⟩ hi hw K hK
      have e15 := hR.f15 (hw 15 (by simp))
      have e13 := hR.f13 (hw 13 (by simp))
      simp only [e15, e13]
      clear e15 e13
      have o2 := hR.b15 (hw 15 (by simp))
      have o1 := o2.1
      have HO := Lib.hid o2
      clear o2
      obtain ⟨_, ⟨u5, v5, l5, p5, q5⟩, r5, s5⟩ := HO.out
      go_simp
      have o2 := HO.out
      refine hK.out _ _ ?_
      exact ⟨(fun jz => if jz = 14 then .pointer (some ⟨g 15, 0, none⟩) else if jz = 43 then .agg #[.int .i64 q1, .int .i64 q2] else v jz), g, rfl, ⟨(hR.st.setCell (by simpa using o1) _).setCell (by simpa using o1) _, hR.f0.keep rfl, hR.f1.keep rfl, hR.f2.keep rfl, hR.f3.keep rfl, hR.f4.keep rfl, hR.f5.keep rfl, hR.f6.keep rfl, hR.f7.keep rfl, hR.f8.keep rfl, hR.f9.keep rfl, hR.f10.keep rfl, hR.f11.keep rfl, hR.f12.keep rfl, (fun _ => rfl), hR.f14.keep rfl, (fun _ => rfl), hR.b14.keepM rfl (fun h => h.set), hR.b15.keepM rfl (fun h => h.set), hR.n14_15.keep rfl rfl, hR.c16.keepM rfl (fun h => ⟨upd_on h.1, h.2.far (fun e => hR.n14_15 h.1 (hw 15 (by simp)) e.symm)⟩), (fun _ => ⟨upd_on (hw 15 (by simp)), o2.setw⟩)⟩⟩
    exact EachOf.nil
  rintro L A W1 ⟨v1, g1, rfl, hR⟩ hL
  have e14 := hR.f14 (hL 14 (by simp))
  have e15 := hR.f15 (hL 15 (by simp))
  have hst := Lib.hid hR.st
  simp only [e14, e15]
  clear e14 e15
  have HC := Lib.hid (hR.c16 (hL 16 (by simp))).2
  have HCF := Lib.hid (hR.b14 (hL 14 (by simp))).2.2
  have HCN := Lib.hid (hR.b14 (hL 14 (by simp))).1
  have HD := Lib.hid (hR.c17 (hL 17 (by simp))).2
  have HDF := Lib.hid (hR.b15 (hL 15 (by simp))).2.2
  have HDN := Lib.hid (hR.b15 (hL 15 (by simp))).1
  clear hR hL
  generalize g1 14 = gc at *
  generalize g1 15 = gd at *
  replace B0 := Lib.hid (B0.out.on hst.out)
  replace B1 := Lib.hid (B1.out.on hst.out)
  replace HW := Lib.hid (below_on HW.out hst.out)
  clear AW VA VB A1 A2 A3 A4 O1 O2
  obtain ⟨_, HCp, HCq⟩ := HC.out
  obtain ⟨_, HDp, HDq⟩ := HD.out
  go_wp2_with fail
  (with_reducible refine ((C1 _).out).mono ?_)
  rintro e y4 ⟨rfl, hb⟩
  clear HCp HCq HDp HDq
  have hst := Lib.hid hb
  clear hb
  replace HCF := Lib.hid (HCF.out.on HC.out.1 hst.out)
  replace HDF := Lib.hid (HDF.out.on HD.out.1 hst.out)
  replace B0 := Lib.hid (B0.out.on hst.out)
  replace B1 := Lib.hid (B1.out.on hst.out)
  replace HC := Lib.hid (HC.out.on hst.out)
  replace HD := Lib.hid (HD.out.on hst.out)
  replace HW := Lib.hid (below_on HW.out hst.out)
  clear hst
  obtain ⟨_, B0p, B0q⟩ := B0.out
  obtain ⟨_, B1p, B1q⟩ := B1.out
  go_wp2_with fail
  (with_reducible refine ((D1 _).out).mono ?_)
  rintro e y5 ⟨rfl, hb⟩
  clear B0p B0q B1p B1q
  have hst := Lib.hid (below_on (w := y4) (by repeat' (first | (with_reducible exact Below.refl _ _) | (with_reducible assumption) | (with_reducible refine Below.alloc ?_ ?_ _) | (with_reducible refine below_drew ?_ _) | (with_reducible refine Below.drew ?_) | (with_reducible refine Below.setCell ?_ ?_ _) | go_size)) hb)
  have B2 : Hid (Blk y5 (y4.heap.size) (.int .i64 n1) (.int .i64 d1)) := Blk.on (W := (y4.alloc (Obj.cells #[Value.int .i64 n1, Value.int .i64 d1] 23))) (by first | exact Blk.new _ _ _ _ | exact (Blk.new _ _ _ _).alloc _ | exact ((Blk.new _ _ _ _).alloc _).alloc _ | (have hn := Blk.new (y4) (Value.int .i64 n1) (Value.int .i64 d1) 23; simpa using hn)) hb
  have B2F : Hid (Frz y5 (y4.heap.size)) := Frz.on (W := (y4.alloc (Obj.cells #[Value.int .i64 n1, Value.int .i64 d1] 23))) (by first | exact Frz.new _ _ _ _ | exact (Frz.new _ _ _ _).alloc (by simp) _) (by first | (simp; done) | (simp; omega)) hb
  have B2N : Hid (w.heap.size ≤ y4.heap.size) := by have h := HW.out.size; show _ ≤ _; omega
  have LB0_B2 : Hid (w.heap.size < y4.heap.size) := B0.out.1
  have LB1_B2 : Hid (w.heap.size + 1 < y4.heap.size) := B1.out.1
  have LHC_B2 : Hid (gc < y4.heap.size) := HC.out.1
  have LHD_B2 : Hid (gd < y4.heap.size) := HD.out.1
  clear hb
  replace HCF := Lib.hid (HCF.out.on HC.out.1 hst.out)
  replace HDF := Lib.hid (HDF.out.on HD.out.1 hst.out)
  replace B0 := Lib.hid (B0.out.on hst.out)
  replace B1 := Lib.hid (B1.out.on hst.out)
  replace HC := Lib.hid (HC.out.on hst.out)
  replace HD := Lib.hid (HD.out.on hst.out)
  replace HW := Lib.hid (below_on HW.out hst.out)
  clear hst
  obtain ⟨_, B2p, B2q⟩ := B2.out
  go_wp2_with fail
  (with_reducible refine ((I1 _).out).mono ?_)
  rintro e y6 ⟨rfl, hb⟩
  clear B2p B2q
  have hst := Lib.hid (below_on (w := y5) (by repeat' (first | (with_reducible exact Below.refl _ _) | (with_reducible assumption) | (with_reducible refine Below.alloc ?_ ?_ _) | (with_reducible refine below_drew ?_ _) | (with_reducible refine Below.drew ?_) | (with_reducible refine Below.setCell ?_ ?_ _) | go_size)) hb)
  have B3 : Hid (Blk y6 (y5.heap.size) (.int .i64 m1) (.int .i64 f1)) := Blk.on (W := (y5.alloc (Obj.cells #[Value.int .i64 m1, Value.int .i64 f1] 23))) (by first | exact Blk.new _ _ _ _ | exact (Blk.new _ _ _ _).alloc _ | exact ((Blk.new _ _ _ _).alloc _).alloc _ | (have hn := Blk.new (y5) (Value.int .i64 m1) (Value.int .i64 f1) 23; simpa using hn)) hb
  have B3F : Hid (Frz y6 (y5.heap.size)) := Frz.on (W := (y5.alloc (Obj.cells #[Value.int .i64 m1, Value.int .i64 f1] 23))) (by first | exact Frz.new _ _ _ _ | exact (Frz.new _ _ _ _).alloc (by simp) _) (by first | (simp; done) | (simp; omega)) hb
  have B3N : Hid (w.heap.size ≤ y5.heap.size) := by have h := HW.out.size; show _ ≤ _; omega
  have LB0_B3 : Hid (w.heap.size < y5.heap.size) := B0.out.1
  have LB1_B3 : Hid (w.heap.size + 1 < y5.heap.size) := B1.out.1
  have LHC_B3 : Hid (gc < y5.heap.size) := HC.out.1
  have LHD_B3 : Hid (gd < y5.heap.size) := HD.out.1
  have LB2_B3 : Hid (y4.heap.size < y5.heap.size) := B2.out.1
  clear hb
  replace HCF := Lib.hid (HCF.out.on HC.out.1 hst.out)
  replace HDF := Lib.hid (HDF.out.on HD.out.1 hst.out)
  replace B2F := Lib.hid (B2F.out.on B2.out.1 hst.out)
  replace B0 := Lib.hid (B0.out.on hst.out)
  replace B1 := Lib.hid (B1.out.on hst.out)
  replace HC := Lib.hid (HC.out.on hst.out)
  replace HD := Lib.hid (HD.out.on hst.out)
  replace B2 := Lib.hid (B2.out.on hst.out)
  replace HW := Lib.hid (below_on HW.out hst.out)
  clear hst
  clear C1 D1 I1
  obtain ⟨_, HCp, HCq⟩ := HC.out
  obtain ⟨_, HDp, HDq⟩ := HD.out
  go_wp2_with fail
  (with_reducible refine ((C2 _).out).mono ?_)
  rintro e y7 ⟨rfl, hb⟩
  clear HCp HCq HDp HDq
  have hst := Lib.hid hb
  clear hb
  replace HCF := Lib.hid (HCF.out.on HC.out.1 hst.out)
  replace HDF := Lib.hid (HDF.out.on HD.out.1 hst.out)
  replace B2F := Lib.hid (B2F.out.on B2.out.1 hst.out)
  replace B3F := Lib.hid (B3F.out.on B3.out.1 hst.out)
  replace B0 := Lib.hid (B0.out.on hst.out)
  replace B1 := Lib.hid (B1.out.on hst.out)
  replace HC := Lib.hid (HC.out.on hst.out)
  replace HD := Lib.hid (HD.out.on hst.out)
  replace B2 := Lib.hid (B2.out.on hst.out)
  replace B3 := Lib.hid (B3.out.on hst.out)
  replace HW := Lib.hid (below_on HW.out hst.out)
  clear hst
  obtain ⟨B2r, B2s⟩ := B2F.out
  obtain ⟨B2m, B2p, B2q⟩ := B2.out
  go_upto_region 12 with fail
  clear B2r B2s B2m B2p B2q
  obtain ⟨y8, hy⟩ : ∃ W, W = (y7.setCell ⟨y4.heap.size, 0, none⟩ (.int .i64 n2)).setCell ⟨y4.heap.size, 1, none⟩ (.int .i64 d2) := ⟨_, rfl⟩
  rw [← hy]
  have KB0 : Hid (Blk y8 (w.heap.size) (.int .i64 al) (.int .i64 ah)) := by rw [hy]; exact Blk.far B0.out (Nat.ne_of_gt LB0_B2.out)
  have KB1 : Hid (Blk y8 (w.heap.size + 1) (.int .i64 bl) (.int .i64 bh)) := by rw [hy]; exact Blk.far B1.out (Nat.ne_of_gt LB1_B2.out)
  have KHC : Hid (Blk y8 (gc) (.int .i64 p1) (.int .i64 p2)) := by rw [hy]; exact Blk.far HC.out (Nat.ne_of_gt LHC_B2.out)
  have KHCF : Hid (Frz y8 (gc)) := by rw [hy]; exact Frz.set HCF.out
  have KHD : Hid (Blk y8 (gd) (.int .i64 q1) (.int .i64 q2)) := by rw [hy]; exact Blk.far HD.out (Nat.ne_of_gt LHD_B2.out)
  have KHDF : Hid (Frz y8 (gd)) := by rw [hy]; exact Frz.set HDF.out
  have KB2 : Hid (Blk y8 (y4.heap.size) (.int .i64 n2) (.int .i64 d2)) := by rw [hy]; exact Blk.set B2.out
  have KB2F : Hid (Frz y8 (y4.heap.size)) := by rw [hy]; exact Frz.set B2F.out
  have KB3 : Hid (Blk y8 (y5.heap.size) (.int .i64 m1) (.int .i64 f1)) := by rw [hy]; exact Blk.far B3.out (Nat.ne_of_lt LB2_B3.out)
  have KB3F : Hid (Frz y8 (y5.heap.size)) := by rw [hy]; exact Frz.set B3F.out
  have KW : Hid (Below w.heap.size w y8) := by rw [hy]; exact (HW.out.setCell (by simpa using B2N.out) _).setCell (by simpa using B2N.out) _
  clear hy B0 B1 HC HD B2 B3 HCF HDF B2F B3F HW
  have B0 := KB0
  clear KB0
  have B1 := KB1
  clear KB1
  have HC := KHC
  clear KHC
  have HD := KHD
  clear KHD
  have B2 := KB2
  clear KB2
  have B3 := KB3
  clear KB3
  have HCF := KHCF
  clear KHCF
  have HDF := KHDF
  clear KHDF
  have B2F := KB2F
  clear KB2F
  have B3F := KB3F
  clear KB3F
  have HW := KW
  clear KW
  obtain ⟨_, B0p, B0q⟩ := B0.out
  obtain ⟨_, B1p, B1q⟩ := B1.out
  go_wp2_with fail
  (with_reducible refine ((D2 _).out).mono ?_)
  rintro e y9 ⟨rfl, hb⟩
  clear B0p B0q B1p B1q
  have hst := Lib.hid hb
  clear hb
  replace HCF := Lib.hid (HCF.out.on HC.out.1 hst.out)
  replace HDF := Lib.hid (HDF.out.on HD.out.1 hst.out)
  replace B2F := Lib.hid (B2F.out.on B2.out.1 hst.out)
  replace B3F := Lib.hid (B3F.out.on B3.out.1 hst.out)
  replace B0 := Lib.hid (B0.out.on hst.out)
  replace B1 := Lib.hid (B1.out.on hst.out)
  replace HC := Lib.hid (HC.out.on hst.out)
  replace HD := Lib.hid (HD.out.on hst.out)
  replace B2 := Lib.hid (B2.out.on hst.out)
  replace B3 := Lib.hid (B3.out.on hst.out)
  replace HW := Lib.hid (below_on HW.out hst.out)
  clear hst
  obtain ⟨B3r, B3s⟩ := B3F.out
  obtain ⟨B3m, B3p, B3q⟩ := B3.out
  go_upto_region 13 with fail
  clear B3r B3s B3m B3p B3q
  obtain ⟨y10, hy⟩ : ∃ W, W = (y9.setCell ⟨y5.heap.size, 0, none⟩ (.int .i64 m2)).setCell ⟨y5.heap.size, 1, none⟩ (.int .i64 f2) := ⟨_, rfl⟩
  rw [← hy]
  have KB0 : Hid (Blk y10 (w.heap.size) (.int .i64 al) (.int .i64 ah)) := by rw [hy]; exact Blk.far B0.out (Nat.ne_of_gt LB0_B3.out)
  have KB1 : Hid (Blk y10 (w.heap.size + 1) (.int .i64 bl) (.int .i64 bh)) := by rw [hy]; exact Blk.far B1.out (Nat.ne_of_gt LB1_B3.out)
  have KHC : Hid (Blk y10 (gc) (.int .i64 p1) (.int .i64 p2)) := by rw [hy]; exact Blk.far HC.out (Nat.ne_of_gt LHC_B3.out)
  have KHCF : Hid (Frz y10 (gc)) := by rw [hy]; exact Frz.set HCF.out
  have KHD : Hid (Blk y10 (gd) (.int .i64 q1) (.int .i64 q2)) := by rw [hy]; exact Blk.far HD.out (Nat.ne_of_gt LHD_B3.out)
  have KHDF : Hid (Frz y10 (gd)) := by rw [hy]; exact Frz.set HDF.out
  have KB2 : Hid (Blk y10 (y4.heap.size) (.int .i64 n2) (.int .i64 d2)) := by rw [hy]; exact Blk.far B2.out (Nat.ne_of_gt LB2_B3.out)
  have KB2F : Hid (Frz y10 (y4.heap.size)) := by rw [hy]; exact Frz.set B2F.out
  have KB3 : Hid (Blk y10 (y5.heap.size) (.int .i64 m2) (.int .i64 f2)) := by rw [hy]; exact Blk.set B3.out
  have KB3F : Hid (Frz y10 (y5.heap.size)) := by rw [hy]; exact Frz.set B3F.out
  have KW : Hid (Below w.heap.size w y10) := by rw [hy]; exact (HW.out.setCell (by simpa using B3N.out) _).setCell (by simpa using B3N.out) _
  clear hy B0 B1 HC HD B2 B3 HCF HDF B2F B3F HW
  have B0 := KB0
  clear KB0
  have B1 := KB1
  clear KB1
  have HC := KHC
  clear KHC
  have HD := KHD
  clear KHD
  have B2 := KB2
  clear KB2
  have B3 := KB3
  clear KB3
  have HCF := KHCF
  clear KHCF
  have HDF := KHDF
  clear KHDF
  have B2F := KB2F
  clear KB2F
  have B3F := KB3F
  clear KB3F
  have HW := KW
  clear KW
  obtain ⟨_, B2p, B2q⟩ := B2.out
  obtain ⟨_, B3p, B3q⟩ := B3.out
  go_wp2_with fail
  (with_reducible refine ((I2 _).out).mono ?_)
  rintro e y11 ⟨rfl, hb⟩
  clear B2p B2q B3p B3q
  have hst := Lib.hid hb
  clear hb
  replace HCF := Lib.hid (HCF.out.on HC.out.1 hst.out)
  replace HDF := Lib.hid (HDF.out.on HD.out.1 hst.out)
  replace B2F := Lib.hid (B2F.out.on B2.out.1 hst.out)
  replace B3F := Lib.hid (B3F.out.on B3.out.1 hst.out)
  replace B0 := Lib.hid (B0.out.on hst.out)
  replace B1 := Lib.hid (B1.out.on hst.out)
  replace HC := Lib.hid (HC.out.on hst.out)
  replace HD := Lib.hid (HD.out.on hst.out)
  replace B2 := Lib.hid (B2.out.on hst.out)
  replace B3 := Lib.hid (B3.out.on hst.out)
  replace HW := Lib.hid (below_on HW.out hst.out)
  clear hst
  clear C2 D2 I2
  obtain ⟨_, HCp, HCq⟩ := HC.out
  obtain ⟨_, HDp, HDq⟩ := HD.out
  go_wp2_with fail
  (with_reducible refine ((C3 _).out).mono ?_)
  rintro e y12 ⟨rfl, hb⟩
  clear HCp HCq HDp HDq
  have hst := Lib.hid hb
  clear hb
  replace HCF := Lib.hid (HCF.out.on HC.out.1 hst.out)
  replace HDF := Lib.hid (HDF.out.on HD.out.1 hst.out)
  replace B2F := Lib.hid (B2F.out.on B2.out.1 hst.out)
  replace B3F := Lib.hid (B3F.out.on B3.out.1 hst.out)
  replace B0 := Lib.hid (B0.out.on hst.out)
  replace B1 := Lib.hid (B1.out.on hst.out)
  replace HC := Lib.hid (HC.out.on hst.out)
  replace HD := Lib.hid (HD.out.on hst.out)
  replace B2 := Lib.hid (B2.out.on hst.out)
  replace B3 := Lib.hid (B3.out.on hst.out)
  replace HW := Lib.hid (below_on HW.out hst.out)
  clear hst
  obtain ⟨B2r, B2s⟩ := B2F.out
  obtain ⟨B2m, B2p, B2q⟩ := B2.out
  go_upto_region 16 with fail
  clear B2r B2s B2m B2p B2q
  obtain ⟨y13, hy⟩ : ∃ W, W = (y12.setCell ⟨y4.heap.size, 0, none⟩ (.int .i64 n3)).setCell ⟨y4.heap.size, 1, none⟩ (.int .i64 d3) := ⟨_, rfl⟩
  rw [← hy]
  have KB0 : Hid (Blk y13 (w.heap.size) (.int .i64 al) (.int .i64 ah)) := by rw [hy]; exact Blk.far B0.out (Nat.ne_of_gt LB0_B2.out)
  have KB1 : Hid (Blk y13 (w.heap.size + 1) (.int .i64 bl) (.int .i64 bh)) := by rw [hy]; exact Blk.far B1.out (Nat.ne_of_gt LB1_B2.out)
  have KHC : Hid (Blk y13 (gc) (.int .i64 p1) (.int .i64 p2)) := by rw [hy]; exact Blk.far HC.out (Nat.ne_of_gt LHC_B2.out)
  have KHCF : Hid (Frz y13 (gc)) := by rw [hy]; exact Frz.set HCF.out
  have KHD : Hid (Blk y13 (gd) (.int .i64 q1) (.int .i64 q2)) := by rw [hy]; exact Blk.far HD.out (Nat.ne_of_gt LHD_B2.out)
  have KHDF : Hid (Frz y13 (gd)) := by rw [hy]; exact Frz.set HDF.out
  have KB2 : Hid (Blk y13 (y4.heap.size) (.int .i64 n3) (.int .i64 d3)) := by rw [hy]; exact Blk.set B2.out
  have KB2F : Hid (Frz y13 (y4.heap.size)) := by rw [hy]; exact Frz.set B2F.out
  have KB3 : Hid (Blk y13 (y5.heap.size) (.int .i64 m2) (.int .i64 f2)) := by rw [hy]; exact Blk.far B3.out (Nat.ne_of_lt LB2_B3.out)
  have KB3F : Hid (Frz y13 (y5.heap.size)) := by rw [hy]; exact Frz.set B3F.out
  have KW : Hid (Below w.heap.size w y13) := by rw [hy]; exact (HW.out.setCell (by simpa using B2N.out) _).setCell (by simpa using B2N.out) _
  clear hy B0 B1 HC HD B2 B3 HCF HDF B2F B3F HW
  have B0 := KB0
  clear KB0
  have B1 := KB1
  clear KB1
  have HC := KHC
  clear KHC
  have HD := KHD
  clear KHD
  have B2 := KB2
  clear KB2
  have B3 := KB3
  clear KB3
  have HCF := KHCF
  clear KHCF
  have HDF := KHDF
  clear KHDF
  have B2F := KB2F
  clear KB2F
  have B3F := KB3F
  clear KB3F
  have HW := KW
  clear KW
  obtain ⟨_, B0p, B0q⟩ := B0.out
  obtain ⟨_, B1p, B1q⟩ := B1.out
  go_wp2_with fail
  (with_reducible refine ((D3 _).out).mono ?_)
  rintro e y14 ⟨rfl, hb⟩
  clear B0p B0q B1p B1q
  have hst := Lib.hid hb
  clear hb
  replace HCF := Lib.hid (HCF.out.on HC.out.1 hst.out)
  replace HDF := Lib.hid (HDF.out.on HD.out.1 hst.out)
  replace B2F := Lib.hid (B2F.out.on B2.out.1 hst.out)
  replace B3F := Lib.hid (B3F.out.on B3.out.1 hst.out)
  replace B0 := Lib.hid (B0.out.on hst.out)
  replace B1 := Lib.hid (B1.out.on hst.out)
  replace HC := Lib.hid (HC.out.on hst.out)
  replace HD := Lib.hid (HD.out.on hst.out)
  replace B2 := Lib.hid (B2.out.on hst.out)
  replace B3 := Lib.hid (B3.out.on hst.out)
  replace HW := Lib.hid (below_on HW.out hst.out)
  clear hst
  obtain ⟨B3r, B3s⟩ := B3F.out
  obtain ⟨B3m, B3p, B3q⟩ := B3.out
  go_upto_region 17 with fail
  clear B3r B3s B3m B3p B3q
  obtain ⟨y15, hy⟩ : ∃ W, W = (y14.setCell ⟨y5.heap.size, 0, none⟩ (.int .i64 m3)).setCell ⟨y5.heap.size, 1, none⟩ (.int .i64 f3) := ⟨_, rfl⟩
  rw [← hy]
  have KB0 : Hid (Blk y15 (w.heap.size) (.int .i64 al) (.int .i64 ah)) := by rw [hy]; exact Blk.far B0.out (Nat.ne_of_gt LB0_B3.out)
  have KB1 : Hid (Blk y15 (w.heap.size + 1) (.int .i64 bl) (.int .i64 bh)) := by rw [hy]; exact Blk.far B1.out (Nat.ne_of_gt LB1_B3.out)
  have KHC : Hid (Blk y15 (gc) (.int .i64 p1) (.int .i64 p2)) := by rw [hy]; exact Blk.far HC.out (Nat.ne_of_gt LHC_B3.out)
  have KHCF : Hid (Frz y15 (gc)) := by rw [hy]; exact Frz.set HCF.out
  have KHD : Hid (Blk y15 (gd) (.int .i64 q1) (.int .i64 q2)) := by rw [hy]; exact Blk.far HD.out (Nat.ne_of_gt LHD_B3.out)
  have KHDF : Hid (Frz y15 (gd)) := by rw [hy]; exact Frz.set HDF.out
  have KB2 : Hid (Blk y15 (y4.heap.size) (.int .i64 n3) (.int .i64 d3)) := by rw [hy]; exact Blk.far B2.out (Nat.ne_of_gt LB2_B3.out)
  have KB2F : Hid (Frz y15 (y4.heap.size)) := by rw [hy]; exact Frz.set B2F.out
  have KB3 : Hid (Blk y15 (y5.heap.size) (.int .i64 m3) (.int .i64 f3)) := by rw [hy]; exact Blk.set B3.out
  have KB3F : Hid (Frz y15 (y5.heap.size)) := by rw [hy]; exact Frz.set B3F.out
  have KW : Hid (Below w.heap.size w y15) := by rw [hy]; exact (HW.out.setCell (by simpa using B3N.out) _).setCell (by simpa using B3N.out) _
  clear hy B0 B1 HC HD B2 B3 HCF HDF B2F B3F HW
  have B0 := KB0
  clear KB0
  have B1 := KB1
  clear KB1
  have HC := KHC
  clear KHC
  have HD := KHD
  clear KHD
  have B2 := KB2
  clear KB2
  have B3 := KB3
  clear KB3
  have HCF := KHCF
  clear KHCF
  have HDF := KHDF
  clear KHDF
  have B2F := KB2F
  clear KB2F
  have B3F := KB3F
  clear KB3F
  have HW := KW
  clear KW
  obtain ⟨_, B2p, B2q⟩ := B2.out
  obtain ⟨_, B3p, B3q⟩ := B3.out
  go_wp2_with fail
  (with_reducible refine ((I3 _).out).mono ?_)
  rintro e y16 ⟨rfl, hb⟩
  clear B2p B2q B3p B3q
  have hst := Lib.hid hb
  clear hb
  replace HCF := Lib.hid (HCF.out.on HC.out.1 hst.out)
  replace HDF := Lib.hid (HDF.out.on HD.out.1 hst.out)
  replace B2F := Lib.hid (B2F.out.on B2.out.1 hst.out)
  replace B3F := Lib.hid (B3F.out.on B3.out.1 hst.out)
  replace B0 := Lib.hid (B0.out.on hst.out)
  replace B1 := Lib.hid (B1.out.on hst.out)
  replace HC := Lib.hid (HC.out.on hst.out)
  replace HD := Lib.hid (HD.out.on hst.out)
  replace B2 := Lib.hid (B2.out.on hst.out)
  replace B3 := Lib.hid (B3.out.on hst.out)
  replace HW := Lib.hid (below_on HW.out hst.out)
  clear hst
  clear C3 D3 I3
  obtain ⟨_, HCp, HCq⟩ := HC.out
  obtain ⟨_, HDp, HDq⟩ := HD.out
  go_wp2_with fail
  (with_reducible refine ((C4 _).out).mono ?_)
  rintro e y17 ⟨rfl, hb⟩
  clear HCp HCq HDp HDq
  have hst := Lib.hid hb
  clear hb
  replace HCF := Lib.hid (HCF.out.on HC.out.1 hst.out)
  replace HDF := Lib.hid (HDF.out.on HD.out.1 hst.out)
  replace B2F := Lib.hid (B2F.out.on B2.out.1 hst.out)
  replace B3F := Lib.hid (B3F.out.on B3.out.1 hst.out)
  replace B0 := Lib.hid (B0.out.on hst.out)
  replace B1 := Lib.hid (B1.out.on hst.out)
  replace HC := Lib.hid (HC.out.on hst.out)
  replace HD := Lib.hid (HD.out.on hst.out)
  replace B2 := Lib.hid (B2.out.on hst.out)
  replace B3 := Lib.hid (B3.out.on hst.out)
  replace HW := Lib.hid (below_on HW.out hst.out)
  clear hst
  obtain ⟨B2r, B2s⟩ := B2F.out
  obtain ⟨B2m, B2p, B2q⟩ := B2.out
  go_upto_region 20 with fail
  clear B2r B2s B2m B2p B2q
  obtain ⟨y18, hy⟩ : ∃ W, W = (y17.setCell ⟨y4.heap.size, 0, none⟩ (.int .i64 n4)).setCell ⟨y4.heap.size, 1, none⟩ (.int .i64 d4) := ⟨_, rfl⟩
  rw [← hy]
  have KB0 : Hid (Blk y18 (w.heap.size) (.int .i64 al) (.int .i64 ah)) := by rw [hy]; exact Blk.far B0.out (Nat.ne_of_gt LB0_B2.out)
  have KB1 : Hid (Blk y18 (w.heap.size + 1) (.int .i64 bl) (.int .i64 bh)) := by rw [hy]; exact Blk.far B1.out (Nat.ne_of_gt LB1_B2.out)
  have KHC : Hid (Blk y18 (gc) (.int .i64 p1) (.int .i64 p2)) := by rw [hy]; exact Blk.far HC.out (Nat.ne_of_gt LHC_B2.out)
  have KHCF : Hid (Frz y18 (gc)) := by rw [hy]; exact Frz.set HCF.out
  have KHD : Hid (Blk y18 (gd) (.int .i64 q1) (.int .i64 q2)) := by rw [hy]; exact Blk.far HD.out (Nat.ne_of_gt LHD_B2.out)
  have KHDF : Hid (Frz y18 (gd)) := by rw [hy]; exact Frz.set HDF.out
  have KB2 : Hid (Blk y18 (y4.heap.size) (.int .i64 n4) (.int .i64 d4)) := by rw [hy]; exact Blk.set B2.out
  have KB2F : Hid (Frz y18 (y4.heap.size)) := by rw [hy]; exact Frz.set B2F.out
  have KB3 : Hid (Blk y18 (y5.heap.size) (.int .i64 m3) (.int .i64 f3)) := by rw [hy]; exact Blk.far B3.out (Nat.ne_of_lt LB2_B3.out)
  have KB3F : Hid (Frz y18 (y5.heap.size)) := by rw [hy]; exact Frz.set B3F.out
  have KW : Hid (Below w.heap.size w y18) := by rw [hy]; exact (HW.out.setCell (by simpa using B2N.out) _).setCell (by simpa using B2N.out) _
  clear hy B0 B1 HC HD B2 B3 HCF HDF B2F B3F HW
  have B0 := KB0
  clear KB0
  have B1 := KB1
  clear KB1
  have HC := KHC
  clear KHC
  have HD := KHD
  clear KHD
  have B2 := KB2
  clear KB2
  have B3 := KB3
  clear KB3
  have HCF := KHCF
  clear KHCF
  have HDF := KHDF
  clear KHDF
  have B2F := KB2F
  clear KB2F
  have B3F := KB3F
  clear KB3F
  have HW := KW
  clear KW
  obtain ⟨_, B0p, B0q⟩ := B0.out
  obtain ⟨_, B1p, B1q⟩ := B1.out
  go_wp2_with fail
  (with_reducible refine ((D4 _).out).mono ?_)
  rintro e y19 ⟨rfl, hb⟩
  clear B0p B0q B1p B1q
  have hst := Lib.hid hb
  clear hb
  replace HCF := Lib.hid (HCF.out.on HC.out.1 hst.out)
  replace HDF := Lib.hid (HDF.out.on HD.out.1 hst.out)
  replace B2F := Lib.hid (B2F.out.on B2.out.1 hst.out)
  replace B3F := Lib.hid (B3F.out.on B3.out.1 hst.out)
  replace B0 := Lib.hid (B0.out.on hst.out)
  replace B1 := Lib.hid (B1.out.on hst.out)
  replace HC := Lib.hid (HC.out.on hst.out)
  replace HD := Lib.hid (HD.out.on hst.out)
  replace B2 := Lib.hid (B2.out.on hst.out)
  replace B3 := Lib.hid (B3.out.on hst.out)
  replace HW := Lib.hid (below_on HW.out hst.out)
  clear hst
  obtain ⟨B3r, B3s⟩ := B3F.out
  obtain ⟨B3m, B3p, B3q⟩ := B3.out
  go_upto_region 21 with fail
  clear B3r B3s B3m B3p B3q
  obtain ⟨y20, hy⟩ : ∃ W, W = (y19.setCell ⟨y5.heap.size, 0, none⟩ (.int .i64 m4)).setCell ⟨y5.heap.size, 1, none⟩ (.int .i64 f4) := ⟨_, rfl⟩
  rw [← hy]
  have KB0 : Hid (Blk y20 (w.heap.size) (.int .i64 al) (.int .i64 ah)) := by rw [hy]; exact Blk.far B0.out (Nat.ne_of_gt LB0_B3.out)
  have KB1 : Hid (Blk y20 (w.heap.size + 1) (.int .i64 bl) (.int .i64 bh)) := by rw [hy]; exact Blk.far B1.out (Nat.ne_of_gt LB1_B3.out)
  have KHC : Hid (Blk y20 (gc) (.int .i64 p1) (.int .i64 p2)) := by rw [hy]; exact Blk.far HC.out (Nat.ne_of_gt LHC_B3.out)
  have KHCF : Hid (Frz y20 (gc)) := by rw [hy]; exact Frz.set HCF.out
  have KHD : Hid (Blk y20 (gd) (.int .i64 q1) (.int .i64 q2)) := by rw [hy]; exact Blk.far HD.out (Nat.ne_of_gt LHD_B3.out)
  have KHDF : Hid (Frz y20 (gd)) := by rw [hy]; exact Frz.set HDF.out
  have KB2 : Hid (Blk y20 (y4.heap.size) (.int .i64 n4) (.int .i64 d4)) := by rw [hy]; exact Blk.far B2.out (Nat.ne_of_gt LB2_B3.out)
  have KB2F : Hid (Frz y20 (y4.heap.size)) := by rw [hy]; exact Frz.set B2F.out
  have KB3 : Hid (Blk y20 (y5.heap.size) (.int .i64 m4) (.int .i64 f4)) := by rw [hy]; exact Blk.set B3.out
  have KB3F : Hid (Frz y20 (y5.heap.size)) := by rw [hy]; exact Frz.set B3F.out
  have KW : Hid (Below w.heap.size w y20) := by rw [hy]; exact (HW.out.setCell (by simpa using B3N.out) _).setCell (by simpa using B3N.out) _
  clear hy B0 B1 HC HD B2 B3 HCF HDF B2F B3F HW
  have B0 := KB0
  clear KB0
  have B1 := KB1
  clear KB1
  have HC := KHC
  clear KHC
  have HD := KHD
  clear KHD
  have B2 := KB2
  clear KB2
  have B3 := KB3
  clear KB3
  have HCF := KHCF
  clear KHCF
  have HDF := KHDF
  clear KHDF
  have B2F := KB2F
  clear KB2F
  have B3F := KB3F
  clear KB3F
  have HW := KW
  clear KW
  obtain ⟨_, B2p, B2q⟩ := B2.out
  obtain ⟨_, B3p, B3q⟩ := B3.out
  go_wp2_with fail
  (with_reducible refine ((I4 _).out).mono ?_)
  rintro e y21 ⟨rfl, hb⟩
  clear B2p B2q B3p B3q
  have hst := Lib.hid hb
  clear hb
  replace HCF := Lib.hid (HCF.out.on HC.out.1 hst.out)
  replace HDF := Lib.hid (HDF.out.on HD.out.1 hst.out)
  replace B2F := Lib.hid (B2F.out.on B2.out.1 hst.out)
  replace B3F := Lib.hid (B3F.out.on B3.out.1 hst.out)
  replace B0 := Lib.hid (B0.out.on hst.out)
  replace B1 := Lib.hid (B1.out.on hst.out)
  replace HC := Lib.hid (HC.out.on hst.out)
  replace HD := Lib.hid (HD.out.on hst.out)
  replace B2 := Lib.hid (B2.out.on hst.out)
  replace B3 := Lib.hid (B3.out.on hst.out)
  replace HW := Lib.hid (below_on HW.out hst.out)
  clear hst
  clear C4 D4 I4
  obtain ⟨_, HCp, HCq⟩ := HC.out
  go_wp2_with fail
  (with_reducible refine ((C5 _).out).mono ?_)
  rintro e y22 ⟨rfl, hb⟩
  clear HCp HCq
  have hst := Lib.hid hb
  clear hb
  replace HCF := Lib.hid (HCF.out.on HC.out.1 hst.out)
  replace HDF := Lib.hid (HDF.out.on HD.out.1 hst.out)
  replace B2F := Lib.hid (B2F.out.on B2.out.1 hst.out)
  replace B3F := Lib.hid (B3F.out.on B3.out.1 hst.out)
  replace B0 := Lib.hid (B0.out.on hst.out)
  replace B1 := Lib.hid (B1.out.on hst.out)
  replace HC := Lib.hid (HC.out.on hst.out)
  replace HD := Lib.hid (HD.out.on hst.out)
  replace B2 := Lib.hid (B2.out.on hst.out)
  replace B3 := Lib.hid (B3.out.on hst.out)
  replace HW := Lib.hid (below_on HW.out hst.out)
  clear hst
  obtain ⟨B2r, B2s⟩ := B2F.out
  obtain ⟨B2m, B2p, B2q⟩ := B2.out
  go_upto_region 24 with fail
  clear B2r B2s B2m B2p B2q
  obtain ⟨y23, hy⟩ : ∃ W, W = (y22.setCell ⟨y4.heap.size, 0, none⟩ (.int .i64 n5)).setCell ⟨y4.heap.size, 1, none⟩ (.int .i64 d5) := ⟨_, rfl⟩
  rw [← hy]
  have KB0 : Hid (Blk y23 (w.heap.size) (.int .i64 al) (.int .i64 ah)) := by rw [hy]; exact Blk.far B0.out (Nat.ne_of_gt LB0_B2.out)
  have KB1 : Hid (Blk y23 (w.heap.size + 1) (.int .i64 bl) (.int .i64 bh)) := by rw [hy]; exact Blk.far B1.out (Nat.ne_of_gt LB1_B2.out)
  have KHC : Hid (Blk y23 (gc) (.int .i64 p1) (.int .i64 p2)) := by rw [hy]; exact Blk.far HC.out (Nat.ne_of_gt LHC_B2.out)
  have KHCF : Hid (Frz y23 (gc)) := by rw [hy]; exact Frz.set HCF.out
  have KHD : Hid (Blk y23 (gd) (.int .i64 q1) (.int .i64 q2)) := by rw [hy]; exact Blk.far HD.out (Nat.ne_of_gt LHD_B2.out)
  have KHDF : Hid (Frz y23 (gd)) := by rw [hy]; exact Frz.set HDF.out
  have KB2 : Hid (Blk y23 (y4.heap.size) (.int .i64 n5) (.int .i64 d5)) := by rw [hy]; exact Blk.set B2.out
  have KB2F : Hid (Frz y23 (y4.heap.size)) := by rw [hy]; exact Frz.set B2F.out
  have KB3 : Hid (Blk y23 (y5.heap.size) (.int .i64 m4) (.int .i64 f4)) := by rw [hy]; exact Blk.far B3.out (Nat.ne_of_lt LB2_B3.out)
  have KB3F : Hid (Frz y23 (y5.heap.size)) := by rw [hy]; exact Frz.set B3F.out
  have KW : Hid (Below w.heap.size w y23) := by rw [hy]; exact (HW.out.setCell (by simpa using B2N.out) _).setCell (by simpa using B2N.out) _
  clear hy B0 B1 HC HD B2 B3 HCF HDF B2F B3F HW
  have B0 := KB0
  clear KB0
  have B1 := KB1
  clear KB1
  have HC := KHC
  clear KHC
  have HD := KHD
  clear KHD
  have B2 := KB2
  clear KB2
  have B3 := KB3
  clear KB3
  have HCF := KHCF
  clear KHCF
  have HDF := KHDF
  clear KHDF
  have B2F := KB2F
  clear KB2F
  have B3F := KB3F
  clear KB3F
  have HW := KW
  clear KW
  obtain ⟨_, B0p, B0q⟩ := B0.out
  go_wp2_with fail
  (with_reducible refine ((D5 _).out).mono ?_)
  rintro e y24 ⟨rfl, hb⟩
  clear B0p B0q
  have hst := Lib.hid hb
  clear hb
  replace HCF := Lib.hid (HCF.out.on HC.out.1 hst.out)
  replace HDF := Lib.hid (HDF.out.on HD.out.1 hst.out)
  replace B2F := Lib.hid (B2F.out.on B2.out.1 hst.out)
  replace B3F := Lib.hid (B3F.out.on B3.out.1 hst.out)
  replace B0 := Lib.hid (B0.out.on hst.out)
  replace B1 := Lib.hid (B1.out.on hst.out)
  replace HC := Lib.hid (HC.out.on hst.out)
  replace HD := Lib.hid (HD.out.on hst.out)
  replace B2 := Lib.hid (B2.out.on hst.out)
  replace B3 := Lib.hid (B3.out.on hst.out)
  replace HW := Lib.hid (below_on HW.out hst.out)
  clear hst
  obtain ⟨B3r, B3s⟩ := B3F.out
  obtain ⟨B3m, B3p, B3q⟩ := B3.out
  go_upto_region 25 with fail
  clear B3r B3s B3m B3p B3q
  obtain ⟨y25, hy⟩ : ∃ W, W = (y24.setCell ⟨y5.heap.size, 0, none⟩ (.int .i64 m5)).setCell ⟨y5.heap.size, 1, none⟩ (.int .i64 f5) := ⟨_, rfl⟩
  rw [← hy]
  have KB0 : Hid (Blk y25 (w.heap.size) (.int .i64 al) (.int .i64 ah)) := by rw [hy]; exact Blk.far B0.out (Nat.ne_of_gt LB0_B3.out)
  have KB1 : Hid (Blk y25 (w.heap.size + 1) (.int .i64 bl) (.int .i64 bh)) := by rw [hy]; exact Blk.far B1.out (Nat.ne_of_gt LB1_B3.out)
  have KHC : Hid (Blk y25 (gc) (.int .i64 p1) (.int .i64 p2)) := by rw [hy]; exact Blk.far HC.out (Nat.ne_of_gt LHC_B3.out)
  have KHCF : Hid (Frz y25 (gc)) := by rw [hy]; exact Frz.set HCF.out
  have KHD : Hid (Blk y25 (gd) (.int .i64 q1) (.int .i64 q2)) := by rw [hy]; exact Blk.far HD.out (Nat.ne_of_gt LHD_B3.out)
  have KHDF : Hid (Frz y25 (gd)) := by rw [hy]; exact Frz.set HDF.out
  have KB2 : Hid (Blk y25 (y4.heap.size) (.int .i64 n5) (.int .i64 d5)) := by rw [hy]; exact Blk.far B2.out (Nat.ne_of_gt LB2_B3.out)
  have KB2F : Hid (Frz y25 (y4.heap.size)) := by rw [hy]; exact Frz.set B2F.out
  have KB3 : Hid (Blk y25 (y5.heap.size) (.int .i64 m5) (.int .i64 f5)) := by rw [hy]; exact Blk.set B3.out
  have KB3F : Hid (Frz y25 (y5.heap.size)) := by rw [hy]; exact Frz.set B3F.out
  have KW : Hid (Below w.heap.size w y25) := by rw [hy]; exact (HW.out.setCell (by simpa using B3N.out) _).setCell (by simpa using B3N.out) _
  clear hy B0 B1 HC HD B2 B3 HCF HDF B2F B3F HW
  have B0 := KB0
  clear KB0
  have B1 := KB1
  clear KB1
  have HC := KHC
  clear KHC
  have HD := KHD
  clear KHD
  have B2 := KB2
  clear KB2
  have B3 := KB3
  clear KB3
  have HCF := KHCF
  clear KHCF
  have HDF := KHDF
  clear KHDF
  have B2F := KB2F
  clear KB2F
  have B3F := KB3F
  clear KB3F
  have HW := KW
  clear KW
  obtain ⟨_, B2p, B2q⟩ := B2.out
  obtain ⟨_, B3p, B3q⟩ := B3.out
  go_wp2_with fail
  (with_reducible refine ((I5 _).out).mono ?_)
  rintro e y26 ⟨rfl, hb⟩
  clear B2p B2q B3p B3q
  have hst := Lib.hid hb
  clear hb
  replace HCF := Lib.hid (HCF.out.on HC.out.1 hst.out)
  replace HDF := Lib.hid (HDF.out.on HD.out.1 hst.out)
  replace B2F := Lib.hid (B2F.out.on B2.out.1 hst.out)
  replace B3F := Lib.hid (B3F.out.on B3.out.1 hst.out)
  replace B0 := Lib.hid (B0.out.on hst.out)
  replace B1 := Lib.hid (B1.out.on hst.out)
  replace HC := Lib.hid (HC.out.on hst.out)
  replace HD := Lib.hid (HD.out.on hst.out)
  replace B2 := Lib.hid (B2.out.on hst.out)
  replace B3 := Lib.hid (B3.out.on hst.out)
  replace HW := Lib.hid (below_on HW.out hst.out)
  clear hst
  clear C5 D5 I5
  go_wp2_with fail
  go_ret
  exact ⟨rfl, HW.out⟩

set_option maxRecDepth 100000 in
set_option maxHeartbeats 8000000 in
theorem narrow_noA (al ah bl bh i j k l : Int) (w : World) (ha : sV al ah = false) :
    Calls Try.prog 7 #[.agg #[.int .i64 al, .int .i64 ah], .agg #[.int .i64 bl, .int .i64 bh], .int .u64 i, .int .u64 j, .int .u64 k, .int .u64 l] w fun e w' => e = .returned (.bool true) ∧ Below w.heap.size w w' := by
  have VA := fun w => Lib.hid (rsValid_any al ah w)
  have VB := fun w => Lib.hid (rsValid_any bl bh w)
  simp only [ha] at VA
  clear ha
  have HW := Lib.hid (Below.refl w.heap.size w)
  have AW := fun w => Lib.hid (sawake_any w)
  go_enter Try.func7, Try.ntmps7
  go_wp2_with fail
  (with_reducible refine ((AW _).out).mono ?_)
  rintro e y1 ⟨rfl, hb⟩
  have hst := Lib.hid (below_on (w := w) (by repeat' (first | (with_reducible exact Below.refl _ _) | (with_reducible assumption) | (with_reducible refine Below.alloc ?_ ?_ _) | (with_reducible refine below_drew ?_ _) | (with_reducible refine Below.drew ?_) | (with_reducible refine Below.setCell ?_ ?_ _) | go_size)) hb)
  have B0 : Hid (Blk y1 (w.heap.size) (.int .i64 al) (.int .i64 ah)) := Blk.on (W := ((w.alloc (Obj.cells #[Value.int .i64 al, Value.int .i64 ah] 23)).alloc (Obj.cells #[Value.int .i64 bl, Value.int .i64 bh] 23))) (by first | exact Blk.new _ _ _ _ | exact (Blk.new _ _ _ _).alloc _ | exact ((Blk.new _ _ _ _).alloc _).alloc _ | (have hn := Blk.new (w) (Value.int .i64 al) (Value.int .i64 ah) 23; simpa using hn)) hb
  have B1 : Hid (Blk y1 (w.heap.size + 1) (.int .i64 bl) (.int .i64 bh)) := Blk.on (W := ((w.alloc (Obj.cells #[Value.int .i64 al, Value.int .i64 ah] 23)).alloc (Obj.cells #[Value.int .i64 bl, Value.int .i64 bh] 23))) (by first | exact Blk.new _ _ _ _ | exact (Blk.new _ _ _ _).alloc _ | exact ((Blk.new _ _ _ _).alloc _).alloc _ | (have hn := Blk.new ((w.alloc (Obj.cells #[Value.int .i64 al, Value.int .i64 ah] 23))) (Value.int .i64 bl) (Value.int .i64 bh) 23; simpa using hn)) hb
  clear hb
  replace HW := Lib.hid (below_on HW.out hst.out)
  clear hst
  obtain ⟨_, B0p, B0q⟩ := B0.out
  go_wp2_with fail
  (with_reducible refine ((VA _).out).mono ?_)
  rintro e y2 ⟨rfl, hb⟩
  clear B0p B0q
  have hst := Lib.hid hb
  clear hb
  replace B0 := Lib.hid (B0.out.on hst.out)
  replace B1 := Lib.hid (B1.out.on hst.out)
  replace HW := Lib.hid (below_on HW.out hst.out)
  clear hst
  go_wp2_with fail
  go_ret
  exact ⟨rfl, HW.out⟩

set_option maxRecDepth 100000 in
set_option maxHeartbeats 8000000 in
theorem narrow_noB (al ah bl bh i j k l : Int) (w : World) (ha : sV al ah = true) (hb : sV bl bh = false) :
    Calls Try.prog 7 #[.agg #[.int .i64 al, .int .i64 ah], .agg #[.int .i64 bl, .int .i64 bh], .int .u64 i, .int .u64 j, .int .u64 k, .int .u64 l] w fun e w' => e = .returned (.bool true) ∧ Below w.heap.size w w' := by
  have VA := fun w => Lib.hid (rsValid_any al ah w)
  have VB := fun w => Lib.hid (rsValid_any bl bh w)
  simp only [ha] at VA
  simp only [hb] at VB
  clear ha hb
  have HW := Lib.hid (Below.refl w.heap.size w)
  have AW := fun w => Lib.hid (sawake_any w)
  go_enter Try.func7, Try.ntmps7
  go_wp2_with fail
  (with_reducible refine ((AW _).out).mono ?_)
  rintro e y1 ⟨rfl, hb⟩
  have hst := Lib.hid (below_on (w := w) (by repeat' (first | (with_reducible exact Below.refl _ _) | (with_reducible assumption) | (with_reducible refine Below.alloc ?_ ?_ _) | (with_reducible refine below_drew ?_ _) | (with_reducible refine Below.drew ?_) | (with_reducible refine Below.setCell ?_ ?_ _) | go_size)) hb)
  have B0 : Hid (Blk y1 (w.heap.size) (.int .i64 al) (.int .i64 ah)) := Blk.on (W := ((w.alloc (Obj.cells #[Value.int .i64 al, Value.int .i64 ah] 23)).alloc (Obj.cells #[Value.int .i64 bl, Value.int .i64 bh] 23))) (by first | exact Blk.new _ _ _ _ | exact (Blk.new _ _ _ _).alloc _ | exact ((Blk.new _ _ _ _).alloc _).alloc _ | (have hn := Blk.new (w) (Value.int .i64 al) (Value.int .i64 ah) 23; simpa using hn)) hb
  have B1 : Hid (Blk y1 (w.heap.size + 1) (.int .i64 bl) (.int .i64 bh)) := Blk.on (W := ((w.alloc (Obj.cells #[Value.int .i64 al, Value.int .i64 ah] 23)).alloc (Obj.cells #[Value.int .i64 bl, Value.int .i64 bh] 23))) (by first | exact Blk.new _ _ _ _ | exact (Blk.new _ _ _ _).alloc _ | exact ((Blk.new _ _ _ _).alloc _).alloc _ | (have hn := Blk.new ((w.alloc (Obj.cells #[Value.int .i64 al, Value.int .i64 ah] 23))) (Value.int .i64 bl) (Value.int .i64 bh) 23; simpa using hn)) hb
  clear hb
  replace HW := Lib.hid (below_on HW.out hst.out)
  clear hst
  obtain ⟨_, B0p, B0q⟩ := B0.out
  go_wp2_with fail
  (with_reducible refine ((VA _).out).mono ?_)
  rintro e y2 ⟨rfl, hb⟩
  clear B0p B0q
  have hst := Lib.hid hb
  clear hb
  replace B0 := Lib.hid (B0.out.on hst.out)
  replace B1 := Lib.hid (B1.out.on hst.out)
  replace HW := Lib.hid (below_on HW.out hst.out)
  clear hst
  obtain ⟨_, B1p, B1q⟩ := B1.out
  go_wp2_with fail
  (with_reducible refine ((VB _).out).mono ?_)
  rintro e y3 ⟨rfl, hb⟩
  clear B1p B1q
  have hst := Lib.hid hb
  clear hb
  replace B0 := Lib.hid (B0.out.on hst.out)
  replace B1 := Lib.hid (B1.out.on hst.out)
  replace HW := Lib.hid (below_on HW.out hst.out)
  clear hst
  go_wp2_with fail
  go_ret
  exact ⟨rfl, HW.out⟩

theorem narrow_walk (al ah bl bh i j k l : Int) (w : World) (a0 : -9223372036854775808 ≤ al) (a1 : al ≤ 9223372036854775807) (a2 : -9223372036854775808 ≤ ah) (a3 : ah ≤ 9223372036854775807) (b0 : -9223372036854775808 ≤ bl) (b1 : bl ≤ 9223372036854775807) (b2 : -9223372036854775808 ≤ bh) (b3 : bh ≤ 9223372036854775807) (i0 : 0 ≤ i) (i1 : i < 18446744073709551616) (j0 : 0 ≤ j) (j1 : j < 18446744073709551616) (k0 : 0 ≤ k) (k1 : k < 18446744073709551616) (l0 : 0 ≤ l) (l1 : l < 18446744073709551616) :
    Calls Try.prog 7 #[.agg #[.int .i64 al, .int .i64 ah], .agg #[.int .i64 bl, .int .i64 bh], .int .u64 i, .int .u64 j, .int .u64 k, .int .u64 l] w fun e w' => e = .returned (.bool true) ∧ Below w.heap.size w w' := by
  by_cases ha : sV al ah = true
  · by_cases hb : sV bl bh = true
    · exact narrow_yes al ah bl bh i j k l w (sV_vd ha) (sV_vd hb) i0 i1 j0 j1 k0 k1 l0 l1
    · exact narrow_noB al ah bl bh i j k l w ha (by simpa using hb)
  · exact narrow_noA al ah bl bh i j k l w (by simpa using ha)

end Go.Proofs.Ytknbhpnhnhfbpaa
