/- The walk of the law SpanInside. -/
import Derived.Test.YtknbhpnhnhfbpaaS6
import Derived.Test.YtknbhpnhnhfbpaaS9
namespace Go.Proofs.Ytknbhpnhnhfbpaa
set_option linter.unusedVariables false
open Go.RowKit Go.Shelf

structure In105R (w : World) (al ah bl bh i j x y n1 d1 e1 n2 d2 e2 n3 d3 e3 n4 d4 e4 r1 r2 : Int) (Wc : World) (L : Nat → Bool) (v : Nat → Value) (g : Nat → Nat) (W : World) : Prop where
  st : Below Wc.heap.size Wc W
  f0 : Had L 0 (v 31 = .agg #[.int .i64 al, .int .i64 ah])
  f1 : Had L 1 (v 32 = .int .u64 i)
  f2 : Had L 2 (v 33 = .int .i64 x)
  f3 : Had L 3 (v 34 = .agg #[.int .i64 bl, .int .i64 bh])
  f4 : Had L 4 (v 35 = .int .u64 j)
  f5 : Had L 5 (v 36 = .int .i64 y)
  f6 : Had L 6 (v 9 = .int .i64 x)
  f7 : Had L 7 (v 10 = .int .i64 y)

structure In1020R (w : World) (al ah bl bh i j x y n1 d1 e1 n2 d2 e2 n3 d3 e3 n4 d4 e4 r1 r2 : Int) (y7 : World) (Wc : World) (L : Nat → Bool) (v : Nat → Value) (g : Nat → Nat) (W : World) : Prop where
  st : Below Wc.heap.size Wc W
  f0 : Had L 0 (v 121 = .int .i64 0)
  f1 : Had L 1 (v 122 = .bool true)
  f2 : Had L 2 (v 123 = .bool true)
  f3 : Had L 3 (v 124 = .pointer (some ⟨y7.heap.size, 0, none⟩))
  f4 : Had L 4 (v 125 = .int .i64 n4)
  f5 : Had L 5 (v 126 = .int .i64 x)
  f6 : Had L 6 (v 127 = .int .i64 y)
  f7 : Had L 7 (v 128 = .int .i64 r1)
  f8 : Had L 8 (v 129 = .bool true)
  f9 : Had L 9 (v 130 = .bool true)
  f10 : Had L 10 (v 131 = .bool true)
  f11 : Had L 11 (v 132 = .int .i64 x)
  f12 : Had L 12 (v 133 = .int .i64 y)
  f13 : Had L 13 (v 134 = .int .i64 r2)
  f14 : Had L 14 (v 135 = .pointer (some ⟨y7.heap.size, 1, none⟩))
  f15 : Had L 15 (v 136 = .int .i64 d4)
  f16 : Had L 16 (v 137 = .bool true)
  f17 : Had L 17 (v 138 = .bool true)
  f18 : Had L 18 (v 8 = .bool true)

set_option maxRecDepth 100000 in
set_option maxHeartbeats 16000000 in
theorem inside_FN (al ah bl bh i j n3 d3 : Int) (w : World) (va : SVd al ah) (vb : SVd bl bh) (i0 : 0 ≤ i) (i1 : i < 18446744073709551616) (j0 : 0 ≤ j) (j1 : j < 18446744073709551616) (hm : mul4 (al * bl) (al * bh) (ah * bl) (ah * bh) = (n3, d3, 0)) (hz : ¬ (bl ≤ 0 ∧ 0 ≤ bh)) :
    Calls Try.prog 6 #[.agg #[.int .i64 al, .int .i64 ah], .agg #[.int .i64 bl, .int .i64 bh], .int .u64 i, .int .u64 j] w fun e w' => e = .returned (.bool true) ∧ Below w.heap.size w w' := by
  have ha := sV_yes va
  have hb := sV_yes vb
  have VA := fun w => Lib.hid (rsValid_any al ah w)
  have VB := fun w => Lib.hid (rsValid_any bl bh w)
  simp only [ha] at VA
  simp only [hb] at VB
  have A1 := fun w => Lib.hid (at_any al ah i w va i0 i1)
  have A2 := fun w => Lib.hid (at_any bl bh j w vb j0 j1)
  obtain ⟨x0, x1⟩ := atV_bd va.m i
  obtain ⟨y0, y1⟩ := atV_bd vb.m j
  obtain ⟨x, hx⟩ : ∃ x, atV al ah i = x := ⟨_, rfl⟩
  obtain ⟨y, hy⟩ : ∃ x, atV bl bh j = x := ⟨_, rfl⟩
  rw [hx] at x0 x1
  rw [hy] at y0 y1
  simp only [hx] at A1
  simp only [hy] at A2
  clear hx hy
  have va' := va; have vb' := vb
  obtain ⟨va1, va2, va3⟩ := va'
  obtain ⟨vb1, vb2, vb3⟩ := vb'
  obtain ⟨n1, d1, e1, g1⟩ : ∃ a b c, sAdd al ah bl bh = (a, b, c) := ⟨_, _, _, rfl⟩
  obtain ⟨n2, d2, e2, g2⟩ : ∃ a b c, sSub al ah bl bh = (a, b, c) := ⟨_, _, _, rfl⟩
  have C1 := fun w => Lib.hid (sAdd_any al ah bl bh w (by omega) (by omega) (by omega) (by omega) (by omega) (by omega) (by omega) (by omega) n1 d1 e1 g1)
  have C2 := fun w => Lib.hid (sSub_any al ah bl bh w (by omega) (by omega) (by omega) (by omega) (by omega) (by omega) (by omega) (by omega) n2 d2 e2 g2)
  have h1 : (0 = e1 ∧ ∀ w, Hid (Calls Try.prog 35 #[.agg #[.int .i64 n1, .int .i64 d1], .int .i64 (x + y)] w fun e w' => e = .returned (.bool true) ∧ Below w.heap.size w w')) ∨ 5 = e1 := by
    unfold sAdd at g1
    rw [okS_yes ha hb] at g1
    unfold fitS at g1
    split at g1
    · obtain ⟨q1, q2, q3⟩ := three g1
      exact .inl ⟨q3, fun w => has_yes _ _ _ w (by omega) (by omega)⟩
    · obtain ⟨q1, q2, q3⟩ := three g1
      exact .inr q3
  have h2 : (0 = e2 ∧ ∀ w, Hid (Calls Try.prog 35 #[.agg #[.int .i64 n2, .int .i64 d2], .int .i64 (x - y)] w fun e w' => e = .returned (.bool true) ∧ Below w.heap.size w w')) ∨ 5 = e2 := by
    unfold sSub at g2
    rw [okS_yes ha hb] at g2
    unfold fitS at g2
    split at g2
    · obtain ⟨q1, q2, q3⟩ := three g2
      exact .inl ⟨q3, fun w => has_yes _ _ _ w (by omega) (by omega)⟩
    · obtain ⟨q1, q2, q3⟩ := three g2
      exact .inr q3
  have C3 := fun w => Lib.hid (sMul_any al ah bl bh w (by omega) (by omega) (by omega) (by omega) (by omega) (by omega) (by omega) (by omega) n3 d3 0 (by unfold sMul; rw [okS_yes ha hb, mulS_eq]; exact hm))
  obtain ⟨m1, m2, m3, m4, m5, m6⟩ := mul4_ok hm
  obtain ⟨t1, t2⟩ := mul_bd4 x0 x1 y0 y1
  have hp : inM (x * y) := by unfold inM at *; omega
  have PT := fun w => Lib.hid (part_any x y 1 false w (by omega) (by omega) (by omega) (by omega) (by omega) (by omega) (by omega) (x * y) true (by
    have hq : ptV x y 1 false = x * y := by
      unfold ptV qN qC
      rw [if_neg (by simp), if_neg (by decide), show (((1 : Int).natAbs : Nat) : Int) = 1 by decide, Int.ediv_one]
    unfold ptT
    rw [hq]
    exact if_pos hp))
  have I3 := fun w => Lib.hid (has_yes n3 d3 (x * y) w (by omega) (by omega))
  obtain ⟨p, hpp⟩ : ∃ p, x * y = p := ⟨_, rfl⟩
  simp only [hpp] at PT I3
  clear m1 m2 m3 m4 m5 m6 t1 t2 hp hpp
  have hne : y ≠ 0 := by omega
  have q1 := fl_bd x0 x1 hz y0 y1
  have q2 := ce_bd x0 x1 hz y0 y1
  obtain ⟨n4, hn4⟩ : ∃ z, min (min (min (fl al bl) (fl al bh)) (fl ah bl)) (fl ah bh) = z := ⟨_, rfl⟩
  obtain ⟨d4, hd4⟩ : ∃ z, max (max (max (ce al bl) (ce al bh)) (ce ah bl)) (ce ah bh) = z := ⟨_, rfl⟩
  have C4 := fun w => Lib.hid (sDiv_any al ah bl bh w (by omega) (by omega) (by omega) (by omega) (by omega) (by omega) (by omega) (by omega) n4 d4 0 (by unfold sDiv; rw [okS_yes ha hb, divS_eq va vb hz, hn4, hd4]))
  rw [hn4] at q1
  rw [hd4] at q2
  have FL := fun w => Lib.hid (rFloor_any x y w (by omega) (by omega) (by omega) (by omega) hne)
  have CE := fun w => Lib.hid (rCeil_any x y w (by omega) (by omega) (by omega) (by omega) hne)
  have HZ := fun w => Lib.hid (has_no bl bh 0 w hz)
  obtain ⟨r1, hr1⟩ : ∃ z, fl x y = z := ⟨_, rfl⟩
  obtain ⟨r2, hr2⟩ : ∃ z, ce x y = z := ⟨_, rfl⟩
  rw [hr1] at q1
  rw [hr2] at q2
  simp only [hr1] at FL
  simp only [hr2] at CE
  have q3 : decide (n4 ≤ r1) = true := decide_eq_true q1
  have q4 : decide (r2 ≤ d4) = true := decide_eq_true q2
  clear hn4 hd4 hr1 hr2 q1 q2 hne
  obtain ⟨e3, he3⟩ : ∃ z : Int, 0 = z := ⟨_, rfl⟩
  obtain ⟨e4, he4⟩ : ∃ z : Int, 0 = z := ⟨_, rfl⟩
  have k0 : -2305843009213693952 ≤ x + y := by omega
  have k1 : x + y ≤ 2305843009213693952 := by omega
  have k2 : -2305843009213693952 ≤ x - y := by omega
  have k3 : x - y ≤ 2305843009213693952 := by omega
  have k4 : -1152921504606846976 ≤ x := by omega
  have k5 : x ≤ 1152921504606846976 := by omega
  have k6 : -1152921504606846976 ≤ y := by omega
  have k7 : y ≤ 1152921504606846976 := by omega
  clear he3 he4 ha hb va vb g1 g2 hm hz x0 x1 y0 y1 va1 va2 va3 vb1 vb2 vb3
  have HW := Lib.hid (Below.refl w.heap.size w)
  have AW := fun w => Lib.hid (sawake_any w)
  go_enter Try.func6, Try.ntmps6
  go_wp2_with fail
  (with_reducible refine ((AW _).out).mono ?_)
  rintro e y1 ⟨rfl, hb⟩
  have hst := Lib.hid (below_on (w := w) (by repeat' (first | (with_reducible exact Below.refl _ _) | (with_reducible assumption) | (with_reducible refine Below.alloc ?_ ?_ _) | (with_reducible refine below_drew ?_ _) | (with_reducible refine Below.drew ?_) | (with_reducible refine Below.setCell ?_ ?_ _) | go_size)) hb)
  have B0 : Hid (Blk y1 (w.heap.size) (.int .i64 al) (.int .i64 ah)) := Blk.on (W := ((w.alloc (Obj.cells #[Value.int .i64 al, Value.int .i64 ah] 23)).alloc (Obj.cells #[Value.int .i64 bl, Value.int .i64 bh] 23))) (by first | exact Blk.new _ _ _ _ | exact (Blk.new _ _ _ _).alloc _ | exact ((Blk.new _ _ _ _).alloc _).alloc _ | (have hn := Blk.new (w) (Value.int .i64 al) (Value.int .i64 ah) 23; simpa using hn)) hb
  have B1 : Hid (Blk y1 (w.heap.size + 1) (.int .i64 bl) (.int .i64 bh)) := Blk.on (W := ((w.alloc (Obj.cells #[Value.int .i64 al, Value.int .i64 ah] 23)).alloc (Obj.cells #[Value.int .i64 bl, Value.int .i64 bh] 23))) (by first | exact Blk.new _ _ _ _ | exact (Blk.new _ _ _ _).alloc _ | exact ((Blk.new _ _ _ _).alloc _).alloc _ | (have hn := Blk.new ((w.alloc (Obj.cells #[Value.int .i64 al, Value.int .i64 ah] 23))) (Value.int .i64 bl) (Value.int .i64 bh) 23; simpa using hn)) hb
  clear hb
  replace HW := Lib.hid (below_on HW.out hst.out)
  clear hst
  obtain ⟨_, B0p, B0q⟩ := B0.out
  go_wp2_with fail
  (with_reducible refine ((VA _).out).mono ?_)
  rintro e y2 ⟨rfl, hb⟩
  clear B0p B0q
  have hst := Lib.hid hb
  clear hb
  replace B0 := Lib.hid (B0.out.on hst.out)
  replace B1 := Lib.hid (B1.out.on hst.out)
  replace HW := Lib.hid (below_on HW.out hst.out)
  clear hst
  obtain ⟨_, B1p, B1q⟩ := B1.out
  go_wp2_with fail
  (with_reducible refine ((VB _).out).mono ?_)
  rintro e y3 ⟨rfl, hb⟩
  clear B1p B1q
  have hst := Lib.hid hb
  clear hb
  replace B0 := Lib.hid (B0.out.on hst.out)
  replace B1 := Lib.hid (B1.out.on hst.out)
  replace HW := Lib.hid (below_on HW.out hst.out)
  clear hst
  go_wp2_with fail
  refine wp_region_each (fun L A W => ∃ (v : Nat → Value) (g : Nat → Nat), A = ⟨#[.agg #[.int .i64 al, .int .i64 ah], .agg #[.int .i64 bl, .int .i64 bh], .int .u64 i, .int .u64 j, .pointer (some ⟨w.heap.size, 0, none⟩), .pointer (some ⟨w.heap.size + 1, 0, none⟩), undef, undef, .bool false, v 9, v 10, undef, undef, undef, undef, undef, undef, undef, undef, undef, undef, .bool true, .bool false, .agg #[.int .i64 al, .int .i64 ah], .bool true, .bool false, .bool false, .agg #[.int .i64 bl, .int .i64 bh], .bool true, .bool false, .bool false, v 31, v 32, v 33, v 34, v 35, v 36, undef, undef, undef, undef, undef, undef, undef, undef, undef, undef, undef, undef, undef, undef, undef, undef, undef, undef, undef, undef, undef, undef, undef, undef, undef, undef, undef, undef, undef, undef, undef, undef, undef, undef, undef, undef, undef, undef, undef, undef, undef, undef, undef, undef, undef, undef, undef, undef, undef, undef, undef, undef, undef, undef, undef, undef, undef, undef, undef, undef, undef, undef, undef, undef, undef, undef, undef, undef, undef, undef, undef, undef, undef, undef, undef, undef, undef, undef, undef, undef, undef, undef, undef, undef, undef, undef, undef, undef, undef, undef, undef, undef, undef, undef, undef, undef, undef, undef, undef, undef, undef, undef], []⟩ ∧ In105R w al ah bl bh i j x y n1 d1 e1 n2 d2 e2 n3 d3 e3 n4 d4 e4 r1 r2 y3 L v g W) (by kernel_rfl) (by kernel_rfl) ⟨fun _ => undef, fun _ => 0, rfl, ⟨Below.drew (Below.refl _ _), Had.none, Had.none, Had.none, Had.none, Had.none, Had.none, Had.none, Had.none⟩⟩ (rs := [0, 1, 2, 3, 4, 5, 6, 7]) (by kernel_rfl) ?_ ?_
  · refine EachOf.cons [] rfl (by kernel_rfl) ?_ ?_
    · rintro L A W ⟨v, g, rfl, hR⟩ hi hw K hK
      obtain ⟨_, q0, q1⟩ := B0.out.on hR.st
      go_simp
      refine hK.out _ _ ?_
      exact ⟨(fun jz => if jz = 31 then .agg #[.int .i64 al, .int .i64 ah] else v jz), g, rfl, ⟨hR.st, (fun _ => rfl), hR.f1.keep rfl, hR.f2.keep rfl, hR.f3.keep rfl, hR.f4.keep rfl, hR.f5.keep rfl, hR.f6.keep rfl, hR.f7.keep rfl⟩⟩
    refine EachOf.cons [] rfl (by kernel_rfl) ?_ ?_
    · rintro L A W ⟨v, g, rfl, hR⟩ hi hw K hK
      go_simp
      refine hK.out _ _ ?_
      exact ⟨(fun jz => if jz = 32 then .int .u64 i else v jz), g, rfl, ⟨hR.st, hR.f0.keep rfl, (fun _ => rfl), hR.f2.keep rfl, hR.f3.keep rfl, hR.f4.keep rfl, hR.f5.keep rfl, hR.f6.keep rfl, hR.f7.keep rfl⟩⟩
    refine EachOf.cons [0, 1] rfl (by kernel_rfl) ?_ ?_
    · rintro L A W ⟨v, g, rfl, hR⟩ hi hw K hK
      have e0 := hR.f0 (hw 0 (by simp))
      have e1 := hR.f1 (hw 1 (by simp))
      simp only [e0, e1]
      clear e0 e1
      go_simp
      go_at_call 34
      (with_reducible refine ((A1 _).out).mono ?_)
      rintro e w2 ⟨rfl, hb⟩
      go_simp
      refine hK.out _ _ ?_
      exact ⟨(fun jz => if jz = 31 then .agg #[.int .i64 al, .int .i64 ah] else if jz = 32 then .int .u64 i else if jz = 33 then .int .i64 x else v jz), g, rfl, ⟨below_on hR.st hb, (fun _ => rfl), (fun _ => rfl), (fun _ => rfl), hR.f3.keep rfl, hR.f4.keep rfl, hR.f5.keep rfl, hR.f6.keep rfl, hR.f7.keep rfl⟩⟩
    refine EachOf.cons [] rfl (by kernel_rfl) ?_ ?_
    · rintro L A W ⟨v, g, rfl, hR⟩ hi hw K hK
      obtain ⟨_, q0, q1⟩ := B1.out.on hR.st
      go_simp
      refine hK.out _ _ ?_
      exact ⟨(fun jz => if jz = 34 then .agg #[.int .i64 bl, .int .i64 bh] else v jz), g, rfl, ⟨hR.st, hR.f0.keep rfl, hR.f1.keep rfl, hR.f2.keep rfl, (fun _ => rfl), hR.f4.keep rfl, hR.f5.keep rfl, hR.f6.keep rfl, hR.f7.keep rfl⟩⟩
    refine EachOf.cons [] rfl (by kernel_rfl) ?_ ?_
    · rintro L A W ⟨v, g, rfl, hR⟩ hi hw K hK
      go_simp
      refine hK.out _ _ ?_
      exact ⟨(fun jz => if jz = 35 then .int .u64 j else v jz), g, rfl, ⟨hR.st, hR.f0.keep rfl, hR.f1.keep rfl, hR.f2.keep rfl, hR.f3.keep rfl, (fun _ => rfl), hR.f5.keep rfl, hR.f6.keep rfl, hR.f7.keep rfl⟩⟩
    refine EachOf.cons [3, 4] rfl (by kernel_rfl) ?_ ?_
    · rintro L A W ⟨v, g, rfl, hR⟩ hi hw K hK
      have e3 := hR.f3 (hw 3 (by simp))
      have e4 := hR.f4 (hw 4 (by simp))
      simp only [e3, e4]
      clear e3 e4
      go_simp
      go_at_call 34
      (with_reducible refine ((A2 _).out).mono ?_)
      rintro e w2 ⟨rfl, hb⟩
      go_simp
      refine hK.out _ _ ?_
      exact ⟨(fun jz => if jz = 34 then .agg #[.int .i64 bl, .int .i64 bh] else if jz = 35 then .int .u64 j else if jz = 36 then .int .i64 y else v jz), g, rfl, ⟨below_on hR.st hb, hR.f0.keep rfl, hR.f1.keep rfl, hR.f2.keep rfl, (fun _ => rfl), (fun _ => rfl), (fun _ => rfl), hR.f6.keep rfl, hR.f7.keep rfl⟩⟩
    refine EachOf.cons [2] rfl (by kernel_rfl) ?_ ?_
    · rintro L A W ⟨v, g, rfl, hR⟩ hi hw K hK
      have e2 := hR.f2 (hw 2 (by simp))
      simp only [e2]
      clear e2
      go_simp
      refine hK.out _ _ ?_
      exact ⟨(fun jz => if jz = 33 then .int .i64 x else if jz = 9 then .int .i64 x else v jz), g, rfl, ⟨hR.st, hR.f0.keep rfl, hR.f1.keep rfl, (fun _ => rfl), hR.f3.keep rfl, hR.f4.keep rfl, hR.f5.keep rfl, (fun _ => rfl), hR.f7.keep rfl⟩⟩
    refine EachOf.cons [5] rfl (by kernel_rfl) ?_ ?_
    · rintro L A W ⟨v, g, rfl, hR⟩ hi hw K hK
      have e5 := hR.f5 (hw 5 (by simp))
      simp only [e5]
      clear e5
      go_simp
      refine hK.out _ _ ?_
      exact ⟨(fun jz => if jz = 36 then .int .i64 y else if jz = 10 then .int .i64 y else v jz), g, rfl, ⟨hR.st, hR.f0.keep rfl, hR.f1.keep rfl, hR.f2.keep rfl, hR.f3.keep rfl, hR.f4.keep rfl, (fun _ => rfl), hR.f6.keep rfl, (fun _ => rfl)⟩⟩
    exact EachOf.nil
  rintro L A W1 ⟨v1, g1, rfl, hR⟩ hL
  have e6 := hR.f6 (hL 6 (by simp))
  have e7 := hR.f7 (hL 7 (by simp))
  have hst := Lib.hid hR.st
  simp only [e6, e7]
  clear e6 e7
  clear hR hL
  replace B0 := Lib.hid (B0.out.on hst.out)
  replace B1 := Lib.hid (B1.out.on hst.out)
  replace HW := Lib.hid (below_on HW.out hst.out)
  clear AW VA VB A1 A2
  obtain ⟨_, B0p, B0q⟩ := B0.out
  obtain ⟨_, B1p, B1q⟩ := B1.out
  go_wp2_with fail
  (with_reducible refine ((C1 _).out).mono ?_)
  rintro e y4 ⟨rfl, hb⟩
  clear B0p B0q B1p B1q
  have hst := Lib.hid hb
  clear hb
  replace B0 := Lib.hid (B0.out.on hst.out)
  replace B1 := Lib.hid (B1.out.on hst.out)
  replace HW := Lib.hid (below_on HW.out hst.out)
  clear hst
  obtain ⟨_, B0p, B0q⟩ := B0.out
  obtain ⟨_, B1p, B1q⟩ := B1.out
  go_wp2_with fail
  (with_reducible refine ((C2 _).out).mono ?_)
  rintro e y5 ⟨rfl, hb⟩
  clear B0p B0q B1p B1q
  have hst := Lib.hid (below_on (w := y4) (by repeat' (first | (with_reducible exact Below.refl _ _) | (with_reducible assumption) | (with_reducible refine Below.alloc ?_ ?_ _) | (with_reducible refine below_drew ?_ _) | (with_reducible refine Below.drew ?_) | (with_reducible refine Below.setCell ?_ ?_ _) | go_size)) hb)
  have B2 : Hid (Blk y5 (y4.heap.size) (.int .i64 n1) (.int .i64 d1)) := Blk.on (W := (y4.alloc (Obj.cells #[Value.int .i64 n1, Value.int .i64 d1] 23))) (by first | exact Blk.new _ _ _ _ | exact (Blk.new _ _ _ _).alloc _ | exact ((Blk.new _ _ _ _).alloc _).alloc _ | (have hn := Blk.new (y4) (Value.int .i64 n1) (Value.int .i64 d1) 23; simpa using hn)) hb
  clear hb
  replace B0 := Lib.hid (B0.out.on hst.out)
  replace B1 := Lib.hid (B1.out.on hst.out)
  replace HW := Lib.hid (below_on HW.out hst.out)
  clear hst
  obtain ⟨_, B0p, B0q⟩ := B0.out
  obtain ⟨_, B1p, B1q⟩ := B1.out
  go_wp2_with fail
  (with_reducible refine ((C3 _).out).mono ?_)
  rintro e y6 ⟨rfl, hb⟩
  clear B0p B0q B1p B1q
  have hst := Lib.hid (below_on (w := y5) (by repeat' (first | (with_reducible exact Below.refl _ _) | (with_reducible assumption) | (with_reducible refine Below.alloc ?_ ?_ _) | (with_reducible refine below_drew ?_ _) | (with_reducible refine Below.drew ?_) | (with_reducible refine Below.setCell ?_ ?_ _) | go_size)) hb)
  have B3 : Hid (Blk y6 (y5.heap.size) (.int .i64 n2) (.int .i64 d2)) := Blk.on (W := (y5.alloc (Obj.cells #[Value.int .i64 n2, Value.int .i64 d2] 23))) (by first | exact Blk.new _ _ _ _ | exact (Blk.new _ _ _ _).alloc _ | exact ((Blk.new _ _ _ _).alloc _).alloc _ | (have hn := Blk.new (y5) (Value.int .i64 n2) (Value.int .i64 d2) 23; simpa using hn)) hb
  clear hb
  replace B0 := Lib.hid (B0.out.on hst.out)
  replace B1 := Lib.hid (B1.out.on hst.out)
  replace B2 := Lib.hid (B2.out.on hst.out)
  replace HW := Lib.hid (below_on HW.out hst.out)
  clear hst
  obtain ⟨_, B0p, B0q⟩ := B0.out
  obtain ⟨_, B1p, B1q⟩ := B1.out
  go_wp2_with fail
  (with_reducible refine ((C4 _).out).mono ?_)
  rintro e y7 ⟨rfl, hb⟩
  clear B0p B0q B1p B1q
  have hst := Lib.hid (below_on (w := y6) (by repeat' (first | (with_reducible exact Below.refl _ _) | (with_reducible assumption) | (with_reducible refine Below.alloc ?_ ?_ _) | (with_reducible refine below_drew ?_ _) | (with_reducible refine Below.drew ?_) | (with_reducible refine Below.setCell ?_ ?_ _) | go_size)) hb)
  have B4 : Hid (Blk y7 (y6.heap.size) (.int .i64 n3) (.int .i64 d3)) := Blk.on (W := (y6.alloc (Obj.cells #[Value.int .i64 n3, Value.int .i64 d3] 23))) (by first | exact Blk.new _ _ _ _ | exact (Blk.new _ _ _ _).alloc _ | exact ((Blk.new _ _ _ _).alloc _).alloc _ | (have hn := Blk.new (y6) (Value.int .i64 n3) (Value.int .i64 d3) 23; simpa using hn)) hb
  clear hb
  replace B0 := Lib.hid (B0.out.on hst.out)
  replace B1 := Lib.hid (B1.out.on hst.out)
  replace B2 := Lib.hid (B2.out.on hst.out)
  replace B3 := Lib.hid (B3.out.on hst.out)
  replace HW := Lib.hid (below_on HW.out hst.out)
  clear hst
  clear C1 C2 C3 C4
  go_upto_region 10 with fail
  obtain ⟨y8, hy⟩ : ∃ W, W = (y7.alloc (Obj.cells #[Value.int .i64 n4, Value.int .i64 d4] 23)) := ⟨_, rfl⟩
  rw [← hy]
  have hb : Below ((y7.alloc (Obj.cells #[Value.int .i64 n4, Value.int .i64 d4] 23))).heap.size ((y7.alloc (Obj.cells #[Value.int .i64 n4, Value.int .i64 d4] 23))) y8 := by rw [hy]; exact Below.refl _ _
  clear hy
  have hst := Lib.hid (below_on (w := y7) (by repeat' (first | (with_reducible exact Below.refl _ _) | (with_reducible assumption) | (with_reducible refine Below.alloc ?_ ?_ _) | (with_reducible refine below_drew ?_ _) | (with_reducible refine Below.drew ?_) | (with_reducible refine Below.setCell ?_ ?_ _) | go_size)) hb)
  have B5 : Hid (Blk y8 (y7.heap.size) (.int .i64 n4) (.int .i64 d4)) := Blk.on (W := (y7.alloc (Obj.cells #[Value.int .i64 n4, Value.int .i64 d4] 23))) (by first | exact Blk.new _ _ _ _ | exact (Blk.new _ _ _ _).alloc _ | (have hn := Blk.new (y7) (Value.int .i64 n4) (Value.int .i64 d4) 23; simpa using hn)) hb
  clear hb
  replace B0 := Lib.hid (B0.out.on hst.out)
  replace B1 := Lib.hid (B1.out.on hst.out)
  replace B2 := Lib.hid (B2.out.on hst.out)
  replace B3 := Lib.hid (B3.out.on hst.out)
  replace B4 := Lib.hid (B4.out.on hst.out)
  replace HW := Lib.hid (below_on HW.out hst.out)
  clear hst
  go_cut [98] (fun s98 wx => s98 = .bool false ∧ Blk wx (w.heap.size) (.int .i64 al) (.int .i64 ah) ∧ Blk wx (w.heap.size + 1) (.int .i64 bl) (.int .i64 bh) ∧ Blk wx (y4.heap.size) (.int .i64 n1) (.int .i64 d1) ∧ Blk wx (y5.heap.size) (.int .i64 n2) (.int .i64 d2) ∧ Blk wx (y6.heap.size) (.int .i64 n3) (.int .i64 d3) ∧ Blk wx (y7.heap.size) (.int .i64 n4) (.int .i64 d4) ∧ Below w.heap.size w wx)
  case first =>
    rcases h1 with ⟨rfl, I1⟩ | rfl <;> rcases h2 with ⟨rfl, I2⟩ | rfl
    · obtain ⟨_, B2p, B2q⟩ := B2.out
      go_wp2_with fail
      (with_reducible refine ((I1 _).out).mono ?_)
      rintro e y9 ⟨rfl, hb⟩
      clear B2p B2q
      have hst := Lib.hid hb
      clear hb
      replace B0 := Lib.hid (B0.out.on hst.out)
      replace B1 := Lib.hid (B1.out.on hst.out)
      replace B2 := Lib.hid (B2.out.on hst.out)
      replace B3 := Lib.hid (B3.out.on hst.out)
      replace B4 := Lib.hid (B4.out.on hst.out)
      replace B5 := Lib.hid (B5.out.on hst.out)
      replace HW := Lib.hid (below_on HW.out hst.out)
      clear hst
      obtain ⟨_, B3p, B3q⟩ := B3.out
      go_wp2_with fail
      (with_reducible refine ((I2 _).out).mono ?_)
      rintro e y10 ⟨rfl, hb⟩
      clear B3p B3q
      have hst := Lib.hid hb
      clear hb
      replace B0 := Lib.hid (B0.out.on hst.out)
      replace B1 := Lib.hid (B1.out.on hst.out)
      replace B2 := Lib.hid (B2.out.on hst.out)
      replace B3 := Lib.hid (B3.out.on hst.out)
      replace B4 := Lib.hid (B4.out.on hst.out)
      replace B5 := Lib.hid (B5.out.on hst.out)
      replace HW := Lib.hid (below_on HW.out hst.out)
      clear hst
      go_wp2_with fail
      go_meet
      exact ⟨rfl, B0.out, B1.out, B2.out, B3.out, B4.out, B5.out, HW.out⟩
    · obtain ⟨_, B2p, B2q⟩ := B2.out
      go_wp2_with fail
      (with_reducible refine ((I1 _).out).mono ?_)
      rintro e y11 ⟨rfl, hb⟩
      clear B2p B2q
      have hst := Lib.hid hb
      clear hb
      replace B0 := Lib.hid (B0.out.on hst.out)
      replace B1 := Lib.hid (B1.out.on hst.out)
      replace B2 := Lib.hid (B2.out.on hst.out)
      replace B3 := Lib.hid (B3.out.on hst.out)
      replace B4 := Lib.hid (B4.out.on hst.out)
      replace B5 := Lib.hid (B5.out.on hst.out)
      replace HW := Lib.hid (below_on HW.out hst.out)
      clear hst
      go_wp2_with fail
      go_meet
      exact ⟨rfl, B0.out, B1.out, B2.out, B3.out, B4.out, B5.out, HW.out⟩
    · obtain ⟨_, B3p, B3q⟩ := B3.out
      go_wp2_with fail
      (with_reducible refine ((I2 _).out).mono ?_)
      rintro e y12 ⟨rfl, hb⟩
      clear B3p B3q
      have hst := Lib.hid hb
      clear hb
      replace B0 := Lib.hid (B0.out.on hst.out)
      replace B1 := Lib.hid (B1.out.on hst.out)
      replace B2 := Lib.hid (B2.out.on hst.out)
      replace B3 := Lib.hid (B3.out.on hst.out)
      replace B4 := Lib.hid (B4.out.on hst.out)
      replace B5 := Lib.hid (B5.out.on hst.out)
      replace HW := Lib.hid (below_on HW.out hst.out)
      clear hst
      go_wp2_with fail
      go_meet
      exact ⟨rfl, B0.out, B1.out, B2.out, B3.out, B4.out, B5.out, HW.out⟩
    · go_wp2_with fail
      go_meet
      exact ⟨rfl, B0.out, B1.out, B2.out, B3.out, B4.out, B5.out, HW.out⟩
  case rest =>
  clear B0 B1 B2 B3 B4 B5 HW
  rename World => c110
  obtain ⟨rfl, kB0, kB1, kB2, kB3, kB4, kB5, hb⟩ := hcut
  have B0 := Lib.hid kB0
  have B1 := Lib.hid kB1
  have B2 := Lib.hid kB2
  have B3 := Lib.hid kB3
  have B4 := Lib.hid kB4
  have B5 := Lib.hid kB5
  have HW := Lib.hid hb
  clear hb kB0 kB1 kB2 kB3 kB4 kB5
  clear h1 h2
  go_wp2_with fail
  (with_reducible refine ((PT _).out).mono ?_)
  rintro e y13 ⟨rfl, hb⟩
  have hst := Lib.hid hb
  clear hb
  replace B0 := Lib.hid (B0.out.on hst.out)
  replace B1 := Lib.hid (B1.out.on hst.out)
  replace B2 := Lib.hid (B2.out.on hst.out)
  replace B3 := Lib.hid (B3.out.on hst.out)
  replace B4 := Lib.hid (B4.out.on hst.out)
  replace B5 := Lib.hid (B5.out.on hst.out)
  replace HW := Lib.hid (below_on HW.out hst.out)
  clear hst
  obtain ⟨_, B4p, B4q⟩ := B4.out
  go_wp2_with fail
  (with_reducible refine ((I3 _).out).mono ?_)
  rintro e y14 ⟨rfl, hb⟩
  clear B4p B4q
  have hst := Lib.hid hb
  clear hb
  replace B0 := Lib.hid (B0.out.on hst.out)
  replace B1 := Lib.hid (B1.out.on hst.out)
  replace B2 := Lib.hid (B2.out.on hst.out)
  replace B3 := Lib.hid (B3.out.on hst.out)
  replace B4 := Lib.hid (B4.out.on hst.out)
  replace B5 := Lib.hid (B5.out.on hst.out)
  replace HW := Lib.hid (below_on HW.out hst.out)
  clear hst
  obtain ⟨_, B1p, B1q⟩ := B1.out
  go_wp2_with fail
  (with_reducible refine ((HZ _).out).mono ?_)
  rintro e y15 ⟨rfl, hb⟩
  clear B1p B1q
  have hst := Lib.hid hb
  clear hb
  replace B0 := Lib.hid (B0.out.on hst.out)
  replace B1 := Lib.hid (B1.out.on hst.out)
  replace B2 := Lib.hid (B2.out.on hst.out)
  replace B3 := Lib.hid (B3.out.on hst.out)
  replace B4 := Lib.hid (B4.out.on hst.out)
  replace B5 := Lib.hid (B5.out.on hst.out)
  replace HW := Lib.hid (below_on HW.out hst.out)
  clear hst
  go_wp2_with fail
  refine wp_region_each (fun L A W => ∃ (v : Nat → Value) (g : Nat → Nat), A = ⟨#[.agg #[.int .i64 al, .int .i64 ah], .agg #[.int .i64 bl, .int .i64 bh], .int .u64 i, .int .u64 j, .pointer (some ⟨w.heap.size, 0, none⟩), .pointer (some ⟨w.heap.size + 1, 0, none⟩), undef, undef, v 8, .int .i64 x, .int .i64 y, .pointer (some ⟨y4.heap.size, 0, none⟩), .int .i64 e1, .pointer (some ⟨y5.heap.size, 0, none⟩), .int .i64 e2, .pointer (some ⟨y6.heap.size, 0, none⟩), .int .i64 0, .pointer (some ⟨y7.heap.size, 0, none⟩), .int .i64 0, .int .i64 p, .bool true, u21, u22, u23, u24, u25, u26, u27, u28, u29, u30, u31, u32, u33, u34, u35, u36, u37, u38, u39, u40, u41, u42, u43, u44, u45, u46, u47, u48, u49, u50, u51, u52, u53, u54, u55, u56, u57, u58, u59, u60, u61, u62, u63, u64, u65, u66, u67, u68, u69, u70, u71, u72, u73, u74, u75, u76, u77, u78, u79, u80, u81, u82, u83, u84, u85, u86, u87, u88, u89, u90, u91, u92, u93, u94, u95, u96, u97, .bool false, .int .i64 0, .bool true, .tuple #[.int .i64 p, .bool true], .int .i64 x, .int .i64 y, .tuple #[.int .i64 p, .bool true], .int .i64 p, .bool true, .bool true, .bool false, .bool false, .agg #[.int .i64 n3, .int .i64 d3], .int .i64 p, .bool true, .bool false, .bool false, u115, u116, .agg #[.int .i64 bl, .int .i64 bh], .bool false, u119, u120, v 121, v 122, v 123, v 124, v 125, v 126, v 127, v 128, v 129, v 130, v 131, v 132, v 133, v 134, v 135, v 136, v 137, v 138], []⟩ ∧ In1020R w al ah bl bh i j x y n1 d1 e1 n2 d2 e2 n3 d3 e3 n4 d4 e4 r1 r2 y7 y15 L v g W) (by kernel_rfl) (by kernel_rfl) ⟨fun jz => if jz = 121 then u121 else if jz = 122 then u122 else if jz = 123 then u123 else if jz = 124 then u124 else if jz = 125 then u125 else if jz = 126 then u126 else if jz = 127 then u127 else if jz = 128 then u128 else if jz = 129 then u129 else if jz = 130 then u130 else if jz = 131 then u131 else if jz = 132 then u132 else if jz = 133 then u133 else if jz = 134 then u134 else if jz = 135 then u135 else if jz = 136 then u136 else if jz = 137 then u137 else if jz = 138 then u138 else if jz = 8 then .bool false else undef, fun _ => 0, rfl, ⟨Below.drew (Below.refl _ _), Had.none, Had.none, Had.none, Had.none, Had.none, Had.none, Had.none, Had.none, Had.none, Had.none, Had.none, Had.none, Had.none, Had.none, Had.none, Had.none, Had.none, Had.none, Had.none⟩⟩ (rs := [0, 1, 2, 3, 4, 5, 6, 7, 8, 9, 10, 11, 12, 13, 14, 15, 16, 17, 18]) (by kernel_rfl) ?_ ?_
  · refine EachOf.cons [] rfl (by kernel_rfl) ?_ ?_
    · rintro L A W ⟨v, g, rfl, hR⟩ hi hw K hK
      go_simp
      refine hK.out _ _ ?_
      exact ⟨(fun jz => if jz = 121 then .int .i64 0 else v jz), g, rfl, ⟨hR.st, (fun _ => rfl), hR.f1.keep rfl, hR.f2.keep rfl, hR.f3.keep rfl, hR.f4.keep rfl, hR.f5.keep rfl, hR.f6.keep rfl, hR.f7.keep rfl, hR.f8.keep rfl, hR.f9.keep rfl, hR.f10.keep rfl, hR.f11.keep rfl, hR.f12.keep rfl, hR.f13.keep rfl, hR.f14.keep rfl, hR.f15.keep rfl, hR.f16.keep rfl, hR.f17.keep rfl, hR.f18.keep rfl⟩⟩
    refine EachOf.cons [0] rfl (by kernel_rfl) ?_ ?_
    · rintro L A W ⟨v, g, rfl, hR⟩ hi hw K hK
      have e0 := hR.f0 (hw 0 (by simp))
      simp only [e0]
      clear e0
      go_simp
      refine hK.out _ _ ?_
      exact ⟨(fun jz => if jz = 121 then .int .i64 0 else if jz = 122 then .bool true else v jz), g, rfl, ⟨hR.st, (fun _ => rfl), (fun _ => rfl), hR.f2.keep rfl, hR.f3.keep rfl, hR.f4.keep rfl, hR.f5.keep rfl, hR.f6.keep rfl, hR.f7.keep rfl, hR.f8.keep rfl, hR.f9.keep rfl, hR.f10.keep rfl, hR.f11.keep rfl, hR.f12.keep rfl, hR.f13.keep rfl, hR.f14.keep rfl, hR.f15.keep rfl, hR.f16.keep rfl, hR.f17.keep rfl, hR.f18.keep rfl⟩⟩
    refine EachOf.cons [1] rfl (by kernel_rfl) ?_ ?_
    · rintro L A W ⟨v, g, rfl, hR⟩ hi hw K hK
      have e1 := hR.f1 (hw 1 (by simp))
      simp only [e1]
      clear e1
      go_simp
      refine hK.out _ _ ?_
      exact ⟨(fun jz => if jz = 122 then .bool true else if jz = 123 then .bool true else v jz), g, rfl, ⟨hR.st, hR.f0.keep rfl, (fun _ => rfl), (fun _ => rfl), hR.f3.keep rfl, hR.f4.keep rfl, hR.f5.keep rfl, hR.f6.keep rfl, hR.f7.keep rfl, hR.f8.keep rfl, hR.f9.keep rfl, hR.f10.keep rfl, hR.f11.keep rfl, hR.f12.keep rfl, hR.f13.keep rfl, hR.f14.keep rfl, hR.f15.keep rfl, hR.f16.keep rfl, hR.f17.keep rfl, hR.f18.keep rfl⟩⟩
    refine EachOf.cons [2] rfl (by kernel_rfl) ?_ ?_
    · rintro L A W ⟨v, g, rfl, hR⟩ hi hw K hK
      have e2 := hR.f2 (hw 2 (by simp))
      simp only [e2]
      clear e2
      go_simp
      refine hK.out _ _ ?_
      exact ⟨(fun jz => if jz = 123 then .bool true else if jz = 124 then .pointer (some ⟨y7.heap.size, 0, none⟩) else v jz), g, rfl, ⟨hR.st, hR.f0.keep rfl, hR.f1.keep rfl, (fun _ => rfl), (fun _ => rfl), hR.f4.keep rfl, hR.f5.keep rfl, hR.f6.keep rfl, hR.f7.keep rfl, hR.f8.keep rfl, hR.f9.keep rfl, hR.f10.keep rfl, hR.f11.keep rfl, hR.f12.keep rfl, hR.f13.keep rfl, hR.f14.keep rfl, hR.f15.keep rfl, hR.f16.keep rfl, hR.f17.keep rfl, hR.f18.keep rfl⟩⟩
    refine EachOf.cons [3, 2] rfl (by kernel_rfl) ?_ ?_
    · rintro L A W ⟨v, g, rfl, hR⟩ hi hw K hK
      have e3 := hR.f3 (hw 3 (by simp))
      have e2 := hR.f2 (hw 2 (by simp))
      simp only [e3, e2]
      clear e3 e2
      obtain ⟨_, q0, q1⟩ := B5.out.on hR.st
      go_simp
      refine hK.out _ _ ?_
      exact ⟨(fun jz => if jz = 124 then .pointer (some ⟨y7.heap.size, 0, none⟩) else if jz = 123 then .bool true else if jz = 125 then .int .i64 n4 else v jz), g, rfl, ⟨hR.st, hR.f0.keep rfl, hR.f1.keep rfl, (fun _ => rfl), (fun _ => rfl), (fun _ => rfl), hR.f5.keep rfl, hR.f6.keep rfl, hR.f7.keep rfl, hR.f8.keep rfl, hR.f9.keep rfl, hR.f10.keep rfl, hR.f11.keep rfl, hR.f12.keep rfl, hR.f13.keep rfl, hR.f14.keep rfl, hR.f15.keep rfl, hR.f16.keep rfl, hR.f17.keep rfl, hR.f18.keep rfl⟩⟩
    refine EachOf.cons [2] rfl (by kernel_rfl) ?_ ?_
    · rintro L A W ⟨v, g, rfl, hR⟩ hi hw K hK
      have e2 := hR.f2 (hw 2 (by simp))
      simp only [e2]
      clear e2
      go_simp
      refine hK.out _ _ ?_
      exact ⟨(fun jz => if jz = 123 then .bool true else if jz = 126 then .int .i64 x else v jz), g, rfl, ⟨hR.st, hR.f0.keep rfl, hR.f1.keep rfl, (fun _ => rfl), hR.f3.keep rfl, hR.f4.keep rfl, (fun _ => rfl), hR.f6.keep rfl, hR.f7.keep rfl, hR.f8.keep rfl, hR.f9.keep rfl, hR.f10.keep rfl, hR.f11.keep rfl, hR.f12.keep rfl, hR.f13.keep rfl, hR.f14.keep rfl, hR.f15.keep rfl, hR.f16.keep rfl, hR.f17.keep rfl, hR.f18.keep rfl⟩⟩
    refine EachOf.cons [2] rfl (by kernel_rfl) ?_ ?_
    · rintro L A W ⟨v, g, rfl, hR⟩ hi hw K hK
      have e2 := hR.f2 (hw 2 (by simp))
      simp only [e2]
      clear e2
      go_simp
      refine hK.out _ _ ?_
      exact ⟨(fun jz => if jz = 123 then .bool true else if jz = 127 then .int .i64 y else v jz), g, rfl, ⟨hR.st, hR.f0.keep rfl, hR.f1.keep rfl, (fun _ => rfl), hR.f3.keep rfl, hR.f4.keep rfl, hR.f5.keep rfl, (fun _ => rfl), hR.f7.keep rfl, hR.f8.keep rfl, hR.f9.keep rfl, hR.f10.keep rfl, hR.f11.keep rfl, hR.f12.keep rfl, hR.f13.keep rfl, hR.f14.keep rfl, hR.f15.keep rfl, hR.f16.keep rfl, hR.f17.keep rfl, hR.f18.keep rfl⟩⟩
    refine EachOf.cons [5, 6, 2] rfl (by kernel_rfl) ?_ ?_
    · rintro L A W ⟨v, g, rfl, hR⟩ hi hw K hK
      have e5 := hR.f5 (hw 5 (by simp))
      have e6 := hR.f6 (hw 6 (by simp))
      have e2 := hR.f2 (hw 2 (by simp))
      simp only [e5, e6, e2]
      clear e5 e6 e2
      go_simp
      go_at_call 37
      (with_reducible refine ((FL _).out).mono ?_)
      rintro e w2 ⟨rfl, hb⟩
      go_simp
      refine hK.out _ _ ?_
      exact ⟨(fun jz => if jz = 126 then .int .i64 x else if jz = 127 then .int .i64 y else if jz = 123 then .bool true else if jz = 128 then .int .i64 r1 else v jz), g, rfl, ⟨below_on hR.st hb, hR.f0.keep rfl, hR.f1.keep rfl, (fun _ => rfl), hR.f3.keep rfl, hR.f4.keep rfl, (fun _ => rfl), (fun _ => rfl), (fun _ => rfl), hR.f8.keep rfl, hR.f9.keep rfl, hR.f10.keep rfl, hR.f11.keep rfl, hR.f12.keep rfl, hR.f13.keep rfl, hR.f14.keep rfl, hR.f15.keep rfl, hR.f16.keep rfl, hR.f17.keep rfl, hR.f18.keep rfl⟩⟩
    refine EachOf.cons [4, 7, 2] rfl (by kernel_rfl) ?_ ?_
    · rintro L A W ⟨v, g, rfl, hR⟩ hi hw K hK
      have e4 := hR.f4 (hw 4 (by simp))
      have e7 := hR.f7 (hw 7 (by simp))
      have e2 := hR.f2 (hw 2 (by simp))
      simp only [e4, e7, e2]
      clear e4 e7 e2
      go_simp
      refine hK.out _ _ ?_
      exact ⟨(fun jz => if jz = 125 then .int .i64 n4 else if jz = 128 then .int .i64 r1 else if jz = 123 then .bool true else if jz = 129 then .bool true else v jz), g, rfl, ⟨hR.st, hR.f0.keep rfl, hR.f1.keep rfl, (fun _ => rfl), hR.f3.keep rfl, (fun _ => rfl), hR.f5.keep rfl, hR.f6.keep rfl, (fun _ => rfl), (fun _ => rfl), hR.f9.keep rfl, hR.f10.keep rfl, hR.f11.keep rfl, hR.f12.keep rfl, hR.f13.keep rfl, hR.f14.keep rfl, hR.f15.keep rfl, hR.f16.keep rfl, hR.f17.keep rfl, hR.f18.keep rfl⟩⟩
    refine EachOf.cons [2, 8] rfl (by kernel_rfl) ?_ ?_
    · rintro L A W ⟨v, g, rfl, hR⟩ hi hw K hK
      have e2 := hR.f2 (hw 2 (by simp))
      have e8 := hR.f8 (hw 8 (by simp))
      simp only [e2, e8]
      clear e2 e8
      go_simp
      refine hK.out _ _ ?_
      exact ⟨(fun jz => if jz = 123 then .bool true else if jz = 129 then .bool true else if jz = 130 then .bool true else v jz), g, rfl, ⟨hR.st, hR.f0.keep rfl, hR.f1.keep rfl, (fun _ => rfl), hR.f3.keep rfl, hR.f4.keep rfl, hR.f5.keep rfl, hR.f6.keep rfl, hR.f7.keep rfl, (fun _ => rfl), (fun _ => rfl), hR.f10.keep rfl, hR.f11.keep rfl, hR.f12.keep rfl, hR.f13.keep rfl, hR.f14.keep rfl, hR.f15.keep rfl, hR.f16.keep rfl, hR.f17.keep rfl, hR.f18.keep rfl⟩⟩
    refine EachOf.cons [9] rfl (by kernel_rfl) ?_ ?_
    · rintro L A W ⟨v, g, rfl, hR⟩ hi hw K hK
      have e9 := hR.f9 (hw 9 (by simp))
      simp only [e9]
      clear e9
      go_simp
      refine hK.out _ _ ?_
      exact ⟨(fun jz => if jz = 130 then .bool true else if jz = 131 then .bool true else v jz), g, rfl, ⟨hR.st, hR.f0.keep rfl, hR.f1.keep rfl, hR.f2.keep rfl, hR.f3.keep rfl, hR.f4.keep rfl, hR.f5.keep rfl, hR.f6.keep rfl, hR.f7.keep rfl, hR.f8.keep rfl, (fun _ => rfl), (fun _ => rfl), hR.f11.keep rfl, hR.f12.keep rfl, hR.f13.keep rfl, hR.f14.keep rfl, hR.f15.keep rfl, hR.f16.keep rfl, hR.f17.keep rfl, hR.f18.keep rfl⟩⟩
    refine EachOf.cons [10] rfl (by kernel_rfl) ?_ ?_
    · rintro L A W ⟨v, g, rfl, hR⟩ hi hw K hK
      have e10 := hR.f10 (hw 10 (by simp))
      simp only [e10]
      clear e10
      go_simp
      refine hK.out _ _ ?_
      exact ⟨(fun jz => if jz = 131 then .bool true else if jz = 132 then .int .i64 x else v jz), g, rfl, ⟨hR.st, hR.f0.keep rfl, hR.f1.keep rfl, hR.f2.keep rfl, hR.f3.keep rfl, hR.f4.keep rfl, hR.f5.keep rfl, hR.f6.keep rfl, hR.f7.keep rfl, hR.f8.keep rfl, hR.f9.keep rfl, (fun _ => rfl), (fun _ => rfl), hR.f12.keep rfl, hR.f13.keep rfl, hR.f14.keep rfl, hR.f15.keep rfl, hR.f16.keep rfl, hR.f17.keep rfl, hR.f18.keep rfl⟩⟩
    refine EachOf.cons [10] rfl (by kernel_rfl) ?_ ?_
    · rintro L A W ⟨v, g, rfl, hR⟩ hi hw K hK
      have e10 := hR.f10 (hw 10 (by simp))
      simp only [e10]
      clear e10
      go_simp
      refine hK.out _ _ ?_
      exact ⟨(fun jz => if jz = 131 then .bool true else if jz = 133 then .int .i64 y else v jz), g, rfl, ⟨hR.st, hR.f0.keep rfl, hR.f1.keep rfl, hR.f2.keep rfl, hR.f3.keep rfl, hR.f4.keep rfl, hR.f5.keep rfl, hR.f6.keep rfl, hR.f7.keep rfl, hR.f8.keep rfl, hR.f9.keep rfl, (fun _ => rfl), hR.f11.keep rfl, (fun _ => rfl), hR.f13.keep rfl, hR.f14.keep rfl, hR.f15.keep rfl, hR.f16.keep rfl, hR.f17.keep rfl, hR.f18.keep rfl⟩⟩
    refine EachOf.cons [11, 12, 10] rfl (by kernel_rfl) ?_ ?_
    · rintro L A W ⟨v, g, rfl, hR⟩ hi hw K hK
      have e11 := hR.f11 (hw 11 (by simp))
      have e12 := hR.f12 (hw 12 (by simp))
      have e10 := hR.f10 (hw 10 (by simp))
      simp only [e11, e12, e10]
      clear e11 e12 e10
      go_simp
      go_at_call 38
      (with_reducible refine ((CE _).out).mono ?_)
      rintro e w2 ⟨rfl, hb⟩
      go_simp
      refine hK.out _ _ ?_
      exact ⟨(fun jz => if jz = 132 then .int .i64 x else if jz = 133 then .int .i64 y else if jz = 131 then .bool true else if jz = 134 then .int .i64 r2 else v jz), g, rfl, ⟨below_on hR.st hb, hR.f0.keep rfl, hR.f1.keep rfl, hR.f2.keep rfl, hR.f3.keep rfl, hR.f4.keep rfl, hR.f5.keep rfl, hR.f6.keep rfl, hR.f7.keep rfl, hR.f8.keep rfl, hR.f9.keep rfl, (fun _ => rfl), (fun _ => rfl), (fun _ => rfl), (fun _ => rfl), hR.f14.keep rfl, hR.f15.keep rfl, hR.f16.keep rfl, hR.f17.keep rfl, hR.f18.keep rfl⟩⟩
    refine EachOf.cons [10] rfl (by kernel_rfl) ?_ ?_
    · rintro L A W ⟨v, g, rfl, hR⟩ hi hw K hK
      have e10 := hR.f10 (hw 10 (by simp))
      simp only [e10]
      clear e10
      go_simp
      refine hK.out _ _ ?_
      exact ⟨(fun jz => if jz = 131 then .bool true else if jz = 135 then .pointer (some ⟨y7.heap.size, 1, none⟩) else v jz), g, rfl, ⟨hR.st, hR.f0.keep rfl, hR.f1.keep rfl, hR.f2.keep rfl, hR.f3.keep rfl, hR.f4.keep rfl, hR.f5.keep rfl, hR.f6.keep rfl, hR.f7.keep rfl, hR.f8.keep rfl, hR.f9.keep rfl, (fun _ => rfl), hR.f11.keep rfl, hR.f12.keep rfl, hR.f13.keep rfl, (fun _ => rfl), hR.f15.keep rfl, hR.f16.keep rfl, hR.f17.keep rfl, hR.f18.keep rfl⟩⟩
    refine EachOf.cons [14, 10] rfl (by kernel_rfl) ?_ ?_
    · rintro L A W ⟨v, g, rfl, hR⟩ hi hw K hK
      have e14 := hR.f14 (hw 14 (by simp))
      have e10 := hR.f10 (hw 10 (by simp))
      simp only [e14, e10]
      clear e14 e10
      obtain ⟨_, q0, q1⟩ := B5.out.on hR.st
      go_simp
      refine hK.out _ _ ?_
      exact ⟨(fun jz => if jz = 135 then .pointer (some ⟨y7.heap.size, 1, none⟩) else if jz = 131 then .bool true else if jz = 136 then .int .i64 d4 else v jz), g, rfl, ⟨hR.st, hR.f0.keep rfl, hR.f1.keep rfl, hR.f2.keep rfl, hR.f3.keep rfl, hR.f4.keep rfl, hR.f5.keep rfl, hR.f6.keep rfl, hR.f7.keep rfl, hR.f8.keep rfl, hR.f9.keep rfl, (fun _ => rfl), hR.f11.keep rfl, hR.f12.keep rfl, hR.f13.keep rfl, (fun _ => rfl), (fun _ => rfl), hR.f16.keep rfl, hR.f17.keep rfl, hR.f18.keep rfl⟩⟩
    refine EachOf.cons [13, 15, 10] rfl (by kernel_rfl) ?_ ?_
    · rintro L A W ⟨v, g, rfl, hR⟩ hi hw K hK
      have e13 := hR.f13 (hw 13 (by simp))
      have e15 := hR.f15 (hw 15 (by simp))
      have e10 := hR.f10 (hw 10 (by simp))
      simp only [e13, e15, e10]
      clear e13 e15 e10
      go_simp
      refine hK.out _ _ ?_
      exact ⟨(fun jz => if jz = 134 then .int .i64 r2 else if jz = 136 then .int .i64 d4 else if jz = 131 then .bool true else if jz = 137 then .bool true else v jz), g, rfl, ⟨hR.st, hR.f0.keep rfl, hR.f1.keep rfl, hR.f2.keep rfl, hR.f3.keep rfl, hR.f4.keep rfl, hR.f5.keep rfl, hR.f6.keep rfl, hR.f7.keep rfl, hR.f8.keep rfl, hR.f9.keep rfl, (fun _ => rfl), hR.f11.keep rfl, hR.f12.keep rfl, (fun _ => rfl), hR.f14.keep rfl, (fun _ => rfl), (fun _ => rfl), hR.f17.keep rfl, hR.f18.keep rfl⟩⟩
    refine EachOf.cons [10, 16] rfl (by kernel_rfl) ?_ ?_
    · rintro L A W ⟨v, g, rfl, hR⟩ hi hw K hK
      have e10 := hR.f10 (hw 10 (by simp))
      have e16 := hR.f16 (hw 16 (by simp))
      simp only [e10, e16]
      clear e10 e16
      go_simp
      refine hK.out _ _ ?_
      exact ⟨(fun jz => if jz = 131 then .bool true else if jz = 137 then .bool true else if jz = 138 then .bool true else v jz), g, rfl, ⟨hR.st, hR.f0.keep rfl, hR.f1.keep rfl, hR.f2.keep rfl, hR.f3.keep rfl, hR.f4.keep rfl, hR.f5.keep rfl, hR.f6.keep rfl, hR.f7.keep rfl, hR.f8.keep rfl, hR.f9.keep rfl, (fun _ => rfl), hR.f11.keep rfl, hR.f12.keep rfl, hR.f13.keep rfl, hR.f14.keep rfl, hR.f15.keep rfl, (fun _ => rfl), (fun _ => rfl), hR.f18.keep rfl⟩⟩
    refine EachOf.cons [17] rfl (by kernel_rfl) ?_ ?_
    · rintro L A W ⟨v, g, rfl, hR⟩ hi hw K hK
      have e17 := hR.f17 (hw 17 (by simp))
      simp only [e17]
      clear e17
      go_simp
      refine hK.out _ _ ?_
      exact ⟨(fun jz => if jz = 138 then .bool true else if jz = 8 then .bool true else v jz), g, rfl, ⟨hR.st, hR.f0.keep rfl, hR.f1.keep rfl, hR.f2.keep rfl, hR.f3.keep rfl, hR.f4.keep rfl, hR.f5.keep rfl, hR.f6.keep rfl, hR.f7.keep rfl, hR.f8.keep rfl, hR.f9.keep rfl, hR.f10.keep rfl, hR.f11.keep rfl, hR.f12.keep rfl, hR.f13.keep rfl, hR.f14.keep rfl, hR.f15.keep rfl, hR.f16.keep rfl, (fun _ => rfl), (fun _ => rfl)⟩⟩
    exact EachOf.nil
  rintro L A W2 ⟨v2, g2, rfl, hR⟩ hL
  have e18 := hR.f18 (hL 18 (by simp))
  have hst := Lib.hid hR.st
  simp only [e18]
  clear e18
  clear hR hL
  replace B0 := Lib.hid (B0.out.on hst.out)
  replace B1 := Lib.hid (B1.out.on hst.out)
  replace B2 := Lib.hid (B2.out.on hst.out)
  replace B3 := Lib.hid (B3.out.on hst.out)
  replace B4 := Lib.hid (B4.out.on hst.out)
  replace B5 := Lib.hid (B5.out.on hst.out)
  replace HW := Lib.hid (below_on HW.out hst.out)
  go_wp2_with fail
  go_ret
  exact ⟨rfl, HW.out⟩

structure In115R (w : World) (al ah bl bh i j x y n1 d1 e1 n2 d2 e2 n3 d3 e3 n4 d4 e4 r1 r2 : Int) (Wc : World) (L : Nat → Bool) (v : Nat → Value) (g : Nat → Nat) (W : World) : Prop where
  st : Below Wc.heap.size Wc W
  f0 : Had L 0 (v 31 = .agg #[.int .i64 al, .int .i64 ah])
  f1 : Had L 1 (v 32 = .int .u64 i)
  f2 : Had L 2 (v 33 = .int .i64 x)
  f3 : Had L 3 (v 34 = .agg #[.int .i64 bl, .int .i64 bh])
  f4 : Had L 4 (v 35 = .int .u64 j)
  f5 : Had L 5 (v 36 = .int .i64 y)
  f6 : Had L 6 (v 9 = .int .i64 x)
  f7 : Had L 7 (v 10 = .int .i64 y)

set_option maxRecDepth 100000 in
set_option maxHeartbeats 16000000 in
theorem inside_FZ (al ah bl bh i j n3 d3 : Int) (w : World) (va : SVd al ah) (vb : SVd bl bh) (i0 : 0 ≤ i) (i1 : i < 18446744073709551616) (j0 : 0 ≤ j) (j1 : j < 18446744073709551616) (hm : mul4 (al * bl) (al * bh) (ah * bl) (ah * bh) = (n3, d3, 0)) (hz : (bl ≤ 0 ∧ 0 ≤ bh)) :
    Calls Try.prog 6 #[.agg #[.int .i64 al, .int .i64 ah], .agg #[.int .i64 bl, .int .i64 bh], .int .u64 i, .int .u64 j] w fun e w' => e = .returned (.bool true) ∧ Below w.heap.size w w' := by
  have ha := sV_yes va
  have hb := sV_yes vb
  have VA := fun w => Lib.hid (rsValid_any al ah w)
  have VB := fun w => Lib.hid (rsValid_any bl bh w)
  simp only [ha] at VA
  simp only [hb] at VB
  have A1 := fun w => Lib.hid (at_any al ah i w va i0 i1)
  have A2 := fun w => Lib.hid (at_any bl bh j w vb j0 j1)
  obtain ⟨x0, x1⟩ := atV_bd va.m i
  obtain ⟨y0, y1⟩ := atV_bd vb.m j
  obtain ⟨x, hx⟩ : ∃ x, atV al ah i = x := ⟨_, rfl⟩
  obtain ⟨y, hy⟩ : ∃ x, atV bl bh j = x := ⟨_, rfl⟩
  rw [hx] at x0 x1
  rw [hy] at y0 y1
  simp only [hx] at A1
  simp only [hy] at A2
  clear hx hy
  have va' := va; have vb' := vb
  obtain ⟨va1, va2, va3⟩ := va'
  obtain ⟨vb1, vb2, vb3⟩ := vb'
  obtain ⟨n1, d1, e1, g1⟩ : ∃ a b c, sAdd al ah bl bh = (a, b, c) := ⟨_, _, _, rfl⟩
  obtain ⟨n2, d2, e2, g2⟩ : ∃ a b c, sSub al ah bl bh = (a, b, c) := ⟨_, _, _, rfl⟩
  have C1 := fun w => Lib.hid (sAdd_any al ah bl bh w (by omega) (by omega) (by omega) (by omega) (by omega) (by omega) (by omega) (by omega) n1 d1 e1 g1)
  have C2 := fun w => Lib.hid (sSub_any al ah bl bh w (by omega) (by omega) (by omega) (by omega) (by omega) (by omega) (by omega) (by omega) n2 d2 e2 g2)
  have h1 : (0 = e1 ∧ ∀ w, Hid (Calls Try.prog 35 #[.agg #[.int .i64 n1, .int .i64 d1], .int .i64 (x + y)] w fun e w' => e = .returned (.bool true) ∧ Below w.heap.size w w')) ∨ 5 = e1 := by
    unfold sAdd at g1
    rw [okS_yes ha hb] at g1
    unfold fitS at g1
    split at g1
    · obtain ⟨q1, q2, q3⟩ := three g1
      exact .inl ⟨q3, fun w => has_yes _ _ _ w (by omega) (by omega)⟩
    · obtain ⟨q1, q2, q3⟩ := three g1
      exact .inr q3
  have h2 : (0 = e2 ∧ ∀ w, Hid (Calls Try.prog 35 #[.agg #[.int .i64 n2, .int .i64 d2], .int .i64 (x - y)] w fun e w' => e = .returned (.bool true) ∧ Below w.heap.size w w')) ∨ 5 = e2 := by
    unfold sSub at g2
    rw [okS_yes ha hb] at g2
    unfold fitS at g2
    split at g2
    · obtain ⟨q1, q2, q3⟩ := three g2
      exact .inl ⟨q3, fun w => has_yes _ _ _ w (by omega) (by omega)⟩
    · obtain ⟨q1, q2, q3⟩ := three g2
      exact .inr q3
  have C3 := fun w => Lib.hid (sMul_any al ah bl bh w (by omega) (by omega) (by omega) (by omega) (by omega) (by omega) (by omega) (by omega) n3 d3 0 (by unfold sMul; rw [okS_yes ha hb, mulS_eq]; exact hm))
  obtain ⟨m1, m2, m3, m4, m5, m6⟩ := mul4_ok hm
  obtain ⟨t1, t2⟩ := mul_bd4 x0 x1 y0 y1
  have hp : inM (x * y) := by unfold inM at *; omega
  have PT := fun w => Lib.hid (part_any x y 1 false w (by omega) (by omega) (by omega) (by omega) (by omega) (by omega) (by omega) (x * y) true (by
    have hq : ptV x y 1 false = x * y := by
      unfold ptV qN qC
      rw [if_neg (by simp), if_neg (by decide), show (((1 : Int).natAbs : Nat) : Int) = 1 by decide, Int.ediv_one]
    unfold ptT
    rw [hq]
    exact if_pos hp))
  have I3 := fun w => Lib.hid (has_yes n3 d3 (x * y) w (by omega) (by omega))
  obtain ⟨p, hpp⟩ : ∃ p, x * y = p := ⟨_, rfl⟩
  simp only [hpp] at PT I3
  clear m1 m2 m3 m4 m5 m6 t1 t2 hp hpp
  obtain ⟨n4, hn4⟩ : ∃ z : Int, 0 = z := ⟨_, rfl⟩
  obtain ⟨d4, hd4⟩ : ∃ z : Int, 0 = z := ⟨_, rfl⟩
  have C4 := fun w => Lib.hid (sDiv_any al ah bl bh w (by omega) (by omega) (by omega) (by omega) (by omega) (by omega) (by omega) (by omega) n4 d4 16 (by rw [← hn4, ← hd4]; unfold sDiv divS; rw [okS_yes ha hb, if_pos hz]))
  have HZ := fun w => Lib.hid (has_yes bl bh 0 w hz.1 hz.2)
  obtain ⟨r1, r2, _⟩ : ∃ a b : Int, True := ⟨0, 0, trivial⟩
  clear hn4 hd4
  obtain ⟨e3, he3⟩ : ∃ z : Int, 0 = z := ⟨_, rfl⟩
  obtain ⟨e4, he4⟩ : ∃ z : Int, 0 = z := ⟨_, rfl⟩
  have k0 : -2305843009213693952 ≤ x + y := by omega
  have k1 : x + y ≤ 2305843009213693952 := by omega
  have k2 : -2305843009213693952 ≤ x - y := by omega
  have k3 : x - y ≤ 2305843009213693952 := by omega
  have k4 : -1152921504606846976 ≤ x := by omega
  have k5 : x ≤ 1152921504606846976 := by omega
  have k6 : -1152921504606846976 ≤ y := by omega
  have k7 : y ≤ 1152921504606846976 := by omega
  clear he3 he4 ha hb va vb g1 g2 hm hz x0 x1 y0 y1 va1 va2 va3 vb1 vb2 vb3
  have HW := Lib.hid (Below.refl w.heap.size w)
  have AW := fun w => Lib.hid (sawake_any w)
  go_enter Try.func6, Try.ntmps6
  go_wp2_with fail
  (with_reducible refine ((AW _).out).mono ?_)
  rintro e y1 ⟨rfl, hb⟩
  have hst := Lib.hid (below_on (w := w) (by repeat' (first | (with_reducible exact Below.refl _ _) | (with_reducible assumption) | (with_reducible refine Below.alloc ?_ ?_ _) | (with_reducible refine below_drew ?_ _) | (with_reducible refine Below.drew ?_) | (with_reducible refine Below.setCell ?_ ?_ _) | go_size)) hb)
  have B0 : Hid (Blk y1 (w.heap.size) (.int .i64 al) (.int .i64 ah)) := Blk.on (W := ((w.alloc (Obj.cells #[Value.int .i64 al, Value.int .i64 ah] 23)).alloc (Obj.cells #[Value.int .i64 bl, Value.int .i64 bh] 23))) (by first | exact Blk.new _ _ _ _ | exact (Blk.new _ _ _ _).alloc _ | exact ((Blk.new _ _ _ _).alloc _).alloc _ | (have hn := Blk.new (w) (Value.int .i64 al) (Value.int .i64 ah) 23; simpa using hn)) hb
  have B1 : Hid (Blk y1 (w.heap.size + 1) (.int .i64 bl) (.int .i64 bh)) := Blk.on (W := ((w.alloc (Obj.cells #[Value.int .i64 al, Value.int .i64 ah] 23)).alloc (Obj.cells #[Value.int .i64 bl, Value.int .i64 bh] 23))) (by first | exact Blk.new _ _ _ _ | exact (Blk.new _ _ _ _).alloc _ | exact ((Blk.new _ _ _ _).alloc _).alloc _ | (have hn := Blk.new ((w.alloc (Obj.cells #[Value.int .i64 al, Value.int .i64 ah] 23))) (Value.int .i64 bl) (Value.int .i64 bh) 23; simpa using hn)) hb
  clear hb
  replace HW := Lib.hid (below_on HW.out hst.out)
  clear hst
  obtain ⟨_, B0p, B0q⟩ := B0.out
  go_wp2_with fail
  (with_reducible refine ((VA _).out).mono ?_)
  rintro e y2 ⟨rfl, hb⟩
  clear B0p B0q
  have hst := Lib.hid hb
  clear hb
  replace B0 := Lib.hid (B0.out.on hst.out)
  replace B1 := Lib.hid (B1.out.on hst.out)
  replace HW := Lib.hid (below_on HW.out hst.out)
  clear hst
  obtain ⟨_, B1p, B1q⟩ := B1.out
  go_wp2_with fail
  (with_reducible refine ((VB _).out).mono ?_)
  rintro e y3 ⟨rfl, hb⟩
  clear B1p B1q
  have hst := Lib.hid hb
  clear hb
  replace B0 := Lib.hid (B0.out.on hst.out)
  replace B1 := Lib.hid (B1.out.on hst.out)
  replace HW := Lib.hid (below_on HW.out hst.out)
  clear hst
  go_wp2_with fail
  refine wp_region_each (fun L A W => ∃ (v : Nat → Value) (g : Nat → Nat), A = ⟨#[.agg #[.int .i64 al, .int .i64 ah], .agg #[.int .i64 bl, .int .i64 bh], .int .u64 i, .int .u64 j, .pointer (some ⟨w.heap.size, 0, none⟩), .pointer (some ⟨w.heap.size + 1, 0, none⟩), undef, undef, .bool false, v 9, v 10, undef, undef, undef, undef, undef, undef, undef, undef, undef, undef, .bool true, .bool false, .agg #[.int .i64 al, .int .i64 ah], .bool true, .bool false, .bool false, .agg #[.int .i64 bl, .int .i64 bh], .bool true, .bool false, .bool false, v 31, v 32, v 33, v 34, v 35, v 36, undef, undef, undef, undef, undef, undef, undef, undef, undef, undef, undef, undef, undef, undef, undef, undef, undef, undef, undef, undef, undef, undef, undef, undef, undef, undef, undef, undef, undef, undef, undef, undef, undef, undef, undef, undef, undef, undef, undef, undef, undef, undef, undef, undef, undef, undef, undef, undef, undef, undef, undef, undef, undef, undef, undef, undef, undef, undef, undef, undef, undef, undef, undef, undef, undef, undef, undef, undef, undef, undef, undef, undef, undef, undef, undef, undef, undef, undef, undef, undef, undef, undef, undef, undef, undef, undef, undef, undef, undef, undef, undef, undef, undef, undef, undef, undef, undef, undef, undef, undef, undef, undef], []⟩ ∧ In115R w al ah bl bh i j x y n1 d1 e1 n2 d2 e2 n3 d3 e3 n4 d4 e4 r1 r2 y3 L v g W) (by kernel_rfl) (by kernel_rfl) ⟨fun _ => undef, fun _ => 0, rfl, ⟨Below.drew (Below.refl _ _), Had.none, Had.none, Had.none, Had.none, Had.none, Had.none, Had.none, Had.none⟩⟩ (rs := [0, 1, 2, 3, 4, 5, 6, 7]) (by kernel_rfl) ?_ ?_
  · refine EachOf.cons [] rfl (by kernel_rfl) ?_ ?_
    · rintro L A W ⟨v, g, rfl, hR⟩ hi hw K hK
      obtain ⟨_, q0, q1⟩ := B0.out.on hR.st
      go_simp
      refine hK.out _ _ ?_
      exact ⟨(fun jz => if jz = 31 then .agg #[.int .i64 al, .int .i64 ah] else v jz), g, rfl, ⟨hR.st, (fun _ => rfl), hR.f1.keep rfl, hR.f2.keep rfl, hR.f3.keep rfl, hR.f4.keep rfl, hR.f5.keep rfl, hR.f6.keep rfl, hR.f7.keep rfl⟩⟩
    refine EachOf.cons [] rfl (by kernel_rfl) ?_ ?_
    · rintro L A W ⟨v, g, rfl, hR⟩ hi hw K hK
      go_simp
      refine hK.out _ _ ?_
      exact ⟨(fun jz => if jz = 32 then .int .u64 i else v jz), g, rfl, ⟨hR.st, hR.f0.keep rfl, (fun _ => rfl), hR.f2.keep rfl, hR.f3.keep rfl, hR.f4.keep rfl, hR.f5.keep rfl, hR.f6.keep rfl, hR.f7.keep rfl⟩⟩
    refine EachOf.cons [0, 1] rfl (by kernel_rfl) ?_ ?_
    · rintro L A W ⟨v, g, rfl, hR⟩ hi hw K hK
      have e0 := hR.f0 (hw 0 (by simp))
      have e1 := hR.f1 (hw 1 (by simp))
      simp only [e0, e1]
      clear e0 e1
      go_simp
      go_at_call 34
      (with_reducible refine ((A1 _).out).mono ?_)
      rintro e w2 ⟨rfl, hb⟩
      go_simp
      refine hK.out _ _ ?_
      exact ⟨(fun jz => if jz = 31 then .agg #[.int .i64 al, .int .i64 ah] else if jz = 32 then .int .u64 i else if jz = 33 then .int .i64 x else v jz), g, rfl, ⟨below_on hR.st hb, (fun _ => rfl), (fun _ => rfl), (fun _ => rfl), hR.f3.keep rfl, hR.f4.keep rfl, hR.f5.keep rfl, hR.f6.keep rfl, hR.f7.keep rfl⟩⟩
    refine EachOf.cons [] rfl (by kernel_rfl) ?_ ?_
    · rintro L A W ⟨v, g, rfl, hR⟩ hi hw K hK
      obtain ⟨_, q0, q1⟩ := B1.out.on hR.st
      go_simp
      refine hK.out _ _ ?_
      exact ⟨(fun jz => if jz = 34 then .agg #[.int .i64 bl, .int .i64 bh] else v jz), g, rfl, ⟨hR.st, hR.f0.keep rfl, hR.f1.keep rfl, hR.f2.keep rfl, (fun _ => rfl), hR.f4.keep rfl, hR.f5.keep rfl, hR.f6.keep rfl, hR.f7.keep rfl⟩⟩
    refine EachOf.cons [] rfl (by kernel_rfl) ?_ ?_
    · rintro L A W ⟨v, g, rfl, hR⟩ hi hw K hK
      go_simp
      refine hK.out _ _ ?_
      exact ⟨(fun jz => if jz = 35 then .int .u64 j else v jz), g, rfl, ⟨hR.st, hR.f0.keep rfl, hR.f1.keep rfl, hR.f2.keep rfl, hR.f3.keep rfl, (fun _ => rfl), hR.f5.keep rfl, hR.f6.keep rfl, hR.f7.keep rfl⟩⟩
    refine EachOf.cons [3, 4] rfl (by kernel_rfl) ?_ ?_
    · rintro L A W ⟨v, g, rfl, hR⟩ hi hw K hK
      have e3 := hR.f3 (hw 3 (by simp))
      have e4 := hR.f4 (hw 4 (by simp))
      simp only [e3, e4]
      clear e3 e4
      go_simp
      go_at_call 34
      (with_reducible refine ((A2 _).out).mono ?_)
      rintro e w2 ⟨rfl, hb⟩
      go_simp
      refine hK.out _ _ ?_
      exact ⟨(fun jz => if jz = 34 then .agg #[.int .i64 bl, .int .i64 bh] else if jz = 35 then .int .u64 j else if jz = 36 then .int .i64 y else v jz), g, rfl, ⟨below_on hR.st hb, hR.f0.keep rfl, hR.f1.keep rfl, hR.f2.keep rfl, (fun _ => rfl), (fun _ => rfl), (fun _ => rfl), hR.f6.keep rfl, hR.f7.keep rfl⟩⟩
    refine EachOf.cons [2] rfl (by kernel_rfl) ?_ ?_
    · rintro L A W ⟨v, g, rfl, hR⟩ hi hw K hK
      have e2 := hR.f2 (hw 2 (by simp))
      simp only [e2]
      clear e2
      go_simp
      refine hK.out _ _ ?_
      exact ⟨(fun jz => if jz = 33 then .int .i64 x else if jz = 9 then .int .i64 x else v jz), g, rfl, ⟨hR.st, hR.f0.keep rfl, hR.f1.keep rfl, (fun _ => rfl), hR.f3.keep rfl, hR.f4.keep rfl, hR.f5.keep rfl, (fun _ => rfl), hR.f7.keep rfl⟩⟩
    refine EachOf.cons [5] rfl (by kernel_rfl) ?_ ?_
    · rintro L A W ⟨v, g, rfl, hR⟩ hi hw K hK
      have e5 := hR.f5 (hw 5 (by simp))
      simp only [e5]
      clear e5
      go_simp
      refine hK.out _ _ ?_
      exact ⟨(fun jz => if jz = 36 then .int .i64 y else if jz = 10 then .int .i64 y else v jz), g, rfl, ⟨hR.st, hR.f0.keep rfl, hR.f1.keep rfl, hR.f2.keep rfl, hR.f3.keep rfl, hR.f4.keep rfl, (fun _ => rfl), hR.f6.keep rfl, (fun _ => rfl)⟩⟩
    exact EachOf.nil
  rintro L A W1 ⟨v1, g1, rfl, hR⟩ hL
  have e6 := hR.f6 (hL 6 (by simp))
  have e7 := hR.f7 (hL 7 (by simp))
  have hst := Lib.hid hR.st
  simp only [e6, e7]
  clear e6 e7
  clear hR hL
  replace B0 := Lib.hid (B0.out.on hst.out)
  replace B1 := Lib.hid (B1.out.on hst.out)
  replace HW := Lib.hid (below_on HW.out hst.out)
  clear AW VA VB A1 A2
  obtain ⟨_, B0p, B0q⟩ := B0.out
  obtain ⟨_, B1p, B1q⟩ := B1.out
  go_wp2_with fail
  (with_reducible refine ((C1 _).out).mono ?_)
  rintro e y4 ⟨rfl, hb⟩
  clear B0p B0q B1p B1q
  have hst := Lib.hid hb
  clear hb
  replace B0 := Lib.hid (B0.out.on hst.out)
  replace B1 := Lib.hid (B1.out.on hst.out)
  replace HW := Lib.hid (below_on HW.out hst.out)
  clear hst
  obtain ⟨_, B0p, B0q⟩ := B0.out
  obtain ⟨_, B1p, B1q⟩ := B1.out
  go_wp2_with fail
  (with_reducible refine ((C2 _).out).mono ?_)
  rintro e y5 ⟨rfl, hb⟩
  clear B0p B0q B1p B1q
  have hst := Lib.hid (below_on (w := y4) (by repeat' (first | (with_reducible exact Below.refl _ _) | (with_reducible assumption) | (with_reducible refine Below.alloc ?_ ?_ _) | (with_reducible refine below_drew ?_ _) | (with_reducible refine Below.drew ?_) | (with_reducible refine Below.setCell ?_ ?_ _) | go_size)) hb)
  have B2 : Hid (Blk y5 (y4.heap.size) (.int .i64 n1) (.int .i64 d1)) := Blk.on (W := (y4.alloc (Obj.cells #[Value.int .i64 n1, Value.int .i64 d1] 23))) (by first | exact Blk.new _ _ _ _ | exact (Blk.new _ _ _ _).alloc _ | exact ((Blk.new _ _ _ _).alloc _).alloc _ | (have hn := Blk.new (y4) (Value.int .i64 n1) (Value.int .i64 d1) 23; simpa using hn)) hb
  clear hb
  replace B0 := Lib.hid (B0.out.on hst.out)
  replace B1 := Lib.hid (B1.out.on hst.out)
  replace HW := Lib.hid (below_on HW.out hst.out)
  clear hst
  obtain ⟨_, B0p, B0q⟩ := B0.out
  obtain ⟨_, B1p, B1q⟩ := B1.out
  go_wp2_with fail
  (with_reducible refine ((C3 _).out).mono ?_)
  rintro e y6 ⟨rfl, hb⟩
  clear B0p B0q B1p B1q
  have hst := Lib.hid (below_on (w := y5) (by repeat' (first | (with_reducible exact Below.refl _ _) | (with_reducible assumption) | (with_reducible refine Below.alloc ?_ ?_ _) | (with_reducible refine below_drew ?_ _) | (with_reducible refine Below.drew ?_) | (with_reducible refine Below.setCell ?_ ?_ _) | go_size)) hb)
  have B3 : Hid (Blk y6 (y5.heap.size) (.int .i64 n2) (.int .i64 d2)) := Blk.on (W := (y5.alloc (Obj.cells #[Value.int .i64 n2, Value.int .i64 d2] 23))) (by first | exact Blk.new _ _ _ _ | exact (Blk.new _ _ _ _).alloc _ | exact ((Blk.new _ _ _ _).alloc _).alloc _ | (have hn := Blk.new (y5) (Value.int .i64 n2) (Value.int .i64 d2) 23; simpa using hn)) hb
  clear hb
  replace B0 := Lib.hid (B0.out.on hst.out)
  replace B1 := Lib.hid (B1.out.on hst.out)
  replace B2 := Lib.hid (B2.out.on hst.out)
  replace HW := Lib.hid (below_on HW.out hst.out)
  clear hst
  obtain ⟨_, B0p, B0q⟩ := B0.out
  obtain ⟨_, B1p, B1q⟩ := B1.out
  go_wp2_with fail
  (with_reducible refine ((C4 _).out).mono ?_)
  rintro e y7 ⟨rfl, hb⟩
  clear B0p B0q B1p B1q
  have hst := Lib.hid (below_on (w := y6) (by repeat' (first | (with_reducible exact Below.refl _ _) | (with_reducible assumption) | (with_reducible refine Below.alloc ?_ ?_ _) | (with_reducible refine below_drew ?_ _) | (with_reducible refine Below.drew ?_) | (with_reducible refine Below.setCell ?_ ?_ _) | go_size)) hb)
  have B4 : Hid (Blk y7 (y6.heap.size) (.int .i64 n3) (.int .i64 d3)) := Blk.on (W := (y6.alloc (Obj.cells #[Value.int .i64 n3, Value.int .i64 d3] 23))) (by first | exact Blk.new _ _ _ _ | exact (Blk.new _ _ _ _).alloc _ | exact ((Blk.new _ _ _ _).alloc _).alloc _ | (have hn := Blk.new (y6) (Value.int .i64 n3) (Value.int .i64 d3) 23; simpa using hn)) hb
  clear hb
  replace B0 := Lib.hid (B0.out.on hst.out)
  replace B1 := Lib.hid (B1.out.on hst.out)
  replace B2 := Lib.hid (B2.out.on hst.out)
  replace B3 := Lib.hid (B3.out.on hst.out)
  replace HW := Lib.hid (below_on HW.out hst.out)
  clear hst
  clear C1 C2 C3 C4
  go_upto_region 10 with fail
  obtain ⟨y8, hy⟩ : ∃ W, W = (y7.alloc (Obj.cells #[Value.int .i64 n4, Value.int .i64 d4] 23)) := ⟨_, rfl⟩
  rw [← hy]
  have hb : Below ((y7.alloc (Obj.cells #[Value.int .i64 n4, Value.int .i64 d4] 23))).heap.size ((y7.alloc (Obj.cells #[Value.int .i64 n4, Value.int .i64 d4] 23))) y8 := by rw [hy]; exact Below.refl _ _
  clear hy
  have hst := Lib.hid (below_on (w := y7) (by repeat' (first | (with_reducible exact Below.refl _ _) | (with_reducible assumption) | (with_reducible refine Below.alloc ?_ ?_ _) | (with_reducible refine below_drew ?_ _) | (with_reducible refine Below.drew ?_) | (with_reducible refine Below.setCell ?_ ?_ _) | go_size)) hb)
  have B5 : Hid (Blk y8 (y7.heap.size) (.int .i64 n4) (.int .i64 d4)) := Blk.on (W := (y7.alloc (Obj.cells #[Value.int .i64 n4, Value.int .i64 d4] 23))) (by first | exact Blk.new _ _ _ _ | exact (Blk.new _ _ _ _).alloc _ | (have hn := Blk.new (y7) (Value.int .i64 n4) (Value.int .i64 d4) 23; simpa using hn)) hb
  clear hb
  replace B0 := Lib.hid (B0.out.on hst.out)
  replace B1 := Lib.hid (B1.out.on hst.out)
  replace B2 := Lib.hid (B2.out.on hst.out)
  replace B3 := Lib.hid (B3.out.on hst.out)
  replace B4 := Lib.hid (B4.out.on hst.out)
  replace HW := Lib.hid (below_on HW.out hst.out)
  clear hst
  go_cut [98] (fun s98 wx => s98 = .bool false ∧ Blk wx (w.heap.size) (.int .i64 al) (.int .i64 ah) ∧ Blk wx (w.heap.size + 1) (.int .i64 bl) (.int .i64 bh) ∧ Blk wx (y4.heap.size) (.int .i64 n1) (.int .i64 d1) ∧ Blk wx (y5.heap.size) (.int .i64 n2) (.int .i64 d2) ∧ Blk wx (y6.heap.size) (.int .i64 n3) (.int .i64 d3) ∧ Blk wx (y7.heap.size) (.int .i64 n4) (.int .i64 d4) ∧ Below w.heap.size w wx)
  case first =>
    rcases h1 with ⟨rfl, I1⟩ | rfl <;> rcases h2 with ⟨rfl, I2⟩ | rfl
    · obtain ⟨_, B2p, B2q⟩ := B2.out
      go_wp2_with fail
      (with_reducible refine ((I1 _).out).mono ?_)
      rintro e y9 ⟨rfl, hb⟩
      clear B2p B2q
      have hst := Lib.hid hb
      clear hb
      replace B0 := Lib.hid (B0.out.on hst.out)
      replace B1 := Lib.hid (B1.out.on hst.out)
      replace B2 := Lib.hid (B2.out.on hst.out)
      replace B3 := Lib.hid (B3.out.on hst.out)
      replace B4 := Lib.hid (B4.out.on hst.out)
      replace B5 := Lib.hid (B5.out.on hst.out)
      replace HW := Lib.hid (below_on HW.out hst.out)
      clear hst
      obtain ⟨_, B3p, B3q⟩ := B3.out
      go_wp2_with fail
      (with_reducible refine ((I2 _).out).mono ?_)
      rintro e y10 ⟨rfl, hb⟩
      clear B3p B3q
      have hst := Lib.hid hb
      clear hb
      replace B0 := Lib.hid (B0.out.on hst.out)
      replace B1 := Lib.hid (B1.out.on hst.out)
      replace B2 := Lib.hid (B2.out.on hst.out)
      replace B3 := Lib.hid (B3.out.on hst.out)
      replace B4 := Lib.hid (B4.out.on hst.out)
      replace B5 := Lib.hid (B5.out.on hst.out)
      replace HW := Lib.hid (below_on HW.out hst.out)
      clear hst
      go_wp2_with fail
      go_meet
      exact ⟨rfl, B0.out, B1.out, B2.out, B3.out, B4.out, B5.out, HW.out⟩
    · obtain ⟨_, B2p, B2q⟩ := B2.out
      go_wp2_with fail
      (with_reducible refine ((I1 _).out).mono ?_)
      rintro e y11 ⟨rfl, hb⟩
      clear B2p B2q
      have hst := Lib.hid hb
      clear hb
      replace B0 := Lib.hid (B0.out.on hst.out)
      replace B1 := Lib.hid (B1.out.on hst.out)
      replace B2 := Lib.hid (B2.out.on hst.out)
      replace B3 := Lib.hid (B3.out.on hst.out)
      replace B4 := Lib.hid (B4.out.on hst.out)
      replace B5 := Lib.hid (B5.out.on hst.out)
      replace HW := Lib.hid (below_on HW.out hst.out)
      clear hst
      go_wp2_with fail
      go_meet
      exact ⟨rfl, B0.out, B1.out, B2.out, B3.out, B4.out, B5.out, HW.out⟩
    · obtain ⟨_, B3p, B3q⟩ := B3.out
      go_wp2_with fail
      (with_reducible refine ((I2 _).out).mono ?_)
      rintro e y12 ⟨rfl, hb⟩
      clear B3p B3q
      have hst := Lib.hid hb
      clear hb
      replace B0 := Lib.hid (B0.out.on hst.out)
      replace B1 := Lib.hid (B1.out.on hst.out)
      replace B2 := Lib.hid (B2.out.on hst.out)
      replace B3 := Lib.hid (B3.out.on hst.out)
      replace B4 := Lib.hid (B4.out.on hst.out)
      replace B5 := Lib.hid (B5.out.on hst.out)
      replace HW := Lib.hid (below_on HW.out hst.out)
      clear hst
      go_wp2_with fail
      go_meet
      exact ⟨rfl, B0.out, B1.out, B2.out, B3.out, B4.out, B5.out, HW.out⟩
    · go_wp2_with fail
      go_meet
      exact ⟨rfl, B0.out, B1.out, B2.out, B3.out, B4.out, B5.out, HW.out⟩
  case rest =>
  clear B0 B1 B2 B3 B4 B5 HW
  rename World => c111
  obtain ⟨rfl, kB0, kB1, kB2, kB3, kB4, kB5, hb⟩ := hcut
  have B0 := Lib.hid kB0
  have B1 := Lib.hid kB1
  have B2 := Lib.hid kB2
  have B3 := Lib.hid kB3
  have B4 := Lib.hid kB4
  have B5 := Lib.hid kB5
  have HW := Lib.hid hb
  clear hb kB0 kB1 kB2 kB3 kB4 kB5
  clear h1 h2
  go_wp2_with fail
  (with_reducible refine ((PT _).out).mono ?_)
  rintro e y13 ⟨rfl, hb⟩
  have hst := Lib.hid hb
  clear hb
  replace B0 := Lib.hid (B0.out.on hst.out)
  replace B1 := Lib.hid (B1.out.on hst.out)
  replace B2 := Lib.hid (B2.out.on hst.out)
  replace B3 := Lib.hid (B3.out.on hst.out)
  replace B4 := Lib.hid (B4.out.on hst.out)
  replace B5 := Lib.hid (B5.out.on hst.out)
  replace HW := Lib.hid (below_on HW.out hst.out)
  clear hst
  obtain ⟨_, B4p, B4q⟩ := B4.out
  go_wp2_with fail
  (with_reducible refine ((I3 _).out).mono ?_)
  rintro e y14 ⟨rfl, hb⟩
  clear B4p B4q
  have hst := Lib.hid hb
  clear hb
  replace B0 := Lib.hid (B0.out.on hst.out)
  replace B1 := Lib.hid (B1.out.on hst.out)
  replace B2 := Lib.hid (B2.out.on hst.out)
  replace B3 := Lib.hid (B3.out.on hst.out)
  replace B4 := Lib.hid (B4.out.on hst.out)
  replace B5 := Lib.hid (B5.out.on hst.out)
  replace HW := Lib.hid (below_on HW.out hst.out)
  clear hst
  obtain ⟨_, B1p, B1q⟩ := B1.out
  go_wp2_with fail
  (with_reducible refine ((HZ _).out).mono ?_)
  rintro e y15 ⟨rfl, hb⟩
  clear B1p B1q
  have hst := Lib.hid hb
  clear hb
  replace B0 := Lib.hid (B0.out.on hst.out)
  replace B1 := Lib.hid (B1.out.on hst.out)
  replace B2 := Lib.hid (B2.out.on hst.out)
  replace B3 := Lib.hid (B3.out.on hst.out)
  replace B4 := Lib.hid (B4.out.on hst.out)
  replace B5 := Lib.hid (B5.out.on hst.out)
  replace HW := Lib.hid (below_on HW.out hst.out)
  clear hst
  obtain ⟨_, B0p, B0q⟩ := B0.out
  obtain ⟨_, B1p, B1q⟩ := B1.out
  obtain ⟨_, B2p, B2q⟩ := B2.out
  obtain ⟨_, B3p, B3q⟩ := B3.out
  obtain ⟨_, B4p, B4q⟩ := B4.out
  obtain ⟨_, B5p, B5q⟩ := B5.out
  go_wp2_with fail
  go_ret
  exact ⟨rfl, HW.out⟩

structure In005R (w : World) (al ah bl bh i j x y n1 d1 e1 n2 d2 e2 n3 d3 e3 n4 d4 e4 r1 r2 : Int) (Wc : World) (L : Nat → Bool) (v : Nat → Value) (g : Nat → Nat) (W : World) : Prop where
  st : Below Wc.heap.size Wc W
  f0 : Had L 0 (v 31 = .agg #[.int .i64 al, .int .i64 ah])
  f1 : Had L 1 (v 32 = .int .u64 i)
  f2 : Had L 2 (v 33 = .int .i64 x)
  f3 : Had L 3 (v 34 = .agg #[.int .i64 bl, .int .i64 bh])
  f4 : Had L 4 (v 35 = .int .u64 j)
  f5 : Had L 5 (v 36 = .int .i64 y)
  f6 : Had L 6 (v 9 = .int .i64 x)
  f7 : Had L 7 (v 10 = .int .i64 y)

structure In0020R (w : World) (al ah bl bh i j x y n1 d1 e1 n2 d2 e2 n3 d3 e3 n4 d4 e4 r1 r2 : Int) (y7 : World) (Wc : World) (L : Nat → Bool) (v : Nat → Value) (g : Nat → Nat) (W : World) : Prop where
  st : Below Wc.heap.size Wc W
  f0 : Had L 0 (v 121 = .int .i64 0)
  f1 : Had L 1 (v 122 = .bool true)
  f2 : Had L 2 (v 123 = .bool true)
  f3 : Had L 3 (v 124 = .pointer (some ⟨y7.heap.size, 0, none⟩))
  f4 : Had L 4 (v 125 = .int .i64 n4)
  f5 : Had L 5 (v 126 = .int .i64 x)
  f6 : Had L 6 (v 127 = .int .i64 y)
  f7 : Had L 7 (v 128 = .int .i64 r1)
  f8 : Had L 8 (v 129 = .bool true)
  f9 : Had L 9 (v 130 = .bool true)
  f10 : Had L 10 (v 131 = .bool true)
  f11 : Had L 11 (v 132 = .int .i64 x)
  f12 : Had L 12 (v 133 = .int .i64 y)
  f13 : Had L 13 (v 134 = .int .i64 r2)
  f14 : Had L 14 (v 135 = .pointer (some ⟨y7.heap.size, 1, none⟩))
  f15 : Had L 15 (v 136 = .int .i64 d4)
  f16 : Had L 16 (v 137 = .bool true)
  f17 : Had L 17 (v 138 = .bool true)
  f18 : Had L 18 (v 8 = .bool true)

set_option maxRecDepth 100000 in
set_option maxHeartbeats 16000000 in
theorem inside_BN (al ah bl bh i j n3 d3 : Int) (w : World) (va : SVd al ah) (vb : SVd bl bh) (i0 : 0 ≤ i) (i1 : i < 18446744073709551616) (j0 : 0 ≤ j) (j1 : j < 18446744073709551616) (hm : mul4 (al * bl) (al * bh) (ah * bl) (ah * bh) = (n3, d3, 5)) (hz : ¬ (bl ≤ 0 ∧ 0 ≤ bh)) :
    Calls Try.prog 6 #[.agg #[.int .i64 al, .int .i64 ah], .agg #[.int .i64 bl, .int .i64 bh], .int .u64 i, .int .u64 j] w fun e w' => e = .returned (.bool true) ∧ Below w.heap.size w w' := by
  have ha := sV_yes va
  have hb := sV_yes vb
  have VA := fun w => Lib.hid (rsValid_any al ah w)
  have VB := fun w => Lib.hid (rsValid_any bl bh w)
  simp only [ha] at VA
  simp only [hb] at VB
  have A1 := fun w => Lib.hid (at_any al ah i w va i0 i1)
  have A2 := fun w => Lib.hid (at_any bl bh j w vb j0 j1)
  obtain ⟨x0, x1⟩ := atV_bd va.m i
  obtain ⟨y0, y1⟩ := atV_bd vb.m j
  obtain ⟨x, hx⟩ : ∃ x, atV al ah i = x := ⟨_, rfl⟩
  obtain ⟨y, hy⟩ : ∃ x, atV bl bh j = x := ⟨_, rfl⟩
  rw [hx] at x0 x1
  rw [hy] at y0 y1
  simp only [hx] at A1
  simp only [hy] at A2
  clear hx hy
  have va' := va; have vb' := vb
  obtain ⟨va1, va2, va3⟩ := va'
  obtain ⟨vb1, vb2, vb3⟩ := vb'
  obtain ⟨n1, d1, e1, g1⟩ : ∃ a b c, sAdd al ah bl bh = (a, b, c) := ⟨_, _, _, rfl⟩
  obtain ⟨n2, d2, e2, g2⟩ : ∃ a b c, sSub al ah bl bh = (a, b, c) := ⟨_, _, _, rfl⟩
  have C1 := fun w => Lib.hid (sAdd_any al ah bl bh w (by omega) (by omega) (by omega) (by omega) (by omega) (by omega) (by omega) (by omega) n1 d1 e1 g1)
  have C2 := fun w => Lib.hid (sSub_any al ah bl bh w (by omega) (by omega) (by omega) (by omega) (by omega) (by omega) (by omega) (by omega) n2 d2 e2 g2)
  have h1 : (0 = e1 ∧ ∀ w, Hid (Calls Try.prog 35 #[.agg #[.int .i64 n1, .int .i64 d1], .int .i64 (x + y)] w fun e w' => e = .returned (.bool true) ∧ Below w.heap.size w w')) ∨ 5 = e1 := by
    unfold sAdd at g1
    rw [okS_yes ha hb] at g1
    unfold fitS at g1
    split at g1
    · obtain ⟨q1, q2, q3⟩ := three g1
      exact .inl ⟨q3, fun w => has_yes _ _ _ w (by omega) (by omega)⟩
    · obtain ⟨q1, q2, q3⟩ := three g1
      exact .inr q3
  have h2 : (0 = e2 ∧ ∀ w, Hid (Calls Try.prog 35 #[.agg #[.int .i64 n2, .int .i64 d2], .int .i64 (x - y)] w fun e w' => e = .returned (.bool true) ∧ Below w.heap.size w w')) ∨ 5 = e2 := by
    unfold sSub at g2
    rw [okS_yes ha hb] at g2
    unfold fitS at g2
    split at g2
    · obtain ⟨q1, q2, q3⟩ := three g2
      exact .inl ⟨q3, fun w => has_yes _ _ _ w (by omega) (by omega)⟩
    · obtain ⟨q1, q2, q3⟩ := three g2
      exact .inr q3
  have C3 := fun w => Lib.hid (sMul_any al ah bl bh w (by omega) (by omega) (by omega) (by omega) (by omega) (by omega) (by omega) (by omega) n3 d3 5 (by unfold sMul; rw [okS_yes ha hb, mulS_eq]; exact hm))
  have hne : y ≠ 0 := by omega
  have q1 := fl_bd x0 x1 hz y0 y1
  have q2 := ce_bd x0 x1 hz y0 y1
  obtain ⟨n4, hn4⟩ : ∃ z, min (min (min (fl al bl) (fl al bh)) (fl ah bl)) (fl ah bh) = z := ⟨_, rfl⟩
  obtain ⟨d4, hd4⟩ : ∃ z, max (max (max (ce al bl) (ce al bh)) (ce ah bl)) (ce ah bh) = z := ⟨_, rfl⟩
  have C4 := fun w => Lib.hid (sDiv_any al ah bl bh w (by omega) (by omega) (by omega) (by omega) (by omega) (by omega) (by omega) (by omega) n4 d4 0 (by unfold sDiv; rw [okS_yes ha hb, divS_eq va vb hz, hn4, hd4]))
  rw [hn4] at q1
  rw [hd4] at q2
  have FL := fun w => Lib.hid (rFloor_any x y w (by omega) (by omega) (by omega) (by omega) hne)
  have CE := fun w => Lib.hid (rCeil_any x y w (by omega) (by omega) (by omega) (by omega) hne)
  have HZ := fun w => Lib.hid (has_no bl bh 0 w hz)
  obtain ⟨r1, hr1⟩ : ∃ z, fl x y = z := ⟨_, rfl⟩
  obtain ⟨r2, hr2⟩ : ∃ z, ce x y = z := ⟨_, rfl⟩
  rw [hr1] at q1
  rw [hr2] at q2
  simp only [hr1] at FL
  simp only [hr2] at CE
  have q3 : decide (n4 ≤ r1) = true := decide_eq_true q1
  have q4 : decide (r2 ≤ d4) = true := decide_eq_true q2
  clear hn4 hd4 hr1 hr2 q1 q2 hne
  obtain ⟨e3, he3⟩ : ∃ z : Int, 0 = z := ⟨_, rfl⟩
  obtain ⟨e4, he4⟩ : ∃ z : Int, 0 = z := ⟨_, rfl⟩
  have k0 : -2305843009213693952 ≤ x + y := by omega
  have k1 : x + y ≤ 2305843009213693952 := by omega
  have k2 : -2305843009213693952 ≤ x - y := by omega
  have k3 : x - y ≤ 2305843009213693952 := by omega
  have k4 : -1152921504606846976 ≤ x := by omega
  have k5 : x ≤ 1152921504606846976 := by omega
  have k6 : -1152921504606846976 ≤ y := by omega
  have k7 : y ≤ 1152921504606846976 := by omega
  clear he3 he4 ha hb va vb g1 g2 hm hz x0 x1 y0 y1 va1 va2 va3 vb1 vb2 vb3
  have HW := Lib.hid (Below.refl w.heap.size w)
  have AW := fun w => Lib.hid (sawake_any w)
  go_enter Try.func6, Try.ntmps6
  go_wp2_with fail
  (with_reducible refine ((AW _).out).mono ?_)
  rintro e y1 ⟨rfl, hb⟩
  have hst := Lib.hid (below_on (w := w) (by repeat' (first | (with_reducible exact Below.refl _ _) | (with_reducible assumption) | (with_reducible refine Below.alloc ?_ ?_ _) | (with_reducible refine below_drew ?_ _) | (with_reducible refine Below.drew ?_) | (with_reducible refine Below.setCell ?_ ?_ _) | go_size)) hb)
  have B0 : Hid (Blk y1 (w.heap.size) (.int .i64 al) (.int .i64 ah)) := Blk.on (W := ((w.alloc (Obj.cells #[Value.int .i64 al, Value.int .i64 ah] 23)).alloc (Obj.cells #[Value.int .i64 bl, Value.int .i64 bh] 23))) (by first | exact Blk.new _ _ _ _ | exact (Blk.new _ _ _ _).alloc _ | exact ((Blk.new _ _ _ _).alloc _).alloc _ | (have hn := Blk.new (w) (Value.int .i64 al) (Value.int .i64 ah) 23; simpa using hn)) hb
  have B1 : Hid (Blk y1 (w.heap.size + 1) (.int .i64 bl) (.int .i64 bh)) := Blk.on (W := ((w.alloc (Obj.cells #[Value.int .i64 al, Value.int .i64 ah] 23)).alloc (Obj.cells #[Value.int .i64 bl, Value.int .i64 bh] 23))) (by first | exact Blk.new _ _ _ _ | exact (Blk.new _ _ _ _).alloc _ | exact ((Blk.new _ _ _ _).alloc _).alloc _ | (have hn := Blk.new ((w.alloc (Obj.cells #[Value.int .i64 al, Value.int .i64 ah] 23))) (Value.int .i64 bl) (Value.int .i64 bh) 23; simpa using hn)) hb
  clear hb
  replace HW := Lib.hid (below_on HW.out hst.out)
  clear hst
  obtain ⟨_, B0p, B0q⟩ := B0.out
  go_wp2_with fail
  (with_reducible refine ((VA _).out).mono ?_)
  rintro e y2 ⟨rfl, hb⟩
  clear B0p B0q
  have hst := Lib.hid hb
  clear hb
  replace B0 := Lib.hid (B0.out.on hst.out)
  replace B1 := Lib.hid (B1.out.on hst.out)
  replace HW := Lib.hid (below_on HW.out hst.out)
  clear hst
  obtain ⟨_, B1p, B1q⟩ := B1.out
  go_wp2_with fail
  (with_reducible refine ((VB _).out).mono ?_)
  rintro e y3 ⟨rfl, hb⟩
  clear B1p B1q
  have hst := Lib.hid hb
  clear hb
  replace B0 := Lib.hid (B0.out.on hst.out)
  replace B1 := Lib.hid (B1.out.on hst.out)
  replace HW := Lib.hid (below_on HW.out hst.out)
  clear hst
  go_wp2_with fail
  refine wp_region_each (fun L A W => ∃ (v : Nat → Value) (g : Nat → Nat), A = ⟨#[.agg #[.int .i64 al, .int .i64 ah], .agg #[.int .i64 bl, .int .i64 bh], .int .u64 i, .int .u64 j, .pointer (some ⟨w.heap.size, 0, none⟩), .pointer (some ⟨w.heap.size + 1, 0, none⟩), undef, undef, .bool false, v 9, v 10, undef, undef, undef, undef, undef, undef, undef, undef, undef, undef, .bool true, .bool false, .agg #[.int .i64 al, .int .i64 ah], .bool true, .bool false, .bool false, .agg #[.int .i64 bl, .int .i64 bh], .bool true, .bool false, .bool false, v 31, v 32, v 33, v 34, v 35, v 36, undef, undef, undef, undef, undef, undef, undef, undef, undef, undef, undef, undef, undef, undef, undef, undef, undef, undef, undef, undef, undef, undef, undef, undef, undef, undef, undef, undef, undef, undef, undef, undef, undef, undef, undef, undef, undef, undef, undef, undef, undef, undef, undef, undef, undef, undef, undef, undef, undef, undef, undef, undef, undef, undef, undef, undef, undef, undef, undef, undef, undef, undef, undef, undef, undef, undef, undef, undef, undef, undef, undef, undef, undef, undef, undef, undef, undef, undef, undef, undef, undef, undef, undef, undef, undef, undef, undef, undef, undef, undef, undef, undef, undef, undef, undef, undef, undef, undef, undef, undef, undef, undef], []⟩ ∧ In005R w al ah bl bh i j x y n1 d1 e1 n2 d2 e2 n3 d3 e3 n4 d4 e4 r1 r2 y3 L v g W) (by kernel_rfl) (by kernel_rfl) ⟨fun _ => undef, fun _ => 0, rfl, ⟨Below.drew (Below.refl _ _), Had.none, Had.none, Had.none, Had.none, Had.none, Had.none, Had.none, Had.none⟩⟩ (rs := [0, 1, 2, 3, 4, 5, 6, 7]) (by kernel_rfl) ?_ ?_
  · refine EachOf.cons [] rfl (by kernel_rfl) ?_ ?_
    · rintro L A W ⟨v, g, rfl, hR⟩ hi hw K hK
      obtain ⟨_, q0, q1⟩ := B0.out.on hR.st
      go_simp
      refine hK.out _ _ ?_
      exact ⟨(fun jz => if jz = 31 then .agg #[.int .i64 al, .int .i64 ah] else v jz), g, rfl, ⟨hR.st, (fun _ => rfl), hR.f1.keep rfl, hR.f2.keep rfl, hR.f3.keep rfl, hR.f4.keep rfl, hR.f5.keep rfl, hR.f6.keep rfl, hR.f7.keep rfl⟩⟩
    refine EachOf.cons [] rfl (by kernel_rfl) ?_ ?_
    · rintro L A W ⟨v, g, rfl, hR⟩ hi hw K hK
      go_simp
      refine hK.out _ _ ?_
      exact ⟨(fun jz => if jz = 32 then .int .u64 i else v jz), g, rfl, ⟨hR.st, hR.f0.keep rfl, (fun _ => rfl), hR.f2.keep rfl, hR.f3.keep rfl, hR.f4.keep rfl, hR.f5.keep rfl, hR.f6.keep rfl, hR.f7.keep rfl⟩⟩
    refine EachOf.cons [0, 1] rfl (by kernel_rfl) ?_ ?_
    · rintro L A W ⟨v, g, rfl, hR⟩ hi hw K hK
      have e0 := hR.f0 (hw 0 (by simp))
      have e1 := hR.f1 (hw 1 (by simp))
      simp only [e0, e1]
      clear e0 e1
      go_simp
      go_at_call 34
      (with_reducible refine ((A1 _).out).mono ?_)
      rintro e w2 ⟨rfl, hb⟩
      go_simp
      refine hK.out _ _ ?_
      exact ⟨(fun jz => if jz = 31 then .agg #[.int .i64 al, .int .i64 ah] else if jz = 32 then .int .u64 i else if jz = 33 then .int .i64 x else v jz), g, rfl, ⟨below_on hR.st hb, (fun _ => rfl), (fun _ => rfl), (fun _ => rfl), hR.f3.keep rfl, hR.f4.keep rfl, hR.f5.keep rfl, hR.f6.keep rfl, hR.f7.keep rfl⟩⟩
    refine EachOf.cons [] rfl (by kernel_rfl) ?_ ?_
    · rintro L A W ⟨v, g, rfl, hR⟩ hi hw K hK
      obtain ⟨_, q0, q1⟩ := B1.out.on hR.st
      go_simp
      refine hK.out _ _ ?_
      exact ⟨(fun jz => if jz = 34 then .agg #[.int .i64 bl, .int .i64 bh] else v jz), g, rfl, ⟨hR.st, hR.f0.keep rfl, hR.f1.keep rfl, hR.f2.keep rfl, (fun _ => rfl), hR.f4.keep rfl, hR.f5.keep rfl, hR.f6.keep rfl, hR.f7.keep rfl⟩⟩
    refine EachOf.cons [] rfl (by kernel_rfl) ?_ ?_
    · rintro L A W ⟨v, g, rfl, hR⟩ hi hw K hK
      go_simp
      refine hK.out _ _ ?_
      exact ⟨(fun jz => if jz = 35 then .int .u64 j else v jz), g, rfl, ⟨hR.st, hR.f0.keep rfl, hR.f1.keep rfl, hR.f2.keep rfl, hR.f3.keep rfl, (fun _ => rfl), hR.f5.keep rfl, hR.f6.keep rfl, hR.f7.keep rfl⟩⟩
    refine EachOf.cons [3, 4] rfl (by kernel_rfl) ?_ ?_
    · rintro L A W ⟨v, g, rfl, hR⟩ hi hw K hK
      have e3 := hR.f3 (hw 3 (by simp))
      have e4 := hR.f4 (hw 4 (by simp))
      simp only [e3, e4]
      clear e3 e4
      go_simp
      go_at_call 34
      (with_reducible refine ((A2 _).out).mono ?_)
      rintro e w2 ⟨rfl, hb⟩
      go_simp
      refine hK.out _ _ ?_
      exact ⟨(fun jz => if jz = 34 then .agg #[.int .i64 bl, .int .i64 bh] else if jz = 35 then .int .u64 j else if jz = 36 then .int .i64 y else v jz), g, rfl, ⟨below_on hR.st hb, hR.f0.keep rfl, hR.f1.keep rfl, hR.f2.keep rfl, (fun _ => rfl), (fun _ => rfl), (fun _ => rfl), hR.f6.keep rfl, hR.f7.keep rfl⟩⟩
    refine EachOf.cons [2] rfl (by kernel_rfl) ?_ ?_
    · rintro L A W ⟨v, g, rfl, hR⟩ hi hw K hK
      have e2 := hR.f2 (hw 2 (by simp))
      simp only [e2]
      clear e2
      go_simp
      refine hK.out _ _ ?_
      exact ⟨(fun jz => if jz = 33 then .int .i64 x else if jz = 9 then .int .i64 x else v jz), g, rfl, ⟨hR.st, hR.f0.keep rfl, hR.f1.keep rfl, (fun _ => rfl), hR.f3.keep rfl, hR.f4.keep rfl, hR.f5.keep rfl, (fun _ => rfl), hR.f7.keep rfl⟩⟩
    refine EachOf.cons [5] rfl (by kernel_rfl) ?_ ?_
    · rintro L A W ⟨v, g, rfl, hR⟩ hi hw K hK
      have e5 := hR.f5 (hw 5 (by simp))
      simp only [e5]
      clear e5
      go_simp
      refine hK.out _ _ ?_
      exact ⟨(fun jz => if jz = 36 then .int .i64 y else if jz = 10 then .int .i64 y else v jz), g, rfl, ⟨hR.st, hR.f0.keep rfl, hR.f1.keep rfl, hR.f2.keep rfl, hR.f3.keep rfl, hR.f4.keep rfl, (fun _ => rfl), hR.f6.keep rfl, (fun _ => rfl)⟩⟩
    exact EachOf.nil
  rintro L A W1 ⟨v1, g1, rfl, hR⟩ hL
  have e6 := hR.f6 (hL 6 (by simp))
  have e7 := hR.f7 (hL 7 (by simp))
  have hst := Lib.hid hR.st
  simp only [e6, e7]
  clear e6 e7
  clear hR hL
  replace B0 := Lib.hid (B0.out.on hst.out)
  replace B1 := Lib.hid (B1.out.on hst.out)
  replace HW := Lib.hid (below_on HW.out hst.out)
  clear AW VA VB A1 A2
  obtain ⟨_, B0p, B0q⟩ := B0.out
  obtain ⟨_, B1p, B1q⟩ := B1.out
  go_wp2_with fail
  (with_reducible refine ((C1 _).out).mono ?_)
  rintro e y4 ⟨rfl, hb⟩
  clear B0p B0q B1p B1q
  have hst := Lib.hid hb
  clear hb
  replace B0 := Lib.hid (B0.out.on hst.out)
  replace B1 := Lib.hid (B1.out.on hst.out)
  replace HW := Lib.hid (below_on HW.out hst.out)
  clear hst
  obtain ⟨_, B0p, B0q⟩ := B0.out
  obtain ⟨_, B1p, B1q⟩ := B1.out
  go_wp2_with fail
  (with_reducible refine ((C2 _).out).mono ?_)
  rintro e y5 ⟨rfl, hb⟩
  clear B0p B0q B1p B1q
  have hst := Lib.hid (below_on (w := y4) (by repeat' (first | (with_reducible exact Below.refl _ _) | (with_reducible assumption) | (with_reducible refine Below.alloc ?_ ?_ _) | (with_reducible refine below_drew ?_ _) | (with_reducible refine Below.drew ?_) | (with_reducible refine Below.setCell ?_ ?_ _) | go_size)) hb)
  have B2 : Hid (Blk y5 (y4.heap.size) (.int .i64 n1) (.int .i64 d1)) := Blk.on (W := (y4.alloc (Obj.cells #[Value.int .i64 n1, Value.int .i64 d1] 23))) (by first | exact Blk.new _ _ _ _ | exact (Blk.new _ _ _ _).alloc _ | exact ((Blk.new _ _ _ _).alloc _).alloc _ | (have hn := Blk.new (y4) (Value.int .i64 n1) (Value.int .i64 d1) 23; simpa using hn)) hb
  clear hb
  replace B0 := Lib.hid (B0.out.on hst.out)
  replace B1 := Lib.hid (B1.out.on hst.out)
  replace HW := Lib.hid (below_on HW.out hst.out)
  clear hst
  obtain ⟨_, B0p, B0q⟩ := B0.out
  obtain ⟨_, B1p, B1q⟩ := B1.out
  go_wp2_with fail
  (with_reducible refine ((C3 _).out).mono ?_)
  rintro e y6 ⟨rfl, hb⟩
  clear B0p B0q B1p B1q
  have hst := Lib.hid (below_on (w := y5) (by repeat' (first | (with_reducible exact Below.refl _ _) | (with_reducible assumption) | (with_reducible refine Below.alloc ?_ ?_ _) | (with_reducible refine below_drew ?_ _) | (with_reducible refine Below.drew ?_) | (with_reducible refine Below.setCell ?_ ?_ _) | go_size)) hb)
  have B3 : Hid (Blk y6 (y5.heap.size) (.int .i64 n2) (.int .i64 d2)) := Blk.on (W := (y5.alloc (Obj.cells #[Value.int .i64 n2, Value.int .i64 d2] 23))) (by first | exact Blk.new _ _ _ _ | exact (Blk.new _ _ _ _).alloc _ | exact ((Blk.new _ _ _ _).alloc _).alloc _ | (have hn := Blk.new (y5) (Value.int .i64 n2) (Value.int .i64 d2) 23; simpa using hn)) hb
  clear hb
  replace B0 := Lib.hid (B0.out.on hst.out)
  replace B1 := Lib.hid (B1.out.on hst.out)
  replace B2 := Lib.hid (B2.out.on hst.out)
  replace HW := Lib.hid (below_on HW.out hst.out)
  clear hst
  obtain ⟨_, B0p, B0q⟩ := B0.out
  obtain ⟨_, B1p, B1q⟩ := B1.out
  go_wp2_with fail
  (with_reducible refine ((C4 _).out).mono ?_)
  rintro e y7 ⟨rfl, hb⟩
  clear B0p B0q B1p B1q
  have hst := Lib.hid (below_on (w := y6) (by repeat' (first | (with_reducible exact Below.refl _ _) | (with_reducible assumption) | (with_reducible refine Below.alloc ?_ ?_ _) | (with_reducible refine below_drew ?_ _) | (with_reducible refine Below.drew ?_) | (with_reducible refine Below.setCell ?_ ?_ _) | go_size)) hb)
  have B4 : Hid (Blk y7 (y6.heap.size) (.int .i64 n3) (.int .i64 d3)) := Blk.on (W := (y6.alloc (Obj.cells #[Value.int .i64 n3, Value.int .i64 d3] 23))) (by first | exact Blk.new _ _ _ _ | exact (Blk.new _ _ _ _).alloc _ | exact ((Blk.new _ _ _ _).alloc _).alloc _ | (have hn := Blk.new (y6) (Value.int .i64 n3) (Value.int .i64 d3) 23; simpa using hn)) hb
  clear hb
  replace B0 := Lib.hid (B0.out.on hst.out)
  replace B1 := Lib.hid (B1.out.on hst.out)
  replace B2 := Lib.hid (B2.out.on hst.out)
  replace B3 := Lib.hid (B3.out.on hst.out)
  replace HW := Lib.hid (below_on HW.out hst.out)
  clear hst
  clear C1 C2 C3 C4
  go_upto_region 10 with fail
  obtain ⟨y8, hy⟩ : ∃ W, W = (y7.alloc (Obj.cells #[Value.int .i64 n4, Value.int .i64 d4] 23)) := ⟨_, rfl⟩
  rw [← hy]
  have hb : Below ((y7.alloc (Obj.cells #[Value.int .i64 n4, Value.int .i64 d4] 23))).heap.size ((y7.alloc (Obj.cells #[Value.int .i64 n4, Value.int .i64 d4] 23))) y8 := by rw [hy]; exact Below.refl _ _
  clear hy
  have hst := Lib.hid (below_on (w := y7) (by repeat' (first | (with_reducible exact Below.refl _ _) | (with_reducible assumption) | (with_reducible refine Below.alloc ?_ ?_ _) | (with_reducible refine below_drew ?_ _) | (with_reducible refine Below.drew ?_) | (with_reducible refine Below.setCell ?_ ?_ _) | go_size)) hb)
  have B5 : Hid (Blk y8 (y7.heap.size) (.int .i64 n4) (.int .i64 d4)) := Blk.on (W := (y7.alloc (Obj.cells #[Value.int .i64 n4, Value.int .i64 d4] 23))) (by first | exact Blk.new _ _ _ _ | exact (Blk.new _ _ _ _).alloc _ | (have hn := Blk.new (y7) (Value.int .i64 n4) (Value.int .i64 d4) 23; simpa using hn)) hb
  clear hb
  replace B0 := Lib.hid (B0.out.on hst.out)
  replace B1 := Lib.hid (B1.out.on hst.out)
  replace B2 := Lib.hid (B2.out.on hst.out)
  replace B3 := Lib.hid (B3.out.on hst.out)
  replace B4 := Lib.hid (B4.out.on hst.out)
  replace HW := Lib.hid (below_on HW.out hst.out)
  clear hst
  go_cut [98] (fun s98 wx => s98 = .bool false ∧ Blk wx (w.heap.size) (.int .i64 al) (.int .i64 ah) ∧ Blk wx (w.heap.size + 1) (.int .i64 bl) (.int .i64 bh) ∧ Blk wx (y4.heap.size) (.int .i64 n1) (.int .i64 d1) ∧ Blk wx (y5.heap.size) (.int .i64 n2) (.int .i64 d2) ∧ Blk wx (y6.heap.size) (.int .i64 n3) (.int .i64 d3) ∧ Blk wx (y7.heap.size) (.int .i64 n4) (.int .i64 d4) ∧ Below w.heap.size w wx)
  case first =>
    rcases h1 with ⟨rfl, I1⟩ | rfl <;> rcases h2 with ⟨rfl, I2⟩ | rfl
    · obtain ⟨_, B2p, B2q⟩ := B2.out
      go_wp2_with fail
      (with_reducible refine ((I1 _).out).mono ?_)
      rintro e y9 ⟨rfl, hb⟩
      clear B2p B2q
      have hst := Lib.hid hb
      clear hb
      replace B0 := Lib.hid (B0.out.on hst.out)
      replace B1 := Lib.hid (B1.out.on hst.out)
      replace B2 := Lib.hid (B2.out.on hst.out)
      replace B3 := Lib.hid (B3.out.on hst.out)
      replace B4 := Lib.hid (B4.out.on hst.out)
      replace B5 := Lib.hid (B5.out.on hst.out)
      replace HW := Lib.hid (below_on HW.out hst.out)
      clear hst
      obtain ⟨_, B3p, B3q⟩ := B3.out
      go_wp2_with fail
      (with_reducible refine ((I2 _).out).mono ?_)
      rintro e y10 ⟨rfl, hb⟩
      clear B3p B3q
      have hst := Lib.hid hb
      clear hb
      replace B0 := Lib.hid (B0.out.on hst.out)
      replace B1 := Lib.hid (B1.out.on hst.out)
      replace B2 := Lib.hid (B2.out.on hst.out)
      replace B3 := Lib.hid (B3.out.on hst.out)
      replace B4 := Lib.hid (B4.out.on hst.out)
      replace B5 := Lib.hid (B5.out.on hst.out)
      replace HW := Lib.hid (below_on HW.out hst.out)
      clear hst
      go_wp2_with fail
      go_meet
      exact ⟨rfl, B0.out, B1.out, B2.out, B3.out, B4.out, B5.out, HW.out⟩
    · obtain ⟨_, B2p, B2q⟩ := B2.out
      go_wp2_with fail
      (with_reducible refine ((I1 _).out).mono ?_)
      rintro e y11 ⟨rfl, hb⟩
      clear B2p B2q
      have hst := Lib.hid hb
      clear hb
      replace B0 := Lib.hid (B0.out.on hst.out)
      replace B1 := Lib.hid (B1.out.on hst.out)
      replace B2 := Lib.hid (B2.out.on hst.out)
      replace B3 := Lib.hid (B3.out.on hst.out)
      replace B4 := Lib.hid (B4.out.on hst.out)
      replace B5 := Lib.hid (B5.out.on hst.out)
      replace HW := Lib.hid (below_on HW.out hst.out)
      clear hst
      go_wp2_with fail
      go_meet
      exact ⟨rfl, B0.out, B1.out, B2.out, B3.out, B4.out, B5.out, HW.out⟩
    · obtain ⟨_, B3p, B3q⟩ := B3.out
      go_wp2_with fail
      (with_reducible refine ((I2 _).out).mono ?_)
      rintro e y12 ⟨rfl, hb⟩
      clear B3p B3q
      have hst := Lib.hid hb
      clear hb
      replace B0 := Lib.hid (B0.out.on hst.out)
      replace B1 := Lib.hid (B1.out.on hst.out)
      replace B2 := Lib.hid (B2.out.on hst.out)
      replace B3 := Lib.hid (B3.out.on hst.out)
      replace B4 := Lib.hid (B4.out.on hst.out)
      replace B5 := Lib.hid (B5.out.on hst.out)
      replace HW := Lib.hid (below_on HW.out hst.out)
      clear hst
      go_wp2_with fail
      go_meet
      exact ⟨rfl, B0.out, B1.out, B2.out, B3.out, B4.out, B5.out, HW.out⟩
    · go_wp2_with fail
      go_meet
      exact ⟨rfl, B0.out, B1.out, B2.out, B3.out, B4.out, B5.out, HW.out⟩
  case rest =>
  clear B0 B1 B2 B3 B4 B5 HW
  rename World => c100
  obtain ⟨rfl, kB0, kB1, kB2, kB3, kB4, kB5, hb⟩ := hcut
  have B0 := Lib.hid kB0
  have B1 := Lib.hid kB1
  have B2 := Lib.hid kB2
  have B3 := Lib.hid kB3
  have B4 := Lib.hid kB4
  have B5 := Lib.hid kB5
  have HW := Lib.hid hb
  clear hb kB0 kB1 kB2 kB3 kB4 kB5
  clear h1 h2
  obtain ⟨_, B1p, B1q⟩ := B1.out
  go_wp2_with fail
  (with_reducible refine ((HZ _).out).mono ?_)
  rintro e y13 ⟨rfl, hb⟩
  clear B1p B1q
  have hst := Lib.hid hb
  clear hb
  replace B0 := Lib.hid (B0.out.on hst.out)
  replace B1 := Lib.hid (B1.out.on hst.out)
  replace B2 := Lib.hid (B2.out.on hst.out)
  replace B3 := Lib.hid (B3.out.on hst.out)
  replace B4 := Lib.hid (B4.out.on hst.out)
  replace B5 := Lib.hid (B5.out.on hst.out)
  replace HW := Lib.hid (below_on HW.out hst.out)
  clear hst
  go_wp2_with fail
  refine wp_region_each (fun L A W => ∃ (v : Nat → Value) (g : Nat → Nat), A = ⟨#[.agg #[.int .i64 al, .int .i64 ah], .agg #[.int .i64 bl, .int .i64 bh], .int .u64 i, .int .u64 j, .pointer (some ⟨w.heap.size, 0, none⟩), .pointer (some ⟨w.heap.size + 1, 0, none⟩), undef, undef, v 8, .int .i64 x, .int .i64 y, .pointer (some ⟨y4.heap.size, 0, none⟩), .int .i64 e1, .pointer (some ⟨y5.heap.size, 0, none⟩), .int .i64 e2, .pointer (some ⟨y6.heap.size, 0, none⟩), .int .i64 5, .pointer (some ⟨y7.heap.size, 0, none⟩), .int .i64 0, undef, undef, u21, u22, u23, u24, u25, u26, u27, u28, u29, u30, u31, u32, u33, u34, u35, u36, u37, u38, u39, u40, u41, u42, u43, u44, u45, u46, u47, u48, u49, u50, u51, u52, u53, u54, u55, u56, u57, u58, u59, u60, u61, u62, u63, u64, u65, u66, u67, u68, u69, u70, u71, u72, u73, u74, u75, u76, u77, u78, u79, u80, u81, u82, u83, u84, u85, u86, u87, u88, u89, u90, u91, u92, u93, u94, u95, u96, u97, .bool false, .int .i64 5, .bool false, u101, u102, u103, u104, u105, u106, u107, u108, u109, u110, u111, u112, u113, u114, .int .i64 5, .bool false, .agg #[.int .i64 bl, .int .i64 bh], .bool false, u119, u120, v 121, v 122, v 123, v 124, v 125, v 126, v 127, v 128, v 129, v 130, v 131, v 132, v 133, v 134, v 135, v 136, v 137, v 138], []⟩ ∧ In0020R w al ah bl bh i j x y n1 d1 e1 n2 d2 e2 n3 d3 e3 n4 d4 e4 r1 r2 y7 y13 L v g W) (by kernel_rfl) (by kernel_rfl) ⟨fun jz => if jz = 121 then u121 else if jz = 122 then u122 else if jz = 123 then u123 else if jz = 124 then u124 else if jz = 125 then u125 else if jz = 126 then u126 else if jz = 127 then u127 else if jz = 128 then u128 else if jz = 129 then u129 else if jz = 130 then u130 else if jz = 131 then u131 else if jz = 132 then u132 else if jz = 133 then u133 else if jz = 134 then u134 else if jz = 135 then u135 else if jz = 136 then u136 else if jz = 137 then u137 else if jz = 138 then u138 else if jz = 8 then .bool false else undef, fun _ => 0, rfl, ⟨Below.drew (Below.refl _ _), Had.none, Had.none, Had.none, Had.none, Had.none, Had.none, Had.none, Had.none, Had.none, Had.none, Had.none, Had.none, Had.none, Had.none, Had.none, Had.none, Had.none, Had.none, Had.none⟩⟩ (rs := [0, 1, 2, 3, 4, 5, 6, 7, 8, 9, 10, 11, 12, 13, 14, 15, 16, 17, 18]) (by kernel_rfl) ?_ ?_
  · refine EachOf.cons [] rfl (by kernel_rfl) ?_ ?_
    · rintro L A W ⟨v, g, rfl, hR⟩ hi hw K hK
      go_simp
      refine hK.out _ _ ?_
      exact ⟨(fun jz => if jz = 121 then .int .i64 0 else v jz), g, rfl, ⟨hR.st, (fun _ => rfl), hR.f1.keep rfl, hR.f2.keep rfl, hR.f3.keep rfl, hR.f4.keep rfl, hR.f5.keep rfl, hR.f6.keep rfl, hR.f7.keep rfl, hR.f8.keep rfl, hR.f9.keep rfl, hR.f10.keep rfl, hR.f11.keep rfl, hR.f12.keep rfl, hR.f13.keep rfl, hR.f14.keep rfl, hR.f15.keep rfl, hR.f16.keep rfl, hR.f17.keep rfl, hR.f18.keep rfl⟩⟩
    refine EachOf.cons [0] rfl (by kernel_rfl) ?_ ?_
    · rintro L A W ⟨v, g, rfl, hR⟩ hi hw K hK
      have e0 := hR.f0 (hw 0 (by simp))
      simp only [e0]
      clear e0
      go_simp
      refine hK.out _ _ ?_
      exact ⟨(fun jz => if jz = 121 then .int .i64 0 else if jz = 122 then .bool true else v jz), g, rfl, ⟨hR.st, (fun _ => rfl), (fun _ => rfl), hR.f2.keep rfl, hR.f3.keep rfl, hR.f4.keep rfl, hR.f5.keep rfl, hR.f6.keep rfl, hR.f7.keep rfl, hR.f8.keep rfl, hR.f9.keep rfl, hR.f10.keep rfl, hR.f11.keep rfl, hR.f12.keep rfl, hR.f13.keep rfl, hR.f14.keep rfl, hR.f15.keep rfl, hR.f16.keep rfl, hR.f17.keep rfl, hR.f18.keep rfl⟩⟩
    refine EachOf.cons [1] rfl (by kernel_rfl) ?_ ?_
    · rintro L A W ⟨v, g, rfl, hR⟩ hi hw K hK
      have e1 := hR.f1 (hw 1 (by simp))
      simp only [e1]
      clear e1
      go_simp
      refine hK.out _ _ ?_
      exact ⟨(fun jz => if jz = 122 then .bool true else if jz = 123 then .bool true else v jz), g, rfl, ⟨hR.st, hR.f0.keep rfl, (fun _ => rfl), (fun _ => rfl), hR.f3.keep rfl, hR.f4.keep rfl, hR.f5.keep rfl, hR.f6.keep rfl, hR.f7.keep rfl, hR.f8.keep rfl, hR.f9.keep rfl, hR.f10.keep rfl, hR.f11.keep rfl, hR.f12.keep rfl, hR.f13.keep rfl, hR.f14.keep rfl, hR.f15.keep rfl, hR.f16.keep rfl, hR.f17.keep rfl, hR.f18.keep rfl⟩⟩
    refine EachOf.cons [2] rfl (by kernel_rfl) ?_ ?_
    · rintro L A W ⟨v, g, rfl, hR⟩ hi hw K hK
      have e2 := hR.f2 (hw 2 (by simp))
      simp only [e2]
      clear e2
      go_simp
      refine hK.out _ _ ?_
      exact ⟨(fun jz => if jz = 123 then .bool true else if jz = 124 then .pointer (some ⟨y7.heap.size, 0, none⟩) else v jz), g, rfl, ⟨hR.st, hR.f0.keep rfl, hR.f1.keep rfl, (fun _ => rfl), (fun _ => rfl), hR.f4.keep rfl, hR.f5.keep rfl, hR.f6.keep rfl, hR.f7.keep rfl, hR.f8.keep rfl, hR.f9.keep rfl, hR.f10.keep rfl, hR.f11.keep rfl, hR.f12.keep rfl, hR.f13.keep rfl, hR.f14.keep rfl, hR.f15.keep rfl, hR.f16.keep rfl, hR.f17.keep rfl, hR.f18.keep rfl⟩⟩
    refine EachOf.cons [3, 2] rfl (by kernel_rfl) ?_ ?_
    · rintro L A W ⟨v, g, rfl, hR⟩ hi hw K hK
      have e3 := hR.f3 (hw 3 (by simp))
      have e2 := hR.f2 (hw 2 (by simp))
      simp only [e3, e2]
      clear e3 e2
      obtain ⟨_, q0, q1⟩ := B5.out.on hR.st
      go_simp
      refine hK.out _ _ ?_
      exact ⟨(fun jz => if jz = 124 then .pointer (some ⟨y7.heap.size, 0, none⟩) else if jz = 123 then .bool true else if jz = 125 then .int .i64 n4 else v jz), g, rfl, ⟨hR.st, hR.f0.keep rfl, hR.f1.keep rfl, (fun _ => rfl), (fun _ => rfl), (fun _ => rfl), hR.f5.keep rfl, hR.f6.keep rfl, hR.f7.keep rfl, hR.f8.keep rfl, hR.f9.keep rfl, hR.f10.keep rfl, hR.f11.keep rfl, hR.f12.keep rfl, hR.f13.keep rfl, hR.f14.keep rfl, hR.f15.keep rfl, hR.f16.keep rfl, hR.f17.keep rfl, hR.f18.keep rfl⟩⟩
    refine EachOf.cons [2] rfl (by kernel_rfl) ?_ ?_
    · rintro L A W ⟨v, g, rfl, hR⟩ hi hw K hK
      have e2 := hR.f2 (hw 2 (by simp))
      simp only [e2]
      clear e2
      go_simp
      refine hK.out _ _ ?_
      exact ⟨(fun jz => if jz = 123 then .bool true else if jz = 126 then .int .i64 x else v jz), g, rfl, ⟨hR.st, hR.f0.keep rfl, hR.f1.keep rfl, (fun _ => rfl), hR.f3.keep rfl, hR.f4.keep rfl, (fun _ => rfl), hR.f6.keep rfl, hR.f7.keep rfl, hR.f8.keep rfl, hR.f9.keep rfl, hR.f10.keep rfl, hR.f11.keep rfl, hR.f12.keep rfl, hR.f13.keep rfl, hR.f14.keep rfl, hR.f15.keep rfl, hR.f16.keep rfl, hR.f17.keep rfl, hR.f18.keep rfl⟩⟩
    refine EachOf.cons [2] rfl (by kernel_rfl) ?_ ?_
    · rintro L A W ⟨v, g, rfl, hR⟩ hi hw K hK
      have e2 := hR.f2 (hw 2 (by simp))
      simp only [e2]
      clear e2
      go_simp
      refine hK.out _ _ ?_
      exact ⟨(fun jz => if jz = 123 then .bool true else if jz = 127 then .int .i64 y else v jz), g, rfl, ⟨hR.st, hR.f0.keep rfl, hR.f1.keep rfl, (fun _ => rfl), hR.f3.keep rfl, hR.f4.keep rfl, hR.f5.keep rfl, (fun _ => rfl), hR.f7.keep rfl, hR.f8.keep rfl, hR.f9.keep rfl, hR.f10.keep rfl, hR.f11.keep rfl, hR.f12.keep rfl, hR.f13.keep rfl, hR.f14.keep rfl, hR.f15.keep rfl, hR.f16.keep rfl, hR.f17.keep rfl, hR.f18.keep rfl⟩⟩
    refine EachOf.cons [5, 6, 2] rfl (by kernel_rfl) ?_ ?_
    · rintro L A W ⟨v, g, rfl, hR⟩ hi hw K hK
      have e5 := hR.f5 (hw 5 (by simp))
      have e6 := hR.f6 (hw 6 (by simp))
      have e2 := hR.f2 (hw 2 (by simp))
      simp only [e5, e6, e2]
      clear e5 e6 e2
      go_simp
      go_at_call 37
      (with_reducible refine ((FL _).out).mono ?_)
      rintro e w2 ⟨rfl, hb⟩
      go_simp
      refine hK.out _ _ ?_
      exact ⟨(fun jz => if jz = 126 then .int .i64 x else if jz = 127 then .int .i64 y else if jz = 123 then .bool true else if jz = 128 then .int .i64 r1 else v jz), g, rfl, ⟨below_on hR.st hb, hR.f0.keep rfl, hR.f1.keep rfl, (fun _ => rfl), hR.f3.keep rfl, hR.f4.keep rfl, (fun _ => rfl), (fun _ => rfl), (fun _ => rfl), hR.f8.keep rfl, hR.f9.keep rfl, hR.f10.keep rfl, hR.f11.keep rfl, hR.f12.keep rfl, hR.f13.keep rfl, hR.f14.keep rfl, hR.f15.keep rfl, hR.f16.keep rfl, hR.f17.keep rfl, hR.f18.keep rfl⟩⟩
    refine EachOf.cons [4, 7, 2] rfl (by kernel_rfl) ?_ ?_
    · rintro L A W ⟨v, g, rfl, hR⟩ hi hw K hK
      have e4 := hR.f4 (hw 4 (by simp))
      have e7 := hR.f7 (hw 7 (by simp))
      have e2 := hR.f2 (hw 2 (by simp))
      simp only [e4, e7, e2]
      clear e4 e7 e2
      go_simp
      refine hK.out _ _ ?_
      exact ⟨(fun jz => if jz = 125 then .int .i64 n4 else if jz = 128 then .int .i64 r1 else if jz = 123 then .bool true else if jz = 129 then .bool true else v jz), g, rfl, ⟨hR.st, hR.f0.keep rfl, hR.f1.keep rfl, (fun _ => rfl), hR.f3.keep rfl, (fun _ => rfl), hR.f5.keep rfl, hR.f6.keep rfl, (fun _ => rfl), (fun _ => rfl), hR.f9.keep rfl, hR.f10.keep rfl, hR.f11.keep rfl, hR.f12.keep rfl, hR.f13.keep rfl, hR.f14.keep rfl, hR.f15.keep rfl, hR.f16.keep rfl, hR.f17.keep rfl, hR.f18.keep rfl⟩⟩
    refine EachOf.cons [2, 8] rfl (by kernel_rfl) ?_ ?_
    · rintro L A W ⟨v, g, rfl, hR⟩ hi hw K hK
      have e2 := hR.f2 (hw 2 (by simp))
      have e8 := hR.f8 (hw 8 (by simp))
      simp only [e2, e8]
      clear e2 e8
      go_simp
      refine hK.out _ _ ?_
      exact ⟨(fun jz => if jz = 123 then .bool true else if jz = 129 then .bool true else if jz = 130 then .bool true else v jz), g, rfl, ⟨hR.st, hR.f0.keep rfl, hR.f1.keep rfl, (fun _ => rfl), hR.f3.keep rfl, hR.f4.keep rfl, hR.f5.keep rfl, hR.f6.keep rfl, hR.f7.keep rfl, (fun _ => rfl), (fun _ => rfl), hR.f10.keep rfl, hR.f11.keep rfl, hR.f12.keep rfl, hR.f13.keep rfl, hR.f14.keep rfl, hR.f15.keep rfl, hR.f16.keep rfl, hR.f17.keep rfl, hR.f18.keep rfl⟩⟩
    refine EachOf.cons [9] rfl (by kernel_rfl) ?_ ?_
    · rintro L A W ⟨v, g, rfl, hR⟩ hi hw K hK
      have e9 := hR.f9 (hw 9 (by simp))
      simp only [e9]
      clear e9
      go_simp
      refine hK.out _ _ ?_
      exact ⟨(fun jz => if jz = 130 then .bool true else if jz = 131 then .bool true else v jz), g, rfl, ⟨hR.st, hR.f0.keep rfl, hR.f1.keep rfl, hR.f2.keep rfl, hR.f3.keep rfl, hR.f4.keep rfl, hR.f5.keep rfl, hR.f6.keep rfl, hR.f7.keep rfl, hR.f8.keep rfl, (fun _ => rfl), (fun _ => rfl), hR.f11.keep rfl, hR.f12.keep rfl, hR.f13.keep rfl, hR.f14.keep rfl, hR.f15.keep rfl, hR.f16.keep rfl, hR.f17.keep rfl, hR.f18.keep rfl⟩⟩
    refine EachOf.cons [10] rfl (by kernel_rfl) ?_ ?_
    · rintro L A W ⟨v, g, rfl, hR⟩ hi hw K hK
      have e10 := hR.f10 (hw 10 (by simp))
      simp only [e10]
      clear e10
      go_simp
      refine hK.out _ _ ?_
      exact ⟨(fun jz => if jz = 131 then .bool true else if jz = 132 then .int .i64 x else v jz), g, rfl, ⟨hR.st, hR.f0.keep rfl, hR.f1.keep rfl, hR.f2.keep rfl, hR.f3.keep rfl, hR.f4.keep rfl, hR.f5.keep rfl, hR.f6.keep rfl, hR.f7.keep rfl, hR.f8.keep rfl, hR.f9.keep rfl, (fun _ => rfl), (fun _ => rfl), hR.f12.keep rfl, hR.f13.keep rfl, hR.f14.keep rfl, hR.f15.keep rfl, hR.f16.keep rfl, hR.f17.keep rfl, hR.f18.keep rfl⟩⟩
    refine EachOf.cons [10] rfl (by kernel_rfl) ?_ ?_
    · rintro L A W ⟨v, g, rfl, hR⟩ hi hw K hK
      have e10 := hR.f10 (hw 10 (by simp))
      simp only [e10]
      clear e10
      go_simp
      refine hK.out _ _ ?_
      exact ⟨(fun jz => if jz = 131 then .bool true else if jz = 133 then .int .i64 y else v jz), g, rfl, ⟨hR.st, hR.f0.keep rfl, hR.f1.keep rfl, hR.f2.keep rfl, hR.f3.keep rfl, hR.f4.keep rfl, hR.f5.keep rfl, hR.f6.keep rfl, hR.f7.keep rfl, hR.f8.keep rfl, hR.f9.keep rfl, (fun _ => rfl), hR.f11.keep rfl, (fun _ => rfl), hR.f13.keep rfl, hR.f14.keep rfl, hR.f15.keep rfl, hR.f16.keep rfl, hR.f17.keep rfl, hR.f18.keep rfl⟩⟩
    refine EachOf.cons [11, 12, 10] rfl (by kernel_rfl) ?_ ?_
    · rintro L A W ⟨v, g, rfl, hR⟩ hi hw K hK
      have e11 := hR.f11 (hw 11 (by simp))
      have e12 := hR.f12 (hw 12 (by simp))
      have e10 := hR.f10 (hw 10 (by simp))
      simp only [e11, e12, e10]
      clear e11 e12 e10
      go_simp
      go_at_call 38
      (with_reducible refine ((CE _).out).mono ?_)
      rintro e w2 ⟨rfl, hb⟩
      go_simp
      refine hK.out _ _ ?_
      exact ⟨(fun jz => if jz = 132 then .int .i64 x else if jz = 133 then .int .i64 y else if jz = 131 then .bool true else if jz = 134 then .int .i64 r2 else v jz), g, rfl, ⟨below_on hR.st hb, hR.f0.keep rfl, hR.f1.keep rfl, hR.f2.keep rfl, hR.f3.keep rfl, hR.f4.keep rfl, hR.f5.keep rfl, hR.f6.keep rfl, hR.f7.keep rfl, hR.f8.keep rfl, hR.f9.keep rfl, (fun _ => rfl), (fun _ => rfl), (fun _ => rfl), (fun _ => rfl), hR.f14.keep rfl, hR.f15.keep rfl, hR.f16.keep rfl, hR.f17.keep rfl, hR.f18.keep rfl⟩⟩
    refine EachOf.cons [10] rfl (by kernel_rfl) ?_ ?_
    · rintro L A W ⟨v, g, rfl, hR⟩ hi hw K hK
      have e10 := hR.f10 (hw 10 (by simp))
      simp only [e10]
      clear e10
      go_simp
      refine hK.out _ _ ?_
      exact ⟨(fun jz => if jz = 131 then .bool true else if jz = 135 then .pointer (some ⟨y7.heap.size, 1, none⟩) else v jz), g, rfl, ⟨hR.st, hR.f0.keep rfl, hR.f1.keep rfl, hR.f2.keep rfl, hR.f3.keep rfl, hR.f4.keep rfl, hR.f5.keep rfl, hR.f6.keep rfl, hR.f7.keep rfl, hR.f8.keep rfl, hR.f9.keep rfl, (fun _ => rfl), hR.f11.keep rfl, hR.f12.keep rfl, hR.f13.keep rfl, (fun _ => rfl), hR.f15.keep rfl, hR.f16.keep rfl, hR.f17.keep rfl, hR.f18.keep rfl⟩⟩
    refine EachOf.cons [14, 10] rfl (by kernel_rfl) ?_ ?_
    · rintro L A W ⟨v, g, rfl, hR⟩ hi hw K hK
      have e14 := hR.f14 (hw 14 (by simp))
      have e10 := hR.f10 (hw 10 (by simp))
      simp only [e14, e10]
      clear e14 e10
      obtain ⟨_, q0, q1⟩ := B5.out.on hR.st
      go_simp
      refine hK.out _ _ ?_
      exact ⟨(fun jz => if jz = 135 then .pointer (some ⟨y7.heap.size, 1, none⟩) else if jz = 131 then .bool true else if jz = 136 then .int .i64 d4 else v jz), g, rfl, ⟨hR.st, hR.f0.keep rfl, hR.f1.keep rfl, hR.f2.keep rfl, hR.f3.keep rfl, hR.f4.keep rfl, hR.f5.keep rfl, hR.f6.keep rfl, hR.f7.keep rfl, hR.f8.keep rfl, hR.f9.keep rfl, (fun _ => rfl), hR.f11.keep rfl, hR.f12.keep rfl, hR.f13.keep rfl, (fun _ => rfl), (fun _ => rfl), hR.f16.keep rfl, hR.f17.keep rfl, hR.f18.keep rfl⟩⟩
    refine EachOf.cons [13, 15, 10] rfl (by kernel_rfl) ?_ ?_
    · rintro L A W ⟨v, g, rfl, hR⟩ hi hw K hK
      have e13 := hR.f13 (hw 13 (by simp))
      have e15 := hR.f15 (hw 15 (by simp))
      have e10 := hR.f10 (hw 10 (by simp))
      simp only [e13, e15, e10]
      clear e13 e15 e10
      go_simp
      refine hK.out _ _ ?_
      exact ⟨(fun jz => if jz = 134 then .int .i64 r2 else if jz = 136 then .int .i64 d4 else if jz = 131 then .bool true else if jz = 137 then .bool true else v jz), g, rfl, ⟨hR.st, hR.f0.keep rfl, hR.f1.keep rfl, hR.f2.keep rfl, hR.f3.keep rfl, hR.f4.keep rfl, hR.f5.keep rfl, hR.f6.keep rfl, hR.f7.keep rfl, hR.f8.keep rfl, hR.f9.keep rfl, (fun _ => rfl), hR.f11.keep rfl, hR.f12.keep rfl, (fun _ => rfl), hR.f14.keep rfl, (fun _ => rfl), (fun _ => rfl), hR.f17.keep rfl, hR.f18.keep rfl⟩⟩
    refine EachOf.cons [10, 16] rfl (by kernel_rfl) ?_ ?_
    · rintro L A W ⟨v, g, rfl, hR⟩ hi hw K hK
      have e10 := hR.f10 (hw 10 (by simp))
      have e16 := hR.f16 (hw 16 (by simp))
      simp only [e10, e16]
      clear e10 e16
      go_simp
      refine hK.out _ _ ?_
      exact ⟨(fun jz => if jz = 131 then .bool true else if jz = 137 then .bool true else if jz = 138 then .bool true else v jz), g, rfl, ⟨hR.st, hR.f0.keep rfl, hR.f1.keep rfl, hR.f2.keep rfl, hR.f3.keep rfl, hR.f4.keep rfl, hR.f5.keep rfl, hR.f6.keep rfl, hR.f7.keep rfl, hR.f8.keep rfl, hR.f9.keep rfl, (fun _ => rfl), hR.f11.keep rfl, hR.f12.keep rfl, hR.f13.keep rfl, hR.f14.keep rfl, hR.f15.keep rfl, (fun _ => rfl), (fun _ => rfl), hR.f18.keep rfl⟩⟩
    refine EachOf.cons [17] rfl (by kernel_rfl) ?_ ?_
    · rintro L A W ⟨v, g, rfl, hR⟩ hi hw K hK
      have e17 := hR.f17 (hw 17 (by simp))
      simp only [e17]
      clear e17
      go_simp
      refine hK.out _ _ ?_
      exact ⟨(fun jz => if jz = 138 then .bool true else if jz = 8 then .bool true else v jz), g, rfl, ⟨hR.st, hR.f0.keep rfl, hR.f1.keep rfl, hR.f2.keep rfl, hR.f3.keep rfl, hR.f4.keep rfl, hR.f5.keep rfl, hR.f6.keep rfl, hR.f7.keep rfl, hR.f8.keep rfl, hR.f9.keep rfl, hR.f10.keep rfl, hR.f11.keep rfl, hR.f12.keep rfl, hR.f13.keep rfl, hR.f14.keep rfl, hR.f15.keep rfl, hR.f16.keep rfl, (fun _ => rfl), (fun _ => rfl)⟩⟩
    exact EachOf.nil
  rintro L A W2 ⟨v2, g2, rfl, hR⟩ hL
  have e18 := hR.f18 (hL 18 (by simp))
  have hst := Lib.hid hR.st
  simp only [e18]
  clear e18
  clear hR hL
  replace B0 := Lib.hid (B0.out.on hst.out)
  replace B1 := Lib.hid (B1.out.on hst.out)
  replace B2 := Lib.hid (B2.out.on hst.out)
  replace B3 := Lib.hid (B3.out.on hst.out)
  replace B4 := Lib.hid (B4.out.on hst.out)
  replace B5 := Lib.hid (B5.out.on hst.out)
  replace HW := Lib.hid (below_on HW.out hst.out)
  go_wp2_with fail
  go_ret
  exact ⟨rfl, HW.out⟩

structure In015R (w : World) (al ah bl bh i j x y n1 d1 e1 n2 d2 e2 n3 d3 e3 n4 d4 e4 r1 r2 : Int) (Wc : World) (L : Nat → Bool) (v : Nat → Value) (g : Nat → Nat) (W : World) : Prop where
  st : Below Wc.heap.size Wc W
  f0 : Had L 0 (v 31 = .agg #[.int .i64 al, .int .i64 ah])
  f1 : Had L 1 (v 32 = .int .u64 i)
  f2 : Had L 2 (v 33 = .int .i64 x)
  f3 : Had L 3 (v 34 = .agg #[.int .i64 bl, .int .i64 bh])
  f4 : Had L 4 (v 35 = .int .u64 j)
  f5 : Had L 5 (v 36 = .int .i64 y)
  f6 : Had L 6 (v 9 = .int .i64 x)
  f7 : Had L 7 (v 10 = .int .i64 y)

set_option maxRecDepth 100000 in
set_option maxHeartbeats 16000000 in
theorem inside_BZ (al ah bl bh i j n3 d3 : Int) (w : World) (va : SVd al ah) (vb : SVd bl bh) (i0 : 0 ≤ i) (i1 : i < 18446744073709551616) (j0 : 0 ≤ j) (j1 : j < 18446744073709551616) (hm : mul4 (al * bl) (al * bh) (ah * bl) (ah * bh) = (n3, d3, 5)) (hz : (bl ≤ 0 ∧ 0 ≤ bh)) :
    Calls Try.prog 6 #[.agg #[.int .i64 al, .int .i64 ah], .agg #[.int .i64 bl, .int .i64 bh], .int .u64 i, .int .u64 j] w fun e w' => e = .returned (.bool true) ∧ Below w.heap.size w w' := by
  have ha := sV_yes va
  have hb := sV_yes vb
  have VA := fun w => Lib.hid (rsValid_any al ah w)
  have VB := fun w => Lib.hid (rsValid_any bl bh w)
  simp only [ha] at VA
  simp only [hb] at VB
  have A1 := fun w => Lib.hid (at_any al ah i w va i0 i1)
  have A2 := fun w => Lib.hid (at_any bl bh j w vb j0 j1)
  obtain ⟨x0, x1⟩ := atV_bd va.m i
  obtain ⟨y0, y1⟩ := atV_bd vb.m j
  obtain ⟨x, hx⟩ : ∃ x, atV al ah i = x := ⟨_, rfl⟩
  obtain ⟨y, hy⟩ : ∃ x, atV bl bh j = x := ⟨_, rfl⟩
  rw [hx] at x0 x1
  rw [hy] at y0 y1
  simp only [hx] at A1
  simp only [hy] at A2
  clear hx hy
  have va' := va; have vb' := vb
  obtain ⟨va1, va2, va3⟩ := va'
  obtain ⟨vb1, vb2, vb3⟩ := vb'
  obtain ⟨n1, d1, e1, g1⟩ : ∃ a b c, sAdd al ah bl bh = (a, b, c) := ⟨_, _, _, rfl⟩
  obtain ⟨n2, d2, e2, g2⟩ : ∃ a b c, sSub al ah bl bh = (a, b, c) := ⟨_, _, _, rfl⟩
  have C1 := fun w => Lib.hid (sAdd_any al ah bl bh w (by omega) (by omega) (by omega) (by omega) (by omega) (by omega) (by omega) (by omega) n1 d1 e1 g1)
  have C2 := fun w => Lib.hid (sSub_any al ah bl bh w (by omega) (by omega) (by omega) (by omega) (by omega) (by omega) (by omega) (by omega) n2 d2 e2 g2)
  have h1 : (0 = e1 ∧ ∀ w, Hid (Calls Try.prog 35 #[.agg #[.int .i64 n1, .int .i64 d1], .int .i64 (x + y)] w fun e w' => e = .returned (.bool true) ∧ Below w.heap.size w w')) ∨ 5 = e1 := by
    unfold sAdd at g1
    rw [okS_yes ha hb] at g1
    unfold fitS at g1
    split at g1
    · obtain ⟨q1, q2, q3⟩ := three g1
      exact .inl ⟨q3, fun w => has_yes _ _ _ w (by omega) (by omega)⟩
    · obtain ⟨q1, q2, q3⟩ := three g1
      exact .inr q3
  have h2 : (0 = e2 ∧ ∀ w, Hid (Calls Try.prog 35 #[.agg #[.int .i64 n2, .int .i64 d2], .int .i64 (x - y)] w fun e w' => e = .returned (.bool true) ∧ Below w.heap.size w w')) ∨ 5 = e2 := by
    unfold sSub at g2
    rw [okS_yes ha hb] at g2
    unfold fitS at g2
    split at g2
    · obtain ⟨q1, q2, q3⟩ := three g2
      exact .inl ⟨q3, fun w => has_yes _ _ _ w (by omega) (by omega)⟩
    · obtain ⟨q1, q2, q3⟩ := three g2
      exact .inr q3
  have C3 := fun w => Lib.hid (sMul_any al ah bl bh w (by omega) (by omega) (by omega) (by omega) (by omega) (by omega) (by omega) (by omega) n3 d3 5 (by unfold sMul; rw [okS_yes ha hb, mulS_eq]; exact hm))
  obtain ⟨n4, hn4⟩ : ∃ z : Int, 0 = z := ⟨_, rfl⟩
  obtain ⟨d4, hd4⟩ : ∃ z : Int, 0 = z := ⟨_, rfl⟩
  have C4 := fun w => Lib.hid (sDiv_any al ah bl bh w (by omega) (by omega) (by omega) (by omega) (by omega) (by omega) (by omega) (by omega) n4 d4 16 (by rw [← hn4, ← hd4]; unfold sDiv divS; rw [okS_yes ha hb, if_pos hz]))
  have HZ := fun w => Lib.hid (has_yes bl bh 0 w hz.1 hz.2)
  obtain ⟨r1, r2, _⟩ : ∃ a b : Int, True := ⟨0, 0, trivial⟩
  clear hn4 hd4
  obtain ⟨e3, he3⟩ : ∃ z : Int, 0 = z := ⟨_, rfl⟩
  obtain ⟨e4, he4⟩ : ∃ z : Int, 0 = z := ⟨_, rfl⟩
  have k0 : -2305843009213693952 ≤ x + y := by omega
  have k1 : x + y ≤ 2305843009213693952 := by omega
  have k2 : -2305843009213693952 ≤ x - y := by omega
  have k3 : x - y ≤ 2305843009213693952 := by omega
  have k4 : -1152921504606846976 ≤ x := by omega
  have k5 : x ≤ 1152921504606846976 := by omega
  have k6 : -1152921504606846976 ≤ y := by omega
  have k7 : y ≤ 1152921504606846976 := by omega
  clear he3 he4 ha hb va vb g1 g2 hm hz x0 x1 y0 y1 va1 va2 va3 vb1 vb2 vb3
  have HW := Lib.hid (Below.refl w.heap.size w)
  have AW := fun w => Lib.hid (sawake_any w)
  go_enter Try.func6, Try.ntmps6
  go_wp2_with fail
  (with_reducible refine ((AW _).out).mono ?_)
  rintro e y1 ⟨rfl, hb⟩
  have hst := Lib.hid (below_on (w := w) (by repeat' (first | (with_reducible exact Below.refl _ _) | (with_reducible assumption) | (with_reducible refine Below.alloc ?_ ?_ _) | (with_reducible refine below_drew ?_ _) | (with_reducible refine Below.drew ?_) | (with_reducible refine Below.setCell ?_ ?_ _) | go_size)) hb)
  have B0 : Hid (Blk y1 (w.heap.size) (.int .i64 al) (.int .i64 ah)) := Blk.on (W := ((w.alloc (Obj.cells #[Value.int .i64 al, Value.int .i64 ah] 23)).alloc (Obj.cells #[Value.int .i64 bl, Value.int .i64 bh] 23))) (by first | exact Blk.new _ _ _ _ | exact (Blk.new _ _ _ _).alloc _ | exact ((Blk.new _ _ _ _).alloc _).alloc _ | (have hn := Blk.new (w) (Value.int .i64 al) (Value.int .i64 ah) 23; simpa using hn)) hb
  have B1 : Hid (Blk y1 (w.heap.size + 1) (.int .i64 bl) (.int .i64 bh)) := Blk.on (W := ((w.alloc (Obj.cells #[Value.int .i64 al, Value.int .i64 ah] 23)).alloc (Obj.cells #[Value.int .i64 bl, Value.int .i64 bh] 23))) (by first | exact Blk.new _ _ _ _ | exact (Blk.new _ _ _ _).alloc _ | exact ((Blk.new _ _ _ _).alloc _).alloc _ | (have hn := Blk.new ((w.alloc (Obj.cells #[Value.int .i64 al, Value.int .i64 ah] 23))) (Value.int .i64 bl) (Value.int .i64 bh) 23; simpa using hn)) hb
  clear hb
  replace HW := Lib.hid (below_on HW.out hst.out)
  clear hst
  obtain ⟨_, B0p, B0q⟩ := B0.out
  go_wp2_with fail
  (with_reducible refine ((VA _).out).mono ?_)
  rintro e y2 ⟨rfl, hb⟩
  clear B0p B0q
  have hst := Lib.hid hb
  clear hb
  replace B0 := Lib.hid (B0.out.on hst.out)
  replace B1 := Lib.hid (B1.out.on hst.out)
  replace HW := Lib.hid (below_on HW.out hst.out)
  clear hst
  obtain ⟨_, B1p, B1q⟩ := B1.out
  go_wp2_with fail
  (with_reducible refine ((VB _).out).mono ?_)
  rintro e y3 ⟨rfl, hb⟩
  clear B1p B1q
  have hst := Lib.hid hb
  clear hb
  replace B0 := Lib.hid (B0.out.on hst.out)
  replace B1 := Lib.hid (B1.out.on hst.out)
  replace HW := Lib.hid (below_on HW.out hst.out)
  clear hst
  go_wp2_with fail
  refine wp_region_each (fun L A W => ∃ (v : Nat → Value) (g : Nat → Nat), A = ⟨#[.agg #[.int .i64 al, .int .i64 ah], .agg #[.int .i64 bl, .int .i64 bh], .int .u64 i, .int .u64 j, .pointer (some ⟨w.heap.size, 0, none⟩), .pointer (some ⟨w.heap.size + 1, 0, none⟩), undef, undef, .bool false, v 9, v 10, undef, undef, undef, undef, undef, undef, undef, undef, undef, undef, .bool true, .bool false, .agg #[.int .i64 al, .int .i64 ah], .bool true, .bool false, .bool false, .agg #[.int .i64 bl, .int .i64 bh], .bool true, .bool false, .bool false, v 31, v 32, v 33, v 34, v 35, v 36, undef, undef, undef, undef, undef, undef, undef, undef, undef, undef, undef, undef, undef, undef, undef, undef, undef, undef, undef, undef, undef, undef, undef, undef, undef, undef, undef, undef, undef, undef, undef, undef, undef, undef, undef, undef, undef, undef, undef, undef, undef, undef, undef, undef, undef, undef, undef, undef, undef, undef, undef, undef, undef, undef, undef, undef, undef, undef, undef, undef, undef, undef, undef, undef, undef, undef, undef, undef, undef, undef, undef, undef, undef, undef, undef, undef, undef, undef, undef, undef, undef, undef, undef, undef, undef, undef, undef, undef, undef, undef, undef, undef, undef, undef, undef, undef, undef, undef, undef, undef, undef, undef], []⟩ ∧ In015R w al ah bl bh i j x y n1 d1 e1 n2 d2 e2 n3 d3 e3 n4 d4 e4 r1 r2 y3 L v g W) (by kernel_rfl) (by kernel_rfl) ⟨fun _ => undef, fun _ => 0, rfl, ⟨Below.drew (Below.refl _ _), Had.none, Had.none, Had.none, Had.none, Had.none, Had.none, Had.none, Had.none⟩⟩ (rs := [0, 1, 2, 3, 4, 5, 6, 7]) (by kernel_rfl) ?_ ?_
  · refine EachOf.cons [] rfl (by kernel_rfl) ?_ ?_
    · rintro L A W ⟨v, g, rfl, hR⟩ hi hw K hK
      obtain ⟨_, q0, q1⟩ := B0.out.on hR.st
      go_simp
      refine hK.out _ _ ?_
      exact ⟨(fun jz => if jz = 31 then .agg #[.int .i64 al, .int .i64 ah] else v jz), g, rfl, ⟨hR.st, (fun _ => rfl), hR.f1.keep rfl, hR.f2.keep rfl, hR.f3.keep rfl, hR.f4.keep rfl, hR.f5.keep rfl, hR.f6.keep rfl, hR.f7.keep rfl⟩⟩
    refine EachOf.cons [] rfl (by kernel_rfl) ?_ ?_
    · rintro L A W ⟨v, g, rfl, hR⟩ hi hw K hK
      go_simp
      refine hK.out _ _ ?_
      exact ⟨(fun jz => if jz = 32 then .int .u64 i else v jz), g, rfl, ⟨hR.st, hR.f0.keep rfl, (fun _ => rfl), hR.f2.keep rfl, hR.f3.keep rfl, hR.f4.keep rfl, hR.f5.keep rfl, hR.f6.keep rfl, hR.f7.keep rfl⟩⟩
    refine EachOf.cons [0, 1] rfl (by kernel_rfl) ?_ ?_
    · rintro L A W ⟨v, g, rfl, hR⟩ hi hw K hK
      have e0 := hR.f0 (hw 0 (by simp))
      have e1 := hR.f1 (hw 1 (by simp))
      simp only [e0, e1]
      clear e0 e1
      go_simp
      go_at_call 34
      (with_reducible refine ((A1 _).out).mono ?_)
      rintro e w2 ⟨rfl, hb⟩
      go_simp
      refine hK.out _ _ ?_
      exact ⟨(fun jz => if jz = 31 then .agg #[.int .i64 al, .int .i64 ah] else if jz = 32 then .int .u64 i else if jz = 33 then .int .i64 x else v jz), g, rfl, ⟨below_on hR.st hb, (fun _ => rfl), (fun _ => rfl), (fun _ => rfl), hR.f3.keep rfl, hR.f4.keep rfl, hR.f5.keep rfl, hR.f6.keep rfl, hR.f7.keep rfl⟩⟩
    refine EachOf.cons [] rfl (by kernel_rfl) ?_ ?_
    · rintro L A W ⟨v, g, rfl, hR⟩ hi hw K hK
      obtain ⟨_, q0, q1⟩ := B1.out.on hR.st
      go_simp
      refine hK.out _ _ ?_
      exact ⟨(fun jz => if jz = 34 then .agg #[.int .i64 bl, .int .i64 bh] else v jz), g, rfl, ⟨hR.st, hR.f0.keep rfl, hR.f1.keep rfl, hR.f2.keep rfl, (fun _ => rfl), hR.f4.keep rfl, hR.f5.keep rfl, hR.f6.keep rfl, hR.f7.keep rfl⟩⟩
    refine EachOf.cons [] rfl (by kernel_rfl) ?_ ?_
    · rintro L A W ⟨v, g, rfl, hR⟩ hi hw K hK
      go_simp
      refine hK.out _ _ ?_
      exact ⟨(fun jz => if jz = 35 then .int .u64 j else v jz), g, rfl, ⟨hR.st, hR.f0.keep rfl, hR.f1.keep rfl, hR.f2.keep rfl, hR.f3.keep rfl, (fun _ => rfl), hR.f5.keep rfl, hR.f6.keep rfl, hR.f7.keep rfl⟩⟩
    refine EachOf.cons [3, 4] rfl (by kernel_rfl) ?_ ?_
    · rintro L A W ⟨v, g, rfl, hR⟩ hi hw K hK
      have e3 := hR.f3 (hw 3 (by simp))
      have e4 := hR.f4 (hw 4 (by simp))
      simp only [e3, e4]
      clear e3 e4
      go_simp
      go_at_call 34
      (with_reducible refine ((A2 _).out).mono ?_)
      rintro e w2 ⟨rfl, hb⟩
      go_simp
      refine hK.out _ _ ?_
      exact ⟨(fun jz => if jz = 34 then .agg #[.int .i64 bl, .int .i64 bh] else if jz = 35 then .int .u64 j else if jz = 36 then .int .i64 y else v jz), g, rfl, ⟨below_on hR.st hb, hR.f0.keep rfl, hR.f1.keep rfl, hR.f2.keep rfl, (fun _ => rfl), (fun _ => rfl), (fun _ => rfl), hR.f6.keep rfl, hR.f7.keep rfl⟩⟩
    refine EachOf.cons [2] rfl (by kernel_rfl) ?_ ?_
    · rintro L A W ⟨v, g, rfl, hR⟩ hi hw K hK
      have e2 := hR.f2 (hw 2 (by simp))
      simp only [e2]
      clear e2
      go_simp
      refine hK.out _ _ ?_
      exact ⟨(fun jz => if jz = 33 then .int .i64 x else if jz = 9 then .int .i64 x else v jz), g, rfl, ⟨hR.st, hR.f0.keep rfl, hR.f1.keep rfl, (fun _ => rfl), hR.f3.keep rfl, hR.f4.keep rfl, hR.f5.keep rfl, (fun _ => rfl), hR.f7.keep rfl⟩⟩
    refine EachOf.cons [5] rfl (by kernel_rfl) ?_ ?_
    · rintro L A W ⟨v, g, rfl, hR⟩ hi hw K hK
      have e5 := hR.f5 (hw 5 (by simp))
      simp only [e5]
      clear e5
      go_simp
      refine hK.out _ _ ?_
      exact ⟨(fun jz => if jz = 36 then .int .i64 y else if jz = 10 then .int .i64 y else v jz), g, rfl, ⟨hR.st, hR.f0.keep rfl, hR.f1.keep rfl, hR.f2.keep rfl, hR.f3.keep rfl, hR.f4.keep rfl, (fun _ => rfl), hR.f6.keep rfl, (fun _ => rfl)⟩⟩
    exact EachOf.nil
  rintro L A W1 ⟨v1, g1, rfl, hR⟩ hL
  have e6 := hR.f6 (hL 6 (by simp))
  have e7 := hR.f7 (hL 7 (by simp))
  have hst := Lib.hid hR.st
  simp only [e6, e7]
  clear e6 e7
  clear hR hL
  replace B0 := Lib.hid (B0.out.on hst.out)
  replace B1 := Lib.hid (B1.out.on hst.out)
  replace HW := Lib.hid (below_on HW.out hst.out)
  clear AW VA VB A1 A2
  obtain ⟨_, B0p, B0q⟩ := B0.out
  obtain ⟨_, B1p, B1q⟩ := B1.out
  go_wp2_with fail
  (with_reducible refine ((C1 _).out).mono ?_)
  rintro e y4 ⟨rfl, hb⟩
  clear B0p B0q B1p B1q
  have hst := Lib.hid hb
  clear hb
  replace B0 := Lib.hid (B0.out.on hst.out)
  replace B1 := Lib.hid (B1.out.on hst.out)
  replace HW := Lib.hid (below_on HW.out hst.out)
  clear hst
  obtain ⟨_, B0p, B0q⟩ := B0.out
  obtain ⟨_, B1p, B1q⟩ := B1.out
  go_wp2_with fail
  (with_reducible refine ((C2 _).out).mono ?_)
  rintro e y5 ⟨rfl, hb⟩
  clear B0p B0q B1p B1q
  have hst := Lib.hid (below_on (w := y4) (by repeat' (first | (with_reducible exact Below.refl _ _) | (with_reducible assumption) | (with_reducible refine Below.alloc ?_ ?_ _) | (with_reducible refine below_drew ?_ _) | (with_reducible refine Below.drew ?_) | (with_reducible refine Below.setCell ?_ ?_ _) | go_size)) hb)
  have B2 : Hid (Blk y5 (y4.heap.size) (.int .i64 n1) (.int .i64 d1)) := Blk.on (W := (y4.alloc (Obj.cells #[Value.int .i64 n1, Value.int .i64 d1] 23))) (by first | exact Blk.new _ _ _ _ | exact (Blk.new _ _ _ _).alloc _ | exact ((Blk.new _ _ _ _).alloc _).alloc _ | (have hn := Blk.new (y4) (Value.int .i64 n1) (Value.int .i64 d1) 23; simpa using hn)) hb
  clear hb
  replace B0 := Lib.hid (B0.out.on hst.out)
  replace B1 := Lib.hid (B1.out.on hst.out)
  replace HW := Lib.hid (below_on HW.out hst.out)
  clear hst
  obtain ⟨_, B0p, B0q⟩ := B0.out
  obtain ⟨_, B1p, B1q⟩ := B1.out
  go_wp2_with fail
  (with_reducible refine ((C3 _).out).mono ?_)
  rintro e y6 ⟨rfl, hb⟩
  clear B0p B0q B1p B1q
  have hst := Lib.hid (below_on (w := y5) (by repeat' (first | (with_reducible exact Below.refl _ _) | (with_reducible assumption) | (with_reducible refine Below.alloc ?_ ?_ _) | (with_reducible refine below_drew ?_ _) | (with_reducible refine Below.drew ?_) | (with_reducible refine Below.setCell ?_ ?_ _) | go_size)) hb)
  have B3 : Hid (Blk y6 (y5.heap.size) (.int .i64 n2) (.int .i64 d2)) := Blk.on (W := (y5.alloc (Obj.cells #[Value.int .i64 n2, Value.int .i64 d2] 23))) (by first | exact Blk.new _ _ _ _ | exact (Blk.new _ _ _ _).alloc _ | exact ((Blk.new _ _ _ _).alloc _).alloc _ | (have hn := Blk.new (y5) (Value.int .i64 n2) (Value.int .i64 d2) 23; simpa using hn)) hb
  clear hb
  replace B0 := Lib.hid (B0.out.on hst.out)
  replace B1 := Lib.hid (B1.out.on hst.out)
  replace B2 := Lib.hid (B2.out.on hst.out)
  replace HW := Lib.hid (below_on HW.out hst.out)
  clear hst
  obtain ⟨_, B0p, B0q⟩ := B0.out
  obtain ⟨_, B1p, B1q⟩ := B1.out
  go_wp2_with fail
  (with_reducible refine ((C4 _).out).mono ?_)
  rintro e y7 ⟨rfl, hb⟩
  clear B0p B0q B1p B1q
  have hst := Lib.hid (below_on (w := y6) (by repeat' (first | (with_reducible exact Below.refl _ _) | (with_reducible assumption) | (with_reducible refine Below.alloc ?_ ?_ _) | (with_reducible refine below_drew ?_ _) | (with_reducible refine Below.drew ?_) | (with_reducible refine Below.setCell ?_ ?_ _) | go_size)) hb)
  have B4 : Hid (Blk y7 (y6.heap.size) (.int .i64 n3) (.int .i64 d3)) := Blk.on (W := (y6.alloc (Obj.cells #[Value.int .i64 n3, Value.int .i64 d3] 23))) (by first | exact Blk.new _ _ _ _ | exact (Blk.new _ _ _ _).alloc _ | exact ((Blk.new _ _ _ _).alloc _).alloc _ | (have hn := Blk.new (y6) (Value.int .i64 n3) (Value.int .i64 d3) 23; simpa using hn)) hb
  clear hb
  replace B0 := Lib.hid (B0.out.on hst.out)
  replace B1 := Lib.hid (B1.out.on hst.out)
  replace B2 := Lib.hid (B2.out.on hst.out)
  replace B3 := Lib.hid (B3.out.on hst.out)
  replace HW := Lib.hid (below_on HW.out hst.out)
  clear hst
  clear C1 C2 C3 C4
  go_upto_region 10 with fail
  obtain ⟨y8, hy⟩ : ∃ W, W = (y7.alloc (Obj.cells #[Value.int .i64 n4, Value.int .i64 d4] 23)) := ⟨_, rfl⟩
  rw [← hy]
  have hb : Below ((y7.alloc (Obj.cells #[Value.int .i64 n4, Value.int .i64 d4] 23))).heap.size ((y7.alloc (Obj.cells #[Value.int .i64 n4, Value.int .i64 d4] 23))) y8 := by rw [hy]; exact Below.refl _ _
  clear hy
  have hst := Lib.hid (below_on (w := y7) (by repeat' (first | (with_reducible exact Below.refl _ _) | (with_reducible assumption) | (with_reducible refine Below.alloc ?_ ?_ _) | (with_reducible refine below_drew ?_ _) | (with_reducible refine Below.drew ?_) | (with_reducible refine Below.setCell ?_ ?_ _) | go_size)) hb)
  have B5 : Hid (Blk y8 (y7.heap.size) (.int .i64 n4) (.int .i64 d4)) := Blk.on (W := (y7.alloc (Obj.cells #[Value.int .i64 n4, Value.int .i64 d4] 23))) (by first | exact Blk.new _ _ _ _ | exact (Blk.new _ _ _ _).alloc _ | (have hn := Blk.new (y7) (Value.int .i64 n4) (Value.int .i64 d4) 23; simpa using hn)) hb
  clear hb
  replace B0 := Lib.hid (B0.out.on hst.out)
  replace B1 := Lib.hid (B1.out.on hst.out)
  replace B2 := Lib.hid (B2.out.on hst.out)
  replace B3 := Lib.hid (B3.out.on hst.out)
  replace B4 := Lib.hid (B4.out.on hst.out)
  replace HW := Lib.hid (below_on HW.out hst.out)
  clear hst
  go_cut [98] (fun s98 wx => s98 = .bool false ∧ Blk wx (w.heap.size) (.int .i64 al) (.int .i64 ah) ∧ Blk wx (w.heap.size + 1) (.int .i64 bl) (.int .i64 bh) ∧ Blk wx (y4.heap.size) (.int .i64 n1) (.int .i64 d1) ∧ Blk wx (y5.heap.size) (.int .i64 n2) (.int .i64 d2) ∧ Blk wx (y6.heap.size) (.int .i64 n3) (.int .i64 d3) ∧ Blk wx (y7.heap.size) (.int .i64 n4) (.int .i64 d4) ∧ Below w.heap.size w wx)
  case first =>
    rcases h1 with ⟨rfl, I1⟩ | rfl <;> rcases h2 with ⟨rfl, I2⟩ | rfl
    · obtain ⟨_, B2p, B2q⟩ := B2.out
      go_wp2_with fail
      (with_reducible refine ((I1 _).out).mono ?_)
      rintro e y9 ⟨rfl, hb⟩
      clear B2p B2q
      have hst := Lib.hid hb
      clear hb
      replace B0 := Lib.hid (B0.out.on hst.out)
      replace B1 := Lib.hid (B1.out.on hst.out)
      replace B2 := Lib.hid (B2.out.on hst.out)
      replace B3 := Lib.hid (B3.out.on hst.out)
      replace B4 := Lib.hid (B4.out.on hst.out)
      replace B5 := Lib.hid (B5.out.on hst.out)
      replace HW := Lib.hid (below_on HW.out hst.out)
      clear hst
      obtain ⟨_, B3p, B3q⟩ := B3.out
      go_wp2_with fail
      (with_reducible refine ((I2 _).out).mono ?_)
      rintro e y10 ⟨rfl, hb⟩
      clear B3p B3q
      have hst := Lib.hid hb
      clear hb
      replace B0 := Lib.hid (B0.out.on hst.out)
      replace B1 := Lib.hid (B1.out.on hst.out)
      replace B2 := Lib.hid (B2.out.on hst.out)
      replace B3 := Lib.hid (B3.out.on hst.out)
      replace B4 := Lib.hid (B4.out.on hst.out)
      replace B5 := Lib.hid (B5.out.on hst.out)
      replace HW := Lib.hid (below_on HW.out hst.out)
      clear hst
      go_wp2_with fail
      go_meet
      exact ⟨rfl, B0.out, B1.out, B2.out, B3.out, B4.out, B5.out, HW.out⟩
    · obtain ⟨_, B2p, B2q⟩ := B2.out
      go_wp2_with fail
      (with_reducible refine ((I1 _).out).mono ?_)
      rintro e y11 ⟨rfl, hb⟩
      clear B2p B2q
      have hst := Lib.hid hb
      clear hb
      replace B0 := Lib.hid (B0.out.on hst.out)
      replace B1 := Lib.hid (B1.out.on hst.out)
      replace B2 := Lib.hid (B2.out.on hst.out)
      replace B3 := Lib.hid (B3.out.on hst.out)
      replace B4 := Lib.hid (B4.out.on hst.out)
      replace B5 := Lib.hid (B5.out.on hst.out)
      replace HW := Lib.hid (below_on HW.out hst.out)
      clear hst
      go_wp2_with fail
      go_meet
      exact ⟨rfl, B0.out, B1.out, B2.out, B3.out, B4.out, B5.out, HW.out⟩
    · obtain ⟨_, B3p, B3q⟩ := B3.out
      go_wp2_with fail
      (with_reducible refine ((I2 _).out).mono ?_)
      rintro e y12 ⟨rfl, hb⟩
      clear B3p B3q
      have hst := Lib.hid hb
      clear hb
      replace B0 := Lib.hid (B0.out.on hst.out)
      replace B1 := Lib.hid (B1.out.on hst.out)
      replace B2 := Lib.hid (B2.out.on hst.out)
      replace B3 := Lib.hid (B3.out.on hst.out)
      replace B4 := Lib.hid (B4.out.on hst.out)
      replace B5 := Lib.hid (B5.out.on hst.out)
      replace HW := Lib.hid (below_on HW.out hst.out)
      clear hst
      go_wp2_with fail
      go_meet
      exact ⟨rfl, B0.out, B1.out, B2.out, B3.out, B4.out, B5.out, HW.out⟩
    · go_wp2_with fail
      go_meet
      exact ⟨rfl, B0.out, B1.out, B2.out, B3.out, B4.out, B5.out, HW.out⟩
  case rest =>
  clear B0 B1 B2 B3 B4 B5 HW
  rename World => c101
  obtain ⟨rfl, kB0, kB1, kB2, kB3, kB4, kB5, hb⟩ := hcut
  have B0 := Lib.hid kB0
  have B1 := Lib.hid kB1
  have B2 := Lib.hid kB2
  have B3 := Lib.hid kB3
  have B4 := Lib.hid kB4
  have B5 := Lib.hid kB5
  have HW := Lib.hid hb
  clear hb kB0 kB1 kB2 kB3 kB4 kB5
  clear h1 h2
  obtain ⟨_, B1p, B1q⟩ := B1.out
  go_wp2_with fail
  (with_reducible refine ((HZ _).out).mono ?_)
  rintro e y13 ⟨rfl, hb⟩
  clear B1p B1q
  have hst := Lib.hid hb
  clear hb
  replace B0 := Lib.hid (B0.out.on hst.out)
  replace B1 := Lib.hid (B1.out.on hst.out)
  replace B2 := Lib.hid (B2.out.on hst.out)
  replace B3 := Lib.hid (B3.out.on hst.out)
  replace B4 := Lib.hid (B4.out.on hst.out)
  replace B5 := Lib.hid (B5.out.on hst.out)
  replace HW := Lib.hid (below_on HW.out hst.out)
  clear hst
  obtain ⟨_, B0p, B0q⟩ := B0.out
  obtain ⟨_, B1p, B1q⟩ := B1.out
  obtain ⟨_, B2p, B2q⟩ := B2.out
  obtain ⟨_, B3p, B3q⟩ := B3.out
  obtain ⟨_, B4p, B4q⟩ := B4.out
  obtain ⟨_, B5p, B5q⟩ := B5.out
  go_wp2_with fail
  go_ret
  exact ⟨rfl, HW.out⟩

set_option maxRecDepth 100000 in
set_option maxHeartbeats 8000000 in
theorem inside_noA (al ah bl bh i j : Int) (w : World) (ha : sV al ah = false) :
    Calls Try.prog 6 #[.agg #[.int .i64 al, .int .i64 ah], .agg #[.int .i64 bl, .int .i64 bh], .int .u64 i, .int .u64 j] w fun e w' => e = .returned (.bool true) ∧ Below w.heap.size w w' := by
  have VA := fun w => Lib.hid (rsValid_any al ah w)
  have VB := fun w => Lib.hid (rsValid_any bl bh w)
  simp only [ha] at VA
  clear ha
  have HW := Lib.hid (Below.refl w.heap.size w)
  have AW := fun w => Lib.hid (sawake_any w)
  go_enter Try.func6, Try.ntmps6
  go_wp2_with fail
  (with_reducible refine ((AW _).out).mono ?_)
  rintro e y1 ⟨rfl, hb⟩
  have hst := Lib.hid (below_on (w := w) (by repeat' (first | (with_reducible exact Below.refl _ _) | (with_reducible assumption) | (with_reducible refine Below.alloc ?_ ?_ _) | (with_reducible refine below_drew ?_ _) | (with_reducible refine Below.drew ?_) | (with_reducible refine Below.setCell ?_ ?_ _) | go_size)) hb)
  have B0 : Hid (Blk y1 (w.heap.size) (.int .i64 al) (.int .i64 ah)) := Blk.on (W := ((w.alloc (Obj.cells #[Value.int .i64 al, Value.int .i64 ah] 23)).alloc (Obj.cells #[Value.int .i64 bl, Value.int .i64 bh] 23))) (by first | exact Blk.new _ _ _ _ | exact (Blk.new _ _ _ _).alloc _ | exact ((Blk.new _ _ _ _).alloc _).alloc _ | (have hn := Blk.new (w) (Value.int .i64 al) (Value.int .i64 ah) 23; simpa using hn)) hb
  have B1 : Hid (Blk y1 (w.heap.size + 1) (.int .i64 bl) (.int .i64 bh)) := Blk.on (W := ((w.alloc (Obj.cells #[Value.int .i64 al, Value.int .i64 ah] 23)).alloc (Obj.cells #[Value.int .i64 bl, Value.int .i64 bh] 23))) (by first | exact Blk.new _ _ _ _ | exact (Blk.new _ _ _ _).alloc _ | exact ((Blk.new _ _ _ _).alloc _).alloc _ | (have hn := Blk.new ((w.alloc (Obj.cells #[Value.int .i64 al, Value.int .i64 ah] 23))) (Value.int .i64 bl) (Value.int .i64 bh) 23; simpa using hn)) hb
  clear hb
  replace HW := Lib.hid (below_on HW.out hst.out)
  clear hst
  obtain ⟨_, B0p, B0q⟩ := B0.out
  go_wp2_with fail
  (with_reducible refine ((VA _).out).mono ?_)
  rintro e y2 ⟨rfl, hb⟩
  clear B0p B0q
  have hst := Lib.hid hb
  clear hb
  replace B0 := Lib.hid (B0.out.on hst.out)
  replace B1 := Lib.hid (B1.out.on hst.out)
  replace HW := Lib.hid (below_on HW.out hst.out)
  clear hst
  go_wp2_with fail
  go_ret
  exact ⟨rfl, HW.out⟩

set_option maxRecDepth 100000 in
set_option maxHeartbeats 8000000 in
theorem inside_noB (al ah bl bh i j : Int) (w : World) (ha : sV al ah = true) (hb : sV bl bh = false) :
    Calls Try.prog 6 #[.agg #[.int .i64 al, .int .i64 ah], .agg #[.int .i64 bl, .int .i64 bh], .int .u64 i, .int .u64 j] w fun e w' => e = .returned (.bool true) ∧ Below w.heap.size w w' := by
  have VA := fun w => Lib.hid (rsValid_any al ah w)
  have VB := fun w => Lib.hid (rsValid_any bl bh w)
  simp only [ha] at VA
  simp only [hb] at VB
  clear ha hb
  have HW := Lib.hid (Below.refl w.heap.size w)
  have AW := fun w => Lib.hid (sawake_any w)
  go_enter Try.func6, Try.ntmps6
  go_wp2_with fail
  (with_reducible refine ((AW _).out).mono ?_)
  rintro e y1 ⟨rfl, hb⟩
  have hst := Lib.hid (below_on (w := w) (by repeat' (first | (with_reducible exact Below.refl _ _) | (with_reducible assumption) | (with_reducible refine Below.alloc ?_ ?_ _) | (with_reducible refine below_drew ?_ _) | (with_reducible refine Below.drew ?_) | (with_reducible refine Below.setCell ?_ ?_ _) | go_size)) hb)
  have B0 : Hid (Blk y1 (w.heap.size) (.int .i64 al) (.int .i64 ah)) := Blk.on (W := ((w.alloc (Obj.cells #[Value.int .i64 al, Value.int .i64 ah] 23)).alloc (Obj.cells #[Value.int .i64 bl, Value.int .i64 bh] 23))) (by first | exact Blk.new _ _ _ _ | exact (Blk.new _ _ _ _).alloc _ | exact ((Blk.new _ _ _ _).alloc _).alloc _ | (have hn := Blk.new (w) (Value.int .i64 al) (Value.int .i64 ah) 23; simpa using hn)) hb
  have B1 : Hid (Blk y1 (w.heap.size + 1) (.int .i64 bl) (.int .i64 bh)) := Blk.on (W := ((w.alloc (Obj.cells #[Value.int .i64 al, Value.int .i64 ah] 23)).alloc (Obj.cells #[Value.int .i64 bl, Value.int .i64 bh] 23))) (by first | exact Blk.new _ _ _ _ | exact (Blk.new _ _ _ _).alloc _ | exact ((Blk.new _ _ _ _).alloc _).alloc _ | (have hn := Blk.new ((w.alloc (Obj.cells #[Value.int .i64 al, Value.int .i64 ah] 23))) (Value.int .i64 bl) (Value.int .i64 bh) 23; simpa using hn)) hb
  clear hb
  replace HW := Lib.hid (below_on HW.out hst.out)
  clear hst
  obtain ⟨_, B0p, B0q⟩ := B0.out
  go_wp2_with fail
  (with_reducible refine ((VA _).out).mono ?_)
  rintro e y2 ⟨rfl, hb⟩
  clear B0p B0q
  have hst := Lib.hid hb
  clear hb
  replace B0 := Lib.hid (B0.out.on hst.out)
  replace B1 := Lib.hid (B1.out.on hst.out)
  replace HW := Lib.hid (below_on HW.out hst.out)
  clear hst
  obtain ⟨_, B1p, B1q⟩ := B1.out
  go_wp2_with fail
  (with_reducible refine ((VB _).out).mono ?_)
  rintro e y3 ⟨rfl, hb⟩
  clear B1p B1q
  have hst := Lib.hid hb
  clear hb
  replace B0 := Lib.hid (B0.out.on hst.out)
  replace B1 := Lib.hid (B1.out.on hst.out)
  replace HW := Lib.hid (below_on HW.out hst.out)
  clear hst
  go_wp2_with fail
  go_ret
  exact ⟨rfl, HW.out⟩

theorem inside_walk (al ah bl bh i j : Int) (w : World) (a0 : -9223372036854775808 ≤ al) (a1 : al ≤ 9223372036854775807) (a2 : -9223372036854775808 ≤ ah) (a3 : ah ≤ 9223372036854775807) (b0 : -9223372036854775808 ≤ bl) (b1 : bl ≤ 9223372036854775807) (b2 : -9223372036854775808 ≤ bh) (b3 : bh ≤ 9223372036854775807) (i0 : 0 ≤ i) (i1 : i < 18446744073709551616) (j0 : 0 ≤ j) (j1 : j < 18446744073709551616) :
    Calls Try.prog 6 #[.agg #[.int .i64 al, .int .i64 ah], .agg #[.int .i64 bl, .int .i64 bh], .int .u64 i, .int .u64 j] w fun e w' => e = .returned (.bool true) ∧ Below w.heap.size w w' := by
  by_cases ha : sV al ah = true
  · by_cases hb : sV bl bh = true
    · obtain ⟨n3, d3, e3, hm⟩ : ∃ a b c, mul4 (al * bl) (al * bh) (ah * bl) (ah * bh) = (a, b, c) := ⟨_, _, _, rfl⟩
      have va := sV_vd ha
      have vb := sV_vd hb
      rcases mul4_err hm with rfl | rfl <;> by_cases hz : bl ≤ 0 ∧ 0 ≤ bh
      · exact inside_FZ al ah bl bh i j n3 d3 w va vb i0 i1 j0 j1 hm hz
      · exact inside_FN al ah bl bh i j n3 d3 w va vb i0 i1 j0 j1 hm hz
      · exact inside_BZ al ah bl bh i j n3 d3 w va vb i0 i1 j0 j1 hm hz
      · exact inside_BN al ah bl bh i j n3 d3 w va vb i0 i1 j0 j1 hm hz
    · exact inside_noB al ah bl bh i j w ha (by simpa using hb)
  · exact inside_noA al ah bl bh i j w (by simpa using ha)

end Go.Proofs.Ytknbhpnhnhfbpaa
