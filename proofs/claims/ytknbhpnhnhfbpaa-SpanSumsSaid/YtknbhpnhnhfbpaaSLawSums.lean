/- The walk of the law SpanSums. -/
import Derived.Test.YtknbhpnhnhfbpaaS6
import Derived.Test.YtknbhpnhnhfbpaaS7
namespace Go.Proofs.Ytknbhpnhnhfbpaa
set_option linter.unusedVariables false
open Go.RowKit Go.Shelf

structure SumsY7R (w : World) (al ah bl bh n1 d1 e1 n2 d2 e2 n3 d3 e3 n4 d4 e4 : Int) (Wc : World) (L : Nat → Bool) (v : Nat → Value) (g : Nat → Nat) (W : World) : Prop where
  st : Below Wc.heap.size Wc W
  f0 : Had L 0 (v 45 = .agg #[.int .i64 al, .int .i64 ah])
  f1 : Had L 1 (v 46 = .bool true)
  f2 : Had L 2 (v 47 = .agg #[.int .i64 al, .int .i64 ah])
  f3 : Had L 3 (v 48 = .bool true)
  f4 : Had L 4 (v 49 = .bool false)
  f5 : Had L 5 (v 50 = .bool false)
  f6 : Had L 6 (v 51 = .agg #[.int .i64 bl, .int .i64 bh])
  f7 : Had L 7 (v 52 = .bool true)
  f8 : Had L 8 (v 53 = .agg #[.int .i64 bl, .int .i64 bh])
  f9 : Had L 9 (v 54 = .bool true)
  f10 : Had L 10 (v 55 = .bool false)
  f11 : Had L 11 (v 56 = .bool false)

structure SumsY14R (w : World) (al ah bl bh n1 d1 e1 n2 d2 e2 n3 d3 e3 n4 d4 e4 : Int) (Wc : World) (L : Nat → Bool) (v : Nat → Value) (g : Nat → Nat) (W : World) : Prop where
  st : Below Wc.heap.size Wc W
  f0 : Had L 0 (v 101 = .agg #[.int .i64 n1, .int .i64 d1])
  f1 : Had L 1 (v 102 = .agg #[.int .i64 n1, .int .i64 d1])
  f2 : Had L 2 (v 103 = .bool true)
  f3 : Had L 3 (v 104 = .bool true)
  f4 : Had L 4 (v 105 = .int .i64 e1)
  f5 : Had L 5 (v 106 = .int .i64 e1)
  f6 : Had L 6 (v 107 = .bool true)
  f7 : Had L 7 (v 108 = .bool true)
  f8 : Had L 8 (v 109 = .bool true)
  f9 : Had L 9 (v 110 = .agg #[.int .i64 n2, .int .i64 d2])
  f10 : Had L 10 (v 111 = .agg #[.int .i64 n2, .int .i64 d2])
  f11 : Had L 11 (v 112 = .bool true)
  f12 : Had L 12 (v 113 = .bool true)
  f13 : Had L 13 (v 114 = .bool true)
  f14 : Had L 14 (v 115 = .int .i64 e2)
  f15 : Had L 15 (v 116 = .int .i64 e2)
  f16 : Had L 16 (v 117 = .bool true)
  f17 : Had L 17 (v 118 = .bool true)
  f18 : Had L 18 (v 119 = .bool true)
  f19 : Had L 19 (v 120 = .int .i64 0)
  f20 : Had L 20 (v 121 = .bool true)
  f21 : Had L 21 (v 122 = .bool true)
  f22 : Had L 22 (v 123 = .bool true)
  f23 : Had L 23 (v 124 = .agg #[.int .i64 n3, .int .i64 d3])
  f24 : Had L 24 (v 125 = .agg #[.int .i64 al, .int .i64 ah])
  f25 : Had L 25 (v 126 = .agg #[.int .i64 bl, .int .i64 bh])
  f26 : Had L 26 (v 127 = .agg #[.int .i64 n3, .int .i64 d3])
  f27 : Had L 27 (v 128 = .bool true)
  f28 : Had L 28 (v 129 = .bool true)
  f29 : Had L 29 (v 130 = .bool true)
  f30 : Had L 30 (v 131 = .agg #[.int .i64 n4, .int .i64 d4])
  f31 : Had L 31 (v 132 = .agg #[.int .i64 n4, .int .i64 d4])
  f32 : Had L 32 (v 133 = .bool true)
  f33 : Had L 33 (v 134 = .bool true)
  f34 : Had L 34 (v 135 = .bool true)
  f35 : Had L 35 (v 136 = .int .i64 e4)
  f36 : Had L 36 (v 137 = .int .i64 e4)
  f37 : Had L 37 (v 138 = .bool true)
  f38 : Had L 38 (v 139 = .bool true)
  f39 : Had L 39 (v 4 = .bool true)

set_option maxRecDepth 100000 in
set_option maxHeartbeats 16000000 in
theorem sums_Y (al ah bl bh : Int) (w : World) (a0 : -9223372036854775808 ≤ al) (a1 : al ≤ 9223372036854775807) (a2 : -9223372036854775808 ≤ ah) (a3 : ah ≤ 9223372036854775807) (b0 : -9223372036854775808 ≤ bl) (b1 : bl ≤ 9223372036854775807) (b2 : -9223372036854775808 ≤ bh) (b3 : bh ≤ 9223372036854775807) (va : SVd al ah) (vb : SVd bl bh) :
    Calls Try.prog 3 #[.agg #[.int .i64 al, .int .i64 ah], .agg #[.int .i64 bl, .int .i64 bh]] w fun e w' => e = .returned (.bool true) ∧ Below w.heap.size w w' := by
  have ha := sV_yes va
  have hb := sV_yes vb
  obtain ⟨n1, d1, e1, h1⟩ : ∃ a b c, fitS (al + bl) (ah + bh) = (a, b, c) := ⟨_, _, _, rfl⟩
  obtain ⟨n2, d2, e2, h2⟩ : ∃ a b c, fitS (al - bh) (ah - bl) = (a, b, c) := ⟨_, _, _, rfl⟩
  obtain ⟨n4, d4, e4, h4⟩ : ∃ a b c, meetS al ah bl bh = (a, b, c) := ⟨_, _, _, rfl⟩
  have C1 := fun w => Lib.hid (sAdd_any al ah bl bh w a0 a1 a2 a3 b0 b1 b2 b3 n1 d1 e1 (by unfold sAdd; rw [okS_yes ha hb]; exact h1))
  have C2 := fun w => Lib.hid (sSub_any al ah bl bh w a0 a1 a2 a3 b0 b1 b2 b3 n2 d2 e2 (by unfold sSub; rw [okS_yes ha hb]; exact h2))
  have C3 := fun w => Lib.hid (sHull_any al ah bl bh w a0 a1 a2 a3 b0 b1 b2 b3 (min al bl) (max ah bh) 0 (by unfold sHull; rw [okS_yes ha hb]))
  have C4 := fun w => Lib.hid (sMeet_any al ah bl bh w a0 a1 a2 a3 b0 b1 b2 b3 n4 d4 e4 (by unfold sMeet; rw [okS_yes ha hb]; exact h4))
  have R1 := fun w => Lib.hid (rAdd_any al ah bl bh w va vb n1 d1 e1 h1)
  have R2 := fun w => Lib.hid (rSub_any al ah bl bh w va vb n2 d2 e2 h2)
  have R3 := fun w => Lib.hid (rHull_any al ah bl bh w)
  have R4 := fun w => Lib.hid (rMeet_any al ah bl bh w n4 d4 e4 h4)
  obtain ⟨n3, hn3⟩ : ∃ z, min al bl = z := ⟨_, rfl⟩
  obtain ⟨d3, hd3⟩ : ∃ z, max ah bh = z := ⟨_, rfl⟩
  simp only [hn3, hd3] at C3 R3
  obtain ⟨e3, he3⟩ : ∃ z : Int, 0 = z := ⟨_, rfl⟩
  clear hn3 hd3 he3 h1 h2 h4 va vb
  have VA := fun w => Lib.hid (sValid_any al ah w)
  have WA := fun w => Lib.hid (rsValid_any al ah w)
  have VB := fun w => Lib.hid (sValid_any bl bh w)
  have WB := fun w => Lib.hid (rsValid_any bl bh w)
  simp only [ha] at VA WA
  simp only [hb] at VB WB
  clear ha hb
  have HW := Lib.hid (Below.refl w.heap.size w)
  have AW := fun w => Lib.hid (sawake_any w)
  go_enter Try.func3, Try.ntmps3
  go_wp2_with fail
  (with_reducible refine ((AW _).out).mono ?_)
  rintro e y1 ⟨rfl, hb⟩
  have hst := Lib.hid (below_on (w := w) (by repeat' (first | (with_reducible exact Below.refl _ _) | (with_reducible assumption) | (with_reducible refine Below.alloc ?_ ?_ _) | (with_reducible refine below_drew ?_ _) | (with_reducible refine Below.drew ?_) | (with_reducible refine Below.setCell ?_ ?_ _) | go_size)) hb)
  have B0 : Hid (Blk y1 (w.heap.size) (.int .i64 al) (.int .i64 ah)) := Blk.on (W := ((w.alloc (Obj.cells #[Value.int .i64 al, Value.int .i64 ah] 23)).alloc (Obj.cells #[Value.int .i64 bl, Value.int .i64 bh] 23))) (by first | exact Blk.new _ _ _ _ | exact (Blk.new _ _ _ _).alloc _ | exact ((Blk.new _ _ _ _).alloc _).alloc _ | (have hn := Blk.new (w) (Value.int .i64 al) (Value.int .i64 ah) 23; simpa using hn)) hb
  have B1 : Hid (Blk y1 (w.heap.size + 1) (.int .i64 bl) (.int .i64 bh)) := Blk.on (W := ((w.alloc (Obj.cells #[Value.int .i64 al, Value.int .i64 ah] 23)).alloc (Obj.cells #[Value.int .i64 bl, Value.int .i64 bh] 23))) (by first | exact Blk.new _ _ _ _ | exact (Blk.new _ _ _ _).alloc _ | exact ((Blk.new _ _ _ _).alloc _).alloc _ | (have hn := Blk.new ((w.alloc (Obj.cells #[Value.int .i64 al, Value.int .i64 ah] 23))) (Value.int .i64 bl) (Value.int .i64 bh) 23; simpa using hn)) hb
  clear hb
  replace HW := Lib.hid (below_on HW.out hst.out)
  clear hst
  obtain ⟨_, B0p, B0q⟩ := B0.out
  obtain ⟨_, B1p, B1q⟩ := B1.out
  go_wp2_with fail
  (with_reducible refine ((C1 _).out).mono ?_)
  rintro e y2 ⟨rfl, hb⟩
  clear B0p B0q B1p B1q
  have hst := Lib.hid hb
  clear hb
  replace B0 := Lib.hid (B0.out.on hst.out)
  replace B1 := Lib.hid (B1.out.on hst.out)
  replace HW := Lib.hid (below_on HW.out hst.out)
  clear hst
  obtain ⟨_, B0p, B0q⟩ := B0.out
  obtain ⟨_, B1p, B1q⟩ := B1.out
  go_wp2_with fail
  (with_reducible refine ((C2 _).out).mono ?_)
  rintro e y3 ⟨rfl, hb⟩
  clear B0p B0q B1p B1q
  have hst := Lib.hid (below_on (w := y2) (by repeat' (first | (with_reducible exact Below.refl _ _) | (with_reducible assumption) | (with_reducible refine Below.alloc ?_ ?_ _) | (with_reducible refine below_drew ?_ _) | (with_reducible refine Below.drew ?_) | (with_reducible refine Below.setCell ?_ ?_ _) | go_size)) hb)
  have B2 : Hid (Blk y3 (y2.heap.size) (.int .i64 n1) (.int .i64 d1)) := Blk.on (W := (y2.alloc (Obj.cells #[Value.int .i64 n1, Value.int .i64 d1] 23))) (by first | exact Blk.new _ _ _ _ | exact (Blk.new _ _ _ _).alloc _ | exact ((Blk.new _ _ _ _).alloc _).alloc _ | (have hn := Blk.new (y2) (Value.int .i64 n1) (Value.int .i64 d1) 23; simpa using hn)) hb
  clear hb
  replace B0 := Lib.hid (B0.out.on hst.out)
  replace B1 := Lib.hid (B1.out.on hst.out)
  replace HW := Lib.hid (below_on HW.out hst.out)
  clear hst
  obtain ⟨_, B0p, B0q⟩ := B0.out
  obtain ⟨_, B1p, B1q⟩ := B1.out
  go_wp2_with fail
  (with_reducible refine ((C3 _).out).mono ?_)
  rintro e y4 ⟨rfl, hb⟩
  clear B0p B0q B1p B1q
  have hst := Lib.hid (below_on (w := y3) (by repeat' (first | (with_reducible exact Below.refl _ _) | (with_reducible assumption) | (with_reducible refine Below.alloc ?_ ?_ _) | (with_reducible refine below_drew ?_ _) | (with_reducible refine Below.drew ?_) | (with_reducible refine Below.setCell ?_ ?_ _) | go_size)) hb)
  have B3 : Hid (Blk y4 (y3.heap.size) (.int .i64 n2) (.int .i64 d2)) := Blk.on (W := (y3.alloc (Obj.cells #[Value.int .i64 n2, Value.int .i64 d2] 23))) (by first | exact Blk.new _ _ _ _ | exact (Blk.new _ _ _ _).alloc _ | exact ((Blk.new _ _ _ _).alloc _).alloc _ | (have hn := Blk.new (y3) (Value.int .i64 n2) (Value.int .i64 d2) 23; simpa using hn)) hb
  clear hb
  replace B0 := Lib.hid (B0.out.on hst.out)
  replace B1 := Lib.hid (B1.out.on hst.out)
  replace B2 := Lib.hid (B2.out.on hst.out)
  replace HW := Lib.hid (below_on HW.out hst.out)
  clear hst
  obtain ⟨_, B0p, B0q⟩ := B0.out
  obtain ⟨_, B1p, B1q⟩ := B1.out
  go_wp2_with fail
  (with_reducible refine ((C4 _).out).mono ?_)
  rintro e y5 ⟨rfl, hb⟩
  clear B0p B0q B1p B1q
  have hst := Lib.hid (below_on (w := y4) (by repeat' (first | (with_reducible exact Below.refl _ _) | (with_reducible assumption) | (with_reducible refine Below.alloc ?_ ?_ _) | (with_reducible refine below_drew ?_ _) | (with_reducible refine Below.drew ?_) | (with_reducible refine Below.setCell ?_ ?_ _) | go_size)) hb)
  have B4 : Hid (Blk y5 (y4.heap.size) (.int .i64 n3) (.int .i64 d3)) := Blk.on (W := (y4.alloc (Obj.cells #[Value.int .i64 n3, Value.int .i64 d3] 23))) (by first | exact Blk.new _ _ _ _ | exact (Blk.new _ _ _ _).alloc _ | exact ((Blk.new _ _ _ _).alloc _).alloc _ | (have hn := Blk.new (y4) (Value.int .i64 n3) (Value.int .i64 d3) 23; simpa using hn)) hb
  clear hb
  replace B0 := Lib.hid (B0.out.on hst.out)
  replace B1 := Lib.hid (B1.out.on hst.out)
  replace B2 := Lib.hid (B2.out.on hst.out)
  replace B3 := Lib.hid (B3.out.on hst.out)
  replace HW := Lib.hid (below_on HW.out hst.out)
  clear hst
  clear AW C1 C2 C3 C4
  go_wp2_with fail
  obtain ⟨y6, hy⟩ : ∃ W, W = (y5.alloc (Obj.cells #[Value.int .i64 n4, Value.int .i64 d4] 23)) := ⟨_, rfl⟩
  rw [← hy]
  have hb : Below ((y5.alloc (Obj.cells #[Value.int .i64 n4, Value.int .i64 d4] 23))).heap.size ((y5.alloc (Obj.cells #[Value.int .i64 n4, Value.int .i64 d4] 23))) y6 := by rw [hy]; exact Below.refl _ _
  clear hy
  have hst := Lib.hid (below_on (w := y5) (by repeat' (first | (with_reducible exact Below.refl _ _) | (with_reducible assumption) | (with_reducible refine Below.alloc ?_ ?_ _) | (with_reducible refine below_drew ?_ _) | (with_reducible refine Below.drew ?_) | (with_reducible refine Below.setCell ?_ ?_ _) | go_size)) hb)
  have B5 : Hid (Blk y6 (y5.heap.size) (.int .i64 n4) (.int .i64 d4)) := Blk.on (W := (y5.alloc (Obj.cells #[Value.int .i64 n4, Value.int .i64 d4] 23))) (by first | exact Blk.new _ _ _ _ | exact (Blk.new _ _ _ _).alloc _ | (have hn := Blk.new (y5) (Value.int .i64 n4) (Value.int .i64 d4) 23; simpa using hn)) hb
  clear hb
  replace B0 := Lib.hid (B0.out.on hst.out)
  replace B1 := Lib.hid (B1.out.on hst.out)
  replace B2 := Lib.hid (B2.out.on hst.out)
  replace B3 := Lib.hid (B3.out.on hst.out)
  replace B4 := Lib.hid (B4.out.on hst.out)
  replace HW := Lib.hid (below_on HW.out hst.out)
  clear hst
  refine wp_region_each (fun L A W => ∃ (v : Nat → Value) (g : Nat → Nat), A = ⟨#[.agg #[.int .i64 al, .int .i64 ah], .agg #[.int .i64 bl, .int .i64 bh], .pointer (some ⟨w.heap.size, 0, none⟩), .pointer (some ⟨w.heap.size + 1, 0, none⟩), .bool false, .pointer (some ⟨y2.heap.size, 0, none⟩), .int .i64 e1, .pointer (some ⟨y3.heap.size, 0, none⟩), .int .i64 e2, .pointer (some ⟨y4.heap.size, 0, none⟩), .int .i64 0, .pointer (some ⟨y5.heap.size, 0, none⟩), .int .i64 e4, undef, undef, undef, undef, undef, undef, .bool true, .bool false, .tuple #[.agg #[.int .i64 n1, .int .i64 d1], .int .i64 e1], .agg #[.int .i64 al, .int .i64 ah], .agg #[.int .i64 bl, .int .i64 bh], .tuple #[.agg #[.int .i64 n1, .int .i64 d1], .int .i64 e1], .agg #[.int .i64 n1, .int .i64 d1], .int .i64 e1, .tuple #[.agg #[.int .i64 n2, .int .i64 d2], .int .i64 e2], .agg #[.int .i64 al, .int .i64 ah], .agg #[.int .i64 bl, .int .i64 bh], .tuple #[.agg #[.int .i64 n2, .int .i64 d2], .int .i64 e2], .agg #[.int .i64 n2, .int .i64 d2], .int .i64 e2, .tuple #[.agg #[.int .i64 n3, .int .i64 d3], .int .i64 0], .agg #[.int .i64 al, .int .i64 ah], .agg #[.int .i64 bl, .int .i64 bh], .tuple #[.agg #[.int .i64 n3, .int .i64 d3], .int .i64 0], .agg #[.int .i64 n3, .int .i64 d3], .int .i64 0, .tuple #[.agg #[.int .i64 n4, .int .i64 d4], .int .i64 e4], .agg #[.int .i64 al, .int .i64 ah], .agg #[.int .i64 bl, .int .i64 bh], .tuple #[.agg #[.int .i64 n4, .int .i64 d4], .int .i64 e4], .agg #[.int .i64 n4, .int .i64 d4], .int .i64 e4, v 45, v 46, v 47, v 48, v 49, v 50, v 51, v 52, v 53, v 54, v 55, v 56, undef, undef, undef, undef, undef, undef, undef, undef, undef, undef, undef, undef, undef, undef, undef, undef, undef, undef, undef, undef, undef, undef, undef, undef, undef, undef, undef, undef, undef, undef, undef, undef, undef, undef, undef, undef, undef, undef, undef, undef, undef, undef, undef, undef, undef, undef, undef, undef, undef, undef, undef, undef, undef, undef, undef, undef, undef, undef, undef, undef, undef, undef, undef, undef, undef, undef, undef, undef, undef, undef, undef, undef, undef, undef, undef, undef, undef, undef, undef, undef, undef, undef, undef], []⟩ ∧ SumsY7R w al ah bl bh n1 d1 e1 n2 d2 e2 n3 d3 e3 n4 d4 e4 y6 L v g W) (by kernel_rfl) (by kernel_rfl) ⟨fun _ => undef, fun _ => 0, rfl, ⟨Below.drew (Below.refl _ _), Had.none, Had.none, Had.none, Had.none, Had.none, Had.none, Had.none, Had.none, Had.none, Had.none, Had.none, Had.none⟩⟩ (rs := [0, 1, 2, 3, 4, 5, 6, 7, 8, 9, 10, 11]) (by kernel_rfl) ?_ ?_
  · refine EachOf.cons [] rfl (by kernel_rfl) ?_ ?_
    · rintro L A W ⟨v, g, rfl, hR⟩ hi hw K hK
      obtain ⟨_, q0, q1⟩ := B0.out.on hR.st
      go_simp
      refine hK.out _ _ ?_
      exact ⟨(fun j => if j = 45 then .agg #[.int .i64 al, .int .i64 ah] else v j), g, rfl, ⟨hR.st, (fun _ => rfl), hR.f1.keep rfl, hR.f2.keep rfl, hR.f3.keep rfl, hR.f4.keep rfl, hR.f5.keep rfl, hR.f6.keep rfl, hR.f7.keep rfl, hR.f8.keep rfl, hR.f9.keep rfl, hR.f10.keep rfl, hR.f11.keep rfl⟩⟩
    refine EachOf.cons [0] rfl (by kernel_rfl) ?_ ?_
    · rintro L A W ⟨v, g, rfl, hR⟩ hi hw K hK
      have e0 := hR.f0 (hw 0 (by simp))
      simp only [e0]
      clear e0
      go_simp
      go_at_call 16
      (with_reducible refine ((VA _).out).mono ?_)
      rintro e w2 ⟨rfl, hb⟩
      go_simp
      refine hK.out _ _ ?_
      exact ⟨(fun j => if j = 45 then .agg #[.int .i64 al, .int .i64 ah] else if j = 46 then .bool true else v j), g, rfl, ⟨below_on hR.st hb, (fun _ => rfl), (fun _ => rfl), hR.f2.keep rfl, hR.f3.keep rfl, hR.f4.keep rfl, hR.f5.keep rfl, hR.f6.keep rfl, hR.f7.keep rfl, hR.f8.keep rfl, hR.f9.keep rfl, hR.f10.keep rfl, hR.f11.keep rfl⟩⟩
    refine EachOf.cons [] rfl (by kernel_rfl) ?_ ?_
    · rintro L A W ⟨v, g, rfl, hR⟩ hi hw K hK
      obtain ⟨_, q0, q1⟩ := B0.out.on hR.st
      go_simp
      refine hK.out _ _ ?_
      exact ⟨(fun j => if j = 47 then .agg #[.int .i64 al, .int .i64 ah] else v j), g, rfl, ⟨hR.st, hR.f0.keep rfl, hR.f1.keep rfl, (fun _ => rfl), hR.f3.keep rfl, hR.f4.keep rfl, hR.f5.keep rfl, hR.f6.keep rfl, hR.f7.keep rfl, hR.f8.keep rfl, hR.f9.keep rfl, hR.f10.keep rfl, hR.f11.keep rfl⟩⟩
    refine EachOf.cons [2] rfl (by kernel_rfl) ?_ ?_
    · rintro L A W ⟨v, g, rfl, hR⟩ hi hw K hK
      have e2 := hR.f2 (hw 2 (by simp))
      simp only [e2]
      clear e2
      go_simp
      go_at_call 17
      (with_reducible refine ((WA _).out).mono ?_)
      rintro e w2 ⟨rfl, hb⟩
      go_simp
      refine hK.out _ _ ?_
      exact ⟨(fun j => if j = 47 then .agg #[.int .i64 al, .int .i64 ah] else if j = 48 then .bool true else v j), g, rfl, ⟨below_on hR.st hb, hR.f0.keep rfl, hR.f1.keep rfl, (fun _ => rfl), (fun _ => rfl), hR.f4.keep rfl, hR.f5.keep rfl, hR.f6.keep rfl, hR.f7.keep rfl, hR.f8.keep rfl, hR.f9.keep rfl, hR.f10.keep rfl, hR.f11.keep rfl⟩⟩
    refine EachOf.cons [1, 3] rfl (by kernel_rfl) ?_ ?_
    · rintro L A W ⟨v, g, rfl, hR⟩ hi hw K hK
      have e1 := hR.f1 (hw 1 (by simp))
      have e3 := hR.f3 (hw 3 (by simp))
      simp only [e1, e3]
      clear e1 e3
      go_simp
      refine hK.out _ _ ?_
      exact ⟨(fun j => if j = 46 then .bool true else if j = 48 then .bool true else if j = 49 then .bool false else v j), g, rfl, ⟨hR.st, hR.f0.keep rfl, (fun _ => rfl), hR.f2.keep rfl, (fun _ => rfl), (fun _ => rfl), hR.f5.keep rfl, hR.f6.keep rfl, hR.f7.keep rfl, hR.f8.keep rfl, hR.f9.keep rfl, hR.f10.keep rfl, hR.f11.keep rfl⟩⟩
    refine EachOf.cons [4] rfl (by kernel_rfl) ?_ ?_
    · rintro L A W ⟨v, g, rfl, hR⟩ hi hw K hK
      have e4 := hR.f4 (hw 4 (by simp))
      simp only [e4]
      clear e4
      go_simp
      refine hK.out _ _ ?_
      exact ⟨(fun j => if j = 49 then .bool false else if j = 50 then .bool false else v j), g, rfl, ⟨hR.st, hR.f0.keep rfl, hR.f1.keep rfl, hR.f2.keep rfl, hR.f3.keep rfl, (fun _ => rfl), (fun _ => rfl), hR.f6.keep rfl, hR.f7.keep rfl, hR.f8.keep rfl, hR.f9.keep rfl, hR.f10.keep rfl, hR.f11.keep rfl⟩⟩
    refine EachOf.cons [5] rfl (by kernel_rfl) ?_ ?_
    · rintro L A W ⟨v, g, rfl, hR⟩ hi hw K hK
      have e5 := hR.f5 (hw 5 (by simp))
      simp only [e5]
      clear e5
      obtain ⟨_, q0, q1⟩ := B1.out.on hR.st
      go_simp
      refine hK.out _ _ ?_
      exact ⟨(fun j => if j = 50 then .bool false else if j = 51 then .agg #[.int .i64 bl, .int .i64 bh] else v j), g, rfl, ⟨hR.st, hR.f0.keep rfl, hR.f1.keep rfl, hR.f2.keep rfl, hR.f3.keep rfl, hR.f4.keep rfl, (fun _ => rfl), (fun _ => rfl), hR.f7.keep rfl, hR.f8.keep rfl, hR.f9.keep rfl, hR.f10.keep rfl, hR.f11.keep rfl⟩⟩
    refine EachOf.cons [6, 5] rfl (by kernel_rfl) ?_ ?_
    · rintro L A W ⟨v, g, rfl, hR⟩ hi hw K hK
      have e6 := hR.f6 (hw 6 (by simp))
      have e5 := hR.f5 (hw 5 (by simp))
      simp only [e6, e5]
      clear e6 e5
      go_simp
      go_at_call 16
      (with_reducible refine ((VB _).out).mono ?_)
      rintro e w2 ⟨rfl, hb⟩
      go_simp
      refine hK.out _ _ ?_
      exact ⟨(fun j => if j = 51 then .agg #[.int .i64 bl, .int .i64 bh] else if j = 50 then .bool false else if j = 52 then .bool true else v j), g, rfl, ⟨below_on hR.st hb, hR.f0.keep rfl, hR.f1.keep rfl, hR.f2.keep rfl, hR.f3.keep rfl, hR.f4.keep rfl, (fun _ => rfl), (fun _ => rfl), (fun _ => rfl), hR.f8.keep rfl, hR.f9.keep rfl, hR.f10.keep rfl, hR.f11.keep rfl⟩⟩
    refine EachOf.cons [5] rfl (by kernel_rfl) ?_ ?_
    · rintro L A W ⟨v, g, rfl, hR⟩ hi hw K hK
      have e5 := hR.f5 (hw 5 (by simp))
      simp only [e5]
      clear e5
      obtain ⟨_, q0, q1⟩ := B1.out.on hR.st
      go_simp
      refine hK.out _ _ ?_
      exact ⟨(fun j => if j = 50 then .bool false else if j = 53 then .agg #[.int .i64 bl, .int .i64 bh] else v j), g, rfl, ⟨hR.st, hR.f0.keep rfl, hR.f1.keep rfl, hR.f2.keep rfl, hR.f3.keep rfl, hR.f4.keep rfl, (fun _ => rfl), hR.f6.keep rfl, hR.f7.keep rfl, (fun _ => rfl), hR.f9.keep rfl, hR.f10.keep rfl, hR.f11.keep rfl⟩⟩
    refine EachOf.cons [8, 5] rfl (by kernel_rfl) ?_ ?_
    · rintro L A W ⟨v, g, rfl, hR⟩ hi hw K hK
      have e8 := hR.f8 (hw 8 (by simp))
      have e5 := hR.f5 (hw 5 (by simp))
      simp only [e8, e5]
      clear e8 e5
      go_simp
      go_at_call 17
      (with_reducible refine ((WB _).out).mono ?_)
      rintro e w2 ⟨rfl, hb⟩
      go_simp
      refine hK.out _ _ ?_
      exact ⟨(fun j => if j = 53 then .agg #[.int .i64 bl, .int .i64 bh] else if j = 50 then .bool false else if j = 54 then .bool true else v j), g, rfl, ⟨below_on hR.st hb, hR.f0.keep rfl, hR.f1.keep rfl, hR.f2.keep rfl, hR.f3.keep rfl, hR.f4.keep rfl, (fun _ => rfl), hR.f6.keep rfl, hR.f7.keep rfl, (fun _ => rfl), (fun _ => rfl), hR.f10.keep rfl, hR.f11.keep rfl⟩⟩
    refine EachOf.cons [7, 9, 5] rfl (by kernel_rfl) ?_ ?_
    · rintro L A W ⟨v, g, rfl, hR⟩ hi hw K hK
      have e7 := hR.f7 (hw 7 (by simp))
      have e9 := hR.f9 (hw 9 (by simp))
      have e5 := hR.f5 (hw 5 (by simp))
      simp only [e7, e9, e5]
      clear e7 e9 e5
      go_simp
      refine hK.out _ _ ?_
      exact ⟨(fun j => if j = 52 then .bool true else if j = 54 then .bool true else if j = 50 then .bool false else if j = 55 then .bool false else v j), g, rfl, ⟨hR.st, hR.f0.keep rfl, hR.f1.keep rfl, hR.f2.keep rfl, hR.f3.keep rfl, hR.f4.keep rfl, (fun _ => rfl), hR.f6.keep rfl, (fun _ => rfl), hR.f8.keep rfl, (fun _ => rfl), (fun _ => rfl), hR.f11.keep rfl⟩⟩
    refine EachOf.cons [5, 10] rfl (by kernel_rfl) ?_ ?_
    · rintro L A W ⟨v, g, rfl, hR⟩ hi hw K hK
      have e5 := hR.f5 (hw 5 (by simp))
      have e10 := hR.f10 (hw 10 (by simp))
      simp only [e5, e10]
      clear e5 e10
      go_simp
      refine hK.out _ _ ?_
      exact ⟨(fun j => if j = 50 then .bool false else if j = 55 then .bool false else if j = 56 then .bool false else v j), g, rfl, ⟨hR.st, hR.f0.keep rfl, hR.f1.keep rfl, hR.f2.keep rfl, hR.f3.keep rfl, hR.f4.keep rfl, (fun _ => rfl), hR.f6.keep rfl, hR.f7.keep rfl, hR.f8.keep rfl, hR.f9.keep rfl, (fun _ => rfl), (fun _ => rfl)⟩⟩
    exact EachOf.nil
  rintro L A W1 ⟨v1, g1, rfl, hR⟩ hL
  have e11 := hR.f11 (hL 11 (by simp))
  have hst := Lib.hid hR.st
  simp only [e11]
  clear e11
  clear hR hL
  replace B0 := Lib.hid (B0.out.on hst.out)
  replace B1 := Lib.hid (B1.out.on hst.out)
  replace B2 := Lib.hid (B2.out.on hst.out)
  replace B3 := Lib.hid (B3.out.on hst.out)
  replace B4 := Lib.hid (B4.out.on hst.out)
  replace B5 := Lib.hid (B5.out.on hst.out)
  replace HW := Lib.hid (below_on HW.out hst.out)
  obtain ⟨_, B0p, B0q⟩ := B0.out
  go_wp2_with fail
  (with_reducible refine ((WA _).out).mono ?_)
  rintro e y7 ⟨rfl, hb⟩
  clear B0p B0q
  have hst := Lib.hid hb
  clear hb
  replace B0 := Lib.hid (B0.out.on hst.out)
  replace B1 := Lib.hid (B1.out.on hst.out)
  replace B2 := Lib.hid (B2.out.on hst.out)
  replace B3 := Lib.hid (B3.out.on hst.out)
  replace B4 := Lib.hid (B4.out.on hst.out)
  replace B5 := Lib.hid (B5.out.on hst.out)
  replace HW := Lib.hid (below_on HW.out hst.out)
  clear hst
  obtain ⟨_, B1p, B1q⟩ := B1.out
  go_wp2_with fail
  (with_reducible refine ((WB _).out).mono ?_)
  rintro e y8 ⟨rfl, hb⟩
  clear B1p B1q
  have hst := Lib.hid hb
  clear hb
  replace B0 := Lib.hid (B0.out.on hst.out)
  replace B1 := Lib.hid (B1.out.on hst.out)
  replace B2 := Lib.hid (B2.out.on hst.out)
  replace B3 := Lib.hid (B3.out.on hst.out)
  replace B4 := Lib.hid (B4.out.on hst.out)
  replace B5 := Lib.hid (B5.out.on hst.out)
  replace HW := Lib.hid (below_on HW.out hst.out)
  clear hst
  obtain ⟨_, B0p, B0q⟩ := B0.out
  obtain ⟨_, B1p, B1q⟩ := B1.out
  go_wp2_with fail
  (with_reducible refine ((R1 _).out).mono ?_)
  rintro e y9 ⟨rfl, hb⟩
  clear B0p B0q B1p B1q
  have hst := Lib.hid hb
  clear hb
  replace B0 := Lib.hid (B0.out.on hst.out)
  replace B1 := Lib.hid (B1.out.on hst.out)
  replace B2 := Lib.hid (B2.out.on hst.out)
  replace B3 := Lib.hid (B3.out.on hst.out)
  replace B4 := Lib.hid (B4.out.on hst.out)
  replace B5 := Lib.hid (B5.out.on hst.out)
  replace HW := Lib.hid (below_on HW.out hst.out)
  clear hst
  obtain ⟨_, B0p, B0q⟩ := B0.out
  obtain ⟨_, B1p, B1q⟩ := B1.out
  go_wp2_with fail
  (with_reducible refine ((R2 _).out).mono ?_)
  rintro e y10 ⟨rfl, hb⟩
  clear B0p B0q B1p B1q
  have hst := Lib.hid (below_on (w := y9) (by repeat' (first | (with_reducible exact Below.refl _ _) | (with_reducible assumption) | (with_reducible refine Below.alloc ?_ ?_ _) | (with_reducible refine below_drew ?_ _) | (with_reducible refine Below.drew ?_) | (with_reducible refine Below.setCell ?_ ?_ _) | go_size)) hb)
  have B6 : Hid (Blk y10 (y9.heap.size) (.int .i64 n1) (.int .i64 d1)) := Blk.on (W := (y9.alloc (Obj.cells #[Value.int .i64 n1, Value.int .i64 d1] 23))) (by first | exact Blk.new _ _ _ _ | exact (Blk.new _ _ _ _).alloc _ | exact ((Blk.new _ _ _ _).alloc _).alloc _ | (have hn := Blk.new (y9) (Value.int .i64 n1) (Value.int .i64 d1) 23; simpa using hn)) hb
  clear hb
  replace B0 := Lib.hid (B0.out.on hst.out)
  replace B1 := Lib.hid (B1.out.on hst.out)
  replace B2 := Lib.hid (B2.out.on hst.out)
  replace B3 := Lib.hid (B3.out.on hst.out)
  replace B4 := Lib.hid (B4.out.on hst.out)
  replace B5 := Lib.hid (B5.out.on hst.out)
  replace HW := Lib.hid (below_on HW.out hst.out)
  clear hst
  obtain ⟨_, B0p, B0q⟩ := B0.out
  obtain ⟨_, B1p, B1q⟩ := B1.out
  go_wp2_with fail
  (with_reducible refine ((R4 _).out).mono ?_)
  rintro e y11 ⟨rfl, hb⟩
  clear B0p B0q B1p B1q
  have hst := Lib.hid (below_on (w := y10) (by repeat' (first | (with_reducible exact Below.refl _ _) | (with_reducible assumption) | (with_reducible refine Below.alloc ?_ ?_ _) | (with_reducible refine below_drew ?_ _) | (with_reducible refine Below.drew ?_) | (with_reducible refine Below.setCell ?_ ?_ _) | go_size)) hb)
  have B7 : Hid (Blk y11 (y10.heap.size) (.int .i64 n2) (.int .i64 d2)) := Blk.on (W := (y10.alloc (Obj.cells #[Value.int .i64 n2, Value.int .i64 d2] 23))) (by first | exact Blk.new _ _ _ _ | exact (Blk.new _ _ _ _).alloc _ | exact ((Blk.new _ _ _ _).alloc _).alloc _ | (have hn := Blk.new (y10) (Value.int .i64 n2) (Value.int .i64 d2) 23; simpa using hn)) hb
  clear hb
  replace B0 := Lib.hid (B0.out.on hst.out)
  replace B1 := Lib.hid (B1.out.on hst.out)
  replace B2 := Lib.hid (B2.out.on hst.out)
  replace B3 := Lib.hid (B3.out.on hst.out)
  replace B4 := Lib.hid (B4.out.on hst.out)
  replace B5 := Lib.hid (B5.out.on hst.out)
  replace B6 := Lib.hid (B6.out.on hst.out)
  replace HW := Lib.hid (below_on HW.out hst.out)
  clear hst
  go_wp2_with fail
  obtain ⟨y12, hy⟩ : ∃ W, W = (y11.alloc (Obj.cells #[Value.int .i64 n4, Value.int .i64 d4] 23)) := ⟨_, rfl⟩
  rw [← hy]
  have hb : Below ((y11.alloc (Obj.cells #[Value.int .i64 n4, Value.int .i64 d4] 23))).heap.size ((y11.alloc (Obj.cells #[Value.int .i64 n4, Value.int .i64 d4] 23))) y12 := by rw [hy]; exact Below.refl _ _
  clear hy
  have hst := Lib.hid (below_on (w := y11) (by repeat' (first | (with_reducible exact Below.refl _ _) | (with_reducible assumption) | (with_reducible refine Below.alloc ?_ ?_ _) | (with_reducible refine below_drew ?_ _) | (with_reducible refine Below.drew ?_) | (with_reducible refine Below.setCell ?_ ?_ _) | go_size)) hb)
  have B8 : Hid (Blk y12 (y11.heap.size) (.int .i64 n4) (.int .i64 d4)) := Blk.on (W := (y11.alloc (Obj.cells #[Value.int .i64 n4, Value.int .i64 d4] 23))) (by first | exact Blk.new _ _ _ _ | exact (Blk.new _ _ _ _).alloc _ | (have hn := Blk.new (y11) (Value.int .i64 n4) (Value.int .i64 d4) 23; simpa using hn)) hb
  clear hb
  replace B0 := Lib.hid (B0.out.on hst.out)
  replace B1 := Lib.hid (B1.out.on hst.out)
  replace B2 := Lib.hid (B2.out.on hst.out)
  replace B3 := Lib.hid (B3.out.on hst.out)
  replace B4 := Lib.hid (B4.out.on hst.out)
  replace B5 := Lib.hid (B5.out.on hst.out)
  replace B6 := Lib.hid (B6.out.on hst.out)
  replace B7 := Lib.hid (B7.out.on hst.out)
  replace HW := Lib.hid (below_on HW.out hst.out)
  clear hst
  refine wp_region_each (fun L A W => ∃ (v : Nat → Value) (g : Nat → Nat), A = ⟨#[.agg #[.int .i64 al, .int .i64 ah], .agg #[.int .i64 bl, .int .i64 bh], .pointer (some ⟨w.heap.size, 0, none⟩), .pointer (some ⟨w.heap.size + 1, 0, none⟩), v 4, .pointer (some ⟨y2.heap.size, 0, none⟩), .int .i64 e1, .pointer (some ⟨y3.heap.size, 0, none⟩), .int .i64 e2, .pointer (some ⟨y4.heap.size, 0, none⟩), .int .i64 0, .pointer (some ⟨y5.heap.size, 0, none⟩), .int .i64 e4, .pointer (some ⟨y9.heap.size, 0, none⟩), .int .i64 e1, .pointer (some ⟨y10.heap.size, 0, none⟩), .int .i64 e2, .pointer (some ⟨y11.heap.size, 0, none⟩), .int .i64 e4, .bool true, .bool false, .tuple #[.agg #[.int .i64 n1, .int .i64 d1], .int .i64 e1], .agg #[.int .i64 al, .int .i64 ah], .agg #[.int .i64 bl, .int .i64 bh], .tuple #[.agg #[.int .i64 n1, .int .i64 d1], .int .i64 e1], .agg #[.int .i64 n1, .int .i64 d1], .int .i64 e1, .tuple #[.agg #[.int .i64 n2, .int .i64 d2], .int .i64 e2], .agg #[.int .i64 al, .int .i64 ah], .agg #[.int .i64 bl, .int .i64 bh], .tuple #[.agg #[.int .i64 n2, .int .i64 d2], .int .i64 e2], .agg #[.int .i64 n2, .int .i64 d2], .int .i64 e2, .tuple #[.agg #[.int .i64 n3, .int .i64 d3], .int .i64 0], .agg #[.int .i64 al, .int .i64 ah], .agg #[.int .i64 bl, .int .i64 bh], .tuple #[.agg #[.int .i64 n3, .int .i64 d3], .int .i64 0], .agg #[.int .i64 n3, .int .i64 d3], .int .i64 0, .tuple #[.agg #[.int .i64 n4, .int .i64 d4], .int .i64 e4], .agg #[.int .i64 al, .int .i64 ah], .agg #[.int .i64 bl, .int .i64 bh], .tuple #[.agg #[.int .i64 n4, .int .i64 d4], .int .i64 e4], .agg #[.int .i64 n4, .int .i64 d4], .int .i64 e4, v1 45, v1 46, v1 47, v1 48, v1 49, v1 50, v1 51, v1 52, v1 53, v1 54, v1 55, .bool false, .agg #[.int .i64 al, .int .i64 ah], .bool true, .bool false, .bool false, .agg #[.int .i64 bl, .int .i64 bh], .bool true, .bool false, .bool false, undef, undef, undef, undef, undef, undef, undef, undef, undef, undef, undef, undef, undef, undef, undef, undef, undef, undef, .tuple #[.agg #[.int .i64 n1, .int .i64 d1], .int .i64 e1], .agg #[.int .i64 al, .int .i64 ah], .agg #[.int .i64 bl, .int .i64 bh], .tuple #[.agg #[.int .i64 n1, .int .i64 d1], .int .i64 e1], .agg #[.int .i64 n1, .int .i64 d1], .int .i64 e1, .tuple #[.agg #[.int .i64 n2, .int .i64 d2], .int .i64 e2], .agg #[.int .i64 al, .int .i64 ah], .agg #[.int .i64 bl, .int .i64 bh], .tuple #[.agg #[.int .i64 n2, .int .i64 d2], .int .i64 e2], .agg #[.int .i64 n2, .int .i64 d2], .int .i64 e2, .tuple #[.agg #[.int .i64 n4, .int .i64 d4], .int .i64 e4], .agg #[.int .i64 al, .int .i64 ah], .agg #[.int .i64 bl, .int .i64 bh], .tuple #[.agg #[.int .i64 n4, .int .i64 d4], .int .i64 e4], .agg #[.int .i64 n4, .int .i64 d4], .int .i64 e4, v 101, v 102, v 103, v 104, v 105, v 106, v 107, v 108, v 109, v 110, v 111, v 112, v 113, v 114, v 115, v 116, v 117, v 118, v 119, v 120, v 121, v 122, v 123, v 124, v 125, v 126, v 127, v 128, v 129, v 130, v 131, v 132, v 133, v 134, v 135, v 136, v 137, v 138, v 139], []⟩ ∧ SumsY14R w al ah bl bh n1 d1 e1 n2 d2 e2 n3 d3 e3 n4 d4 e4 y12 L v g W) (by kernel_rfl) (by kernel_rfl) ⟨fun j => if j = 4 then .bool false else undef, fun _ => 0, rfl, ⟨Below.drew (Below.refl _ _), Had.none, Had.none, Had.none, Had.none, Had.none, Had.none, Had.none, Had.none, Had.none, Had.none, Had.none, Had.none, Had.none, Had.none, Had.none, Had.none, Had.none, Had.none, Had.none, Had.none, Had.none, Had.none, Had.none, Had.none, Had.none, Had.none, Had.none, Had.none, Had.none, Had.none, Had.none, Had.none, Had.none, Had.none, Had.none, Had.none, Had.none, Had.none, Had.none, Had.none⟩⟩ (rs := [0, 1, 2, 3, 4, 5, 6, 7, 8, 9, 10, 11, 12, 13, 14, 15, 16, 17, 18, 19, 20, 21, 22, 23, 24, 25, 26, 27, 28, 29, 30, 31, 32, 33, 34, 35, 36, 37, 38, 39]) (by kernel_rfl) ?_ ?_
  · refine EachOf.cons [] rfl (by kernel_rfl) ?_ ?_
    · rintro L A W ⟨v, g, rfl, hR⟩ hi hw K hK
      obtain ⟨_, q0, q1⟩ := B2.out.on hR.st
      go_simp
      refine hK.out _ _ ?_
      exact ⟨(fun j => if j = 101 then .agg #[.int .i64 n1, .int .i64 d1] else v j), g, rfl, ⟨hR.st, (fun _ => rfl), hR.f1.keep rfl, hR.f2.keep rfl, hR.f3.keep rfl, hR.f4.keep rfl, hR.f5.keep rfl, hR.f6.keep rfl, hR.f7.keep rfl, hR.f8.keep rfl, hR.f9.keep rfl, hR.f10.keep rfl, hR.f11.keep rfl, hR.f12.keep rfl, hR.f13.keep rfl, hR.f14.keep rfl, hR.f15.keep rfl, hR.f16.keep rfl, hR.f17.keep rfl, hR.f18.keep rfl, hR.f19.keep rfl, hR.f20.keep rfl, hR.f21.keep rfl, hR.f22.keep rfl, hR.f23.keep rfl, hR.f24.keep rfl, hR.f25.keep rfl, hR.f26.keep rfl, hR.f27.keep rfl, hR.f28.keep rfl, hR.f29.keep rfl, hR.f30.keep rfl, hR.f31.keep rfl, hR.f32.keep rfl, hR.f33.keep rfl, hR.f34.keep rfl, hR.f35.keep rfl, hR.f36.keep rfl, hR.f37.keep rfl, hR.f38.keep rfl, hR.f39.keep rfl⟩⟩
    refine EachOf.cons [] rfl (by kernel_rfl) ?_ ?_
    · rintro L A W ⟨v, g, rfl, hR⟩ hi hw K hK
      obtain ⟨_, q0, q1⟩ := B6.out.on hR.st
      go_simp
      refine hK.out _ _ ?_
      exact ⟨(fun j => if j = 102 then .agg #[.int .i64 n1, .int .i64 d1] else v j), g, rfl, ⟨hR.st, hR.f0.keep rfl, (fun _ => rfl), hR.f2.keep rfl, hR.f3.keep rfl, hR.f4.keep rfl, hR.f5.keep rfl, hR.f6.keep rfl, hR.f7.keep rfl, hR.f8.keep rfl, hR.f9.keep rfl, hR.f10.keep rfl, hR.f11.keep rfl, hR.f12.keep rfl, hR.f13.keep rfl, hR.f14.keep rfl, hR.f15.keep rfl, hR.f16.keep rfl, hR.f17.keep rfl, hR.f18.keep rfl, hR.f19.keep rfl, hR.f20.keep rfl, hR.f21.keep rfl, hR.f22.keep rfl, hR.f23.keep rfl, hR.f24.keep rfl, hR.f25.keep rfl, hR.f26.keep rfl, hR.f27.keep rfl, hR.f28.keep rfl, hR.f29.keep rfl, hR.f30.keep rfl, hR.f31.keep rfl, hR.f32.keep rfl, hR.f33.keep rfl, hR.f34.keep rfl, hR.f35.keep rfl, hR.f36.keep rfl, hR.f37.keep rfl, hR.f38.keep rfl, hR.f39.keep rfl⟩⟩
    refine EachOf.cons [0, 1] rfl (by kernel_rfl) ?_ ?_
    · rintro L A W ⟨v, g, rfl, hR⟩ hi hw K hK
      have e0 := hR.f0 (hw 0 (by simp))
      have e1 := hR.f1 (hw 1 (by simp))
      simp only [e0, e1]
      clear e0 e1
      go_simp
      refine hK.out _ _ ?_
      exact ⟨(fun j => if j = 101 then .agg #[.int .i64 n1, .int .i64 d1] else if j = 102 then .agg #[.int .i64 n1, .int .i64 d1] else if j = 103 then .bool true else v j), g, rfl, ⟨hR.st, (fun _ => rfl), (fun _ => rfl), (fun _ => rfl), hR.f3.keep rfl, hR.f4.keep rfl, hR.f5.keep rfl, hR.f6.keep rfl, hR.f7.keep rfl, hR.f8.keep rfl, hR.f9.keep rfl, hR.f10.keep rfl, hR.f11.keep rfl, hR.f12.keep rfl, hR.f13.keep rfl, hR.f14.keep rfl, hR.f15.keep rfl, hR.f16.keep rfl, hR.f17.keep rfl, hR.f18.keep rfl, hR.f19.keep rfl, hR.f20.keep rfl, hR.f21.keep rfl, hR.f22.keep rfl, hR.f23.keep rfl, hR.f24.keep rfl, hR.f25.keep rfl, hR.f26.keep rfl, hR.f27.keep rfl, hR.f28.keep rfl, hR.f29.keep rfl, hR.f30.keep rfl, hR.f31.keep rfl, hR.f32.keep rfl, hR.f33.keep rfl, hR.f34.keep rfl, hR.f35.keep rfl, hR.f36.keep rfl, hR.f37.keep rfl, hR.f38.keep rfl, hR.f39.keep rfl⟩⟩
    refine EachOf.cons [2] rfl (by kernel_rfl) ?_ ?_
    · rintro L A W ⟨v, g, rfl, hR⟩ hi hw K hK
      have e2 := hR.f2 (hw 2 (by simp))
      simp only [e2]
      clear e2
      go_simp
      refine hK.out _ _ ?_
      exact ⟨(fun j => if j = 103 then .bool true else if j = 104 then .bool true else v j), g, rfl, ⟨hR.st, hR.f0.keep rfl, hR.f1.keep rfl, (fun _ => rfl), (fun _ => rfl), hR.f4.keep rfl, hR.f5.keep rfl, hR.f6.keep rfl, hR.f7.keep rfl, hR.f8.keep rfl, hR.f9.keep rfl, hR.f10.keep rfl, hR.f11.keep rfl, hR.f12.keep rfl, hR.f13.keep rfl, hR.f14.keep rfl, hR.f15.keep rfl, hR.f16.keep rfl, hR.f17.keep rfl, hR.f18.keep rfl, hR.f19.keep rfl, hR.f20.keep rfl, hR.f21.keep rfl, hR.f22.keep rfl, hR.f23.keep rfl, hR.f24.keep rfl, hR.f25.keep rfl, hR.f26.keep rfl, hR.f27.keep rfl, hR.f28.keep rfl, hR.f29.keep rfl, hR.f30.keep rfl, hR.f31.keep rfl, hR.f32.keep rfl, hR.f33.keep rfl, hR.f34.keep rfl, hR.f35.keep rfl, hR.f36.keep rfl, hR.f37.keep rfl, hR.f38.keep rfl, hR.f39.keep rfl⟩⟩
    refine EachOf.cons [3] rfl (by kernel_rfl) ?_ ?_
    · rintro L A W ⟨v, g, rfl, hR⟩ hi hw K hK
      have e3 := hR.f3 (hw 3 (by simp))
      simp only [e3]
      clear e3
      go_simp
      refine hK.out _ _ ?_
      exact ⟨(fun j => if j = 104 then .bool true else if j = 105 then .int .i64 e1 else v j), g, rfl, ⟨hR.st, hR.f0.keep rfl, hR.f1.keep rfl, hR.f2.keep rfl, (fun _ => rfl), (fun _ => rfl), hR.f5.keep rfl, hR.f6.keep rfl, hR.f7.keep rfl, hR.f8.keep rfl, hR.f9.keep rfl, hR.f10.keep rfl, hR.f11.keep rfl, hR.f12.keep rfl, hR.f13.keep rfl, hR.f14.keep rfl, hR.f15.keep rfl, hR.f16.keep rfl, hR.f17.keep rfl, hR.f18.keep rfl, hR.f19.keep rfl, hR.f20.keep rfl, hR.f21.keep rfl, hR.f22.keep rfl, hR.f23.keep rfl, hR.f24.keep rfl, hR.f25.keep rfl, hR.f26.keep rfl, hR.f27.keep rfl, hR.f28.keep rfl, hR.f29.keep rfl, hR.f30.keep rfl, hR.f31.keep rfl, hR.f32.keep rfl, hR.f33.keep rfl, hR.f34.keep rfl, hR.f35.keep rfl, hR.f36.keep rfl, hR.f37.keep rfl, hR.f38.keep rfl, hR.f39.keep rfl⟩⟩
    refine EachOf.cons [3] rfl (by kernel_rfl) ?_ ?_
    · rintro L A W ⟨v, g, rfl, hR⟩ hi hw K hK
      have e3 := hR.f3 (hw 3 (by simp))
      simp only [e3]
      clear e3
      go_simp
      refine hK.out _ _ ?_
      exact ⟨(fun j => if j = 104 then .bool true else if j = 106 then .int .i64 e1 else v j), g, rfl, ⟨hR.st, hR.f0.keep rfl, hR.f1.keep rfl, hR.f2.keep rfl, (fun _ => rfl), hR.f4.keep rfl, (fun _ => rfl), hR.f6.keep rfl, hR.f7.keep rfl, hR.f8.keep rfl, hR.f9.keep rfl, hR.f10.keep rfl, hR.f11.keep rfl, hR.f12.keep rfl, hR.f13.keep rfl, hR.f14.keep rfl, hR.f15.keep rfl, hR.f16.keep rfl, hR.f17.keep rfl, hR.f18.keep rfl, hR.f19.keep rfl, hR.f20.keep rfl, hR.f21.keep rfl, hR.f22.keep rfl, hR.f23.keep rfl, hR.f24.keep rfl, hR.f25.keep rfl, hR.f26.keep rfl, hR.f27.keep rfl, hR.f28.keep rfl, hR.f29.keep rfl, hR.f30.keep rfl, hR.f31.keep rfl, hR.f32.keep rfl, hR.f33.keep rfl, hR.f34.keep rfl, hR.f35.keep rfl, hR.f36.keep rfl, hR.f37.keep rfl, hR.f38.keep rfl, hR.f39.keep rfl⟩⟩
    refine EachOf.cons [4, 5, 3] rfl (by kernel_rfl) ?_ ?_
    · rintro L A W ⟨v, g, rfl, hR⟩ hi hw K hK
      have e4 := hR.f4 (hw 4 (by simp))
      have e5 := hR.f5 (hw 5 (by simp))
      have e3 := hR.f3 (hw 3 (by simp))
      simp only [e4, e5, e3]
      clear e4 e5 e3
      go_simp
      refine hK.out _ _ ?_
      exact ⟨(fun j => if j = 105 then .int .i64 e1 else if j = 106 then .int .i64 e1 else if j = 104 then .bool true else if j = 107 then .bool true else v j), g, rfl, ⟨hR.st, hR.f0.keep rfl, hR.f1.keep rfl, hR.f2.keep rfl, (fun _ => rfl), (fun _ => rfl), (fun _ => rfl), (fun _ => rfl), hR.f7.keep rfl, hR.f8.keep rfl, hR.f9.keep rfl, hR.f10.keep rfl, hR.f11.keep rfl, hR.f12.keep rfl, hR.f13.keep rfl, hR.f14.keep rfl, hR.f15.keep rfl, hR.f16.keep rfl, hR.f17.keep rfl, hR.f18.keep rfl, hR.f19.keep rfl, hR.f20.keep rfl, hR.f21.keep rfl, hR.f22.keep rfl, hR.f23.keep rfl, hR.f24.keep rfl, hR.f25.keep rfl, hR.f26.keep rfl, hR.f27.keep rfl, hR.f28.keep rfl, hR.f29.keep rfl, hR.f30.keep rfl, hR.f31.keep rfl, hR.f32.keep rfl, hR.f33.keep rfl, hR.f34.keep rfl, hR.f35.keep rfl, hR.f36.keep rfl, hR.f37.keep rfl, hR.f38.keep rfl, hR.f39.keep rfl⟩⟩
    refine EachOf.cons [3, 6] rfl (by kernel_rfl) ?_ ?_
    · rintro L A W ⟨v, g, rfl, hR⟩ hi hw K hK
      have e3 := hR.f3 (hw 3 (by simp))
      have e6 := hR.f6 (hw 6 (by simp))
      simp only [e3, e6]
      clear e3 e6
      go_simp
      refine hK.out _ _ ?_
      exact ⟨(fun j => if j = 104 then .bool true else if j = 107 then .bool true else if j = 108 then .bool true else v j), g, rfl, ⟨hR.st, hR.f0.keep rfl, hR.f1.keep rfl, hR.f2.keep rfl, (fun _ => rfl), hR.f4.keep rfl, hR.f5.keep rfl, (fun _ => rfl), (fun _ => rfl), hR.f8.keep rfl, hR.f9.keep rfl, hR.f10.keep rfl, hR.f11.keep rfl, hR.f12.keep rfl, hR.f13.keep rfl, hR.f14.keep rfl, hR.f15.keep rfl, hR.f16.keep rfl, hR.f17.keep rfl, hR.f18.keep rfl, hR.f19.keep rfl, hR.f20.keep rfl, hR.f21.keep rfl, hR.f22.keep rfl, hR.f23.keep rfl, hR.f24.keep rfl, hR.f25.keep rfl, hR.f26.keep rfl, hR.f27.keep rfl, hR.f28.keep rfl, hR.f29.keep rfl, hR.f30.keep rfl, hR.f31.keep rfl, hR.f32.keep rfl, hR.f33.keep rfl, hR.f34.keep rfl, hR.f35.keep rfl, hR.f36.keep rfl, hR.f37.keep rfl, hR.f38.keep rfl, hR.f39.keep rfl⟩⟩
    refine EachOf.cons [7] rfl (by kernel_rfl) ?_ ?_
    · rintro L A W ⟨v, g, rfl, hR⟩ hi hw K hK
      have e7 := hR.f7 (hw 7 (by simp))
      simp only [e7]
      clear e7
      go_simp
      refine hK.out _ _ ?_
      exact ⟨(fun j => if j = 108 then .bool true else if j = 109 then .bool true else v j), g, rfl, ⟨hR.st, hR.f0.keep rfl, hR.f1.keep rfl, hR.f2.keep rfl, hR.f3.keep rfl, hR.f4.keep rfl, hR.f5.keep rfl, hR.f6.keep rfl, (fun _ => rfl), (fun _ => rfl), hR.f9.keep rfl, hR.f10.keep rfl, hR.f11.keep rfl, hR.f12.keep rfl, hR.f13.keep rfl, hR.f14.keep rfl, hR.f15.keep rfl, hR.f16.keep rfl, hR.f17.keep rfl, hR.f18.keep rfl, hR.f19.keep rfl, hR.f20.keep rfl, hR.f21.keep rfl, hR.f22.keep rfl, hR.f23.keep rfl, hR.f24.keep rfl, hR.f25.keep rfl, hR.f26.keep rfl, hR.f27.keep rfl, hR.f28.keep rfl, hR.f29.keep rfl, hR.f30.keep rfl, hR.f31.keep rfl, hR.f32.keep rfl, hR.f33.keep rfl, hR.f34.keep rfl, hR.f35.keep rfl, hR.f36.keep rfl, hR.f37.keep rfl, hR.f38.keep rfl, hR.f39.keep rfl⟩⟩
    refine EachOf.cons [8] rfl (by kernel_rfl) ?_ ?_
    · rintro L A W ⟨v, g, rfl, hR⟩ hi hw K hK
      have e8 := hR.f8 (hw 8 (by simp))
      simp only [e8]
      clear e8
      obtain ⟨_, q0, q1⟩ := B3.out.on hR.st
      go_simp
      refine hK.out _ _ ?_
      exact ⟨(fun j => if j = 109 then .bool true else if j = 110 then .agg #[.int .i64 n2, .int .i64 d2] else v j), g, rfl, ⟨hR.st, hR.f0.keep rfl, hR.f1.keep rfl, hR.f2.keep rfl, hR.f3.keep rfl, hR.f4.keep rfl, hR.f5.keep rfl, hR.f6.keep rfl, hR.f7.keep rfl, (fun _ => rfl), (fun _ => rfl), hR.f10.keep rfl, hR.f11.keep rfl, hR.f12.keep rfl, hR.f13.keep rfl, hR.f14.keep rfl, hR.f15.keep rfl, hR.f16.keep rfl, hR.f17.keep rfl, hR.f18.keep rfl, hR.f19.keep rfl, hR.f20.keep rfl, hR.f21.keep rfl, hR.f22.keep rfl, hR.f23.keep rfl, hR.f24.keep rfl, hR.f25.keep rfl, hR.f26.keep rfl, hR.f27.keep rfl, hR.f28.keep rfl, hR.f29.keep rfl, hR.f30.keep rfl, hR.f31.keep rfl, hR.f32.keep rfl, hR.f33.keep rfl, hR.f34.keep rfl, hR.f35.keep rfl, hR.f36.keep rfl, hR.f37.keep rfl, hR.f38.keep rfl, hR.f39.keep rfl⟩⟩
    refine EachOf.cons [8] rfl (by kernel_rfl) ?_ ?_
    · rintro L A W ⟨v, g, rfl, hR⟩ hi hw K hK
      have e8 := hR.f8 (hw 8 (by simp))
      simp only [e8]
      clear e8
      obtain ⟨_, q0, q1⟩ := B7.out.on hR.st
      go_simp
      refine hK.out _ _ ?_
      exact ⟨(fun j => if j = 109 then .bool true else if j = 111 then .agg #[.int .i64 n2, .int .i64 d2] else v j), g, rfl, ⟨hR.st, hR.f0.keep rfl, hR.f1.keep rfl, hR.f2.keep rfl, hR.f3.keep rfl, hR.f4.keep rfl, hR.f5.keep rfl, hR.f6.keep rfl, hR.f7.keep rfl, (fun _ => rfl), hR.f9.keep rfl, (fun _ => rfl), hR.f11.keep rfl, hR.f12.keep rfl, hR.f13.keep rfl, hR.f14.keep rfl, hR.f15.keep rfl, hR.f16.keep rfl, hR.f17.keep rfl, hR.f18.keep rfl, hR.f19.keep rfl, hR.f20.keep rfl, hR.f21.keep rfl, hR.f22.keep rfl, hR.f23.keep rfl, hR.f24.keep rfl, hR.f25.keep rfl, hR.f26.keep rfl, hR.f27.keep rfl, hR.f28.keep rfl, hR.f29.keep rfl, hR.f30.keep rfl, hR.f31.keep rfl, hR.f32.keep rfl, hR.f33.keep rfl, hR.f34.keep rfl, hR.f35.keep rfl, hR.f36.keep rfl, hR.f37.keep rfl, hR.f38.keep rfl, hR.f39.keep rfl⟩⟩
    refine EachOf.cons [9, 10, 8] rfl (by kernel_rfl) ?_ ?_
    · rintro L A W ⟨v, g, rfl, hR⟩ hi hw K hK
      have e9 := hR.f9 (hw 9 (by simp))
      have e10 := hR.f10 (hw 10 (by simp))
      have e8 := hR.f8 (hw 8 (by simp))
      simp only [e9, e10, e8]
      clear e9 e10 e8
      go_simp
      refine hK.out _ _ ?_
      exact ⟨(fun j => if j = 110 then .agg #[.int .i64 n2, .int .i64 d2] else if j = 111 then .agg #[.int .i64 n2, .int .i64 d2] else if j = 109 then .bool true else if j = 112 then .bool true else v j), g, rfl, ⟨hR.st, hR.f0.keep rfl, hR.f1.keep rfl, hR.f2.keep rfl, hR.f3.keep rfl, hR.f4.keep rfl, hR.f5.keep rfl, hR.f6.keep rfl, hR.f7.keep rfl, (fun _ => rfl), (fun _ => rfl), (fun _ => rfl), (fun _ => rfl), hR.f12.keep rfl, hR.f13.keep rfl, hR.f14.keep rfl, hR.f15.keep rfl, hR.f16.keep rfl, hR.f17.keep rfl, hR.f18.keep rfl, hR.f19.keep rfl, hR.f20.keep rfl, hR.f21.keep rfl, hR.f22.keep rfl, hR.f23.keep rfl, hR.f24.keep rfl, hR.f25.keep rfl, hR.f26.keep rfl, hR.f27.keep rfl, hR.f28.keep rfl, hR.f29.keep rfl, hR.f30.keep rfl, hR.f31.keep rfl, hR.f32.keep rfl, hR.f33.keep rfl, hR.f34.keep rfl, hR.f35.keep rfl, hR.f36.keep rfl, hR.f37.keep rfl, hR.f38.keep rfl, hR.f39.keep rfl⟩⟩
    refine EachOf.cons [8, 11] rfl (by kernel_rfl) ?_ ?_
    · rintro L A W ⟨v, g, rfl, hR⟩ hi hw K hK
      have e8 := hR.f8 (hw 8 (by simp))
      have e11 := hR.f11 (hw 11 (by simp))
      simp only [e8, e11]
      clear e8 e11
      go_simp
      refine hK.out _ _ ?_
      exact ⟨(fun j => if j = 109 then .bool true else if j = 112 then .bool true else if j = 113 then .bool true else v j), g, rfl, ⟨hR.st, hR.f0.keep rfl, hR.f1.keep rfl, hR.f2.keep rfl, hR.f3.keep rfl, hR.f4.keep rfl, hR.f5.keep rfl, hR.f6.keep rfl, hR.f7.keep rfl, (fun _ => rfl), hR.f9.keep rfl, hR.f10.keep rfl, (fun _ => rfl), (fun _ => rfl), hR.f13.keep rfl, hR.f14.keep rfl, hR.f15.keep rfl, hR.f16.keep rfl, hR.f17.keep rfl, hR.f18.keep rfl, hR.f19.keep rfl, hR.f20.keep rfl, hR.f21.keep rfl, hR.f22.keep rfl, hR.f23.keep rfl, hR.f24.keep rfl, hR.f25.keep rfl, hR.f26.keep rfl, hR.f27.keep rfl, hR.f28.keep rfl, hR.f29.keep rfl, hR.f30.keep rfl, hR.f31.keep rfl, hR.f32.keep rfl, hR.f33.keep rfl, hR.f34.keep rfl, hR.f35.keep rfl, hR.f36.keep rfl, hR.f37.keep rfl, hR.f38.keep rfl, hR.f39.keep rfl⟩⟩
    refine EachOf.cons [12] rfl (by kernel_rfl) ?_ ?_
    · rintro L A W ⟨v, g, rfl, hR⟩ hi hw K hK
      have e12 := hR.f12 (hw 12 (by simp))
      simp only [e12]
      clear e12
      go_simp
      refine hK.out _ _ ?_
      exact ⟨(fun j => if j = 113 then .bool true else if j = 114 then .bool true else v j), g, rfl, ⟨hR.st, hR.f0.keep rfl, hR.f1.keep rfl, hR.f2.keep rfl, hR.f3.keep rfl, hR.f4.keep rfl, hR.f5.keep rfl, hR.f6.keep rfl, hR.f7.keep rfl, hR.f8.keep rfl, hR.f9.keep rfl, hR.f10.keep rfl, hR.f11.keep rfl, (fun _ => rfl), (fun _ => rfl), hR.f14.keep rfl, hR.f15.keep rfl, hR.f16.keep rfl, hR.f17.keep rfl, hR.f18.keep rfl, hR.f19.keep rfl, hR.f20.keep rfl, hR.f21.keep rfl, hR.f22.keep rfl, hR.f23.keep rfl, hR.f24.keep rfl, hR.f25.keep rfl, hR.f26.keep rfl, hR.f27.keep rfl, hR.f28.keep rfl, hR.f29.keep rfl, hR.f30.keep rfl, hR.f31.keep rfl, hR.f32.keep rfl, hR.f33.keep rfl, hR.f34.keep rfl, hR.f35.keep rfl, hR.f36.keep rfl, hR.f37.keep rfl, hR.f38.keep rfl, hR.f39.keep rfl⟩⟩
    refine EachOf.cons [13] rfl (by kernel_rfl) ?_ ?_
    · rintro L A W ⟨v, g, rfl, hR⟩ hi hw K hK
      have e13 := hR.f13 (hw 13 (by simp))
      simp only [e13]
      clear e13
      go_simp
      refine hK.out _ _ ?_
      exact ⟨(fun j => if j = 114 then .bool true else if j = 115 then .int .i64 e2 else v j), g, rfl, ⟨hR.st, hR.f0.keep rfl, hR.f1.keep rfl, hR.f2.keep rfl, hR.f3.keep rfl, hR.f4.keep rfl, hR.f5.keep rfl, hR.f6.keep rfl, hR.f7.keep rfl, hR.f8.keep rfl, hR.f9.keep rfl, hR.f10.keep rfl, hR.f11.keep rfl, hR.f12.keep rfl, (fun _ => rfl), (fun _ => rfl), hR.f15.keep rfl, hR.f16.keep rfl, hR.f17.keep rfl, hR.f18.keep rfl, hR.f19.keep rfl, hR.f20.keep rfl, hR.f21.keep rfl, hR.f22.keep rfl, hR.f23.keep rfl, hR.f24.keep rfl, hR.f25.keep rfl, hR.f26.keep rfl, hR.f27.keep rfl, hR.f28.keep rfl, hR.f29.keep rfl, hR.f30.keep rfl, hR.f31.keep rfl, hR.f32.keep rfl, hR.f33.keep rfl, hR.f34.keep rfl, hR.f35.keep rfl, hR.f36.keep rfl, hR.f37.keep rfl, hR.f38.keep rfl, hR.f39.keep rfl⟩⟩
    refine EachOf.cons [13] rfl (by kernel_rfl) ?_ ?_
    · rintro L A W ⟨v, g, rfl, hR⟩ hi hw K hK
      have e13 := hR.f13 (hw 13 (by simp))
      simp only [e13]
      clear e13
      go_simp
      refine hK.out _ _ ?_
      exact ⟨(fun j => if j = 114 then .bool true else if j = 116 then .int .i64 e2 else v j), g, rfl, ⟨hR.st, hR.f0.keep rfl, hR.f1.keep rfl, hR.f2.keep rfl, hR.f3.keep rfl, hR.f4.keep rfl, hR.f5.keep rfl, hR.f6.keep rfl, hR.f7.keep rfl, hR.f8.keep rfl, hR.f9.keep rfl, hR.f10.keep rfl, hR.f11.keep rfl, hR.f12.keep rfl, (fun _ => rfl), hR.f14.keep rfl, (fun _ => rfl), hR.f16.keep rfl, hR.f17.keep rfl, hR.f18.keep rfl, hR.f19.keep rfl, hR.f20.keep rfl, hR.f21.keep rfl, hR.f22.keep rfl, hR.f23.keep rfl, hR.f24.keep rfl, hR.f25.keep rfl, hR.f26.keep rfl, hR.f27.keep rfl, hR.f28.keep rfl, hR.f29.keep rfl, hR.f30.keep rfl, hR.f31.keep rfl, hR.f32.keep rfl, hR.f33.keep rfl, hR.f34.keep rfl, hR.f35.keep rfl, hR.f36.keep rfl, hR.f37.keep rfl, hR.f38.keep rfl, hR.f39.keep rfl⟩⟩
    refine EachOf.cons [14, 15, 13] rfl (by kernel_rfl) ?_ ?_
    · rintro L A W ⟨v, g, rfl, hR⟩ hi hw K hK
      have e14 := hR.f14 (hw 14 (by simp))
      have e15 := hR.f15 (hw 15 (by simp))
      have e13 := hR.f13 (hw 13 (by simp))
      simp only [e14, e15, e13]
      clear e14 e15 e13
      go_simp
      refine hK.out _ _ ?_
      exact ⟨(fun j => if j = 115 then .int .i64 e2 else if j = 116 then .int .i64 e2 else if j = 114 then .bool true else if j = 117 then .bool true else v j), g, rfl, ⟨hR.st, hR.f0.keep rfl, hR.f1.keep rfl, hR.f2.keep rfl, hR.f3.keep rfl, hR.f4.keep rfl, hR.f5.keep rfl, hR.f6.keep rfl, hR.f7.keep rfl, hR.f8.keep rfl, hR.f9.keep rfl, hR.f10.keep rfl, hR.f11.keep rfl, hR.f12.keep rfl, (fun _ => rfl), (fun _ => rfl), (fun _ => rfl), (fun _ => rfl), hR.f17.keep rfl, hR.f18.keep rfl, hR.f19.keep rfl, hR.f20.keep rfl, hR.f21.keep rfl, hR.f22.keep rfl, hR.f23.keep rfl, hR.f24.keep rfl, hR.f25.keep rfl, hR.f26.keep rfl, hR.f27.keep rfl, hR.f28.keep rfl, hR.f29.keep rfl, hR.f30.keep rfl, hR.f31.keep rfl, hR.f32.keep rfl, hR.f33.keep rfl, hR.f34.keep rfl, hR.f35.keep rfl, hR.f36.keep rfl, hR.f37.keep rfl, hR.f38.keep rfl, hR.f39.keep rfl⟩⟩
    refine EachOf.cons [13, 16] rfl (by kernel_rfl) ?_ ?_
    · rintro L A W ⟨v, g, rfl, hR⟩ hi hw K hK
      have e13 := hR.f13 (hw 13 (by simp))
      have e16 := hR.f16 (hw 16 (by simp))
      simp only [e13, e16]
      clear e13 e16
      go_simp
      refine hK.out _ _ ?_
      exact ⟨(fun j => if j = 114 then .bool true else if j = 117 then .bool true else if j = 118 then .bool true else v j), g, rfl, ⟨hR.st, hR.f0.keep rfl, hR.f1.keep rfl, hR.f2.keep rfl, hR.f3.keep rfl, hR.f4.keep rfl, hR.f5.keep rfl, hR.f6.keep rfl, hR.f7.keep rfl, hR.f8.keep rfl, hR.f9.keep rfl, hR.f10.keep rfl, hR.f11.keep rfl, hR.f12.keep rfl, (fun _ => rfl), hR.f14.keep rfl, hR.f15.keep rfl, (fun _ => rfl), (fun _ => rfl), hR.f18.keep rfl, hR.f19.keep rfl, hR.f20.keep rfl, hR.f21.keep rfl, hR.f22.keep rfl, hR.f23.keep rfl, hR.f24.keep rfl, hR.f25.keep rfl, hR.f26.keep rfl, hR.f27.keep rfl, hR.f28.keep rfl, hR.f29.keep rfl, hR.f30.keep rfl, hR.f31.keep rfl, hR.f32.keep rfl, hR.f33.keep rfl, hR.f34.keep rfl, hR.f35.keep rfl, hR.f36.keep rfl, hR.f37.keep rfl, hR.f38.keep rfl, hR.f39.keep rfl⟩⟩
    refine EachOf.cons [17] rfl (by kernel_rfl) ?_ ?_
    · rintro L A W ⟨v, g, rfl, hR⟩ hi hw K hK
      have e17 := hR.f17 (hw 17 (by simp))
      simp only [e17]
      clear e17
      go_simp
      refine hK.out _ _ ?_
      exact ⟨(fun j => if j = 118 then .bool true else if j = 119 then .bool true else v j), g, rfl, ⟨hR.st, hR.f0.keep rfl, hR.f1.keep rfl, hR.f2.keep rfl, hR.f3.keep rfl, hR.f4.keep rfl, hR.f5.keep rfl, hR.f6.keep rfl, hR.f7.keep rfl, hR.f8.keep rfl, hR.f9.keep rfl, hR.f10.keep rfl, hR.f11.keep rfl, hR.f12.keep rfl, hR.f13.keep rfl, hR.f14.keep rfl, hR.f15.keep rfl, hR.f16.keep rfl, (fun _ => rfl), (fun _ => rfl), hR.f19.keep rfl, hR.f20.keep rfl, hR.f21.keep rfl, hR.f22.keep rfl, hR.f23.keep rfl, hR.f24.keep rfl, hR.f25.keep rfl, hR.f26.keep rfl, hR.f27.keep rfl, hR.f28.keep rfl, hR.f29.keep rfl, hR.f30.keep rfl, hR.f31.keep rfl, hR.f32.keep rfl, hR.f33.keep rfl, hR.f34.keep rfl, hR.f35.keep rfl, hR.f36.keep rfl, hR.f37.keep rfl, hR.f38.keep rfl, hR.f39.keep rfl⟩⟩
    refine EachOf.cons [18] rfl (by kernel_rfl) ?_ ?_
    · rintro L A W ⟨v, g, rfl, hR⟩ hi hw K hK
      have e18 := hR.f18 (hw 18 (by simp))
      simp only [e18]
      clear e18
      go_simp
      refine hK.out _ _ ?_
      exact ⟨(fun j => if j = 119 then .bool true else if j = 120 then .int .i64 0 else v j), g, rfl, ⟨hR.st, hR.f0.keep rfl, hR.f1.keep rfl, hR.f2.keep rfl, hR.f3.keep rfl, hR.f4.keep rfl, hR.f5.keep rfl, hR.f6.keep rfl, hR.f7.keep rfl, hR.f8.keep rfl, hR.f9.keep rfl, hR.f10.keep rfl, hR.f11.keep rfl, hR.f12.keep rfl, hR.f13.keep rfl, hR.f14.keep rfl, hR.f15.keep rfl, hR.f16.keep rfl, hR.f17.keep rfl, (fun _ => rfl), (fun _ => rfl), hR.f20.keep rfl, hR.f21.keep rfl, hR.f22.keep rfl, hR.f23.keep rfl, hR.f24.keep rfl, hR.f25.keep rfl, hR.f26.keep rfl, hR.f27.keep rfl, hR.f28.keep rfl, hR.f29.keep rfl, hR.f30.keep rfl, hR.f31.keep rfl, hR.f32.keep rfl, hR.f33.keep rfl, hR.f34.keep rfl, hR.f35.keep rfl, hR.f36.keep rfl, hR.f37.keep rfl, hR.f38.keep rfl, hR.f39.keep rfl⟩⟩
    refine EachOf.cons [19, 18] rfl (by kernel_rfl) ?_ ?_
    · rintro L A W ⟨v, g, rfl, hR⟩ hi hw K hK
      have e19 := hR.f19 (hw 19 (by simp))
      have e18 := hR.f18 (hw 18 (by simp))
      simp only [e19, e18]
      clear e19 e18
      go_simp
      refine hK.out _ _ ?_
      exact ⟨(fun j => if j = 120 then .int .i64 0 else if j = 119 then .bool true else if j = 121 then .bool true else v j), g, rfl, ⟨hR.st, hR.f0.keep rfl, hR.f1.keep rfl, hR.f2.keep rfl, hR.f3.keep rfl, hR.f4.keep rfl, hR.f5.keep rfl, hR.f6.keep rfl, hR.f7.keep rfl, hR.f8.keep rfl, hR.f9.keep rfl, hR.f10.keep rfl, hR.f11.keep rfl, hR.f12.keep rfl, hR.f13.keep rfl, hR.f14.keep rfl, hR.f15.keep rfl, hR.f16.keep rfl, hR.f17.keep rfl, (fun _ => rfl), (fun _ => rfl), (fun _ => rfl), hR.f21.keep rfl, hR.f22.keep rfl, hR.f23.keep rfl, hR.f24.keep rfl, hR.f25.keep rfl, hR.f26.keep rfl, hR.f27.keep rfl, hR.f28.keep rfl, hR.f29.keep rfl, hR.f30.keep rfl, hR.f31.keep rfl, hR.f32.keep rfl, hR.f33.keep rfl, hR.f34.keep rfl, hR.f35.keep rfl, hR.f36.keep rfl, hR.f37.keep rfl, hR.f38.keep rfl, hR.f39.keep rfl⟩⟩
    refine EachOf.cons [18, 20] rfl (by kernel_rfl) ?_ ?_
    · rintro L A W ⟨v, g, rfl, hR⟩ hi hw K hK
      have e18 := hR.f18 (hw 18 (by simp))
      have e20 := hR.f20 (hw 20 (by simp))
      simp only [e18, e20]
      clear e18 e20
      go_simp
      refine hK.out _ _ ?_
      exact ⟨(fun j => if j = 119 then .bool true else if j = 121 then .bool true else if j = 122 then .bool true else v j), g, rfl, ⟨hR.st, hR.f0.keep rfl, hR.f1.keep rfl, hR.f2.keep rfl, hR.f3.keep rfl, hR.f4.keep rfl, hR.f5.keep rfl, hR.f6.keep rfl, hR.f7.keep rfl, hR.f8.keep rfl, hR.f9.keep rfl, hR.f10.keep rfl, hR.f11.keep rfl, hR.f12.keep rfl, hR.f13.keep rfl, hR.f14.keep rfl, hR.f15.keep rfl, hR.f16.keep rfl, hR.f17.keep rfl, (fun _ => rfl), hR.f19.keep rfl, (fun _ => rfl), (fun _ => rfl), hR.f22.keep rfl, hR.f23.keep rfl, hR.f24.keep rfl, hR.f25.keep rfl, hR.f26.keep rfl, hR.f27.keep rfl, hR.f28.keep rfl, hR.f29.keep rfl, hR.f30.keep rfl, hR.f31.keep rfl, hR.f32.keep rfl, hR.f33.keep rfl, hR.f34.keep rfl, hR.f35.keep rfl, hR.f36.keep rfl, hR.f37.keep rfl, hR.f38.keep rfl, hR.f39.keep rfl⟩⟩
    refine EachOf.cons [21] rfl (by kernel_rfl) ?_ ?_
    · rintro L A W ⟨v, g, rfl, hR⟩ hi hw K hK
      have e21 := hR.f21 (hw 21 (by simp))
      simp only [e21]
      clear e21
      go_simp
      refine hK.out _ _ ?_
      exact ⟨(fun j => if j = 122 then .bool true else if j = 123 then .bool true else v j), g, rfl, ⟨hR.st, hR.f0.keep rfl, hR.f1.keep rfl, hR.f2.keep rfl, hR.f3.keep rfl, hR.f4.keep rfl, hR.f5.keep rfl, hR.f6.keep rfl, hR.f7.keep rfl, hR.f8.keep rfl, hR.f9.keep rfl, hR.f10.keep rfl, hR.f11.keep rfl, hR.f12.keep rfl, hR.f13.keep rfl, hR.f14.keep rfl, hR.f15.keep rfl, hR.f16.keep rfl, hR.f17.keep rfl, hR.f18.keep rfl, hR.f19.keep rfl, hR.f20.keep rfl, (fun _ => rfl), (fun _ => rfl), hR.f23.keep rfl, hR.f24.keep rfl, hR.f25.keep rfl, hR.f26.keep rfl, hR.f27.keep rfl, hR.f28.keep rfl, hR.f29.keep rfl, hR.f30.keep rfl, hR.f31.keep rfl, hR.f32.keep rfl, hR.f33.keep rfl, hR.f34.keep rfl, hR.f35.keep rfl, hR.f36.keep rfl, hR.f37.keep rfl, hR.f38.keep rfl, hR.f39.keep rfl⟩⟩
    refine EachOf.cons [22] rfl (by kernel_rfl) ?_ ?_
    · rintro L A W ⟨v, g, rfl, hR⟩ hi hw K hK
      have e22 := hR.f22 (hw 22 (by simp))
      simp only [e22]
      clear e22
      obtain ⟨_, q0, q1⟩ := B4.out.on hR.st
      go_simp
      refine hK.out _ _ ?_
      exact ⟨(fun j => if j = 123 then .bool true else if j = 124 then .agg #[.int .i64 n3, .int .i64 d3] else v j), g, rfl, ⟨hR.st, hR.f0.keep rfl, hR.f1.keep rfl, hR.f2.keep rfl, hR.f3.keep rfl, hR.f4.keep rfl, hR.f5.keep rfl, hR.f6.keep rfl, hR.f7.keep rfl, hR.f8.keep rfl, hR.f9.keep rfl, hR.f10.keep rfl, hR.f11.keep rfl, hR.f12.keep rfl, hR.f13.keep rfl, hR.f14.keep rfl, hR.f15.keep rfl, hR.f16.keep rfl, hR.f17.keep rfl, hR.f18.keep rfl, hR.f19.keep rfl, hR.f20.keep rfl, hR.f21.keep rfl, (fun _ => rfl), (fun _ => rfl), hR.f24.keep rfl, hR.f25.keep rfl, hR.f26.keep rfl, hR.f27.keep rfl, hR.f28.keep rfl, hR.f29.keep rfl, hR.f30.keep rfl, hR.f31.keep rfl, hR.f32.keep rfl, hR.f33.keep rfl, hR.f34.keep rfl, hR.f35.keep rfl, hR.f36.keep rfl, hR.f37.keep rfl, hR.f38.keep rfl, hR.f39.keep rfl⟩⟩
    refine EachOf.cons [22] rfl (by kernel_rfl) ?_ ?_
    · rintro L A W ⟨v, g, rfl, hR⟩ hi hw K hK
      have e22 := hR.f22 (hw 22 (by simp))
      simp only [e22]
      clear e22
      obtain ⟨_, q0, q1⟩ := B0.out.on hR.st
      go_simp
      refine hK.out _ _ ?_
      exact ⟨(fun j => if j = 123 then .bool true else if j = 125 then .agg #[.int .i64 al, .int .i64 ah] else v j), g, rfl, ⟨hR.st, hR.f0.keep rfl, hR.f1.keep rfl, hR.f2.keep rfl, hR.f3.keep rfl, hR.f4.keep rfl, hR.f5.keep rfl, hR.f6.keep rfl, hR.f7.keep rfl, hR.f8.keep rfl, hR.f9.keep rfl, hR.f10.keep rfl, hR.f11.keep rfl, hR.f12.keep rfl, hR.f13.keep rfl, hR.f14.keep rfl, hR.f15.keep rfl, hR.f16.keep rfl, hR.f17.keep rfl, hR.f18.keep rfl, hR.f19.keep rfl, hR.f20.keep rfl, hR.f21.keep rfl, (fun _ => rfl), hR.f23.keep rfl, (fun _ => rfl), hR.f25.keep rfl, hR.f26.keep rfl, hR.f27.keep rfl, hR.f28.keep rfl, hR.f29.keep rfl, hR.f30.keep rfl, hR.f31.keep rfl, hR.f32.keep rfl, hR.f33.keep rfl, hR.f34.keep rfl, hR.f35.keep rfl, hR.f36.keep rfl, hR.f37.keep rfl, hR.f38.keep rfl, hR.f39.keep rfl⟩⟩
    refine EachOf.cons [22] rfl (by kernel_rfl) ?_ ?_
    · rintro L A W ⟨v, g, rfl, hR⟩ hi hw K hK
      have e22 := hR.f22 (hw 22 (by simp))
      simp only [e22]
      clear e22
      obtain ⟨_, q0, q1⟩ := B1.out.on hR.st
      go_simp
      refine hK.out _ _ ?_
      exact ⟨(fun j => if j = 123 then .bool true else if j = 126 then .agg #[.int .i64 bl, .int .i64 bh] else v j), g, rfl, ⟨hR.st, hR.f0.keep rfl, hR.f1.keep rfl, hR.f2.keep rfl, hR.f3.keep rfl, hR.f4.keep rfl, hR.f5.keep rfl, hR.f6.keep rfl, hR.f7.keep rfl, hR.f8.keep rfl, hR.f9.keep rfl, hR.f10.keep rfl, hR.f11.keep rfl, hR.f12.keep rfl, hR.f13.keep rfl, hR.f14.keep rfl, hR.f15.keep rfl, hR.f16.keep rfl, hR.f17.keep rfl, hR.f18.keep rfl, hR.f19.keep rfl, hR.f20.keep rfl, hR.f21.keep rfl, (fun _ => rfl), hR.f23.keep rfl, hR.f24.keep rfl, (fun _ => rfl), hR.f26.keep rfl, hR.f27.keep rfl, hR.f28.keep rfl, hR.f29.keep rfl, hR.f30.keep rfl, hR.f31.keep rfl, hR.f32.keep rfl, hR.f33.keep rfl, hR.f34.keep rfl, hR.f35.keep rfl, hR.f36.keep rfl, hR.f37.keep rfl, hR.f38.keep rfl, hR.f39.keep rfl⟩⟩
    refine EachOf.cons [24, 25, 22] rfl (by kernel_rfl) ?_ ?_
    · rintro L A W ⟨v, g, rfl, hR⟩ hi hw K hK
      have e24 := hR.f24 (hw 24 (by simp))
      have e25 := hR.f25 (hw 25 (by simp))
      have e22 := hR.f22 (hw 22 (by simp))
      simp only [e24, e25, e22]
      clear e24 e25 e22
      go_simp
      go_at_call 22
      (with_reducible refine ((R3 _).out).mono ?_)
      rintro e w2 ⟨rfl, hb⟩
      go_simp
      refine hK.out _ _ ?_
      exact ⟨(fun j => if j = 125 then .agg #[.int .i64 al, .int .i64 ah] else if j = 126 then .agg #[.int .i64 bl, .int .i64 bh] else if j = 123 then .bool true else if j = 127 then .agg #[.int .i64 n3, .int .i64 d3] else v j), g, rfl, ⟨below_on hR.st hb, hR.f0.keep rfl, hR.f1.keep rfl, hR.f2.keep rfl, hR.f3.keep rfl, hR.f4.keep rfl, hR.f5.keep rfl, hR.f6.keep rfl, hR.f7.keep rfl, hR.f8.keep rfl, hR.f9.keep rfl, hR.f10.keep rfl, hR.f11.keep rfl, hR.f12.keep rfl, hR.f13.keep rfl, hR.f14.keep rfl, hR.f15.keep rfl, hR.f16.keep rfl, hR.f17.keep rfl, hR.f18.keep rfl, hR.f19.keep rfl, hR.f20.keep rfl, hR.f21.keep rfl, (fun _ => rfl), hR.f23.keep rfl, (fun _ => rfl), (fun _ => rfl), (fun _ => rfl), hR.f27.keep rfl, hR.f28.keep rfl, hR.f29.keep rfl, hR.f30.keep rfl, hR.f31.keep rfl, hR.f32.keep rfl, hR.f33.keep rfl, hR.f34.keep rfl, hR.f35.keep rfl, hR.f36.keep rfl, hR.f37.keep rfl, hR.f38.keep rfl, hR.f39.keep rfl⟩⟩
    refine EachOf.cons [23, 26, 22] rfl (by kernel_rfl) ?_ ?_
    · rintro L A W ⟨v, g, rfl, hR⟩ hi hw K hK
      have e23 := hR.f23 (hw 23 (by simp))
      have e26 := hR.f26 (hw 26 (by simp))
      have e22 := hR.f22 (hw 22 (by simp))
      simp only [e23, e26, e22]
      clear e23 e26 e22
      go_simp
      refine hK.out _ _ ?_
      exact ⟨(fun j => if j = 124 then .agg #[.int .i64 n3, .int .i64 d3] else if j = 127 then .agg #[.int .i64 n3, .int .i64 d3] else if j = 123 then .bool true else if j = 128 then .bool true else v j), g, rfl, ⟨hR.st, hR.f0.keep rfl, hR.f1.keep rfl, hR.f2.keep rfl, hR.f3.keep rfl, hR.f4.keep rfl, hR.f5.keep rfl, hR.f6.keep rfl, hR.f7.keep rfl, hR.f8.keep rfl, hR.f9.keep rfl, hR.f10.keep rfl, hR.f11.keep rfl, hR.f12.keep rfl, hR.f13.keep rfl, hR.f14.keep rfl, hR.f15.keep rfl, hR.f16.keep rfl, hR.f17.keep rfl, hR.f18.keep rfl, hR.f19.keep rfl, hR.f20.keep rfl, hR.f21.keep rfl, (fun _ => rfl), (fun _ => rfl), hR.f24.keep rfl, hR.f25.keep rfl, (fun _ => rfl), (fun _ => rfl), hR.f28.keep rfl, hR.f29.keep rfl, hR.f30.keep rfl, hR.f31.keep rfl, hR.f32.keep rfl, hR.f33.keep rfl, hR.f34.keep rfl, hR.f35.keep rfl, hR.f36.keep rfl, hR.f37.keep rfl, hR.f38.keep rfl, hR.f39.keep rfl⟩⟩
    refine EachOf.cons [22, 27] rfl (by kernel_rfl) ?_ ?_
    · rintro L A W ⟨v, g, rfl, hR⟩ hi hw K hK
      have e22 := hR.f22 (hw 22 (by simp))
      have e27 := hR.f27 (hw 27 (by simp))
      simp only [e22, e27]
      clear e22 e27
      go_simp
      refine hK.out _ _ ?_
      exact ⟨(fun j => if j = 123 then .bool true else if j = 128 then .bool true else if j = 129 then .bool true else v j), g, rfl, ⟨hR.st, hR.f0.keep rfl, hR.f1.keep rfl, hR.f2.keep rfl, hR.f3.keep rfl, hR.f4.keep rfl, hR.f5.keep rfl, hR.f6.keep rfl, hR.f7.keep rfl, hR.f8.keep rfl, hR.f9.keep rfl, hR.f10.keep rfl, hR.f11.keep rfl, hR.f12.keep rfl, hR.f13.keep rfl, hR.f14.keep rfl, hR.f15.keep rfl, hR.f16.keep rfl, hR.f17.keep rfl, hR.f18.keep rfl, hR.f19.keep rfl, hR.f20.keep rfl, hR.f21.keep rfl, (fun _ => rfl), hR.f23.keep rfl, hR.f24.keep rfl, hR.f25.keep rfl, hR.f26.keep rfl, (fun _ => rfl), (fun _ => rfl), hR.f29.keep rfl, hR.f30.keep rfl, hR.f31.keep rfl, hR.f32.keep rfl, hR.f33.keep rfl, hR.f34.keep rfl, hR.f35.keep rfl, hR.f36.keep rfl, hR.f37.keep rfl, hR.f38.keep rfl, hR.f39.keep rfl⟩⟩
    refine EachOf.cons [28] rfl (by kernel_rfl) ?_ ?_
    · rintro L A W ⟨v, g, rfl, hR⟩ hi hw K hK
      have e28 := hR.f28 (hw 28 (by simp))
      simp only [e28]
      clear e28
      go_simp
      refine hK.out _ _ ?_
      exact ⟨(fun j => if j = 129 then .bool true else if j = 130 then .bool true else v j), g, rfl, ⟨hR.st, hR.f0.keep rfl, hR.f1.keep rfl, hR.f2.keep rfl, hR.f3.keep rfl, hR.f4.keep rfl, hR.f5.keep rfl, hR.f6.keep rfl, hR.f7.keep rfl, hR.f8.keep rfl, hR.f9.keep rfl, hR.f10.keep rfl, hR.f11.keep rfl, hR.f12.keep rfl, hR.f13.keep rfl, hR.f14.keep rfl, hR.f15.keep rfl, hR.f16.keep rfl, hR.f17.keep rfl, hR.f18.keep rfl, hR.f19.keep rfl, hR.f20.keep rfl, hR.f21.keep rfl, hR.f22.keep rfl, hR.f23.keep rfl, hR.f24.keep rfl, hR.f25.keep rfl, hR.f26.keep rfl, hR.f27.keep rfl, (fun _ => rfl), (fun _ => rfl), hR.f30.keep rfl, hR.f31.keep rfl, hR.f32.keep rfl, hR.f33.keep rfl, hR.f34.keep rfl, hR.f35.keep rfl, hR.f36.keep rfl, hR.f37.keep rfl, hR.f38.keep rfl, hR.f39.keep rfl⟩⟩
    refine EachOf.cons [29] rfl (by kernel_rfl) ?_ ?_
    · rintro L A W ⟨v, g, rfl, hR⟩ hi hw K hK
      have e29 := hR.f29 (hw 29 (by simp))
      simp only [e29]
      clear e29
      obtain ⟨_, q0, q1⟩ := B5.out.on hR.st
      go_simp
      refine hK.out _ _ ?_
      exact ⟨(fun j => if j = 130 then .bool true else if j = 131 then .agg #[.int .i64 n4, .int .i64 d4] else v j), g, rfl, ⟨hR.st, hR.f0.keep rfl, hR.f1.keep rfl, hR.f2.keep rfl, hR.f3.keep rfl, hR.f4.keep rfl, hR.f5.keep rfl, hR.f6.keep rfl, hR.f7.keep rfl, hR.f8.keep rfl, hR.f9.keep rfl, hR.f10.keep rfl, hR.f11.keep rfl, hR.f12.keep rfl, hR.f13.keep rfl, hR.f14.keep rfl, hR.f15.keep rfl, hR.f16.keep rfl, hR.f17.keep rfl, hR.f18.keep rfl, hR.f19.keep rfl, hR.f20.keep rfl, hR.f21.keep rfl, hR.f22.keep rfl, hR.f23.keep rfl, hR.f24.keep rfl, hR.f25.keep rfl, hR.f26.keep rfl, hR.f27.keep rfl, hR.f28.keep rfl, (fun _ => rfl), (fun _ => rfl), hR.f31.keep rfl, hR.f32.keep rfl, hR.f33.keep rfl, hR.f34.keep rfl, hR.f35.keep rfl, hR.f36.keep rfl, hR.f37.keep rfl, hR.f38.keep rfl, hR.f39.keep rfl⟩⟩
    refine EachOf.cons [29] rfl (by kernel_rfl) ?_ ?_
    · rintro L A W ⟨v, g, rfl, hR⟩ hi hw K hK
      have e29 := hR.f29 (hw 29 (by simp))
      simp only [e29]
      clear e29
      obtain ⟨_, q0, q1⟩ := B8.out.on hR.st
      go_simp
      refine hK.out _ _ ?_
      exact ⟨(fun j => if j = 130 then .bool true else if j = 132 then .agg #[.int .i64 n4, .int .i64 d4] else v j), g, rfl, ⟨hR.st, hR.f0.keep rfl, hR.f1.keep rfl, hR.f2.keep rfl, hR.f3.keep rfl, hR.f4.keep rfl, hR.f5.keep rfl, hR.f6.keep rfl, hR.f7.keep rfl, hR.f8.keep rfl, hR.f9.keep rfl, hR.f10.keep rfl, hR.f11.keep rfl, hR.f12.keep rfl, hR.f13.keep rfl, hR.f14.keep rfl, hR.f15.keep rfl, hR.f16.keep rfl, hR.f17.keep rfl, hR.f18.keep rfl, hR.f19.keep rfl, hR.f20.keep rfl, hR.f21.keep rfl, hR.f22.keep rfl, hR.f23.keep rfl, hR.f24.keep rfl, hR.f25.keep rfl, hR.f26.keep rfl, hR.f27.keep rfl, hR.f28.keep rfl, (fun _ => rfl), hR.f30.keep rfl, (fun _ => rfl), hR.f32.keep rfl, hR.f33.keep rfl, hR.f34.keep rfl, hR.f35.keep rfl, hR.f36.keep rfl, hR.f37.keep rfl, hR.f38.keep rfl, hR.f39.keep rfl⟩⟩
    refine EachOf.cons [30, 31, 29] rfl (by kernel_rfl) ?_ ?_
    · rintro L A W ⟨v, g, rfl, hR⟩ hi hw K hK
      have e30 := hR.f30 (hw 30 (by simp))
      have e31 := hR.f31 (hw 31 (by simp))
      have e29 := hR.f29 (hw 29 (by simp))
      simp only [e30, e31, e29]
      clear e30 e31 e29
      go_simp
      refine hK.out _ _ ?_
      exact ⟨(fun j => if j = 131 then .agg #[.int .i64 n4, .int .i64 d4] else if j = 132 then .agg #[.int .i64 n4, .int .i64 d4] else if j = 130 then .bool true else if j = 133 then .bool true else v j), g, rfl, ⟨hR.st, hR.f0.keep rfl, hR.f1.keep rfl, hR.f2.keep rfl, hR.f3.keep rfl, hR.f4.keep rfl, hR.f5.keep rfl, hR.f6.keep rfl, hR.f7.keep rfl, hR.f8.keep rfl, hR.f9.keep rfl, hR.f10.keep rfl, hR.f11.keep rfl, hR.f12.keep rfl, hR.f13.keep rfl, hR.f14.keep rfl, hR.f15.keep rfl, hR.f16.keep rfl, hR.f17.keep rfl, hR.f18.keep rfl, hR.f19.keep rfl, hR.f20.keep rfl, hR.f21.keep rfl, hR.f22.keep rfl, hR.f23.keep rfl, hR.f24.keep rfl, hR.f25.keep rfl, hR.f26.keep rfl, hR.f27.keep rfl, hR.f28.keep rfl, (fun _ => rfl), (fun _ => rfl), (fun _ => rfl), (fun _ => rfl), hR.f33.keep rfl, hR.f34.keep rfl, hR.f35.keep rfl, hR.f36.keep rfl, hR.f37.keep rfl, hR.f38.keep rfl, hR.f39.keep rfl⟩⟩
    refine EachOf.cons [29, 32] rfl (by kernel_rfl) ?_ ?_
    · rintro L A W ⟨v, g, rfl, hR⟩ hi hw K hK
      have e29 := hR.f29 (hw 29 (by simp))
      have e32 := hR.f32 (hw 32 (by simp))
      simp only [e29, e32]
      clear e29 e32
      go_simp
      refine hK.out _ _ ?_
      exact ⟨(fun j => if j = 130 then .bool true else if j = 133 then .bool true else if j = 134 then .bool true else v j), g, rfl, ⟨hR.st, hR.f0.keep rfl, hR.f1.keep rfl, hR.f2.keep rfl, hR.f3.keep rfl, hR.f4.keep rfl, hR.f5.keep rfl, hR.f6.keep rfl, hR.f7.keep rfl, hR.f8.keep rfl, hR.f9.keep rfl, hR.f10.keep rfl, hR.f11.keep rfl, hR.f12.keep rfl, hR.f13.keep rfl, hR.f14.keep rfl, hR.f15.keep rfl, hR.f16.keep rfl, hR.f17.keep rfl, hR.f18.keep rfl, hR.f19.keep rfl, hR.f20.keep rfl, hR.f21.keep rfl, hR.f22.keep rfl, hR.f23.keep rfl, hR.f24.keep rfl, hR.f25.keep rfl, hR.f26.keep rfl, hR.f27.keep rfl, hR.f28.keep rfl, (fun _ => rfl), hR.f30.keep rfl, hR.f31.keep rfl, (fun _ => rfl), (fun _ => rfl), hR.f34.keep rfl, hR.f35.keep rfl, hR.f36.keep rfl, hR.f37.keep rfl, hR.f38.keep rfl, hR.f39.keep rfl⟩⟩
    refine EachOf.cons [33] rfl (by kernel_rfl) ?_ ?_
    · rintro L A W ⟨v, g, rfl, hR⟩ hi hw K hK
      have e33 := hR.f33 (hw 33 (by simp))
      simp only [e33]
      clear e33
      go_simp
      refine hK.out _ _ ?_
      exact ⟨(fun j => if j = 134 then .bool true else if j = 135 then .bool true else v j), g, rfl, ⟨hR.st, hR.f0.keep rfl, hR.f1.keep rfl, hR.f2.keep rfl, hR.f3.keep rfl, hR.f4.keep rfl, hR.f5.keep rfl, hR.f6.keep rfl, hR.f7.keep rfl, hR.f8.keep rfl, hR.f9.keep rfl, hR.f10.keep rfl, hR.f11.keep rfl, hR.f12.keep rfl, hR.f13.keep rfl, hR.f14.keep rfl, hR.f15.keep rfl, hR.f16.keep rfl, hR.f17.keep rfl, hR.f18.keep rfl, hR.f19.keep rfl, hR.f20.keep rfl, hR.f21.keep rfl, hR.f22.keep rfl, hR.f23.keep rfl, hR.f24.keep rfl, hR.f25.keep rfl, hR.f26.keep rfl, hR.f27.keep rfl, hR.f28.keep rfl, hR.f29.keep rfl, hR.f30.keep rfl, hR.f31.keep rfl, hR.f32.keep rfl, (fun _ => rfl), (fun _ => rfl), hR.f35.keep rfl, hR.f36.keep rfl, hR.f37.keep rfl, hR.f38.keep rfl, hR.f39.keep rfl⟩⟩
    refine EachOf.cons [34] rfl (by kernel_rfl) ?_ ?_
    · rintro L A W ⟨v, g, rfl, hR⟩ hi hw K hK
      have e34 := hR.f34 (hw 34 (by simp))
      simp only [e34]
      clear e34
      go_simp
      refine hK.out _ _ ?_
      exact ⟨(fun j => if j = 135 then .bool true else if j = 136 then .int .i64 e4 else v j), g, rfl, ⟨hR.st, hR.f0.keep rfl, hR.f1.keep rfl, hR.f2.keep rfl, hR.f3.keep rfl, hR.f4.keep rfl, hR.f5.keep rfl, hR.f6.keep rfl, hR.f7.keep rfl, hR.f8.keep rfl, hR.f9.keep rfl, hR.f10.keep rfl, hR.f11.keep rfl, hR.f12.keep rfl, hR.f13.keep rfl, hR.f14.keep rfl, hR.f15.keep rfl, hR.f16.keep rfl, hR.f17.keep rfl, hR.f18.keep rfl, hR.f19.keep rfl, hR.f20.keep rfl, hR.f21.keep rfl, hR.f22.keep rfl, hR.f23.keep rfl, hR.f24.keep rfl, hR.f25.keep rfl, hR.f26.keep rfl, hR.f27.keep rfl, hR.f28.keep rfl, hR.f29.keep rfl, hR.f30.keep rfl, hR.f31.keep rfl, hR.f32.keep rfl, hR.f33.keep rfl, (fun _ => rfl), (fun _ => rfl), hR.f36.keep rfl, hR.f37.keep rfl, hR.f38.keep rfl, hR.f39.keep rfl⟩⟩
    refine EachOf.cons [34] rfl (by kernel_rfl) ?_ ?_
    · rintro L A W ⟨v, g, rfl, hR⟩ hi hw K hK
      have e34 := hR.f34 (hw 34 (by simp))
      simp only [e34]
      clear e34
      go_simp
      refine hK.out _ _ ?_
      exact ⟨(fun j => if j = 135 then .bool true else if j = 137 then .int .i64 e4 else v j), g, rfl, ⟨hR.st, hR.f0.keep rfl, hR.f1.keep rfl, hR.f2.keep rfl, hR.f3.keep rfl, hR.f4.keep rfl, hR.f5.keep rfl, hR.f6.keep rfl, hR.f7.keep rfl, hR.f8.keep rfl, hR.f9.keep rfl, hR.f10.keep rfl, hR.f11.keep rfl, hR.f12.keep rfl, hR.f13.keep rfl, hR.f14.keep rfl, hR.f15.keep rfl, hR.f16.keep rfl, hR.f17.keep rfl, hR.f18.keep rfl, hR.f19.keep rfl, hR.f20.keep rfl, hR.f21.keep rfl, hR.f22.keep rfl, hR.f23.keep rfl, hR.f24.keep rfl, hR.f25.keep rfl, hR.f26.keep rfl, hR.f27.keep rfl, hR.f28.keep rfl, hR.f29.keep rfl, hR.f30.keep rfl, hR.f31.keep rfl, hR.f32.keep rfl, hR.f33.keep rfl, (fun _ => rfl), hR.f35.keep rfl, (fun _ => rfl), hR.f37.keep rfl, hR.f38.keep rfl, hR.f39.keep rfl⟩⟩
    refine EachOf.cons [35, 36, 34] rfl (by kernel_rfl) ?_ ?_
    · rintro L A W ⟨v, g, rfl, hR⟩ hi hw K hK
      have e35 := hR.f35 (hw 35 (by simp))
      have e36 := hR.f36 (hw 36 (by simp))
      have e34 := hR.f34 (hw 34 (by simp))
      simp only [e35, e36, e34]
      clear e35 e36 e34
      go_simp
      refine hK.out _ _ ?_
      exact ⟨(fun j => if j = 136 then .int .i64 e4 else if j = 137 then .int .i64 e4 else if j = 135 then .bool true else if j = 138 then .bool true else v j), g, rfl, ⟨hR.st, hR.f0.keep rfl, hR.f1.keep rfl, hR.f2.keep rfl, hR.f3.keep rfl, hR.f4.keep rfl, hR.f5.keep rfl, hR.f6.keep rfl, hR.f7.keep rfl, hR.f8.keep rfl, hR.f9.keep rfl, hR.f10.keep rfl, hR.f11.keep rfl, hR.f12.keep rfl, hR.f13.keep rfl, hR.f14.keep rfl, hR.f15.keep rfl, hR.f16.keep rfl, hR.f17.keep rfl, hR.f18.keep rfl, hR.f19.keep rfl, hR.f20.keep rfl, hR.f21.keep rfl, hR.f22.keep rfl, hR.f23.keep rfl, hR.f24.keep rfl, hR.f25.keep rfl, hR.f26.keep rfl, hR.f27.keep rfl, hR.f28.keep rfl, hR.f29.keep rfl, hR.f30.keep rfl, hR.f31.keep rfl, hR.f32.keep rfl, hR.f33.keep rfl, (fun _ => rfl), (fun _ => rfl), (fun _ => rfl), (fun _ => rfl), hR.f38.keep rfl, hR.f39.keep rfl⟩⟩
    refine EachOf.cons [34, 37] rfl (by kernel_rfl) ?_ ?_
    · rintro L A W ⟨v, g, rfl, hR⟩ hi hw K hK
      have e34 := hR.f34 (hw 34 (by simp))
      have e37 := hR.f37 (hw 37 (by simp))
      simp only [e34, e37]
      clear e34 e37
      go_simp
      refine hK.out _ _ ?_
      exact ⟨(fun j => if j = 135 then .bool true else if j = 138 then .bool true else if j = 139 then .bool true else v j), g, rfl, ⟨hR.st, hR.f0.keep rfl, hR.f1.keep rfl, hR.f2.keep rfl, hR.f3.keep rfl, hR.f4.keep rfl, hR.f5.keep rfl, hR.f6.keep rfl, hR.f7.keep rfl, hR.f8.keep rfl, hR.f9.keep rfl, hR.f10.keep rfl, hR.f11.keep rfl, hR.f12.keep rfl, hR.f13.keep rfl, hR.f14.keep rfl, hR.f15.keep rfl, hR.f16.keep rfl, hR.f17.keep rfl, hR.f18.keep rfl, hR.f19.keep rfl, hR.f20.keep rfl, hR.f21.keep rfl, hR.f22.keep rfl, hR.f23.keep rfl, hR.f24.keep rfl, hR.f25.keep rfl, hR.f26.keep rfl, hR.f27.keep rfl, hR.f28.keep rfl, hR.f29.keep rfl, hR.f30.keep rfl, hR.f31.keep rfl, hR.f32.keep rfl, hR.f33.keep rfl, (fun _ => rfl), hR.f35.keep rfl, hR.f36.keep rfl, (fun _ => rfl), (fun _ => rfl), hR.f39.keep rfl⟩⟩
    refine EachOf.cons [38] rfl (by kernel_rfl) ?_ ?_
    · rintro L A W ⟨v, g, rfl, hR⟩ hi hw K hK
      have e38 := hR.f38 (hw 38 (by simp))
      simp only [e38]
      clear e38
      go_simp
      refine hK.out _ _ ?_
      exact ⟨(fun j => if j = 139 then .bool true else if j = 4 then .bool true else v j), g, rfl, ⟨hR.st, hR.f0.keep rfl, hR.f1.keep rfl, hR.f2.keep rfl, hR.f3.keep rfl, hR.f4.keep rfl, hR.f5.keep rfl, hR.f6.keep rfl, hR.f7.keep rfl, hR.f8.keep rfl, hR.f9.keep rfl, hR.f10.keep rfl, hR.f11.keep rfl, hR.f12.keep rfl, hR.f13.keep rfl, hR.f14.keep rfl, hR.f15.keep rfl, hR.f16.keep rfl, hR.f17.keep rfl, hR.f18.keep rfl, hR.f19.keep rfl, hR.f20.keep rfl, hR.f21.keep rfl, hR.f22.keep rfl, hR.f23.keep rfl, hR.f24.keep rfl, hR.f25.keep rfl, hR.f26.keep rfl, hR.f27.keep rfl, hR.f28.keep rfl, hR.f29.keep rfl, hR.f30.keep rfl, hR.f31.keep rfl, hR.f32.keep rfl, hR.f33.keep rfl, hR.f34.keep rfl, hR.f35.keep rfl, hR.f36.keep rfl, hR.f37.keep rfl, (fun _ => rfl), (fun _ => rfl)⟩⟩
    exact EachOf.nil
  rintro L A W2 ⟨v2, g2, rfl, hR⟩ hL
  have e39 := hR.f39 (hL 39 (by simp))
  have hst := Lib.hid hR.st
  simp only [e39]
  clear e39
  clear hR hL
  replace B0 := Lib.hid (B0.out.on hst.out)
  replace B1 := Lib.hid (B1.out.on hst.out)
  replace B2 := Lib.hid (B2.out.on hst.out)
  replace B3 := Lib.hid (B3.out.on hst.out)
  replace B4 := Lib.hid (B4.out.on hst.out)
  replace B5 := Lib.hid (B5.out.on hst.out)
  replace B6 := Lib.hid (B6.out.on hst.out)
  replace B7 := Lib.hid (B7.out.on hst.out)
  replace B8 := Lib.hid (B8.out.on hst.out)
  replace HW := Lib.hid (below_on HW.out hst.out)
  go_wp2_with fail
  go_ret
  exact ⟨rfl, HW.out⟩

structure SumsA7R (w : World) (al ah bl bh n1 d1 e1 n2 d2 e2 n3 d3 e3 n4 d4 e4 : Int) (vB : Bool) (Wc : World) (L : Nat → Bool) (v : Nat → Value) (g : Nat → Nat) (W : World) : Prop where
  st : Below Wc.heap.size Wc W
  f0 : Had L 0 (v 45 = .agg #[.int .i64 al, .int .i64 ah])
  f1 : Had L 1 (v 46 = .bool false)
  f2 : Had L 2 (v 47 = .agg #[.int .i64 al, .int .i64 ah])
  f3 : Had L 3 (v 48 = .bool false)
  f4 : Had L 4 (v 49 = .bool false)
  f5 : Had L 5 (v 50 = .bool false)
  f6 : Had L 6 (v 51 = .agg #[.int .i64 bl, .int .i64 bh])
  f7 : Had L 7 (v 52 = .bool vB)
  f8 : Had L 8 (v 53 = .agg #[.int .i64 bl, .int .i64 bh])
  f9 : Had L 9 (v 54 = .bool vB)
  f10 : Had L 10 (v 55 = .bool false)
  f11 : Had L 11 (v 56 = .bool false)

set_option maxRecDepth 100000 in
set_option maxHeartbeats 16000000 in
theorem sums_A (al ah bl bh : Int) (w : World) (a0 : -9223372036854775808 ≤ al) (a1 : al ≤ 9223372036854775807) (a2 : -9223372036854775808 ≤ ah) (a3 : ah ≤ 9223372036854775807) (b0 : -9223372036854775808 ≤ bl) (b1 : bl ≤ 9223372036854775807) (b2 : -9223372036854775808 ≤ bh) (b3 : bh ≤ 9223372036854775807) (ha : sV al ah = false) :
    Calls Try.prog 3 #[.agg #[.int .i64 al, .int .i64 ah], .agg #[.int .i64 bl, .int .i64 bh]] w fun e w' => e = .returned (.bool true) ∧ Below w.heap.size w w' := by
  have C1 := fun w => Lib.hid (sAdd_any al ah bl bh w a0 a1 a2 a3 b0 b1 b2 b3 0 0 1 (by unfold sAdd; rw [okS_a ha]))
  have C2 := fun w => Lib.hid (sSub_any al ah bl bh w a0 a1 a2 a3 b0 b1 b2 b3 0 0 1 (by unfold sSub; rw [okS_a ha]))
  have C3 := fun w => Lib.hid (sHull_any al ah bl bh w a0 a1 a2 a3 b0 b1 b2 b3 0 0 1 (by unfold sHull; rw [okS_a ha]))
  have C4 := fun w => Lib.hid (sMeet_any al ah bl bh w a0 a1 a2 a3 b0 b1 b2 b3 0 0 1 (by unfold sMeet; rw [okS_a ha]))
  have WR := fun w => Lib.hid (wrong_yes w)
  obtain ⟨n1, d1, e1, n2, d2, e2, n3, d3, e3, n4, d4, e4, _⟩ : ∃ a b c d e f g h i j k l : Int, True := ⟨0, 0, 0, 0, 0, 0, 0, 0, 0, 0, 0, 0, trivial⟩
  have VA := fun w => Lib.hid (sValid_any al ah w)
  have WA := fun w => Lib.hid (rsValid_any al ah w)
  have VB := fun w => Lib.hid (sValid_any bl bh w)
  have WB := fun w => Lib.hid (rsValid_any bl bh w)
  simp only [ha] at VA WA
  obtain ⟨vB, hvB⟩ : ∃ z, sV bl bh = z := ⟨_, rfl⟩
  simp only [hvB] at VB WB
  clear hvB ha
  have HW := Lib.hid (Below.refl w.heap.size w)
  have AW := fun w => Lib.hid (sawake_any w)
  go_enter Try.func3, Try.ntmps3
  go_wp2_with fail
  (with_reducible refine ((AW _).out).mono ?_)
  rintro e y1 ⟨rfl, hb⟩
  have hst := Lib.hid (below_on (w := w) (by repeat' (first | (with_reducible exact Below.refl _ _) | (with_reducible assumption) | (with_reducible refine Below.alloc ?_ ?_ _) | (with_reducible refine below_drew ?_ _) | (with_reducible refine Below.drew ?_) | (with_reducible refine Below.setCell ?_ ?_ _) | go_size)) hb)
  have B0 : Hid (Blk y1 (w.heap.size) (.int .i64 al) (.int .i64 ah)) := Blk.on (W := ((w.alloc (Obj.cells #[Value.int .i64 al, Value.int .i64 ah] 23)).alloc (Obj.cells #[Value.int .i64 bl, Value.int .i64 bh] 23))) (by first | exact Blk.new _ _ _ _ | exact (Blk.new _ _ _ _).alloc _ | exact ((Blk.new _ _ _ _).alloc _).alloc _ | (have hn := Blk.new (w) (Value.int .i64 al) (Value.int .i64 ah) 23; simpa using hn)) hb
  have B1 : Hid (Blk y1 (w.heap.size + 1) (.int .i64 bl) (.int .i64 bh)) := Blk.on (W := ((w.alloc (Obj.cells #[Value.int .i64 al, Value.int .i64 ah] 23)).alloc (Obj.cells #[Value.int .i64 bl, Value.int .i64 bh] 23))) (by first | exact Blk.new _ _ _ _ | exact (Blk.new _ _ _ _).alloc _ | exact ((Blk.new _ _ _ _).alloc _).alloc _ | (have hn := Blk.new ((w.alloc (Obj.cells #[Value.int .i64 al, Value.int .i64 ah] 23))) (Value.int .i64 bl) (Value.int .i64 bh) 23; simpa using hn)) hb
  clear hb
  replace HW := Lib.hid (below_on HW.out hst.out)
  clear hst
  obtain ⟨_, B0p, B0q⟩ := B0.out
  obtain ⟨_, B1p, B1q⟩ := B1.out
  go_wp2_with fail
  (with_reducible refine ((C1 _).out).mono ?_)
  rintro e y2 ⟨rfl, hb⟩
  clear B0p B0q B1p B1q
  have hst := Lib.hid hb
  clear hb
  replace B0 := Lib.hid (B0.out.on hst.out)
  replace B1 := Lib.hid (B1.out.on hst.out)
  replace HW := Lib.hid (below_on HW.out hst.out)
  clear hst
  obtain ⟨_, B0p, B0q⟩ := B0.out
  obtain ⟨_, B1p, B1q⟩ := B1.out
  go_wp2_with fail
  (with_reducible refine ((C2 _).out).mono ?_)
  rintro e y3 ⟨rfl, hb⟩
  clear B0p B0q B1p B1q
  have hst := Lib.hid (below_on (w := y2) (by repeat' (first | (with_reducible exact Below.refl _ _) | (with_reducible assumption) | (with_reducible refine Below.alloc ?_ ?_ _) | (with_reducible refine below_drew ?_ _) | (with_reducible refine Below.drew ?_) | (with_reducible refine Below.setCell ?_ ?_ _) | go_size)) hb)
  have B2 : Hid (Blk y3 (y2.heap.size) (.int .i64 0) (.int .i64 0)) := Blk.on (W := (y2.alloc (Obj.cells #[Value.int .i64 0, Value.int .i64 0] 23))) (by first | exact Blk.new _ _ _ _ | exact (Blk.new _ _ _ _).alloc _ | exact ((Blk.new _ _ _ _).alloc _).alloc _ | (have hn := Blk.new (y2) (Value.int .i64 0) (Value.int .i64 0) 23; simpa using hn)) hb
  clear hb
  replace B0 := Lib.hid (B0.out.on hst.out)
  replace B1 := Lib.hid (B1.out.on hst.out)
  replace HW := Lib.hid (below_on HW.out hst.out)
  clear hst
  obtain ⟨_, B0p, B0q⟩ := B0.out
  obtain ⟨_, B1p, B1q⟩ := B1.out
  go_wp2_with fail
  (with_reducible refine ((C3 _).out).mono ?_)
  rintro e y4 ⟨rfl, hb⟩
  clear B0p B0q B1p B1q
  have hst := Lib.hid (below_on (w := y3) (by repeat' (first | (with_reducible exact Below.refl _ _) | (with_reducible assumption) | (with_reducible refine Below.alloc ?_ ?_ _) | (with_reducible refine below_drew ?_ _) | (with_reducible refine Below.drew ?_) | (with_reducible refine Below.setCell ?_ ?_ _) | go_size)) hb)
  have B3 : Hid (Blk y4 (y3.heap.size) (.int .i64 0) (.int .i64 0)) := Blk.on (W := (y3.alloc (Obj.cells #[Value.int .i64 0, Value.int .i64 0] 23))) (by first | exact Blk.new _ _ _ _ | exact (Blk.new _ _ _ _).alloc _ | exact ((Blk.new _ _ _ _).alloc _).alloc _ | (have hn := Blk.new (y3) (Value.int .i64 0) (Value.int .i64 0) 23; simpa using hn)) hb
  clear hb
  replace B0 := Lib.hid (B0.out.on hst.out)
  replace B1 := Lib.hid (B1.out.on hst.out)
  replace B2 := Lib.hid (B2.out.on hst.out)
  replace HW := Lib.hid (below_on HW.out hst.out)
  clear hst
  obtain ⟨_, B0p, B0q⟩ := B0.out
  obtain ⟨_, B1p, B1q⟩ := B1.out
  go_wp2_with fail
  (with_reducible refine ((C4 _).out).mono ?_)
  rintro e y5 ⟨rfl, hb⟩
  clear B0p B0q B1p B1q
  have hst := Lib.hid (below_on (w := y4) (by repeat' (first | (with_reducible exact Below.refl _ _) | (with_reducible assumption) | (with_reducible refine Below.alloc ?_ ?_ _) | (with_reducible refine below_drew ?_ _) | (with_reducible refine Below.drew ?_) | (with_reducible refine Below.setCell ?_ ?_ _) | go_size)) hb)
  have B4 : Hid (Blk y5 (y4.heap.size) (.int .i64 0) (.int .i64 0)) := Blk.on (W := (y4.alloc (Obj.cells #[Value.int .i64 0, Value.int .i64 0] 23))) (by first | exact Blk.new _ _ _ _ | exact (Blk.new _ _ _ _).alloc _ | exact ((Blk.new _ _ _ _).alloc _).alloc _ | (have hn := Blk.new (y4) (Value.int .i64 0) (Value.int .i64 0) 23; simpa using hn)) hb
  clear hb
  replace B0 := Lib.hid (B0.out.on hst.out)
  replace B1 := Lib.hid (B1.out.on hst.out)
  replace B2 := Lib.hid (B2.out.on hst.out)
  replace B3 := Lib.hid (B3.out.on hst.out)
  replace HW := Lib.hid (below_on HW.out hst.out)
  clear hst
  clear AW C1 C2 C3 C4
  go_wp2_with fail
  obtain ⟨y6, hy⟩ : ∃ W, W = (y5.alloc (Obj.cells #[Value.int .i64 0, Value.int .i64 0] 23)) := ⟨_, rfl⟩
  rw [← hy]
  have hb : Below ((y5.alloc (Obj.cells #[Value.int .i64 0, Value.int .i64 0] 23))).heap.size ((y5.alloc (Obj.cells #[Value.int .i64 0, Value.int .i64 0] 23))) y6 := by rw [hy]; exact Below.refl _ _
  clear hy
  have hst := Lib.hid (below_on (w := y5) (by repeat' (first | (with_reducible exact Below.refl _ _) | (with_reducible assumption) | (with_reducible refine Below.alloc ?_ ?_ _) | (with_reducible refine below_drew ?_ _) | (with_reducible refine Below.drew ?_) | (with_reducible refine Below.setCell ?_ ?_ _) | go_size)) hb)
  have B5 : Hid (Blk y6 (y5.heap.size) (.int .i64 0) (.int .i64 0)) := Blk.on (W := (y5.alloc (Obj.cells #[Value.int .i64 0, Value.int .i64 0] 23))) (by first | exact Blk.new _ _ _ _ | exact (Blk.new _ _ _ _).alloc _ | (have hn := Blk.new (y5) (Value.int .i64 0) (Value.int .i64 0) 23; simpa using hn)) hb
  clear hb
  replace B0 := Lib.hid (B0.out.on hst.out)
  replace B1 := Lib.hid (B1.out.on hst.out)
  replace B2 := Lib.hid (B2.out.on hst.out)
  replace B3 := Lib.hid (B3.out.on hst.out)
  replace B4 := Lib.hid (B4.out.on hst.out)
  replace HW := Lib.hid (below_on HW.out hst.out)
  clear hst
  refine wp_region_each (fun L A W => ∃ (v : Nat → Value) (g : Nat → Nat), A = ⟨#[.agg #[.int .i64 al, .int .i64 ah], .agg #[.int .i64 bl, .int .i64 bh], .pointer (some ⟨w.heap.size, 0, none⟩), .pointer (some ⟨w.heap.size + 1, 0, none⟩), .bool false, .pointer (some ⟨y2.heap.size, 0, none⟩), .int .i64 1, .pointer (some ⟨y3.heap.size, 0, none⟩), .int .i64 1, .pointer (some ⟨y4.heap.size, 0, none⟩), .int .i64 1, .pointer (some ⟨y5.heap.size, 0, none⟩), .int .i64 1, undef, undef, undef, undef, undef, undef, .bool true, .bool false, .tuple #[.agg #[.int .i64 0, .int .i64 0], .int .i64 1], .agg #[.int .i64 al, .int .i64 ah], .agg #[.int .i64 bl, .int .i64 bh], .tuple #[.agg #[.int .i64 0, .int .i64 0], .int .i64 1], .agg #[.int .i64 0, .int .i64 0], .int .i64 1, .tuple #[.agg #[.int .i64 0, .int .i64 0], .int .i64 1], .agg #[.int .i64 al, .int .i64 ah], .agg #[.int .i64 bl, .int .i64 bh], .tuple #[.agg #[.int .i64 0, .int .i64 0], .int .i64 1], .agg #[.int .i64 0, .int .i64 0], .int .i64 1, .tuple #[.agg #[.int .i64 0, .int .i64 0], .int .i64 1], .agg #[.int .i64 al, .int .i64 ah], .agg #[.int .i64 bl, .int .i64 bh], .tuple #[.agg #[.int .i64 0, .int .i64 0], .int .i64 1], .agg #[.int .i64 0, .int .i64 0], .int .i64 1, .tuple #[.agg #[.int .i64 0, .int .i64 0], .int .i64 1], .agg #[.int .i64 al, .int .i64 ah], .agg #[.int .i64 bl, .int .i64 bh], .tuple #[.agg #[.int .i64 0, .int .i64 0], .int .i64 1], .agg #[.int .i64 0, .int .i64 0], .int .i64 1, v 45, v 46, v 47, v 48, v 49, v 50, v 51, v 52, v 53, v 54, v 55, v 56, undef, undef, undef, undef, undef, undef, undef, undef, undef, undef, undef, undef, undef, undef, undef, undef, undef, undef, undef, undef, undef, undef, undef, undef, undef, undef, undef, undef, undef, undef, undef, undef, undef, undef, undef, undef, undef, undef, undef, undef, undef, undef, undef, undef, undef, undef, undef, undef, undef, undef, undef, undef, undef, undef, undef, undef, undef, undef, undef, undef, undef, undef, undef, undef, undef, undef, undef, undef, undef, undef, undef, undef, undef, undef, undef, undef, undef, undef, undef, undef, undef, undef, undef], []⟩ ∧ SumsA7R w al ah bl bh n1 d1 e1 n2 d2 e2 n3 d3 e3 n4 d4 e4 vB y6 L v g W) (by kernel_rfl) (by kernel_rfl) ⟨fun _ => undef, fun _ => 0, rfl, ⟨Below.drew (Below.refl _ _), Had.none, Had.none, Had.none, Had.none, Had.none, Had.none, Had.none, Had.none, Had.none, Had.none, Had.none, Had.none⟩⟩ (rs := [0, 1, 2, 3, 4, 5, 6, 7, 8, 9, 10, 11]) (by kernel_rfl) ?_ ?_
  · refine EachOf.cons [] rfl (by kernel_rfl) ?_ ?_
    · rintro L A W ⟨v, g, rfl, hR⟩ hi hw K hK
      obtain ⟨_, q0, q1⟩ := B0.out.on hR.st
      go_simp
      refine hK.out _ _ ?_
      exact ⟨(fun j => if j = 45 then .agg #[.int .i64 al, .int .i64 ah] else v j), g, rfl, ⟨hR.st, (fun _ => rfl), hR.f1.keep rfl, hR.f2.keep rfl, hR.f3.keep rfl, hR.f4.keep rfl, hR.f5.keep rfl, hR.f6.keep rfl, hR.f7.keep rfl, hR.f8.keep rfl, hR.f9.keep rfl, hR.f10.keep rfl, hR.f11.keep rfl⟩⟩
    refine EachOf.cons [0] rfl (by kernel_rfl) ?_ ?_
    · rintro L A W ⟨v, g, rfl, hR⟩ hi hw K hK
      have e0 := hR.f0 (hw 0 (by simp))
      simp only [e0]
      clear e0
      go_simp
      go_at_call 16
      (with_reducible refine ((VA _).out).mono ?_)
      rintro e w2 ⟨rfl, hb⟩
      go_simp
      refine hK.out _ _ ?_
      exact ⟨(fun j => if j = 45 then .agg #[.int .i64 al, .int .i64 ah] else if j = 46 then .bool false else v j), g, rfl, ⟨below_on hR.st hb, (fun _ => rfl), (fun _ => rfl), hR.f2.keep rfl, hR.f3.keep rfl, hR.f4.keep rfl, hR.f5.keep rfl, hR.f6.keep rfl, hR.f7.keep rfl, hR.f8.keep rfl, hR.f9.keep rfl, hR.f10.keep rfl, hR.f11.keep rfl⟩⟩
    refine EachOf.cons [] rfl (by kernel_rfl) ?_ ?_
    · rintro L A W ⟨v, g, rfl, hR⟩ hi hw K hK
      obtain ⟨_, q0, q1⟩ := B0.out.on hR.st
      go_simp
      refine hK.out _ _ ?_
      exact ⟨(fun j => if j = 47 then .agg #[.int .i64 al, .int .i64 ah] else v j), g, rfl, ⟨hR.st, hR.f0.keep rfl, hR.f1.keep rfl, (fun _ => rfl), hR.f3.keep rfl, hR.f4.keep rfl, hR.f5.keep rfl, hR.f6.keep rfl, hR.f7.keep rfl, hR.f8.keep rfl, hR.f9.keep rfl, hR.f10.keep rfl, hR.f11.keep rfl⟩⟩
    refine EachOf.cons [2] rfl (by kernel_rfl) ?_ ?_
    · rintro L A W ⟨v, g, rfl, hR⟩ hi hw K hK
      have e2 := hR.f2 (hw 2 (by simp))
      simp only [e2]
      clear e2
      go_simp
      go_at_call 17
      (with_reducible refine ((WA _).out).mono ?_)
      rintro e w2 ⟨rfl, hb⟩
      go_simp
      refine hK.out _ _ ?_
      exact ⟨(fun j => if j = 47 then .agg #[.int .i64 al, .int .i64 ah] else if j = 48 then .bool false else v j), g, rfl, ⟨below_on hR.st hb, hR.f0.keep rfl, hR.f1.keep rfl, (fun _ => rfl), (fun _ => rfl), hR.f4.keep rfl, hR.f5.keep rfl, hR.f6.keep rfl, hR.f7.keep rfl, hR.f8.keep rfl, hR.f9.keep rfl, hR.f10.keep rfl, hR.f11.keep rfl⟩⟩
    refine EachOf.cons [1, 3] rfl (by kernel_rfl) ?_ ?_
    · rintro L A W ⟨v, g, rfl, hR⟩ hi hw K hK
      have e1 := hR.f1 (hw 1 (by simp))
      have e3 := hR.f3 (hw 3 (by simp))
      simp only [e1, e3]
      clear e1 e3
      go_simp
      refine hK.out _ _ ?_
      exact ⟨(fun j => if j = 46 then .bool false else if j = 48 then .bool false else if j = 49 then .bool false else v j), g, rfl, ⟨hR.st, hR.f0.keep rfl, (fun _ => rfl), hR.f2.keep rfl, (fun _ => rfl), (fun _ => rfl), hR.f5.keep rfl, hR.f6.keep rfl, hR.f7.keep rfl, hR.f8.keep rfl, hR.f9.keep rfl, hR.f10.keep rfl, hR.f11.keep rfl⟩⟩
    refine EachOf.cons [4] rfl (by kernel_rfl) ?_ ?_
    · rintro L A W ⟨v, g, rfl, hR⟩ hi hw K hK
      have e4 := hR.f4 (hw 4 (by simp))
      simp only [e4]
      clear e4
      go_simp
      refine hK.out _ _ ?_
      exact ⟨(fun j => if j = 49 then .bool false else if j = 50 then .bool false else v j), g, rfl, ⟨hR.st, hR.f0.keep rfl, hR.f1.keep rfl, hR.f2.keep rfl, hR.f3.keep rfl, (fun _ => rfl), (fun _ => rfl), hR.f6.keep rfl, hR.f7.keep rfl, hR.f8.keep rfl, hR.f9.keep rfl, hR.f10.keep rfl, hR.f11.keep rfl⟩⟩
    refine EachOf.cons [5] rfl (by kernel_rfl) ?_ ?_
    · rintro L A W ⟨v, g, rfl, hR⟩ hi hw K hK
      have e5 := hR.f5 (hw 5 (by simp))
      simp only [e5]
      clear e5
      obtain ⟨_, q0, q1⟩ := B1.out.on hR.st
      go_simp
      refine hK.out _ _ ?_
      exact ⟨(fun j => if j = 50 then .bool false else if j = 51 then .agg #[.int .i64 bl, .int .i64 bh] else v j), g, rfl, ⟨hR.st, hR.f0.keep rfl, hR.f1.keep rfl, hR.f2.keep rfl, hR.f3.keep rfl, hR.f4.keep rfl, (fun _ => rfl), (fun _ => rfl), hR.f7.keep rfl, hR.f8.keep rfl, hR.f9.keep rfl, hR.f10.keep rfl, hR.f11.keep rfl⟩⟩
    refine EachOf.cons [6, 5] rfl (by kernel_rfl) ?_ ?_
    · rintro L A W ⟨v, g, rfl, hR⟩ hi hw K hK
      have e6 := hR.f6 (hw 6 (by simp))
      have e5 := hR.f5 (hw 5 (by simp))
      simp only [e6, e5]
      clear e6 e5
      go_simp
      go_at_call 16
      (with_reducible refine ((VB _).out).mono ?_)
      rintro e w2 ⟨rfl, hb⟩
      go_simp
      refine hK.out _ _ ?_
      exact ⟨(fun j => if j = 51 then .agg #[.int .i64 bl, .int .i64 bh] else if j = 50 then .bool false else if j = 52 then .bool vB else v j), g, rfl, ⟨below_on hR.st hb, hR.f0.keep rfl, hR.f1.keep rfl, hR.f2.keep rfl, hR.f3.keep rfl, hR.f4.keep rfl, (fun _ => rfl), (fun _ => rfl), (fun _ => rfl), hR.f8.keep rfl, hR.f9.keep rfl, hR.f10.keep rfl, hR.f11.keep rfl⟩⟩
    refine EachOf.cons [5] rfl (by kernel_rfl) ?_ ?_
    · rintro L A W ⟨v, g, rfl, hR⟩ hi hw K hK
      have e5 := hR.f5 (hw 5 (by simp))
      simp only [e5]
      clear e5
      obtain ⟨_, q0, q1⟩ := B1.out.on hR.st
      go_simp
      refine hK.out _ _ ?_
      exact ⟨(fun j => if j = 50 then .bool false else if j = 53 then .agg #[.int .i64 bl, .int .i64 bh] else v j), g, rfl, ⟨hR.st, hR.f0.keep rfl, hR.f1.keep rfl, hR.f2.keep rfl, hR.f3.keep rfl, hR.f4.keep rfl, (fun _ => rfl), hR.f6.keep rfl, hR.f7.keep rfl, (fun _ => rfl), hR.f9.keep rfl, hR.f10.keep rfl, hR.f11.keep rfl⟩⟩
    refine EachOf.cons [8, 5] rfl (by kernel_rfl) ?_ ?_
    · rintro L A W ⟨v, g, rfl, hR⟩ hi hw K hK
      have e8 := hR.f8 (hw 8 (by simp))
      have e5 := hR.f5 (hw 5 (by simp))
      simp only [e8, e5]
      clear e8 e5
      go_simp
      go_at_call 17
      (with_reducible refine ((WB _).out).mono ?_)
      rintro e w2 ⟨rfl, hb⟩
      go_simp
      refine hK.out _ _ ?_
      exact ⟨(fun j => if j = 53 then .agg #[.int .i64 bl, .int .i64 bh] else if j = 50 then .bool false else if j = 54 then .bool vB else v j), g, rfl, ⟨below_on hR.st hb, hR.f0.keep rfl, hR.f1.keep rfl, hR.f2.keep rfl, hR.f3.keep rfl, hR.f4.keep rfl, (fun _ => rfl), hR.f6.keep rfl, hR.f7.keep rfl, (fun _ => rfl), (fun _ => rfl), hR.f10.keep rfl, hR.f11.keep rfl⟩⟩
    refine EachOf.cons [7, 9, 5] rfl (by kernel_rfl) ?_ ?_
    · rintro L A W ⟨v, g, rfl, hR⟩ hi hw K hK
      have e7 := hR.f7 (hw 7 (by simp))
      have e9 := hR.f9 (hw 9 (by simp))
      have e5 := hR.f5 (hw 5 (by simp))
      simp only [e7, e9, e5]
      clear e7 e9 e5
      go_simp
      refine hK.out _ _ ?_
      exact ⟨(fun j => if j = 52 then .bool vB else if j = 54 then .bool vB else if j = 50 then .bool false else if j = 55 then .bool false else v j), g, rfl, ⟨hR.st, hR.f0.keep rfl, hR.f1.keep rfl, hR.f2.keep rfl, hR.f3.keep rfl, hR.f4.keep rfl, (fun _ => rfl), hR.f6.keep rfl, (fun _ => rfl), hR.f8.keep rfl, (fun _ => rfl), (fun _ => rfl), hR.f11.keep rfl⟩⟩
    refine EachOf.cons [5, 10] rfl (by kernel_rfl) ?_ ?_
    · rintro L A W ⟨v, g, rfl, hR⟩ hi hw K hK
      have e5 := hR.f5 (hw 5 (by simp))
      have e10 := hR.f10 (hw 10 (by simp))
      simp only [e5, e10]
      clear e5 e10
      go_simp
      refine hK.out _ _ ?_
      exact ⟨(fun j => if j = 50 then .bool false else if j = 55 then .bool false else if j = 56 then .bool false else v j), g, rfl, ⟨hR.st, hR.f0.keep rfl, hR.f1.keep rfl, hR.f2.keep rfl, hR.f3.keep rfl, hR.f4.keep rfl, (fun _ => rfl), hR.f6.keep rfl, hR.f7.keep rfl, hR.f8.keep rfl, hR.f9.keep rfl, (fun _ => rfl), (fun _ => rfl)⟩⟩
    exact EachOf.nil
  rintro L A W1 ⟨v1, g1, rfl, hR⟩ hL
  have e11 := hR.f11 (hL 11 (by simp))
  have hst := Lib.hid hR.st
  simp only [e11]
  clear e11
  clear hR hL
  replace B0 := Lib.hid (B0.out.on hst.out)
  replace B1 := Lib.hid (B1.out.on hst.out)
  replace B2 := Lib.hid (B2.out.on hst.out)
  replace B3 := Lib.hid (B3.out.on hst.out)
  replace B4 := Lib.hid (B4.out.on hst.out)
  replace B5 := Lib.hid (B5.out.on hst.out)
  replace HW := Lib.hid (below_on HW.out hst.out)
  obtain ⟨_, B0p, B0q⟩ := B0.out
  go_wp2_with fail
  (with_reducible refine ((WA _).out).mono ?_)
  rintro e y7 ⟨rfl, hb⟩
  clear B0p B0q
  have hst := Lib.hid hb
  clear hb
  replace B0 := Lib.hid (B0.out.on hst.out)
  replace B1 := Lib.hid (B1.out.on hst.out)
  replace B2 := Lib.hid (B2.out.on hst.out)
  replace B3 := Lib.hid (B3.out.on hst.out)
  replace B4 := Lib.hid (B4.out.on hst.out)
  replace B5 := Lib.hid (B5.out.on hst.out)
  replace HW := Lib.hid (below_on HW.out hst.out)
  clear hst
  obtain ⟨_, B2p, B2q⟩ := B2.out
  go_wp2_with fail
  (with_reducible refine ((WR _).out).mono ?_)
  rintro e y8 ⟨rfl, hb⟩
  clear B2p B2q
  have hst := Lib.hid hb
  clear hb
  replace B0 := Lib.hid (B0.out.on hst.out)
  replace B1 := Lib.hid (B1.out.on hst.out)
  replace B2 := Lib.hid (B2.out.on hst.out)
  replace B3 := Lib.hid (B3.out.on hst.out)
  replace B4 := Lib.hid (B4.out.on hst.out)
  replace B5 := Lib.hid (B5.out.on hst.out)
  replace HW := Lib.hid (below_on HW.out hst.out)
  clear hst
  obtain ⟨_, B3p, B3q⟩ := B3.out
  go_wp2_with fail
  (with_reducible refine ((WR _).out).mono ?_)
  rintro e y9 ⟨rfl, hb⟩
  clear B3p B3q
  have hst := Lib.hid hb
  clear hb
  replace B0 := Lib.hid (B0.out.on hst.out)
  replace B1 := Lib.hid (B1.out.on hst.out)
  replace B2 := Lib.hid (B2.out.on hst.out)
  replace B3 := Lib.hid (B3.out.on hst.out)
  replace B4 := Lib.hid (B4.out.on hst.out)
  replace B5 := Lib.hid (B5.out.on hst.out)
  replace HW := Lib.hid (below_on HW.out hst.out)
  clear hst
  obtain ⟨_, B4p, B4q⟩ := B4.out
  go_wp2_with fail
  (with_reducible refine ((WR _).out).mono ?_)
  rintro e y10 ⟨rfl, hb⟩
  clear B4p B4q
  have hst := Lib.hid hb
  clear hb
  replace B0 := Lib.hid (B0.out.on hst.out)
  replace B1 := Lib.hid (B1.out.on hst.out)
  replace B2 := Lib.hid (B2.out.on hst.out)
  replace B3 := Lib.hid (B3.out.on hst.out)
  replace B4 := Lib.hid (B4.out.on hst.out)
  replace B5 := Lib.hid (B5.out.on hst.out)
  replace HW := Lib.hid (below_on HW.out hst.out)
  clear hst
  obtain ⟨_, B5p, B5q⟩ := B5.out
  go_wp2_with fail
  (with_reducible refine ((WR _).out).mono ?_)
  rintro e y11 ⟨rfl, hb⟩
  clear B5p B5q
  have hst := Lib.hid hb
  clear hb
  replace B0 := Lib.hid (B0.out.on hst.out)
  replace B1 := Lib.hid (B1.out.on hst.out)
  replace B2 := Lib.hid (B2.out.on hst.out)
  replace B3 := Lib.hid (B3.out.on hst.out)
  replace B4 := Lib.hid (B4.out.on hst.out)
  replace B5 := Lib.hid (B5.out.on hst.out)
  replace HW := Lib.hid (below_on HW.out hst.out)
  clear hst
  go_wp2_with fail
  go_ret
  exact ⟨rfl, HW.out⟩

structure SumsB7R (w : World) (al ah bl bh n1 d1 e1 n2 d2 e2 n3 d3 e3 n4 d4 e4 : Int) (Wc : World) (L : Nat → Bool) (v : Nat → Value) (g : Nat → Nat) (W : World) : Prop where
  st : Below Wc.heap.size Wc W
  f0 : Had L 0 (v 45 = .agg #[.int .i64 al, .int .i64 ah])
  f1 : Had L 1 (v 46 = .bool true)
  f2 : Had L 2 (v 47 = .agg #[.int .i64 al, .int .i64 ah])
  f3 : Had L 3 (v 48 = .bool true)
  f4 : Had L 4 (v 49 = .bool false)
  f5 : Had L 5 (v 50 = .bool false)
  f6 : Had L 6 (v 51 = .agg #[.int .i64 bl, .int .i64 bh])
  f7 : Had L 7 (v 52 = .bool false)
  f8 : Had L 8 (v 53 = .agg #[.int .i64 bl, .int .i64 bh])
  f9 : Had L 9 (v 54 = .bool false)
  f10 : Had L 10 (v 55 = .bool false)
  f11 : Had L 11 (v 56 = .bool false)

set_option maxRecDepth 100000 in
set_option maxHeartbeats 16000000 in
theorem sums_B (al ah bl bh : Int) (w : World) (a0 : -9223372036854775808 ≤ al) (a1 : al ≤ 9223372036854775807) (a2 : -9223372036854775808 ≤ ah) (a3 : ah ≤ 9223372036854775807) (b0 : -9223372036854775808 ≤ bl) (b1 : bl ≤ 9223372036854775807) (b2 : -9223372036854775808 ≤ bh) (b3 : bh ≤ 9223372036854775807) (ha : sV al ah = true) (hb : sV bl bh = false) :
    Calls Try.prog 3 #[.agg #[.int .i64 al, .int .i64 ah], .agg #[.int .i64 bl, .int .i64 bh]] w fun e w' => e = .returned (.bool true) ∧ Below w.heap.size w w' := by
  have C1 := fun w => Lib.hid (sAdd_any al ah bl bh w a0 a1 a2 a3 b0 b1 b2 b3 0 0 1 (by unfold sAdd; rw [okS_b hb]))
  have C2 := fun w => Lib.hid (sSub_any al ah bl bh w a0 a1 a2 a3 b0 b1 b2 b3 0 0 1 (by unfold sSub; rw [okS_b hb]))
  have C3 := fun w => Lib.hid (sHull_any al ah bl bh w a0 a1 a2 a3 b0 b1 b2 b3 0 0 1 (by unfold sHull; rw [okS_b hb]))
  have C4 := fun w => Lib.hid (sMeet_any al ah bl bh w a0 a1 a2 a3 b0 b1 b2 b3 0 0 1 (by unfold sMeet; rw [okS_b hb]))
  have WR := fun w => Lib.hid (wrong_yes w)
  obtain ⟨n1, d1, e1, n2, d2, e2, n3, d3, e3, n4, d4, e4, _⟩ : ∃ a b c d e f g h i j k l : Int, True := ⟨0, 0, 0, 0, 0, 0, 0, 0, 0, 0, 0, 0, trivial⟩
  have VA := fun w => Lib.hid (sValid_any al ah w)
  have WA := fun w => Lib.hid (rsValid_any al ah w)
  have VB := fun w => Lib.hid (sValid_any bl bh w)
  have WB := fun w => Lib.hid (rsValid_any bl bh w)
  simp only [ha] at VA WA
  simp only [hb] at VB WB
  clear ha hb
  have HW := Lib.hid (Below.refl w.heap.size w)
  have AW := fun w => Lib.hid (sawake_any w)
  go_enter Try.func3, Try.ntmps3
  go_wp2_with fail
  (with_reducible refine ((AW _).out).mono ?_)
  rintro e y1 ⟨rfl, hb⟩
  have hst := Lib.hid (below_on (w := w) (by repeat' (first | (with_reducible exact Below.refl _ _) | (with_reducible assumption) | (with_reducible refine Below.alloc ?_ ?_ _) | (with_reducible refine below_drew ?_ _) | (with_reducible refine Below.drew ?_) | (with_reducible refine Below.setCell ?_ ?_ _) | go_size)) hb)
  have B0 : Hid (Blk y1 (w.heap.size) (.int .i64 al) (.int .i64 ah)) := Blk.on (W := ((w.alloc (Obj.cells #[Value.int .i64 al, Value.int .i64 ah] 23)).alloc (Obj.cells #[Value.int .i64 bl, Value.int .i64 bh] 23))) (by first | exact Blk.new _ _ _ _ | exact (Blk.new _ _ _ _).alloc _ | exact ((Blk.new _ _ _ _).alloc _).alloc _ | (have hn := Blk.new (w) (Value.int .i64 al) (Value.int .i64 ah) 23; simpa using hn)) hb
  have B1 : Hid (Blk y1 (w.heap.size + 1) (.int .i64 bl) (.int .i64 bh)) := Blk.on (W := ((w.alloc (Obj.cells #[Value.int .i64 al, Value.int .i64 ah] 23)).alloc (Obj.cells #[Value.int .i64 bl, Value.int .i64 bh] 23))) (by first | exact Blk.new _ _ _ _ | exact (Blk.new _ _ _ _).alloc _ | exact ((Blk.new _ _ _ _).alloc _).alloc _ | (have hn := Blk.new ((w.alloc (Obj.cells #[Value.int .i64 al, Value.int .i64 ah] 23))) (Value.int .i64 bl) (Value.int .i64 bh) 23; simpa using hn)) hb
  clear hb
  replace HW := Lib.hid (below_on HW.out hst.out)
  clear hst
  obtain ⟨_, B0p, B0q⟩ := B0.out
  obtain ⟨_, B1p, B1q⟩ := B1.out
  go_wp2_with fail
  (with_reducible refine ((C1 _).out).mono ?_)
  rintro e y2 ⟨rfl, hb⟩
  clear B0p B0q B1p B1q
  have hst := Lib.hid hb
  clear hb
  replace B0 := Lib.hid (B0.out.on hst.out)
  replace B1 := Lib.hid (B1.out.on hst.out)
  replace HW := Lib.hid (below_on HW.out hst.out)
  clear hst
  obtain ⟨_, B0p, B0q⟩ := B0.out
  obtain ⟨_, B1p, B1q⟩ := B1.out
  go_wp2_with fail
  (with_reducible refine ((C2 _).out).mono ?_)
  rintro e y3 ⟨rfl, hb⟩
  clear B0p B0q B1p B1q
  have hst := Lib.hid (below_on (w := y2) (by repeat' (first | (with_reducible exact Below.refl _ _) | (with_reducible assumption) | (with_reducible refine Below.alloc ?_ ?_ _) | (with_reducible refine below_drew ?_ _) | (with_reducible refine Below.drew ?_) | (with_reducible refine Below.setCell ?_ ?_ _) | go_size)) hb)
  have B2 : Hid (Blk y3 (y2.heap.size) (.int .i64 0) (.int .i64 0)) := Blk.on (W := (y2.alloc (Obj.cells #[Value.int .i64 0, Value.int .i64 0] 23))) (by first | exact Blk.new _ _ _ _ | exact (Blk.new _ _ _ _).alloc _ | exact ((Blk.new _ _ _ _).alloc _).alloc _ | (have hn := Blk.new (y2) (Value.int .i64 0) (Value.int .i64 0) 23; simpa using hn)) hb
  clear hb
  replace B0 := Lib.hid (B0.out.on hst.out)
  replace B1 := Lib.hid (B1.out.on hst.out)
  replace HW := Lib.hid (below_on HW.out hst.out)
  clear hst
  obtain ⟨_, B0p, B0q⟩ := B0.out
  obtain ⟨_, B1p, B1q⟩ := B1.out
  go_wp2_with fail
  (with_reducible refine ((C3 _).out).mono ?_)
  rintro e y4 ⟨rfl, hb⟩
  clear B0p B0q B1p B1q
  have hst := Lib.hid (below_on (w := y3) (by repeat' (first | (with_reducible exact Below.refl _ _) | (with_reducible assumption) | (with_reducible refine Below.alloc ?_ ?_ _) | (with_reducible refine below_drew ?_ _) | (with_reducible refine Below.drew ?_) | (with_reducible refine Below.setCell ?_ ?_ _) | go_size)) hb)
  have B3 : Hid (Blk y4 (y3.heap.size) (.int .i64 0) (.int .i64 0)) := Blk.on (W := (y3.alloc (Obj.cells #[Value.int .i64 0, Value.int .i64 0] 23))) (by first | exact Blk.new _ _ _ _ | exact (Blk.new _ _ _ _).alloc _ | exact ((Blk.new _ _ _ _).alloc _).alloc _ | (have hn := Blk.new (y3) (Value.int .i64 0) (Value.int .i64 0) 23; simpa using hn)) hb
  clear hb
  replace B0 := Lib.hid (B0.out.on hst.out)
  replace B1 := Lib.hid (B1.out.on hst.out)
  replace B2 := Lib.hid (B2.out.on hst.out)
  replace HW := Lib.hid (below_on HW.out hst.out)
  clear hst
  obtain ⟨_, B0p, B0q⟩ := B0.out
  obtain ⟨_, B1p, B1q⟩ := B1.out
  go_wp2_with fail
  (with_reducible refine ((C4 _).out).mono ?_)
  rintro e y5 ⟨rfl, hb⟩
  clear B0p B0q B1p B1q
  have hst := Lib.hid (below_on (w := y4) (by repeat' (first | (with_reducible exact Below.refl _ _) | (with_reducible assumption) | (with_reducible refine Below.alloc ?_ ?_ _) | (with_reducible refine below_drew ?_ _) | (with_reducible refine Below.drew ?_) | (with_reducible refine Below.setCell ?_ ?_ _) | go_size)) hb)
  have B4 : Hid (Blk y5 (y4.heap.size) (.int .i64 0) (.int .i64 0)) := Blk.on (W := (y4.alloc (Obj.cells #[Value.int .i64 0, Value.int .i64 0] 23))) (by first | exact Blk.new _ _ _ _ | exact (Blk.new _ _ _ _).alloc _ | exact ((Blk.new _ _ _ _).alloc _).alloc _ | (have hn := Blk.new (y4) (Value.int .i64 0) (Value.int .i64 0) 23; simpa using hn)) hb
  clear hb
  replace B0 := Lib.hid (B0.out.on hst.out)
  replace B1 := Lib.hid (B1.out.on hst.out)
  replace B2 := Lib.hid (B2.out.on hst.out)
  replace B3 := Lib.hid (B3.out.on hst.out)
  replace HW := Lib.hid (below_on HW.out hst.out)
  clear hst
  clear AW C1 C2 C3 C4
  go_wp2_with fail
  obtain ⟨y6, hy⟩ : ∃ W, W = (y5.alloc (Obj.cells #[Value.int .i64 0, Value.int .i64 0] 23)) := ⟨_, rfl⟩
  rw [← hy]
  have hb : Below ((y5.alloc (Obj.cells #[Value.int .i64 0, Value.int .i64 0] 23))).heap.size ((y5.alloc (Obj.cells #[Value.int .i64 0, Value.int .i64 0] 23))) y6 := by rw [hy]; exact Below.refl _ _
  clear hy
  have hst := Lib.hid (below_on (w := y5) (by repeat' (first | (with_reducible exact Below.refl _ _) | (with_reducible assumption) | (with_reducible refine Below.alloc ?_ ?_ _) | (with_reducible refine below_drew ?_ _) | (with_reducible refine Below.drew ?_) | (with_reducible refine Below.setCell ?_ ?_ _) | go_size)) hb)
  have B5 : Hid (Blk y6 (y5.heap.size) (.int .i64 0) (.int .i64 0)) := Blk.on (W := (y5.alloc (Obj.cells #[Value.int .i64 0, Value.int .i64 0] 23))) (by first | exact Blk.new _ _ _ _ | exact (Blk.new _ _ _ _).alloc _ | (have hn := Blk.new (y5) (Value.int .i64 0) (Value.int .i64 0) 23; simpa using hn)) hb
  clear hb
  replace B0 := Lib.hid (B0.out.on hst.out)
  replace B1 := Lib.hid (B1.out.on hst.out)
  replace B2 := Lib.hid (B2.out.on hst.out)
  replace B3 := Lib.hid (B3.out.on hst.out)
  replace B4 := Lib.hid (B4.out.on hst.out)
  replace HW := Lib.hid (below_on HW.out hst.out)
  clear hst
  refine wp_region_each (fun L A W => ∃ (v : Nat → Value) (g : Nat → Nat), A = ⟨#[.agg #[.int .i64 al, .int .i64 ah], .agg #[.int .i64 bl, .int .i64 bh], .pointer (some ⟨w.heap.size, 0, none⟩), .pointer (some ⟨w.heap.size + 1, 0, none⟩), .bool false, .pointer (some ⟨y2.heap.size, 0, none⟩), .int .i64 1, .pointer (some ⟨y3.heap.size, 0, none⟩), .int .i64 1, .pointer (some ⟨y4.heap.size, 0, none⟩), .int .i64 1, .pointer (some ⟨y5.heap.size, 0, none⟩), .int .i64 1, undef, undef, undef, undef, undef, undef, .bool true, .bool false, .tuple #[.agg #[.int .i64 0, .int .i64 0], .int .i64 1], .agg #[.int .i64 al, .int .i64 ah], .agg #[.int .i64 bl, .int .i64 bh], .tuple #[.agg #[.int .i64 0, .int .i64 0], .int .i64 1], .agg #[.int .i64 0, .int .i64 0], .int .i64 1, .tuple #[.agg #[.int .i64 0, .int .i64 0], .int .i64 1], .agg #[.int .i64 al, .int .i64 ah], .agg #[.int .i64 bl, .int .i64 bh], .tuple #[.agg #[.int .i64 0, .int .i64 0], .int .i64 1], .agg #[.int .i64 0, .int .i64 0], .int .i64 1, .tuple #[.agg #[.int .i64 0, .int .i64 0], .int .i64 1], .agg #[.int .i64 al, .int .i64 ah], .agg #[.int .i64 bl, .int .i64 bh], .tuple #[.agg #[.int .i64 0, .int .i64 0], .int .i64 1], .agg #[.int .i64 0, .int .i64 0], .int .i64 1, .tuple #[.agg #[.int .i64 0, .int .i64 0], .int .i64 1], .agg #[.int .i64 al, .int .i64 ah], .agg #[.int .i64 bl, .int .i64 bh], .tuple #[.agg #[.int .i64 0, .int .i64 0], .int .i64 1], .agg #[.int .i64 0, .int .i64 0], .int .i64 1, v 45, v 46, v 47, v 48, v 49, v 50, v 51, v 52, v 53, v 54, v 55, v 56, undef, undef, undef, undef, undef, undef, undef, undef, undef, undef, undef, undef, undef, undef, undef, undef, undef, undef, undef, undef, undef, undef, undef, undef, undef, undef, undef, undef, undef, undef, undef, undef, undef, undef, undef, undef, undef, undef, undef, undef, undef, undef, undef, undef, undef, undef, undef, undef, undef, undef, undef, undef, undef, undef, undef, undef, undef, undef, undef, undef, undef, undef, undef, undef, undef, undef, undef, undef, undef, undef, undef, undef, undef, undef, undef, undef, undef, undef, undef, undef, undef, undef, undef], []⟩ ∧ SumsB7R w al ah bl bh n1 d1 e1 n2 d2 e2 n3 d3 e3 n4 d4 e4 y6 L v g W) (by kernel_rfl) (by kernel_rfl) ⟨fun _ => undef, fun _ => 0, rfl, ⟨Below.drew (Below.refl _ _), Had.none, Had.none, Had.none, Had.none, Had.none, Had.none, Had.none, Had.none, Had.none, Had.none, Had.none, Had.none⟩⟩ (rs := [0, 1, 2, 3, 4, 5, 6, 7, 8, 9, 10, 11]) (by kernel_rfl) ?_ ?_
  · refine EachOf.cons [] rfl (by kernel_rfl) ?_ ?_
    · rintro L A W ⟨v, g, rfl, hR⟩ hi hw K hK
      obtain ⟨_, q0, q1⟩ := B0.out.on hR.st
      go_simp
      refine hK.out _ _ ?_
      exact ⟨(fun j => if j = 45 then .agg #[.int .i64 al, .int .i64 ah] else v j), g, rfl, ⟨hR.st, (fun _ => rfl), hR.f1.keep rfl, hR.f2.keep rfl, hR.f3.keep rfl, hR.f4.keep rfl, hR.f5.keep rfl, hR.f6.keep rfl, hR.f7.keep rfl, hR.f8.keep rfl, hR.f9.keep rfl, hR.f10.keep rfl, hR.f11.keep rfl⟩⟩
    refine EachOf.cons [0] rfl (by kernel_rfl) ?_ ?_
    · rintro L A W ⟨v, g, rfl, hR⟩ hi hw K hK
      have e0 := hR.f0 (hw 0 (by simp))
      simp only [e0]
      clear e0
      go_simp
      go_at_call 16
      (with_reducible refine ((VA _).out).mono ?_)
      rintro e w2 ⟨rfl, hb⟩
      go_simp
      refine hK.out _ _ ?_
      exact ⟨(fun j => if j = 45 then .agg #[.int .i64 al, .int .i64 ah] else if j = 46 then .bool true else v j), g, rfl, ⟨below_on hR.st hb, (fun _ => rfl), (fun _ => rfl), hR.f2.keep rfl, hR.f3.keep rfl, hR.f4.keep rfl, hR.f5.keep rfl, hR.f6.keep rfl, hR.f7.keep rfl, hR.f8.keep rfl, hR.f9.keep rfl, hR.f10.keep rfl, hR.f11.keep rfl⟩⟩
    refine EachOf.cons [] rfl (by kernel_rfl) ?_ ?_
    · rintro L A W ⟨v, g, rfl, hR⟩ hi hw K hK
      obtain ⟨_, q0, q1⟩ := B0.out.on hR.st
      go_simp
      refine hK.out _ _ ?_
      exact ⟨(fun j => if j = 47 then .agg #[.int .i64 al, .int .i64 ah] else v j), g, rfl, ⟨hR.st, hR.f0.keep rfl, hR.f1.keep rfl, (fun _ => rfl), hR.f3.keep rfl, hR.f4.keep rfl, hR.f5.keep rfl, hR.f6.keep rfl, hR.f7.keep rfl, hR.f8.keep rfl, hR.f9.keep rfl, hR.f10.keep rfl, hR.f11.keep rfl⟩⟩
    refine EachOf.cons [2] rfl (by kernel_rfl) ?_ ?_
    · rintro L A W ⟨v, g, rfl, hR⟩ hi hw K hK
      have e2 := hR.f2 (hw 2 (by simp))
      simp only [e2]
      clear e2
      go_simp
      go_at_call 17
      (with_reducible refine ((WA _).out).mono ?_)
      rintro e w2 ⟨rfl, hb⟩
      go_simp
      refine hK.out _ _ ?_
      exact ⟨(fun j => if j = 47 then .agg #[.int .i64 al, .int .i64 ah] else if j = 48 then .bool true else v j), g, rfl, ⟨below_on hR.st hb, hR.f0.keep rfl, hR.f1.keep rfl, (fun _ => rfl), (fun _ => rfl), hR.f4.keep rfl, hR.f5.keep rfl, hR.f6.keep rfl, hR.f7.keep rfl, hR.f8.keep rfl, hR.f9.keep rfl, hR.f10.keep rfl, hR.f11.keep rfl⟩⟩
    refine EachOf.cons [1, 3] rfl (by kernel_rfl) ?_ ?_
    · rintro L A W ⟨v, g, rfl, hR⟩ hi hw K hK
      have e1 := hR.f1 (hw 1 (by simp))
      have e3 := hR.f3 (hw 3 (by simp))
      simp only [e1, e3]
      clear e1 e3
      go_simp
      refine hK.out _ _ ?_
      exact ⟨(fun j => if j = 46 then .bool true else if j = 48 then .bool true else if j = 49 then .bool false else v j), g, rfl, ⟨hR.st, hR.f0.keep rfl, (fun _ => rfl), hR.f2.keep rfl, (fun _ => rfl), (fun _ => rfl), hR.f5.keep rfl, hR.f6.keep rfl, hR.f7.keep rfl, hR.f8.keep rfl, hR.f9.keep rfl, hR.f10.keep rfl, hR.f11.keep rfl⟩⟩
    refine EachOf.cons [4] rfl (by kernel_rfl) ?_ ?_
    · rintro L A W ⟨v, g, rfl, hR⟩ hi hw K hK
      have e4 := hR.f4 (hw 4 (by simp))
      simp only [e4]
      clear e4
      go_simp
      refine hK.out _ _ ?_
      exact ⟨(fun j => if j = 49 then .bool false else if j = 50 then .bool false else v j), g, rfl, ⟨hR.st, hR.f0.keep rfl, hR.f1.keep rfl, hR.f2.keep rfl, hR.f3.keep rfl, (fun _ => rfl), (fun _ => rfl), hR.f6.keep rfl, hR.f7.keep rfl, hR.f8.keep rfl, hR.f9.keep rfl, hR.f10.keep rfl, hR.f11.keep rfl⟩⟩
    refine EachOf.cons [5] rfl (by kernel_rfl) ?_ ?_
    · rintro L A W ⟨v, g, rfl, hR⟩ hi hw K hK
      have e5 := hR.f5 (hw 5 (by simp))
      simp only [e5]
      clear e5
      obtain ⟨_, q0, q1⟩ := B1.out.on hR.st
      go_simp
      refine hK.out _ _ ?_
      exact ⟨(fun j => if j = 50 then .bool false else if j = 51 then .agg #[.int .i64 bl, .int .i64 bh] else v j), g, rfl, ⟨hR.st, hR.f0.keep rfl, hR.f1.keep rfl, hR.f2.keep rfl, hR.f3.keep rfl, hR.f4.keep rfl, (fun _ => rfl), (fun _ => rfl), hR.f7.keep rfl, hR.f8.keep rfl, hR.f9.keep rfl, hR.f10.keep rfl, hR.f11.keep rfl⟩⟩
    refine EachOf.cons [6, 5] rfl (by kernel_rfl) ?_ ?_
    · rintro L A W ⟨v, g, rfl, hR⟩ hi hw K hK
      have e6 := hR.f6 (hw 6 (by simp))
      have e5 := hR.f5 (hw 5 (by simp))
      simp only [e6, e5]
      clear e6 e5
      go_simp
      go_at_call 16
      (with_reducible refine ((VB _).out).mono ?_)
      rintro e w2 ⟨rfl, hb⟩
      go_simp
      refine hK.out _ _ ?_
      exact ⟨(fun j => if j = 51 then .agg #[.int .i64 bl, .int .i64 bh] else if j = 50 then .bool false else if j = 52 then .bool false else v j), g, rfl, ⟨below_on hR.st hb, hR.f0.keep rfl, hR.f1.keep rfl, hR.f2.keep rfl, hR.f3.keep rfl, hR.f4.keep rfl, (fun _ => rfl), (fun _ => rfl), (fun _ => rfl), hR.f8.keep rfl, hR.f9.keep rfl, hR.f10.keep rfl, hR.f11.keep rfl⟩⟩
    refine EachOf.cons [5] rfl (by kernel_rfl) ?_ ?_
    · rintro L A W ⟨v, g, rfl, hR⟩ hi hw K hK
      have e5 := hR.f5 (hw 5 (by simp))
      simp only [e5]
      clear e5
      obtain ⟨_, q0, q1⟩ := B1.out.on hR.st
      go_simp
      refine hK.out _ _ ?_
      exact ⟨(fun j => if j = 50 then .bool false else if j = 53 then .agg #[.int .i64 bl, .int .i64 bh] else v j), g, rfl, ⟨hR.st, hR.f0.keep rfl, hR.f1.keep rfl, hR.f2.keep rfl, hR.f3.keep rfl, hR.f4.keep rfl, (fun _ => rfl), hR.f6.keep rfl, hR.f7.keep rfl, (fun _ => rfl), hR.f9.keep rfl, hR.f10.keep rfl, hR.f11.keep rfl⟩⟩
    refine EachOf.cons [8, 5] rfl (by kernel_rfl) ?_ ?_
    · rintro L A W ⟨v, g, rfl, hR⟩ hi hw K hK
      have e8 := hR.f8 (hw 8 (by simp))
      have e5 := hR.f5 (hw 5 (by simp))
      simp only [e8, e5]
      clear e8 e5
      go_simp
      go_at_call 17
      (with_reducible refine ((WB _).out).mono ?_)
      rintro e w2 ⟨rfl, hb⟩
      go_simp
      refine hK.out _ _ ?_
      exact ⟨(fun j => if j = 53 then .agg #[.int .i64 bl, .int .i64 bh] else if j = 50 then .bool false else if j = 54 then .bool false else v j), g, rfl, ⟨below_on hR.st hb, hR.f0.keep rfl, hR.f1.keep rfl, hR.f2.keep rfl, hR.f3.keep rfl, hR.f4.keep rfl, (fun _ => rfl), hR.f6.keep rfl, hR.f7.keep rfl, (fun _ => rfl), (fun _ => rfl), hR.f10.keep rfl, hR.f11.keep rfl⟩⟩
    refine EachOf.cons [7, 9, 5] rfl (by kernel_rfl) ?_ ?_
    · rintro L A W ⟨v, g, rfl, hR⟩ hi hw K hK
      have e7 := hR.f7 (hw 7 (by simp))
      have e9 := hR.f9 (hw 9 (by simp))
      have e5 := hR.f5 (hw 5 (by simp))
      simp only [e7, e9, e5]
      clear e7 e9 e5
      go_simp
      refine hK.out _ _ ?_
      exact ⟨(fun j => if j = 52 then .bool false else if j = 54 then .bool false else if j = 50 then .bool false else if j = 55 then .bool false else v j), g, rfl, ⟨hR.st, hR.f0.keep rfl, hR.f1.keep rfl, hR.f2.keep rfl, hR.f3.keep rfl, hR.f4.keep rfl, (fun _ => rfl), hR.f6.keep rfl, (fun _ => rfl), hR.f8.keep rfl, (fun _ => rfl), (fun _ => rfl), hR.f11.keep rfl⟩⟩
    refine EachOf.cons [5, 10] rfl (by kernel_rfl) ?_ ?_
    · rintro L A W ⟨v, g, rfl, hR⟩ hi hw K hK
      have e5 := hR.f5 (hw 5 (by simp))
      have e10 := hR.f10 (hw 10 (by simp))
      simp only [e5, e10]
      clear e5 e10
      go_simp
      refine hK.out _ _ ?_
      exact ⟨(fun j => if j = 50 then .bool false else if j = 55 then .bool false else if j = 56 then .bool false else v j), g, rfl, ⟨hR.st, hR.f0.keep rfl, hR.f1.keep rfl, hR.f2.keep rfl, hR.f3.keep rfl, hR.f4.keep rfl, (fun _ => rfl), hR.f6.keep rfl, hR.f7.keep rfl, hR.f8.keep rfl, hR.f9.keep rfl, (fun _ => rfl), (fun _ => rfl)⟩⟩
    exact EachOf.nil
  rintro L A W1 ⟨v1, g1, rfl, hR⟩ hL
  have e11 := hR.f11 (hL 11 (by simp))
  have hst := Lib.hid hR.st
  simp only [e11]
  clear e11
  clear hR hL
  replace B0 := Lib.hid (B0.out.on hst.out)
  replace B1 := Lib.hid (B1.out.on hst.out)
  replace B2 := Lib.hid (B2.out.on hst.out)
  replace B3 := Lib.hid (B3.out.on hst.out)
  replace B4 := Lib.hid (B4.out.on hst.out)
  replace B5 := Lib.hid (B5.out.on hst.out)
  replace HW := Lib.hid (below_on HW.out hst.out)
  obtain ⟨_, B0p, B0q⟩ := B0.out
  go_wp2_with fail
  (with_reducible refine ((WA _).out).mono ?_)
  rintro e y7 ⟨rfl, hb⟩
  clear B0p B0q
  have hst := Lib.hid hb
  clear hb
  replace B0 := Lib.hid (B0.out.on hst.out)
  replace B1 := Lib.hid (B1.out.on hst.out)
  replace B2 := Lib.hid (B2.out.on hst.out)
  replace B3 := Lib.hid (B3.out.on hst.out)
  replace B4 := Lib.hid (B4.out.on hst.out)
  replace B5 := Lib.hid (B5.out.on hst.out)
  replace HW := Lib.hid (below_on HW.out hst.out)
  clear hst
  obtain ⟨_, B1p, B1q⟩ := B1.out
  go_wp2_with fail
  (with_reducible refine ((WB _).out).mono ?_)
  rintro e y8 ⟨rfl, hb⟩
  clear B1p B1q
  have hst := Lib.hid hb
  clear hb
  replace B0 := Lib.hid (B0.out.on hst.out)
  replace B1 := Lib.hid (B1.out.on hst.out)
  replace B2 := Lib.hid (B2.out.on hst.out)
  replace B3 := Lib.hid (B3.out.on hst.out)
  replace B4 := Lib.hid (B4.out.on hst.out)
  replace B5 := Lib.hid (B5.out.on hst.out)
  replace HW := Lib.hid (below_on HW.out hst.out)
  clear hst
  obtain ⟨_, B2p, B2q⟩ := B2.out
  go_wp2_with fail
  (with_reducible refine ((WR _).out).mono ?_)
  rintro e y9 ⟨rfl, hb⟩
  clear B2p B2q
  have hst := Lib.hid hb
  clear hb
  replace B0 := Lib.hid (B0.out.on hst.out)
  replace B1 := Lib.hid (B1.out.on hst.out)
  replace B2 := Lib.hid (B2.out.on hst.out)
  replace B3 := Lib.hid (B3.out.on hst.out)
  replace B4 := Lib.hid (B4.out.on hst.out)
  replace B5 := Lib.hid (B5.out.on hst.out)
  replace HW := Lib.hid (below_on HW.out hst.out)
  clear hst
  obtain ⟨_, B3p, B3q⟩ := B3.out
  go_wp2_with fail
  (with_reducible refine ((WR _).out).mono ?_)
  rintro e y10 ⟨rfl, hb⟩
  clear B3p B3q
  have hst := Lib.hid hb
  clear hb
  replace B0 := Lib.hid (B0.out.on hst.out)
  replace B1 := Lib.hid (B1.out.on hst.out)
  replace B2 := Lib.hid (B2.out.on hst.out)
  replace B3 := Lib.hid (B3.out.on hst.out)
  replace B4 := Lib.hid (B4.out.on hst.out)
  replace B5 := Lib.hid (B5.out.on hst.out)
  replace HW := Lib.hid (below_on HW.out hst.out)
  clear hst
  obtain ⟨_, B4p, B4q⟩ := B4.out
  go_wp2_with fail
  (with_reducible refine ((WR _).out).mono ?_)
  rintro e y11 ⟨rfl, hb⟩
  clear B4p B4q
  have hst := Lib.hid hb
  clear hb
  replace B0 := Lib.hid (B0.out.on hst.out)
  replace B1 := Lib.hid (B1.out.on hst.out)
  replace B2 := Lib.hid (B2.out.on hst.out)
  replace B3 := Lib.hid (B3.out.on hst.out)
  replace B4 := Lib.hid (B4.out.on hst.out)
  replace B5 := Lib.hid (B5.out.on hst.out)
  replace HW := Lib.hid (below_on HW.out hst.out)
  clear hst
  obtain ⟨_, B5p, B5q⟩ := B5.out
  go_wp2_with fail
  (with_reducible refine ((WR _).out).mono ?_)
  rintro e y12 ⟨rfl, hb⟩
  clear B5p B5q
  have hst := Lib.hid hb
  clear hb
  replace B0 := Lib.hid (B0.out.on hst.out)
  replace B1 := Lib.hid (B1.out.on hst.out)
  replace B2 := Lib.hid (B2.out.on hst.out)
  replace B3 := Lib.hid (B3.out.on hst.out)
  replace B4 := Lib.hid (B4.out.on hst.out)
  replace B5 := Lib.hid (B5.out.on hst.out)
  replace HW := Lib.hid (below_on HW.out hst.out)
  clear hst
  go_wp2_with fail
  go_ret
  exact ⟨rfl, HW.out⟩

theorem sums_walk (al ah bl bh : Int) (w : World) (a0 : -9223372036854775808 ≤ al) (a1 : al ≤ 9223372036854775807) (a2 : -9223372036854775808 ≤ ah) (a3 : ah ≤ 9223372036854775807) (b0 : -9223372036854775808 ≤ bl) (b1 : bl ≤ 9223372036854775807) (b2 : -9223372036854775808 ≤ bh) (b3 : bh ≤ 9223372036854775807) :
    Calls Try.prog 3 #[.agg #[.int .i64 al, .int .i64 ah], .agg #[.int .i64 bl, .int .i64 bh]] w fun e w' => e = .returned (.bool true) ∧ Below w.heap.size w w' := by
  by_cases ha : sV al ah = true
  · by_cases hb : sV bl bh = true
    · exact sums_Y al ah bl bh w a0 a1 a2 a3 b0 b1 b2 b3 (sV_vd ha) (sV_vd hb)
    · exact sums_B al ah bl bh w a0 a1 a2 a3 b0 b1 b2 b3 ha (by simpa using hb)
  · exact sums_A al ah bl bh w a0 a1 a2 a3 b0 b1 b2 b3 (by simpa using ha)

end Go.Proofs.Ytknbhpnhnhfbpaa
