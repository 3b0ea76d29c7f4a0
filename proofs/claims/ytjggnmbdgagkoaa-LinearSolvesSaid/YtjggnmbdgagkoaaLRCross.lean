/- Layer 4: the reference's cross. -/
import Derived.Test.YtjggnmbdgagkoaaLRCopy
import Derived.Test.YtjggnmbdgagkoaaRRef7
namespace Go.Proofs.Ytjggnmbdgagkoaa
set_option linter.unusedVariables false
open Go.RowKit Go.Shelf

structure RCrR (zb : Nat) (y Z1 Z2 Yb q1 q2 r1 r2 : Int) (Wc : World) (L : Nat → Bool) (v : Nat → Value) (g : Nat → Nat) (W : World) : Prop where
  st : Below Wc.heap.size Wc W
  f0 : Had L 0 (v 57 = .agg #[.int .u64 Z1, .int .u64 Z2])
  f1 : Had L 1 (v 58 = .int .i64 y)
  f2 : Had L 2 (v 59 = .int .u64 Yb)
  f3 : Had L 3 (v 60 = .agg #[.int .u64 0, .int .u64 Yb])
  f4 : Had L 4 (v 61 = .tuple #[.agg #[.int .u64 q1, .int .u64 q2], .agg #[.int .u64 r1, .int .u64 r2]])
  f5 : Had L 5 (v 56 = .tuple #[.agg #[.int .u64 q1, .int .u64 q2], .agg #[.int .u64 r1, .int .u64 r2]])
  f6 : Had L 6 (v 62 = .agg #[.int .u64 q1, .int .u64 q2])
  f7 : Had L 7 (v 63 = .agg #[.int .u64 r1, .int .u64 r2])
  f8 : Had L 8 (v 17 = .pointer (some ⟨g 8, 0, none⟩))
  f9 : Had L 9 (v 18 = .pointer (some ⟨g 9, 0, none⟩))
  b8 : Had L 8 (Own Wc.heap.size W (g 8))
  b9 : Had L 9 (Own Wc.heap.size W (g 9))
  n8_9 : Had2 L 8 9 (g 8 ≠ g 9)
  c10 : Had L 10 (L 8 = true ∧ Blk W (g 8) (.int .u64 q1) (.int .u64 q2))
  c11 : Had L 11 (L 9 = true ∧ Blk W (g 9) (.int .u64 r1) (.int .u64 r2))

set_option maxRecDepth 100000 in
set_option maxHeartbeats 16000000 in
theorem refCross_walk (w : World) (a b c d y A B C D Yb X1 X2 Y1 Y2 S1 S2 M1 M2 Q1 Q2 Z1 Z2 q1 q2 r1 r2 rv : Int) (sa sb sc sd fi se less sy ng : Bool)
    (C1 : (∀ w, Hid (Calls Try.prog 64 #[.int .i64 a] w fun e w' => e = .returned (.int .u64 A) ∧ w = w'))) (C2 : (∀ w, Hid (Calls Try.prog 64 #[.int .i64 d] w fun e w' => e = .returned (.int .u64 D) ∧ w = w'))) (C3 : (∀ w, Hid (Calls Try.prog 64 #[.int .i64 b] w fun e w' => e = .returned (.int .u64 B) ∧ w = w'))) (C4 : (∀ w, Hid (Calls Try.prog 64 #[.int .i64 c] w fun e w' => e = .returned (.int .u64 C) ∧ w = w'))) (CM1 : (∀ w, Hid (Calls Try.prog 63 #[.int .u64 A, .int .u64 D] w fun e w' => e = .returned (.agg #[.int .u64 X1, .int .u64 X2]) ∧ Below w.heap.size w w'))) (CM2 : (∀ w, Hid (Calls Try.prog 63 #[.int .u64 B, .int .u64 C] w fun e w' => e = .returned (.agg #[.int .u64 Y1, .int .u64 Y2]) ∧ Below w.heap.size w w')))
    (CP : (∀ w, Hid (Calls Try.prog 66 #[.agg #[.int .u64 X1, .int .u64 X2], .agg #[.int .u64 Y1, .int .u64 Y2]] w fun e w' => e = .returned (.agg #[.int .u64 S1, .int .u64 S2]) ∧ Below w.heap.size w w'))) (CL : (∀ w, Hid (Calls Try.prog 67 #[.agg #[.int .u64 X1, .int .u64 X2], .agg #[.int .u64 Y1, .int .u64 Y2]] w fun e w' => e = .returned (.bool less) ∧ Below w.heap.size w w'))) (CN : (∀ w, Hid (Calls Try.prog 68 #[.agg #[.int .u64 Y1, .int .u64 Y2], .agg #[.int .u64 X1, .int .u64 X2]] w fun e w' => e = .returned (.agg #[.int .u64 M1, .int .u64 M2]) ∧ Below w.heap.size w w'))) (CQ : (∀ w, Hid (Calls Try.prog 68 #[.agg #[.int .u64 X1, .int .u64 X2], .agg #[.int .u64 Y1, .int .u64 Y2]] w fun e w' => e = .returned (.agg #[.int .u64 Q1, .int .u64 Q2]) ∧ Below w.heap.size w w'))) (C5 : (∀ w, Hid (Calls Try.prog 64 #[.int .i64 y] w fun e w' => e = .returned (.int .u64 Yb) ∧ w = w'))) (CD : (∀ w, Hid (Calls Try.prog 81 #[.agg #[.int .u64 Z1, .int .u64 Z2], .agg #[.int .u64 0, .int .u64 Yb]] w fun e w' => e = .returned (.tuple #[.agg #[.int .u64 q1, .int .u64 q2], .agg #[.int .u64 r1, .int .u64 r2]]) ∧ Below w.heap.size w w')))
    (da : decide (a < 0) = sa) (db : decide (b < 0) = sb) (dc : decide (c < 0) = sc) (dd : decide (d < 0) = sd) (dy : decide (y < 0) = sy)
    (hfi : (!(sa == sd)) = fi) (hse : (sb == sc) = se)
    (hz1 : fi = se → S1 = Z1 ∧ S2 = Z2 ∧ fi = ng) (hz2 : fi ≠ se → less = true → M1 = Z1 ∧ M2 = Z2 ∧ se = ng) (hz3 : fi ≠ se → less = false → Q1 = Z1 ∧ Q2 = Z2 ∧ fi = ng)
    (q0 : 0 ≤ q2) (qb : q2 ≤ 4611686018427387904) (hr1 : ng ≠ sy → -q2 = rv) (hr2 : ng = sy → q2 = rv) :
    Calls Try.prog 73 #[.int .i64 a, .int .i64 b, .int .i64 c, .int .i64 d, .int .i64 y] w fun e w' => e = .returned (.int .i64 rv) ∧ Below w.heap.size w w' := by
  have HB : Hid (Below w.heap.size w w) := Below.refl _ _
  go_enter Try.func73, Try.ntmps73
  go_upto_region 2 with (first | (go_at_call 64; (with_reducible refine ((C1 _).out).mono ?_); rintro e w' ⟨rfl, rfl⟩) | (go_at_call 64; (with_reducible refine ((C2 _).out).mono ?_); rintro e w' ⟨rfl, rfl⟩) | (go_at_call 63; (with_reducible refine ((CM1 _).out).mono ?_); rintro e w' ⟨rfl, hbn⟩; have HBn := Lib.hid (below_on HB.out hbn); clear hbn HB))
  have hb1 : Below w'.heap.size w' (w'.alloc (Obj.cells #[Value.int IntKind.u64 X1, Value.int IntKind.u64 X2] 83)) := (Below.refl _ _).alloc (Nat.le_refl _) _
  have B1 := Blk.new w' (.int .u64 X1) (.int .u64 X2) 83
  have HB1 := Lib.hid (below_on HBn.out hb1)
  obtain ⟨xb, hxb⟩ : ∃ x, x = w'.heap.size := ⟨_, rfl⟩
  rw [← hxb] at B1
  rw [← hxb]
  generalize w'.alloc (Obj.cells #[Value.int IntKind.u64 X1, Value.int IntKind.u64 X2] 83) = W1 at *
  have HX := Lib.hid B1
  clear hb1 B1 hxb HBn C1 C2 CM1
  have HB := HB1
  go_upto_region 3 with (first | (go_at_call 64; (with_reducible refine ((C3 _).out).mono ?_); rintro e w' ⟨rfl, rfl⟩) | (go_at_call 64; (with_reducible refine ((C4 _).out).mono ?_); rintro e w' ⟨rfl, rfl⟩) | (go_at_call 63; (with_reducible refine ((CM2 _).out).mono ?_); rintro e w2 ⟨rfl, hbn⟩; have HBn := Lib.hid (below_on HB1.out hbn); have HX2 := Lib.hid (HX.out.on hbn); clear hbn))
  have hb1 : Below w2.heap.size w2 (w2.alloc (Obj.cells #[Value.int IntKind.u64 Y1, Value.int IntKind.u64 Y2] 83)) := (Below.refl _ _).alloc (Nat.le_refl _) _
  have B1 := Blk.new w2 (.int .u64 Y1) (.int .u64 Y2) 83
  have HB3 := Lib.hid (below_on HBn.out hb1)
  have HX3 := Lib.hid (HX2.out.on hb1)
  obtain ⟨yb, hyb⟩ : ∃ x, x = w2.heap.size := ⟨_, rfl⟩
  rw [← hyb] at B1
  rw [← hyb]
  generalize w2.alloc (Obj.cells #[Value.int IntKind.u64 Y1, Value.int IntKind.u64 Y2] 83) = W2 at *
  have HY := Lib.hid B1
  clear hb1 B1 hyb HBn HB HB1 HX HX2 C3 C4 CM2
  go_upto_region 5 with fail
  have hb1 : Below W2.heap.size W2 (W2.alloc (Obj.cells #[Value.int IntKind.u64 0, Value.int IntKind.u64 0] 83)) := (Below.refl _ _).alloc (Nat.le_refl _) _
  have B1 := Blk.new W2 (.int .u64 0) (.int .u64 0) 83
  have F1 := Frz.new W2 (.int .u64 0) (.int .u64 0) 83
  have HB4 := Lib.hid (below_on HB3.out hb1)
  have HX4 := Lib.hid (HX3.out.on hb1)
  have HY4 := Lib.hid (HY.out.on hb1)
  obtain ⟨zb, hzb⟩ : ∃ x, x = W2.heap.size := ⟨_, rfl⟩
  rw [← hzb] at B1 F1
  rw [← hzb]
  have HLZ : Hid (w.heap.size ≤ zb) := by rw [hzb]; exact HB3.out.size
  generalize W2.alloc (Obj.cells #[Value.int IntKind.u64 0, Value.int IntKind.u64 0] 83) = W3 at *
  have HZ0 := Lib.hid B1
  have HF0 := Lib.hid F1
  clear hb1 B1 F1 hzb HB3 HX3 HY
  have HZ1 := Lib.hid hz1
  have HZ2 := Lib.hid hz2
  have HZ3 := Lib.hid hz3
  have HR1 := Lib.hid hr1
  have HR2 := Lib.hid hr2
  clear hz1 hz2 hz3 hr1 hr2
  go_upto_if 42 with fail
  go_cut [16] (fun s16 wx => s16 = .bool ng ∧ Hid (Blk wx zb (.int .u64 Z1) (.int .u64 Z2) ∧ Below w.heap.size w wx))
  case first =>
    clear da db dc dd
    cases fi <;> cases se
    · have HE3 := Lib.hid (HZ1.out rfl)
      obtain ⟨_, x0, x1⟩ := HX4.out
      obtain ⟨_, y0, y1⟩ := HY4.out
      go_wp2_with (go_at_call 66; (with_reducible refine ((CP _).out).mono ?_); rintro e w4 ⟨rfl, hb4⟩; have HZ5 := Lib.hid (HZ0.out.on hb4); have HF5 := Lib.hid (HF0.out.on HZ0.out.1 hb4); have HB5 := Lib.hid (below_on HB4.out hb4); clear hb4; obtain ⟨_, z0, z1⟩ := HZ5.out; obtain ⟨f0, f1⟩ := HF5.out)
      go_meet
      obtain ⟨e1, e2, e3⟩ := HE3.out
      subst e1; subst e2
      exact ⟨by rw [e3], Blk.set (x := .int .u64 S1) (y := .int .u64 S2) HZ5.out, (HB5.out.setCell HLZ.out _).setCell HLZ.out _⟩
    · obtain ⟨_, x0, x1⟩ := HX4.out
      obtain ⟨_, y0, y1⟩ := HY4.out
      cases less
      case true =>
        have HE3 := Lib.hid (HZ2.out (by decide) rfl)
        go_wp2_with (first | (go_at_call 67; (with_reducible refine ((CL _).out).mono ?_); rintro e w3 ⟨rfl, hb3⟩; have HZ4 := Lib.hid (HZ0.out.on hb3); have HF4 := Lib.hid (HF0.out.on HZ0.out.1 hb3); have HB4b := Lib.hid (below_on HB4.out hb3); have HX5 := Lib.hid (HX4.out.on hb3); have HY5 := Lib.hid (HY4.out.on hb3); clear hb3 x0 x1 y0 y1; obtain ⟨_, x0, x1⟩ := HX5.out; obtain ⟨_, y0, y1⟩ := HY5.out) | (go_at_call 68; (with_reducible refine ((CN _).out).mono ?_); rintro e w4 ⟨rfl, hb4⟩; have HZ5 := Lib.hid (HZ4.out.on hb4); have HF5 := Lib.hid (HF4.out.on HZ4.out.1 hb4); have HB5 := Lib.hid (below_on HB4b.out hb4); clear hb4; obtain ⟨_, z0, z1⟩ := HZ5.out; obtain ⟨f0, f1⟩ := HF5.out))
        go_meet
        obtain ⟨e1, e2, e3⟩ := HE3.out
        subst e1; subst e2
        exact ⟨by rw [e3], Blk.set (x := .int .u64 M1) (y := .int .u64 M2) HZ5.out, (HB5.out.setCell HLZ.out _).setCell HLZ.out _⟩
      case false =>
        have HE3 := Lib.hid (HZ3.out (by decide) rfl)
        go_wp2_with (first | (go_at_call 67; (with_reducible refine ((CL _).out).mono ?_); rintro e w3 ⟨rfl, hb3⟩; have HZ4 := Lib.hid (HZ0.out.on hb3); have HF4 := Lib.hid (HF0.out.on HZ0.out.1 hb3); have HB4b := Lib.hid (below_on HB4.out hb3); have HX5 := Lib.hid (HX4.out.on hb3); have HY5 := Lib.hid (HY4.out.on hb3); clear hb3 x0 x1 y0 y1; obtain ⟨_, x0, x1⟩ := HX5.out; obtain ⟨_, y0, y1⟩ := HY5.out) | (go_at_call 68; (with_reducible refine ((CQ _).out).mono ?_); rintro e w4 ⟨rfl, hb4⟩; have HZ5 := Lib.hid (HZ4.out.on hb4); have HF5 := Lib.hid (HF4.out.on HZ4.out.1 hb4); have HB5 := Lib.hid (below_on HB4b.out hb4); clear hb4; obtain ⟨_, z0, z1⟩ := HZ5.out; obtain ⟨f0, f1⟩ := HF5.out))
        go_meet
        obtain ⟨e1, e2, e3⟩ := HE3.out
        subst e1; subst e2
        exact ⟨by rw [e3], Blk.set (x := .int .u64 Q1) (y := .int .u64 Q2) HZ5.out, (HB5.out.setCell HLZ.out _).setCell HLZ.out _⟩
    · obtain ⟨_, x0, x1⟩ := HX4.out
      obtain ⟨_, y0, y1⟩ := HY4.out
      cases less
      case true =>
        have HE3 := Lib.hid (HZ2.out (by decide) rfl)
        go_wp2_with (first | (go_at_call 67; (with_reducible refine ((CL _).out).mono ?_); rintro e w3 ⟨rfl, hb3⟩; have HZ4 := Lib.hid (HZ0.out.on hb3); have HF4 := Lib.hid (HF0.out.on HZ0.out.1 hb3); have HB4b := Lib.hid (below_on HB4.out hb3); have HX5 := Lib.hid (HX4.out.on hb3); have HY5 := Lib.hid (HY4.out.on hb3); clear hb3 x0 x1 y0 y1; obtain ⟨_, x0, x1⟩ := HX5.out; obtain ⟨_, y0, y1⟩ := HY5.out) | (go_at_call 68; (with_reducible refine ((CN _).out).mono ?_); rintro e w4 ⟨rfl, hb4⟩; have HZ5 := Lib.hid (HZ4.out.on hb4); have HF5 := Lib.hid (HF4.out.on HZ4.out.1 hb4); have HB5 := Lib.hid (below_on HB4b.out hb4); clear hb4; obtain ⟨_, z0, z1⟩ := HZ5.out; obtain ⟨f0, f1⟩ := HF5.out))
        go_meet
        obtain ⟨e1, e2, e3⟩ := HE3.out
        subst e1; subst e2
        exact ⟨by rw [e3], Blk.set (x := .int .u64 M1) (y := .int .u64 M2) HZ5.out, (HB5.out.setCell HLZ.out _).setCell HLZ.out _⟩
      case false =>
        have HE3 := Lib.hid (HZ3.out (by decide) rfl)
        go_wp2_with (first | (go_at_call 67; (with_reducible refine ((CL _).out).mono ?_); rintro e w3 ⟨rfl, hb3⟩; have HZ4 := Lib.hid (HZ0.out.on hb3); have HF4 := Lib.hid (HF0.out.on HZ0.out.1 hb3); have HB4b := Lib.hid (below_on HB4.out hb3); have HX5 := Lib.hid (HX4.out.on hb3); have HY5 := Lib.hid (HY4.out.on hb3); clear hb3 x0 x1 y0 y1; obtain ⟨_, x0, x1⟩ := HX5.out; obtain ⟨_, y0, y1⟩ := HY5.out) | (go_at_call 68; (with_reducible refine ((CQ _).out).mono ?_); rintro e w4 ⟨rfl, hb4⟩; have HZ5 := Lib.hid (HZ4.out.on hb4); have HF5 := Lib.hid (HF4.out.on HZ4.out.1 hb4); have HB5 := Lib.hid (below_on HB4b.out hb4); clear hb4; obtain ⟨_, z0, z1⟩ := HZ5.out; obtain ⟨f0, f1⟩ := HF5.out))
        go_meet
        obtain ⟨e1, e2, e3⟩ := HE3.out
        subst e1; subst e2
        exact ⟨by rw [e3], Blk.set (x := .int .u64 Q1) (y := .int .u64 Q2) HZ5.out, (HB5.out.setCell HLZ.out _).setCell HLZ.out _⟩
    · have HE3 := Lib.hid (HZ1.out rfl)
      obtain ⟨_, x0, x1⟩ := HX4.out
      obtain ⟨_, y0, y1⟩ := HY4.out
      go_wp2_with (go_at_call 66; (with_reducible refine ((CP _).out).mono ?_); rintro e w4 ⟨rfl, hb4⟩; have HZ5 := Lib.hid (HZ0.out.on hb4); have HF5 := Lib.hid (HF0.out.on HZ0.out.1 hb4); have HB5 := Lib.hid (below_on HB4.out hb4); clear hb4; obtain ⟨_, z0, z1⟩ := HZ5.out; obtain ⟨f0, f1⟩ := HF5.out)
      go_meet
      obtain ⟨e1, e2, e3⟩ := HE3.out
      subst e1; subst e2
      exact ⟨by rw [e3], Blk.set (x := .int .u64 S1) (y := .int .u64 S2) HZ5.out, (HB5.out.setCell HLZ.out _).setCell HLZ.out _⟩
  case rest =>
    clear CP CL CN CQ HZ1 HZ2 HZ3 HX4 HY4 HZ0 HF0 HB4 HLZ hfi hse da db dc dd
    obtain ⟨rfl, S⟩ := hcut
    rename World => W4
    have HZ := Lib.hid S.out.1
    have HB := Lib.hid S.out.2
    clear S
    go_upto_region 11 with fail
    refine wp_region_each (fun L A W => ∃ (v : Nat → Value) (g : Nat → Nat), A = ⟨#[_, _, _, _, _, _, _, _, _, _, _, _, _, _, _, _, _, v 17, v 18, _, _, _, _, _, _, _, _, _, _, _, _, _, _, _, _, _, _, _, _, _, _, _, _, _, _, _, _, _, _, _, _, _, _, _, _, _, v 56, v 57, v 58, v 59, v 60, v 61, v 62, v 63, _, _, _, _, _, _, _, _, _, _, _], []⟩ ∧ RCrR zb y Z1 Z2 Yb q1 q2 r1 r2 W4 L v g W) (by kernel_rfl) (by kernel_rfl) ⟨fun jz => if jz = 57 then u57 else if jz = 58 then u58 else if jz = 59 then u59 else if jz = 60 then u60 else if jz = 61 then u61 else if jz = 56 then u56 else if jz = 62 then u62 else if jz = 63 then u63 else if jz = 18 then u18 else undef, fun _ => 0, rfl, ⟨Below.drew (Below.refl _ _), Had.none, Had.none, Had.none, Had.none, Had.none, Had.none, Had.none, Had.none, Had.none, Had.none, Had.none, Had.none, (fun h => by cases h), Had.none, Had.none⟩⟩ (rs := [0, 1, 2, 3, 4, 5, 6, 7, 8, 9, 10, 11]) (by kernel_rfl) ?_ ?_
    · refine EachOf.cons [] rfl (by kernel_rfl) ?_ ?_
      · rintro L A W ⟨v, g, rfl, hR⟩ hi hw K hK
        obtain ⟨_, q0, q1⟩ := HZ.out.on hR.st
        go_simp
        refine hK.out _ _ ?_
        exact ⟨(fun jz => if jz = 57 then .agg #[.int .u64 Z1, .int .u64 Z2] else v jz), g, rfl, ⟨hR.st, (fun _ => rfl), hR.f1.keep rfl, hR.f2.keep rfl, hR.f3.keep rfl, hR.f4.keep rfl, hR.f5.keep rfl, hR.f6.keep rfl, hR.f7.keep rfl, hR.f8.keep rfl, hR.f9.keep rfl, hR.b8.keep rfl, hR.b9.keep rfl, hR.n8_9.keep rfl rfl, hR.c10.keepM rfl (fun h => ⟨upd_on h.1, h.2⟩), hR.c11.keepM rfl (fun h => ⟨upd_on h.1, h.2⟩)⟩⟩
      refine EachOf.cons [] rfl (by kernel_rfl) ?_ ?_
      · rintro L A W ⟨v, g, rfl, hR⟩ hi hw K hK
        go_simp
        refine hK.out _ _ ?_
        exact ⟨(fun jz => if jz = 58 then .int .i64 y else v jz), g, rfl, ⟨hR.st, hR.f0.keep rfl, (fun _ => rfl), hR.f2.keep rfl, hR.f3.keep rfl, hR.f4.keep rfl, hR.f5.keep rfl, hR.f6.keep rfl, hR.f7.keep rfl, hR.f8.keep rfl, hR.f9.keep rfl, hR.b8.keep rfl, hR.b9.keep rfl, hR.n8_9.keep rfl rfl, hR.c10.keepM rfl (fun h => ⟨upd_on h.1, h.2⟩), hR.c11.keepM rfl (fun h => ⟨upd_on h.1, h.2⟩)⟩⟩
      refine EachOf.cons [1] rfl (by kernel_rfl) ?_ ?_
      · rintro L A W ⟨v, g, rfl, hR⟩ hi hw K hK
        have e1 := hR.f1 (hw 1 (by simp))
        simp only [e1]
        clear e1
        go_simp
        go_at_call 64
        (with_reducible refine ((C5 _).out).mono ?_)
        rintro e w2 ⟨rfl, rfl⟩
        go_simp
        refine hK.out _ _ ?_
        exact ⟨(fun jz => if jz = 58 then .int .i64 y else if jz = 59 then .int .u64 Yb else v jz), g, rfl, ⟨hR.st, hR.f0.keep rfl, (fun _ => rfl), (fun _ => rfl), hR.f3.keep rfl, hR.f4.keep rfl, hR.f5.keep rfl, hR.f6.keep rfl, hR.f7.keep rfl, hR.f8.keep rfl, hR.f9.keep rfl, hR.b8.keep rfl, hR.b9.keep rfl, hR.n8_9.keep rfl rfl, hR.c10.keepM rfl (fun h => ⟨upd_on h.1, h.2⟩), hR.c11.keepM rfl (fun h => ⟨upd_on h.1, h.2⟩)⟩⟩
      refine EachOf.cons [2] rfl (by kernel_rfl) ?_ ?_
      · rintro L A W ⟨v, g, rfl, hR⟩ hi hw K hK
        have e2 := hR.f2 (hw 2 (by simp))
        simp only [e2]
        clear e2
        go_simp
        refine hK.out _ _ ?_
        exact ⟨(fun jz => if jz = 59 then .int .u64 Yb else if jz = 60 then .agg #[.int .u64 0, .int .u64 Yb] else v jz), g, rfl, ⟨hR.st, hR.f0.keep rfl, hR.f1.keep rfl, (fun _ => rfl), (fun _ => rfl), hR.f4.keep rfl, hR.f5.keep rfl, hR.f6.keep rfl, hR.f7.keep rfl, hR.f8.keep rfl, hR.f9.keep rfl, hR.b8.keep rfl, hR.b9.keep rfl, hR.n8_9.keep rfl rfl, hR.c10.keepM rfl (fun h => ⟨upd_on h.1, h.2⟩), hR.c11.keepM rfl (fun h => ⟨upd_on h.1, h.2⟩)⟩⟩
      refine EachOf.cons [0, 3] rfl (by kernel_rfl) ?_ ?_
      · rintro L A W ⟨v, g, rfl, hR⟩ hi hw K hK
        have e0 := hR.f0 (hw 0 (by simp))
        have e3 := hR.f3 (hw 3 (by simp))
        simp only [e0, e3]
        clear e0 e3
        go_simp
        go_at_call 81
        (with_reducible refine ((CD _).out).mono ?_)
        rintro e w2 ⟨rfl, hb⟩
        go_simp
        refine hK.out _ _ ?_
        exact ⟨(fun jz => if jz = 57 then .agg #[.int .u64 Z1, .int .u64 Z2] else if jz = 60 then .agg #[.int .u64 0, .int .u64 Yb] else if jz = 61 then .tuple #[.agg #[.int .u64 q1, .int .u64 q2], .agg #[.int .u64 r1, .int .u64 r2]] else v jz), g, rfl, ⟨below_on hR.st hb, (fun _ => rfl), hR.f1.keep rfl, hR.f2.keep rfl, (fun _ => rfl), (fun _ => rfl), hR.f5.keep rfl, hR.f6.keep rfl, hR.f7.keep rfl, hR.f8.keep rfl, hR.f9.keep rfl, hR.b8.keepM rfl (fun h => h.on hb), hR.b9.keepM rfl (fun h => h.on hb), hR.n8_9.keep rfl rfl, hR.c10.keepM rfl (fun h => ⟨upd_on h.1, h.2.on hb⟩), hR.c11.keepM rfl (fun h => ⟨upd_on h.1, h.2.on hb⟩)⟩⟩
      refine EachOf.cons [4] rfl (by kernel_rfl) ?_ ?_
      · rintro L A W ⟨v, g, rfl, hR⟩ hi hw K hK
        have e4 := hR.f4 (hw 4 (by simp))
        simp only [e4]
        clear e4
        go_simp
        refine hK.out _ _ ?_
        exact ⟨(fun jz => if jz = 61 then .tuple #[.agg #[.int .u64 q1, .int .u64 q2], .agg #[.int .u64 r1, .int .u64 r2]] else if jz = 56 then .tuple #[.agg #[.int .u64 q1, .int .u64 q2], .agg #[.int .u64 r1, .int .u64 r2]] else v jz), g, rfl, ⟨hR.st, hR.f0.keep rfl, hR.f1.keep rfl, hR.f2.keep rfl, hR.f3.keep rfl, (fun _ => rfl), (fun _ => rfl), hR.f6.keep rfl, hR.f7.keep rfl, hR.f8.keep rfl, hR.f9.keep rfl, hR.b8.keep rfl, hR.b9.keep rfl, hR.n8_9.keep rfl rfl, hR.c10.keepM rfl (fun h => ⟨upd_on h.1, h.2⟩), hR.c11.keepM rfl (fun h => ⟨upd_on h.1, h.2⟩)⟩⟩
      refine EachOf.cons [5] rfl (by kernel_rfl) ?_ ?_
      · rintro L A W ⟨v, g, rfl, hR⟩ hi hw K hK
        have e5 := hR.f5 (hw 5 (by simp))
        simp only [e5]
        clear e5
        go_simp
        refine hK.out _ _ ?_
        exact ⟨(fun jz => if jz = 56 then .tuple #[.agg #[.int .u64 q1, .int .u64 q2], .agg #[.int .u64 r1, .int .u64 r2]] else if jz = 62 then .agg #[.int .u64 q1, .int .u64 q2] else v jz), g, rfl, ⟨hR.st, hR.f0.keep rfl, hR.f1.keep rfl, hR.f2.keep rfl, hR.f3.keep rfl, hR.f4.keep rfl, (fun _ => rfl), (fun _ => rfl), hR.f7.keep rfl, hR.f8.keep rfl, hR.f9.keep rfl, hR.b8.keep rfl, hR.b9.keep rfl, hR.n8_9.keep rfl rfl, hR.c10.keepM rfl (fun h => ⟨upd_on h.1, h.2⟩), hR.c11.keepM rfl (fun h => ⟨upd_on h.1, h.2⟩)⟩⟩
      refine EachOf.cons [5] rfl (by kernel_rfl) ?_ ?_
      · rintro L A W ⟨v, g, rfl, hR⟩ hi hw K hK
        have e5 := hR.f5 (hw 5 (by simp))
        simp only [e5]
        clear e5
        go_simp
        refine hK.out _ _ ?_
        exact ⟨(fun jz => if jz = 56 then .tuple #[.agg #[.int .u64 q1, .int .u64 q2], .agg #[.int .u64 r1, .int .u64 r2]] else if jz = 63 then .agg #[.int .u64 r1, .int .u64 r2] else v jz), g, rfl, ⟨hR.st, hR.f0.keep rfl, hR.f1.keep rfl, hR.f2.keep rfl, hR.f3.keep rfl, hR.f4.keep rfl, (fun _ => rfl), hR.f6.keep rfl, (fun _ => rfl), hR.f8.keep rfl, hR.f9.keep rfl, hR.b8.keep rfl, hR.b9.keep rfl, hR.n8_9.keep rfl rfl, hR.c10.keepM rfl (fun h => ⟨upd_on h.1, h.2⟩), hR.c11.keepM rfl (fun h => ⟨upd_on h.1, h.2⟩)⟩⟩
      refine EachOf.cons [] rfl (by kernel_rfl) ?_ ?_
      · rintro L A W ⟨v, g, rfl, hR⟩ hi hw K hK
        have hz := hR.st.size
        go_simp
        refine hK.out _ _ ?_
        have hb : Below W.heap.size W (W.alloc (Obj.cells #[Value.int IntKind.u64 0, Value.int IntKind.u64 0] 83)) := (Below.refl _ _).alloc (Nat.le_refl _) _
        exact ⟨(fun jz => if jz = 17 then .pointer (some ⟨W.heap.size, 0, none⟩) else v jz), (fun jz => if jz = 8 then W.heap.size else g jz), rfl, ⟨below_on hR.st hb, hR.f0.keep rfl, hR.f1.keep rfl, hR.f2.keep rfl, hR.f3.keep rfl, hR.f4.keep rfl, hR.f5.keep rfl, hR.f6.keep rfl, hR.f7.keep rfl, (fun _ => rfl), hR.f9.keep rfl, (fun _ => Own.new _ _ _ _ hz), hR.b9.keepM rfl (fun h => h.on hb), (fun _ h => by have h1 := (hR.b9 (upd_back h rfl)).lt; exact Nat.ne_of_gt h1), (fun h => absurd ((hR.c10 (upd_back h rfl)).1) (by simp [hi])), hR.c11.keepM rfl (fun h => ⟨upd_on h.1, h.2.on hb⟩)⟩⟩
      refine EachOf.cons [] rfl (by kernel_rfl) ?_ ?_
      · rintro L A W ⟨v, g, rfl, hR⟩ hi hw K hK
        have hz := hR.st.size
        go_simp
        refine hK.out _ _ ?_
        have hb : Below W.heap.size W (W.alloc (Obj.cells #[Value.int IntKind.u64 0, Value.int IntKind.u64 0] 83)) := (Below.refl _ _).alloc (Nat.le_refl _) _
        exact ⟨(fun jz => if jz = 18 then .pointer (some ⟨W.heap.size, 0, none⟩) else v jz), (fun jz => if jz = 9 then W.heap.size else g jz), rfl, ⟨below_on hR.st hb, hR.f0.keep rfl, hR.f1.keep rfl, hR.f2.keep rfl, hR.f3.keep rfl, hR.f4.keep rfl, hR.f5.keep rfl, hR.f6.keep rfl, hR.f7.keep rfl, hR.f8.keep rfl, (fun _ => rfl), hR.b8.keepM rfl (fun h => h.on hb), (fun _ => Own.new _ _ _ _ hz), (fun h _ => by have h1 := (hR.b8 (upd_back h rfl)).lt; exact Nat.ne_of_lt h1), hR.c10.keepM rfl (fun h => ⟨upd_on h.1, h.2.on hb⟩), (fun h => absurd ((hR.c11 (upd_back h rfl)).1) (by simp [hi]))⟩⟩
      refine EachOf.cons [8, 6] rfl (by kernel_rfl) ?_ ?_
      · rintro L A W ⟨v, g, rfl, hR⟩ hi hw K hK
        have e8 := hR.f8 (hw 8 (by simp))
        have e6 := hR.f6 (hw 6 (by simp))
        simp only [e8, e6]
        clear e8 e6
        have o2 := hR.b8 (hw 8 (by simp))
        have o1 := o2.1
        have HO := Lib.hid o2
        clear o2
        obtain ⟨_, ⟨u5, v5, l5, p5, q5⟩, r5, s5⟩ := HO.out
        go_simp
        have o2 := HO.out
        refine hK.out _ _ ?_
        exact ⟨(fun jz => if jz = 17 then .pointer (some ⟨g 8, 0, none⟩) else if jz = 62 then .agg #[.int .u64 q1, .int .u64 q2] else v jz), g, rfl, ⟨(hR.st.setCell (by simpa using o1) _).setCell (by simpa using o1) _, hR.f0.keep rfl, hR.f1.keep rfl, hR.f2.keep rfl, hR.f3.keep rfl, hR.f4.keep rfl, hR.f5.keep rfl, (fun _ => rfl), hR.f7.keep rfl, (fun _ => rfl), hR.f9.keep rfl, hR.b8.keepM rfl (fun h => h.set), hR.b9.keepM rfl (fun h => h.set), hR.n8_9.keep rfl rfl, (fun _ => ⟨upd_on (hw 8 (by simp)), o2.setw⟩), hR.c11.keepM rfl (fun h => ⟨upd_on h.1, h.2.far (hR.n8_9 (hw 8 (by simp)) h.1)⟩)⟩⟩
      refine EachOf.cons [9, 7] rfl (by kernel_rfl) ?_ ?_
      · rintro L A W ⟨v, g, rfl, hR⟩ hi hw K hK
        have e9 := hR.f9 (hw 9 (by simp))
        have e7 := hR.f7 (hw 7 (by simp))
        simp only [e9, e7]
        clear e9 e7
        have o2 := hR.b9 (hw 9 (by simp))
        have o1 := o2.1
        have HO := Lib.hid o2
        clear o2
        obtain ⟨_, ⟨u5, v5, l5, p5, q5⟩, r5, s5⟩ := HO.out
        go_simp
        have o2 := HO.out
        refine hK.out _ _ ?_
        exact ⟨(fun jz => if jz = 18 then .pointer (some ⟨g 9, 0, none⟩) else if jz = 63 then .agg #[.int .u64 r1, .int .u64 r2] else v jz), g, rfl, ⟨(hR.st.setCell (by simpa using o1) _).setCell (by simpa using o1) _, hR.f0.keep rfl, hR.f1.keep rfl, hR.f2.keep rfl, hR.f3.keep rfl, hR.f4.keep rfl, hR.f5.keep rfl, hR.f6.keep rfl, (fun _ => rfl), hR.f8.keep rfl, (fun _ => rfl), hR.b8.keepM rfl (fun h => h.set), hR.b9.keepM rfl (fun h => h.set), hR.n8_9.keep rfl rfl, hR.c10.keepM rfl (fun h => ⟨upd_on h.1, h.2.far (fun e => hR.n8_9 h.1 (hw 9 (by simp)) e.symm)⟩), (fun _ => ⟨upd_on (hw 9 (by simp)), o2.setw⟩)⟩⟩
      exact EachOf.nil
    rintro L A W ⟨v, g, rfl, hR⟩ hL
    have e8 := hR.f8 (hL 8 (by simp))
    have HC := Lib.hid (hR.c10 (hL 10 (by simp))).2
    have HB6 := Lib.hid (below_on HB.out hR.st)
    obtain ⟨qb2, hqb⟩ : ∃ x, g 8 = x := ⟨_, rfl⟩
    rw [hqb] at e8 HC
    simp only [e8]
    clear e8 hqb hR hL HZ HB C5 CD
    obtain ⟨_, q0c, q1c⟩ := HC.out
    have wq : IntKind.i64.wrap q2 = q2 := IntWalk.i64_in _ (by omega)
    have wm : IntKind.i64.wrap (-q2) = -q2 := IntWalk.i64_in _ (by omega)
    have wm2 : IntKind.i64.wrap (0 - q2) = -q2 := by rw [IntWalk.i64_in _ (by omega)]; omega
    by_cases e : ng = sy
    · have hb : (!(ng == sy)) = false := by rw [e]; simp
      have e2 := HR2.out e
      clear e
      go_wp2_with fail
      go_ret
      exact ⟨rfl, HB6.out⟩
    · have hb : (!(ng == sy)) = true := by simpa using e
      have e2 := HR1.out e
      clear e
      go_wp2_with fail
      go_ret
      exact ⟨rfl, HB6.out⟩

theorem sgnX_mul (a d : Int) : ((!(decide (a < 0) == decide (d < 0))) = true → a * d = -((a.natAbs : Int) * (d.natAbs : Int))) ∧ ((!(decide (a < 0) == decide (d < 0))) = false → a * d = (a.natAbs : Int) * (d.natAbs : Int)) := by
  rcases Int.lt_or_le a 0 with ha | ha <;> rcases Int.lt_or_le d 0 with hd | hd
  · have e1 : (a.natAbs : Int) = -a := by omega
    have e2 : (d.natAbs : Int) = -d := by omega
    rw [decide_eq_true ha, decide_eq_true hd, e1, e2]
    exact ⟨fun h => (by cases h), fun _ => by grind⟩
  · have e1 : (a.natAbs : Int) = -a := by omega
    have e2 : (d.natAbs : Int) = d := by omega
    rw [decide_eq_true ha, decide_eq_false (by omega : ¬ d < 0), e1, e2]
    exact ⟨fun _ => by grind, fun h => (by cases h)⟩
  · have e1 : (a.natAbs : Int) = a := by omega
    have e2 : (d.natAbs : Int) = -d := by omega
    rw [decide_eq_false (by omega : ¬ a < 0), decide_eq_true hd, e1, e2]
    exact ⟨fun _ => by grind, fun h => (by cases h)⟩
  · have e1 : (a.natAbs : Int) = a := by omega
    have e2 : (d.natAbs : Int) = d := by omega
    rw [decide_eq_false (by omega : ¬ a < 0), decide_eq_false (by omega : ¬ d < 0), e1, e2]
    exact ⟨fun h => (by cases h), fun _ => rfl⟩
theorem absX_bd {a d : Int} (a0 : -4611686018427387904 ≤ a) (a1 : a ≤ 4611686018427387904) (d0 : -4611686018427387904 ≤ d) (d1 : d ≤ 4611686018427387904) : 0 ≤ (a.natAbs : Int) * (d.natAbs : Int) ∧ (a.natAbs : Int) * (d.natAbs : Int) ≤ 21267647932558653966460912964485513216 :=
  ⟨Int.mul_nonneg (by omega) (by omega), by
    have := Int.mul_le_mul (show (a.natAbs : Int) ≤ 4611686018427387904 by omega) (show (d.natAbs : Int) ≤ 4611686018427387904 by omega) (by omega) (by omega)
    omega⟩
/-- What the magnitudes and the signs say. -/
theorem refCross_any (a b c d y r : Int) (w : World) (a0 : -4611686018427387904 ≤ a) (a1 : a ≤ 4611686018427387904) (b0 : -4611686018427387904 ≤ b) (b1 : b ≤ 4611686018427387904) (c0 : -4611686018427387904 ≤ c) (c1 : c ≤ 4611686018427387904) (d0 : -4611686018427387904 ≤ d) (d1 : d ≤ 4611686018427387904)
    (hy : y ≠ 0) (y0 : -4611686018427387904 ≤ y) (y1 : y ≤ 4611686018427387904) (r0 : -4611686018427387904 ≤ r) (r1 : r ≤ 4611686018427387904) (h : r * y = a * d - b * c) :
    Calls Try.prog 73 #[.int .i64 a, .int .i64 b, .int .i64 c, .int .i64 d, .int .i64 y] w fun e w' => e = .returned (.int .i64 r) ∧ Below w.heap.size w w' := by
  obtain ⟨p1, p2⟩ := sgnX_mul a d
  obtain ⟨n1, n2⟩ := sgnX_mul b c
  obtain ⟨x0, x1⟩ := absX_bd a0 a1 d0 d1
  obtain ⟨z0, z1⟩ := absX_bd b0 b1 c0 c1
  have CM1 := fun w => Lib.hid (refMul_any (a.natAbs : Int) (d.natAbs : Int) w (by omega) (by omega) (by omega) (by omega))
  have CM2 := fun w => Lib.hid (refMul_any (b.natAbs : Int) (c.natAbs : Int) w (by omega) (by omega) (by omega) (by omega))
  obtain ⟨X, hX⟩ : ∃ X, (a.natAbs : Int) * (d.natAbs : Int) = X := ⟨_, rfl⟩
  obtain ⟨Y, hY⟩ : ∃ Y, (b.natAbs : Int) * (c.natAbs : Int) = Y := ⟨_, rfl⟩
  rw [hX] at p1 p2 x0 x1
  simp only [hX] at CM1
  rw [hY] at n1 n2 z0 z1
  simp only [hY] at CM2
  obtain ⟨P, hP⟩ : ∃ P, a * d = P := ⟨_, rfl⟩
  obtain ⟨Q, hQ⟩ : ∃ Q, b * c = Q := ⟨_, rfl⟩
  rw [hP] at p1 p2 h
  rw [hQ] at n1 n2 h
  have CP := fun w => Lib.hid (refPlus_any X Y w)
  have CL := fun w => Lib.hid (less_any X Y w (by omega) (by omega) (by omega) (by omega))
  have CN := fun w => Lib.hid (refMinus_any Y X w)
  have CQ := fun w => Lib.hid (refMinus_any X Y w)
  have yb0 : 0 < (y.natAbs : Int) := by omega
  have hyw : hiW (y.natAbs : Int) = 0 ∧ loW (y.natAbs : Int) = (y.natAbs : Int) := W_small (by omega) (by omega)
  obtain ⟨fi, hfi⟩ : ∃ x, (!(decide (a < 0) == decide (d < 0))) = x := ⟨_, rfl⟩
  obtain ⟨se, hse⟩ : ∃ x, (decide (b < 0) == decide (c < 0)) = x := ⟨_, rfl⟩
  have hse2 : (!(decide (b < 0) == decide (c < 0))) = !se := by rw [hse]
  rw [hfi] at p1 p2
  rw [hse2] at n1 n2
  obtain ⟨Z, hZ⟩ : ∃ Z, (if fi = se then X + Y else if X < Y then Y - X else X - Y) = Z := ⟨_, rfl⟩
  obtain ⟨ng, hng⟩ : ∃ ng, (if fi = se then fi else if X < Y then se else fi) = ng := ⟨_, rfl⟩
  have hT : r * y = if ng = true then -Z else Z := by
    rw [h, ← hZ, ← hng]
    cases fi <;> cases se <;> simp at p1 p2 n1 n2 ⊢ <;> (try split) <;> (try simp) <;> omega
  have Z0 : 0 ≤ Z := by
    rw [← hZ]; split
    · omega
    · split <;> omega
  have Z1 : Z < 340282366920938463463374607431768211456 := by
    rw [← hZ]; split
    · omega
    · split <;> omega
  have hq : Z / (y.natAbs : Int) = (r.natAbs : Int) := by
    have e : Z = (r.natAbs : Int) * (y.natAbs : Int) := by
      have : ((r * y).natAbs : Int) = (r.natAbs : Int) * (y.natAbs : Int) := by rw [Int.natAbs_mul]; rfl
      rw [← this, hT]; split <;> omega
    rw [e, Int.mul_ediv_cancel _ (by omega)]
  have CD0 := fun w => rdiv_any Z (y.natAbs : Int) w Z0 Z1 yb0 (by omega)
  have hrw : hiW (r.natAbs : Int) = 0 ∧ loW (r.natAbs : Int) = (r.natAbs : Int) := W_small (by omega) (by omega)
  simp only [hq, hyw.1, hyw.2, hrw.1, hrw.2] at CD0
  have CD := fun w => Lib.hid (CD0 w)
  have hsg : (ng ≠ decide (y < 0) → -(r.natAbs : Int) = r) ∧ (ng = decide (y < 0) → (r.natAbs : Int) = r) := by
    rcases Int.lt_trichotomy r 0 with g | g | g
    · rcases Int.lt_or_le y 0 with g2 | g2
      · have := Int.mul_pos_of_neg_of_neg g g2
        rw [decide_eq_true g2]
        cases ng
        · exact ⟨fun _ => by omega, fun e => (by cases e)⟩
        · rw [if_pos rfl] at hT; omega
      · have := Int.mul_neg_of_neg_of_pos g (show 0 < y by omega)
        rw [decide_eq_false (by omega : ¬ y < 0)]
        cases ng
        · rw [if_neg (by decide)] at hT; omega
        · exact ⟨fun _ => by omega, fun e => (by cases e)⟩
    · subst g; exact ⟨fun _ => rfl, fun _ => rfl⟩
    · rcases Int.lt_or_le y 0 with g2 | g2
      · have := Int.mul_neg_of_pos_of_neg g g2
        rw [decide_eq_true g2]
        cases ng
        · rw [if_neg (by decide)] at hT; omega
        · exact ⟨fun e => absurd rfl e, fun _ => by omega⟩
      · have := Int.mul_pos g (show 0 < y by omega)
        rw [decide_eq_false (by omega : ¬ y < 0)]
        cases ng
        · exact ⟨fun e => absurd rfl e, fun _ => by omega⟩
        · rw [if_pos rfl] at hT; omega
  exact refCross_walk w a b c d y _ _ _ _ _ _ _ _ _ _ _ _ _ _ _ (hiW Z) (loW Z) 0 (r.natAbs : Int) _ _ r _ _ _ _ fi se (decide (X < Y)) _ ng
    (fun w => Lib.hid (refSize_any a w (by omega) (by omega))) (fun w => Lib.hid (refSize_any d w (by omega) (by omega))) (fun w => Lib.hid (refSize_any b w (by omega) (by omega))) (fun w => Lib.hid (refSize_any c w (by omega) (by omega)))
    CM1 CM2 CP CL CN CQ (fun w => Lib.hid (refSize_any y w (by omega) (by omega))) CD rfl rfl rfl rfl rfl hfi hse
    (fun e => by rw [← hZ, ← hng, if_pos e, if_pos e]; exact ⟨rfl, rfl, rfl⟩)
    (fun e l => by rw [← hZ, ← hng, if_neg e, if_neg e, if_pos (of_decide_eq_true l), if_pos (of_decide_eq_true l)]; exact ⟨rfl, rfl, rfl⟩)
    (fun e l => by rw [← hZ, ← hng, if_neg e, if_neg e, if_neg (of_decide_eq_false l), if_neg (of_decide_eq_false l)]; exact ⟨rfl, rfl, rfl⟩)
    (by omega) (by omega) hsg.1 hsg.2

end Go.Proofs.Ytjggnmbdgagkoaa
