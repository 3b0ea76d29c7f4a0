/- Layer 3: the reference's parts: a number times a quotient, rounded. -/
import Derived.Test.YtknbhpnhnhfbpaaS2
import Derived.Test.YtknbhpnhnhfbpaaRRef4
import Derived.Test.YtknbhpnhnhfbpaaRRef2
import Derived.Test.YtknbhpnhnhfbpaaRSto
namespace Go.Proofs.Ytknbhpnhnhfbpaa
set_option linter.unusedVariables false
open Go.RowKit Go.Shelf

set_option maxRecDepth 100000 in
set_option maxHeartbeats 8000000 in
theorem part_walk (w : World) (n num den x y z p1 p2 q1 q2 r t1 t2 f1 f2 k : Int) (up s1 s2 ng inc ok : Bool) (f20 : 0 ≤ f2) (f21 : f2 < 18446744073709551616)
    (C1 : ∀ w, Hid (Calls Try.prog 57 #[.int .i64 n] w fun e w' => e = .returned (.int .u64 x) ∧ w = w'))
    (C2 : ∀ w, Hid (Calls Try.prog 57 #[.int .i64 num] w fun e w' => e = .returned (.int .u64 y) ∧ w = w'))
    (C3 : ∀ w, Hid (Calls Try.prog 57 #[.int .i64 den] w fun e w' => e = .returned (.int .u64 z) ∧ w = w'))
    (CM : ∀ w, Hid (Calls Try.prog 59 #[.int .u64 x, .int .u64 y] w fun e w' => e = .returned (.agg #[.int .u64 p1, .int .u64 p2]) ∧ Below w.heap.size w w'))
    (CD : ∀ w, Hid (Calls Try.prog 58 #[.agg #[.int .u64 p1, .int .u64 p2], .agg #[.int .u64 0, .int .u64 z]] w fun e w' => e = .returned (.tuple #[.agg #[.int .u64 q1, .int .u64 q2], .agg #[.int .u64 0, .int .u64 r]]) ∧ Below w.heap.size w w'))
    (CP : ∀ w, Hid (Calls Try.prog 60 #[.agg #[.int .u64 q1, .int .u64 q2], .agg #[.int .u64 0, .int .u64 1]] w fun e w' => e = .returned (.agg #[.int .u64 t1, .int .u64 t2]) ∧ Below w.heap.size w w'))
    (d1 : (!decide (n < 0) == decide (num < 0)) = s1) (d2 : decide (den < 0) = s2) (hng : Hid (ng = (s1 != s2)))
    (hr : Hid (if inc = true then ((r == 0) = false ∧ (r != 0) = true ∧ ¬ r = 0) ∧ (ng = !up) else r = 0 ∨ (((r == 0) = false ∧ (r != 0) = true ∧ ¬ r = 0) ∧ ng = up)))
    (hf : Hid (if inc = true then f1 = t1 ∧ f2 = t2 else f1 = q1 ∧ f2 = q2))
    (hk : Hid (if ok = true then f1 = 0 ∧ f2 ≤ 1152921504606846976 ∧ k = (if ng = true then -f2 else f2) else k = 0 ∧ (0 < f1 ∨ (f1 = 0 ∧ 1152921504606846976 < f2)))) :
    Calls Try.prog 36 #[.int .i64 n, .int .i64 num, .int .i64 den, .bool up] w fun e w' => e = .returned (.tuple #[.int .i64 k, .bool ok]) ∧ Below w.heap.size w w' := by
  have HW := Lib.hid (Below.refl w.heap.size w)
  go_enter Try.func36, Try.ntmps36
  go_wp2_with fail
  (with_reducible refine ((C1 _).out).mono ?_)
  rintro e w' ⟨rfl, rfl⟩
  go_wp2_with fail
  (with_reducible refine ((C2 _).out).mono ?_)
  rintro e w' ⟨rfl, rfl⟩
  go_wp2_with fail
  (with_reducible refine ((CM _).out).mono ?_)
  rintro e y1 ⟨rfl, hb⟩
  have hst := Lib.hid hb
  clear hb
  replace HW := Lib.hid (below_on HW.out hst.out)
  clear hst
  go_wp2_with fail
  (with_reducible refine ((C3 _).out).mono ?_)
  rintro e w' ⟨rfl, rfl⟩
  go_wp2_with fail
  (with_reducible refine ((CD _).out).mono ?_)
  rintro e y2 ⟨rfl, hb⟩
  have hst := Lib.hid hb
  clear hb
  replace HW := Lib.hid (below_on HW.out hst.out)
  clear hst
  clear C1 C2 C3 CM CD
  go_upto_region 2 with fail
  obtain ⟨y3, hy⟩ : ∃ W, W = ((y2.alloc (Obj.cells #[Value.int .u64 q1, Value.int .u64 q2] 70)).alloc (Obj.cells #[Value.int .u64 0, Value.int .u64 r] 70)) := ⟨_, rfl⟩
  rw [← hy]
  have hb : Below (((y2.alloc (Obj.cells #[Value.int .u64 q1, Value.int .u64 q2] 70)).alloc (Obj.cells #[Value.int .u64 0, Value.int .u64 r] 70))).heap.size (((y2.alloc (Obj.cells #[Value.int .u64 q1, Value.int .u64 q2] 70)).alloc (Obj.cells #[Value.int .u64 0, Value.int .u64 r] 70))) y3 := by rw [hy]; exact Below.refl _ _
  clear hy
  have hst := Lib.hid (below_on (w := y2) (by repeat' (first | (with_reducible exact Below.refl _ _) | (with_reducible assumption) | (with_reducible refine Below.alloc ?_ ?_ _) | (with_reducible refine below_drew ?_ _) | (with_reducible refine Below.drew ?_) | (with_reducible refine Below.setCell ?_ ?_ _) | go_size)) hb)
  have B0 : Hid (Blk y3 (y2.heap.size) (.int .u64 q1) (.int .u64 q2)) := Blk.on (W := ((y2.alloc (Obj.cells #[Value.int .u64 q1, Value.int .u64 q2] 70)).alloc (Obj.cells #[Value.int .u64 0, Value.int .u64 r] 70))) (by first | exact Blk.new _ _ _ _ | exact (Blk.new _ _ _ _).alloc _ | (have hn := Blk.new (y2) (Value.int .u64 q1) (Value.int .u64 q2) 70; simpa using hn)) hb
  have B0F : Hid (Frz y3 (y2.heap.size)) := Frz.on (W := ((y2.alloc (Obj.cells #[Value.int .u64 q1, Value.int .u64 q2] 70)).alloc (Obj.cells #[Value.int .u64 0, Value.int .u64 r] 70))) (by first | exact Frz.new _ _ _ _ | exact (Frz.new _ _ _ _).alloc (by simp) _ | (have hn := Frz.new (y2) (Value.int .u64 q1) (Value.int .u64 q2) 70; simpa using hn)) (by first | (simp; done) | (simp; omega)) hb
  have B0N : Hid (w.heap.size ≤ y2.heap.size) := by have h := HW.out.size; show _ ≤ _; omega
  have B1 : Hid (Blk y3 (y2.heap.size + 1) (.int .u64 0) (.int .u64 r)) := Blk.on (W := ((y2.alloc (Obj.cells #[Value.int .u64 q1, Value.int .u64 q2] 70)).alloc (Obj.cells #[Value.int .u64 0, Value.int .u64 r] 70))) (by first | exact Blk.new _ _ _ _ | exact (Blk.new _ _ _ _).alloc _ | (have hn := Blk.new ((y2.alloc (Obj.cells #[Value.int .u64 q1, Value.int .u64 q2] 70))) (Value.int .u64 0) (Value.int .u64 r) 70; simpa using hn)) hb
  have B1F : Hid (Frz y3 (y2.heap.size + 1)) := Frz.on (W := ((y2.alloc (Obj.cells #[Value.int .u64 q1, Value.int .u64 q2] 70)).alloc (Obj.cells #[Value.int .u64 0, Value.int .u64 r] 70))) (by first | exact Frz.new _ _ _ _ | exact (Frz.new _ _ _ _).alloc (by simp) _ | (have hn := Frz.new ((y2.alloc (Obj.cells #[Value.int .u64 q1, Value.int .u64 q2] 70))) (Value.int .u64 0) (Value.int .u64 r) 70; simpa using hn)) (by first | (simp; done) | (simp; omega)) hb
  have B1N : Hid (w.heap.size ≤ y2.heap.size + 1) := by have h := HW.out.size; show _ ≤ _; omega
  clear hb
  replace HW := Lib.hid (below_on HW.out hst.out)
  clear hst
  go_cut [12] (fun s12 wx => y3 = wx ∧ s12 = .bool s1)
  case first =>
    clear hr hf hk hng
    cases s1
    all_goals
      go_wp2_with fail
      go_meet
      exact ⟨rfl, rfl⟩
  case rest =>
  obtain ⟨rfl, rfl⟩ := hcut
  clear d1
  go_upto_if 31 with fail
  go_cut [12] (fun s12 wx => y3 = wx ∧ s12 = .bool ng)
  case first =>
    have e := hng.out
    clear hr hf hk hng
    cases s1 <;> cases s2
    all_goals
      subst e
      go_wp2_with fail
      go_meet
      exact ⟨rfl, rfl⟩
  case rest =>
  obtain ⟨rfl, rfl⟩ := hcut
  clear d2 hng
  go_upto_region 5 with fail
  go_cut [41] (fun s41 wx => y3 = wx ∧ s41 = .bool inc)
  case first =>
    have e1 := hr.out
    clear hr hf hk
    obtain ⟨_, p, q⟩ := B0.out
    obtain ⟨_, p', q'⟩ := B1.out
    cases inc
    · rw [if_neg (by simp)] at e1
      rcases e1 with rfl | ⟨⟨g1, g2, g3⟩, rfl⟩
      · go_wp2_with fail
        go_meet
        exact ⟨rfl, rfl⟩
      · cases ng
        all_goals
          go_wp2_with fail
          go_meet
          exact ⟨rfl, rfl⟩
    · rw [if_pos rfl] at e1
      obtain ⟨⟨g1, g2, g3⟩, rfl⟩ := e1
      cases up
      all_goals
        go_wp2_with fail
        go_meet
        exact ⟨rfl, rfl⟩
  case rest =>
  obtain ⟨rfl, rfl⟩ := hcut
  clear hr
  go_upto_if 41 with fail
  go_cut [44] (fun s44 wx => Blk wx (y2.heap.size) (.int .u64 f1) (.int .u64 f2) ∧ Below w.heap.size w wx)
  case first =>
    have e2 := hf.out
    clear hf hk
    cases inc
    · rw [if_neg (by simp)] at e2
      obtain ⟨rfl, rfl⟩ := e2
      go_wp2_with fail
      go_meet
      exact ⟨B0.out, HW.out⟩
    · rw [if_pos rfl] at e2
      obtain ⟨rfl, rfl⟩ := e2
      obtain ⟨_, p, q⟩ := B0.out
      go_wp2_with fail
      (with_reducible refine ((CP _).out).mono ?_)
      rintro e w8 ⟨rfl, hb⟩
      have K := Lib.hid (B0.out.on hb)
      have HB := Lib.hid (below_on HW.out hb)
      have HN := Lib.hid (show w.heap.size ≤ y2.heap.size from B0N.out)
      have HFq := Lib.hid (Frz.on B0F.out B0.out.1 hb)
      clear hb p q
      obtain ⟨_, p, q⟩ := K.out
      obtain ⟨f8, f9⟩ := HFq.out
      go_wp2_with fail
      go_meet
      exact ⟨Blk.set K.out, (HB.out.setCell (by have := HN.out; simpa using this) _).setCell (by have := HN.out; simpa using this) _⟩
  case rest =>
  clear hf CP B0 B1 HW B0F B1F
  obtain ⟨⟨_, p, q⟩, hB⟩ := hcut
  have HB := Lib.hid hB
  clear hB
  have e := hk.out
  clear hk
  cases ok
  · rw [if_neg (by simp)] at e
    obtain ⟨rfl, g | ⟨rfl, g⟩⟩ := e
    · have g1 : decide (0 < f1) = true := decide_eq_true g
      clear g
      go_wp2_with fail
      go_ret2
      exact ⟨rfl, HB.out⟩
    · have g1 : decide (1152921504606846976 < f2) = true := decide_eq_true g
      clear g
      go_wp2_with fail
      go_ret2
      exact ⟨rfl, HB.out⟩
  · rw [if_pos rfl] at e
    obtain ⟨rfl, g, rfl⟩ := e
    have g1 : decide (1152921504606846976 < f2) = false := decide_eq_false (by omega)
    have wf : IntKind.i64.wrap f2 = f2 := IntWalk.i64_in _ (by omega)
    have wg : IntKind.i64.wrap (-f2) = -f2 := IntWalk.i64_in _ (by omega)
    have wh : IntKind.i64.wrap (0 - f2) = -f2 := by rw [IntWalk.i64_in _ (by omega)]; omega
    cases ng
    · clear wg wh
      go_wp2_with fail
      go_ret2
      exact ⟨rfl, HB.out⟩
    · go_wp2_with fail
      go_ret2
      exact ⟨by simp, HB.out⟩

end Go.Proofs.Ytknbhpnhnhfbpaa
