/- Layer 9: turns; quotients that are rounded down. -/
import Derived.Test.YtabpnkpedcgcpaaDoorVW4
namespace Go.Proofs.YtabpnkpedcgcpaaDoor
open Go.ChangeShapes Go.WideShapes Go.ChangeAt Go.RowKit Go.Joins Go.Deep Go.Shelf
set_option linter.unusedVariables false

theorem two_boxes (w : World) (a b : Pt) (t1 t2 : TypeId) (W : World) (h : W = (w.alloc (Obj.cells #[.int .i64 a.x, .int .i64 a.y, .int .i64 a.z] t1)).alloc (Obj.cells #[.int .i64 b.x, .int .i64 b.y, .int .i64 b.z] t2)) :
    Below w.heap.size w W ∧ B3 W w.heap.size a.x a.y a.z ∧ B3 W (w.heap.size + 1) b.x b.y b.z := by
  rw [h]
  refine ⟨below_on (below_alloc _ _) (below_alloc _ _), (B3.new _ _ _ _ _).alloc _, ?_⟩
  have := B3.new (w.alloc (Obj.cells #[.int .i64 a.x, .int .i64 a.y, .int .i64 a.z] t1)) b.x b.y b.z t2
  rwa [World.size_alloc] at this
theorem three_boxes (w : World) (a b c : Pt) (t1 t2 t3 : TypeId) (W : World) (h : W = ((w.alloc (Obj.cells #[.int .i64 a.x, .int .i64 a.y, .int .i64 a.z] t1)).alloc (Obj.cells #[.int .i64 b.x, .int .i64 b.y, .int .i64 b.z] t2)).alloc (Obj.cells #[.int .i64 c.x, .int .i64 c.y, .int .i64 c.z] t3)) :
    Below w.heap.size w W ∧ B3 W w.heap.size a.x a.y a.z ∧ B3 W (w.heap.size + 1) b.x b.y b.z ∧ B3 W (w.heap.size + 1 + 1) c.x c.y c.z := by
  obtain ⟨h1, h2, h3⟩ := two_boxes w a b t1 t2 _ rfl
  rw [h]
  refine ⟨below_on h1 (below_alloc _ _), h2.alloc _, h3.alloc _, ?_⟩
  have := B3.new ((w.alloc (Obj.cells #[.int .i64 a.x, .int .i64 a.y, .int .i64 a.z] t1)).alloc (Obj.cells #[.int .i64 b.x, .int .i64 b.y, .int .i64 b.z] t2)) c.x c.y c.z t3
  rwa [World.size_alloc, World.size_alloc] at this
theorem cmp_sg (x y : Int) : Lib.compareInt x y = sgI (x - y) := by
  unfold Lib.compareInt sgI
  split <;> split <;> first | omega | (split <;> omega) | rfl | (split <;> split <;> omega)
theorem tn_bd {d e : Int} (h0 : -2097152 ≤ d) (h1 : d ≤ 2097152) (g0 : -2097152 ≤ e) (g1 : e ≤ 2097152) : -4398046511104 ≤ d * e ∧ d * e ≤ 4398046511104 := by
  have h : (d * e).natAbs ≤ 2097152 * 2097152 := by
    rw [Int.natAbs_mul]
    exact Nat.mul_le_mul (by omega) (by omega)
  omega
set_option maxRecDepth 100000 in
set_option maxHeartbeats 8000000 in
theorem turn_any (a b c : Pt) (w : World) (ha : a.ok) (hb : b.ok) (hc : c.ok) : Calls Tryd.prog 36 #[.agg #[.int .i64 a.x, .int .i64 a.y, .int .i64 a.z], .agg #[.int .i64 b.x, .int .i64 b.y, .int .i64 b.z], .agg #[.int .i64 c.x, .int .i64 c.y, .int .i64 c.z]] w fun r w' => r = .returned (.int .i64 (sgI (tnI a b c))) ∧ Below w.heap.size w w' := by
  obtain ⟨w1, hw1⟩ : ∃ W, W = ((w.alloc (Obj.cells #[.int .i64 a.x, .int .i64 a.y, .int .i64 a.z] 23)).alloc (Obj.cells #[.int .i64 b.x, .int .i64 b.y, .int .i64 b.z] 23)).alloc (Obj.cells #[.int .i64 c.x, .int .i64 c.y, .int .i64 c.z] 23) := ⟨_, rfl⟩
  obtain ⟨hb1, hA, hB, hC⟩ := three_boxes w a b c _ _ _ w1 hw1
  obtain ⟨⟨a0, a1⟩, ⟨a2, a3⟩, a4, a5⟩ := ha
  obtain ⟨⟨b0, b1⟩, ⟨b2, b3⟩, b4, b5⟩ := hb
  obtain ⟨⟨c0, c1⟩, ⟨c2, c3⟩, c4, c5⟩ := hc
  obtain ⟨x, hx⟩ : ∃ x, x = (b.x - a.x) * (c.y - a.y) := ⟨_, rfl⟩
  obtain ⟨y, hy⟩ : ∃ x, x = (b.y - a.y) * (c.x - a.x) := ⟨_, rfl⟩
  obtain ⟨r, hr⟩ : ∃ r, r = sgI (tnI a b c) := ⟨_, rfl⟩
  have hcr : Lib.compareInt x y = r := by rw [cmp_sg, hr, hx, hy]; rfl
  have w1' : IntKind.i64.wrap (b.x - a.x) = b.x - a.x := IntWalk.i64_in _ (by omega)
  have w2' : IntKind.i64.wrap (c.y - a.y) = c.y - a.y := IntWalk.i64_in _ (by omega)
  have w3' : IntKind.i64.wrap (b.y - a.y) = b.y - a.y := IntWalk.i64_in _ (by omega)
  have w4' : IntKind.i64.wrap (c.x - a.x) = c.x - a.x := IntWalk.i64_in _ (by omega)
  have bx := tn_bd (d := b.x - a.x) (e := c.y - a.y) (by omega) (by omega) (by omega) (by omega)
  have by2 := tn_bd (d := b.y - a.y) (e := c.x - a.x) (by omega) (by omega) (by omega) (by omega)
  have w5' : IntKind.i64.wrap ((b.x - a.x) * (c.y - a.y)) = x := by rw [hx]; exact IntWalk.i64_in _ (by omega)
  have w6' : IntKind.i64.wrap ((b.y - a.y) * (c.x - a.x)) = y := by rw [hy]; exact IntWalk.i64_in _ (by omega)
  have C := fun W => Lib.hid ((Tryd.cmp_Compare_int x y W).mono fun e w' ⟨a, b⟩ => (⟨a, b.symm⟩ : e = Ending.returned (.int .i64 (Lib.compareInt x y)) ∧ W = w'))
  rw [hcr] at C
  rw [← hr]
  have HB := Lib.hid hb1
  have p0 := hA.c0
  have p1 := hA.c1
  have q0 := hB.c0
  have q1 := hB.c1
  have r0 := hC.c0
  have r1 := hC.c1
  clear hA hB hC hb1 a0 a1 a2 a3 a4 a5 b0 b1 b2 b3 b4 b5 c0 c1 c2 c3 c4 c5 hx hy hcr hr bx by2
  go_enter Tryd.func36, Tryd.ntmps36
  go_upto_region 1 with fail
  rw [← hw1]
  clear hw1
  go_wp2_with (go_at_call 50; (with_reducible refine ((C _).out.mono ?_)); rintro e w2 ⟨rfl, rfl⟩)
  go_ret
  exact ⟨rfl, HB.out⟩

/-- What Turn returns. -/
def tuT (a b c : Pt) : Int × Int := if a.ok ∧ b.ok ∧ c.ok then (sgI (tnI a b c), 0) else (0, 1)
set_option maxRecDepth 100000 in
set_option maxHeartbeats 8000000 in
theorem pturn_any (a b c : Pt) (w : World) (n e : Int) (h : tuT a b c = (n, e)) : Calls Tryd.prog 14 #[.agg #[.int .i64 a.x, .int .i64 a.y, .int .i64 a.z], .agg #[.int .i64 b.x, .int .i64 b.y, .int .i64 b.z], .agg #[.int .i64 c.x, .int .i64 c.y, .int .i64 c.z]] w fun r w' => r = .returned (.tuple #[.int .i64 n, .int .i64 e]) ∧ Below w.heap.size w w' := by
  obtain ⟨w1, hw1⟩ : ∃ W, W = ((w.alloc (Obj.cells #[.int .i64 a.x, .int .i64 a.y, .int .i64 a.z] 23)).alloc (Obj.cells #[.int .i64 b.x, .int .i64 b.y, .int .i64 b.z] 23)).alloc (Obj.cells #[.int .i64 c.x, .int .i64 c.y, .int .i64 c.z] 23) := ⟨_, rfl⟩
  obtain ⟨hb1, hA, hB, hC⟩ := three_boxes w a b c _ _ _ w1 hw1
  obtain ⟨w2, hw2⟩ : ∃ W, W = w1.alloc (Obj.cells #[.int .i64 a.x, .int .i64 a.y, .int .i64 a.z, .int .i64 b.x, .int .i64 b.y, .int .i64 b.z, .int .i64 c.x, .int .i64 c.y, .int .i64 c.z] 23) := ⟨_, rfl⟩
  obtain ⟨g, hg⟩ : ∃ x, x = w1.heap.size := ⟨_, rfl⟩
  have hb2 : Below w1.heap.size w1 w2 := by rw [hw2]; exact below_alloc _ _
  have CV := areV_any (some ⟨g, 0, none⟩) 3 3 (fun i => if i = 0 then a else if i = 1 then b else c) w2 (by rw [hw2, hg]; exact PtR.three _ _ _ _ _) (by omega)
  have HB2 := Lib.hid (below_on hb1 hb2)
  have HA := Lib.hid (hA.on hb2)
  have HBb := Lib.hid (hB.on hb2)
  have HC := Lib.hid (hC.on hb2)
  have a0 := hA.c0
  have a1 := hA.c1
  have a2 := hA.c2
  have b0 := hB.c0
  have b1 := hB.c1
  have b2 := hB.c2
  have c0 := hC.c0
  have c1 := hC.c1
  have c2 := hC.c2
  have HN : Hid (w2 = w1.alloc (Obj.cells #[.int .i64 a.x, .int .i64 a.y, .int .i64 a.z, .int .i64 b.x, .int .i64 b.y, .int .i64 b.z, .int .i64 c.x, .int .i64 c.y, .int .i64 c.z] 23) ∧ g = w1.heap.size) := ⟨hw2, hg⟩
  clear hA hB hC hb1 hb2 hw2 hg
  by_cases ok : a.ok ∧ b.ok ∧ c.ok
  · have hd : decide (allV 3 (fun i => if i = 0 then a else if i = 1 then b else c)) = true := decide_eq_true ((allV3 a b c).2 ok)
    rw [hd] at CV
    have C := Lib.hid CV
    have CT := fun W => Lib.hid (turn_any a b c W ok.1 ok.2.1 ok.2.2)
    unfold tuT at h
    rw [if_pos ok] at h
    injection h with h1 h2
    subst h2
    rw [h1] at CT
    clear h1 ok hd CV
    go_enter Tryd.func14, Tryd.ntmps14
    go_upto_region 1 with fail
    rw [← hw1]
    clear hw1
    go_wp2_with fail
    rw [← HN.out.1, ← HN.out.2]
    (with_reducible refine ((C.out).mono ?_))
    rintro r w3 ⟨rfl, hb3⟩
    have HB3 := Lib.hid (below_on HB2.out hb3)
    have hA3 := HA.out.on hb3
    have hB3 := HBb.out.on hb3
    have hC3 := HC.out.on hb3
    clear hb3 a0 a1 a2 b0 b1 b2 c0 c1 c2 HA HBb HC HB2 HN C
    have a0 := hA3.c0
    have a1 := hA3.c1
    have a2 := hA3.c2
    have b0 := hB3.c0
    have b1 := hB3.c1
    have b2 := hB3.c2
    have c0 := hC3.c0
    have c1 := hC3.c1
    have c2 := hC3.c2
    clear hA3 hB3 hC3
    go_wp2_with (go_at_call 36; (with_reducible refine ((CT _).out.mono ?_)); rintro r w4 ⟨rfl, hb4⟩)
    go_ret2
    exact ⟨rfl, below_on HB3.out hb4⟩
  · have hd : decide (allV 3 (fun i => if i = 0 then a else if i = 1 then b else c)) = false := decide_eq_false fun hh => ok ((allV3 a b c).1 hh)
    rw [hd] at CV
    have C := Lib.hid CV
    unfold tuT at h
    rw [if_neg ok] at h
    injection h with h1 h2
    subst h1
    subst h2
    clear ok hd CV
    go_enter Tryd.func14, Tryd.ntmps14
    go_upto_region 1 with fail
    rw [← hw1]
    clear hw1
    go_wp2_with fail
    rw [← HN.out.1, ← HN.out.2]
    (with_reducible refine ((C.out).mono ?_))
    rintro r w3 ⟨rfl, hb3⟩
    have HB3 := Lib.hid (below_on HB2.out hb3)
    clear hb3 a0 a1 a2 b0 b1 b2 c0 c1 c2 HA HBb HC HB2 HN C
    go_wp2_with fail
    go_ret2
    exact ⟨rfl, HB3.out⟩

theorem tmod_bd (a b : Int) (hb : 0 < b) : -b < a.tmod b ∧ a.tmod b < b := by
  have h : (a.tmod b).natAbs < b.natAbs := by rw [Int.natAbs_tmod]; exact Nat.mod_lt _ (by omega)
  omega
theorem fl_div (a b : Int) (hb : 0 < b) : a / b = if a.tmod b < 0 then a.tdiv b - 1 else a.tdiv b := by
  have e := Int.mul_tdiv_add_tmod a b
  have hl := tmod_bd a b hb
  split
  · refine ((Int.ediv_emod_unique (r := a.tmod b + b) hb).2 ⟨?_, by omega, by omega⟩).1
    rw [Int.mul_sub]; omega
  · refine ((Int.ediv_emod_unique (r := a.tmod b) hb).2 ⟨?_, by omega, by omega⟩).1
    omega
theorem fl_bd (a b : Int) : (a.tdiv b).natAbs ≤ a.natAbs := by rw [Int.natAbs_tdiv]; exact Nat.div_le_self _ _
theorem fl_gt (a b : Int) (hb : 0 < b) : a < a.tdiv b * b ↔ a.tmod b < 0 := by
  have e := Int.mul_tdiv_add_tmod a b
  rw [Int.mul_comm] at e
  omega
set_option maxHeartbeats 4000000 in
theorem floor_any (a b : Int) (w : World) (a0 : -4611686018427387904 ≤ a) (a1 : a ≤ 4611686018427387904) (b0 : 0 < b) (b1 : b ≤ 1000) : Calls Tryd.prog 40 #[.int .i64 a, .int .i64 b] w fun e w' => e = .returned (.int .i64 (a / b)) ∧ w = w' := by
  have hf := fl_div a b b0
  have hb := fl_bd a b
  obtain ⟨q, hq⟩ : ∃ q, a.tdiv b = q := ⟨_, rfl⟩
  obtain ⟨r, hr⟩ : ∃ r, a.tmod b = r := ⟨_, rfl⟩
  obtain ⟨x, hx⟩ : ∃ x, a / b = x := ⟨_, rfl⟩
  have r0 : r < b := by rw [← hr]; exact (tmod_bd a b b0).2
  have r1 : -b < r := by rw [← hr]; exact (tmod_bd a b b0).1
  rw [hq, hr, hx] at hf
  rw [hq] at hb
  rw [hx]
  have wq : IntKind.i64.wrap q = q := IntWalk.i64_in _ (by omega)
  have wr : IntKind.i64.wrap r = r := IntWalk.i64_in _ (by omega)
  have wq1 : IntKind.i64.wrap (q - 1) = q - 1 := IntWalk.i64_in _ (by omega)
  have nz : ¬ b = 0 := by omega
  have nz1 : ¬ b = -1 := by omega
  by_cases h : r < 0
  · have d : decide (r < 0) = true := decide_eq_true h
    rw [if_pos h] at hf
    have HF := Lib.hid hf
    clear hf hx hb r0 r1
    go_enter Tryd.func40, Tryd.ntmps40
    go_wp2_with fail
    go_ret
    exact ⟨by rw [HF.out]; rfl, rfl⟩
  · have d : decide (r < 0) = false := decide_eq_false h
    rw [if_neg h] at hf
    have HF := Lib.hid hf
    clear hf hx hb r0 r1
    go_enter Tryd.func40, Tryd.ntmps40
    go_wp2_with fail
    go_ret
    exact ⟨by rw [HF.out]; rfl, rfl⟩
end Go.Proofs.YtabpnkpedcgcpaaDoor
