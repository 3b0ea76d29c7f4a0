/- Layer 9: turns; quotients that are rounded down. -/
import Derived.Test.YtcghjjfpjiacfaaDoorVW4
namespace Go.Proofs.YtcghjjfpjiacfaaDoor
open Go.ChangeShapes Go.WideShapes Go.ChangeAt Go.RowKit Go.Joins Go.Deep Go.Shelf
set_option linter.unusedVariables false

theorem two_boxes (w : World) (a b : Pt) (t1 t2 : TypeId) (W : World) (h : W = (w.alloc (Obj.cells #[.int .i64 a.x, .int .i64 a.y, .int .i64 a.z] t1)).alloc (Obj.cells #[.int .i64 b.x, .int .i64 b.y, .int .i64 b.z] t2)) :
    Below w.heap.size w W ∧ B3 W w.heap.size a.x a.y a.z ∧ B3 W (w.heap.size + 1) b.x b.y b.z := by
  rw [h]
  refine ⟨below_on (below_alloc _ _) (below_alloc _ _), (B3.new _ _ _ _ _).alloc _, ?_⟩
  have := B3.new (w.alloc (Obj.cells #[.int .i64 a.x, .int .i64 a.y, .int .i64 a.z] t1)) b.x b.y b.z t2
  rwa [World.size_alloc] at this
theorem three_boxes (w : World) (a b c : Pt) (t1 t2 t3 : TypeId) (W : World) (h : W = ((w.alloc (Obj.cells #[.int .i64 a.x, .int .i64 a.y, .int .i64 a.z] t1)).alloc (Obj.cells #[.int .i64 b.x, .int .i64 b.y, .int .i64 b.z] t2)).alloc (Obj.cells #[.int .i64 c.x, .int .i64 c.y, .int .i64 c.z] t3)) :
    Below w.heap.size w W ∧ B3 W w.heap.size a.x a.y a.z ∧ B3 W (w.heap.size + 1) b.x b.y b.z ∧ B3 W (w.heap.size + 1 + 1) c.x c.y c.z := by
  obtain ⟨h1, h2, h3⟩ := two_boxes w a b t1 t2 _ rfl
  rw [h]
  refine ⟨below_on h1 (below_alloc _ _), h2.alloc _, h3.alloc _, ?_⟩
  have := B3.new ((w.alloc (Obj.cells #[.int .i64 a.x, .int .i64 a.y, .int .i64 a.z] t1)).alloc (Obj.cells #[.int .i64 b.x, .int .i64 b.y, .int .i64 b.z] t2)) c.x c.y c.z t3
  rwa [World.size_alloc, World.size_alloc] at this
theorem cmp_sg (x y : Int) : Lib.compareInt x y = sgI (x - y) := by
  unfold Lib.compareInt sgI
  split <;> split <;> first | omega | (split <;> omega) | rfl | (split <;> split <;> omega)
theorem tn_bd {d e : Int} (h0 : -2097152 ≤ d) (h1 : d ≤ 2097152) (g0 : -2097152 ≤ e) (g1 : e ≤ 2097152) : -4398046511104 ≤ d * e ∧ d * e ≤ 4398046511104 := by
  have h : (d * e).natAbs ≤ 2097152 * 2097152 := by
    rw [Int.natAbs_mul]
    exact Nat.mul_le_mul (by omega) (by omega)
  omega
set_option maxRecDepth 100000 in
set_option maxHeartbeats 8000000 in
theorem turn_any (a b c : Pt) (w : World) (ha : a.ok) (hb : b.ok) (hc : c.ok) : Calls Tryd.prog 87 #[.agg #[.int .i64 a.x, .int .i64 a.y, .int .i64 a.z], .agg #[.int .i64 b.x, .int .i64 b.y, .int .i64 b.z], .agg #[.int .i64 c.x, .int .i64 c.y, .int .i64 c.z]] w fun r w' => r = .returned (.int .i64 (sgI (tnI a b c))) ∧ Below w.heap.size w w' := by
  obtain ⟨w1, hw1⟩ : ∃ W, W = ((w.alloc (Obj.cells #[.int .i64 a.x, .int .i64 a.y, .int .i64 a.z] 23)).alloc (Obj.cells #[.int .i64 b.x, .int .i64 b.y, .int .i64 b.z] 23)).alloc (Obj.cells #[.int .i64 c.x, .int .i64 c.y, .int .i64 c.z] 23) := ⟨_, rfl⟩
  obtain ⟨hb1, hA, hB, hC⟩ := three_boxes w a b c _ _ _ w1 hw1
  obtain ⟨⟨a0, a1⟩, ⟨a2, a3⟩, a4, a5⟩ := ha
  obtain ⟨⟨b0, b1⟩, ⟨b2, b3⟩, b4, b5⟩ := hb
  obtain ⟨⟨c0, c1⟩, ⟨c2, c3⟩, c4, c5⟩ := hc
  obtain ⟨x, hx⟩ : ∃ x, x = (b.x - a.x) * (c.y - a.y) := ⟨_, rfl⟩
  obtain ⟨y, hy⟩ : ∃ x, x = (b.y - a.y) * (c.x - a.x) := ⟨_, rfl⟩
  obtain ⟨r, hr⟩ : ∃ r, r = sgI (tnI a b c) := ⟨_, rfl⟩
  have hcr : Lib.compareInt x y = r := by rw [cmp_sg, hr, hx, hy]; rfl
  have w1' : IntKind.i64.wrap (b.x - a.x) = b.x - a.x := IntWalk.i64_in _ (by omega)
  have w2' : IntKind.i64.wrap (c.y - a.y) = c.y - a.y := IntWalk.i64_in _ (by omega)
  have w3' : IntKind.i64.wrap (b.y - a.y) = b.y - a.y := IntWalk.i64_in _ (by omega)
  have w4' : IntKind.i64.wrap (c.x - a.x) = c.x - a.x := IntWalk.i64_in _ (by omega)
  have bx := tn_bd (d := b.x - a.x) (e := c.y - a.y) (by omega) (by omega) (by omega) (by omega)
  have by2 := tn_bd (d := b.y - a.y) (e := c.x - a.x) (by omega) (by omega) (by omega) (by omega)
  have w5' : IntKind.i64.wrap ((b.x - a.x) * (c.y - a.y)) = x := by rw [hx]; exact IntWalk.i64_in _ (by omega)
  have w6' : IntKind.i64.wrap ((b.y - a.y) * (c.x - a.x)) = y := by rw [hy]; exact IntWalk.i64_in _ (by omega)
  have C := fun W => Lib.hid ((Tryd.cmp_Compare_int x y W).mono fun e w' ⟨a, b⟩ => (⟨a, b.symm⟩ : e = Ending.returned (.int .i64 (Lib.compareInt x y)) ∧ W = w'))
  rw [hcr] at C
  rw [← hr]
  have HB := Lib.hid hb1
  have p0 := hA.c0
  have p1 := hA.c1
  have q0 := hB.c0
  have q1 := hB.c1
  have r0 := hC.c0
  have r1 := hC.c1
  clear hA hB hC hb1 a0 a1 a2 a3 a4 a5 b0 b1 b2 b3 b4 b5 c0 c1 c2 c3 c4 c5 hx hy hcr hr bx by2
  go_enter Tryd.func87, Tryd.ntmps87
  go_upto_region 1 with fail
  rw [← hw1]
  clear hw1
  go_wp2_with (go_at_call 110; (with_reducible refine ((C _).out.mono ?_)); rintro e w2 ⟨rfl, rfl⟩)
  go_ret
  exact ⟨rfl, HB.out⟩

/-- What Turn returns. -/
def tuT (a b c : Pt) : Int × Int := if a.ok ∧ b.ok ∧ c.ok then (sgI (tnI a b c), 0) else (0, 1)
theorem tmod_bd (a b : Int) (hb : 0 < b) : -b < a.tmod b ∧ a.tmod b < b := by
  have h : (a.tmod b).natAbs < b.natAbs := by rw [Int.natAbs_tmod]; exact Nat.mod_lt _ (by omega)
  omega
theorem fl_div (a b : Int) (hb : 0 < b) : a / b = if a.tmod b < 0 then a.tdiv b - 1 else a.tdiv b := by
  have e := Int.mul_tdiv_add_tmod a b
  have hl := tmod_bd a b hb
  split
  · refine ((Int.ediv_emod_unique (r := a.tmod b + b) hb).2 ⟨?_, by omega, by omega⟩).1
    rw [Int.mul_sub]; omega
  · refine ((Int.ediv_emod_unique (r := a.tmod b) hb).2 ⟨?_, by omega, by omega⟩).1
    omega
theorem fl_bd (a b : Int) : (a.tdiv b).natAbs ≤ a.natAbs := by rw [Int.natAbs_tdiv]; exact Nat.div_le_self _ _
theorem fl_gt (a b : Int) (hb : 0 < b) : a < a.tdiv b * b ↔ a.tmod b < 0 := by
  have e := Int.mul_tdiv_add_tmod a b
  rw [Int.mul_comm] at e
  omega
end Go.Proofs.YtcghjjfpjiacfaaDoor
