/- Layer 9: differences, squared lengths, turns. -/
import Derived.Test.YtcghjjfpjiacfaaDoorVW2
namespace Go.Proofs.YtcghjjfpjiacfaaDoor
open Go.ChangeShapes Go.WideShapes Go.ChangeAt Go.RowKit Go.Joins Go.Deep Go.Shelf
set_option linter.unusedVariables false

set_option maxHeartbeats 4000000 in
theorem diff_any (a b : Pt) (w : World) (ha : a.ok) (hb : b.ok) : Calls Tryd.prog 47 #[.agg #[.int .i64 a.x, .int .i64 a.y, .int .i64 a.z], .agg #[.int .i64 b.x, .int .i64 b.y, .int .i64 b.z]] w fun e w' => e = .returned (.agg #[.int .i64 (b.x - a.x), .int .i64 (b.y - a.y), .int .i64 (b.z - a.z)]) ∧ Below w.heap.size w w' := by
  obtain ⟨⟨a0, a1⟩, ⟨a2, a3⟩, a4, a5⟩ := ha
  obtain ⟨⟨b0, b1⟩, ⟨b2, b3⟩, b4, b5⟩ := hb
  obtain ⟨ax, ay, az⟩ := a
  obtain ⟨bx, by', bz⟩ := b
  simp only at *
  have wx : IntKind.i64.wrap (bx - ax) = bx - ax := IntWalk.i64_in _ (by omega)
  have wy : IntKind.i64.wrap (by' - ay) = by' - ay := IntWalk.i64_in _ (by omega)
  have wz : IntKind.i64.wrap (bz - az) = bz - az := IntWalk.i64_in _ (by omega)
  go_enter Tryd.func47, Tryd.ntmps47
  go_wp2_with fail
  refine bodyPost_ret (by simp [results, Tryd.results47, go_sem]; try rfl) rfl ?_
  exact ⟨rfl, by go_grown⟩

theorem PtR.two (W : World) (a b : Pt) (t : TypeId) : PtR (W.alloc (Obj.cells #[.int .i64 a.x, .int .i64 a.y, .int .i64 a.z, .int .i64 b.x, .int .i64 b.y, .int .i64 b.z] t)) (some ⟨W.heap.size, 0, none⟩) 2 (fun i => if i = 0 then a else b) := fun _ => ⟨_, 0, rfl, by simp, fun i hi => by
  have : i = 0 ∨ i = 1 := by omega
  rcases this with rfl | rfl <;> exact ⟨by simp [go_sem], by simp [go_sem], by simp [go_sem]⟩⟩
theorem PtR.three (W : World) (a b c : Pt) (t : TypeId) : PtR (W.alloc (Obj.cells #[.int .i64 a.x, .int .i64 a.y, .int .i64 a.z, .int .i64 b.x, .int .i64 b.y, .int .i64 b.z, .int .i64 c.x, .int .i64 c.y, .int .i64 c.z] t)) (some ⟨W.heap.size, 0, none⟩) 3 (fun i => if i = 0 then a else if i = 1 then b else c) := fun _ => ⟨_, 0, rfl, by simp, fun i hi => by
  have : i = 0 ∨ i = 1 ∨ i = 2 := by omega
  rcases this with rfl | rfl | rfl <;> exact ⟨by simp [go_sem], by simp [go_sem], by simp [go_sem]⟩⟩
theorem allV2 (a b : Pt) : allV 2 (fun i => if i = 0 then a else b) ↔ a.ok ∧ b.ok := by
  constructor
  · intro h
    exact ⟨h 0 (by omega), h 1 (by omega)⟩
  · intro h i hi
    have : i = 0 ∨ i = 1 := by omega
    rcases this with rfl | rfl
    · exact h.1
    · exact h.2
theorem allV3 (a b c : Pt) : allV 3 (fun i => if i = 0 then a else if i = 1 then b else c) ↔ a.ok ∧ b.ok ∧ c.ok := by
  constructor
  · intro h
    exact ⟨h 0 (by omega), h 1 (by omega), h 2 (by omega)⟩
  · intro h i hi
    have : i = 0 ∨ i = 1 ∨ i = 2 := by omega
    rcases this with rfl | rfl | rfl
    · exact h.1
    · exact h.2.1
    · exact h.2.2
theorem sq_bd {d : Int} (h0 : -2097152 ≤ d) (h1 : d ≤ 2097152) : 0 ≤ d * d ∧ d * d ≤ 4398046511104 := by
  rcases Int.le_total 0 d with h | h
  · exact ⟨Int.mul_nonneg h h, Int.mul_le_mul h1 h1 h (by omega)⟩
  · have := Int.mul_le_mul (show -d ≤ 2097152 by omega) (show -d ≤ 2097152 by omega) (by omega) (by omega)
    rw [Int.neg_mul_neg] at this
    exact ⟨Int.mul_nonneg_of_nonpos_of_nonpos h h, this⟩
theorem sqL_bd {a b : Pt} (ha : a.ok) (hb : b.ok) : 0 ≤ sqL a b ∧ sqL a b ≤ 13194139533312 := by
  obtain ⟨⟨a0, a1⟩, ⟨a2, a3⟩, a4, a5⟩ := ha
  obtain ⟨⟨b0, b1⟩, ⟨b2, b3⟩, b4, b5⟩ := hb
  have h1 := sq_bd (d := b.x - a.x) (by omega) (by omega)
  have h2 := sq_bd (d := b.y - a.y) (by omega) (by omega)
  have h3 := sq_bd (d := b.z - a.z) (by omega) (by omega)
  unfold sqL
  omega

/-- What Square returns. -/
def sqT (a b : Pt) : Int × Int := if a.ok ∧ b.ok then (sqL a b, 0) else (0, 1)
set_option maxRecDepth 100000 in
set_option maxHeartbeats 8000000 in
theorem square_any (a b : Pt) (w : World) (n e : Int) (h : sqT a b = (n, e)) : Calls Tryd.prog 40 #[.agg #[.int .i64 a.x, .int .i64 a.y, .int .i64 a.z], .agg #[.int .i64 b.x, .int .i64 b.y, .int .i64 b.z]] w fun r w' => r = .returned (.tuple #[.int .i64 n, .int .i64 e]) ∧ Below w.heap.size w w' := by
  obtain ⟨w1, hw1⟩ : ∃ W, W = (w.alloc (Obj.cells #[.int .i64 a.x, .int .i64 a.y, .int .i64 a.z] 23)).alloc (Obj.cells #[.int .i64 b.x, .int .i64 b.y, .int .i64 b.z] 23) := ⟨_, rfl⟩
  obtain ⟨w2, hw2⟩ : ∃ W, W = w1.alloc (Obj.cells #[.int .i64 a.x, .int .i64 a.y, .int .i64 a.z, .int .i64 b.x, .int .i64 b.y, .int .i64 b.z] 23) := ⟨_, rfl⟩
  obtain ⟨g, hg⟩ : ∃ x, x = w1.heap.size := ⟨_, rfl⟩
  have hA : B3 w1 w.heap.size a.x a.y a.z := by rw [hw1]; exact (B3.new _ _ _ _ _).alloc _
  have hB : B3 w1 (w.heap.size + 1) b.x b.y b.z := by
    have := B3.new (w.alloc (Obj.cells #[.int .i64 a.x, .int .i64 a.y, .int .i64 a.z] 23)) b.x b.y b.z 23
    rw [World.size_alloc, ← hw1] at this
    exact this
  have hb1 : Below w.heap.size w w1 := by rw [hw1]; exact below_on (below_alloc _ _) (below_alloc _ _)
  have hb2 : Below w1.heap.size w1 w2 := by rw [hw2]; exact below_alloc _ _
  have CV := areV_any (some ⟨g, 0, none⟩) 2 2 (fun i => if i = 0 then a else b) w2 (by rw [hw2, hg]; exact PtR.two _ _ _ _) (by omega)
  have HB2 := Lib.hid (below_on hb1 hb2)
  have HA := Lib.hid (hA.on hb2)
  have HBb := Lib.hid (hB.on hb2)
  have a0 := hA.c0
  have a1 := hA.c1
  have a2 := hA.c2
  have b0 := hB.c0
  have b1 := hB.c1
  have b2 := hB.c2
  have HN : Hid (w2 = w1.alloc (Obj.cells #[.int .i64 a.x, .int .i64 a.y, .int .i64 a.z, .int .i64 b.x, .int .i64 b.y, .int .i64 b.z] 23) ∧ g = w1.heap.size) := ⟨hw2, hg⟩
  have HS := Lib.hid (@sqL_bd a b)
  clear hA hB hb1 hb2 hw2 hg
  by_cases ok : a.ok ∧ b.ok
  · have hd : decide (allV 2 (fun i => if i = 0 then a else b)) = true := decide_eq_true ((allV2 a b).2 ok)
    rw [hd] at CV
    have C := Lib.hid CV
    have CD := fun W => Lib.hid (diff_any a b W ok.1 ok.2)
    unfold sqT at h
    rw [if_pos ok] at h
    injection h with h1 h2
    subst h2
    obtain ⟨⟨k0, k1⟩, ⟨k2, k3⟩, k4, k5⟩ := ok.1
    obtain ⟨⟨j0, j1⟩, ⟨j2, j3⟩, j4, j5⟩ := ok.2
    obtain ⟨dx, hdx⟩ : ∃ d, b.x - a.x = d := ⟨_, rfl⟩
    obtain ⟨dy, hdy⟩ : ∃ d, b.y - a.y = d := ⟨_, rfl⟩
    obtain ⟨dz, hdz⟩ : ∃ d, b.z - a.z = d := ⟨_, rfl⟩
    have hn : dx * dx + dy * dy + dz * dz = n := by rw [← h1, ← hdx, ← hdy, ← hdz]; rfl
    rw [hdx, hdy, hdz] at CD
    have q1 := sq_bd (d := dx) (by omega) (by omega)
    have q2 := sq_bd (d := dy) (by omega) (by omega)
    have q3 := sq_bd (d := dz) (by omega) (by omega)
    have s1 : IntKind.i64.wrap (dx * dx) = dx * dx := IntWalk.i64_in _ (by omega)
    have s2 : IntKind.i64.wrap (dy * dy) = dy * dy := IntWalk.i64_in _ (by omega)
    have s3 : IntKind.i64.wrap (dz * dz) = dz * dz := IntWalk.i64_in _ (by omega)
    have t2 : IntKind.i64.wrap (dx * dx + dy * dy) = dx * dx + dy * dy := IntWalk.i64_in _ (by omega)
    have t3 : IntKind.i64.wrap (dx * dx + dy * dy + dz * dz) = n := by rw [hn]; exact IntWalk.i64_in _ (by omega)
    have HH := Lib.hid hn
    clear q1 q2 q3 h1 k0 k1 k2 k3 k4 k5 j0 j1 j2 j3 j4 j5 hdx hdy hdz hn ok hd CV HS
    go_enter Tryd.func40, Tryd.ntmps40
    go_upto_region 1 with fail
    rw [← hw1]
    clear hw1
    go_wp2_with fail
    rw [← HN.out.1, ← HN.out.2]
    (with_reducible refine ((C.out).mono ?_))
    rintro r w3 ⟨rfl, hb3⟩
    have HB3 := Lib.hid (below_on HB2.out hb3)
    have hA3 := HA.out.on hb3
    have hB3 := HBb.out.on hb3
    clear hb3 a0 a1 a2 b0 b1 b2 HA HBb HB2 HN C
    have a0 := hA3.c0
    have a1 := hA3.c1
    have a2 := hA3.c2
    have b0 := hB3.c0
    have b1 := hB3.c1
    have b2 := hB3.c2
    clear hA3 hB3
    go_wp2_with (go_at_call 47; (with_reducible refine ((CD _).out.mono ?_)); rintro r w4 ⟨rfl, hb4⟩)
    have HB4 := Lib.hid (below_on HB3.out hb4)
    clear hb4 a0 a1 a2 b0 b1 b2 HB3 CD
    have i0 : ∀ w, (Instr.index 79 (.agg #[.int .i64 dx, .int .i64 dy, .int .i64 dz]) (.int .i64 0)).run Tryd.prog w = .ok (.int .i64 dx) w := fun _ => by kernel_rfl
    have i1 : ∀ w, (Instr.index 79 (.agg #[.int .i64 dx, .int .i64 dy, .int .i64 dz]) (.int .i64 1)).run Tryd.prog w = .ok (.int .i64 dy) w := fun _ => by kernel_rfl
    have i2 : ∀ w, (Instr.index 79 (.agg #[.int .i64 dx, .int .i64 dy, .int .i64 dz]) (.int .i64 2)).run Tryd.prog w = .ok (.int .i64 dz) w := fun _ => by kernel_rfl
    go_loopg [6, 17] 3 (fun mm s6 s17 wx => wx = w4 ∧ ((mm = 3 ∧ s6 = .int .i64 0 ∧ s17 = .int .i64 0) ∨ (mm = 2 ∧ s6 = .int .i64 (dx * dx) ∧ s17 = .int .i64 1) ∨ (mm = 1 ∧ s6 = .int .i64 (dx * dx + dy * dy) ∧ s17 = .int .i64 2) ∨ (mm = 0 ∧ s6 = .int .i64 n ∧ s17 = .int .i64 3)))
    case atStart => exact ⟨rfl, .inl ⟨rfl, rfl, rfl⟩⟩
    case round =>
      obtain ⟨rfl, hrel⟩ := hrel
      rcases hrel with ⟨rfl, rfl, rfl⟩ | ⟨rfl, rfl, rfl⟩ | ⟨rfl, rfl, rfl⟩ | ⟨rfl, rfl, rfl⟩
      · go_wp2_with fail
        go_roundg 2
        case measure => omega
        case rel => exact ⟨rfl, .inr (.inl ⟨rfl, by simp, rfl⟩)⟩
      · go_wp2_with fail
        go_roundg 1
        case measure => omega
        case rel => exact ⟨rfl, .inr (.inr (.inl ⟨rfl, by simp, rfl⟩))⟩
      · go_wp2_with fail
        go_roundg 0
        case measure => omega
        case rel => exact ⟨rfl, .inr (.inr (.inr ⟨rfl, by simp, rfl⟩))⟩
      · go_wp2_with fail
        go_ret2
        exact ⟨rfl, HB4.out⟩
  · have hd : decide (allV 2 (fun i => if i = 0 then a else b)) = false := decide_eq_false fun hh => ok ((allV2 a b).1 hh)
    rw [hd] at CV
    have C := Lib.hid CV
    unfold sqT at h
    rw [if_neg ok] at h
    injection h with h1 h2
    subst h1
    subst h2
    clear ok hd CV HS
    go_enter Tryd.func40, Tryd.ntmps40
    go_upto_region 1 with fail
    rw [← hw1]
    clear hw1
    go_wp2_with fail
    rw [← HN.out.1, ← HN.out.2]
    (with_reducible refine ((C.out).mono ?_))
    rintro r w3 ⟨rfl, hb3⟩
    have HB3 := Lib.hid (below_on HB2.out hb3)
    clear hb3 a0 a1 a2 b0 b1 b2 HA HBb HB2 HN C
    go_wp2_with fail
    go_ret2
    exact ⟨rfl, HB3.out⟩
end Go.Proofs.YtcghjjfpjiacfaaDoor
