/- Layer 9: the reference's points. -/
import Derived.Test.YtcghjjfpjiacfaaDoorVC
import Derived.Test.YtcghjjfpjiacfaaDoorVW6
namespace Go.Proofs.YtcghjjfpjiacfaaDoor
open Go.ChangeShapes Go.WideShapes Go.ChangeAt Go.RowKit Go.Joins Go.Deep Go.Shelf
set_option linter.unusedVariables false

theorem rwith_any (n : Int) (w : World) : Calls Tryd.prog 53 #[.int .i64 n] w fun e w' => e = .returned (.bool (okB n)) ∧ w = w' := by
  by_cases h : -1048576 ≤ n
  · have d : decide (-1048576 ≤ n) = true := decide_eq_true h
    by_cases h2 : n ≤ 1048576
    · have d2 : decide (n ≤ 1048576) = true := decide_eq_true h2
      have d3 : Hid (okB n = true) := decide_eq_true ⟨h, h2⟩
      go_enter Tryd.func53, Tryd.ntmps53
      go_wp2
      go_ret
      exact ⟨by rw [d3.out]; rfl, rfl⟩
    · have d2 : decide (n ≤ 1048576) = false := decide_eq_false h2
      have d3 : Hid (okB n = false) := decide_eq_false fun q => h2 q.2
      go_enter Tryd.func53, Tryd.ntmps53
      go_wp2
      go_ret
      exact ⟨by rw [d3.out]; rfl, rfl⟩
  · have d : decide (-1048576 ≤ n) = false := decide_eq_false h
    have d3 : Hid (okB n = false) := decide_eq_false fun q => h q.1
    go_enter Tryd.func53, Tryd.ntmps53
    go_wp2
    go_ret
    exact ⟨by rw [d3.out]; rfl, rfl⟩
set_option maxHeartbeats 4000000 in
theorem rVal_any (p : Pt) (w : World) : Calls Tryd.prog 14 #[.agg #[.int .i64 p.x, .int .i64 p.y, .int .i64 p.z]] w fun e w' => e = .returned (.bool (vdB p)) ∧ Below w.heap.size w w' := by
  have C0 := fun W => Lib.hid (rwith_any p.x W)
  have C1 := fun W => Lib.hid (rwith_any p.y W)
  have C2 := fun W => Lib.hid (rwith_any p.z W)
  have hv : vdB p = (okB p.x && (okB p.y && okB p.z)) := by
    unfold vdB Pt.ok okB
    by_cases h1 : okc p.x <;> by_cases h2 : okc p.y <;> by_cases h3 : okc p.z <;> simp [h1, h2, h3]
  obtain ⟨v, hvv⟩ : ∃ v, vdB p = v := ⟨_, rfl⟩
  rw [hvv] at hv
  rw [hvv]
  clear hvv
  obtain ⟨t0, ht0⟩ : ∃ t, okB p.x = t := ⟨_, rfl⟩
  obtain ⟨t1, ht1⟩ : ∃ t, okB p.y = t := ⟨_, rfl⟩
  obtain ⟨t2, ht2⟩ : ∃ t, okB p.z = t := ⟨_, rfl⟩
  rw [ht0] at C0 hv
  rw [ht1] at C1 hv
  rw [ht2] at C2 hv
  clear ht0 ht1 ht2
  have HV := Lib.hid hv
  clear hv
  cases t0
  · go_enter Tryd.func14, Tryd.ntmps14
    go_wp2_with (first
      | (go_at_call 53; (with_reducible refine ((C0 _).out.mono ?_)); rintro e w2 ⟨rfl, rfl⟩))
    go_ret
    exact ⟨by rw [HV.out]; rfl, by go_grown⟩
  · cases t1
    · go_enter Tryd.func14, Tryd.ntmps14
      go_wp2_with (first
        | (go_at_call 53; (with_reducible refine ((C0 _).out.mono ?_)); rintro e w2 ⟨rfl, rfl⟩)
        | (go_at_call 53; (with_reducible refine ((C1 _).out.mono ?_)); rintro e w2 ⟨rfl, rfl⟩))
      go_ret
      exact ⟨by rw [HV.out]; rfl, by go_grown⟩
    · go_enter Tryd.func14, Tryd.ntmps14
      go_wp2_with (first
        | (go_at_call 53; (with_reducible refine ((C0 _).out.mono ?_)); rintro e w2 ⟨rfl, rfl⟩)
        | (go_at_call 53; (with_reducible refine ((C1 _).out.mono ?_)); rintro e w2 ⟨rfl, rfl⟩)
        | (go_at_call 53; (with_reducible refine ((C2 _).out.mono ?_)); rintro e w2 ⟨rfl, rfl⟩))
      go_ret
      exact ⟨by rw [HV.out]; simp, by go_grown⟩
set_option maxHeartbeats 4000000 in
theorem rMin_any (a b : Pt) (w : World) (ha : a.ok) (hb : b.ok) : Calls Tryd.prog 51 #[.agg #[.int .i64 a.x, .int .i64 a.y, .int .i64 a.z], .agg #[.int .i64 b.x, .int .i64 b.y, .int .i64 b.z]] w fun e w' => e = .returned (.agg #[.int .i64 (a.sub b).x, .int .i64 (a.sub b).y, .int .i64 (a.sub b).z]) ∧ Below w.heap.size w w' := by
  obtain ⟨⟨a0, a1⟩, ⟨a2, a3⟩, a4, a5⟩ := ha
  obtain ⟨⟨b0, b1⟩, ⟨b2, b3⟩, b4, b5⟩ := hb
  obtain ⟨ax, ay, az⟩ := a
  obtain ⟨bx, by', bz⟩ := b
  unfold Pt.sub
  simp only at *
  have wx : IntKind.i64.wrap (ax - bx) = ax - bx := IntWalk.i64_in _ (by omega)
  have wy : IntKind.i64.wrap (ay - by') = ay - by' := IntWalk.i64_in _ (by omega)
  have wz : IntKind.i64.wrap (az - bz) = az - bz := IntWalk.i64_in _ (by omega)
  go_enter Tryd.func51, Tryd.ntmps51
  go_wp2_with fail
  refine bodyPost_ret (by simp [results, Tryd.results51, go_sem]; try rfl) rfl ?_
  exact ⟨rfl, by go_grown⟩
theorem sub_bd {a b : Pt} (ha : a.ok) (hb : b.ok) : (-2097152 ≤ (a.sub b).x ∧ (a.sub b).x ≤ 2097152) ∧ (-2097152 ≤ (a.sub b).y ∧ (a.sub b).y ≤ 2097152) ∧ (-2097152 ≤ (a.sub b).z ∧ (a.sub b).z ≤ 2097152) := by
  obtain ⟨⟨a0, a1⟩, ⟨a2, a3⟩, a4, a5⟩ := ha
  obtain ⟨⟨b0, b1⟩, ⟨b2, b3⟩, b4, b5⟩ := hb
  show (_ ≤ a.x - b.x ∧ a.x - b.x ≤ _) ∧ (_ ≤ a.y - b.y ∧ a.y - b.y ≤ _) ∧ (_ ≤ a.z - b.z ∧ a.z - b.z ≤ _)
  omega
theorem cl_of_fl {n u v : Int} (hu : FlR n u) (hv : ClR n v) : v = if u * u = n then u else u + 1 := by
  have k1 : ∀ a b : Int, 0 ≤ a → a < b → a * a < b * b := fun a b h h2 => by
    have := Int.mul_lt_mul_of_pos_right h2 (show 0 < b by omega)
    have := Int.mul_le_mul_of_nonneg_left (show a ≤ b by omega) h
    omega
  have hu0 := hu.u0
  have hv0 := hv.u0
  have hle := hu.le
  have hgt := hu.gt
  have hge := hv.ge
  split
  · rename_i e
    rcases Int.lt_trichotomy v u with h | h | h
    · have := k1 v u hv0 h; omega
    · exact h
    · rcases hv.lt with z | z
      · omega
      · by_cases e2 : v - 1 = u
        · rw [e2] at z; omega
        · have := k1 u (v - 1) hu0 (by omega); omega
  · rename_i e
    rcases Int.lt_trichotomy v (u + 1) with h | h | h
    · by_cases e2 : v = u
      · rw [e2] at hge; omega
      · have := k1 v u hv0 (by omega); omega
    · exact h
    · rcases hv.lt with z | z
      · omega
      · by_cases e2 : v - 1 = u + 1
        · rw [e2] at z; omega
        · have := k1 (u + 1) (v - 1) (by omega) (by omega); omega
end Go.Proofs.YtcghjjfpjiacfaaDoor
