/- Layer 9: the reference's points. -/
import Derived.Test.YtabpnkpedcgcpaaVC
import Derived.Test.YtabpnkpedcgcpaaVW6
namespace Go.Proofs.Ytabpnkpedcgcpaa
open Go.ChangeShapes Go.WideShapes Go.ChangeAt Go.RowKit Go.Joins Go.Deep Go.Shelf
set_option linter.unusedVariables false

theorem rwith_any (n : Int) (w : World) : Calls Try.prog 56 #[.int .i64 n] w fun e w' => e = .returned (.bool (okB n)) ∧ w = w' := by
  by_cases h : -1048576 ≤ n
  · have d : decide (-1048576 ≤ n) = true := decide_eq_true h
    by_cases h2 : n ≤ 1048576
    · have d2 : decide (n ≤ 1048576) = true := decide_eq_true h2
      have d3 : Hid (okB n = true) := decide_eq_true ⟨h, h2⟩
      go_enter Try.func56, Try.ntmps56
      go_wp2
      go_ret
      exact ⟨by rw [d3.out]; rfl, rfl⟩
    · have d2 : decide (n ≤ 1048576) = false := decide_eq_false h2
      have d3 : Hid (okB n = false) := decide_eq_false fun q => h2 q.2
      go_enter Try.func56, Try.ntmps56
      go_wp2
      go_ret
      exact ⟨by rw [d3.out]; rfl, rfl⟩
  · have d : decide (-1048576 ≤ n) = false := decide_eq_false h
    have d3 : Hid (okB n = false) := decide_eq_false fun q => h q.1
    go_enter Try.func56, Try.ntmps56
    go_wp2
    go_ret
    exact ⟨by rw [d3.out]; rfl, rfl⟩
set_option maxHeartbeats 4000000 in
theorem rVal_any (p : Pt) (w : World) : Calls Try.prog 25 #[.agg #[.int .i64 p.x, .int .i64 p.y, .int .i64 p.z]] w fun e w' => e = .returned (.bool (vdB p)) ∧ Below w.heap.size w w' := by
  have C0 := fun W => Lib.hid (rwith_any p.x W)
  have C1 := fun W => Lib.hid (rwith_any p.y W)
  have C2 := fun W => Lib.hid (rwith_any p.z W)
  have hv : vdB p = (okB p.x && (okB p.y && okB p.z)) := by
    unfold vdB Pt.ok okB
    by_cases h1 : okc p.x <;> by_cases h2 : okc p.y <;> by_cases h3 : okc p.z <;> simp [h1, h2, h3]
  obtain ⟨v, hvv⟩ : ∃ v, vdB p = v := ⟨_, rfl⟩
  rw [hvv] at hv
  rw [hvv]
  clear hvv
  obtain ⟨t0, ht0⟩ : ∃ t, okB p.x = t := ⟨_, rfl⟩
  obtain ⟨t1, ht1⟩ : ∃ t, okB p.y = t := ⟨_, rfl⟩
  obtain ⟨t2, ht2⟩ : ∃ t, okB p.z = t := ⟨_, rfl⟩
  rw [ht0] at C0 hv
  rw [ht1] at C1 hv
  rw [ht2] at C2 hv
  clear ht0 ht1 ht2
  have HV := Lib.hid hv
  clear hv
  cases t0
  · go_enter Try.func25, Try.ntmps25
    go_wp2_with (first
      | (go_at_call 56; (with_reducible refine ((C0 _).out.mono ?_)); rintro e w2 ⟨rfl, rfl⟩))
    go_ret
    exact ⟨by rw [HV.out]; rfl, by go_grown⟩
  · cases t1
    · go_enter Try.func25, Try.ntmps25
      go_wp2_with (first
        | (go_at_call 56; (with_reducible refine ((C0 _).out.mono ?_)); rintro e w2 ⟨rfl, rfl⟩)
        | (go_at_call 56; (with_reducible refine ((C1 _).out.mono ?_)); rintro e w2 ⟨rfl, rfl⟩))
      go_ret
      exact ⟨by rw [HV.out]; rfl, by go_grown⟩
    · go_enter Try.func25, Try.ntmps25
      go_wp2_with (first
        | (go_at_call 56; (with_reducible refine ((C0 _).out.mono ?_)); rintro e w2 ⟨rfl, rfl⟩)
        | (go_at_call 56; (with_reducible refine ((C1 _).out.mono ?_)); rintro e w2 ⟨rfl, rfl⟩)
        | (go_at_call 56; (with_reducible refine ((C2 _).out.mono ?_)); rintro e w2 ⟨rfl, rfl⟩))
      go_ret
      exact ⟨by rw [HV.out]; simp, by go_grown⟩
set_option maxHeartbeats 4000000 in
theorem rMin_any (a b : Pt) (w : World) (ha : a.ok) (hb : b.ok) : Calls Try.prog 57 #[.agg #[.int .i64 a.x, .int .i64 a.y, .int .i64 a.z], .agg #[.int .i64 b.x, .int .i64 b.y, .int .i64 b.z]] w fun e w' => e = .returned (.agg #[.int .i64 (a.sub b).x, .int .i64 (a.sub b).y, .int .i64 (a.sub b).z]) ∧ Below w.heap.size w w' := by
  obtain ⟨⟨a0, a1⟩, ⟨a2, a3⟩, a4, a5⟩ := ha
  obtain ⟨⟨b0, b1⟩, ⟨b2, b3⟩, b4, b5⟩ := hb
  obtain ⟨ax, ay, az⟩ := a
  obtain ⟨bx, by', bz⟩ := b
  unfold Pt.sub
  simp only at *
  have wx : IntKind.i64.wrap (ax - bx) = ax - bx := IntWalk.i64_in _ (by omega)
  have wy : IntKind.i64.wrap (ay - by') = ay - by' := IntWalk.i64_in _ (by omega)
  have wz : IntKind.i64.wrap (az - bz) = az - bz := IntWalk.i64_in _ (by omega)
  go_enter Try.func57, Try.ntmps57
  go_wp2_with fail
  refine bodyPost_ret (by simp [results, Try.results57, go_sem]; try rfl) rfl ?_
  exact ⟨rfl, by go_grown⟩
theorem sub_bd {a b : Pt} (ha : a.ok) (hb : b.ok) : (-2097152 ≤ (a.sub b).x ∧ (a.sub b).x ≤ 2097152) ∧ (-2097152 ≤ (a.sub b).y ∧ (a.sub b).y ≤ 2097152) ∧ (-2097152 ≤ (a.sub b).z ∧ (a.sub b).z ≤ 2097152) := by
  obtain ⟨⟨a0, a1⟩, ⟨a2, a3⟩, a4, a5⟩ := ha
  obtain ⟨⟨b0, b1⟩, ⟨b2, b3⟩, b4, b5⟩ := hb
  show (_ ≤ a.x - b.x ∧ a.x - b.x ≤ _) ∧ (_ ≤ a.y - b.y ∧ a.y - b.y ≤ _) ∧ (_ ≤ a.z - b.z ∧ a.z - b.z ≤ _)
  omega
set_option maxRecDepth 100000 in
set_option maxHeartbeats 8000000 in
theorem rSq_any (a b : Pt) (w : World) (ha : a.ok) (hb : b.ok) : Calls Try.prog 26 #[.agg #[.int .i64 a.x, .int .i64 a.y, .int .i64 a.z], .agg #[.int .i64 b.x, .int .i64 b.y, .int .i64 b.z]] w fun e w' => e = .returned (.int .i64 (sqL a b)) ∧ Below w.heap.size w w' := by
  obtain ⟨w1, hw1⟩ : ∃ W, W = (w.alloc (Obj.cells #[.int .i64 a.x, .int .i64 a.y, .int .i64 a.z] 41)).alloc (Obj.cells #[.int .i64 b.x, .int .i64 b.y, .int .i64 b.z] 41) := ⟨_, rfl⟩
  obtain ⟨hb1, hA, hB⟩ := two_boxes w a b _ _ w1 hw1
  have CM := fun W => Lib.hid (rMin_any a b W ha hb)
  have hs : sqL a b = (a.sub b).x * (a.sub b).x + (a.sub b).y * (a.sub b).y + (a.sub b).z * (a.sub b).z := by unfold sqL Pt.sub; grind
  obtain ⟨q1, q2, q3⟩ := sub_bd ha hb
  obtain ⟨d, hd⟩ : ∃ d, a.sub b = d := ⟨_, rfl⟩
  rw [hd] at CM hs q1 q2 q3
  have e1 := sq_bd q1.1 q1.2
  have e2 := sq_bd q2.1 q2.2
  have e3 := sq_bd q3.1 q3.2
  obtain ⟨n, hn⟩ : ∃ n, sqL a b = n := ⟨_, rfl⟩
  rw [hn] at hs ⊢
  have s1 : IntKind.i64.wrap (d.x * d.x) = d.x * d.x := IntWalk.i64_in _ (by omega)
  have s2 : IntKind.i64.wrap (d.y * d.y) = d.y * d.y := IntWalk.i64_in _ (by omega)
  have s3 : IntKind.i64.wrap (d.z * d.z) = d.z * d.z := IntWalk.i64_in _ (by omega)
  have t2 : IntKind.i64.wrap (d.x * d.x + d.y * d.y) = d.x * d.x + d.y * d.y := IntWalk.i64_in _ (by omega)
  have t3 : IntKind.i64.wrap (d.x * d.x + d.y * d.y + d.z * d.z) = n := by rw [hs]; exact IntWalk.i64_in _ (by omega)
  have HB := Lib.hid hb1
  have a0 := hA.c0
  have a1 := hA.c1
  have a2 := hA.c2
  have b0 := hB.c0
  have b1 := hB.c1
  have b2 := hB.c2
  clear hA hB hb1 hd hs hn q1 q2 q3 e1 e2 e3 ha hb
  go_enter Try.func26, Try.ntmps26
  go_upto_region 1 with fail
  rw [← hw1]
  clear hw1
  go_upto_region 2 with (go_at_call 57; (with_reducible refine ((CM _).out.mono ?_)); rintro e w2 ⟨rfl, hb2⟩; have HB2 := Lib.hid (below_on HB.out hb2); clear hb2 a0 a1 a2 b0 b1 b2)
  have HB3 := Lib.hid (below_on HB2.out (below_alloc w2 (Obj.cells #[.int .i64 d.x, .int .i64 d.y, .int .i64 d.z] 41)))
  have hD := B3.new w2 d.x d.y d.z 41
  obtain ⟨w3, hw3⟩ : ∃ W, W = w2.alloc (Obj.cells #[.int .i64 d.x, .int .i64 d.y, .int .i64 d.z] 41) := ⟨_, rfl⟩
  rw [← hw3] at HB3 hD
  rw [← hw3]
  obtain ⟨db, hdb⟩ : ∃ x, x = w2.heap.size := ⟨_, rfl⟩
  rw [← hdb] at hD
  rw [← hdb]
  have p0 := hD.c0
  have p1 := hD.c1
  have p2 := hD.c2
  clear hw3 hD hdb HB HB2 CM
  go_wp2_with fail
  go_ret
  exact ⟨rfl, HB3.out⟩
theorem cl_of_fl {n u v : Int} (hu : FlR n u) (hv : ClR n v) : v = if u * u = n then u else u + 1 := by
  have k1 : ∀ a b : Int, 0 ≤ a → a < b → a * a < b * b := fun a b h h2 => by
    have := Int.mul_lt_mul_of_pos_right h2 (show 0 < b by omega)
    have := Int.mul_le_mul_of_nonneg_left (show a ≤ b by omega) h
    omega
  have hu0 := hu.u0
  have hv0 := hv.u0
  have hle := hu.le
  have hgt := hu.gt
  have hge := hv.ge
  split
  · rename_i e
    rcases Int.lt_trichotomy v u with h | h | h
    · have := k1 v u hv0 h; omega
    · exact h
    · rcases hv.lt with z | z
      · omega
      · by_cases e2 : v - 1 = u
        · rw [e2] at z; omega
        · have := k1 u (v - 1) hu0 (by omega); omega
  · rename_i e
    rcases Int.lt_trichotomy v (u + 1) with h | h | h
    · by_cases e2 : v = u
      · rw [e2] at hge; omega
      · have := k1 v u hv0 (by omega); omega
    · exact h
    · rcases hv.lt with z | z
      · omega
      · by_cases e2 : v - 1 = u + 1
        · rw [e2] at z; omega
        · have := k1 (u + 1) (v - 1) (by omega) (by omega); omega
set_option maxRecDepth 100000 in
set_option maxHeartbeats 8000000 in
theorem rRt_any (n u v : Int) (w : World) (hu : FlR n u) (hv : ClR n v) (n1 : n ≤ 1152921504606846976) : Calls Try.prog 23 #[.int .i64 n] w fun e w' => e = .returned (.agg #[.int .i64 u, .int .i64 v]) ∧ Below w.heap.size w w' := by
  have hc := Lib.hid (cl_of_fl hu hv)
  have HU := Lib.hid hu
  have hu0 := hu.u0
  have hu1 := hu.u1
  clear hu hv
  obtain ⟨w1, hw1⟩ : ∃ W, W = w.alloc (Obj.cells #[.int .i64 0, .int .i64 0] 45) := ⟨_, rfl⟩
  have hO : OB w1 w.heap.size (.int .i64 0) (.int .i64 0) := by rw [hw1]; exact OB.new _ _ _ _
  have HB := Lib.hid (show Below w.heap.size w w1 by rw [hw1]; exact below_alloc _ _)
  have HO := Lib.hid hO
  clear hO
  obtain ⟨sb, hsb⟩ : ∃ x, x = w.heap.size := ⟨_, rfl⟩
  have HS : Hid (sb = w.heap.size ∧ w1 = w.alloc (Obj.cells #[.int .i64 0, .int .i64 0] 45)) := ⟨hsb, hw1⟩
  rw [← hsb] at HO
  have lo : w.heap.size ≤ sb := by omega
  clear hw1 hsb
  go_enter Try.func23, Try.ntmps23
  go_upto_region 1 with fail
  rw [← HS.out.2, ← HS.out.1]
  clear HS
  go_wp2_with fail
  go_loopg [3, 4] 1073741825 (fun mm s3 s4 wx => wx = w1 ∧ ∃ l h : Int, s3 = .int .i64 l ∧ s4 = .int .i64 h ∧ 0 ≤ l ∧ l ≤ u ∧ u < h ∧ h ≤ 1073741825 ∧ mm = (h - l).toNat)
  case atStart => exact ⟨rfl, 0, 1073741825, rfl, rfl, by omega, hu0, by omega, by omega, by omega⟩
  case round =>
    obtain ⟨rfl, l, h, rfl, rfl, l0, l1, h0, h1, rfl⟩ := hrel
    have wd : IntKind.i64.wrap (h - l) = h - l := IntWalk.i64_in _ (by omega)
    by_cases hlt : 1 < h - l
    · have dd : decide (1 < h - l) = true := decide_eq_true hlt
      obtain ⟨m, hm⟩ : ∃ m, (l + h).tdiv 2 = m := ⟨_, rfl⟩
      have hm2 : m = (l + h) / 2 := by rw [← hm]; exact Int.tdiv_eq_ediv_of_nonneg (by omega)
      have ws : IntKind.i64.wrap (l + h) = l + h := IntWalk.i64_in _ (by omega)
      have wm : IntKind.i64.wrap m = m := IntWalk.i64_in _ (by omega)
      have bm := Int.mul_le_mul (show m ≤ 1073741824 by omega) (show m ≤ 1073741824 by omega) (by omega) (by omega)
      have bm0 := Int.mul_nonneg (show 0 ≤ m by omega) (show 0 ≤ m by omega)
      obtain ⟨q, hq⟩ : ∃ q, m * m = q := ⟨_, rfl⟩
      rw [hq] at bm bm0
      have wq : IntKind.i64.wrap (m * m) = q := by rw [hq]; exact IntWalk.i64_in _ (by omega)
      by_cases hle : q ≤ n
      · have dq : decide (q ≤ n) = true := decide_eq_true hle
        have hmu : m ≤ u := by
          refine Decidable.byContradiction fun hn => ?_
          have := sq_le (a := u + 1) (b := m) (by omega) (by omega)
          have := HU.out.gt
          omega
        have F : Hid (0 ≤ m ∧ m ≤ u ∧ (h - m).toNat < (h - l).toNat) := ⟨by omega, hmu, by omega⟩
        clear hm2 bm bm0 hq hle hmu
        go_wp2_with fail
        go_roundg (h - m).toNat
        case measure => exact F.out.2.2
        case rel => exact ⟨rfl, m, h, rfl, rfl, F.out.1, F.out.2.1, h0, h1, rfl⟩
      · have dq : decide (q ≤ n) = false := decide_eq_false hle
        have hmu : u < m := by
          refine Decidable.byContradiction fun hn => ?_
          have := sq_le (a := m) (b := u) (by omega) (by omega)
          have := HU.out.le
          omega
        have F : Hid (u < m ∧ m ≤ 1073741825 ∧ (m - l).toNat < (h - l).toNat) := ⟨hmu, by omega, by omega⟩
        clear hm2 bm bm0 hq hle hmu
        go_wp2_with fail
        go_roundg (m - l).toNat
        case measure => exact F.out.2.2
        case rel => exact ⟨rfl, l, m, rfl, rfl, l0, l1, F.out.1, F.out.2.1, rfl⟩
    · have dd : decide (1 < h - l) = false := decide_eq_false hlt
      have el : l = u := by omega
      have hh : h = u + 1 := by omega
      subst el
      subst hh
      have bm := Int.mul_le_mul hu1 hu1 hu0 (by omega)
      have bm0 := Int.mul_nonneg hu0 hu0
      obtain ⟨q, hq⟩ : ∃ q, l * l = q := ⟨_, rfl⟩
      rw [hq] at bm bm0
      have wq : IntKind.i64.wrap (l * l) = q := by rw [hq]; exact IntWalk.i64_in _ (by omega)
      have w1' : IntKind.i64.wrap (l + 1) = l + 1 := IntWalk.i64_in _ (by omega)
      have s0 := HO.out.c0
      have s1 := HO.out.c1
      have f0 := HO.out.f 0
      have f1 := HO.out.f 1
      have sl := HO.out.lt
      by_cases he : q = n
      · have hv : v = l := by rw [hc.out, if_pos (hq.trans he)]
        have HV := Lib.hid hv
        have de : (q == n) = true := by simpa using he
        clear bm bm0 hq HU hv
        go_wp2_with fail
        refine bodyPost_ret (by simp [results, Try.results23, go_sem, s0, s1]; try rfl) rfl ?_
        exact ⟨by rw [HV.out], (HB.out.setCell lo _).setCell lo _⟩
      · have hv : v = l + 1 := by rw [hc.out, if_neg (fun e => he (hq.symm.trans e))]
        have HV := Lib.hid hv
        have de : (q == n) = false := by simpa using he
        clear bm bm0 hq HU hv
        go_wp2_with fail
        refine bodyPost_ret (by simp [results, Try.results23, go_sem, s0, s1]; try rfl) rfl ?_
        exact ⟨by rw [HV.out], (HB.out.setCell lo _).setCell lo _⟩
end Go.Proofs.Ytabpnkpedcgcpaa
