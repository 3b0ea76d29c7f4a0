/- Layer 9: the reference's All, Cross and on (for the law PointsLists). -/
import Derived.Test.YtcghjjfpjiacfaaDoorVF2
import Derived.Test.YtcghjjfpjiacfaaDoorVR2
namespace Go.Proofs.YtcghjjfpjiacfaaDoor
open Go.ChangeShapes Go.WideShapes Go.ChangeAt Go.RowKit Go.Joins Go.Deep Go.Shelf
set_option linter.unusedVariables false

/-- A list of points as a loop of the reference has it. -/
structure LsS (w W : World) (sg o n : Nat) (f : Nat → Pt) : Prop where
  st : Below w.heap.size w W
  hg : sg < W.heap.size
  c : ∀ i, i < n → W.cell? ⟨sg, o + i * 3, none⟩ = some (.int .i64 (f i).x) ∧ W.cell? ⟨sg, o + i * 3 + 1, none⟩ = some (.int .i64 (f i).y) ∧ W.cell? ⟨sg, o + i * 3 + 2, none⟩ = some (.int .i64 (f i).z)
theorem LsS.on {w W W2 : World} {sg o n : Nat} {f : Nat → Pt} (h : LsS w W sg o n f) (hb : Below W.heap.size W W2) : LsS w W2 sg o n f :=
  ⟨below_on h.st hb, Nat.lt_of_lt_of_le h.hg hb.size, fun i hi => ⟨(hb.cell (p := ⟨sg, o + i * 3, none⟩) h.hg).trans (h.c i hi).1, (hb.cell (p := ⟨sg, o + i * 3 + 1, none⟩) h.hg).trans (h.c i hi).2.1, (hb.cell (p := ⟨sg, o + i * 3 + 2, none⟩) h.hg).trans (h.c i hi).2.2⟩⟩
set_option maxRecDepth 100000 in
set_option maxHeartbeats 8000000 in
theorem rAll_any (ra : Option Addr) (n rc : Nat) (f : Nat → Pt) (w : World) (hl : PtR w ra n f) (hrc : n ≤ rc) (hrc2 : rc ≤ 9223372036854775807) :
    Calls Tryd.prog 12 #[.slice ra n rc] w fun e w' => e = .returned (.bool (decide (allV n f))) ∧ Below w.heap.size w w' := by
  obtain ⟨v, hv⟩ : ∃ v, decide (allV n f) = v := ⟨_, rfl⟩
  rw [hv]
  have HV : Hid (v = true ↔ allV n f) := by show v = true ↔ _; rw [← hv]; exact decide_eq_true_iff
  clear hv
  have CV := fun (q : Pt) (W : World) => Lib.hid (rVal_any q W)
  by_cases h0 : 0 < n
  · obtain ⟨sg, o, rfl, hg, hc⟩ := hl h0
    have HS : Hid (LsS w w sg o n f) := ⟨Below.refl _ _, hg, hc⟩
    clear hl hg hc
    go_enter Tryd.func12, Tryd.ntmps12
    go_wp2_with fail
    go_loopg [3] n (fun mm s3 wx => ∃ i : Nat, s3 = .int .i64 (i : Int) ∧ mm = n - i ∧ i ≤ n ∧ Hid (LsS w wx sg o n f) ∧ Hid (∀ k, k < i → (f k).ok))
    case atStart => exact ⟨0, rfl, rfl, by omega, HS, fun k h => by omega⟩
    case round =>
      clear HS
      obtain ⟨i, rfl, rfl, hi, HS, HZ⟩ := hrel
      rename World => W1
      by_cases hlt : i < n
      · have wi : IntKind.i64.wrap ((i : Int) + 1) = ((i + 1 : Nat) : Int) := by rw [IntWalk.i64_in _ (by omega)]; omega
        have li : (i : Int) < (n : Int) := by omega
        have hci := HS.out.c i hlt
        obtain ⟨q, hq⟩ : ∃ q, f i = q := ⟨_, rfl⟩
        have HQ := Lib.hid hq
        rw [hq] at hci
        have q0 := hci.1
        have q1 := hci.2.1
        have q2 := hci.2.2
        have C1 := CV q W1
        obtain ⟨t, ht⟩ : ∃ t, vdB q = t := ⟨_, rfl⟩
        have HT := Lib.hid ht
        rw [ht] at C1
        clear hq hci ht
        cases t with
        | false =>
          have hvf : v = false := by
            cases h : v
            · rfl
            · exact absurd (by rw [← HQ.out]; exact HV.out.1 h i hlt) (of_decide_eq_false HT.out)
          subst hvf
          clear HT HZ HV HQ
          go_wp2_with (go_at_call 14; (with_reducible refine ((C1.out).mono ?_)); rintro r w2 ⟨rfl, hb2⟩; have HE := Lib.hid (below_on HS.out.st hb2); clear hb2)
          go_ret
          exact ⟨rfl, HE.out⟩
        | true =>
          have HZ2 : Hid (∀ k, k < i + 1 → (f k).ok) := fun k hk => by
            by_cases e : k = i
            · rw [e, HQ.out]; exact of_decide_eq_true HT.out
            · exact HZ.out k (by omega)
          clear HT HZ HQ
          go_wp2_with (go_at_call 14; (with_reducible refine ((C1.out).mono ?_)); rintro r w2 ⟨rfl, hb2⟩; have HS2 := Lib.hid (HS.out.on hb2); clear hb2)
          go_roundg (n - (i + 1))
          case measure => omega
          case rel => exact ⟨i + 1, rfl, rfl, by omega, HS2, HZ2⟩
      · have li : ¬ (i : Int) < (n : Int) := by omega
        have hvt : v = true := HV.out.2 (fun k hk => HZ.out k (by omega))
        subst hvt
        have HE := Lib.hid HS.out.st
        clear HV HZ HS
        go_wp2_with fail
        go_ret
        exact ⟨rfl, HE.out⟩
  · have e0 : n = 0 := by omega
    subst e0
    have hvt : v = true := HV.out.2 (fun k hk => by omega)
    subst hvt
    clear HV hl h0
    go_enter Tryd.func12, Tryd.ntmps12
    go_wp2_with fail
    go_loopg [3] 1 (fun mm s3 wx => s3 = .int .i64 0 ∧ mm = 1 ∧ wx = w)
    case atStart => exact ⟨rfl, rfl, rfl⟩
    case round =>
      obtain ⟨rfl, rfl, rfl⟩ := hrel
      go_wp2_with fail
      go_ret
      exact ⟨rfl, Below.refl _ _⟩
set_option maxRecDepth 100000 in
set_option maxHeartbeats 8000000 in
theorem rCross_any (u v : Pt) (w : World) (hu : lim3 u 2097152) (hv : lim3 v 2097152) : Calls Tryd.prog 50 #[.agg #[.int .i64 u.x, .int .i64 u.y, .int .i64 u.z], .agg #[.int .i64 v.x, .int .i64 v.y, .int .i64 v.z]] w fun e w' => e = .returned (.agg #[.int .i64 (u.crs v).x, .int .i64 (u.crs v).y, .int .i64 (u.crs v).z]) ∧ Below w.heap.size w w' := by
  have u0 : -2097152 ≤ u.x ∧ u.x ≤ 2097152 := hu 0 (by omega)
  have u1 : -2097152 ≤ u.y ∧ u.y ≤ 2097152 := hu 1 (by omega)
  have u2 : -2097152 ≤ u.z ∧ u.z ≤ 2097152 := hu 2 (by omega)
  have v0 : -2097152 ≤ v.x ∧ v.x ≤ 2097152 := hv 0 (by omega)
  have v1 : -2097152 ≤ v.y ∧ v.y ≤ 2097152 := hv 1 (by omega)
  have v2 : -2097152 ≤ v.z ∧ v.z ≤ 2097152 := hv 2 (by omega)
  have k0 := tn_bd u1.1 u1.2 v2.1 v2.2
  have k1 := tn_bd u2.1 u2.2 v1.1 v1.2
  have k2 := tn_bd u2.1 u2.2 v0.1 v0.2
  have k3 := tn_bd u0.1 u0.2 v2.1 v2.2
  have k4 := tn_bd u0.1 u0.2 v1.1 v1.2
  have k5 := tn_bd u1.1 u1.2 v0.1 v0.2
  have e0 : (u.crs v).x = u.y * v.z - u.z * v.y := rfl
  have e1 : (u.crs v).y = u.z * v.x - u.x * v.z := rfl
  have e2 : (u.crs v).z = u.x * v.y - u.y * v.x := rfl
  obtain ⟨c, hc⟩ : ∃ c, u.crs v = c := ⟨_, rfl⟩
  rw [hc] at e0 e1 e2 ⊢
  have s0 : IntKind.i64.wrap (u.y * v.z) = u.y * v.z := IntWalk.i64_in _ (by omega)
  have s1 : IntKind.i64.wrap (u.z * v.y) = u.z * v.y := IntWalk.i64_in _ (by omega)
  have s2 : IntKind.i64.wrap (u.z * v.x) = u.z * v.x := IntWalk.i64_in _ (by omega)
  have s3 : IntKind.i64.wrap (u.x * v.z) = u.x * v.z := IntWalk.i64_in _ (by omega)
  have s4 : IntKind.i64.wrap (u.x * v.y) = u.x * v.y := IntWalk.i64_in _ (by omega)
  have s5 : IntKind.i64.wrap (u.y * v.x) = u.y * v.x := IntWalk.i64_in _ (by omega)
  have t0 : IntKind.i64.wrap (u.y * v.z - u.z * v.y) = c.x := by rw [e0]; exact IntWalk.i64_in _ (by omega)
  have t1 : IntKind.i64.wrap (u.z * v.x - u.x * v.z) = c.y := by rw [e1]; exact IntWalk.i64_in _ (by omega)
  have t2 : IntKind.i64.wrap (u.x * v.y - u.y * v.x) = c.z := by rw [e2]; exact IntWalk.i64_in _ (by omega)
  clear hu hv u0 u1 u2 v0 v1 v2 k0 k1 k2 k3 k4 k5 e0 e1 e2 hc
  go_enter Tryd.func50, Tryd.ntmps50
  go_wp2_with fail
  refine bodyPost_ret (by simp [results, Tryd.results50, go_sem]; try rfl) rfl ?_
  exact ⟨rfl, by go_grown⟩
--ON--
theorem sg_zero (x : Int) : sgI x = 0 ↔ x = 0 := by unfold sgI; split <;> (try split) <;> omega
set_option maxRecDepth 100000 in
set_option maxHeartbeats 16000000 in
theorem rOn_any (p a b : Pt) (w : World) (hp : p.ok) (ha : a.ok) (hb : b.ok) (v : Bool) (hv : v = true ↔ onS p a b) : Calls Tryd.prog 54 #[.agg #[.int .i64 p.x, .int .i64 p.y, .int .i64 p.z], .agg #[.int .i64 a.x, .int .i64 a.y, .int .i64 a.z], .agg #[.int .i64 b.x, .int .i64 b.y, .int .i64 b.z]] w fun e w' => e = .returned (.bool v) ∧ Below w.heap.size w w' := by
  obtain ⟨w1, hw1⟩ : ∃ W, W = (((w.alloc (Obj.cells #[.int .i64 p.x, .int .i64 p.y, .int .i64 p.z] 23)).alloc (Obj.cells #[.int .i64 a.x, .int .i64 a.y, .int .i64 a.z] 23)).alloc (Obj.cells #[.int .i64 b.x, .int .i64 b.y, .int .i64 b.z] 23)) := ⟨_, rfl⟩
  obtain ⟨hb1, hP, hA, hB⟩ := three_boxes w p a b _ _ _ w1 hw1
  obtain ⟨b3, hb3⟩ : ∃ x, x = w.heap.size := ⟨_, rfl⟩
  obtain ⟨b4, hb4⟩ : ∃ x, x = w.heap.size + 1 := ⟨_, rfl⟩
  obtain ⟨b5, hb5⟩ : ∃ x, x = w.heap.size + 1 + 1 := ⟨_, rfl⟩
  have HN : Hid (b3 = w.heap.size ∧ b4 = w.heap.size + 1 ∧ b5 = w.heap.size + 1 + 1 ∧ w1 = (((w.alloc (Obj.cells #[.int .i64 p.x, .int .i64 p.y, .int .i64 p.z] 23)).alloc (Obj.cells #[.int .i64 a.x, .int .i64 a.y, .int .i64 a.z] 23)).alloc (Obj.cells #[.int .i64 b.x, .int .i64 b.y, .int .i64 b.z] 23))) := ⟨hb3, hb4, hb5, hw1⟩
  rw [← hb3] at hP
  rw [← hb4] at hA
  rw [← hb5] at hB
  have HS1 : Hid (B3 w1 b3 p.x p.y p.z ∧ B3 w1 b4 a.x a.y a.z ∧ B3 w1 b5 b.x b.y b.z) := ⟨hP, hA, hB⟩
  have HB := Lib.hid hb1
  have C1 := fun W => Lib.hid (rTurn_any a b p W ha hb hp)
  obtain ⟨d0, d1, _⟩ := sub_bd hp ha
  obtain ⟨d2, d3, _⟩ := sub_bd hp hb
  have z0 : (p.sub a).x = p.x - a.x := rfl
  have z1 : (p.sub a).y = p.y - a.y := rfl
  have z2 : (p.sub b).x = p.x - b.x := rfl
  have z3 : (p.sub b).y = p.y - b.y := rfl
  rw [z0] at d0
  rw [z1] at d1
  rw [z2] at d2
  rw [z3] at d3
  have k0 := tn_bd d0.1 d0.2 d2.1 d2.2
  have k1 := tn_bd d1.1 d1.2 d3.1 d3.2
  have s0 : IntKind.i64.wrap (p.x - a.x) = p.x - a.x := IntWalk.i64_in _ (by omega)
  have s1 : IntKind.i64.wrap (p.y - a.y) = p.y - a.y := IntWalk.i64_in _ (by omega)
  have s2 : IntKind.i64.wrap (p.x - b.x) = p.x - b.x := IntWalk.i64_in _ (by omega)
  have s3 : IntKind.i64.wrap (p.y - b.y) = p.y - b.y := IntWalk.i64_in _ (by omega)
  obtain ⟨x, hx⟩ : ∃ x, (p.x - a.x) * (p.x - b.x) = x := ⟨_, rfl⟩
  obtain ⟨y, hy⟩ : ∃ x, (p.y - a.y) * (p.y - b.y) = x := ⟨_, rfl⟩
  have hv2 : v = true ↔ tnI a b p = 0 ∧ x ≤ 0 ∧ y ≤ 0 := by rw [hv, ← hx, ← hy]; rfl
  have HD : Hid (a.x = b.x → p.x ≠ a.x → ¬ x ≤ 0) := fun h1 h2 h3 => by
    rw [← hx, ← h1] at h3
    rcases Int.lt_or_gt_of_ne (show p.x - a.x ≠ 0 by omega) with g | g
    · have := Int.mul_pos_of_neg_of_neg g g; omega
    · have := Int.mul_pos g g; omega
  have HF : Hid (a.y = b.y → p.y ≠ a.y → ¬ y ≤ 0) := fun h1 h2 h3 => by
    rw [← hy, ← h1] at h3
    rcases Int.lt_or_gt_of_ne (show p.y - a.y ≠ 0 by omega) with g | g
    · have := Int.mul_pos_of_neg_of_neg g g; omega
    · have := Int.mul_pos g g; omega
  have t0 : IntKind.i64.wrap ((p.x - a.x) * (p.x - b.x)) = x := by rw [hx] at k0 ⊢; exact IntWalk.i64_in _ (by omega)
  have t1 : IntKind.i64.wrap ((p.y - a.y) * (p.y - b.y)) = y := by rw [hy] at k1 ⊢; exact IntWalk.i64_in _ (by omega)
  have HV := Lib.hid hv2
  have hr := sg_zero (tnI a b p)
  obtain ⟨r, hrr⟩ : ∃ r, sgI (tnI a b p) = r := ⟨_, rfl⟩
  rw [hrr] at C1 hr
  have HR := Lib.hid hr
  clear hb1 hP hA hB hb3 hb4 hb5 hw1 d0 d1 d2 d3 z0 z1 z2 z3 k0 k1 hx hy hv hv2 hr hrr hp ha hb
  have p0 := HS1.out.1.c0
  have p1 := HS1.out.1.c1
  have p2 := HS1.out.1.c2
  have a0 := HS1.out.2.1.c0
  have a1 := HS1.out.2.1.c1
  have a2 := HS1.out.2.1.c2
  have b0 := HS1.out.2.2.c0
  have b1' := HS1.out.2.2.c1
  have b2' := HS1.out.2.2.c2
  by_cases h0 : r = 0
  · have HZ : Hid (tnI a b p = 0) := HR.out.1 h0
    have e0 : (r != 0) = false := by simp [h0]
    clear h0 HR
    by_cases h1 : a.x = b.x
    · have e1 : (a.x == b.x) = true := by simpa using h1
      by_cases h2 : a.y = b.y
      · have e2 : (a.y == b.y) = true := by simpa using h2
        by_cases h3 : p.x = a.x
        · have e3 : (p.x != a.x) = false := by simpa using h3
          by_cases h4 : p.y = a.y
          · have e4 : (p.y != a.y) = false := by simpa using h4
            clear h1 h2 h3 h4 HD HF
            have HG : Hid (v = true ↔ x ≤ 0 ∧ y ≤ 0) := by show v = true ↔ _; rw [HV.out]; exact ⟨fun h => h.2, fun h => ⟨HZ.out, h⟩⟩
            clear HV HZ
            by_cases g1 : x ≤ 0
            · have m1 : decide (x ≤ 0) = true := decide_eq_true g1
              by_cases g2 : y ≤ 0
              · have m2 : decide (y ≤ 0) = true := decide_eq_true g2
                have hv : v = true := HG.out.2 ⟨g1, g2⟩
                subst hv
                clear g1 g2 HG
                go_enter Tryd.func54, Tryd.ntmps54
                go_upto_region 1 with fail
                rw [← HN.out.2.2.2, ← HN.out.2.2.1, ← HN.out.2.1, ← HN.out.1]
                clear HN
                go_wp2_with (go_at_call 55; (with_reducible refine ((C1 _).out.mono ?_)); rintro e w2 ⟨rfl, hb2⟩; have HE := Lib.hid (below_on HB.out hb2); have p0 := (HS1.out.1.on hb2).c0; have p1 := (HS1.out.1.on hb2).c1; have a0 := (HS1.out.2.1.on hb2).c0; have a1 := (HS1.out.2.1.on hb2).c1; have b0 := (HS1.out.2.2.on hb2).c0; have b1 := (HS1.out.2.2.on hb2).c1; clear hb2 HS1)
                all_goals first
                  | (go_ret; exact ⟨rfl, HE.out⟩)
                  | (exfalso; rename_i h1 h2; have h3 : some undef = some (Value.bool _) := h1; simp [undef] at h3; done)
                  | (exfalso; rename_i h1; have h3 : some undef = some (Value.bool _) := h1; simp [undef] at h3; done)
              · have m2 : decide (y ≤ 0) = false := decide_eq_false g2
                have hv : v = false := by cases h : v; · rfl
                                          · exact absurd (HG.out.1 h).2 g2
                subst hv
                clear g1 g2 HG
                go_enter Tryd.func54, Tryd.ntmps54
                go_upto_region 1 with fail
                rw [← HN.out.2.2.2, ← HN.out.2.2.1, ← HN.out.2.1, ← HN.out.1]
                clear HN
                go_wp2_with (go_at_call 55; (with_reducible refine ((C1 _).out.mono ?_)); rintro e w2 ⟨rfl, hb2⟩; have HE := Lib.hid (below_on HB.out hb2); have p0 := (HS1.out.1.on hb2).c0; have p1 := (HS1.out.1.on hb2).c1; have a0 := (HS1.out.2.1.on hb2).c0; have a1 := (HS1.out.2.1.on hb2).c1; have b0 := (HS1.out.2.2.on hb2).c0; have b1 := (HS1.out.2.2.on hb2).c1; clear hb2 HS1)
                all_goals first
                  | (go_ret; exact ⟨rfl, HE.out⟩)
                  | (exfalso; rename_i h1 h2; have h3 : some undef = some (Value.bool _) := h1; simp [undef] at h3; done)
                  | (exfalso; rename_i h1; have h3 : some undef = some (Value.bool _) := h1; simp [undef] at h3; done)
            · have m1 : decide (x ≤ 0) = false := decide_eq_false g1
              have hv : v = false := by cases h : v; · rfl
                                        · exact absurd (HG.out.1 h).1 g1
              subst hv
              clear g1 HG
              go_enter Tryd.func54, Tryd.ntmps54
              go_upto_region 1 with fail
              rw [← HN.out.2.2.2, ← HN.out.2.2.1, ← HN.out.2.1, ← HN.out.1]
              clear HN
              go_wp2_with (go_at_call 55; (with_reducible refine ((C1 _).out.mono ?_)); rintro e w2 ⟨rfl, hb2⟩; have HE := Lib.hid (below_on HB.out hb2); have p0 := (HS1.out.1.on hb2).c0; have p1 := (HS1.out.1.on hb2).c1; have a0 := (HS1.out.2.1.on hb2).c0; have a1 := (HS1.out.2.1.on hb2).c1; have b0 := (HS1.out.2.2.on hb2).c0; have b1 := (HS1.out.2.2.on hb2).c1; clear hb2 HS1)
              all_goals first
                | (go_ret; exact ⟨rfl, HE.out⟩)
                | (exfalso; rename_i h1 h2; have h3 : some undef = some (Value.bool _) := h1; simp [undef] at h3; done)
                | (exfalso; rename_i h1; have h3 : some undef = some (Value.bool _) := h1; simp [undef] at h3; done)
          · have e4 : (p.y != a.y) = true := by simpa using h4
            have hv : v = false := by
              cases h : v
              · rfl
              · exact absurd (HV.out.1 h).2.2 (HF.out h2 h4)
            subst hv
            clear h1 h2 h3 h4 HD HF HV HZ
            go_enter Tryd.func54, Tryd.ntmps54
            go_upto_region 1 with fail
            rw [← HN.out.2.2.2, ← HN.out.2.2.1, ← HN.out.2.1, ← HN.out.1]
            clear HN
            go_wp2_with (go_at_call 55; (with_reducible refine ((C1 _).out.mono ?_)); rintro e w2 ⟨rfl, hb2⟩; have HE := Lib.hid (below_on HB.out hb2); have p0 := (HS1.out.1.on hb2).c0; have p1 := (HS1.out.1.on hb2).c1; have a0 := (HS1.out.2.1.on hb2).c0; have a1 := (HS1.out.2.1.on hb2).c1; have b0 := (HS1.out.2.2.on hb2).c0; have b1 := (HS1.out.2.2.on hb2).c1; clear hb2 HS1)
            all_goals first
              | (go_ret; exact ⟨rfl, HE.out⟩)
              | (exfalso; rename_i h1 h2; have h3 : some undef = some (Value.bool _) := h1; simp [undef] at h3; done)
              | (exfalso; rename_i h1; have h3 : some undef = some (Value.bool _) := h1; simp [undef] at h3; done)
        · have e3 : (p.x != a.x) = true := by simpa using h3
          have hv : v = false := by
            cases h : v
            · rfl
            · exact absurd (HV.out.1 h).2.1 (HD.out h1 h3)
          subst hv
          clear h1 h2 h3 HD HF HV HZ
          go_enter Tryd.func54, Tryd.ntmps54
          go_upto_region 1 with fail
          rw [← HN.out.2.2.2, ← HN.out.2.2.1, ← HN.out.2.1, ← HN.out.1]
          clear HN
          go_wp2_with (go_at_call 55; (with_reducible refine ((C1 _).out.mono ?_)); rintro e w2 ⟨rfl, hb2⟩; have HE := Lib.hid (below_on HB.out hb2); have p0 := (HS1.out.1.on hb2).c0; have p1 := (HS1.out.1.on hb2).c1; have a0 := (HS1.out.2.1.on hb2).c0; have a1 := (HS1.out.2.1.on hb2).c1; have b0 := (HS1.out.2.2.on hb2).c0; have b1 := (HS1.out.2.2.on hb2).c1; clear hb2 HS1)
          all_goals first
            | (go_ret; exact ⟨rfl, HE.out⟩)
            | (exfalso; rename_i h1 h2; have h3 : some undef = some (Value.bool _) := h1; simp [undef] at h3; done)
            | (exfalso; rename_i h1; have h3 : some undef = some (Value.bool _) := h1; simp [undef] at h3; done)
      · have e2 : (a.y == b.y) = false := by simpa using h2
        clear h1 h2 HD HF
        have HG : Hid (v = true ↔ x ≤ 0 ∧ y ≤ 0) := by show v = true ↔ _; rw [HV.out]; exact ⟨fun h => h.2, fun h => ⟨HZ.out, h⟩⟩
        clear HV HZ
        by_cases g1 : x ≤ 0
        · have m1 : decide (x ≤ 0) = true := decide_eq_true g1
          by_cases g2 : y ≤ 0
          · have m2 : decide (y ≤ 0) = true := decide_eq_true g2
            have hv : v = true := HG.out.2 ⟨g1, g2⟩
            subst hv
            clear g1 g2 HG
            go_enter Tryd.func54, Tryd.ntmps54
            go_upto_region 1 with fail
            rw [← HN.out.2.2.2, ← HN.out.2.2.1, ← HN.out.2.1, ← HN.out.1]
            clear HN
            go_wp2_with (go_at_call 55; (with_reducible refine ((C1 _).out.mono ?_)); rintro e w2 ⟨rfl, hb2⟩; have HE := Lib.hid (below_on HB.out hb2); have p0 := (HS1.out.1.on hb2).c0; have p1 := (HS1.out.1.on hb2).c1; have a0 := (HS1.out.2.1.on hb2).c0; have a1 := (HS1.out.2.1.on hb2).c1; have b0 := (HS1.out.2.2.on hb2).c0; have b1 := (HS1.out.2.2.on hb2).c1; clear hb2 HS1)
            all_goals first
              | (go_ret; exact ⟨rfl, HE.out⟩)
              | (exfalso; rename_i h1 h2; have h3 : some undef = some (Value.bool _) := h1; simp [undef] at h3; done)
              | (exfalso; rename_i h1; have h3 : some undef = some (Value.bool _) := h1; simp [undef] at h3; done)
          · have m2 : decide (y ≤ 0) = false := decide_eq_false g2
            have hv : v = false := by cases h : v; · rfl
                                      · exact absurd (HG.out.1 h).2 g2
            subst hv
            clear g1 g2 HG
            go_enter Tryd.func54, Tryd.ntmps54
            go_upto_region 1 with fail
            rw [← HN.out.2.2.2, ← HN.out.2.2.1, ← HN.out.2.1, ← HN.out.1]
            clear HN
            go_wp2_with (go_at_call 55; (with_reducible refine ((C1 _).out.mono ?_)); rintro e w2 ⟨rfl, hb2⟩; have HE := Lib.hid (below_on HB.out hb2); have p0 := (HS1.out.1.on hb2).c0; have p1 := (HS1.out.1.on hb2).c1; have a0 := (HS1.out.2.1.on hb2).c0; have a1 := (HS1.out.2.1.on hb2).c1; have b0 := (HS1.out.2.2.on hb2).c0; have b1 := (HS1.out.2.2.on hb2).c1; clear hb2 HS1)
            all_goals first
              | (go_ret; exact ⟨rfl, HE.out⟩)
              | (exfalso; rename_i h1 h2; have h3 : some undef = some (Value.bool _) := h1; simp [undef] at h3; done)
              | (exfalso; rename_i h1; have h3 : some undef = some (Value.bool _) := h1; simp [undef] at h3; done)
        · have m1 : decide (x ≤ 0) = false := decide_eq_false g1
          have hv : v = false := by cases h : v; · rfl
                                    · exact absurd (HG.out.1 h).1 g1
          subst hv
          clear g1 HG
          go_enter Tryd.func54, Tryd.ntmps54
          go_upto_region 1 with fail
          rw [← HN.out.2.2.2, ← HN.out.2.2.1, ← HN.out.2.1, ← HN.out.1]
          clear HN
          go_wp2_with (go_at_call 55; (with_reducible refine ((C1 _).out.mono ?_)); rintro e w2 ⟨rfl, hb2⟩; have HE := Lib.hid (below_on HB.out hb2); have p0 := (HS1.out.1.on hb2).c0; have p1 := (HS1.out.1.on hb2).c1; have a0 := (HS1.out.2.1.on hb2).c0; have a1 := (HS1.out.2.1.on hb2).c1; have b0 := (HS1.out.2.2.on hb2).c0; have b1 := (HS1.out.2.2.on hb2).c1; clear hb2 HS1)
          all_goals first
            | (go_ret; exact ⟨rfl, HE.out⟩)
            | (exfalso; rename_i h1 h2; have h3 : some undef = some (Value.bool _) := h1; simp [undef] at h3; done)
            | (exfalso; rename_i h1; have h3 : some undef = some (Value.bool _) := h1; simp [undef] at h3; done)
    · have e1 : (a.x == b.x) = false := by simpa using h1
      clear h1 HD HF
      have HG : Hid (v = true ↔ x ≤ 0 ∧ y ≤ 0) := by show v = true ↔ _; rw [HV.out]; exact ⟨fun h => h.2, fun h => ⟨HZ.out, h⟩⟩
      clear HV HZ
      by_cases g1 : x ≤ 0
      · have m1 : decide (x ≤ 0) = true := decide_eq_true g1
        by_cases g2 : y ≤ 0
        · have m2 : decide (y ≤ 0) = true := decide_eq_true g2
          have hv : v = true := HG.out.2 ⟨g1, g2⟩
          subst hv
          clear g1 g2 HG
          go_enter Tryd.func54, Tryd.ntmps54
          go_upto_region 1 with fail
          rw [← HN.out.2.2.2, ← HN.out.2.2.1, ← HN.out.2.1, ← HN.out.1]
          clear HN
          go_wp2_with (go_at_call 55; (with_reducible refine ((C1 _).out.mono ?_)); rintro e w2 ⟨rfl, hb2⟩; have HE := Lib.hid (below_on HB.out hb2); have p0 := (HS1.out.1.on hb2).c0; have p1 := (HS1.out.1.on hb2).c1; have a0 := (HS1.out.2.1.on hb2).c0; have a1 := (HS1.out.2.1.on hb2).c1; have b0 := (HS1.out.2.2.on hb2).c0; have b1 := (HS1.out.2.2.on hb2).c1; clear hb2 HS1)
          all_goals first
            | (go_ret; exact ⟨rfl, HE.out⟩)
            | (exfalso; rename_i h1 h2; have h3 : some undef = some (Value.bool _) := h1; simp [undef] at h3; done)
            | (exfalso; rename_i h1; have h3 : some undef = some (Value.bool _) := h1; simp [undef] at h3; done)
        · have m2 : decide (y ≤ 0) = false := decide_eq_false g2
          have hv : v = false := by cases h : v; · rfl
                                    · exact absurd (HG.out.1 h).2 g2
          subst hv
          clear g1 g2 HG
          go_enter Tryd.func54, Tryd.ntmps54
          go_upto_region 1 with fail
          rw [← HN.out.2.2.2, ← HN.out.2.2.1, ← HN.out.2.1, ← HN.out.1]
          clear HN
          go_wp2_with (go_at_call 55; (with_reducible refine ((C1 _).out.mono ?_)); rintro e w2 ⟨rfl, hb2⟩; have HE := Lib.hid (below_on HB.out hb2); have p0 := (HS1.out.1.on hb2).c0; have p1 := (HS1.out.1.on hb2).c1; have a0 := (HS1.out.2.1.on hb2).c0; have a1 := (HS1.out.2.1.on hb2).c1; have b0 := (HS1.out.2.2.on hb2).c0; have b1 := (HS1.out.2.2.on hb2).c1; clear hb2 HS1)
          all_goals first
            | (go_ret; exact ⟨rfl, HE.out⟩)
            | (exfalso; rename_i h1 h2; have h3 : some undef = some (Value.bool _) := h1; simp [undef] at h3; done)
            | (exfalso; rename_i h1; have h3 : some undef = some (Value.bool _) := h1; simp [undef] at h3; done)
      · have m1 : decide (x ≤ 0) = false := decide_eq_false g1
        have hv : v = false := by cases h : v; · rfl
                                  · exact absurd (HG.out.1 h).1 g1
        subst hv
        clear g1 HG
        go_enter Tryd.func54, Tryd.ntmps54
        go_upto_region 1 with fail
        rw [← HN.out.2.2.2, ← HN.out.2.2.1, ← HN.out.2.1, ← HN.out.1]
        clear HN
        go_wp2_with (go_at_call 55; (with_reducible refine ((C1 _).out.mono ?_)); rintro e w2 ⟨rfl, hb2⟩; have HE := Lib.hid (below_on HB.out hb2); have p0 := (HS1.out.1.on hb2).c0; have p1 := (HS1.out.1.on hb2).c1; have a0 := (HS1.out.2.1.on hb2).c0; have a1 := (HS1.out.2.1.on hb2).c1; have b0 := (HS1.out.2.2.on hb2).c0; have b1 := (HS1.out.2.2.on hb2).c1; clear hb2 HS1)
        all_goals first
          | (go_ret; exact ⟨rfl, HE.out⟩)
          | (exfalso; rename_i h1 h2; have h3 : some undef = some (Value.bool _) := h1; simp [undef] at h3; done)
          | (exfalso; rename_i h1; have h3 : some undef = some (Value.bool _) := h1; simp [undef] at h3; done)
  · have e0 : (r != 0) = true := by simpa using h0
    have hv : v = false := by
      cases h : v
      · rfl
      · exact absurd (HR.out.2 (HV.out.1 h).1) h0
    subst hv
    clear h0 HR HV HD HF
    go_enter Tryd.func54, Tryd.ntmps54
    go_upto_region 1 with fail
    rw [← HN.out.2.2.2, ← HN.out.2.2.1, ← HN.out.2.1, ← HN.out.1]
    clear HN
    go_wp2_with (go_at_call 55; (with_reducible refine ((C1 _).out.mono ?_)); rintro e w2 ⟨rfl, hb2⟩; have HE := Lib.hid (below_on HB.out hb2); have p0 := (HS1.out.1.on hb2).c0; have p1 := (HS1.out.1.on hb2).c1; have a0 := (HS1.out.2.1.on hb2).c0; have a1 := (HS1.out.2.1.on hb2).c1; have b0 := (HS1.out.2.2.on hb2).c0; have b1 := (HS1.out.2.2.on hb2).c1; clear hb2 HS1)
    all_goals first
      | (go_ret; exact ⟨rfl, HE.out⟩)
      | (exfalso; rename_i h1 h2; have h3 : some undef = some (Value.bool _) := h1; simp [undef] at h3; done)
      | (exfalso; rename_i h1; have h3 : some undef = some (Value.bool _) := h1; simp [undef] at h3; done)
end Go.Proofs.YtcghjjfpjiacfaaDoor
