/- Layer 9: law PointsWays. -/
import Derived.Test.YtabpnkpedcgcpaaVBtl
namespace Go.Proofs.Ytabpnkpedcgcpaa
open Go.ChangeShapes Go.WideShapes Go.ChangeAt Go.RowKit Go.Joins Go.Deep Go.Shelf
set_option linter.unusedVariables false

structure W1S (w W : World) (ba bb bc bx : Nat) (a b c : Pt) (p q : Int) : Prop where
  t : T3S w W ba bb bc a b c
  X : OB W bx (.int .i64 p) (.int .i64 q)
theorem W1S.on {w W W2 : World} {ba bb bc bx : Nat} {a b c : Pt} {p q : Int} (h : W1S w W ba bb bc bx a b c p q) (hb : Below W.heap.size W W2) : W1S w W2 ba bb bc bx a b c p q := ⟨h.t.on hb, h.X.on hb⟩
structure W2S (w W : World) (ba bb bc bx by2 : Nat) (a b c : Pt) (p q u v : Int) : Prop where
  s : W1S w W ba bb bc bx a b c p q
  Y : OB W by2 (.int .i64 u) (.int .i64 v)
theorem W2S.on {w W W2 : World} {ba bb bc bx by2 : Nat} {a b c : Pt} {p q u v : Int} (h : W2S w W ba bb bc bx by2 a b c p q u v) (hb : Below W.heap.size W W2) : W2S w W2 ba bb bc bx by2 a b c p q u v := ⟨h.s.on hb, h.Y.on hb⟩
theorem sqL_comm (a b : Pt) : sqL b a = sqL a b := by unfold sqL; grind
/-- Of the ends of the least span of a root. -/
theorem ends (n p q : Int) (h : FlR n p ∧ ClR n q) : (q = p ∧ p * p = n) ∨ (q = p + 1 ∧ p * p < n ∧ n < q * q) := by
  have h1 := cl_of_fl h.1 h.2
  have h2 := h.1.le
  have h3 := h.1.gt
  split at h1
  · exact .inl ⟨h1, by assumption⟩
  · refine .inr ⟨h1, by omega, by rw [h1]; exact h3⟩
set_option maxRecDepth 100000 in
set_option maxHeartbeats 32000000 in
theorem ways_walk (a b c : Pt) (w : World) (_ : PI a) (_ : PI b) (_ : PI c) :
    Calls Try.prog 6 #[.agg #[.int .i64 a.x, .int .i64 a.y, .int .i64 a.z], .agg #[.int .i64 b.x, .int .i64 b.y, .int .i64 b.z], .agg #[.int .i64 c.x, .int .i64 c.y, .int .i64 c.z]] w fun e w' => e = .returned (.bool true) ∧ Below w.heap.size w w' := by
  have CA := fun W => Lib.hid (pawake_any W)
  obtain ⟨p, q, hp⟩ := ln_ex a b
  obtain ⟨p1, q1, hp1⟩ := ln_ex a c
  obtain ⟨p2, q2, hp2⟩ := ln_ex c b
  obtain ⟨yl, yh, ye, hy⟩ : ∃ n d e, lenT a b p q = (n, d, e) := ⟨(lenT a b p q).1, (lenT a b p q).2.1, (lenT a b p q).2.2, rfl⟩
  have CL1 := fun W => Lib.hid (length_any a b p q W hp yl yh ye hy)
  have hy2 : lenT b a p q = (yl, yh, ye) := by
    rw [← hy]; unfold lenT
    by_cases h1 : a.ok <;> by_cases h2 : b.ok <;> simp [h1, h2]
  have CL2 := fun W => Lib.hid (length_any b a p q W (fun h1 h2 => by rw [sqL_comm]; exact hp h2 h1) yl yh ye hy2)
  obtain ⟨ul, uh, ue, hu⟩ : ∃ n d e, lenT a c p1 q1 = (n, d, e) := ⟨(lenT a c p1 q1).1, (lenT a c p1 q1).2.1, (lenT a c p1 q1).2.2, rfl⟩
  have CL3 := fun W => Lib.hid (length_any a c p1 q1 W hp1 ul uh ue hu)
  obtain ⟨vl, vh, ve, hv⟩ : ∃ n d e, lenT c b p2 q2 = (n, d, e) := ⟨(lenT c b p2 q2).1, (lenT c b p2 q2).2.1, (lenT c b p2 q2).2.2, rfl⟩
  have CL4 := fun W => Lib.hid (length_any c b p2 q2 W hp2 vl vh ve hv)
  have HY := Lib.hid hy
  have HU := Lib.hid hu
  have HV := Lib.hid hv
  have HP := Lib.hid hp
  have HP1 := Lib.hid hp1
  have HP2 := Lib.hid hp2
  obtain ⟨w1, hw1⟩ : ∃ W, W = ((w.alloc (Obj.cells #[.int .i64 a.x, .int .i64 a.y, .int .i64 a.z] 41)).alloc (Obj.cells #[.int .i64 b.x, .int .i64 b.y, .int .i64 b.z] 41)).alloc (Obj.cells #[.int .i64 c.x, .int .i64 c.y, .int .i64 c.z] 41) := ⟨_, rfl⟩
  obtain ⟨hb1, hA, hB, hC⟩ := three_boxes w a b c _ _ _ w1 hw1
  obtain ⟨ba, hba⟩ : ∃ x, x = w.heap.size := ⟨_, rfl⟩
  obtain ⟨bb, hbb⟩ : ∃ x, x = w.heap.size + 1 := ⟨_, rfl⟩
  obtain ⟨bc, hbc⟩ : ∃ x, x = w.heap.size + 1 + 1 := ⟨_, rfl⟩
  have HN : Hid (ba = w.heap.size ∧ bb = w.heap.size + 1 ∧ bc = w.heap.size + 1 + 1 ∧ w1 = ((w.alloc (Obj.cells #[.int .i64 a.x, .int .i64 a.y, .int .i64 a.z] 41)).alloc (Obj.cells #[.int .i64 b.x, .int .i64 b.y, .int .i64 b.z] 41)).alloc (Obj.cells #[.int .i64 c.x, .int .i64 c.y, .int .i64 c.z] 41)) := ⟨hba, hbb, hbc, hw1⟩
  rw [← hba] at hA
  rw [← hbb] at hB
  rw [← hbc] at hC
  have HS1 : Hid (T3S w w1 ba bb bc a b c) := ⟨hb1, hA, hB, hC⟩
  clear hA hB hC hb1 hba hbb hbc hw1 hy hy2 hu hv hp hp1 hp2
  go_enter Try.func6, Try.ntmps6
  go_upto_region 1 with fail
  rw [← HN.out.2.2.2, ← HN.out.2.2.1, ← HN.out.2.1, ← HN.out.1]
  clear HN
  go_upto_region 3 with (go_at_call 19; (with_reducible refine ((CA _).out.mono ?_)); rintro e w2 ⟨rfl, hb2⟩; have HS2 := Lib.hid (HS1.out.on hb2); clear hb2 HS1 CA)
  have a0 := HS2.out.A.c0
  have a1 := HS2.out.A.c1
  have a2 := HS2.out.A.c2
  have b0 := HS2.out.B.c0
  have b1 := HS2.out.B.c1
  have b2 := HS2.out.B.c2
  have c0 := HS2.out.C.c0
  have c1 := HS2.out.C.c1
  have c2 := HS2.out.C.c2
  go_upto_region 4 with (go_at_call 21; (with_reducible refine ((CL1 _).out.mono ?_)); rintro e w3 ⟨rfl, hb3⟩; have HS3 := Lib.hid (HS2.out.on hb3); clear hb3 HS2 CL1 a0 a1 a2 b0 b1 b2 c0 c1 c2)
  have bl := below_alloc w3 (Obj.cells #[.int .i64 yl, .int .i64 yh] 45)
  have HS4 : Hid (W1S w (w3.alloc (Obj.cells #[.int .i64 yl, .int .i64 yh] 45)) ba bb bc w3.heap.size a b c yl yh) := ⟨HS3.out.on bl, OB.new _ _ _ _⟩
  obtain ⟨w4, hw4⟩ : ∃ W, W = w3.alloc (Obj.cells #[.int .i64 yl, .int .i64 yh] 45) := ⟨_, rfl⟩
  obtain ⟨bx, hbx⟩ : ∃ x, x = w3.heap.size := ⟨_, rfl⟩
  rw [← hw4, ← hbx] at HS4
  rw [← hw4, ← hbx]
  clear hw4 hbx bl HS3
  have a0 := HS4.out.t.A.c0
  have a1 := HS4.out.t.A.c1
  have a2 := HS4.out.t.A.c2
  have b0 := HS4.out.t.B.c0
  have b1 := HS4.out.t.B.c1
  have b2 := HS4.out.t.B.c2
  have c0 := HS4.out.t.C.c0
  have c1 := HS4.out.t.C.c1
  have c2 := HS4.out.t.C.c2
  go_upto_region 5 with (go_at_call 21; (with_reducible refine ((CL2 _).out.mono ?_)); rintro e w5 ⟨rfl, hb5⟩; have HS5 := Lib.hid (HS4.out.on hb5); clear hb5 HS4 CL2 a0 a1 a2 b0 b1 b2 c0 c1 c2)
  have bl := below_alloc w5 (Obj.cells #[.int .i64 yl, .int .i64 yh] 45)
  have HS6 : Hid (W2S w (w5.alloc (Obj.cells #[.int .i64 yl, .int .i64 yh] 45)) ba bb bc bx w5.heap.size a b c yl yh yl yh) := ⟨HS5.out.on bl, OB.new _ _ _ _⟩
  obtain ⟨w6, hw6⟩ : ∃ W, W = w5.alloc (Obj.cells #[.int .i64 yl, .int .i64 yh] 45) := ⟨_, rfl⟩
  obtain ⟨by2, hby⟩ : ∃ x, x = w5.heap.size := ⟨_, rfl⟩
  rw [← hw6, ← hby] at HS6
  rw [← hw6, ← hby]
  clear hw6 hby bl HS5
  have x0 := HS6.out.s.X.c0
  have x1 := HS6.out.s.X.c1
  have y0 := HS6.out.Y.c0
  have y1 := HS6.out.Y.c1
  go_upto_region 7 with fail
  by_cases ok : a.ok ∧ b.ok
  · have hy := HY.out
    unfold lenT at hy
    rw [if_pos ok] at hy
    obtain ⟨e1, e2, e3⟩ := three hy
    subst e1; subst e2; subst e3
    have hpq := HP.out ok.1 ok.2
    have hen := ends _ _ _ hpq
    obtain ⟨sq, hsq⟩ : ∃ n, sqL a b = n := ⟨_, rfl⟩
    have bd := sqL_bd ok.1 ok.2
    have CS := fun W => Lib.hid (square_any a b W sq 0 (by unfold sqT; rw [if_pos ok, hsq]))
    rw [hsq] at hpq hen bd
    have p0 := hpq.1.u0
    have q0 := hpq.2.u0
    have pu := hpq.1.u1
    have qu := hpq.2.u1
    have HW : Hid (a.ok → b.ok → c.ok → p ≤ q1 + q2) := fun h1 h2 h3 => way a b c p q1 q2 (by rw [hsq]; exact hpq.1.le) (HP1.out h1 h3).2.ge (HP2.out h3 h2).2.ge (HP1.out h1 h3).2.u0 (HP2.out h3 h2).2.u0
    have HOK := Lib.hid ok
    clear hy HY HP hsq hpq
    have hpp := Int.mul_le_mul pu pu p0 (by omega)
    have hqq := Int.mul_le_mul qu qu q0 (by omega)
    have hpp0 := Int.mul_nonneg p0 p0
    have hqq0 := Int.mul_nonneg q0 q0
    obtain ⟨pp, hpe⟩ : ∃ x, p * p = x := ⟨_, rfl⟩
    obtain ⟨qq, hqe⟩ : ∃ x, q * q = x := ⟨_, rfl⟩
    rw [hpe] at hpp hpp0 hen
    rw [hqe] at hqq hqq0 hen
    have wp : IntKind.i64.wrap (p * p) = pp := by rw [hpe]; exact IntWalk.i64_in _ (by omega)
    have wq : IntKind.i64.wrap (q * q) = qq := by rw [hqe]; exact IntWalk.i64_in _ (by omega)
    have wd : IntKind.i64.wrap (q - p) = q - p := IntWalk.i64_in _ (by omega)
    have hqqn : sq ≤ qq := by
      rcases hen with ⟨h1, h2⟩ | ⟨h1, h2, h3⟩
      · rw [h1] at hqe; omega
      · omega
    have D : Hid (decide (p < 0) = false ∧ decide (1 < q - p) = false ∧ decide (q < p) = false ∧ decide (1073741824 < p) = false ∧ decide (sq < pp) = false ∧ decide (qq < sq) = false) := ⟨decide_eq_false (by omega), decide_eq_false (by omega), decide_eq_false (by omega), decide_eq_false (by omega), decide_eq_false (by omega), decide_eq_false (by omega)⟩
    have D2 : Hid ((decide (p < q) = false) ∨ (decide (p < q) = true ∧ (pp == sq) = false ∧ (qq == sq) = false ∧ ¬ pp = sq ∧ ¬ qq = sq ∧ decide (pp = sq) = false ∧ decide (qq = sq) = false)) := by
      rcases hen with ⟨h1, h2⟩ | ⟨h1, h2, h3⟩
      · exact .inl (decide_eq_false (by omega))
      · exact .inr ⟨decide_eq_true (by omega), by simp; omega, by simp; omega, by omega, by omega, decide_eq_false (by omega), decide_eq_false (by omega)⟩
    clear hen hpp hqq hpp0 hqq0 hpe hqe hqqn bd p0 q0 pu qu ok
    go_upto_region 9 with fail
    have a0 := HS6.out.s.t.A.c0
    have a1 := HS6.out.s.t.A.c1
    have a2 := HS6.out.s.t.A.c2
    have b0 := HS6.out.s.t.B.c0
    have b1 := HS6.out.s.t.B.c1
    have b2 := HS6.out.s.t.B.c2
    have c0 := HS6.out.s.t.C.c0
    have c1 := HS6.out.s.t.C.c1
    have c2 := HS6.out.s.t.C.c2
    go_upto_region 10 with (go_at_call 20; (with_reducible refine ((CS _).out.mono ?_)); rintro e w7 ⟨rfl, hb7⟩; have HS7 := Lib.hid (HS6.out.on hb7); clear hb7 HS6 CS a0 a1 a2 b0 b1 b2 c0 c1 c2 x0 x1 y0 y1)
    have x0 := HS7.out.s.X.c0
    have x1 := HS7.out.s.X.c1
    have d0 := D.out.1
    have d1 := D.out.2.1
    have d2 := D.out.2.2.1
    have d3 := D.out.2.2.2.1
    have d4 := D.out.2.2.2.2.1
    have d5 := D.out.2.2.2.2.2
    go_cut [119] (fun s wx => wx = w7 ∧ s = .bool false)
    case first =>
      rcases D2.out with d6 | ⟨d6, d7, d8, d9, d10, d11, d12⟩
      · go_wp2_with fail
        all_goals first
          | (exfalso; rename_i h1 h2; exact absurd h1 (by simp [undef]))
          | (go_meet; exact ⟨rfl, rfl⟩)
      · go_wp2_with fail
        go_meet
        exact ⟨rfl, rfl⟩
    case rest =>
    obtain ⟨hwc, rfl⟩ := hcut
    have hwc2 := hwc.symm
    subst hwc2
    clear hwc d0 d1 d2 d3 d4 d5 D D2 x0 x1 wp wq wd
    have a0 := HS7.out.s.t.A.c0
    have a1 := HS7.out.s.t.A.c1
    have a2 := HS7.out.s.t.A.c2
    have b0 := HS7.out.s.t.B.c0
    have b1 := HS7.out.s.t.B.c1
    have b2 := HS7.out.s.t.B.c2
    have c0 := HS7.out.s.t.C.c0
    have c1 := HS7.out.s.t.C.c1
    have c2 := HS7.out.s.t.C.c2
    go_upto_region 13 with (go_at_call 21; (with_reducible refine ((CL3 _).out.mono ?_)); rintro e w8 ⟨rfl, hb8⟩; have HS8 := Lib.hid (HS7.out.on hb8); clear hb8 HS7 CL3 a0 a1 a2 b0 b1 b2 c0 c1 c2)
    have bl := below_alloc w8 (Obj.cells #[.int .i64 ul, .int .i64 uh] 45)
    have HS9 : Hid (W2S w (w8.alloc (Obj.cells #[.int .i64 ul, .int .i64 uh] 45)) ba bb bc bx w8.heap.size a b c p q ul uh) := ⟨HS8.out.s.on bl, OB.new _ _ _ _⟩
    obtain ⟨w9, hw9⟩ : ∃ W, W = w8.alloc (Obj.cells #[.int .i64 ul, .int .i64 uh] 45) := ⟨_, rfl⟩
    obtain ⟨bu, hbu⟩ : ∃ x, x = w8.heap.size := ⟨_, rfl⟩
    rw [← hw9, ← hbu] at HS9
    rw [← hw9, ← hbu]
    clear hw9 hbu bl HS8
    have a0 := HS9.out.s.t.A.c0
    have a1 := HS9.out.s.t.A.c1
    have a2 := HS9.out.s.t.A.c2
    have b0 := HS9.out.s.t.B.c0
    have b1 := HS9.out.s.t.B.c1
    have b2 := HS9.out.s.t.B.c2
    have c0 := HS9.out.s.t.C.c0
    have c1 := HS9.out.s.t.C.c1
    have c2 := HS9.out.s.t.C.c2
    go_upto_region 14 with (go_at_call 21; (with_reducible refine ((CL4 _).out.mono ?_)); rintro e w10 ⟨rfl, hb10⟩; have HS10 := Lib.hid (HS9.out.on hb10); clear hb10 HS9 CL4 a0 a1 a2 b0 b1 b2 c0 c1 c2)
    have bl := below_alloc w10 (Obj.cells #[.int .i64 vl, .int .i64 vh] 45)
    have HS11 := Lib.hid (HS10.out.on bl)
    have hV := OB.new w10 (.int .i64 vl) (.int .i64 vh) 45
    obtain ⟨w11, hw11⟩ : ∃ W, W = w10.alloc (Obj.cells #[.int .i64 vl, .int .i64 vh] 45) := ⟨_, rfl⟩
    obtain ⟨bv, hbv⟩ : ∃ x, x = w10.heap.size := ⟨_, rfl⟩
    rw [← hw11] at HS11 hV
    rw [← hbv] at hV
    rw [← hw11, ← hbv]
    clear hw11 hbv bl HS10
    have v1 := hV.c1
    have x0 := HS11.out.s.X.c0
    have u1 := HS11.out.Y.c1
    clear hV
    by_cases okc : c.ok
    · have hu := HU.out
      have hv := HV.out
      unfold lenT at hu hv
      rw [if_pos ⟨HOK.out.1, okc⟩] at hu
      rw [if_pos ⟨okc, HOK.out.2⟩] at hv
      obtain ⟨e1, e2, e3⟩ := three hu
      subst e1; subst e2; subst e3
      obtain ⟨e1, e2, e3⟩ := three hv
      subst e1; subst e2; subst e3
      have hle := HW.out HOK.out.1 HOK.out.2 okc
      have z1 := (HP1.out HOK.out.1 okc).2
      have z2 := (HP2.out okc HOK.out.2).2
      have z3 := z1.u0
      have z4 := z1.u1
      have z5 := z2.u0
      have z6 := z2.u1
      have ws : IntKind.i64.wrap (q1 + q2) = q1 + q2 := IntWalk.i64_in _ (by omega)
      have HD : Hid (decide (p ≤ q1 + q2) = true) := decide_eq_true hle
      clear hu hv HU HV HW HP1 HP2 z1 z2 z3 z4 z5 z6 hle HOK okc
      go_wp2_with fail
      go_ret
      exact ⟨by first | (rw [HD.out]; done) | (simp only [HD.out]; done) | (have := HD.out; simp_all), HS11.out.s.t.st⟩
    · have hu := HU.out
      unfold lenT at hu
      rw [if_neg (fun h => okc h.2)] at hu
      obtain ⟨e1, e2, e3⟩ := three hu
      subst e1; subst e2; subst e3
      clear hu HU HV HW HP1 HP2 HOK okc
      go_wp2_with fail
      go_ret
      exact ⟨rfl, HS11.out.s.t.st⟩
  · have hy := HY.out
    unfold lenT at hy
    rw [if_neg ok] at hy
    obtain ⟨e1, e2, e3⟩ := three hy
    subst e1; subst e2; subst e3
    clear hy HY HU HV HP HP1 HP2 ok
    go_wp2_with fail
    go_ret
    exact ⟨rfl, HS6.out.s.t.st⟩
end Go.Proofs.Ytabpnkpedcgcpaa
