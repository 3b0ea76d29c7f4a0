/- Layer 9: the examples; law PointsLengths. -/
import Derived.Test.YtabpnkpedcgcpaaVR2
namespace Go.Proofs.Ytabpnkpedcgcpaa
open Go.ChangeShapes Go.WideShapes Go.ChangeAt Go.RowKit Go.Joins Go.Deep Go.Shelf
set_option linter.unusedVariables false

set_option maxRecDepth 100000 in
set_option maxHeartbeats 8000000 in
theorem pawake_any (w : World) : Calls Try.prog 19 #[] w fun e w' => e = .returned (.bool true) ∧ Below w.heap.size w w' := by
  have C1 : ∀ W, Hid (Calls Try.prog 20 #[.agg #[.int .i64 0, .int .i64 0, .int .i64 0], .agg #[.int .i64 3, .int .i64 4, .int .i64 12]] W fun r w' => r = .returned (.tuple #[.int .i64 169, .int .i64 0]) ∧ Below W.heap.size W w') := fun W => square_any ⟨0, 0, 0⟩ ⟨3, 4, 12⟩ W 169 0 (by decide)
  have C2 : ∀ W, Hid (Calls Try.prog 21 #[.agg #[.int .i64 0, .int .i64 0, .int .i64 0], .agg #[.int .i64 3, .int .i64 4, .int .i64 12]] W fun r w' => r = .returned (.tuple #[.agg #[.int .i64 13, .int .i64 13], .int .i64 0]) ∧ Below W.heap.size W w') := fun W => length_any ⟨0, 0, 0⟩ ⟨3, 4, 12⟩ 13 13 W (fun _ _ => ⟨⟨by omega, by omega, by decide, by decide⟩, ⟨by omega, by omega, by decide, .inr (by decide)⟩⟩) 13 13 0 (by decide)
  have C3 : ∀ W, Hid (Calls Try.prog 21 #[.agg #[.int .i64 0, .int .i64 0, .int .i64 0], .agg #[.int .i64 1, .int .i64 1, .int .i64 0]] W fun r w' => r = .returned (.tuple #[.agg #[.int .i64 1, .int .i64 2], .int .i64 0]) ∧ Below W.heap.size W w') := fun W => length_any ⟨0, 0, 0⟩ ⟨1, 1, 0⟩ 1 2 W (fun _ _ => ⟨⟨by omega, by omega, by decide, by decide⟩, ⟨by omega, by omega, by decide, .inr (by decide)⟩⟩) 1 2 0 (by decide)
  go_enter Try.func19, Try.ntmps19
  go_upto_region 2 with (go_at_call 20; (with_reducible refine ((C1 _).out.mono ?_)); rintro e w1 ⟨rfl, hb1⟩; have HB1 := Lib.hid hb1; clear hb1)
  go_upto_region 3 with (go_at_call 21; (with_reducible refine ((C2 _).out.mono ?_)); rintro e w2 ⟨rfl, hb2⟩; have HB2 := Lib.hid (below_on HB1.out hb2); clear hb2)
  have HB3 := Lib.hid (below_on HB2.out (below_alloc w2 (Obj.cells #[.int .i64 13, .int .i64 13] 45)))
  have hX := OB.new w2 (.int .i64 13) (.int .i64 13) 45
  obtain ⟨w3, hw3⟩ : ∃ W, W = w2.alloc (Obj.cells #[.int .i64 13, .int .i64 13] 45) := ⟨_, rfl⟩
  obtain ⟨bx, hbx⟩ : ∃ x, x = w2.heap.size := ⟨_, rfl⟩
  rw [← hw3] at HB3 hX
  rw [← hbx] at hX
  rw [← hw3, ← hbx]
  have HX := Lib.hid hX
  clear hw3 hbx hX HB1 HB2
  go_upto_region 4 with (go_at_call 21; (with_reducible refine ((C3 _).out.mono ?_)); rintro e w4 ⟨rfl, hb4⟩; have HB4 := Lib.hid (below_on HB3.out hb4); have HX4 := Lib.hid (HX.out.on hb4); clear hb4)
  have bl := below_alloc w4 (Obj.cells #[.int .i64 1, .int .i64 2] 45)
  have HB5 := Lib.hid (below_on HB4.out bl)
  have hY := OB.new w4 (.int .i64 1) (.int .i64 2) 45
  have hX5 := HX4.out.on bl
  obtain ⟨w5, hw5⟩ : ∃ W, W = w4.alloc (Obj.cells #[.int .i64 1, .int .i64 2] 45) := ⟨_, rfl⟩
  obtain ⟨by2, hby⟩ : ∃ x, x = w4.heap.size := ⟨_, rfl⟩
  rw [← hw5] at HB5 hX5 hY
  rw [← hby] at hY
  rw [← hw5, ← hby]
  have x0 := hX5.c0
  have x1 := hX5.c1
  have y0 := hY.c0
  have y1 := hY.c1
  clear hw5 hby bl HX HX4 HB3 HB4 hX5 hY C1 C2 C3
  go_wp2_with fail
  go_ret
  exact ⟨rfl, HB5.out⟩

structure LenS (w W : World) (ba bb bx bz : Nat) (a b : Pt) (xl xh zl zh : Int) : Prop where
  st : Below w.heap.size w W
  A : B3 W ba a.x a.y a.z
  B : B3 W bb b.x b.y b.z
  X : OB W bx (.int .i64 xl) (.int .i64 xh)
  Z : OB W bz (.int .i64 zl) (.int .i64 zh)
theorem LenS.on {w W W2 : World} {ba bb bx bz : Nat} {a b : Pt} {xl xh zl zh : Int} (h : LenS w W ba bb bx bz a b xl xh zl zh) (hb : Below W.heap.size W W2) : LenS w W2 ba bb bx bz a b xl xh zl zh :=
  ⟨below_on h.st hb, h.A.on hb, h.B.on hb, h.X.on hb, h.Z.on hb⟩
theorem rt_ex (n : Int) : ∃ u v, 0 ≤ n → n ≤ 1152921504606846976 → FlR n u ∧ ClR n v := by
  by_cases h : 0 ≤ n ∧ n ≤ 1152921504606846976
  · obtain ⟨u, hu⟩ := flR_ex n h.1 h.2
    obtain ⟨v, hv⟩ := clR_ex n h.1 h.2
    exact ⟨u, v, fun _ _ => ⟨hu, hv⟩⟩
  · exact ⟨0, 0, fun h1 h2 => absurd ⟨h1, h2⟩ h⟩
theorem ln_ex (a b : Pt) : ∃ u v, a.ok → b.ok → FlR (sqL a b) u ∧ ClR (sqL a b) v := by
  obtain ⟨u, v, h⟩ := rt_ex (sqL a b)
  exact ⟨u, v, fun ha hb => by have := sqL_bd ha hb; exact h (by omega) (by omega)⟩
structure Vl9R (bz : Nat) (n u zh : Int) (Wc : World) (L : Nat → Bool) (v : Nat → Value) (W : World) : Prop where
  st : Below Wc.heap.size Wc W
  w2 : Had L 2 (∀ j ∈ [1], L j = true)
  w3 : Had L 3 (∀ j ∈ [0, 2], L j = true)
  w4 : Had L 4 (∀ j ∈ [3], L j = true)
  w5 : Had L 5 (∀ j ∈ [4], L j = true)
  w6 : Had L 6 (∀ j ∈ [4, 5], L j = true)
  w7 : Had L 7 (∀ j ∈ [4, 6], L j = true)
  f0 : Had L 0 (v 45 = .agg #[.int .i64 u, .int .i64 zh])
  f1 : Had L 1 (v 46 = .int .i64 n)
  f2 : Had L 2 (v 47 = .agg #[.int .i64 u, .int .i64 zh])
  f3 : Had L 3 (v 48 = .bool false)
  f4 : Had L 4 (v 49 = .bool false)
  f5 : Had L 5 (v 50 = .int .i64 0)
  f6 : Had L 6 (v 51 = .bool false)
  f7 : Had L 7 (v 52 = .bool false)
structure Vl11R (ba bb : Nat) (a b : Pt) (ta tb : Bool) (Wc : World) (L : Nat → Bool) (v : Nat → Value) (W : World) : Prop where
  st : Below Wc.heap.size Wc W
  w1 : Had L 1 (∀ j ∈ [0], L j = true)
  w3 : Had L 3 (∀ j ∈ [2], L j = true)
  w4 : Had L 4 (∀ j ∈ [1, 3], L j = true)
  w5 : Had L 5 (∀ j ∈ [4], L j = true)
  w6 : Had L 6 (∀ j ∈ [5], L j = true)
  w7 : Had L 7 (∀ j ∈ [5, 6], L j = true)
  w8 : Had L 8 (∀ j ∈ [5], L j = true)
  w9 : Had L 9 (∀ j ∈ [5, 8], L j = true)
  w10 : Had L 10 (∀ j ∈ [5, 7, 9], L j = true)
  w11 : Had L 11 (∀ j ∈ [5, 10], L j = true)
  f0 : Had L 0 (v 53 = .agg #[.int .i64 a.x, .int .i64 a.y, .int .i64 a.z])
  f1 : Had L 1 (v 54 = .bool ta)
  f2 : Had L 2 (v 55 = .agg #[.int .i64 a.x, .int .i64 a.y, .int .i64 a.z])
  f3 : Had L 3 (v 56 = .bool ta)
  f4 : Had L 4 (v 57 = .bool false)
  f5 : Had L 5 (v 58 = .bool false)
  f6 : Had L 6 (v 59 = .agg #[.int .i64 b.x, .int .i64 b.y, .int .i64 b.z])
  f7 : Had L 7 (v 60 = .bool tb)
  f8 : Had L 8 (v 61 = .agg #[.int .i64 b.x, .int .i64 b.y, .int .i64 b.z])
  f9 : Had L 9 (v 62 = .bool tb)
  f10 : Had L 10 (v 63 = .bool false)
  f11 : Had L 11 (v 64 = .bool false)
structure Vl15R (ba bb bx : Nat) (a b : Pt) (xs p q : Int) (Wc : World) (L : Nat → Bool) (v : Nat → Value) (W : World) : Prop where
  st : Below Wc.heap.size Wc W
  w3 : Had L 3 (∀ j ∈ [1, 2], L j = true)
  w4 : Had L 4 (∀ j ∈ [0, 3], L j = true)
  w5 : Had L 5 (∀ j ∈ [4], L j = true)
  w6 : Had L 6 (∀ j ∈ [5], L j = true)
  w7 : Had L 7 (∀ j ∈ [5, 6], L j = true)
  w8 : Had L 8 (∀ j ∈ [5, 7], L j = true)
  w9 : Had L 9 (∀ j ∈ [8], L j = true)
  w10 : Had L 10 (∀ j ∈ [9], L j = true)
  w11 : Had L 11 (∀ j ∈ [9], L j = true)
  w12 : Had L 12 (∀ j ∈ [9], L j = true)
  w13 : Had L 13 (∀ j ∈ [9, 11, 12], L j = true)
  w14 : Had L 14 (∀ j ∈ [9, 13], L j = true)
  w15 : Had L 15 (∀ j ∈ [9, 10, 14], L j = true)
  w16 : Had L 16 (∀ j ∈ [9, 15], L j = true)
  w17 : Had L 17 (∀ j ∈ [16], L j = true)
  w18 : Had L 18 (∀ j ∈ [17], L j = true)
  w19 : Had L 19 (∀ j ∈ [17, 18], L j = true)
  w20 : Had L 20 (∀ j ∈ [17, 19], L j = true)
  w21 : Had L 21 (∀ j ∈ [20], L j = true)
  f0 : Had L 0 (v 88 = .int .i64 xs)
  f1 : Had L 1 (v 89 = .agg #[.int .i64 a.x, .int .i64 a.y, .int .i64 a.z])
  f2 : Had L 2 (v 90 = .agg #[.int .i64 b.x, .int .i64 b.y, .int .i64 b.z])
  f3 : Had L 3 (v 91 = .int .i64 xs)
  f4 : Had L 4 (v 92 = .bool true)
  f5 : Had L 5 (v 93 = .bool true)
  f6 : Had L 6 (v 94 = .int .i64 0)
  f7 : Had L 7 (v 95 = .bool true)
  f8 : Had L 8 (v 96 = .bool true)
  f9 : Had L 9 (v 97 = .bool true)
  f10 : Had L 10 (v 98 = .agg #[.int .i64 p, .int .i64 q])
  f11 : Had L 11 (v 99 = .agg #[.int .i64 a.x, .int .i64 a.y, .int .i64 a.z])
  f12 : Had L 12 (v 100 = .agg #[.int .i64 b.x, .int .i64 b.y, .int .i64 b.z])
  f13 : Had L 13 (v 101 = .int .i64 xs)
  f14 : Had L 14 (v 102 = .agg #[.int .i64 p, .int .i64 q])
  f15 : Had L 15 (v 103 = .bool true)
  f16 : Had L 16 (v 104 = .bool true)
  f17 : Had L 17 (v 105 = .bool true)
  f18 : Had L 18 (v 106 = .int .i64 0)
  f19 : Had L 19 (v 107 = .bool true)
  f20 : Had L 20 (v 108 = .bool true)
  f21 : Had L 21 (v 6 = .bool true)
set_option maxRecDepth 100000 in
set_option maxHeartbeats 32000000 in
theorem lengths_walk (a b : Pt) (n : Int) (w : World) (_ : PI a) (_ : PI b) (n0 : -9223372036854775808 ≤ n) (n1 : n ≤ 9223372036854775807) :
    Calls Try.prog 4 #[.agg #[.int .i64 a.x, .int .i64 a.y, .int .i64 a.z], .agg #[.int .i64 b.x, .int .i64 b.y, .int .i64 b.z], .int .i64 n] w fun e w' => e = .returned (.bool true) ∧ Below w.heap.size w w' := by
  obtain ⟨u, v', hu⟩ := rt_ex n
  obtain ⟨p, q, hp⟩ := ln_ex a b
  have CA := fun W => Lib.hid (pawake_any W)
  obtain ⟨xs, xe, hs⟩ : ∃ n e, sqT a b = (n, e) := ⟨_, _, rfl⟩
  have CS := fun W => Lib.hid (square_any a b W xs xe hs)
  obtain ⟨yl, yh, ye, hy⟩ : ∃ n d e, lenT a b p q = (n, d, e) := ⟨(lenT a b p q).1, (lenT a b p q).2.1, (lenT a b p q).2.2, rfl⟩
  have CL := fun W => Lib.hid (length_any a b p q W hp yl yh ye hy)
  obtain ⟨zl, zh, ze, hz⟩ : ∃ x y e, rtT n u v' = (x, y, e) := ⟨(rtT n u v').1, (rtT n u v').2.1, (rtT n u v').2.2, rfl⟩
  have CR := fun W => Lib.hid (proot_any n u v' W hu zl zh ze hz)
  have CV1 := fun W => Lib.hid (pVd_any a W)
  have CV2 := fun W => Lib.hid (pVd_any b W)
  have CV3 := fun W => Lib.hid (rVal_any a W)
  have CV4 := fun W => Lib.hid (rVal_any b W)
  obtain ⟨ta, hta⟩ : ∃ t, vdB a = t := ⟨_, rfl⟩
  obtain ⟨tb, htb⟩ : ∃ t, vdB b = t := ⟨_, rfl⟩
  rw [hta] at CV1 CV3
  rw [htb] at CV2 CV4
  have HTA : Hid (ta = true ↔ a.ok) := by show ta = true ↔ a.ok; rw [← hta]; unfold vdB; simp
  have HTB : Hid (tb = true ↔ b.ok) := by show tb = true ↔ b.ok; rw [← htb]; unfold vdB; simp
  have HU := Lib.hid hu
  have HP := Lib.hid hp
  have HSQ := Lib.hid hs
  have HLN := Lib.hid hy
  have HRT := Lib.hid hz
  obtain ⟨w1, hw1⟩ : ∃ W, W = (w.alloc (Obj.cells #[.int .i64 a.x, .int .i64 a.y, .int .i64 a.z] 41)).alloc (Obj.cells #[.int .i64 b.x, .int .i64 b.y, .int .i64 b.z] 41) := ⟨_, rfl⟩
  obtain ⟨hb1, hA, hB⟩ := two_boxes w a b _ _ w1 hw1
  obtain ⟨ba, hba⟩ : ∃ x, x = w.heap.size := ⟨_, rfl⟩
  obtain ⟨bb, hbb⟩ : ∃ x, x = w.heap.size + 1 := ⟨_, rfl⟩
  have HN : Hid (ba = w.heap.size ∧ bb = w.heap.size + 1 ∧ w1 = (w.alloc (Obj.cells #[.int .i64 a.x, .int .i64 a.y, .int .i64 a.z] 41)).alloc (Obj.cells #[.int .i64 b.x, .int .i64 b.y, .int .i64 b.z] 41)) := ⟨hba, hbb, hw1⟩
  rw [← hba] at hA
  rw [← hbb] at hB
  have HB1 := Lib.hid hb1
  have HA1 := Lib.hid hA
  have HBB1 := Lib.hid hB
  clear hA hB hb1 hba hbb hw1 hta htb hu hp hs hy hz
  go_enter Try.func4, Try.ntmps4
  go_upto_region 1 with fail
  rw [← HN.out.2.2, ← HN.out.2.1, ← HN.out.1]
  clear HN
  go_upto_region 3 with (go_at_call 19; (with_reducible refine ((CA _).out.mono ?_)); rintro e w2 ⟨rfl, hb2⟩; have HB2 := Lib.hid (below_on HB1.out hb2); have HA2 := Lib.hid (HA1.out.on hb2); have HBB2 := Lib.hid (HBB1.out.on hb2); clear hb2 HB1 HA1 HBB1 CA)
  have a0 := HA2.out.c0
  have a1 := HA2.out.c1
  have a2 := HA2.out.c2
  have b0 := HBB2.out.c0
  have b1 := HBB2.out.c1
  have b2 := HBB2.out.c2
  go_upto_region 4 with (go_at_call 20; (with_reducible refine ((CS _).out.mono ?_)); rintro e w3 ⟨rfl, hb3⟩; have HB3 := Lib.hid (below_on HB2.out hb3); have HA3 := Lib.hid (HA2.out.on hb3); have HBB3 := Lib.hid (HBB2.out.on hb3); clear hb3 HB2 HA2 HBB2 CS a0 a1 a2 b0 b1 b2)
  have a0 := HA3.out.c0
  have a1 := HA3.out.c1
  have a2 := HA3.out.c2
  have b0 := HBB3.out.c0
  have b1 := HBB3.out.c1
  have b2 := HBB3.out.c2
  go_upto_region 5 with (go_at_call 21; (with_reducible refine ((CL _).out.mono ?_)); rintro e w4 ⟨rfl, hb4⟩; have HB4 := Lib.hid (below_on HB3.out hb4); have HA4 := Lib.hid (HA3.out.on hb4); have HBB4 := Lib.hid (HBB3.out.on hb4); clear hb4 HB3 HA3 HBB3 CL a0 a1 a2 b0 b1 b2)
  have bl := below_alloc w4 (Obj.cells #[.int .i64 yl, .int .i64 yh] 45)
  have HB5 := Lib.hid (below_on HB4.out bl)
  have HA5 := Lib.hid (HA4.out.on bl)
  have HBB5 := Lib.hid (HBB4.out.on bl)
  have HX5 := Lib.hid (OB.new w4 (.int .i64 yl) (.int .i64 yh) 45)
  obtain ⟨w5, hw5⟩ : ∃ W, W = w4.alloc (Obj.cells #[.int .i64 yl, .int .i64 yh] 45) := ⟨_, rfl⟩
  obtain ⟨bx, hbx⟩ : ∃ x, x = w4.heap.size := ⟨_, rfl⟩
  rw [← hw5] at HB5 HA5 HBB5 HX5
  rw [← hbx] at HX5
  rw [← hw5, ← hbx]
  clear hw5 hbx bl HB4 HA4 HBB4
  go_upto_region 6 with (go_at_call 22; (with_reducible refine ((CR _).out.mono ?_)); rintro e w6 ⟨rfl, hb6⟩; have HB6 := Lib.hid (below_on HB5.out hb6); have HA6 := Lib.hid (HA5.out.on hb6); have HBB6 := Lib.hid (HBB5.out.on hb6); have HX6 := Lib.hid (HX5.out.on hb6); clear hb6 HB5 HA5 HBB5 HX5 CR)
  have bl := below_alloc w6 (Obj.cells #[.int .i64 zl, .int .i64 zh] 45)
  have hZ := OB.new w6 (.int .i64 zl) (.int .i64 zh) 45
  have HS7 : Hid (LenS w (w6.alloc (Obj.cells #[.int .i64 zl, .int .i64 zh] 45)) ba bb bx w6.heap.size a b yl yh zl zh) := ⟨below_on HB6.out bl, HA6.out.on bl, HBB6.out.on bl, HX6.out.on bl, hZ⟩
  obtain ⟨w7, hw7⟩ : ∃ W, W = w6.alloc (Obj.cells #[.int .i64 zl, .int .i64 zh] 45) := ⟨_, rfl⟩
  obtain ⟨bz, hbz⟩ : ∃ x, x = w6.heap.size := ⟨_, rfl⟩
  rw [← hw7, ← hbz] at HS7
  rw [← hw7, ← hbz]
  clear hw7 hbz bl hZ HB6 HA6 HBB6 HX6
  obtain ⟨nbB, hnb⟩ : ∃ t : Bool, decide (n < 0 ∨ 1152921504606846976 < n) = t := ⟨_, rfl⟩
  have HNB : Hid (nbB = true ↔ (n < 0 ∨ 1152921504606846976 < n)) := by show nbB = true ↔ _; rw [← hnb]; exact decide_eq_true_iff
  clear hnb
  go_cut [37] (fun s37 wx => wx = w7 ∧ s37 = .bool nbB)
  case first =>
    by_cases n2 : n < 0
    · have d0 : decide (n < 0) = true := decide_eq_true n2
      have hb : nbB = true := HNB.out.2 (.inl n2)
      subst hb
      clear n2
      go_wp2_with fail
      go_meet
      exact ⟨rfl, rfl⟩
    · have d0 : decide (n < 0) = false := decide_eq_false n2
      by_cases n3 : 1152921504606846976 < n
      · have d1 : decide (1152921504606846976 < n) = true := decide_eq_true n3
        have hb : nbB = true := HNB.out.2 (.inr n3)
        subst hb
        clear n2 n3
        go_wp2_with fail
        go_meet
        exact ⟨rfl, rfl⟩
      · have d1 : decide (1152921504606846976 < n) = false := decide_eq_false n3
        have hb : nbB = false := by cases h : nbB; · rfl
                                    · have := HNB.out.1 h; omega
        subst hb
        clear n2 n3
        go_wp2_with fail
        go_meet
        exact ⟨rfl, rfl⟩
  case rest =>
  obtain ⟨hwc, rfl⟩ := hcut
  have hwc2 := hwc.symm
  subst hwc2
  go_upto_if 37 with fail
  go_cut [] (fun wx => Hid (LenS w wx ba bb bx bz a b yl yh zl zh))
  case first =>
    cases nbB
    · have nb : ¬ (n < 0 ∨ 1152921504606846976 < n) := fun h => by have := HNB.out.2 h; cases this
      have hz := HRT.out
      unfold rtT at hz
      rw [if_neg nb] at hz
      obtain ⟨q1, q2, q3⟩ := three hz
      subst q1; subst q2; subst q3
      obtain ⟨hu1, hv1⟩ := HU.out (by omega) (by omega)
      have CRR := fun W => Lib.hid (rRt_any n u v' W hu1 hv1 (by omega))
      have LZ0 := Lib.hid (And.intro HS7.out.Z.c0 HS7.out.Z.lt)
      have LZ1 := Lib.hid (And.intro HS7.out.Z.c1 HS7.out.Z.lt)
      clear hz nb HRT hu1 hv1
      go_upto_region 9 with fail
      refine wp_region_each (fun L A W => ∃ (v : Nat → Value), A = ⟨#[_, _, _, _, _, _, _, _, _, _, _, _, _, _, _, _, _, _, _, _, _, _, _, _, _, _, _, _, _, _, _, _, _, _, _, _, _, _, _, _, _, _, _, _, _, v 45, v 46, v 47, v 48, v 49, v 50, v 51, v 52, _, _, _, _, _, _, _, _, _, _, _, _, _, _, _, _, _, _, _, _, _, _, _, _, _, _, _, _, _, _, _, _, _, _, _, _, _, _, _, _, _, _, _, _, _, _, _, _, _, _, _, _, _, _, _, _], []⟩ ∧ Vl9R bz n u v' w7 L v W) (by kernel_rfl) (by kernel_rfl) ⟨fun jz => if jz = 45 then u45 else if jz = 46 then u46 else if jz = 47 then u47 else if jz = 48 then u48 else if jz = 49 then u49 else if jz = 50 then u50 else if jz = 51 then u51 else if jz = 52 then u52 else undef, rfl, ⟨Below.drew (Below.refl _ _), Had.none, Had.none, Had.none, Had.none, Had.none, Had.none, Had.none, Had.none, Had.none, Had.none, Had.none, Had.none, Had.none, Had.none⟩⟩ (rs := [0, 1, 2, 3, 4, 5, 6, 7]) (by kernel_rfl) ?_ ?_
      · refine EachOf.cons [] rfl (by kernel_rfl) ?_ ?_
        · rintro L A W ⟨v, rfl, hR⟩ hi hw K hK
          have q0 := (hR.st.cell (p := ⟨bz, 0, none⟩) LZ0.out.2).trans LZ0.out.1
          have q1 := (hR.st.cell (p := ⟨bz, 1, none⟩) LZ1.out.2).trans LZ1.out.1
          go_simp
          refine hK.out _ _ ?_
          exact ⟨(fun jz => if jz = 45 then .agg #[.int .i64 u, .int .i64 v'] else v jz), rfl, ⟨hR.st, hR.w2.o, hR.w3.o, hR.w4.o, hR.w5.o, hR.w6.o, hR.w7.o, (fun _ => rfl), hR.f1.k, hR.f2.k, hR.f3.k, hR.f4.k, hR.f5.k, hR.f6.k, hR.f7.k⟩⟩
        refine EachOf.cons [] rfl (by kernel_rfl) ?_ ?_
        · rintro L A W ⟨v, rfl, hR⟩ hi hw K hK
          go_simp
          refine hK.out _ _ ?_
          exact ⟨(fun jz => if jz = 46 then .int .i64 n else v jz), rfl, ⟨hR.st, hR.w2.o, hR.w3.o, hR.w4.o, hR.w5.o, hR.w6.o, hR.w7.o, hR.f0.k, (fun _ => rfl), hR.f2.k, hR.f3.k, hR.f4.k, hR.f5.k, hR.f6.k, hR.f7.k⟩⟩
        refine EachOf.cons [1] rfl (by kernel_rfl) ?_ ?_
        · rintro L A W ⟨v, rfl, hR⟩ hi hw K hK
          have e1 := hR.f1 (hw 1 (by simp))
          simp only [e1]
          clear e1
          go_simp
          go_at_call 23
          (with_reducible refine ((CRR _).out).mono ?_)
          rintro e w2 ⟨rfl, hb⟩
          go_simp
          refine hK.out _ _ ?_
          exact ⟨(fun jz => if jz = 46 then .int .i64 n else if jz = 47 then .agg #[.int .i64 u, .int .i64 v'] else v jz), rfl, ⟨below_on hR.st hb, (fun _ j hj => upd_on (hw j hj)), hR.w3.o, hR.w4.o, hR.w5.o, hR.w6.o, hR.w7.o, hR.f0.k, (fun _ => rfl), (fun _ => rfl), hR.f3.k, hR.f4.k, hR.f5.k, hR.f6.k, hR.f7.k⟩⟩
        refine EachOf.cons [0, 2] rfl (by kernel_rfl) ?_ ?_
        · rintro L A W ⟨v, rfl, hR⟩ hi hw K hK
          have e0 := hR.f0 (hw 0 (by simp))
          have e2 := hR.f2 (hw 2 (by simp))
          simp only [e0, e2]
          clear e0 e2
          go_simp
          refine hK.out _ _ ?_
          exact ⟨(fun jz => if jz = 45 then .agg #[.int .i64 u, .int .i64 v'] else if jz = 47 then .agg #[.int .i64 u, .int .i64 v'] else if jz = 48 then .bool false else v jz), rfl, ⟨hR.st, hR.w2.o, (fun _ j hj => upd_on (hw j hj)), hR.w4.o, hR.w5.o, hR.w6.o, hR.w7.o, (fun _ => rfl), hR.f1.k, (fun _ => rfl), (fun _ => rfl), hR.f4.k, hR.f5.k, hR.f6.k, hR.f7.k⟩⟩
        refine EachOf.cons [3] rfl (by kernel_rfl) ?_ ?_
        · rintro L A W ⟨v, rfl, hR⟩ hi hw K hK
          have e3 := hR.f3 (hw 3 (by simp))
          simp only [e3]
          clear e3
          go_simp
          refine hK.out _ _ ?_
          exact ⟨(fun jz => if jz = 48 then .bool false else if jz = 49 then .bool false else v jz), rfl, ⟨hR.st, hR.w2.o, hR.w3.o, (fun _ j hj => upd_on (hw j hj)), hR.w5.o, hR.w6.o, hR.w7.o, hR.f0.k, hR.f1.k, hR.f2.k, (fun _ => rfl), (fun _ => rfl), hR.f5.k, hR.f6.k, hR.f7.k⟩⟩
        refine EachOf.cons [4] rfl (by kernel_rfl) ?_ ?_
        · rintro L A W ⟨v, rfl, hR⟩ hi hw K hK
          have e4 := hR.f4 (hw 4 (by simp))
          simp only [e4]
          clear e4
          go_simp
          refine hK.out _ _ ?_
          exact ⟨(fun jz => if jz = 49 then .bool false else if jz = 50 then .int .i64 0 else v jz), rfl, ⟨hR.st, hR.w2.o, hR.w3.o, hR.w4.o, (fun _ j hj => upd_on (hw j hj)), hR.w6.o, hR.w7.o, hR.f0.k, hR.f1.k, hR.f2.k, hR.f3.k, (fun _ => rfl), (fun _ => rfl), hR.f6.k, hR.f7.k⟩⟩
        refine EachOf.cons [4, 5] rfl (by kernel_rfl) ?_ ?_
        · rintro L A W ⟨v, rfl, hR⟩ hi hw K hK
          have e5 := hR.f5 (hw 5 (by simp))
          have e4 := hR.f4 (hw 4 (by simp))
          simp only [e5, e4]
          clear e5 e4
          go_simp
          refine hK.out _ _ ?_
          exact ⟨(fun jz => if jz = 50 then .int .i64 0 else if jz = 49 then .bool false else if jz = 51 then .bool false else v jz), rfl, ⟨hR.st, hR.w2.o, hR.w3.o, hR.w4.o, hR.w5.o, (fun _ j hj => upd_on (hw j hj)), hR.w7.o, hR.f0.k, hR.f1.k, hR.f2.k, hR.f3.k, (fun _ => rfl), (fun _ => rfl), (fun _ => rfl), hR.f7.k⟩⟩
        refine EachOf.cons [4, 6] rfl (by kernel_rfl) ?_ ?_
        · rintro L A W ⟨v, rfl, hR⟩ hi hw K hK
          have e4 := hR.f4 (hw 4 (by simp))
          have e6 := hR.f6 (hw 6 (by simp))
          simp only [e4, e6]
          clear e4 e6
          go_simp
          refine hK.out _ _ ?_
          exact ⟨(fun jz => if jz = 49 then .bool false else if jz = 51 then .bool false else if jz = 52 then .bool false else v jz), rfl, ⟨hR.st, hR.w2.o, hR.w3.o, hR.w4.o, hR.w5.o, hR.w6.o, (fun _ j hj => upd_on (hw j hj)), hR.f0.k, hR.f1.k, hR.f2.k, hR.f3.k, (fun _ => rfl), hR.f5.k, (fun _ => rfl), (fun _ => rfl)⟩⟩
        exact EachOf.nil
      rintro L A W8 ⟨vs, rfl, hR⟩ hL
      have e7 := hR.f7 (hL 7 (by simp))
      simp only [e7]
      have HS8 := Lib.hid (HS7.out.on hR.st)
      clear hR hL e7 LZ0 LZ1 HS7
      go_wp2_with fail
      go_meet
      exact HS8
    · have nb := HNB.out.1 rfl
      have z0 := HS7.out.Z.c0
      have z1 := HS7.out.Z.c1
      have hz := HRT.out
      unfold rtT at hz
      rw [if_pos nb] at hz
      obtain ⟨q1, q2, q3⟩ := three hz
      subst q1; subst q2; subst q3
      clear hz nb HRT
      go_wp2_with fail
      go_meet
      exact HS7
  case rest =>
  rename World => w8
  have HS8 := hcut
  clear hcut HRT HU HS7 HNB
  have LA0 := Lib.hid (And.intro HS8.out.A.c0 HS8.out.A.lt)
  have LA1 := Lib.hid (And.intro HS8.out.A.c1 HS8.out.A.lt)
  have LA2 := Lib.hid (And.intro HS8.out.A.c2 HS8.out.A.lt)
  have LB0 := Lib.hid (And.intro HS8.out.B.c0 HS8.out.B.lt)
  have LB1 := Lib.hid (And.intro HS8.out.B.c1 HS8.out.B.lt)
  have LB2 := Lib.hid (And.intro HS8.out.B.c2 HS8.out.B.lt)
  go_upto_region 11 with fail
  refine wp_region_each (fun L A W => ∃ (v : Nat → Value), A = ⟨#[_, _, _, _, _, _, _, _, _, _, _, _, _, _, _, _, _, _, _, _, _, _, _, _, _, _, _, _, _, _, _, _, _, _, _, _, _, _, _, _, _, _, _, _, _, _, _, _, _, _, _, _, _, v 53, v 54, v 55, v 56, v 57, v 58, v 59, v 60, v 61, v 62, v 63, v 64, _, _, _, _, _, _, _, _, _, _, _, _, _, _, _, _, _, _, _, _, _, _, _, _, _, _, _, _, _, _, _, _, _, _, _, _, _, _, _, _, _, _, _, _], []⟩ ∧ Vl11R ba bb a b ta tb w8 L v W) (by kernel_rfl) (by kernel_rfl) ⟨fun jz => if jz = 53 then u53 else if jz = 54 then u54 else if jz = 55 then u55 else if jz = 56 then u56 else if jz = 57 then u57 else if jz = 58 then u58 else if jz = 59 then u59 else if jz = 60 then u60 else if jz = 61 then u61 else if jz = 62 then u62 else if jz = 63 then u63 else if jz = 64 then u64 else undef, rfl, ⟨Below.drew (Below.refl _ _), Had.none, Had.none, Had.none, Had.none, Had.none, Had.none, Had.none, Had.none, Had.none, Had.none, Had.none, Had.none, Had.none, Had.none, Had.none, Had.none, Had.none, Had.none, Had.none, Had.none, Had.none, Had.none⟩⟩ (rs := [0, 1, 2, 3, 4, 5, 6, 7, 8, 9, 10, 11]) (by kernel_rfl) ?_ ?_
  · refine EachOf.cons [] rfl (by kernel_rfl) ?_ ?_
    · rintro L A W ⟨v, rfl, hR⟩ hi hw K hK
      have q0 := (hR.st.cell (p := ⟨ba, 0, none⟩) LA0.out.2).trans LA0.out.1
      have q1 := (hR.st.cell (p := ⟨ba, 1, none⟩) LA1.out.2).trans LA1.out.1
      have q2 := (hR.st.cell (p := ⟨ba, 2, none⟩) LA2.out.2).trans LA2.out.1
      go_simp
      refine hK.out _ _ ?_
      exact ⟨(fun jz => if jz = 53 then .agg #[.int .i64 a.x, .int .i64 a.y, .int .i64 a.z] else v jz), rfl, ⟨hR.st, hR.w1.o, hR.w3.o, hR.w4.o, hR.w5.o, hR.w6.o, hR.w7.o, hR.w8.o, hR.w9.o, hR.w10.o, hR.w11.o, (fun _ => rfl), hR.f1.k, hR.f2.k, hR.f3.k, hR.f4.k, hR.f5.k, hR.f6.k, hR.f7.k, hR.f8.k, hR.f9.k, hR.f10.k, hR.f11.k⟩⟩
    refine EachOf.cons [0] rfl (by kernel_rfl) ?_ ?_
    · rintro L A W ⟨v, rfl, hR⟩ hi hw K hK
      have e0 := hR.f0 (hw 0 (by simp))
      simp only [e0]
      clear e0
      go_simp
      go_at_call 24
      (with_reducible refine ((CV1 _).out).mono ?_)
      rintro e w2 ⟨rfl, hb⟩
      go_simp
      refine hK.out _ _ ?_
      exact ⟨(fun jz => if jz = 53 then .agg #[.int .i64 a.x, .int .i64 a.y, .int .i64 a.z] else if jz = 54 then .bool ta else v jz), rfl, ⟨below_on hR.st hb, (fun _ j hj => upd_on (hw j hj)), hR.w3.o, hR.w4.o, hR.w5.o, hR.w6.o, hR.w7.o, hR.w8.o, hR.w9.o, hR.w10.o, hR.w11.o, (fun _ => rfl), (fun _ => rfl), hR.f2.k, hR.f3.k, hR.f4.k, hR.f5.k, hR.f6.k, hR.f7.k, hR.f8.k, hR.f9.k, hR.f10.k, hR.f11.k⟩⟩
    refine EachOf.cons [] rfl (by kernel_rfl) ?_ ?_
    · rintro L A W ⟨v, rfl, hR⟩ hi hw K hK
      have q0 := (hR.st.cell (p := ⟨ba, 0, none⟩) LA0.out.2).trans LA0.out.1
      have q1 := (hR.st.cell (p := ⟨ba, 1, none⟩) LA1.out.2).trans LA1.out.1
      have q2 := (hR.st.cell (p := ⟨ba, 2, none⟩) LA2.out.2).trans LA2.out.1
      go_simp
      refine hK.out _ _ ?_
      exact ⟨(fun jz => if jz = 55 then .agg #[.int .i64 a.x, .int .i64 a.y, .int .i64 a.z] else v jz), rfl, ⟨hR.st, hR.w1.o, hR.w3.o, hR.w4.o, hR.w5.o, hR.w6.o, hR.w7.o, hR.w8.o, hR.w9.o, hR.w10.o, hR.w11.o, hR.f0.k, hR.f1.k, (fun _ => rfl), hR.f3.k, hR.f4.k, hR.f5.k, hR.f6.k, hR.f7.k, hR.f8.k, hR.f9.k, hR.f10.k, hR.f11.k⟩⟩
    refine EachOf.cons [2] rfl (by kernel_rfl) ?_ ?_
    · rintro L A W ⟨v, rfl, hR⟩ hi hw K hK
      have e2 := hR.f2 (hw 2 (by simp))
      simp only [e2]
      clear e2
      go_simp
      go_at_call 25
      (with_reducible refine ((CV3 _).out).mono ?_)
      rintro e w2 ⟨rfl, hb⟩
      go_simp
      refine hK.out _ _ ?_
      exact ⟨(fun jz => if jz = 55 then .agg #[.int .i64 a.x, .int .i64 a.y, .int .i64 a.z] else if jz = 56 then .bool ta else v jz), rfl, ⟨below_on hR.st hb, hR.w1.o, (fun _ j hj => upd_on (hw j hj)), hR.w4.o, hR.w5.o, hR.w6.o, hR.w7.o, hR.w8.o, hR.w9.o, hR.w10.o, hR.w11.o, hR.f0.k, hR.f1.k, (fun _ => rfl), (fun _ => rfl), hR.f4.k, hR.f5.k, hR.f6.k, hR.f7.k, hR.f8.k, hR.f9.k, hR.f10.k, hR.f11.k⟩⟩
    refine EachOf.cons [1, 3] rfl (by kernel_rfl) ?_ ?_
    · rintro L A W ⟨v, rfl, hR⟩ hi hw K hK
      have e1 := hR.f1 (hw 1 (by simp))
      have e3 := hR.f3 (hw 3 (by simp))
      simp only [e1, e3]
      clear e1 e3
      go_simp
      refine hK.out _ _ ?_
      exact ⟨(fun jz => if jz = 54 then .bool ta else if jz = 56 then .bool ta else if jz = 57 then .bool false else v jz), rfl, ⟨hR.st, hR.w1.o, hR.w3.o, (fun _ j hj => upd_on (hw j hj)), hR.w5.o, hR.w6.o, hR.w7.o, hR.w8.o, hR.w9.o, hR.w10.o, hR.w11.o, hR.f0.k, (fun _ => rfl), hR.f2.k, (fun _ => rfl), (fun _ => rfl), hR.f5.k, hR.f6.k, hR.f7.k, hR.f8.k, hR.f9.k, hR.f10.k, hR.f11.k⟩⟩
    refine EachOf.cons [4] rfl (by kernel_rfl) ?_ ?_
    · rintro L A W ⟨v, rfl, hR⟩ hi hw K hK
      have e4 := hR.f4 (hw 4 (by simp))
      simp only [e4]
      clear e4
      go_simp
      refine hK.out _ _ ?_
      exact ⟨(fun jz => if jz = 57 then .bool false else if jz = 58 then .bool false else v jz), rfl, ⟨hR.st, hR.w1.o, hR.w3.o, hR.w4.o, (fun _ j hj => upd_on (hw j hj)), hR.w6.o, hR.w7.o, hR.w8.o, hR.w9.o, hR.w10.o, hR.w11.o, hR.f0.k, hR.f1.k, hR.f2.k, hR.f3.k, (fun _ => rfl), (fun _ => rfl), hR.f6.k, hR.f7.k, hR.f8.k, hR.f9.k, hR.f10.k, hR.f11.k⟩⟩
    refine EachOf.cons [5] rfl (by kernel_rfl) ?_ ?_
    · rintro L A W ⟨v, rfl, hR⟩ hi hw K hK
      have e5 := hR.f5 (hw 5 (by simp))
      simp only [e5]
      clear e5
      have q0 := (hR.st.cell (p := ⟨bb, 0, none⟩) LB0.out.2).trans LB0.out.1
      have q1 := (hR.st.cell (p := ⟨bb, 1, none⟩) LB1.out.2).trans LB1.out.1
      have q2 := (hR.st.cell (p := ⟨bb, 2, none⟩) LB2.out.2).trans LB2.out.1
      go_simp
      refine hK.out _ _ ?_
      exact ⟨(fun jz => if jz = 58 then .bool false else if jz = 59 then .agg #[.int .i64 b.x, .int .i64 b.y, .int .i64 b.z] else v jz), rfl, ⟨hR.st, hR.w1.o, hR.w3.o, hR.w4.o, hR.w5.o, (fun _ j hj => upd_on (hw j hj)), hR.w7.o, hR.w8.o, hR.w9.o, hR.w10.o, hR.w11.o, hR.f0.k, hR.f1.k, hR.f2.k, hR.f3.k, hR.f4.k, (fun _ => rfl), (fun _ => rfl), hR.f7.k, hR.f8.k, hR.f9.k, hR.f10.k, hR.f11.k⟩⟩
    refine EachOf.cons [5, 6] rfl (by kernel_rfl) ?_ ?_
    · rintro L A W ⟨v, rfl, hR⟩ hi hw K hK
      have e6 := hR.f6 (hw 6 (by simp))
      have e5 := hR.f5 (hw 5 (by simp))
      simp only [e6, e5]
      clear e6 e5
      go_simp
      go_at_call 24
      (with_reducible refine ((CV2 _).out).mono ?_)
      rintro e w2 ⟨rfl, hb⟩
      go_simp
      refine hK.out _ _ ?_
      exact ⟨(fun jz => if jz = 59 then .agg #[.int .i64 b.x, .int .i64 b.y, .int .i64 b.z] else if jz = 58 then .bool false else if jz = 60 then .bool tb else v jz), rfl, ⟨below_on hR.st hb, hR.w1.o, hR.w3.o, hR.w4.o, hR.w5.o, hR.w6.o, (fun _ j hj => upd_on (hw j hj)), hR.w8.o, hR.w9.o, hR.w10.o, hR.w11.o, hR.f0.k, hR.f1.k, hR.f2.k, hR.f3.k, hR.f4.k, (fun _ => rfl), (fun _ => rfl), (fun _ => rfl), hR.f8.k, hR.f9.k, hR.f10.k, hR.f11.k⟩⟩
    refine EachOf.cons [5] rfl (by kernel_rfl) ?_ ?_
    · rintro L A W ⟨v, rfl, hR⟩ hi hw K hK
      have e5 := hR.f5 (hw 5 (by simp))
      simp only [e5]
      clear e5
      have q0 := (hR.st.cell (p := ⟨bb, 0, none⟩) LB0.out.2).trans LB0.out.1
      have q1 := (hR.st.cell (p := ⟨bb, 1, none⟩) LB1.out.2).trans LB1.out.1
      have q2 := (hR.st.cell (p := ⟨bb, 2, none⟩) LB2.out.2).trans LB2.out.1
      go_simp
      refine hK.out _ _ ?_
      exact ⟨(fun jz => if jz = 58 then .bool false else if jz = 61 then .agg #[.int .i64 b.x, .int .i64 b.y, .int .i64 b.z] else v jz), rfl, ⟨hR.st, hR.w1.o, hR.w3.o, hR.w4.o, hR.w5.o, hR.w6.o, hR.w7.o, (fun _ j hj => upd_on (hw j hj)), hR.w9.o, hR.w10.o, hR.w11.o, hR.f0.k, hR.f1.k, hR.f2.k, hR.f3.k, hR.f4.k, (fun _ => rfl), hR.f6.k, hR.f7.k, (fun _ => rfl), hR.f9.k, hR.f10.k, hR.f11.k⟩⟩
    refine EachOf.cons [5, 8] rfl (by kernel_rfl) ?_ ?_
    · rintro L A W ⟨v, rfl, hR⟩ hi hw K hK
      have e8 := hR.f8 (hw 8 (by simp))
      have e5 := hR.f5 (hw 5 (by simp))
      simp only [e8, e5]
      clear e8 e5
      go_simp
      go_at_call 25
      (with_reducible refine ((CV4 _).out).mono ?_)
      rintro e w2 ⟨rfl, hb⟩
      go_simp
      refine hK.out _ _ ?_
      exact ⟨(fun jz => if jz = 61 then .agg #[.int .i64 b.x, .int .i64 b.y, .int .i64 b.z] else if jz = 58 then .bool false else if jz = 62 then .bool tb else v jz), rfl, ⟨below_on hR.st hb, hR.w1.o, hR.w3.o, hR.w4.o, hR.w5.o, hR.w6.o, hR.w7.o, hR.w8.o, (fun _ j hj => upd_on (hw j hj)), hR.w10.o, hR.w11.o, hR.f0.k, hR.f1.k, hR.f2.k, hR.f3.k, hR.f4.k, (fun _ => rfl), hR.f6.k, hR.f7.k, (fun _ => rfl), (fun _ => rfl), hR.f10.k, hR.f11.k⟩⟩
    refine EachOf.cons [5, 7, 9] rfl (by kernel_rfl) ?_ ?_
    · rintro L A W ⟨v, rfl, hR⟩ hi hw K hK
      have e7 := hR.f7 (hw 7 (by simp))
      have e9 := hR.f9 (hw 9 (by simp))
      have e5 := hR.f5 (hw 5 (by simp))
      simp only [e7, e9, e5]
      clear e7 e9 e5
      go_simp
      refine hK.out _ _ ?_
      exact ⟨(fun jz => if jz = 60 then .bool tb else if jz = 62 then .bool tb else if jz = 58 then .bool false else if jz = 63 then .bool false else v jz), rfl, ⟨hR.st, hR.w1.o, hR.w3.o, hR.w4.o, hR.w5.o, hR.w6.o, hR.w7.o, hR.w8.o, hR.w9.o, (fun _ j hj => upd_on (hw j hj)), hR.w11.o, hR.f0.k, hR.f1.k, hR.f2.k, hR.f3.k, hR.f4.k, (fun _ => rfl), hR.f6.k, (fun _ => rfl), hR.f8.k, (fun _ => rfl), (fun _ => rfl), hR.f11.k⟩⟩
    refine EachOf.cons [5, 10] rfl (by kernel_rfl) ?_ ?_
    · rintro L A W ⟨v, rfl, hR⟩ hi hw K hK
      have e5 := hR.f5 (hw 5 (by simp))
      have e10 := hR.f10 (hw 10 (by simp))
      simp only [e5, e10]
      clear e5 e10
      go_simp
      refine hK.out _ _ ?_
      exact ⟨(fun jz => if jz = 58 then .bool false else if jz = 63 then .bool false else if jz = 64 then .bool false else v jz), rfl, ⟨hR.st, hR.w1.o, hR.w3.o, hR.w4.o, hR.w5.o, hR.w6.o, hR.w7.o, hR.w8.o, hR.w9.o, hR.w10.o, (fun _ j hj => upd_on (hw j hj)), hR.f0.k, hR.f1.k, hR.f2.k, hR.f3.k, hR.f4.k, (fun _ => rfl), hR.f6.k, hR.f7.k, hR.f8.k, hR.f9.k, (fun _ => rfl), (fun _ => rfl)⟩⟩
    exact EachOf.nil
  rintro L A W9 ⟨vs, rfl, hR⟩ hL
  have e11 := hR.f11 (hL 11 (by simp))
  simp only [e11]
  have HS9 := Lib.hid (HS8.out.on hR.st)
  clear hR hL e11 LA0 LA1 LA2 LB0 LB1 LB2 HS8 CV1 CV2
  have a0 := HS9.out.A.c0
  have a1 := HS9.out.A.c1
  have a2 := HS9.out.A.c2
  cases ta with
  | false =>
    have nok : ¬ (a.ok ∧ b.ok) := fun h => by have := HTA.out.2 h.1; cases this
    have hs := HSQ.out
    have hy := HLN.out
    unfold sqT at hs
    unfold lenT at hy
    rw [if_neg nok] at hs hy
    injection hs with h1 h2
    obtain ⟨q1, q2, q3⟩ := three hy
    subst h1; subst h2; subst q1; subst q2; subst q3
    clear hy nok HSQ HLN HTA HTB HP
    go_upto_region 14 with (go_at_call 25; (with_reducible refine ((CV3 _).out.mono ?_)); rintro e w10 ⟨rfl, hb10⟩; have HS10 := Lib.hid (HS9.out.on hb10); clear hb10 HS9 a0 a1 a2 CV3 CV4)
    have x0 := HS10.out.X.c0
    have x1 := HS10.out.X.c1
    go_wp2_with fail
    go_ret
    exact ⟨rfl, HS10.out.st⟩
  | true =>
    cases tb with
    | false =>
      have nok : ¬ (a.ok ∧ b.ok) := fun h => by have := HTB.out.2 h.2; cases this
      have hs := HSQ.out
      have hy := HLN.out
      unfold sqT at hs
      unfold lenT at hy
      rw [if_neg nok] at hs hy
      injection hs with h1 h2
      obtain ⟨q1, q2, q3⟩ := three hy
      subst h1; subst h2; subst q1; subst q2; subst q3
      clear hy nok HSQ HLN HTA HTB HP
      go_upto_region 14 with (first
        | (go_at_call 25; (with_reducible refine ((CV3 _).out.mono ?_)); rintro e w10 ⟨rfl, hb10⟩; have HS10 := Lib.hid (HS9.out.on hb10); clear hb10 HS9 a0 a1 a2 CV3; have b0 := HS10.out.B.c0; have b1 := HS10.out.B.c1; have b2 := HS10.out.B.c2)
        | (go_at_call 25; (with_reducible refine ((CV4 _).out.mono ?_)); rintro e w11 ⟨rfl, hb11⟩; have HS11 := Lib.hid (HS10.out.on hb11); clear hb11 HS10 b0 b1 b2 CV4))
      have x0 := HS11.out.X.c0
      have x1 := HS11.out.X.c1
      go_wp2_with fail
      go_ret
      exact ⟨rfl, HS11.out.st⟩
    | true =>
      have oka := HTA.out.1 rfl
      have okb := HTB.out.1 rfl
      have hs := HSQ.out
      have hy := HLN.out
      obtain ⟨hp1, hp2⟩ := HP.out oka okb
      have bd := sqL_bd oka okb
      have CQ := fun W => Lib.hid (rSq_any a b W oka okb)
      unfold sqT at hs
      unfold lenT at hy
      rw [if_pos ⟨oka, okb⟩] at hs hy
      injection hs with h1 h2
      rw [h1] at CQ hp1 hp2 bd
      obtain ⟨q1, q2, q3⟩ := three hy
      subst h2; subst q1; subst q2; subst q3
      have CT := fun W => Lib.hid (rRt_any xs p q W hp1 hp2 (by omega))
      clear hy h1 oka okb HSQ HLN HTA HTB HP hp1 hp2 bd
      go_upto_region 15 with (first
        | (go_at_call 25; (with_reducible refine ((CV3 _).out.mono ?_)); rintro e w10 ⟨rfl, hb10⟩; have HS10 := Lib.hid (HS9.out.on hb10); clear hb10 HS9 a0 a1 a2 CV3; have b0 := HS10.out.B.c0; have b1 := HS10.out.B.c1; have b2 := HS10.out.B.c2)
        | (go_at_call 25; (with_reducible refine ((CV4 _).out.mono ?_)); rintro e w11 ⟨rfl, hb11⟩; have HS11 := Lib.hid (HS10.out.on hb11); clear hb11 HS10 b0 b1 b2 CV4))
      have LA0 := Lib.hid (And.intro HS11.out.A.c0 HS11.out.A.lt)
      have LA1 := Lib.hid (And.intro HS11.out.A.c1 HS11.out.A.lt)
      have LA2 := Lib.hid (And.intro HS11.out.A.c2 HS11.out.A.lt)
      have LB0 := Lib.hid (And.intro HS11.out.B.c0 HS11.out.B.lt)
      have LB1 := Lib.hid (And.intro HS11.out.B.c1 HS11.out.B.lt)
      have LB2 := Lib.hid (And.intro HS11.out.B.c2 HS11.out.B.lt)
      have LX0 := Lib.hid (And.intro HS11.out.X.c0 HS11.out.X.lt)
      have LX1 := Lib.hid (And.intro HS11.out.X.c1 HS11.out.X.lt)
      refine wp_region_each (fun L A W => ∃ (v : Nat → Value), A = ⟨#[_, _, _, _, _, _, v 6, _, _, _, _, _, _, _, _, _, _, _, _, _, _, _, _, _, _, _, _, _, _, _, _, _, _, _, _, _, _, _, _, _, _, _, _, _, _, _, _, _, _, _, _, _, _, _, _, _, _, _, _, _, _, _, _, _, _, _, _, _, _, _, _, _, _, _, _, _, _, _, _, _, _, _, _, _, _, _, _, _, v 88, v 89, v 90, v 91, v 92, v 93, v 94, v 95, v 96, v 97, v 98, v 99, v 100, v 101, v 102, v 103, v 104, v 105, v 106, v 107, v 108], []⟩ ∧ Vl15R ba bb bx a b xs p q w11 L v W) (by kernel_rfl) (by kernel_rfl) ⟨fun jz => if jz = 88 then u88 else if jz = 89 then u89 else if jz = 90 then u90 else if jz = 91 then u91 else if jz = 92 then u92 else if jz = 93 then u93 else if jz = 94 then u94 else if jz = 95 then u95 else if jz = 96 then u96 else if jz = 97 then u97 else if jz = 98 then u98 else if jz = 99 then u99 else if jz = 100 then u100 else if jz = 101 then u101 else if jz = 102 then u102 else if jz = 103 then u103 else if jz = 104 then u104 else if jz = 105 then u105 else if jz = 106 then u106 else if jz = 107 then u107 else if jz = 108 then u108 else if jz = 6 then u6 else undef, rfl, ⟨Below.drew (Below.refl _ _), Had.none, Had.none, Had.none, Had.none, Had.none, Had.none, Had.none, Had.none, Had.none, Had.none, Had.none, Had.none, Had.none, Had.none, Had.none, Had.none, Had.none, Had.none, Had.none, Had.none, Had.none, Had.none, Had.none, Had.none, Had.none, Had.none, Had.none, Had.none, Had.none, Had.none, Had.none, Had.none, Had.none, Had.none, Had.none, Had.none, Had.none, Had.none, Had.none, Had.none, Had.none⟩⟩ (rs := [0, 1, 2, 3, 4, 5, 6, 7, 8, 9, 10, 11, 12, 13, 14, 15, 16, 17, 18, 19, 20, 21]) (by kernel_rfl) ?_ ?_
      · refine EachOf.cons [] rfl (by kernel_rfl) ?_ ?_
        · rintro L A W ⟨v, rfl, hR⟩ hi hw K hK
          go_simp
          refine hK.out _ _ ?_
          exact ⟨(fun jz => if jz = 88 then .int .i64 xs else v jz), rfl, ⟨hR.st, hR.w3.o, hR.w4.o, hR.w5.o, hR.w6.o, hR.w7.o, hR.w8.o, hR.w9.o, hR.w10.o, hR.w11.o, hR.w12.o, hR.w13.o, hR.w14.o, hR.w15.o, hR.w16.o, hR.w17.o, hR.w18.o, hR.w19.o, hR.w20.o, hR.w21.o, (fun _ => rfl), hR.f1.k, hR.f2.k, hR.f3.k, hR.f4.k, hR.f5.k, hR.f6.k, hR.f7.k, hR.f8.k, hR.f9.k, hR.f10.k, hR.f11.k, hR.f12.k, hR.f13.k, hR.f14.k, hR.f15.k, hR.f16.k, hR.f17.k, hR.f18.k, hR.f19.k, hR.f20.k, hR.f21.k⟩⟩
        refine EachOf.cons [] rfl (by kernel_rfl) ?_ ?_
        · rintro L A W ⟨v, rfl, hR⟩ hi hw K hK
          have q0 := (hR.st.cell (p := ⟨ba, 0, none⟩) LA0.out.2).trans LA0.out.1
          have q1 := (hR.st.cell (p := ⟨ba, 1, none⟩) LA1.out.2).trans LA1.out.1
          have q2 := (hR.st.cell (p := ⟨ba, 2, none⟩) LA2.out.2).trans LA2.out.1
          go_simp
          refine hK.out _ _ ?_
          exact ⟨(fun jz => if jz = 89 then .agg #[.int .i64 a.x, .int .i64 a.y, .int .i64 a.z] else v jz), rfl, ⟨hR.st, hR.w3.o, hR.w4.o, hR.w5.o, hR.w6.o, hR.w7.o, hR.w8.o, hR.w9.o, hR.w10.o, hR.w11.o, hR.w12.o, hR.w13.o, hR.w14.o, hR.w15.o, hR.w16.o, hR.w17.o, hR.w18.o, hR.w19.o, hR.w20.o, hR.w21.o, hR.f0.k, (fun _ => rfl), hR.f2.k, hR.f3.k, hR.f4.k, hR.f5.k, hR.f6.k, hR.f7.k, hR.f8.k, hR.f9.k, hR.f10.k, hR.f11.k, hR.f12.k, hR.f13.k, hR.f14.k, hR.f15.k, hR.f16.k, hR.f17.k, hR.f18.k, hR.f19.k, hR.f20.k, hR.f21.k⟩⟩
        refine EachOf.cons [] rfl (by kernel_rfl) ?_ ?_
        · rintro L A W ⟨v, rfl, hR⟩ hi hw K hK
          have q0 := (hR.st.cell (p := ⟨bb, 0, none⟩) LB0.out.2).trans LB0.out.1
          have q1 := (hR.st.cell (p := ⟨bb, 1, none⟩) LB1.out.2).trans LB1.out.1
          have q2 := (hR.st.cell (p := ⟨bb, 2, none⟩) LB2.out.2).trans LB2.out.1
          go_simp
          refine hK.out _ _ ?_
          exact ⟨(fun jz => if jz = 90 then .agg #[.int .i64 b.x, .int .i64 b.y, .int .i64 b.z] else v jz), rfl, ⟨hR.st, hR.w3.o, hR.w4.o, hR.w5.o, hR.w6.o, hR.w7.o, hR.w8.o, hR.w9.o, hR.w10.o, hR.w11.o, hR.w12.o, hR.w13.o, hR.w14.o, hR.w15.o, hR.w16.o, hR.w17.o, hR.w18.o, hR.w19.o, hR.w20.o, hR.w21.o, hR.f0.k, hR.f1.k, (fun _ => rfl), hR.f3.k, hR.f4.k, hR.f5.k, hR.f6.k, hR.f7.k, hR.f8.k, hR.f9.k, hR.f10.k, hR.f11.k, hR.f12.k, hR.f13.k, hR.f14.k, hR.f15.k, hR.f16.k, hR.f17.k, hR.f18.k, hR.f19.k, hR.f20.k, hR.f21.k⟩⟩
        refine EachOf.cons [1, 2] rfl (by kernel_rfl) ?_ ?_
        · rintro L A W ⟨v, rfl, hR⟩ hi hw K hK
          have e1 := hR.f1 (hw 1 (by simp))
          have e2 := hR.f2 (hw 2 (by simp))
          simp only [e1, e2]
          clear e1 e2
          go_simp
          go_at_call 26
          (with_reducible refine ((CQ _).out).mono ?_)
          rintro e w2 ⟨rfl, hb⟩
          go_simp
          refine hK.out _ _ ?_
          exact ⟨(fun jz => if jz = 89 then .agg #[.int .i64 a.x, .int .i64 a.y, .int .i64 a.z] else if jz = 90 then .agg #[.int .i64 b.x, .int .i64 b.y, .int .i64 b.z] else if jz = 91 then .int .i64 xs else v jz), rfl, ⟨below_on hR.st hb, (fun _ j hj => upd_on (hw j hj)), hR.w4.o, hR.w5.o, hR.w6.o, hR.w7.o, hR.w8.o, hR.w9.o, hR.w10.o, hR.w11.o, hR.w12.o, hR.w13.o, hR.w14.o, hR.w15.o, hR.w16.o, hR.w17.o, hR.w18.o, hR.w19.o, hR.w20.o, hR.w21.o, hR.f0.k, (fun _ => rfl), (fun _ => rfl), (fun _ => rfl), hR.f4.k, hR.f5.k, hR.f6.k, hR.f7.k, hR.f8.k, hR.f9.k, hR.f10.k, hR.f11.k, hR.f12.k, hR.f13.k, hR.f14.k, hR.f15.k, hR.f16.k, hR.f17.k, hR.f18.k, hR.f19.k, hR.f20.k, hR.f21.k⟩⟩
        refine EachOf.cons [0, 3] rfl (by kernel_rfl) ?_ ?_
        · rintro L A W ⟨v, rfl, hR⟩ hi hw K hK
          have e0 := hR.f0 (hw 0 (by simp))
          have e3 := hR.f3 (hw 3 (by simp))
          simp only [e0, e3]
          clear e0 e3
          go_simp
          refine hK.out _ _ ?_
          exact ⟨(fun jz => if jz = 88 then .int .i64 xs else if jz = 91 then .int .i64 xs else if jz = 92 then .bool true else v jz), rfl, ⟨hR.st, hR.w3.o, (fun _ j hj => upd_on (hw j hj)), hR.w5.o, hR.w6.o, hR.w7.o, hR.w8.o, hR.w9.o, hR.w10.o, hR.w11.o, hR.w12.o, hR.w13.o, hR.w14.o, hR.w15.o, hR.w16.o, hR.w17.o, hR.w18.o, hR.w19.o, hR.w20.o, hR.w21.o, (fun _ => rfl), hR.f1.k, hR.f2.k, (fun _ => rfl), (fun _ => rfl), hR.f5.k, hR.f6.k, hR.f7.k, hR.f8.k, hR.f9.k, hR.f10.k, hR.f11.k, hR.f12.k, hR.f13.k, hR.f14.k, hR.f15.k, hR.f16.k, hR.f17.k, hR.f18.k, hR.f19.k, hR.f20.k, hR.f21.k⟩⟩
        refine EachOf.cons [4] rfl (by kernel_rfl) ?_ ?_
        · rintro L A W ⟨v, rfl, hR⟩ hi hw K hK
          have e4 := hR.f4 (hw 4 (by simp))
          simp only [e4]
          clear e4
          go_simp
          refine hK.out _ _ ?_
          exact ⟨(fun jz => if jz = 92 then .bool true else if jz = 93 then .bool true else v jz), rfl, ⟨hR.st, hR.w3.o, hR.w4.o, (fun _ j hj => upd_on (hw j hj)), hR.w6.o, hR.w7.o, hR.w8.o, hR.w9.o, hR.w10.o, hR.w11.o, hR.w12.o, hR.w13.o, hR.w14.o, hR.w15.o, hR.w16.o, hR.w17.o, hR.w18.o, hR.w19.o, hR.w20.o, hR.w21.o, hR.f0.k, hR.f1.k, hR.f2.k, hR.f3.k, (fun _ => rfl), (fun _ => rfl), hR.f6.k, hR.f7.k, hR.f8.k, hR.f9.k, hR.f10.k, hR.f11.k, hR.f12.k, hR.f13.k, hR.f14.k, hR.f15.k, hR.f16.k, hR.f17.k, hR.f18.k, hR.f19.k, hR.f20.k, hR.f21.k⟩⟩
        refine EachOf.cons [5] rfl (by kernel_rfl) ?_ ?_
        · rintro L A W ⟨v, rfl, hR⟩ hi hw K hK
          have e5 := hR.f5 (hw 5 (by simp))
          simp only [e5]
          clear e5
          go_simp
          refine hK.out _ _ ?_
          exact ⟨(fun jz => if jz = 93 then .bool true else if jz = 94 then .int .i64 0 else v jz), rfl, ⟨hR.st, hR.w3.o, hR.w4.o, hR.w5.o, (fun _ j hj => upd_on (hw j hj)), hR.w7.o, hR.w8.o, hR.w9.o, hR.w10.o, hR.w11.o, hR.w12.o, hR.w13.o, hR.w14.o, hR.w15.o, hR.w16.o, hR.w17.o, hR.w18.o, hR.w19.o, hR.w20.o, hR.w21.o, hR.f0.k, hR.f1.k, hR.f2.k, hR.f3.k, hR.f4.k, (fun _ => rfl), (fun _ => rfl), hR.f7.k, hR.f8.k, hR.f9.k, hR.f10.k, hR.f11.k, hR.f12.k, hR.f13.k, hR.f14.k, hR.f15.k, hR.f16.k, hR.f17.k, hR.f18.k, hR.f19.k, hR.f20.k, hR.f21.k⟩⟩
        refine EachOf.cons [5, 6] rfl (by kernel_rfl) ?_ ?_
        · rintro L A W ⟨v, rfl, hR⟩ hi hw K hK
          have e6 := hR.f6 (hw 6 (by simp))
          have e5 := hR.f5 (hw 5 (by simp))
          simp only [e6, e5]
          clear e6 e5
          go_simp
          refine hK.out _ _ ?_
          exact ⟨(fun jz => if jz = 94 then .int .i64 0 else if jz = 93 then .bool true else if jz = 95 then .bool true else v jz), rfl, ⟨hR.st, hR.w3.o, hR.w4.o, hR.w5.o, hR.w6.o, (fun _ j hj => upd_on (hw j hj)), hR.w8.o, hR.w9.o, hR.w10.o, hR.w11.o, hR.w12.o, hR.w13.o, hR.w14.o, hR.w15.o, hR.w16.o, hR.w17.o, hR.w18.o, hR.w19.o, hR.w20.o, hR.w21.o, hR.f0.k, hR.f1.k, hR.f2.k, hR.f3.k, hR.f4.k, (fun _ => rfl), (fun _ => rfl), (fun _ => rfl), hR.f8.k, hR.f9.k, hR.f10.k, hR.f11.k, hR.f12.k, hR.f13.k, hR.f14.k, hR.f15.k, hR.f16.k, hR.f17.k, hR.f18.k, hR.f19.k, hR.f20.k, hR.f21.k⟩⟩
        refine EachOf.cons [5, 7] rfl (by kernel_rfl) ?_ ?_
        · rintro L A W ⟨v, rfl, hR⟩ hi hw K hK
          have e5 := hR.f5 (hw 5 (by simp))
          have e7 := hR.f7 (hw 7 (by simp))
          simp only [e5, e7]
          clear e5 e7
          go_simp
          refine hK.out _ _ ?_
          exact ⟨(fun jz => if jz = 93 then .bool true else if jz = 95 then .bool true else if jz = 96 then .bool true else v jz), rfl, ⟨hR.st, hR.w3.o, hR.w4.o, hR.w5.o, hR.w6.o, hR.w7.o, (fun _ j hj => upd_on (hw j hj)), hR.w9.o, hR.w10.o, hR.w11.o, hR.w12.o, hR.w13.o, hR.w14.o, hR.w15.o, hR.w16.o, hR.w17.o, hR.w18.o, hR.w19.o, hR.w20.o, hR.w21.o, hR.f0.k, hR.f1.k, hR.f2.k, hR.f3.k, hR.f4.k, (fun _ => rfl), hR.f6.k, (fun _ => rfl), (fun _ => rfl), hR.f9.k, hR.f10.k, hR.f11.k, hR.f12.k, hR.f13.k, hR.f14.k, hR.f15.k, hR.f16.k, hR.f17.k, hR.f18.k, hR.f19.k, hR.f20.k, hR.f21.k⟩⟩
        refine EachOf.cons [8] rfl (by kernel_rfl) ?_ ?_
        · rintro L A W ⟨v, rfl, hR⟩ hi hw K hK
          have e8 := hR.f8 (hw 8 (by simp))
          simp only [e8]
          clear e8
          go_simp
          refine hK.out _ _ ?_
          exact ⟨(fun jz => if jz = 96 then .bool true else if jz = 97 then .bool true else v jz), rfl, ⟨hR.st, hR.w3.o, hR.w4.o, hR.w5.o, hR.w6.o, hR.w7.o, hR.w8.o, (fun _ j hj => upd_on (hw j hj)), hR.w10.o, hR.w11.o, hR.w12.o, hR.w13.o, hR.w14.o, hR.w15.o, hR.w16.o, hR.w17.o, hR.w18.o, hR.w19.o, hR.w20.o, hR.w21.o, hR.f0.k, hR.f1.k, hR.f2.k, hR.f3.k, hR.f4.k, hR.f5.k, hR.f6.k, hR.f7.k, (fun _ => rfl), (fun _ => rfl), hR.f10.k, hR.f11.k, hR.f12.k, hR.f13.k, hR.f14.k, hR.f15.k, hR.f16.k, hR.f17.k, hR.f18.k, hR.f19.k, hR.f20.k, hR.f21.k⟩⟩
        refine EachOf.cons [9] rfl (by kernel_rfl) ?_ ?_
        · rintro L A W ⟨v, rfl, hR⟩ hi hw K hK
          have e9 := hR.f9 (hw 9 (by simp))
          simp only [e9]
          clear e9
          have q0 := (hR.st.cell (p := ⟨bx, 0, none⟩) LX0.out.2).trans LX0.out.1
          have q1 := (hR.st.cell (p := ⟨bx, 1, none⟩) LX1.out.2).trans LX1.out.1
          go_simp
          refine hK.out _ _ ?_
          exact ⟨(fun jz => if jz = 97 then .bool true else if jz = 98 then .agg #[.int .i64 p, .int .i64 q] else v jz), rfl, ⟨hR.st, hR.w3.o, hR.w4.o, hR.w5.o, hR.w6.o, hR.w7.o, hR.w8.o, hR.w9.o, (fun _ j hj => upd_on (hw j hj)), hR.w11.o, hR.w12.o, hR.w13.o, hR.w14.o, hR.w15.o, hR.w16.o, hR.w17.o, hR.w18.o, hR.w19.o, hR.w20.o, hR.w21.o, hR.f0.k, hR.f1.k, hR.f2.k, hR.f3.k, hR.f4.k, hR.f5.k, hR.f6.k, hR.f7.k, hR.f8.k, (fun _ => rfl), (fun _ => rfl), hR.f11.k, hR.f12.k, hR.f13.k, hR.f14.k, hR.f15.k, hR.f16.k, hR.f17.k, hR.f18.k, hR.f19.k, hR.f20.k, hR.f21.k⟩⟩
        refine EachOf.cons [9] rfl (by kernel_rfl) ?_ ?_
        · rintro L A W ⟨v, rfl, hR⟩ hi hw K hK
          have e9 := hR.f9 (hw 9 (by simp))
          simp only [e9]
          clear e9
          have q0 := (hR.st.cell (p := ⟨ba, 0, none⟩) LA0.out.2).trans LA0.out.1
          have q1 := (hR.st.cell (p := ⟨ba, 1, none⟩) LA1.out.2).trans LA1.out.1
          have q2 := (hR.st.cell (p := ⟨ba, 2, none⟩) LA2.out.2).trans LA2.out.1
          go_simp
          refine hK.out _ _ ?_
          exact ⟨(fun jz => if jz = 97 then .bool true else if jz = 99 then .agg #[.int .i64 a.x, .int .i64 a.y, .int .i64 a.z] else v jz), rfl, ⟨hR.st, hR.w3.o, hR.w4.o, hR.w5.o, hR.w6.o, hR.w7.o, hR.w8.o, hR.w9.o, hR.w10.o, (fun _ j hj => upd_on (hw j hj)), hR.w12.o, hR.w13.o, hR.w14.o, hR.w15.o, hR.w16.o, hR.w17.o, hR.w18.o, hR.w19.o, hR.w20.o, hR.w21.o, hR.f0.k, hR.f1.k, hR.f2.k, hR.f3.k, hR.f4.k, hR.f5.k, hR.f6.k, hR.f7.k, hR.f8.k, (fun _ => rfl), hR.f10.k, (fun _ => rfl), hR.f12.k, hR.f13.k, hR.f14.k, hR.f15.k, hR.f16.k, hR.f17.k, hR.f18.k, hR.f19.k, hR.f20.k, hR.f21.k⟩⟩
        refine EachOf.cons [9] rfl (by kernel_rfl) ?_ ?_
        · rintro L A W ⟨v, rfl, hR⟩ hi hw K hK
          have e9 := hR.f9 (hw 9 (by simp))
          simp only [e9]
          clear e9
          have q0 := (hR.st.cell (p := ⟨bb, 0, none⟩) LB0.out.2).trans LB0.out.1
          have q1 := (hR.st.cell (p := ⟨bb, 1, none⟩) LB1.out.2).trans LB1.out.1
          have q2 := (hR.st.cell (p := ⟨bb, 2, none⟩) LB2.out.2).trans LB2.out.1
          go_simp
          refine hK.out _ _ ?_
          exact ⟨(fun jz => if jz = 97 then .bool true else if jz = 100 then .agg #[.int .i64 b.x, .int .i64 b.y, .int .i64 b.z] else v jz), rfl, ⟨hR.st, hR.w3.o, hR.w4.o, hR.w5.o, hR.w6.o, hR.w7.o, hR.w8.o, hR.w9.o, hR.w10.o, hR.w11.o, (fun _ j hj => upd_on (hw j hj)), hR.w13.o, hR.w14.o, hR.w15.o, hR.w16.o, hR.w17.o, hR.w18.o, hR.w19.o, hR.w20.o, hR.w21.o, hR.f0.k, hR.f1.k, hR.f2.k, hR.f3.k, hR.f4.k, hR.f5.k, hR.f6.k, hR.f7.k, hR.f8.k, (fun _ => rfl), hR.f10.k, hR.f11.k, (fun _ => rfl), hR.f13.k, hR.f14.k, hR.f15.k, hR.f16.k, hR.f17.k, hR.f18.k, hR.f19.k, hR.f20.k, hR.f21.k⟩⟩
        refine EachOf.cons [9, 11, 12] rfl (by kernel_rfl) ?_ ?_
        · rintro L A W ⟨v, rfl, hR⟩ hi hw K hK
          have e11 := hR.f11 (hw 11 (by simp))
          have e12 := hR.f12 (hw 12 (by simp))
          have e9 := hR.f9 (hw 9 (by simp))
          simp only [e11, e12, e9]
          clear e11 e12 e9
          go_simp
          go_at_call 26
          (with_reducible refine ((CQ _).out).mono ?_)
          rintro e w2 ⟨rfl, hb⟩
          go_simp
          refine hK.out _ _ ?_
          exact ⟨(fun jz => if jz = 99 then .agg #[.int .i64 a.x, .int .i64 a.y, .int .i64 a.z] else if jz = 100 then .agg #[.int .i64 b.x, .int .i64 b.y, .int .i64 b.z] else if jz = 97 then .bool true else if jz = 101 then .int .i64 xs else v jz), rfl, ⟨below_on hR.st hb, hR.w3.o, hR.w4.o, hR.w5.o, hR.w6.o, hR.w7.o, hR.w8.o, hR.w9.o, hR.w10.o, hR.w11.o, hR.w12.o, (fun _ j hj => upd_on (hw j hj)), hR.w14.o, hR.w15.o, hR.w16.o, hR.w17.o, hR.w18.o, hR.w19.o, hR.w20.o, hR.w21.o, hR.f0.k, hR.f1.k, hR.f2.k, hR.f3.k, hR.f4.k, hR.f5.k, hR.f6.k, hR.f7.k, hR.f8.k, (fun _ => rfl), hR.f10.k, (fun _ => rfl), (fun _ => rfl), (fun _ => rfl), hR.f14.k, hR.f15.k, hR.f16.k, hR.f17.k, hR.f18.k, hR.f19.k, hR.f20.k, hR.f21.k⟩⟩
        refine EachOf.cons [9, 13] rfl (by kernel_rfl) ?_ ?_
        · rintro L A W ⟨v, rfl, hR⟩ hi hw K hK
          have e13 := hR.f13 (hw 13 (by simp))
          have e9 := hR.f9 (hw 9 (by simp))
          simp only [e13, e9]
          clear e13 e9
          go_simp
          go_at_call 23
          (with_reducible refine ((CT _).out).mono ?_)
          rintro e w2 ⟨rfl, hb⟩
          go_simp
          refine hK.out _ _ ?_
          exact ⟨(fun jz => if jz = 101 then .int .i64 xs else if jz = 97 then .bool true else if jz = 102 then .agg #[.int .i64 p, .int .i64 q] else v jz), rfl, ⟨below_on hR.st hb, hR.w3.o, hR.w4.o, hR.w5.o, hR.w6.o, hR.w7.o, hR.w8.o, hR.w9.o, hR.w10.o, hR.w11.o, hR.w12.o, hR.w13.o, (fun _ j hj => upd_on (hw j hj)), hR.w15.o, hR.w16.o, hR.w17.o, hR.w18.o, hR.w19.o, hR.w20.o, hR.w21.o, hR.f0.k, hR.f1.k, hR.f2.k, hR.f3.k, hR.f4.k, hR.f5.k, hR.f6.k, hR.f7.k, hR.f8.k, (fun _ => rfl), hR.f10.k, hR.f11.k, hR.f12.k, (fun _ => rfl), (fun _ => rfl), hR.f15.k, hR.f16.k, hR.f17.k, hR.f18.k, hR.f19.k, hR.f20.k, hR.f21.k⟩⟩
        refine EachOf.cons [9, 10, 14] rfl (by kernel_rfl) ?_ ?_
        · rintro L A W ⟨v, rfl, hR⟩ hi hw K hK
          have e10 := hR.f10 (hw 10 (by simp))
          have e14 := hR.f14 (hw 14 (by simp))
          have e9 := hR.f9 (hw 9 (by simp))
          simp only [e10, e14, e9]
          clear e10 e14 e9
          go_simp
          refine hK.out _ _ ?_
          exact ⟨(fun jz => if jz = 98 then .agg #[.int .i64 p, .int .i64 q] else if jz = 102 then .agg #[.int .i64 p, .int .i64 q] else if jz = 97 then .bool true else if jz = 103 then .bool true else v jz), rfl, ⟨hR.st, hR.w3.o, hR.w4.o, hR.w5.o, hR.w6.o, hR.w7.o, hR.w8.o, hR.w9.o, hR.w10.o, hR.w11.o, hR.w12.o, hR.w13.o, hR.w14.o, (fun _ j hj => upd_on (hw j hj)), hR.w16.o, hR.w17.o, hR.w18.o, hR.w19.o, hR.w20.o, hR.w21.o, hR.f0.k, hR.f1.k, hR.f2.k, hR.f3.k, hR.f4.k, hR.f5.k, hR.f6.k, hR.f7.k, hR.f8.k, (fun _ => rfl), (fun _ => rfl), hR.f11.k, hR.f12.k, hR.f13.k, (fun _ => rfl), (fun _ => rfl), hR.f16.k, hR.f17.k, hR.f18.k, hR.f19.k, hR.f20.k, hR.f21.k⟩⟩
        refine EachOf.cons [9, 15] rfl (by kernel_rfl) ?_ ?_
        · rintro L A W ⟨v, rfl, hR⟩ hi hw K hK
          have e9 := hR.f9 (hw 9 (by simp))
          have e15 := hR.f15 (hw 15 (by simp))
          simp only [e9, e15]
          clear e9 e15
          go_simp
          refine hK.out _ _ ?_
          exact ⟨(fun jz => if jz = 97 then .bool true else if jz = 103 then .bool true else if jz = 104 then .bool true else v jz), rfl, ⟨hR.st, hR.w3.o, hR.w4.o, hR.w5.o, hR.w6.o, hR.w7.o, hR.w8.o, hR.w9.o, hR.w10.o, hR.w11.o, hR.w12.o, hR.w13.o, hR.w14.o, hR.w15.o, (fun _ j hj => upd_on (hw j hj)), hR.w17.o, hR.w18.o, hR.w19.o, hR.w20.o, hR.w21.o, hR.f0.k, hR.f1.k, hR.f2.k, hR.f3.k, hR.f4.k, hR.f5.k, hR.f6.k, hR.f7.k, hR.f8.k, (fun _ => rfl), hR.f10.k, hR.f11.k, hR.f12.k, hR.f13.k, hR.f14.k, (fun _ => rfl), (fun _ => rfl), hR.f17.k, hR.f18.k, hR.f19.k, hR.f20.k, hR.f21.k⟩⟩
        refine EachOf.cons [16] rfl (by kernel_rfl) ?_ ?_
        · rintro L A W ⟨v, rfl, hR⟩ hi hw K hK
          have e16 := hR.f16 (hw 16 (by simp))
          simp only [e16]
          clear e16
          go_simp
          refine hK.out _ _ ?_
          exact ⟨(fun jz => if jz = 104 then .bool true else if jz = 105 then .bool true else v jz), rfl, ⟨hR.st, hR.w3.o, hR.w4.o, hR.w5.o, hR.w6.o, hR.w7.o, hR.w8.o, hR.w9.o, hR.w10.o, hR.w11.o, hR.w12.o, hR.w13.o, hR.w14.o, hR.w15.o, hR.w16.o, (fun _ j hj => upd_on (hw j hj)), hR.w18.o, hR.w19.o, hR.w20.o, hR.w21.o, hR.f0.k, hR.f1.k, hR.f2.k, hR.f3.k, hR.f4.k, hR.f5.k, hR.f6.k, hR.f7.k, hR.f8.k, hR.f9.k, hR.f10.k, hR.f11.k, hR.f12.k, hR.f13.k, hR.f14.k, hR.f15.k, (fun _ => rfl), (fun _ => rfl), hR.f18.k, hR.f19.k, hR.f20.k, hR.f21.k⟩⟩
        refine EachOf.cons [17] rfl (by kernel_rfl) ?_ ?_
        · rintro L A W ⟨v, rfl, hR⟩ hi hw K hK
          have e17 := hR.f17 (hw 17 (by simp))
          simp only [e17]
          clear e17
          go_simp
          refine hK.out _ _ ?_
          exact ⟨(fun jz => if jz = 105 then .bool true else if jz = 106 then .int .i64 0 else v jz), rfl, ⟨hR.st, hR.w3.o, hR.w4.o, hR.w5.o, hR.w6.o, hR.w7.o, hR.w8.o, hR.w9.o, hR.w10.o, hR.w11.o, hR.w12.o, hR.w13.o, hR.w14.o, hR.w15.o, hR.w16.o, hR.w17.o, (fun _ j hj => upd_on (hw j hj)), hR.w19.o, hR.w20.o, hR.w21.o, hR.f0.k, hR.f1.k, hR.f2.k, hR.f3.k, hR.f4.k, hR.f5.k, hR.f6.k, hR.f7.k, hR.f8.k, hR.f9.k, hR.f10.k, hR.f11.k, hR.f12.k, hR.f13.k, hR.f14.k, hR.f15.k, hR.f16.k, (fun _ => rfl), (fun _ => rfl), hR.f19.k, hR.f20.k, hR.f21.k⟩⟩
        refine EachOf.cons [17, 18] rfl (by kernel_rfl) ?_ ?_
        · rintro L A W ⟨v, rfl, hR⟩ hi hw K hK
          have e18 := hR.f18 (hw 18 (by simp))
          have e17 := hR.f17 (hw 17 (by simp))
          simp only [e18, e17]
          clear e18 e17
          go_simp
          refine hK.out _ _ ?_
          exact ⟨(fun jz => if jz = 106 then .int .i64 0 else if jz = 105 then .bool true else if jz = 107 then .bool true else v jz), rfl, ⟨hR.st, hR.w3.o, hR.w4.o, hR.w5.o, hR.w6.o, hR.w7.o, hR.w8.o, hR.w9.o, hR.w10.o, hR.w11.o, hR.w12.o, hR.w13.o, hR.w14.o, hR.w15.o, hR.w16.o, hR.w17.o, hR.w18.o, (fun _ j hj => upd_on (hw j hj)), hR.w20.o, hR.w21.o, hR.f0.k, hR.f1.k, hR.f2.k, hR.f3.k, hR.f4.k, hR.f5.k, hR.f6.k, hR.f7.k, hR.f8.k, hR.f9.k, hR.f10.k, hR.f11.k, hR.f12.k, hR.f13.k, hR.f14.k, hR.f15.k, hR.f16.k, (fun _ => rfl), (fun _ => rfl), (fun _ => rfl), hR.f20.k, hR.f21.k⟩⟩
        refine EachOf.cons [17, 19] rfl (by kernel_rfl) ?_ ?_
        · rintro L A W ⟨v, rfl, hR⟩ hi hw K hK
          have e17 := hR.f17 (hw 17 (by simp))
          have e19 := hR.f19 (hw 19 (by simp))
          simp only [e17, e19]
          clear e17 e19
          go_simp
          refine hK.out _ _ ?_
          exact ⟨(fun jz => if jz = 105 then .bool true else if jz = 107 then .bool true else if jz = 108 then .bool true else v jz), rfl, ⟨hR.st, hR.w3.o, hR.w4.o, hR.w5.o, hR.w6.o, hR.w7.o, hR.w8.o, hR.w9.o, hR.w10.o, hR.w11.o, hR.w12.o, hR.w13.o, hR.w14.o, hR.w15.o, hR.w16.o, hR.w17.o, hR.w18.o, hR.w19.o, (fun _ j hj => upd_on (hw j hj)), hR.w21.o, hR.f0.k, hR.f1.k, hR.f2.k, hR.f3.k, hR.f4.k, hR.f5.k, hR.f6.k, hR.f7.k, hR.f8.k, hR.f9.k, hR.f10.k, hR.f11.k, hR.f12.k, hR.f13.k, hR.f14.k, hR.f15.k, hR.f16.k, (fun _ => rfl), hR.f18.k, (fun _ => rfl), (fun _ => rfl), hR.f21.k⟩⟩
        refine EachOf.cons [20] rfl (by kernel_rfl) ?_ ?_
        · rintro L A W ⟨v, rfl, hR⟩ hi hw K hK
          have e20 := hR.f20 (hw 20 (by simp))
          simp only [e20]
          clear e20
          go_simp
          refine hK.out _ _ ?_
          exact ⟨(fun jz => if jz = 108 then .bool true else if jz = 6 then .bool true else v jz), rfl, ⟨hR.st, hR.w3.o, hR.w4.o, hR.w5.o, hR.w6.o, hR.w7.o, hR.w8.o, hR.w9.o, hR.w10.o, hR.w11.o, hR.w12.o, hR.w13.o, hR.w14.o, hR.w15.o, hR.w16.o, hR.w17.o, hR.w18.o, hR.w19.o, hR.w20.o, (fun _ j hj => upd_on (hw j hj)), hR.f0.k, hR.f1.k, hR.f2.k, hR.f3.k, hR.f4.k, hR.f5.k, hR.f6.k, hR.f7.k, hR.f8.k, hR.f9.k, hR.f10.k, hR.f11.k, hR.f12.k, hR.f13.k, hR.f14.k, hR.f15.k, hR.f16.k, hR.f17.k, hR.f18.k, hR.f19.k, (fun _ => rfl), (fun _ => rfl)⟩⟩
        exact EachOf.nil
      rintro L A W12 ⟨vt, rfl, hR⟩ hL
      have e21 := hR.f21 (hL 21 (by simp))
      simp only [e21]
      have HE := Lib.hid (below_on HS11.out.st hR.st)
      clear hR hL e21 LA0 LA1 LA2 LB0 LB1 LB2 LX0 LX1 HS11
      go_wp2_with fail
      go_ret
      exact ⟨rfl, HE.out⟩
end Go.Proofs.Ytabpnkpedcgcpaa
