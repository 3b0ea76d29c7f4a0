/- Layer 9: the examples; law PointsLengths. -/
import Derived.Test.YtcghjjfpjiacfaaDoorVR2
namespace Go.Proofs.YtcghjjfpjiacfaaDoor
open Go.ChangeShapes Go.WideShapes Go.ChangeAt Go.RowKit Go.Joins Go.Deep Go.Shelf
set_option linter.unusedVariables false

set_option maxRecDepth 100000 in
set_option maxHeartbeats 8000000 in
theorem pawake_any (w : World) : Calls Tryd.prog 9 #[] w fun e w' => e = .returned (.bool true) ∧ Below w.heap.size w w' := by
  have C1 : ∀ W, Hid (Calls Tryd.prog 40 #[.agg #[.int .i64 0, .int .i64 0, .int .i64 0], .agg #[.int .i64 3, .int .i64 4, .int .i64 12]] W fun r w' => r = .returned (.tuple #[.int .i64 169, .int .i64 0]) ∧ Below W.heap.size W w') := fun W => square_any ⟨0, 0, 0⟩ ⟨3, 4, 12⟩ W 169 0 (by decide)
  have C2 : ∀ W, Hid (Calls Tryd.prog 41 #[.agg #[.int .i64 0, .int .i64 0, .int .i64 0], .agg #[.int .i64 3, .int .i64 4, .int .i64 12]] W fun r w' => r = .returned (.tuple #[.agg #[.int .i64 13, .int .i64 13], .int .i64 0]) ∧ Below W.heap.size W w') := fun W => length_any ⟨0, 0, 0⟩ ⟨3, 4, 12⟩ 13 13 W (fun _ _ => ⟨⟨by omega, by omega, by decide, by decide⟩, ⟨by omega, by omega, by decide, .inr (by decide)⟩⟩) 13 13 0 (by decide)
  have C3 : ∀ W, Hid (Calls Tryd.prog 41 #[.agg #[.int .i64 0, .int .i64 0, .int .i64 0], .agg #[.int .i64 1, .int .i64 1, .int .i64 0]] W fun r w' => r = .returned (.tuple #[.agg #[.int .i64 1, .int .i64 2], .int .i64 0]) ∧ Below W.heap.size W w') := fun W => length_any ⟨0, 0, 0⟩ ⟨1, 1, 0⟩ 1 2 W (fun _ _ => ⟨⟨by omega, by omega, by decide, by decide⟩, ⟨by omega, by omega, by decide, .inr (by decide)⟩⟩) 1 2 0 (by decide)
  go_enter Tryd.func9, Tryd.ntmps9
  go_upto_region 2 with (go_at_call 40; (with_reducible refine ((C1 _).out.mono ?_)); rintro e w1 ⟨rfl, hb1⟩; have HB1 := Lib.hid hb1; clear hb1)
  go_upto_region 3 with (go_at_call 41; (with_reducible refine ((C2 _).out.mono ?_)); rintro e w2 ⟨rfl, hb2⟩; have HB2 := Lib.hid (below_on HB1.out hb2); clear hb2)
  have HB3 := Lib.hid (below_on HB2.out (below_alloc w2 (Obj.cells #[.int .i64 13, .int .i64 13] 74)))
  have hX := OB.new w2 (.int .i64 13) (.int .i64 13) 74
  obtain ⟨w3, hw3⟩ : ∃ W, W = w2.alloc (Obj.cells #[.int .i64 13, .int .i64 13] 74) := ⟨_, rfl⟩
  obtain ⟨bx, hbx⟩ : ∃ x, x = w2.heap.size := ⟨_, rfl⟩
  rw [← hw3] at HB3 hX
  rw [← hbx] at hX
  rw [← hw3, ← hbx]
  have HX := Lib.hid hX
  clear hw3 hbx hX HB1 HB2
  go_upto_region 4 with (go_at_call 41; (with_reducible refine ((C3 _).out.mono ?_)); rintro e w4 ⟨rfl, hb4⟩; have HB4 := Lib.hid (below_on HB3.out hb4); have HX4 := Lib.hid (HX.out.on hb4); clear hb4)
  have bl := below_alloc w4 (Obj.cells #[.int .i64 1, .int .i64 2] 74)
  have HB5 := Lib.hid (below_on HB4.out bl)
  have hY := OB.new w4 (.int .i64 1) (.int .i64 2) 74
  have hX5 := HX4.out.on bl
  obtain ⟨w5, hw5⟩ : ∃ W, W = w4.alloc (Obj.cells #[.int .i64 1, .int .i64 2] 74) := ⟨_, rfl⟩
  obtain ⟨by2, hby⟩ : ∃ x, x = w4.heap.size := ⟨_, rfl⟩
  rw [← hw5] at HB5 hX5 hY
  rw [← hby] at hY
  rw [← hw5, ← hby]
  have x0 := hX5.c0
  have x1 := hX5.c1
  have y0 := hY.c0
  have y1 := hY.c1
  clear hw5 hby bl HX HX4 HB3 HB4 hX5 hY C1 C2 C3
  go_wp2_with fail
  go_ret
  exact ⟨rfl, HB5.out⟩

structure LenS (w W : World) (ba bb bx bz : Nat) (a b : Pt) (xl xh zl zh : Int) : Prop where
  st : Below w.heap.size w W
  A : B3 W ba a.x a.y a.z
  B : B3 W bb b.x b.y b.z
  X : OB W bx (.int .i64 xl) (.int .i64 xh)
  Z : OB W bz (.int .i64 zl) (.int .i64 zh)
theorem LenS.on {w W W2 : World} {ba bb bx bz : Nat} {a b : Pt} {xl xh zl zh : Int} (h : LenS w W ba bb bx bz a b xl xh zl zh) (hb : Below W.heap.size W W2) : LenS w W2 ba bb bx bz a b xl xh zl zh :=
  ⟨below_on h.st hb, h.A.on hb, h.B.on hb, h.X.on hb, h.Z.on hb⟩
theorem rt_ex (n : Int) : ∃ u v, 0 ≤ n → n ≤ 1152921504606846976 → FlR n u ∧ ClR n v := by
  by_cases h : 0 ≤ n ∧ n ≤ 1152921504606846976
  · obtain ⟨u, hu⟩ := flR_ex n h.1 h.2
    obtain ⟨v, hv⟩ := clR_ex n h.1 h.2
    exact ⟨u, v, fun _ _ => ⟨hu, hv⟩⟩
  · exact ⟨0, 0, fun h1 h2 => absurd ⟨h1, h2⟩ h⟩
theorem ln_ex (a b : Pt) : ∃ u v, a.ok → b.ok → FlR (sqL a b) u ∧ ClR (sqL a b) v := by
  obtain ⟨u, v, h⟩ := rt_ex (sqL a b)
  exact ⟨u, v, fun ha hb => by have := sqL_bd ha hb; exact h (by omega) (by omega)⟩
structure Vl9R (bz : Nat) (n u zh : Int) (Wc : World) (L : Nat → Bool) (v : Nat → Value) (W : World) : Prop where
  st : Below Wc.heap.size Wc W
  w2 : Had L 2 (∀ j ∈ [1], L j = true)
  w3 : Had L 3 (∀ j ∈ [0, 2], L j = true)
  w4 : Had L 4 (∀ j ∈ [3], L j = true)
  w5 : Had L 5 (∀ j ∈ [4], L j = true)
  w6 : Had L 6 (∀ j ∈ [4, 5], L j = true)
  w7 : Had L 7 (∀ j ∈ [4, 6], L j = true)
  f0 : Had L 0 (v 45 = .agg #[.int .i64 u, .int .i64 zh])
  f1 : Had L 1 (v 46 = .int .i64 n)
  f2 : Had L 2 (v 47 = .agg #[.int .i64 u, .int .i64 zh])
  f3 : Had L 3 (v 48 = .bool false)
  f4 : Had L 4 (v 49 = .bool false)
  f5 : Had L 5 (v 50 = .int .i64 0)
  f6 : Had L 6 (v 51 = .bool false)
  f7 : Had L 7 (v 52 = .bool false)
structure Vl11R (ba bb : Nat) (a b : Pt) (ta tb : Bool) (Wc : World) (L : Nat → Bool) (v : Nat → Value) (W : World) : Prop where
  st : Below Wc.heap.size Wc W
  w1 : Had L 1 (∀ j ∈ [0], L j = true)
  w3 : Had L 3 (∀ j ∈ [2], L j = true)
  w4 : Had L 4 (∀ j ∈ [1, 3], L j = true)
  w5 : Had L 5 (∀ j ∈ [4], L j = true)
  w6 : Had L 6 (∀ j ∈ [5], L j = true)
  w7 : Had L 7 (∀ j ∈ [5, 6], L j = true)
  w8 : Had L 8 (∀ j ∈ [5], L j = true)
  w9 : Had L 9 (∀ j ∈ [5, 8], L j = true)
  w10 : Had L 10 (∀ j ∈ [5, 7, 9], L j = true)
  w11 : Had L 11 (∀ j ∈ [5, 10], L j = true)
  f0 : Had L 0 (v 53 = .agg #[.int .i64 a.x, .int .i64 a.y, .int .i64 a.z])
  f1 : Had L 1 (v 54 = .bool ta)
  f2 : Had L 2 (v 55 = .agg #[.int .i64 a.x, .int .i64 a.y, .int .i64 a.z])
  f3 : Had L 3 (v 56 = .bool ta)
  f4 : Had L 4 (v 57 = .bool false)
  f5 : Had L 5 (v 58 = .bool false)
  f6 : Had L 6 (v 59 = .agg #[.int .i64 b.x, .int .i64 b.y, .int .i64 b.z])
  f7 : Had L 7 (v 60 = .bool tb)
  f8 : Had L 8 (v 61 = .agg #[.int .i64 b.x, .int .i64 b.y, .int .i64 b.z])
  f9 : Had L 9 (v 62 = .bool tb)
  f10 : Had L 10 (v 63 = .bool false)
  f11 : Had L 11 (v 64 = .bool false)
structure Vl15R (ba bb bx : Nat) (a b : Pt) (xs p q : Int) (Wc : World) (L : Nat → Bool) (v : Nat → Value) (W : World) : Prop where
  st : Below Wc.heap.size Wc W
  w3 : Had L 3 (∀ j ∈ [1, 2], L j = true)
  w4 : Had L 4 (∀ j ∈ [0, 3], L j = true)
  w5 : Had L 5 (∀ j ∈ [4], L j = true)
  w6 : Had L 6 (∀ j ∈ [5], L j = true)
  w7 : Had L 7 (∀ j ∈ [5, 6], L j = true)
  w8 : Had L 8 (∀ j ∈ [5, 7], L j = true)
  w9 : Had L 9 (∀ j ∈ [8], L j = true)
  w10 : Had L 10 (∀ j ∈ [9], L j = true)
  w11 : Had L 11 (∀ j ∈ [9], L j = true)
  w12 : Had L 12 (∀ j ∈ [9], L j = true)
  w13 : Had L 13 (∀ j ∈ [9, 11, 12], L j = true)
  w14 : Had L 14 (∀ j ∈ [9, 13], L j = true)
  w15 : Had L 15 (∀ j ∈ [9, 10, 14], L j = true)
  w16 : Had L 16 (∀ j ∈ [9, 15], L j = true)
  w17 : Had L 17 (∀ j ∈ [16], L j = true)
  w18 : Had L 18 (∀ j ∈ [17], L j = true)
  w19 : Had L 19 (∀ j ∈ [17, 18], L j = true)
  w20 : Had L 20 (∀ j ∈ [17, 19], L j = true)
  w21 : Had L 21 (∀ j ∈ [20], L j = true)
  f0 : Had L 0 (v 88 = .int .i64 xs)
  f1 : Had L 1 (v 89 = .agg #[.int .i64 a.x, .int .i64 a.y, .int .i64 a.z])
  f2 : Had L 2 (v 90 = .agg #[.int .i64 b.x, .int .i64 b.y, .int .i64 b.z])
  f3 : Had L 3 (v 91 = .int .i64 xs)
  f4 : Had L 4 (v 92 = .bool true)
  f5 : Had L 5 (v 93 = .bool true)
  f6 : Had L 6 (v 94 = .int .i64 0)
  f7 : Had L 7 (v 95 = .bool true)
  f8 : Had L 8 (v 96 = .bool true)
  f9 : Had L 9 (v 97 = .bool true)
  f10 : Had L 10 (v 98 = .agg #[.int .i64 p, .int .i64 q])
  f11 : Had L 11 (v 99 = .agg #[.int .i64 a.x, .int .i64 a.y, .int .i64 a.z])
  f12 : Had L 12 (v 100 = .agg #[.int .i64 b.x, .int .i64 b.y, .int .i64 b.z])
  f13 : Had L 13 (v 101 = .int .i64 xs)
  f14 : Had L 14 (v 102 = .agg #[.int .i64 p, .int .i64 q])
  f15 : Had L 15 (v 103 = .bool true)
  f16 : Had L 16 (v 104 = .bool true)
  f17 : Had L 17 (v 105 = .bool true)
  f18 : Had L 18 (v 106 = .int .i64 0)
  f19 : Had L 19 (v 107 = .bool true)
  f20 : Had L 20 (v 108 = .bool true)
  f21 : Had L 21 (v 6 = .bool true)
end Go.Proofs.YtcghjjfpjiacfaaDoor
