/- Layer 4: awake returns true. -/
import Derived.Test.YtjggnmbdgagkoaaLExam
namespace Go.Proofs.Ytjggnmbdgagkoaa
set_option linter.unusedVariables false
open Go.RowKit Go.Shelf

theorem aw_rows (w : World) : ∀ W, W = ((w.alloc (Obj.cells #[Value.int IntKind.i64 2, Value.int IntKind.i64 1] 3)).alloc (Obj.cells #[Value.int IntKind.i64 1, Value.int IntKind.i64 (-1)] 3)).alloc (Obj.cells #[Value.slice (some ⟨w.heap.size, 0, none⟩) 2 2, Value.slice (some ⟨w.heap.size + 1, 0, none⟩) 2 2] 29) →
    Row W w.heap.size [.int .i64 2, .int .i64 1] ∧ Row W (w.heap.size + 1) [.int .i64 1, .int .i64 (-1)] ∧ Row W (w.heap.size + 1 + 1) [.slice (some ⟨w.heap.size, 0, none⟩) 2 2, .slice (some ⟨w.heap.size + 1, 0, none⟩) 2 2] ∧ Below w.heap.size w W := by
  intro W hW
  subst hW
  have up : ∀ (V : World) (o : Obj), Below V.heap.size V (V.alloc o) := fun V o => (Below.refl _ _).alloc (Nat.le_refl _) _
  refine ⟨((row2 w _ _ _).on (up _ _)).on (up _ _), ?_, ?_, (by repeat' (first | (with_reducible exact Below.refl _ _) | (with_reducible assumption) | (with_reducible refine Below.alloc ?_ ?_ _) | (with_reducible refine below_drew ?_ _) | (with_reducible refine Below.drew ?_) | (with_reducible refine Below.setCell ?_ ?_ _) | go_size))⟩
  · have := row2 (w.alloc (Obj.cells #[Value.int IntKind.i64 2, Value.int IntKind.i64 1] 3)) (.int .i64 1) (.int .i64 (-1)) 3
    rw [World.size_alloc] at this
    exact this.on (up _ _)
  · have := row2 ((w.alloc (Obj.cells #[Value.int IntKind.i64 2, Value.int IntKind.i64 1] 3)).alloc (Obj.cells #[Value.int IntKind.i64 1, Value.int IntKind.i64 (-1)] 3)) (.slice (some ⟨w.heap.size, 0, none⟩) 2 2) (.slice (some ⟨w.heap.size + 1, 0, none⟩) 2 2) 29
    rwa [World.size_alloc, World.size_alloc] at this

structure AwkR (xb vb vc va vd : Nat) (Wc : World) (L : Nat → Bool) (v : Nat → Value) (g : Nat → Nat) (W : World) : Prop where
  st : Below Wc.heap.size Wc W
  f0 : Had L 0 (v 28 = .int .i64 0)
  f1 : Had L 1 (v 29 = .bool true)
  f2 : Had L 2 (v 30 = .bool true)
  f3 : Had L 3 (v 31 = .slice (some ⟨xb, 0, none⟩) 2 2)
  f4 : Had L 4 (v 32 = .agg #[.int .i64 2, .int .i64 1])
  f5 : Had L 5 (v 33 = .agg #[.int .i64 1, .int .i64 1])
  f6 : Had L 6 (v 34 = .slice (some ⟨g 6, 0, none⟩) 2 2)
  f7 : Had L 7 (v 35 = .bool true)
  f8 : Had L 8 (v 36 = .bool true)
  f9 : Had L 9 (v 37 = .bool true)
  f10 : Had L 10 (v 38 = .int .i64 0)
  f11 : Had L 11 (v 39 = .bool true)
  f12 : Had L 12 (v 40 = .bool true)
  f13 : Had L 13 (v 41 = .bool true)
  f14 : Had L 14 (v 42 = .int .i64 (-3))
  f15 : Had L 15 (v 43 = .bool true)
  f16 : Had L 16 (v 44 = .bool true)
  f17 : Had L 17 (v 45 = .bool true)
  f18 : Had L 18 (v 46 = .int .i64 0)
  f19 : Had L 19 (v 47 = .bool true)
  f20 : Had L 20 (v 48 = .bool true)
  f21 : Had L 21 (v 49 = .bool true)
  f22 : Had L 22 (v 50 = .slice (some ⟨vb, 0, none⟩) 2 vc)
  f23 : Had L 23 (v 51 = .int .i64 2)
  f24 : Had L 24 (v 52 = .bool true)
  f25 : Had L 25 (v 53 = .bool true)
  f26 : Had L 26 (v 54 = .bool true)
  f27 : Had L 27 (v 55 = .slice (some ⟨vb, 0, none⟩) 2 vc)
  f28 : Had L 28 (v 56 = .pointer (some ⟨vb, 0, none⟩))
  f29 : Had L 29 (v 57 = .slice (some ⟨va, 0, none⟩) 3 3)
  f30 : Had L 30 (v 58 = .agg #[.int .i64 (-2), .int .i64 1])
  f31 : Had L 31 (v 59 = .agg #[.int .i64 1, .int .i64 1])
  f32 : Had L 32 (v 60 = .agg #[.int .i64 0, .int .i64 1])
  f33 : Had L 33 (v 61 = .slice (some ⟨g 33, 0, none⟩) 3 3)
  f34 : Had L 34 (v 62 = .bool true)
  f35 : Had L 35 (v 63 = .bool true)
  f36 : Had L 36 (v 64 = .bool true)
  f37 : Had L 37 (v 65 = .slice (some ⟨vb, 0, none⟩) 2 vc)
  f38 : Had L 38 (v 66 = .pointer (some ⟨vb, 1, none⟩))
  f39 : Had L 39 (v 67 = .slice (some ⟨vd, 0, none⟩) 3 3)
  f40 : Had L 40 (v 68 = .agg #[.int .i64 (-3), .int .i64 1])
  f41 : Had L 41 (v 69 = .agg #[.int .i64 0, .int .i64 1])
  f42 : Had L 42 (v 70 = .agg #[.int .i64 1, .int .i64 1])
  f43 : Had L 43 (v 71 = .slice (some ⟨g 43, 0, none⟩) 3 3)
  f44 : Had L 44 (v 72 = .bool true)
  f45 : Had L 45 (v 73 = .bool true)
  f46 : Had L 46 (v 0 = .bool true)
  b6 : Had L 6 (Wc.heap.size ≤ g 6 ∧ Row W (g 6) [.int .i64 2, .int .i64 1, .int .i64 1, .int .i64 1])
  b33 : Had L 33 (Wc.heap.size ≤ g 33 ∧ Row W (g 33) [.int .i64 (-2), .int .i64 1, .int .i64 1, .int .i64 1, .int .i64 0, .int .i64 1])
  b43 : Had L 43 (Wc.heap.size ≤ g 43 ∧ Row W (g 43) [.int .i64 (-3), .int .i64 1, .int .i64 0, .int .i64 1, .int .i64 1, .int .i64 1])
  n6_33 : Had2 L 6 33 (g 6 ≠ g 33)
  n6_43 : Had2 L 6 43 (g 6 ≠ g 43)
  n33_43 : Had2 L 33 43 (g 33 ≠ g 43)

set_option maxRecDepth 100000 in
set_option maxHeartbeats 16000000 in
theorem lawake_any (w : World) : Calls Try.prog 10 #[] w fun e w' => e = .returned (.bool true) ∧ Below w.heap.size w w' := by
  have CF := fun n w => Lib.hid (f_any n w)
  go_enter Try.func10, Try.ntmps10
  go_upto_region 2 with fail
  obtain ⟨W1, hW1⟩ : ∃ W, W = ((w.alloc (Obj.cells #[Value.int IntKind.i64 2, Value.int IntKind.i64 1] 3)).alloc (Obj.cells #[Value.int IntKind.i64 1, Value.int IntKind.i64 (-1)] 3)).alloc (Obj.cells #[Value.slice (some ⟨w.heap.size, 0, none⟩) 2 2, Value.slice (some ⟨w.heap.size + 1, 0, none⟩) 2 2] 29) := ⟨_, rfl⟩
  obtain ⟨r0, r1, r2, hb1⟩ := aw_rows w W1 hW1
  rw [← hW1]
  have HM := Lib.hid (amat2 r2 r0 r1)
  have HB1 := Lib.hid hb1
  clear hW1 r0 r1 r2 hb1
  have hb2 : Below W1.heap.size W1 (W1.alloc (Obj.cells #[Value.int IntKind.i64 5, Value.int IntKind.i64 1] 3)) := (Below.refl _ _).alloc (Nat.le_refl _) _
  have CS := Lib.hid (Solve_ex (HM.out.on hb2) (row2 W1 (.int .i64 5) (.int .i64 1) 3))
  go_wp2_with fail
  (with_reducible refine ((CS.out).mono ?_))
  rintro e W3 ⟨hb3, xb, rfl, hX⟩
  have HM3 := Lib.hid ((HM.out.on hb2).on hb3)
  have HB3 := Lib.hid (below_on HB1.out (below_on hb2 hb3))
  have HX := Lib.hid hX
  have CD := Lib.hid (Det_ex HM3.out)
  clear CS hb2 hb3 hX HM HB1
  go_wp2_with fail
  (with_reducible refine ((CD.out).mono ?_))
  rintro e W4 ⟨rfl, hb4⟩
  have HB4 := Lib.hid (below_on HB3.out hb4)
  have HX4 := Lib.hid (HX.out.on hb4)
  clear CD hb4 HM3 HB3 HX
  have hb5 : Below W4.heap.size W4 (W4.alloc (Obj.cells #[Value.int IntKind.i64 1, Value.int IntKind.i64 2, Value.int IntKind.i64 3] 3)) := (Below.refl _ _).alloc (Nat.le_refl _) _
  obtain ⟨W5, hW5⟩ : ∃ W, W = W4.alloc (Obj.cells #[Value.int IntKind.i64 1, Value.int IntKind.i64 2, Value.int IntKind.i64 3] 3) := ⟨_, rfl⟩
  have hs5 : W5.heap.size = W4.heap.size + 1 := by rw [hW5, World.size_alloc]
  have r5 : Row W5 W4.heap.size [.int .i64 1, .int .i64 2, .int .i64 3] := by rw [hW5]; exact row3 _ _ _ _ _
  have hb6 : Below W5.heap.size W5 (W5.alloc (Obj.cells #[Value.slice (some ⟨W4.heap.size, 0, none⟩) 3 3] 29)) := (Below.refl _ _).alloc (Nat.le_refl _) _
  have r6 := row1 W5 (.slice (some ⟨W4.heap.size, 0, none⟩) 3 3) 29
  have CN := Lib.hid (Null_ex (amat1 r6 (r5.on hb6)))
  rw [hs5] at CN
  rw [← hW5] at hb5
  have HB6 := Lib.hid (below_on hb5 hb6)
  rw [hW5] at CN HB6
  clear hW5 hs5 r5 r6 hb5 hb6
  go_wp2_with fail
  (with_reducible refine ((CN.out).mono ?_))
  rintro e W7 ⟨hb7, vb, vc, va, vd, rfl, hr, hv1, hv2⟩
  have HB := Lib.hid (below_on HB4.out (below_on HB6.out hb7))
  have HX7 := Lib.hid (HX4.out.on (below_on HB6.out hb7))
  have LV : Hid (vb < W7.heap.size ∧ W7.cell? ⟨vb, 0, none⟩ = some (.slice (some ⟨va, 0, none⟩) 3 3) ∧ W7.cell? ⟨vb, 1, none⟩ = some (.slice (some ⟨vd, 0, none⟩) 3 3)) := ⟨hr.1, by simpa using hr.2 0 (by simp), by simpa using hr.2 1 (by simp)⟩
  have HV1 := Lib.hid hv1
  have HV2 := Lib.hid hv2
  have CE1 := fun W2 (h : Below W7.heap.size W7 W2) b (hr : Row W2 b [.int .i64 2, .int .i64 1, .int .i64 1, .int .i64 1]) => Lib.hid (equalF_same (some ⟨xb, 0, none⟩) (some ⟨b, 0, none⟩) 2 2 2 [(2, 1), (1, 1)] [(2, 1), (1, 1)] W2 (HX7.out.on h) hr.fr2 rfl rfl (by omega))
  have CE2 := fun W2 (h : Below W7.heap.size W7 W2) b (hr : Row W2 b [.int .i64 (-2), .int .i64 1, .int .i64 1, .int .i64 1, .int .i64 0, .int .i64 1]) => Lib.hid (equalF_same (some ⟨va, 0, none⟩) (some ⟨b, 0, none⟩) 3 3 3 [(-2, 1), (1, 1), (0, 1)] [(-2, 1), (1, 1), (0, 1)] W2 (HV1.out.on h) hr.fr3 rfl rfl (by omega))
  have CE3 := fun W2 (h : Below W7.heap.size W7 W2) b (hr : Row W2 b [.int .i64 (-3), .int .i64 1, .int .i64 0, .int .i64 1, .int .i64 1, .int .i64 1]) => Lib.hid (equalF_same (some ⟨vd, 0, none⟩) (some ⟨b, 0, none⟩) 3 3 3 [(-3, 1), (0, 1), (1, 1)] [(-3, 1), (0, 1), (1, 1)] W2 (HV2.out.on h) hr.fr3 rfl rfl (by omega))
  simp only [decide_true] at CE1 CE2 CE3
  clear CN hb7 hr hv1 hv2 HB4 HB6 HX4
  go_upto_region 5 with fail
  refine wp_region_each (fun L A W => ∃ (v : Nat → Value) (g : Nat → Nat), A = ⟨#[v 0, _, _, _, _, _, _, _, _, _, _, _, _, _, _, _, _, _, _, _, _, _, _, _, _, _, _, _, v 28, v 29, v 30, v 31, v 32, v 33, v 34, v 35, v 36, v 37, v 38, v 39, v 40, v 41, v 42, v 43, v 44, v 45, v 46, v 47, v 48, v 49, v 50, v 51, v 52, v 53, v 54, v 55, v 56, v 57, v 58, v 59, v 60, v 61, v 62, v 63, v 64, v 65, v 66, v 67, v 68, v 69, v 70, v 71, v 72, v 73], []⟩ ∧ AwkR xb vb vc va vd W7 L v g W) (by kernel_rfl) (by kernel_rfl) ⟨fun jz => if jz = 0 then .bool false else undef, fun _ => 0, rfl, ⟨Below.drew (Below.refl _ _), Had.none, Had.none, Had.none, Had.none, Had.none, Had.none, Had.none, Had.none, Had.none, Had.none, Had.none, Had.none, Had.none, Had.none, Had.none, Had.none, Had.none, Had.none, Had.none, Had.none, Had.none, Had.none, Had.none, Had.none, Had.none, Had.none, Had.none, Had.none, Had.none, Had.none, Had.none, Had.none, Had.none, Had.none, Had.none, Had.none, Had.none, Had.none, Had.none, Had.none, Had.none, Had.none, Had.none, Had.none, Had.none, Had.none, Had.none, Had.none, Had.none, Had.none, (fun h => by cases h), (fun h => by cases h), (fun h => by cases h)⟩⟩ (rs := [0, 1, 2, 3, 4, 5, 6, 7, 8, 9, 10, 11, 12, 13, 14, 15, 16, 17, 18, 19, 20, 21, 22, 23, 24, 25, 26, 27, 28, 29, 30, 31, 32, 33, 34, 35, 36, 37, 38, 39, 40, 41, 42, 43, 44, 45, 46]) (by kernel_rfl) ?_ ?_
  · refine EachOf.cons [] rfl (by kernel_rfl) ?_ ?_
    · rintro L A W ⟨v, g, rfl, hR⟩ hi hw K hK
      go_simp
      refine hK.out _ _ ?_
      exact ⟨(fun jz => if jz = 28 then .int .i64 0 else v jz), g, rfl, ⟨hR.st, (fun _ => rfl), hR.f1.keep rfl, hR.f2.keep rfl, hR.f3.keep rfl, hR.f4.keep rfl, hR.f5.keep rfl, hR.f6.keep rfl, hR.f7.keep rfl, hR.f8.keep rfl, hR.f9.keep rfl, hR.f10.keep rfl, hR.f11.keep rfl, hR.f12.keep rfl, hR.f13.keep rfl, hR.f14.keep rfl, hR.f15.keep rfl, hR.f16.keep rfl, hR.f17.keep rfl, hR.f18.keep rfl, hR.f19.keep rfl, hR.f20.keep rfl, hR.f21.keep rfl, hR.f22.keep rfl, hR.f23.keep rfl, hR.f24.keep rfl, hR.f25.keep rfl, hR.f26.keep rfl, hR.f27.keep rfl, hR.f28.keep rfl, hR.f29.keep rfl, hR.f30.keep rfl, hR.f31.keep rfl, hR.f32.keep rfl, hR.f33.keep rfl, hR.f34.keep rfl, hR.f35.keep rfl, hR.f36.keep rfl, hR.f37.keep rfl, hR.f38.keep rfl, hR.f39.keep rfl, hR.f40.keep rfl, hR.f41.keep rfl, hR.f42.keep rfl, hR.f43.keep rfl, hR.f44.keep rfl, hR.f45.keep rfl, hR.f46.keep rfl, hR.b6.keep rfl, hR.b33.keep rfl, hR.b43.keep rfl, hR.n6_33.keep rfl rfl, hR.n6_43.keep rfl rfl, hR.n33_43.keep rfl rfl⟩⟩
    refine EachOf.cons [0] rfl (by kernel_rfl) ?_ ?_
    · rintro L A W ⟨v, g, rfl, hR⟩ hi hw K hK
      have e0 := hR.f0 (hw 0 (by simp))
      simp only [e0]
      clear e0
      go_simp
      refine hK.out _ _ ?_
      exact ⟨(fun jz => if jz = 28 then .int .i64 0 else if jz = 29 then .bool true else v jz), g, rfl, ⟨hR.st, (fun _ => rfl), (fun _ => rfl), hR.f2.keep rfl, hR.f3.keep rfl, hR.f4.keep rfl, hR.f5.keep rfl, hR.f6.keep rfl, hR.f7.keep rfl, hR.f8.keep rfl, hR.f9.keep rfl, hR.f10.keep rfl, hR.f11.keep rfl, hR.f12.keep rfl, hR.f13.keep rfl, hR.f14.keep rfl, hR.f15.keep rfl, hR.f16.keep rfl, hR.f17.keep rfl, hR.f18.keep rfl, hR.f19.keep rfl, hR.f20.keep rfl, hR.f21.keep rfl, hR.f22.keep rfl, hR.f23.keep rfl, hR.f24.keep rfl, hR.f25.keep rfl, hR.f26.keep rfl, hR.f27.keep rfl, hR.f28.keep rfl, hR.f29.keep rfl, hR.f30.keep rfl, hR.f31.keep rfl, hR.f32.keep rfl, hR.f33.keep rfl, hR.f34.keep rfl, hR.f35.keep rfl, hR.f36.keep rfl, hR.f37.keep rfl, hR.f38.keep rfl, hR.f39.keep rfl, hR.f40.keep rfl, hR.f41.keep rfl, hR.f42.keep rfl, hR.f43.keep rfl, hR.f44.keep rfl, hR.f45.keep rfl, hR.f46.keep rfl, hR.b6.keep rfl, hR.b33.keep rfl, hR.b43.keep rfl, hR.n6_33.keep rfl rfl, hR.n6_43.keep rfl rfl, hR.n33_43.keep rfl rfl⟩⟩
    refine EachOf.cons [1] rfl (by kernel_rfl) ?_ ?_
    · rintro L A W ⟨v, g, rfl, hR⟩ hi hw K hK
      have e1 := hR.f1 (hw 1 (by simp))
      simp only [e1]
      clear e1
      go_simp
      refine hK.out _ _ ?_
      exact ⟨(fun jz => if jz = 29 then .bool true else if jz = 30 then .bool true else v jz), g, rfl, ⟨hR.st, hR.f0.keep rfl, (fun _ => rfl), (fun _ => rfl), hR.f3.keep rfl, hR.f4.keep rfl, hR.f5.keep rfl, hR.f6.keep rfl, hR.f7.keep rfl, hR.f8.keep rfl, hR.f9.keep rfl, hR.f10.keep rfl, hR.f11.keep rfl, hR.f12.keep rfl, hR.f13.keep rfl, hR.f14.keep rfl, hR.f15.keep rfl, hR.f16.keep rfl, hR.f17.keep rfl, hR.f18.keep rfl, hR.f19.keep rfl, hR.f20.keep rfl, hR.f21.keep rfl, hR.f22.keep rfl, hR.f23.keep rfl, hR.f24.keep rfl, hR.f25.keep rfl, hR.f26.keep rfl, hR.f27.keep rfl, hR.f28.keep rfl, hR.f29.keep rfl, hR.f30.keep rfl, hR.f31.keep rfl, hR.f32.keep rfl, hR.f33.keep rfl, hR.f34.keep rfl, hR.f35.keep rfl, hR.f36.keep rfl, hR.f37.keep rfl, hR.f38.keep rfl, hR.f39.keep rfl, hR.f40.keep rfl, hR.f41.keep rfl, hR.f42.keep rfl, hR.f43.keep rfl, hR.f44.keep rfl, hR.f45.keep rfl, hR.f46.keep rfl, hR.b6.keep rfl, hR.b33.keep rfl, hR.b43.keep rfl, hR.n6_33.keep rfl rfl, hR.n6_43.keep rfl rfl, hR.n33_43.keep rfl rfl⟩⟩
    refine EachOf.cons [2] rfl (by kernel_rfl) ?_ ?_
    · rintro L A W ⟨v, g, rfl, hR⟩ hi hw K hK
      have e2 := hR.f2 (hw 2 (by simp))
      simp only [e2]
      clear e2
      go_simp
      refine hK.out _ _ ?_
      exact ⟨(fun jz => if jz = 30 then .bool true else if jz = 31 then .slice (some ⟨xb, 0, none⟩) 2 2 else v jz), g, rfl, ⟨hR.st, hR.f0.keep rfl, hR.f1.keep rfl, (fun _ => rfl), (fun _ => rfl), hR.f4.keep rfl, hR.f5.keep rfl, hR.f6.keep rfl, hR.f7.keep rfl, hR.f8.keep rfl, hR.f9.keep rfl, hR.f10.keep rfl, hR.f11.keep rfl, hR.f12.keep rfl, hR.f13.keep rfl, hR.f14.keep rfl, hR.f15.keep rfl, hR.f16.keep rfl, hR.f17.keep rfl, hR.f18.keep rfl, hR.f19.keep rfl, hR.f20.keep rfl, hR.f21.keep rfl, hR.f22.keep rfl, hR.f23.keep rfl, hR.f24.keep rfl, hR.f25.keep rfl, hR.f26.keep rfl, hR.f27.keep rfl, hR.f28.keep rfl, hR.f29.keep rfl, hR.f30.keep rfl, hR.f31.keep rfl, hR.f32.keep rfl, hR.f33.keep rfl, hR.f34.keep rfl, hR.f35.keep rfl, hR.f36.keep rfl, hR.f37.keep rfl, hR.f38.keep rfl, hR.f39.keep rfl, hR.f40.keep rfl, hR.f41.keep rfl, hR.f42.keep rfl, hR.f43.keep rfl, hR.f44.keep rfl, hR.f45.keep rfl, hR.f46.keep rfl, hR.b6.keep rfl, hR.b33.keep rfl, hR.b43.keep rfl, hR.n6_33.keep rfl rfl, hR.n6_43.keep rfl rfl, hR.n33_43.keep rfl rfl⟩⟩
    refine EachOf.cons [2] rfl (by kernel_rfl) ?_ ?_
    · rintro L A W ⟨v, g, rfl, hR⟩ hi hw K hK
      have e2 := hR.f2 (hw 2 (by simp))
      simp only [e2]
      clear e2
      go_simp
      go_at_call 31
      (with_reducible refine ((CF 2 _).out).mono ?_)
      rintro e w2 ⟨rfl, hb⟩
      go_simp
      refine hK.out _ _ ?_
      exact ⟨(fun jz => if jz = 30 then .bool true else if jz = 32 then .agg #[.int .i64 2, .int .i64 1] else v jz), g, rfl, ⟨below_on hR.st hb, hR.f0.keep rfl, hR.f1.keep rfl, (fun _ => rfl), hR.f3.keep rfl, (fun _ => rfl), hR.f5.keep rfl, hR.f6.keep rfl, hR.f7.keep rfl, hR.f8.keep rfl, hR.f9.keep rfl, hR.f10.keep rfl, hR.f11.keep rfl, hR.f12.keep rfl, hR.f13.keep rfl, hR.f14.keep rfl, hR.f15.keep rfl, hR.f16.keep rfl, hR.f17.keep rfl, hR.f18.keep rfl, hR.f19.keep rfl, hR.f20.keep rfl, hR.f21.keep rfl, hR.f22.keep rfl, hR.f23.keep rfl, hR.f24.keep rfl, hR.f25.keep rfl, hR.f26.keep rfl, hR.f27.keep rfl, hR.f28.keep rfl, hR.f29.keep rfl, hR.f30.keep rfl, hR.f31.keep rfl, hR.f32.keep rfl, hR.f33.keep rfl, hR.f34.keep rfl, hR.f35.keep rfl, hR.f36.keep rfl, hR.f37.keep rfl, hR.f38.keep rfl, hR.f39.keep rfl, hR.f40.keep rfl, hR.f41.keep rfl, hR.f42.keep rfl, hR.f43.keep rfl, hR.f44.keep rfl, hR.f45.keep rfl, hR.f46.keep rfl, hR.b6.keepM rfl (fun h => ⟨h.1, h.2.on hb⟩), hR.b33.keepM rfl (fun h => ⟨h.1, h.2.on hb⟩), hR.b43.keepM rfl (fun h => ⟨h.1, h.2.on hb⟩), hR.n6_33.keep rfl rfl, hR.n6_43.keep rfl rfl, hR.n33_43.keep rfl rfl⟩⟩
    refine EachOf.cons [2] rfl (by kernel_rfl) ?_ ?_
    · rintro L A W ⟨v, g, rfl, hR⟩ hi hw K hK
      have e2 := hR.f2 (hw 2 (by simp))
      simp only [e2]
      clear e2
      go_simp
      go_at_call 31
      (with_reducible refine ((CF 1 _).out).mono ?_)
      rintro e w2 ⟨rfl, hb⟩
      go_simp
      refine hK.out _ _ ?_
      exact ⟨(fun jz => if jz = 30 then .bool true else if jz = 33 then .agg #[.int .i64 1, .int .i64 1] else v jz), g, rfl, ⟨below_on hR.st hb, hR.f0.keep rfl, hR.f1.keep rfl, (fun _ => rfl), hR.f3.keep rfl, hR.f4.keep rfl, (fun _ => rfl), hR.f6.keep rfl, hR.f7.keep rfl, hR.f8.keep rfl, hR.f9.keep rfl, hR.f10.keep rfl, hR.f11.keep rfl, hR.f12.keep rfl, hR.f13.keep rfl, hR.f14.keep rfl, hR.f15.keep rfl, hR.f16.keep rfl, hR.f17.keep rfl, hR.f18.keep rfl, hR.f19.keep rfl, hR.f20.keep rfl, hR.f21.keep rfl, hR.f22.keep rfl, hR.f23.keep rfl, hR.f24.keep rfl, hR.f25.keep rfl, hR.f26.keep rfl, hR.f27.keep rfl, hR.f28.keep rfl, hR.f29.keep rfl, hR.f30.keep rfl, hR.f31.keep rfl, hR.f32.keep rfl, hR.f33.keep rfl, hR.f34.keep rfl, hR.f35.keep rfl, hR.f36.keep rfl, hR.f37.keep rfl, hR.f38.keep rfl, hR.f39.keep rfl, hR.f40.keep rfl, hR.f41.keep rfl, hR.f42.keep rfl, hR.f43.keep rfl, hR.f44.keep rfl, hR.f45.keep rfl, hR.f46.keep rfl, hR.b6.keepM rfl (fun h => ⟨h.1, h.2.on hb⟩), hR.b33.keepM rfl (fun h => ⟨h.1, h.2.on hb⟩), hR.b43.keepM rfl (fun h => ⟨h.1, h.2.on hb⟩), hR.n6_33.keep rfl rfl, hR.n6_43.keep rfl rfl, hR.n33_43.keep rfl rfl⟩⟩
    refine EachOf.cons [4, 5, 2] rfl (by kernel_rfl) ?_ ?_
    · rintro L A W ⟨v, g, rfl, hR⟩ hi hw K hK
      have e4 := hR.f4 (hw 4 (by simp))
      have e5 := hR.f5 (hw 5 (by simp))
      have e2 := hR.f2 (hw 2 (by simp))
      simp only [e4, e5, e2]
      clear e4 e5 e2
      have hz := hR.st.size
      go_simp
      refine hK.out _ _ ?_
      have hb : Below W.heap.size W (W.alloc (Obj.cells #[Value.int .i64 2, Value.int .i64 1, Value.int .i64 1, Value.int .i64 1] 45)) := (Below.refl _ _).alloc (Nat.le_refl _) _
      have hrow : Row (W.alloc (Obj.cells #[Value.int .i64 2, Value.int .i64 1, Value.int .i64 1, Value.int .i64 1] 45)) W.heap.size [.int .i64 2, .int .i64 1, .int .i64 1, .int .i64 1] := row4 _ _ _ _ _ _
      exact ⟨(fun jz => if jz = 32 then .agg #[.int .i64 2, .int .i64 1] else if jz = 33 then .agg #[.int .i64 1, .int .i64 1] else if jz = 30 then .bool true else if jz = 34 then .slice (some ⟨W.heap.size, 0, none⟩) 2 2 else v jz), (fun jz => if jz = 6 then W.heap.size else g jz), rfl, ⟨below_on hR.st hb, hR.f0.keep rfl, hR.f1.keep rfl, (fun _ => rfl), hR.f3.keep rfl, (fun _ => rfl), (fun _ => rfl), (fun _ => rfl), hR.f7.keep rfl, hR.f8.keep rfl, hR.f9.keep rfl, hR.f10.keep rfl, hR.f11.keep rfl, hR.f12.keep rfl, hR.f13.keep rfl, hR.f14.keep rfl, hR.f15.keep rfl, hR.f16.keep rfl, hR.f17.keep rfl, hR.f18.keep rfl, hR.f19.keep rfl, hR.f20.keep rfl, hR.f21.keep rfl, hR.f22.keep rfl, hR.f23.keep rfl, hR.f24.keep rfl, hR.f25.keep rfl, hR.f26.keep rfl, hR.f27.keep rfl, hR.f28.keep rfl, hR.f29.keep rfl, hR.f30.keep rfl, hR.f31.keep rfl, hR.f32.keep rfl, hR.f33.keep rfl, hR.f34.keep rfl, hR.f35.keep rfl, hR.f36.keep rfl, hR.f37.keep rfl, hR.f38.keep rfl, hR.f39.keep rfl, hR.f40.keep rfl, hR.f41.keep rfl, hR.f42.keep rfl, hR.f43.keep rfl, hR.f44.keep rfl, hR.f45.keep rfl, hR.f46.keep rfl, (fun _ => ⟨hz, hrow⟩), hR.b33.keepM rfl (fun h => ⟨h.1, h.2.on hb⟩), hR.b43.keepM rfl (fun h => ⟨h.1, h.2.on hb⟩), (fun _ h => by have h1 := (hR.b33 (upd_back h rfl)).2.1; exact Nat.ne_of_gt h1), (fun _ h => by have h1 := (hR.b43 (upd_back h rfl)).2.1; exact Nat.ne_of_gt h1), hR.n33_43.keep rfl rfl⟩⟩
    refine EachOf.cons [3, 6, 2] rfl (by kernel_rfl) ?_ ?_
    · rintro L A W ⟨v, g, rfl, hR⟩ hi hw K hK
      have e3 := hR.f3 (hw 3 (by simp))
      have e6 := hR.f6 (hw 6 (by simp))
      have e2 := hR.f2 (hw 2 (by simp))
      simp only [e3, e6, e2]
      clear e3 e6 e2
      have hrw := (hR.b6 (hw 6 (by simp))).2
      go_simp
      go_at_call 25
      (with_reducible refine ((CE1 _ hR.st _ hrw).out).mono ?_)
      rintro e w2 ⟨rfl, hb⟩
      go_simp
      refine hK.out _ _ ?_
      exact ⟨(fun jz => if jz = 31 then .slice (some ⟨xb, 0, none⟩) 2 2 else if jz = 34 then .slice (some ⟨g 6, 0, none⟩) 2 2 else if jz = 30 then .bool true else if jz = 35 then .bool true else v jz), g, rfl, ⟨below_on hR.st hb, hR.f0.keep rfl, hR.f1.keep rfl, (fun _ => rfl), (fun _ => rfl), hR.f4.keep rfl, hR.f5.keep rfl, (fun _ => rfl), (fun _ => rfl), hR.f8.keep rfl, hR.f9.keep rfl, hR.f10.keep rfl, hR.f11.keep rfl, hR.f12.keep rfl, hR.f13.keep rfl, hR.f14.keep rfl, hR.f15.keep rfl, hR.f16.keep rfl, hR.f17.keep rfl, hR.f18.keep rfl, hR.f19.keep rfl, hR.f20.keep rfl, hR.f21.keep rfl, hR.f22.keep rfl, hR.f23.keep rfl, hR.f24.keep rfl, hR.f25.keep rfl, hR.f26.keep rfl, hR.f27.keep rfl, hR.f28.keep rfl, hR.f29.keep rfl, hR.f30.keep rfl, hR.f31.keep rfl, hR.f32.keep rfl, hR.f33.keep rfl, hR.f34.keep rfl, hR.f35.keep rfl, hR.f36.keep rfl, hR.f37.keep rfl, hR.f38.keep rfl, hR.f39.keep rfl, hR.f40.keep rfl, hR.f41.keep rfl, hR.f42.keep rfl, hR.f43.keep rfl, hR.f44.keep rfl, hR.f45.keep rfl, hR.f46.keep rfl, hR.b6.keepM rfl (fun h => ⟨h.1, h.2.on hb⟩), hR.b33.keepM rfl (fun h => ⟨h.1, h.2.on hb⟩), hR.b43.keepM rfl (fun h => ⟨h.1, h.2.on hb⟩), hR.n6_33.keep rfl rfl, hR.n6_43.keep rfl rfl, hR.n33_43.keep rfl rfl⟩⟩
    refine EachOf.cons [2, 7] rfl (by kernel_rfl) ?_ ?_
    · rintro L A W ⟨v, g, rfl, hR⟩ hi hw K hK
      have e2 := hR.f2 (hw 2 (by simp))
      have e7 := hR.f7 (hw 7 (by simp))
      simp only [e2, e7]
      clear e2 e7
      go_simp
      refine hK.out _ _ ?_
      exact ⟨(fun jz => if jz = 30 then .bool true else if jz = 35 then .bool true else if jz = 36 then .bool true else v jz), g, rfl, ⟨hR.st, hR.f0.keep rfl, hR.f1.keep rfl, (fun _ => rfl), hR.f3.keep rfl, hR.f4.keep rfl, hR.f5.keep rfl, hR.f6.keep rfl, (fun _ => rfl), (fun _ => rfl), hR.f9.keep rfl, hR.f10.keep rfl, hR.f11.keep rfl, hR.f12.keep rfl, hR.f13.keep rfl, hR.f14.keep rfl, hR.f15.keep rfl, hR.f16.keep rfl, hR.f17.keep rfl, hR.f18.keep rfl, hR.f19.keep rfl, hR.f20.keep rfl, hR.f21.keep rfl, hR.f22.keep rfl, hR.f23.keep rfl, hR.f24.keep rfl, hR.f25.keep rfl, hR.f26.keep rfl, hR.f27.keep rfl, hR.f28.keep rfl, hR.f29.keep rfl, hR.f30.keep rfl, hR.f31.keep rfl, hR.f32.keep rfl, hR.f33.keep rfl, hR.f34.keep rfl, hR.f35.keep rfl, hR.f36.keep rfl, hR.f37.keep rfl, hR.f38.keep rfl, hR.f39.keep rfl, hR.f40.keep rfl, hR.f41.keep rfl, hR.f42.keep rfl, hR.f43.keep rfl, hR.f44.keep rfl, hR.f45.keep rfl, hR.f46.keep rfl, hR.b6.keep rfl, hR.b33.keep rfl, hR.b43.keep rfl, hR.n6_33.keep rfl rfl, hR.n6_43.keep rfl rfl, hR.n33_43.keep rfl rfl⟩⟩
    refine EachOf.cons [8] rfl (by kernel_rfl) ?_ ?_
    · rintro L A W ⟨v, g, rfl, hR⟩ hi hw K hK
      have e8 := hR.f8 (hw 8 (by simp))
      simp only [e8]
      clear e8
      go_simp
      refine hK.out _ _ ?_
      exact ⟨(fun jz => if jz = 36 then .bool true else if jz = 37 then .bool true else v jz), g, rfl, ⟨hR.st, hR.f0.keep rfl, hR.f1.keep rfl, hR.f2.keep rfl, hR.f3.keep rfl, hR.f4.keep rfl, hR.f5.keep rfl, hR.f6.keep rfl, hR.f7.keep rfl, (fun _ => rfl), (fun _ => rfl), hR.f10.keep rfl, hR.f11.keep rfl, hR.f12.keep rfl, hR.f13.keep rfl, hR.f14.keep rfl, hR.f15.keep rfl, hR.f16.keep rfl, hR.f17.keep rfl, hR.f18.keep rfl, hR.f19.keep rfl, hR.f20.keep rfl, hR.f21.keep rfl, hR.f22.keep rfl, hR.f23.keep rfl, hR.f24.keep rfl, hR.f25.keep rfl, hR.f26.keep rfl, hR.f27.keep rfl, hR.f28.keep rfl, hR.f29.keep rfl, hR.f30.keep rfl, hR.f31.keep rfl, hR.f32.keep rfl, hR.f33.keep rfl, hR.f34.keep rfl, hR.f35.keep rfl, hR.f36.keep rfl, hR.f37.keep rfl, hR.f38.keep rfl, hR.f39.keep rfl, hR.f40.keep rfl, hR.f41.keep rfl, hR.f42.keep rfl, hR.f43.keep rfl, hR.f44.keep rfl, hR.f45.keep rfl, hR.f46.keep rfl, hR.b6.keep rfl, hR.b33.keep rfl, hR.b43.keep rfl, hR.n6_33.keep rfl rfl, hR.n6_43.keep rfl rfl, hR.n33_43.keep rfl rfl⟩⟩
    refine EachOf.cons [9] rfl (by kernel_rfl) ?_ ?_
    · rintro L A W ⟨v, g, rfl, hR⟩ hi hw K hK
      have e9 := hR.f9 (hw 9 (by simp))
      simp only [e9]
      clear e9
      go_simp
      refine hK.out _ _ ?_
      exact ⟨(fun jz => if jz = 37 then .bool true else if jz = 38 then .int .i64 0 else v jz), g, rfl, ⟨hR.st, hR.f0.keep rfl, hR.f1.keep rfl, hR.f2.keep rfl, hR.f3.keep rfl, hR.f4.keep rfl, hR.f5.keep rfl, hR.f6.keep rfl, hR.f7.keep rfl, hR.f8.keep rfl, (fun _ => rfl), (fun _ => rfl), hR.f11.keep rfl, hR.f12.keep rfl, hR.f13.keep rfl, hR.f14.keep rfl, hR.f15.keep rfl, hR.f16.keep rfl, hR.f17.keep rfl, hR.f18.keep rfl, hR.f19.keep rfl, hR.f20.keep rfl, hR.f21.keep rfl, hR.f22.keep rfl, hR.f23.keep rfl, hR.f24.keep rfl, hR.f25.keep rfl, hR.f26.keep rfl, hR.f27.keep rfl, hR.f28.keep rfl, hR.f29.keep rfl, hR.f30.keep rfl, hR.f31.keep rfl, hR.f32.keep rfl, hR.f33.keep rfl, hR.f34.keep rfl, hR.f35.keep rfl, hR.f36.keep rfl, hR.f37.keep rfl, hR.f38.keep rfl, hR.f39.keep rfl, hR.f40.keep rfl, hR.f41.keep rfl, hR.f42.keep rfl, hR.f43.keep rfl, hR.f44.keep rfl, hR.f45.keep rfl, hR.f46.keep rfl, hR.b6.keep rfl, hR.b33.keep rfl, hR.b43.keep rfl, hR.n6_33.keep rfl rfl, hR.n6_43.keep rfl rfl, hR.n33_43.keep rfl rfl⟩⟩
    refine EachOf.cons [10, 9] rfl (by kernel_rfl) ?_ ?_
    · rintro L A W ⟨v, g, rfl, hR⟩ hi hw K hK
      have e10 := hR.f10 (hw 10 (by simp))
      have e9 := hR.f9 (hw 9 (by simp))
      simp only [e10, e9]
      clear e10 e9
      go_simp
      refine hK.out _ _ ?_
      exact ⟨(fun jz => if jz = 38 then .int .i64 0 else if jz = 37 then .bool true else if jz = 39 then .bool true else v jz), g, rfl, ⟨hR.st, hR.f0.keep rfl, hR.f1.keep rfl, hR.f2.keep rfl, hR.f3.keep rfl, hR.f4.keep rfl, hR.f5.keep rfl, hR.f6.keep rfl, hR.f7.keep rfl, hR.f8.keep rfl, (fun _ => rfl), (fun _ => rfl), (fun _ => rfl), hR.f12.keep rfl, hR.f13.keep rfl, hR.f14.keep rfl, hR.f15.keep rfl, hR.f16.keep rfl, hR.f17.keep rfl, hR.f18.keep rfl, hR.f19.keep rfl, hR.f20.keep rfl, hR.f21.keep rfl, hR.f22.keep rfl, hR.f23.keep rfl, hR.f24.keep rfl, hR.f25.keep rfl, hR.f26.keep rfl, hR.f27.keep rfl, hR.f28.keep rfl, hR.f29.keep rfl, hR.f30.keep rfl, hR.f31.keep rfl, hR.f32.keep rfl, hR.f33.keep rfl, hR.f34.keep rfl, hR.f35.keep rfl, hR.f36.keep rfl, hR.f37.keep rfl, hR.f38.keep rfl, hR.f39.keep rfl, hR.f40.keep rfl, hR.f41.keep rfl, hR.f42.keep rfl, hR.f43.keep rfl, hR.f44.keep rfl, hR.f45.keep rfl, hR.f46.keep rfl, hR.b6.keep rfl, hR.b33.keep rfl, hR.b43.keep rfl, hR.n6_33.keep rfl rfl, hR.n6_43.keep rfl rfl, hR.n33_43.keep rfl rfl⟩⟩
    refine EachOf.cons [9, 11] rfl (by kernel_rfl) ?_ ?_
    · rintro L A W ⟨v, g, rfl, hR⟩ hi hw K hK
      have e9 := hR.f9 (hw 9 (by simp))
      have e11 := hR.f11 (hw 11 (by simp))
      simp only [e9, e11]
      clear e9 e11
      go_simp
      refine hK.out _ _ ?_
      exact ⟨(fun jz => if jz = 37 then .bool true else if jz = 39 then .bool true else if jz = 40 then .bool true else v jz), g, rfl, ⟨hR.st, hR.f0.keep rfl, hR.f1.keep rfl, hR.f2.keep rfl, hR.f3.keep rfl, hR.f4.keep rfl, hR.f5.keep rfl, hR.f6.keep rfl, hR.f7.keep rfl, hR.f8.keep rfl, (fun _ => rfl), hR.f10.keep rfl, (fun _ => rfl), (fun _ => rfl), hR.f13.keep rfl, hR.f14.keep rfl, hR.f15.keep rfl, hR.f16.keep rfl, hR.f17.keep rfl, hR.f18.keep rfl, hR.f19.keep rfl, hR.f20.keep rfl, hR.f21.keep rfl, hR.f22.keep rfl, hR.f23.keep rfl, hR.f24.keep rfl, hR.f25.keep rfl, hR.f26.keep rfl, hR.f27.keep rfl, hR.f28.keep rfl, hR.f29.keep rfl, hR.f30.keep rfl, hR.f31.keep rfl, hR.f32.keep rfl, hR.f33.keep rfl, hR.f34.keep rfl, hR.f35.keep rfl, hR.f36.keep rfl, hR.f37.keep rfl, hR.f38.keep rfl, hR.f39.keep rfl, hR.f40.keep rfl, hR.f41.keep rfl, hR.f42.keep rfl, hR.f43.keep rfl, hR.f44.keep rfl, hR.f45.keep rfl, hR.f46.keep rfl, hR.b6.keep rfl, hR.b33.keep rfl, hR.b43.keep rfl, hR.n6_33.keep rfl rfl, hR.n6_43.keep rfl rfl, hR.n33_43.keep rfl rfl⟩⟩
    refine EachOf.cons [12] rfl (by kernel_rfl) ?_ ?_
    · rintro L A W ⟨v, g, rfl, hR⟩ hi hw K hK
      have e12 := hR.f12 (hw 12 (by simp))
      simp only [e12]
      clear e12
      go_simp
      refine hK.out _ _ ?_
      exact ⟨(fun jz => if jz = 40 then .bool true else if jz = 41 then .bool true else v jz), g, rfl, ⟨hR.st, hR.f0.keep rfl, hR.f1.keep rfl, hR.f2.keep rfl, hR.f3.keep rfl, hR.f4.keep rfl, hR.f5.keep rfl, hR.f6.keep rfl, hR.f7.keep rfl, hR.f8.keep rfl, hR.f9.keep rfl, hR.f10.keep rfl, hR.f11.keep rfl, (fun _ => rfl), (fun _ => rfl), hR.f14.keep rfl, hR.f15.keep rfl, hR.f16.keep rfl, hR.f17.keep rfl, hR.f18.keep rfl, hR.f19.keep rfl, hR.f20.keep rfl, hR.f21.keep rfl, hR.f22.keep rfl, hR.f23.keep rfl, hR.f24.keep rfl, hR.f25.keep rfl, hR.f26.keep rfl, hR.f27.keep rfl, hR.f28.keep rfl, hR.f29.keep rfl, hR.f30.keep rfl, hR.f31.keep rfl, hR.f32.keep rfl, hR.f33.keep rfl, hR.f34.keep rfl, hR.f35.keep rfl, hR.f36.keep rfl, hR.f37.keep rfl, hR.f38.keep rfl, hR.f39.keep rfl, hR.f40.keep rfl, hR.f41.keep rfl, hR.f42.keep rfl, hR.f43.keep rfl, hR.f44.keep rfl, hR.f45.keep rfl, hR.f46.keep rfl, hR.b6.keep rfl, hR.b33.keep rfl, hR.b43.keep rfl, hR.n6_33.keep rfl rfl, hR.n6_43.keep rfl rfl, hR.n33_43.keep rfl rfl⟩⟩
    refine EachOf.cons [13] rfl (by kernel_rfl) ?_ ?_
    · rintro L A W ⟨v, g, rfl, hR⟩ hi hw K hK
      have e13 := hR.f13 (hw 13 (by simp))
      simp only [e13]
      clear e13
      go_simp
      refine hK.out _ _ ?_
      exact ⟨(fun jz => if jz = 41 then .bool true else if jz = 42 then .int .i64 (-3) else v jz), g, rfl, ⟨hR.st, hR.f0.keep rfl, hR.f1.keep rfl, hR.f2.keep rfl, hR.f3.keep rfl, hR.f4.keep rfl, hR.f5.keep rfl, hR.f6.keep rfl, hR.f7.keep rfl, hR.f8.keep rfl, hR.f9.keep rfl, hR.f10.keep rfl, hR.f11.keep rfl, hR.f12.keep rfl, (fun _ => rfl), (fun _ => rfl), hR.f15.keep rfl, hR.f16.keep rfl, hR.f17.keep rfl, hR.f18.keep rfl, hR.f19.keep rfl, hR.f20.keep rfl, hR.f21.keep rfl, hR.f22.keep rfl, hR.f23.keep rfl, hR.f24.keep rfl, hR.f25.keep rfl, hR.f26.keep rfl, hR.f27.keep rfl, hR.f28.keep rfl, hR.f29.keep rfl, hR.f30.keep rfl, hR.f31.keep rfl, hR.f32.keep rfl, hR.f33.keep rfl, hR.f34.keep rfl, hR.f35.keep rfl, hR.f36.keep rfl, hR.f37.keep rfl, hR.f38.keep rfl, hR.f39.keep rfl, hR.f40.keep rfl, hR.f41.keep rfl, hR.f42.keep rfl, hR.f43.keep rfl, hR.f44.keep rfl, hR.f45.keep rfl, hR.f46.keep rfl, hR.b6.keep rfl, hR.b33.keep rfl, hR.b43.keep rfl, hR.n6_33.keep rfl rfl, hR.n6_43.keep rfl rfl, hR.n33_43.keep rfl rfl⟩⟩
    refine EachOf.cons [14, 13] rfl (by kernel_rfl) ?_ ?_
    · rintro L A W ⟨v, g, rfl, hR⟩ hi hw K hK
      have e14 := hR.f14 (hw 14 (by simp))
      have e13 := hR.f13 (hw 13 (by simp))
      simp only [e14, e13]
      clear e14 e13
      go_simp
      refine hK.out _ _ ?_
      exact ⟨(fun jz => if jz = 42 then .int .i64 (-3) else if jz = 41 then .bool true else if jz = 43 then .bool true else v jz), g, rfl, ⟨hR.st, hR.f0.keep rfl, hR.f1.keep rfl, hR.f2.keep rfl, hR.f3.keep rfl, hR.f4.keep rfl, hR.f5.keep rfl, hR.f6.keep rfl, hR.f7.keep rfl, hR.f8.keep rfl, hR.f9.keep rfl, hR.f10.keep rfl, hR.f11.keep rfl, hR.f12.keep rfl, (fun _ => rfl), (fun _ => rfl), (fun _ => rfl), hR.f16.keep rfl, hR.f17.keep rfl, hR.f18.keep rfl, hR.f19.keep rfl, hR.f20.keep rfl, hR.f21.keep rfl, hR.f22.keep rfl, hR.f23.keep rfl, hR.f24.keep rfl, hR.f25.keep rfl, hR.f26.keep rfl, hR.f27.keep rfl, hR.f28.keep rfl, hR.f29.keep rfl, hR.f30.keep rfl, hR.f31.keep rfl, hR.f32.keep rfl, hR.f33.keep rfl, hR.f34.keep rfl, hR.f35.keep rfl, hR.f36.keep rfl, hR.f37.keep rfl, hR.f38.keep rfl, hR.f39.keep rfl, hR.f40.keep rfl, hR.f41.keep rfl, hR.f42.keep rfl, hR.f43.keep rfl, hR.f44.keep rfl, hR.f45.keep rfl, hR.f46.keep rfl, hR.b6.keep rfl, hR.b33.keep rfl, hR.b43.keep rfl, hR.n6_33.keep rfl rfl, hR.n6_43.keep rfl rfl, hR.n33_43.keep rfl rfl⟩⟩
    refine EachOf.cons [13, 15] rfl (by kernel_rfl) ?_ ?_
    · rintro L A W ⟨v, g, rfl, hR⟩ hi hw K hK
      have e13 := hR.f13 (hw 13 (by simp))
      have e15 := hR.f15 (hw 15 (by simp))
      simp only [e13, e15]
      clear e13 e15
      go_simp
      refine hK.out _ _ ?_
      exact ⟨(fun jz => if jz = 41 then .bool true else if jz = 43 then .bool true else if jz = 44 then .bool true else v jz), g, rfl, ⟨hR.st, hR.f0.keep rfl, hR.f1.keep rfl, hR.f2.keep rfl, hR.f3.keep rfl, hR.f4.keep rfl, hR.f5.keep rfl, hR.f6.keep rfl, hR.f7.keep rfl, hR.f8.keep rfl, hR.f9.keep rfl, hR.f10.keep rfl, hR.f11.keep rfl, hR.f12.keep rfl, (fun _ => rfl), hR.f14.keep rfl, (fun _ => rfl), (fun _ => rfl), hR.f17.keep rfl, hR.f18.keep rfl, hR.f19.keep rfl, hR.f20.keep rfl, hR.f21.keep rfl, hR.f22.keep rfl, hR.f23.keep rfl, hR.f24.keep rfl, hR.f25.keep rfl, hR.f26.keep rfl, hR.f27.keep rfl, hR.f28.keep rfl, hR.f29.keep rfl, hR.f30.keep rfl, hR.f31.keep rfl, hR.f32.keep rfl, hR.f33.keep rfl, hR.f34.keep rfl, hR.f35.keep rfl, hR.f36.keep rfl, hR.f37.keep rfl, hR.f38.keep rfl, hR.f39.keep rfl, hR.f40.keep rfl, hR.f41.keep rfl, hR.f42.keep rfl, hR.f43.keep rfl, hR.f44.keep rfl, hR.f45.keep rfl, hR.f46.keep rfl, hR.b6.keep rfl, hR.b33.keep rfl, hR.b43.keep rfl, hR.n6_33.keep rfl rfl, hR.n6_43.keep rfl rfl, hR.n33_43.keep rfl rfl⟩⟩
    refine EachOf.cons [16] rfl (by kernel_rfl) ?_ ?_
    · rintro L A W ⟨v, g, rfl, hR⟩ hi hw K hK
      have e16 := hR.f16 (hw 16 (by simp))
      simp only [e16]
      clear e16
      go_simp
      refine hK.out _ _ ?_
      exact ⟨(fun jz => if jz = 44 then .bool true else if jz = 45 then .bool true else v jz), g, rfl, ⟨hR.st, hR.f0.keep rfl, hR.f1.keep rfl, hR.f2.keep rfl, hR.f3.keep rfl, hR.f4.keep rfl, hR.f5.keep rfl, hR.f6.keep rfl, hR.f7.keep rfl, hR.f8.keep rfl, hR.f9.keep rfl, hR.f10.keep rfl, hR.f11.keep rfl, hR.f12.keep rfl, hR.f13.keep rfl, hR.f14.keep rfl, hR.f15.keep rfl, (fun _ => rfl), (fun _ => rfl), hR.f18.keep rfl, hR.f19.keep rfl, hR.f20.keep rfl, hR.f21.keep rfl, hR.f22.keep rfl, hR.f23.keep rfl, hR.f24.keep rfl, hR.f25.keep rfl, hR.f26.keep rfl, hR.f27.keep rfl, hR.f28.keep rfl, hR.f29.keep rfl, hR.f30.keep rfl, hR.f31.keep rfl, hR.f32.keep rfl, hR.f33.keep rfl, hR.f34.keep rfl, hR.f35.keep rfl, hR.f36.keep rfl, hR.f37.keep rfl, hR.f38.keep rfl, hR.f39.keep rfl, hR.f40.keep rfl, hR.f41.keep rfl, hR.f42.keep rfl, hR.f43.keep rfl, hR.f44.keep rfl, hR.f45.keep rfl, hR.f46.keep rfl, hR.b6.keep rfl, hR.b33.keep rfl, hR.b43.keep rfl, hR.n6_33.keep rfl rfl, hR.n6_43.keep rfl rfl, hR.n33_43.keep rfl rfl⟩⟩
    refine EachOf.cons [17] rfl (by kernel_rfl) ?_ ?_
    · rintro L A W ⟨v, g, rfl, hR⟩ hi hw K hK
      have e17 := hR.f17 (hw 17 (by simp))
      simp only [e17]
      clear e17
      go_simp
      refine hK.out _ _ ?_
      exact ⟨(fun jz => if jz = 45 then .bool true else if jz = 46 then .int .i64 0 else v jz), g, rfl, ⟨hR.st, hR.f0.keep rfl, hR.f1.keep rfl, hR.f2.keep rfl, hR.f3.keep rfl, hR.f4.keep rfl, hR.f5.keep rfl, hR.f6.keep rfl, hR.f7.keep rfl, hR.f8.keep rfl, hR.f9.keep rfl, hR.f10.keep rfl, hR.f11.keep rfl, hR.f12.keep rfl, hR.f13.keep rfl, hR.f14.keep rfl, hR.f15.keep rfl, hR.f16.keep rfl, (fun _ => rfl), (fun _ => rfl), hR.f19.keep rfl, hR.f20.keep rfl, hR.f21.keep rfl, hR.f22.keep rfl, hR.f23.keep rfl, hR.f24.keep rfl, hR.f25.keep rfl, hR.f26.keep rfl, hR.f27.keep rfl, hR.f28.keep rfl, hR.f29.keep rfl, hR.f30.keep rfl, hR.f31.keep rfl, hR.f32.keep rfl, hR.f33.keep rfl, hR.f34.keep rfl, hR.f35.keep rfl, hR.f36.keep rfl, hR.f37.keep rfl, hR.f38.keep rfl, hR.f39.keep rfl, hR.f40.keep rfl, hR.f41.keep rfl, hR.f42.keep rfl, hR.f43.keep rfl, hR.f44.keep rfl, hR.f45.keep rfl, hR.f46.keep rfl, hR.b6.keep rfl, hR.b33.keep rfl, hR.b43.keep rfl, hR.n6_33.keep rfl rfl, hR.n6_43.keep rfl rfl, hR.n33_43.keep rfl rfl⟩⟩
    refine EachOf.cons [18, 17] rfl (by kernel_rfl) ?_ ?_
    · rintro L A W ⟨v, g, rfl, hR⟩ hi hw K hK
      have e18 := hR.f18 (hw 18 (by simp))
      have e17 := hR.f17 (hw 17 (by simp))
      simp only [e18, e17]
      clear e18 e17
      go_simp
      refine hK.out _ _ ?_
      exact ⟨(fun jz => if jz = 46 then .int .i64 0 else if jz = 45 then .bool true else if jz = 47 then .bool true else v jz), g, rfl, ⟨hR.st, hR.f0.keep rfl, hR.f1.keep rfl, hR.f2.keep rfl, hR.f3.keep rfl, hR.f4.keep rfl, hR.f5.keep rfl, hR.f6.keep rfl, hR.f7.keep rfl, hR.f8.keep rfl, hR.f9.keep rfl, hR.f10.keep rfl, hR.f11.keep rfl, hR.f12.keep rfl, hR.f13.keep rfl, hR.f14.keep rfl, hR.f15.keep rfl, hR.f16.keep rfl, (fun _ => rfl), (fun _ => rfl), (fun _ => rfl), hR.f20.keep rfl, hR.f21.keep rfl, hR.f22.keep rfl, hR.f23.keep rfl, hR.f24.keep rfl, hR.f25.keep rfl, hR.f26.keep rfl, hR.f27.keep rfl, hR.f28.keep rfl, hR.f29.keep rfl, hR.f30.keep rfl, hR.f31.keep rfl, hR.f32.keep rfl, hR.f33.keep rfl, hR.f34.keep rfl, hR.f35.keep rfl, hR.f36.keep rfl, hR.f37.keep rfl, hR.f38.keep rfl, hR.f39.keep rfl, hR.f40.keep rfl, hR.f41.keep rfl, hR.f42.keep rfl, hR.f43.keep rfl, hR.f44.keep rfl, hR.f45.keep rfl, hR.f46.keep rfl, hR.b6.keep rfl, hR.b33.keep rfl, hR.b43.keep rfl, hR.n6_33.keep rfl rfl, hR.n6_43.keep rfl rfl, hR.n33_43.keep rfl rfl⟩⟩
    refine EachOf.cons [17, 19] rfl (by kernel_rfl) ?_ ?_
    · rintro L A W ⟨v, g, rfl, hR⟩ hi hw K hK
      have e17 := hR.f17 (hw 17 (by simp))
      have e19 := hR.f19 (hw 19 (by simp))
      simp only [e17, e19]
      clear e17 e19
      go_simp
      refine hK.out _ _ ?_
      exact ⟨(fun jz => if jz = 45 then .bool true else if jz = 47 then .bool true else if jz = 48 then .bool true else v jz), g, rfl, ⟨hR.st, hR.f0.keep rfl, hR.f1.keep rfl, hR.f2.keep rfl, hR.f3.keep rfl, hR.f4.keep rfl, hR.f5.keep rfl, hR.f6.keep rfl, hR.f7.keep rfl, hR.f8.keep rfl, hR.f9.keep rfl, hR.f10.keep rfl, hR.f11.keep rfl, hR.f12.keep rfl, hR.f13.keep rfl, hR.f14.keep rfl, hR.f15.keep rfl, hR.f16.keep rfl, (fun _ => rfl), hR.f18.keep rfl, (fun _ => rfl), (fun _ => rfl), hR.f21.keep rfl, hR.f22.keep rfl, hR.f23.keep rfl, hR.f24.keep rfl, hR.f25.keep rfl, hR.f26.keep rfl, hR.f27.keep rfl, hR.f28.keep rfl, hR.f29.keep rfl, hR.f30.keep rfl, hR.f31.keep rfl, hR.f32.keep rfl, hR.f33.keep rfl, hR.f34.keep rfl, hR.f35.keep rfl, hR.f36.keep rfl, hR.f37.keep rfl, hR.f38.keep rfl, hR.f39.keep rfl, hR.f40.keep rfl, hR.f41.keep rfl, hR.f42.keep rfl, hR.f43.keep rfl, hR.f44.keep rfl, hR.f45.keep rfl, hR.f46.keep rfl, hR.b6.keep rfl, hR.b33.keep rfl, hR.b43.keep rfl, hR.n6_33.keep rfl rfl, hR.n6_43.keep rfl rfl, hR.n33_43.keep rfl rfl⟩⟩
    refine EachOf.cons [20] rfl (by kernel_rfl) ?_ ?_
    · rintro L A W ⟨v, g, rfl, hR⟩ hi hw K hK
      have e20 := hR.f20 (hw 20 (by simp))
      simp only [e20]
      clear e20
      go_simp
      refine hK.out _ _ ?_
      exact ⟨(fun jz => if jz = 48 then .bool true else if jz = 49 then .bool true else v jz), g, rfl, ⟨hR.st, hR.f0.keep rfl, hR.f1.keep rfl, hR.f2.keep rfl, hR.f3.keep rfl, hR.f4.keep rfl, hR.f5.keep rfl, hR.f6.keep rfl, hR.f7.keep rfl, hR.f8.keep rfl, hR.f9.keep rfl, hR.f10.keep rfl, hR.f11.keep rfl, hR.f12.keep rfl, hR.f13.keep rfl, hR.f14.keep rfl, hR.f15.keep rfl, hR.f16.keep rfl, hR.f17.keep rfl, hR.f18.keep rfl, hR.f19.keep rfl, (fun _ => rfl), (fun _ => rfl), hR.f22.keep rfl, hR.f23.keep rfl, hR.f24.keep rfl, hR.f25.keep rfl, hR.f26.keep rfl, hR.f27.keep rfl, hR.f28.keep rfl, hR.f29.keep rfl, hR.f30.keep rfl, hR.f31.keep rfl, hR.f32.keep rfl, hR.f33.keep rfl, hR.f34.keep rfl, hR.f35.keep rfl, hR.f36.keep rfl, hR.f37.keep rfl, hR.f38.keep rfl, hR.f39.keep rfl, hR.f40.keep rfl, hR.f41.keep rfl, hR.f42.keep rfl, hR.f43.keep rfl, hR.f44.keep rfl, hR.f45.keep rfl, hR.f46.keep rfl, hR.b6.keep rfl, hR.b33.keep rfl, hR.b43.keep rfl, hR.n6_33.keep rfl rfl, hR.n6_43.keep rfl rfl, hR.n33_43.keep rfl rfl⟩⟩
    refine EachOf.cons [21] rfl (by kernel_rfl) ?_ ?_
    · rintro L A W ⟨v, g, rfl, hR⟩ hi hw K hK
      have e21 := hR.f21 (hw 21 (by simp))
      simp only [e21]
      clear e21
      go_simp
      refine hK.out _ _ ?_
      exact ⟨(fun jz => if jz = 49 then .bool true else if jz = 50 then .slice (some ⟨vb, 0, none⟩) 2 vc else v jz), g, rfl, ⟨hR.st, hR.f0.keep rfl, hR.f1.keep rfl, hR.f2.keep rfl, hR.f3.keep rfl, hR.f4.keep rfl, hR.f5.keep rfl, hR.f6.keep rfl, hR.f7.keep rfl, hR.f8.keep rfl, hR.f9.keep rfl, hR.f10.keep rfl, hR.f11.keep rfl, hR.f12.keep rfl, hR.f13.keep rfl, hR.f14.keep rfl, hR.f15.keep rfl, hR.f16.keep rfl, hR.f17.keep rfl, hR.f18.keep rfl, hR.f19.keep rfl, hR.f20.keep rfl, (fun _ => rfl), (fun _ => rfl), hR.f23.keep rfl, hR.f24.keep rfl, hR.f25.keep rfl, hR.f26.keep rfl, hR.f27.keep rfl, hR.f28.keep rfl, hR.f29.keep rfl, hR.f30.keep rfl, hR.f31.keep rfl, hR.f32.keep rfl, hR.f33.keep rfl, hR.f34.keep rfl, hR.f35.keep rfl, hR.f36.keep rfl, hR.f37.keep rfl, hR.f38.keep rfl, hR.f39.keep rfl, hR.f40.keep rfl, hR.f41.keep rfl, hR.f42.keep rfl, hR.f43.keep rfl, hR.f44.keep rfl, hR.f45.keep rfl, hR.f46.keep rfl, hR.b6.keep rfl, hR.b33.keep rfl, hR.b43.keep rfl, hR.n6_33.keep rfl rfl, hR.n6_43.keep rfl rfl, hR.n33_43.keep rfl rfl⟩⟩
    refine EachOf.cons [22, 21] rfl (by kernel_rfl) ?_ ?_
    · rintro L A W ⟨v, g, rfl, hR⟩ hi hw K hK
      have e22 := hR.f22 (hw 22 (by simp))
      have e21 := hR.f21 (hw 21 (by simp))
      simp only [e22, e21]
      clear e22 e21
      go_simp
      refine hK.out _ _ ?_
      exact ⟨(fun jz => if jz = 50 then .slice (some ⟨vb, 0, none⟩) 2 vc else if jz = 49 then .bool true else if jz = 51 then .int .i64 2 else v jz), g, rfl, ⟨hR.st, hR.f0.keep rfl, hR.f1.keep rfl, hR.f2.keep rfl, hR.f3.keep rfl, hR.f4.keep rfl, hR.f5.keep rfl, hR.f6.keep rfl, hR.f7.keep rfl, hR.f8.keep rfl, hR.f9.keep rfl, hR.f10.keep rfl, hR.f11.keep rfl, hR.f12.keep rfl, hR.f13.keep rfl, hR.f14.keep rfl, hR.f15.keep rfl, hR.f16.keep rfl, hR.f17.keep rfl, hR.f18.keep rfl, hR.f19.keep rfl, hR.f20.keep rfl, (fun _ => rfl), (fun _ => rfl), (fun _ => rfl), hR.f24.keep rfl, hR.f25.keep rfl, hR.f26.keep rfl, hR.f27.keep rfl, hR.f28.keep rfl, hR.f29.keep rfl, hR.f30.keep rfl, hR.f31.keep rfl, hR.f32.keep rfl, hR.f33.keep rfl, hR.f34.keep rfl, hR.f35.keep rfl, hR.f36.keep rfl, hR.f37.keep rfl, hR.f38.keep rfl, hR.f39.keep rfl, hR.f40.keep rfl, hR.f41.keep rfl, hR.f42.keep rfl, hR.f43.keep rfl, hR.f44.keep rfl, hR.f45.keep rfl, hR.f46.keep rfl, hR.b6.keep rfl, hR.b33.keep rfl, hR.b43.keep rfl, hR.n6_33.keep rfl rfl, hR.n6_43.keep rfl rfl, hR.n33_43.keep rfl rfl⟩⟩
    refine EachOf.cons [23, 21] rfl (by kernel_rfl) ?_ ?_
    · rintro L A W ⟨v, g, rfl, hR⟩ hi hw K hK
      have e23 := hR.f23 (hw 23 (by simp))
      have e21 := hR.f21 (hw 21 (by simp))
      simp only [e23, e21]
      clear e23 e21
      go_simp
      refine hK.out _ _ ?_
      exact ⟨(fun jz => if jz = 51 then .int .i64 2 else if jz = 49 then .bool true else if jz = 52 then .bool true else v jz), g, rfl, ⟨hR.st, hR.f0.keep rfl, hR.f1.keep rfl, hR.f2.keep rfl, hR.f3.keep rfl, hR.f4.keep rfl, hR.f5.keep rfl, hR.f6.keep rfl, hR.f7.keep rfl, hR.f8.keep rfl, hR.f9.keep rfl, hR.f10.keep rfl, hR.f11.keep rfl, hR.f12.keep rfl, hR.f13.keep rfl, hR.f14.keep rfl, hR.f15.keep rfl, hR.f16.keep rfl, hR.f17.keep rfl, hR.f18.keep rfl, hR.f19.keep rfl, hR.f20.keep rfl, (fun _ => rfl), hR.f22.keep rfl, (fun _ => rfl), (fun _ => rfl), hR.f25.keep rfl, hR.f26.keep rfl, hR.f27.keep rfl, hR.f28.keep rfl, hR.f29.keep rfl, hR.f30.keep rfl, hR.f31.keep rfl, hR.f32.keep rfl, hR.f33.keep rfl, hR.f34.keep rfl, hR.f35.keep rfl, hR.f36.keep rfl, hR.f37.keep rfl, hR.f38.keep rfl, hR.f39.keep rfl, hR.f40.keep rfl, hR.f41.keep rfl, hR.f42.keep rfl, hR.f43.keep rfl, hR.f44.keep rfl, hR.f45.keep rfl, hR.f46.keep rfl, hR.b6.keep rfl, hR.b33.keep rfl, hR.b43.keep rfl, hR.n6_33.keep rfl rfl, hR.n6_43.keep rfl rfl, hR.n33_43.keep rfl rfl⟩⟩
    refine EachOf.cons [21, 24] rfl (by kernel_rfl) ?_ ?_
    · rintro L A W ⟨v, g, rfl, hR⟩ hi hw K hK
      have e21 := hR.f21 (hw 21 (by simp))
      have e24 := hR.f24 (hw 24 (by simp))
      simp only [e21, e24]
      clear e21 e24
      go_simp
      refine hK.out _ _ ?_
      exact ⟨(fun jz => if jz = 49 then .bool true else if jz = 52 then .bool true else if jz = 53 then .bool true else v jz), g, rfl, ⟨hR.st, hR.f0.keep rfl, hR.f1.keep rfl, hR.f2.keep rfl, hR.f3.keep rfl, hR.f4.keep rfl, hR.f5.keep rfl, hR.f6.keep rfl, hR.f7.keep rfl, hR.f8.keep rfl, hR.f9.keep rfl, hR.f10.keep rfl, hR.f11.keep rfl, hR.f12.keep rfl, hR.f13.keep rfl, hR.f14.keep rfl, hR.f15.keep rfl, hR.f16.keep rfl, hR.f17.keep rfl, hR.f18.keep rfl, hR.f19.keep rfl, hR.f20.keep rfl, (fun _ => rfl), hR.f22.keep rfl, hR.f23.keep rfl, (fun _ => rfl), (fun _ => rfl), hR.f26.keep rfl, hR.f27.keep rfl, hR.f28.keep rfl, hR.f29.keep rfl, hR.f30.keep rfl, hR.f31.keep rfl, hR.f32.keep rfl, hR.f33.keep rfl, hR.f34.keep rfl, hR.f35.keep rfl, hR.f36.keep rfl, hR.f37.keep rfl, hR.f38.keep rfl, hR.f39.keep rfl, hR.f40.keep rfl, hR.f41.keep rfl, hR.f42.keep rfl, hR.f43.keep rfl, hR.f44.keep rfl, hR.f45.keep rfl, hR.f46.keep rfl, hR.b6.keep rfl, hR.b33.keep rfl, hR.b43.keep rfl, hR.n6_33.keep rfl rfl, hR.n6_43.keep rfl rfl, hR.n33_43.keep rfl rfl⟩⟩
    refine EachOf.cons [25] rfl (by kernel_rfl) ?_ ?_
    · rintro L A W ⟨v, g, rfl, hR⟩ hi hw K hK
      have e25 := hR.f25 (hw 25 (by simp))
      simp only [e25]
      clear e25
      go_simp
      refine hK.out _ _ ?_
      exact ⟨(fun jz => if jz = 53 then .bool true else if jz = 54 then .bool true else v jz), g, rfl, ⟨hR.st, hR.f0.keep rfl, hR.f1.keep rfl, hR.f2.keep rfl, hR.f3.keep rfl, hR.f4.keep rfl, hR.f5.keep rfl, hR.f6.keep rfl, hR.f7.keep rfl, hR.f8.keep rfl, hR.f9.keep rfl, hR.f10.keep rfl, hR.f11.keep rfl, hR.f12.keep rfl, hR.f13.keep rfl, hR.f14.keep rfl, hR.f15.keep rfl, hR.f16.keep rfl, hR.f17.keep rfl, hR.f18.keep rfl, hR.f19.keep rfl, hR.f20.keep rfl, hR.f21.keep rfl, hR.f22.keep rfl, hR.f23.keep rfl, hR.f24.keep rfl, (fun _ => rfl), (fun _ => rfl), hR.f27.keep rfl, hR.f28.keep rfl, hR.f29.keep rfl, hR.f30.keep rfl, hR.f31.keep rfl, hR.f32.keep rfl, hR.f33.keep rfl, hR.f34.keep rfl, hR.f35.keep rfl, hR.f36.keep rfl, hR.f37.keep rfl, hR.f38.keep rfl, hR.f39.keep rfl, hR.f40.keep rfl, hR.f41.keep rfl, hR.f42.keep rfl, hR.f43.keep rfl, hR.f44.keep rfl, hR.f45.keep rfl, hR.f46.keep rfl, hR.b6.keep rfl, hR.b33.keep rfl, hR.b43.keep rfl, hR.n6_33.keep rfl rfl, hR.n6_43.keep rfl rfl, hR.n33_43.keep rfl rfl⟩⟩
    refine EachOf.cons [26] rfl (by kernel_rfl) ?_ ?_
    · rintro L A W ⟨v, g, rfl, hR⟩ hi hw K hK
      have e26 := hR.f26 (hw 26 (by simp))
      simp only [e26]
      clear e26
      go_simp
      refine hK.out _ _ ?_
      exact ⟨(fun jz => if jz = 54 then .bool true else if jz = 55 then .slice (some ⟨vb, 0, none⟩) 2 vc else v jz), g, rfl, ⟨hR.st, hR.f0.keep rfl, hR.f1.keep rfl, hR.f2.keep rfl, hR.f3.keep rfl, hR.f4.keep rfl, hR.f5.keep rfl, hR.f6.keep rfl, hR.f7.keep rfl, hR.f8.keep rfl, hR.f9.keep rfl, hR.f10.keep rfl, hR.f11.keep rfl, hR.f12.keep rfl, hR.f13.keep rfl, hR.f14.keep rfl, hR.f15.keep rfl, hR.f16.keep rfl, hR.f17.keep rfl, hR.f18.keep rfl, hR.f19.keep rfl, hR.f20.keep rfl, hR.f21.keep rfl, hR.f22.keep rfl, hR.f23.keep rfl, hR.f24.keep rfl, hR.f25.keep rfl, (fun _ => rfl), (fun _ => rfl), hR.f28.keep rfl, hR.f29.keep rfl, hR.f30.keep rfl, hR.f31.keep rfl, hR.f32.keep rfl, hR.f33.keep rfl, hR.f34.keep rfl, hR.f35.keep rfl, hR.f36.keep rfl, hR.f37.keep rfl, hR.f38.keep rfl, hR.f39.keep rfl, hR.f40.keep rfl, hR.f41.keep rfl, hR.f42.keep rfl, hR.f43.keep rfl, hR.f44.keep rfl, hR.f45.keep rfl, hR.f46.keep rfl, hR.b6.keep rfl, hR.b33.keep rfl, hR.b43.keep rfl, hR.n6_33.keep rfl rfl, hR.n6_43.keep rfl rfl, hR.n33_43.keep rfl rfl⟩⟩
    refine EachOf.cons [27, 26] rfl (by kernel_rfl) ?_ ?_
    · rintro L A W ⟨v, g, rfl, hR⟩ hi hw K hK
      have e27 := hR.f27 (hw 27 (by simp))
      have e26 := hR.f26 (hw 26 (by simp))
      simp only [e27, e26]
      clear e27 e26
      go_simp
      refine hK.out _ _ ?_
      exact ⟨(fun jz => if jz = 55 then .slice (some ⟨vb, 0, none⟩) 2 vc else if jz = 54 then .bool true else if jz = 56 then .pointer (some ⟨vb, 0, none⟩) else v jz), g, rfl, ⟨hR.st, hR.f0.keep rfl, hR.f1.keep rfl, hR.f2.keep rfl, hR.f3.keep rfl, hR.f4.keep rfl, hR.f5.keep rfl, hR.f6.keep rfl, hR.f7.keep rfl, hR.f8.keep rfl, hR.f9.keep rfl, hR.f10.keep rfl, hR.f11.keep rfl, hR.f12.keep rfl, hR.f13.keep rfl, hR.f14.keep rfl, hR.f15.keep rfl, hR.f16.keep rfl, hR.f17.keep rfl, hR.f18.keep rfl, hR.f19.keep rfl, hR.f20.keep rfl, hR.f21.keep rfl, hR.f22.keep rfl, hR.f23.keep rfl, hR.f24.keep rfl, hR.f25.keep rfl, (fun _ => rfl), (fun _ => rfl), (fun _ => rfl), hR.f29.keep rfl, hR.f30.keep rfl, hR.f31.keep rfl, hR.f32.keep rfl, hR.f33.keep rfl, hR.f34.keep rfl, hR.f35.keep rfl, hR.f36.keep rfl, hR.f37.keep rfl, hR.f38.keep rfl, hR.f39.keep rfl, hR.f40.keep rfl, hR.f41.keep rfl, hR.f42.keep rfl, hR.f43.keep rfl, hR.f44.keep rfl, hR.f45.keep rfl, hR.f46.keep rfl, hR.b6.keep rfl, hR.b33.keep rfl, hR.b43.keep rfl, hR.n6_33.keep rfl rfl, hR.n6_43.keep rfl rfl, hR.n33_43.keep rfl rfl⟩⟩
    refine EachOf.cons [28, 26] rfl (by kernel_rfl) ?_ ?_
    · rintro L A W ⟨v, g, rfl, hR⟩ hi hw K hK
      have e28 := hR.f28 (hw 28 (by simp))
      have e26 := hR.f26 (hw 26 (by simp))
      simp only [e28, e26]
      clear e28 e26
      have q0 := (hR.st.cell (p := ⟨vb, 0, none⟩) LV.out.1).trans LV.out.2.1
      go_simp
      refine hK.out _ _ ?_
      exact ⟨(fun jz => if jz = 56 then .pointer (some ⟨vb, 0, none⟩) else if jz = 54 then .bool true else if jz = 57 then .slice (some ⟨va, 0, none⟩) 3 3 else v jz), g, rfl, ⟨hR.st, hR.f0.keep rfl, hR.f1.keep rfl, hR.f2.keep rfl, hR.f3.keep rfl, hR.f4.keep rfl, hR.f5.keep rfl, hR.f6.keep rfl, hR.f7.keep rfl, hR.f8.keep rfl, hR.f9.keep rfl, hR.f10.keep rfl, hR.f11.keep rfl, hR.f12.keep rfl, hR.f13.keep rfl, hR.f14.keep rfl, hR.f15.keep rfl, hR.f16.keep rfl, hR.f17.keep rfl, hR.f18.keep rfl, hR.f19.keep rfl, hR.f20.keep rfl, hR.f21.keep rfl, hR.f22.keep rfl, hR.f23.keep rfl, hR.f24.keep rfl, hR.f25.keep rfl, (fun _ => rfl), hR.f27.keep rfl, (fun _ => rfl), (fun _ => rfl), hR.f30.keep rfl, hR.f31.keep rfl, hR.f32.keep rfl, hR.f33.keep rfl, hR.f34.keep rfl, hR.f35.keep rfl, hR.f36.keep rfl, hR.f37.keep rfl, hR.f38.keep rfl, hR.f39.keep rfl, hR.f40.keep rfl, hR.f41.keep rfl, hR.f42.keep rfl, hR.f43.keep rfl, hR.f44.keep rfl, hR.f45.keep rfl, hR.f46.keep rfl, hR.b6.keep rfl, hR.b33.keep rfl, hR.b43.keep rfl, hR.n6_33.keep rfl rfl, hR.n6_43.keep rfl rfl, hR.n33_43.keep rfl rfl⟩⟩
    refine EachOf.cons [26] rfl (by kernel_rfl) ?_ ?_
    · rintro L A W ⟨v, g, rfl, hR⟩ hi hw K hK
      have e26 := hR.f26 (hw 26 (by simp))
      simp only [e26]
      clear e26
      go_simp
      go_at_call 31
      (with_reducible refine ((CF (-2) _).out).mono ?_)
      rintro e w2 ⟨rfl, hb⟩
      go_simp
      refine hK.out _ _ ?_
      exact ⟨(fun jz => if jz = 54 then .bool true else if jz = 58 then .agg #[.int .i64 (-2), .int .i64 1] else v jz), g, rfl, ⟨below_on hR.st hb, hR.f0.keep rfl, hR.f1.keep rfl, hR.f2.keep rfl, hR.f3.keep rfl, hR.f4.keep rfl, hR.f5.keep rfl, hR.f6.keep rfl, hR.f7.keep rfl, hR.f8.keep rfl, hR.f9.keep rfl, hR.f10.keep rfl, hR.f11.keep rfl, hR.f12.keep rfl, hR.f13.keep rfl, hR.f14.keep rfl, hR.f15.keep rfl, hR.f16.keep rfl, hR.f17.keep rfl, hR.f18.keep rfl, hR.f19.keep rfl, hR.f20.keep rfl, hR.f21.keep rfl, hR.f22.keep rfl, hR.f23.keep rfl, hR.f24.keep rfl, hR.f25.keep rfl, (fun _ => rfl), hR.f27.keep rfl, hR.f28.keep rfl, hR.f29.keep rfl, (fun _ => rfl), hR.f31.keep rfl, hR.f32.keep rfl, hR.f33.keep rfl, hR.f34.keep rfl, hR.f35.keep rfl, hR.f36.keep rfl, hR.f37.keep rfl, hR.f38.keep rfl, hR.f39.keep rfl, hR.f40.keep rfl, hR.f41.keep rfl, hR.f42.keep rfl, hR.f43.keep rfl, hR.f44.keep rfl, hR.f45.keep rfl, hR.f46.keep rfl, hR.b6.keepM rfl (fun h => ⟨h.1, h.2.on hb⟩), hR.b33.keepM rfl (fun h => ⟨h.1, h.2.on hb⟩), hR.b43.keepM rfl (fun h => ⟨h.1, h.2.on hb⟩), hR.n6_33.keep rfl rfl, hR.n6_43.keep rfl rfl, hR.n33_43.keep rfl rfl⟩⟩
    refine EachOf.cons [26] rfl (by kernel_rfl) ?_ ?_
    · rintro L A W ⟨v, g, rfl, hR⟩ hi hw K hK
      have e26 := hR.f26 (hw 26 (by simp))
      simp only [e26]
      clear e26
      go_simp
      go_at_call 31
      (with_reducible refine ((CF 1 _).out).mono ?_)
      rintro e w2 ⟨rfl, hb⟩
      go_simp
      refine hK.out _ _ ?_
      exact ⟨(fun jz => if jz = 54 then .bool true else if jz = 59 then .agg #[.int .i64 1, .int .i64 1] else v jz), g, rfl, ⟨below_on hR.st hb, hR.f0.keep rfl, hR.f1.keep rfl, hR.f2.keep rfl, hR.f3.keep rfl, hR.f4.keep rfl, hR.f5.keep rfl, hR.f6.keep rfl, hR.f7.keep rfl, hR.f8.keep rfl, hR.f9.keep rfl, hR.f10.keep rfl, hR.f11.keep rfl, hR.f12.keep rfl, hR.f13.keep rfl, hR.f14.keep rfl, hR.f15.keep rfl, hR.f16.keep rfl, hR.f17.keep rfl, hR.f18.keep rfl, hR.f19.keep rfl, hR.f20.keep rfl, hR.f21.keep rfl, hR.f22.keep rfl, hR.f23.keep rfl, hR.f24.keep rfl, hR.f25.keep rfl, (fun _ => rfl), hR.f27.keep rfl, hR.f28.keep rfl, hR.f29.keep rfl, hR.f30.keep rfl, (fun _ => rfl), hR.f32.keep rfl, hR.f33.keep rfl, hR.f34.keep rfl, hR.f35.keep rfl, hR.f36.keep rfl, hR.f37.keep rfl, hR.f38.keep rfl, hR.f39.keep rfl, hR.f40.keep rfl, hR.f41.keep rfl, hR.f42.keep rfl, hR.f43.keep rfl, hR.f44.keep rfl, hR.f45.keep rfl, hR.f46.keep rfl, hR.b6.keepM rfl (fun h => ⟨h.1, h.2.on hb⟩), hR.b33.keepM rfl (fun h => ⟨h.1, h.2.on hb⟩), hR.b43.keepM rfl (fun h => ⟨h.1, h.2.on hb⟩), hR.n6_33.keep rfl rfl, hR.n6_43.keep rfl rfl, hR.n33_43.keep rfl rfl⟩⟩
    refine EachOf.cons [26] rfl (by kernel_rfl) ?_ ?_
    · rintro L A W ⟨v, g, rfl, hR⟩ hi hw K hK
      have e26 := hR.f26 (hw 26 (by simp))
      simp only [e26]
      clear e26
      go_simp
      go_at_call 31
      (with_reducible refine ((CF 0 _).out).mono ?_)
      rintro e w2 ⟨rfl, hb⟩
      go_simp
      refine hK.out _ _ ?_
      exact ⟨(fun jz => if jz = 54 then .bool true else if jz = 60 then .agg #[.int .i64 0, .int .i64 1] else v jz), g, rfl, ⟨below_on hR.st hb, hR.f0.keep rfl, hR.f1.keep rfl, hR.f2.keep rfl, hR.f3.keep rfl, hR.f4.keep rfl, hR.f5.keep rfl, hR.f6.keep rfl, hR.f7.keep rfl, hR.f8.keep rfl, hR.f9.keep rfl, hR.f10.keep rfl, hR.f11.keep rfl, hR.f12.keep rfl, hR.f13.keep rfl, hR.f14.keep rfl, hR.f15.keep rfl, hR.f16.keep rfl, hR.f17.keep rfl, hR.f18.keep rfl, hR.f19.keep rfl, hR.f20.keep rfl, hR.f21.keep rfl, hR.f22.keep rfl, hR.f23.keep rfl, hR.f24.keep rfl, hR.f25.keep rfl, (fun _ => rfl), hR.f27.keep rfl, hR.f28.keep rfl, hR.f29.keep rfl, hR.f30.keep rfl, hR.f31.keep rfl, (fun _ => rfl), hR.f33.keep rfl, hR.f34.keep rfl, hR.f35.keep rfl, hR.f36.keep rfl, hR.f37.keep rfl, hR.f38.keep rfl, hR.f39.keep rfl, hR.f40.keep rfl, hR.f41.keep rfl, hR.f42.keep rfl, hR.f43.keep rfl, hR.f44.keep rfl, hR.f45.keep rfl, hR.f46.keep rfl, hR.b6.keepM rfl (fun h => ⟨h.1, h.2.on hb⟩), hR.b33.keepM rfl (fun h => ⟨h.1, h.2.on hb⟩), hR.b43.keepM rfl (fun h => ⟨h.1, h.2.on hb⟩), hR.n6_33.keep rfl rfl, hR.n6_43.keep rfl rfl, hR.n33_43.keep rfl rfl⟩⟩
    refine EachOf.cons [30, 31, 32, 26] rfl (by kernel_rfl) ?_ ?_
    · rintro L A W ⟨v, g, rfl, hR⟩ hi hw K hK
      have e30 := hR.f30 (hw 30 (by simp))
      have e31 := hR.f31 (hw 31 (by simp))
      have e32 := hR.f32 (hw 32 (by simp))
      have e26 := hR.f26 (hw 26 (by simp))
      simp only [e30, e31, e32, e26]
      clear e30 e31 e32 e26
      have hz := hR.st.size
      go_simp
      refine hK.out _ _ ?_
      have hb : Below W.heap.size W (W.alloc (Obj.cells #[Value.int .i64 (-2), Value.int .i64 1, Value.int .i64 1, Value.int .i64 1, Value.int .i64 0, Value.int .i64 1] 45)) := (Below.refl _ _).alloc (Nat.le_refl _) _
      have hrow : Row (W.alloc (Obj.cells #[Value.int .i64 (-2), Value.int .i64 1, Value.int .i64 1, Value.int .i64 1, Value.int .i64 0, Value.int .i64 1] 45)) W.heap.size [.int .i64 (-2), .int .i64 1, .int .i64 1, .int .i64 1, .int .i64 0, .int .i64 1] := row6 _ _ _ _ _ _ _ _
      exact ⟨(fun jz => if jz = 58 then .agg #[.int .i64 (-2), .int .i64 1] else if jz = 59 then .agg #[.int .i64 1, .int .i64 1] else if jz = 60 then .agg #[.int .i64 0, .int .i64 1] else if jz = 54 then .bool true else if jz = 61 then .slice (some ⟨W.heap.size, 0, none⟩) 3 3 else v jz), (fun jz => if jz = 33 then W.heap.size else g jz), rfl, ⟨below_on hR.st hb, hR.f0.keep rfl, hR.f1.keep rfl, hR.f2.keep rfl, hR.f3.keep rfl, hR.f4.keep rfl, hR.f5.keep rfl, hR.f6.keep rfl, hR.f7.keep rfl, hR.f8.keep rfl, hR.f9.keep rfl, hR.f10.keep rfl, hR.f11.keep rfl, hR.f12.keep rfl, hR.f13.keep rfl, hR.f14.keep rfl, hR.f15.keep rfl, hR.f16.keep rfl, hR.f17.keep rfl, hR.f18.keep rfl, hR.f19.keep rfl, hR.f20.keep rfl, hR.f21.keep rfl, hR.f22.keep rfl, hR.f23.keep rfl, hR.f24.keep rfl, hR.f25.keep rfl, (fun _ => rfl), hR.f27.keep rfl, hR.f28.keep rfl, hR.f29.keep rfl, (fun _ => rfl), (fun _ => rfl), (fun _ => rfl), (fun _ => rfl), hR.f34.keep rfl, hR.f35.keep rfl, hR.f36.keep rfl, hR.f37.keep rfl, hR.f38.keep rfl, hR.f39.keep rfl, hR.f40.keep rfl, hR.f41.keep rfl, hR.f42.keep rfl, hR.f43.keep rfl, hR.f44.keep rfl, hR.f45.keep rfl, hR.f46.keep rfl, hR.b6.keepM rfl (fun h => ⟨h.1, h.2.on hb⟩), (fun _ => ⟨hz, hrow⟩), hR.b43.keepM rfl (fun h => ⟨h.1, h.2.on hb⟩), (fun h _ => by have h1 := (hR.b6 (upd_back h rfl)).2.1; exact Nat.ne_of_lt h1), hR.n6_43.keep rfl rfl, (fun _ h => by have h1 := (hR.b43 (upd_back h rfl)).2.1; exact Nat.ne_of_gt h1)⟩⟩
    refine EachOf.cons [29, 33, 26] rfl (by kernel_rfl) ?_ ?_
    · rintro L A W ⟨v, g, rfl, hR⟩ hi hw K hK
      have e29 := hR.f29 (hw 29 (by simp))
      have e33 := hR.f33 (hw 33 (by simp))
      have e26 := hR.f26 (hw 26 (by simp))
      simp only [e29, e33, e26]
      clear e29 e33 e26
      have hrw := (hR.b33 (hw 33 (by simp))).2
      go_simp
      go_at_call 25
      (with_reducible refine ((CE2 _ hR.st _ hrw).out).mono ?_)
      rintro e w2 ⟨rfl, hb⟩
      go_simp
      refine hK.out _ _ ?_
      exact ⟨(fun jz => if jz = 57 then .slice (some ⟨va, 0, none⟩) 3 3 else if jz = 61 then .slice (some ⟨g 33, 0, none⟩) 3 3 else if jz = 54 then .bool true else if jz = 62 then .bool true else v jz), g, rfl, ⟨below_on hR.st hb, hR.f0.keep rfl, hR.f1.keep rfl, hR.f2.keep rfl, hR.f3.keep rfl, hR.f4.keep rfl, hR.f5.keep rfl, hR.f6.keep rfl, hR.f7.keep rfl, hR.f8.keep rfl, hR.f9.keep rfl, hR.f10.keep rfl, hR.f11.keep rfl, hR.f12.keep rfl, hR.f13.keep rfl, hR.f14.keep rfl, hR.f15.keep rfl, hR.f16.keep rfl, hR.f17.keep rfl, hR.f18.keep rfl, hR.f19.keep rfl, hR.f20.keep rfl, hR.f21.keep rfl, hR.f22.keep rfl, hR.f23.keep rfl, hR.f24.keep rfl, hR.f25.keep rfl, (fun _ => rfl), hR.f27.keep rfl, hR.f28.keep rfl, (fun _ => rfl), hR.f30.keep rfl, hR.f31.keep rfl, hR.f32.keep rfl, (fun _ => rfl), (fun _ => rfl), hR.f35.keep rfl, hR.f36.keep rfl, hR.f37.keep rfl, hR.f38.keep rfl, hR.f39.keep rfl, hR.f40.keep rfl, hR.f41.keep rfl, hR.f42.keep rfl, hR.f43.keep rfl, hR.f44.keep rfl, hR.f45.keep rfl, hR.f46.keep rfl, hR.b6.keepM rfl (fun h => ⟨h.1, h.2.on hb⟩), hR.b33.keepM rfl (fun h => ⟨h.1, h.2.on hb⟩), hR.b43.keepM rfl (fun h => ⟨h.1, h.2.on hb⟩), hR.n6_33.keep rfl rfl, hR.n6_43.keep rfl rfl, hR.n33_43.keep rfl rfl⟩⟩
    refine EachOf.cons [26, 34] rfl (by kernel_rfl) ?_ ?_
    · rintro L A W ⟨v, g, rfl, hR⟩ hi hw K hK
      have e26 := hR.f26 (hw 26 (by simp))
      have e34 := hR.f34 (hw 34 (by simp))
      simp only [e26, e34]
      clear e26 e34
      go_simp
      refine hK.out _ _ ?_
      exact ⟨(fun jz => if jz = 54 then .bool true else if jz = 62 then .bool true else if jz = 63 then .bool true else v jz), g, rfl, ⟨hR.st, hR.f0.keep rfl, hR.f1.keep rfl, hR.f2.keep rfl, hR.f3.keep rfl, hR.f4.keep rfl, hR.f5.keep rfl, hR.f6.keep rfl, hR.f7.keep rfl, hR.f8.keep rfl, hR.f9.keep rfl, hR.f10.keep rfl, hR.f11.keep rfl, hR.f12.keep rfl, hR.f13.keep rfl, hR.f14.keep rfl, hR.f15.keep rfl, hR.f16.keep rfl, hR.f17.keep rfl, hR.f18.keep rfl, hR.f19.keep rfl, hR.f20.keep rfl, hR.f21.keep rfl, hR.f22.keep rfl, hR.f23.keep rfl, hR.f24.keep rfl, hR.f25.keep rfl, (fun _ => rfl), hR.f27.keep rfl, hR.f28.keep rfl, hR.f29.keep rfl, hR.f30.keep rfl, hR.f31.keep rfl, hR.f32.keep rfl, hR.f33.keep rfl, (fun _ => rfl), (fun _ => rfl), hR.f36.keep rfl, hR.f37.keep rfl, hR.f38.keep rfl, hR.f39.keep rfl, hR.f40.keep rfl, hR.f41.keep rfl, hR.f42.keep rfl, hR.f43.keep rfl, hR.f44.keep rfl, hR.f45.keep rfl, hR.f46.keep rfl, hR.b6.keep rfl, hR.b33.keep rfl, hR.b43.keep rfl, hR.n6_33.keep rfl rfl, hR.n6_43.keep rfl rfl, hR.n33_43.keep rfl rfl⟩⟩
    refine EachOf.cons [35] rfl (by kernel_rfl) ?_ ?_
    · rintro L A W ⟨v, g, rfl, hR⟩ hi hw K hK
      have e35 := hR.f35 (hw 35 (by simp))
      simp only [e35]
      clear e35
      go_simp
      refine hK.out _ _ ?_
      exact ⟨(fun jz => if jz = 63 then .bool true else if jz = 64 then .bool true else v jz), g, rfl, ⟨hR.st, hR.f0.keep rfl, hR.f1.keep rfl, hR.f2.keep rfl, hR.f3.keep rfl, hR.f4.keep rfl, hR.f5.keep rfl, hR.f6.keep rfl, hR.f7.keep rfl, hR.f8.keep rfl, hR.f9.keep rfl, hR.f10.keep rfl, hR.f11.keep rfl, hR.f12.keep rfl, hR.f13.keep rfl, hR.f14.keep rfl, hR.f15.keep rfl, hR.f16.keep rfl, hR.f17.keep rfl, hR.f18.keep rfl, hR.f19.keep rfl, hR.f20.keep rfl, hR.f21.keep rfl, hR.f22.keep rfl, hR.f23.keep rfl, hR.f24.keep rfl, hR.f25.keep rfl, hR.f26.keep rfl, hR.f27.keep rfl, hR.f28.keep rfl, hR.f29.keep rfl, hR.f30.keep rfl, hR.f31.keep rfl, hR.f32.keep rfl, hR.f33.keep rfl, hR.f34.keep rfl, (fun _ => rfl), (fun _ => rfl), hR.f37.keep rfl, hR.f38.keep rfl, hR.f39.keep rfl, hR.f40.keep rfl, hR.f41.keep rfl, hR.f42.keep rfl, hR.f43.keep rfl, hR.f44.keep rfl, hR.f45.keep rfl, hR.f46.keep rfl, hR.b6.keep rfl, hR.b33.keep rfl, hR.b43.keep rfl, hR.n6_33.keep rfl rfl, hR.n6_43.keep rfl rfl, hR.n33_43.keep rfl rfl⟩⟩
    refine EachOf.cons [36] rfl (by kernel_rfl) ?_ ?_
    · rintro L A W ⟨v, g, rfl, hR⟩ hi hw K hK
      have e36 := hR.f36 (hw 36 (by simp))
      simp only [e36]
      clear e36
      go_simp
      refine hK.out _ _ ?_
      exact ⟨(fun jz => if jz = 64 then .bool true else if jz = 65 then .slice (some ⟨vb, 0, none⟩) 2 vc else v jz), g, rfl, ⟨hR.st, hR.f0.keep rfl, hR.f1.keep rfl, hR.f2.keep rfl, hR.f3.keep rfl, hR.f4.keep rfl, hR.f5.keep rfl, hR.f6.keep rfl, hR.f7.keep rfl, hR.f8.keep rfl, hR.f9.keep rfl, hR.f10.keep rfl, hR.f11.keep rfl, hR.f12.keep rfl, hR.f13.keep rfl, hR.f14.keep rfl, hR.f15.keep rfl, hR.f16.keep rfl, hR.f17.keep rfl, hR.f18.keep rfl, hR.f19.keep rfl, hR.f20.keep rfl, hR.f21.keep rfl, hR.f22.keep rfl, hR.f23.keep rfl, hR.f24.keep rfl, hR.f25.keep rfl, hR.f26.keep rfl, hR.f27.keep rfl, hR.f28.keep rfl, hR.f29.keep rfl, hR.f30.keep rfl, hR.f31.keep rfl, hR.f32.keep rfl, hR.f33.keep rfl, hR.f34.keep rfl, hR.f35.keep rfl, (fun _ => rfl), (fun _ => rfl), hR.f38.keep rfl, hR.f39.keep rfl, hR.f40.keep rfl, hR.f41.keep rfl, hR.f42.keep rfl, hR.f43.keep rfl, hR.f44.keep rfl, hR.f45.keep rfl, hR.f46.keep rfl, hR.b6.keep rfl, hR.b33.keep rfl, hR.b43.keep rfl, hR.n6_33.keep rfl rfl, hR.n6_43.keep rfl rfl, hR.n33_43.keep rfl rfl⟩⟩
    refine EachOf.cons [37, 36] rfl (by kernel_rfl) ?_ ?_
    · rintro L A W ⟨v, g, rfl, hR⟩ hi hw K hK
      have e37 := hR.f37 (hw 37 (by simp))
      have e36 := hR.f36 (hw 36 (by simp))
      simp only [e37, e36]
      clear e37 e36
      go_simp
      refine hK.out _ _ ?_
      exact ⟨(fun jz => if jz = 65 then .slice (some ⟨vb, 0, none⟩) 2 vc else if jz = 64 then .bool true else if jz = 66 then .pointer (some ⟨vb, 1, none⟩) else v jz), g, rfl, ⟨hR.st, hR.f0.keep rfl, hR.f1.keep rfl, hR.f2.keep rfl, hR.f3.keep rfl, hR.f4.keep rfl, hR.f5.keep rfl, hR.f6.keep rfl, hR.f7.keep rfl, hR.f8.keep rfl, hR.f9.keep rfl, hR.f10.keep rfl, hR.f11.keep rfl, hR.f12.keep rfl, hR.f13.keep rfl, hR.f14.keep rfl, hR.f15.keep rfl, hR.f16.keep rfl, hR.f17.keep rfl, hR.f18.keep rfl, hR.f19.keep rfl, hR.f20.keep rfl, hR.f21.keep rfl, hR.f22.keep rfl, hR.f23.keep rfl, hR.f24.keep rfl, hR.f25.keep rfl, hR.f26.keep rfl, hR.f27.keep rfl, hR.f28.keep rfl, hR.f29.keep rfl, hR.f30.keep rfl, hR.f31.keep rfl, hR.f32.keep rfl, hR.f33.keep rfl, hR.f34.keep rfl, hR.f35.keep rfl, (fun _ => rfl), (fun _ => rfl), (fun _ => rfl), hR.f39.keep rfl, hR.f40.keep rfl, hR.f41.keep rfl, hR.f42.keep rfl, hR.f43.keep rfl, hR.f44.keep rfl, hR.f45.keep rfl, hR.f46.keep rfl, hR.b6.keep rfl, hR.b33.keep rfl, hR.b43.keep rfl, hR.n6_33.keep rfl rfl, hR.n6_43.keep rfl rfl, hR.n33_43.keep rfl rfl⟩⟩
    refine EachOf.cons [38, 36] rfl (by kernel_rfl) ?_ ?_
    · rintro L A W ⟨v, g, rfl, hR⟩ hi hw K hK
      have e38 := hR.f38 (hw 38 (by simp))
      have e36 := hR.f36 (hw 36 (by simp))
      simp only [e38, e36]
      clear e38 e36
      have q0 := (hR.st.cell (p := ⟨vb, 1, none⟩) LV.out.1).trans LV.out.2.2
      go_simp
      refine hK.out _ _ ?_
      exact ⟨(fun jz => if jz = 66 then .pointer (some ⟨vb, 1, none⟩) else if jz = 64 then .bool true else if jz = 67 then .slice (some ⟨vd, 0, none⟩) 3 3 else v jz), g, rfl, ⟨hR.st, hR.f0.keep rfl, hR.f1.keep rfl, hR.f2.keep rfl, hR.f3.keep rfl, hR.f4.keep rfl, hR.f5.keep rfl, hR.f6.keep rfl, hR.f7.keep rfl, hR.f8.keep rfl, hR.f9.keep rfl, hR.f10.keep rfl, hR.f11.keep rfl, hR.f12.keep rfl, hR.f13.keep rfl, hR.f14.keep rfl, hR.f15.keep rfl, hR.f16.keep rfl, hR.f17.keep rfl, hR.f18.keep rfl, hR.f19.keep rfl, hR.f20.keep rfl, hR.f21.keep rfl, hR.f22.keep rfl, hR.f23.keep rfl, hR.f24.keep rfl, hR.f25.keep rfl, hR.f26.keep rfl, hR.f27.keep rfl, hR.f28.keep rfl, hR.f29.keep rfl, hR.f30.keep rfl, hR.f31.keep rfl, hR.f32.keep rfl, hR.f33.keep rfl, hR.f34.keep rfl, hR.f35.keep rfl, (fun _ => rfl), hR.f37.keep rfl, (fun _ => rfl), (fun _ => rfl), hR.f40.keep rfl, hR.f41.keep rfl, hR.f42.keep rfl, hR.f43.keep rfl, hR.f44.keep rfl, hR.f45.keep rfl, hR.f46.keep rfl, hR.b6.keep rfl, hR.b33.keep rfl, hR.b43.keep rfl, hR.n6_33.keep rfl rfl, hR.n6_43.keep rfl rfl, hR.n33_43.keep rfl rfl⟩⟩
    refine EachOf.cons [36] rfl (by kernel_rfl) ?_ ?_
    · rintro L A W ⟨v, g, rfl, hR⟩ hi hw K hK
      have e36 := hR.f36 (hw 36 (by simp))
      simp only [e36]
      clear e36
      go_simp
      go_at_call 31
      (with_reducible refine ((CF (-3) _).out).mono ?_)
      rintro e w2 ⟨rfl, hb⟩
      go_simp
      refine hK.out _ _ ?_
      exact ⟨(fun jz => if jz = 64 then .bool true else if jz = 68 then .agg #[.int .i64 (-3), .int .i64 1] else v jz), g, rfl, ⟨below_on hR.st hb, hR.f0.keep rfl, hR.f1.keep rfl, hR.f2.keep rfl, hR.f3.keep rfl, hR.f4.keep rfl, hR.f5.keep rfl, hR.f6.keep rfl, hR.f7.keep rfl, hR.f8.keep rfl, hR.f9.keep rfl, hR.f10.keep rfl, hR.f11.keep rfl, hR.f12.keep rfl, hR.f13.keep rfl, hR.f14.keep rfl, hR.f15.keep rfl, hR.f16.keep rfl, hR.f17.keep rfl, hR.f18.keep rfl, hR.f19.keep rfl, hR.f20.keep rfl, hR.f21.keep rfl, hR.f22.keep rfl, hR.f23.keep rfl, hR.f24.keep rfl, hR.f25.keep rfl, hR.f26.keep rfl, hR.f27.keep rfl, hR.f28.keep rfl, hR.f29.keep rfl, hR.f30.keep rfl, hR.f31.keep rfl, hR.f32.keep rfl, hR.f33.keep rfl, hR.f34.keep rfl, hR.f35.keep rfl, (fun _ => rfl), hR.f37.keep rfl, hR.f38.keep rfl, hR.f39.keep rfl, (fun _ => rfl), hR.f41.keep rfl, hR.f42.keep rfl, hR.f43.keep rfl, hR.f44.keep rfl, hR.f45.keep rfl, hR.f46.keep rfl, hR.b6.keepM rfl (fun h => ⟨h.1, h.2.on hb⟩), hR.b33.keepM rfl (fun h => ⟨h.1, h.2.on hb⟩), hR.b43.keepM rfl (fun h => ⟨h.1, h.2.on hb⟩), hR.n6_33.keep rfl rfl, hR.n6_43.keep rfl rfl, hR.n33_43.keep rfl rfl⟩⟩
    refine EachOf.cons [36] rfl (by kernel_rfl) ?_ ?_
    · rintro L A W ⟨v, g, rfl, hR⟩ hi hw K hK
      have e36 := hR.f36 (hw 36 (by simp))
      simp only [e36]
      clear e36
      go_simp
      go_at_call 31
      (with_reducible refine ((CF 0 _).out).mono ?_)
      rintro e w2 ⟨rfl, hb⟩
      go_simp
      refine hK.out _ _ ?_
      exact ⟨(fun jz => if jz = 64 then .bool true else if jz = 69 then .agg #[.int .i64 0, .int .i64 1] else v jz), g, rfl, ⟨below_on hR.st hb, hR.f0.keep rfl, hR.f1.keep rfl, hR.f2.keep rfl, hR.f3.keep rfl, hR.f4.keep rfl, hR.f5.keep rfl, hR.f6.keep rfl, hR.f7.keep rfl, hR.f8.keep rfl, hR.f9.keep rfl, hR.f10.keep rfl, hR.f11.keep rfl, hR.f12.keep rfl, hR.f13.keep rfl, hR.f14.keep rfl, hR.f15.keep rfl, hR.f16.keep rfl, hR.f17.keep rfl, hR.f18.keep rfl, hR.f19.keep rfl, hR.f20.keep rfl, hR.f21.keep rfl, hR.f22.keep rfl, hR.f23.keep rfl, hR.f24.keep rfl, hR.f25.keep rfl, hR.f26.keep rfl, hR.f27.keep rfl, hR.f28.keep rfl, hR.f29.keep rfl, hR.f30.keep rfl, hR.f31.keep rfl, hR.f32.keep rfl, hR.f33.keep rfl, hR.f34.keep rfl, hR.f35.keep rfl, (fun _ => rfl), hR.f37.keep rfl, hR.f38.keep rfl, hR.f39.keep rfl, hR.f40.keep rfl, (fun _ => rfl), hR.f42.keep rfl, hR.f43.keep rfl, hR.f44.keep rfl, hR.f45.keep rfl, hR.f46.keep rfl, hR.b6.keepM rfl (fun h => ⟨h.1, h.2.on hb⟩), hR.b33.keepM rfl (fun h => ⟨h.1, h.2.on hb⟩), hR.b43.keepM rfl (fun h => ⟨h.1, h.2.on hb⟩), hR.n6_33.keep rfl rfl, hR.n6_43.keep rfl rfl, hR.n33_43.keep rfl rfl⟩⟩
    refine EachOf.cons [36] rfl (by kernel_rfl) ?_ ?_
    · rintro L A W ⟨v, g, rfl, hR⟩ hi hw K hK
      have e36 := hR.f36 (hw 36 (by simp))
      simp only [e36]
      clear e36
      go_simp
      go_at_call 31
      (with_reducible refine ((CF 1 _).out).mono ?_)
      rintro e w2 ⟨rfl, hb⟩
      go_simp
      refine hK.out _ _ ?_
      exact ⟨(fun jz => if jz = 64 then .bool true else if jz = 70 then .agg #[.int .i64 1, .int .i64 1] else v jz), g, rfl, ⟨below_on hR.st hb, hR.f0.keep rfl, hR.f1.keep rfl, hR.f2.keep rfl, hR.f3.keep rfl, hR.f4.keep rfl, hR.f5.keep rfl, hR.f6.keep rfl, hR.f7.keep rfl, hR.f8.keep rfl, hR.f9.keep rfl, hR.f10.keep rfl, hR.f11.keep rfl, hR.f12.keep rfl, hR.f13.keep rfl, hR.f14.keep rfl, hR.f15.keep rfl, hR.f16.keep rfl, hR.f17.keep rfl, hR.f18.keep rfl, hR.f19.keep rfl, hR.f20.keep rfl, hR.f21.keep rfl, hR.f22.keep rfl, hR.f23.keep rfl, hR.f24.keep rfl, hR.f25.keep rfl, hR.f26.keep rfl, hR.f27.keep rfl, hR.f28.keep rfl, hR.f29.keep rfl, hR.f30.keep rfl, hR.f31.keep rfl, hR.f32.keep rfl, hR.f33.keep rfl, hR.f34.keep rfl, hR.f35.keep rfl, (fun _ => rfl), hR.f37.keep rfl, hR.f38.keep rfl, hR.f39.keep rfl, hR.f40.keep rfl, hR.f41.keep rfl, (fun _ => rfl), hR.f43.keep rfl, hR.f44.keep rfl, hR.f45.keep rfl, hR.f46.keep rfl, hR.b6.keepM rfl (fun h => ⟨h.1, h.2.on hb⟩), hR.b33.keepM rfl (fun h => ⟨h.1, h.2.on hb⟩), hR.b43.keepM rfl (fun h => ⟨h.1, h.2.on hb⟩), hR.n6_33.keep rfl rfl, hR.n6_43.keep rfl rfl, hR.n33_43.keep rfl rfl⟩⟩
    refine EachOf.cons [40, 41, 42, 36] rfl (by kernel_rfl) ?_ ?_
    · rintro L A W ⟨v, g, rfl, hR⟩ hi hw K hK
      have e40 := hR.f40 (hw 40 (by simp))
      have e41 := hR.f41 (hw 41 (by simp))
      have e42 := hR.f42 (hw 42 (by simp))
      have e36 := hR.f36 (hw 36 (by simp))
      simp only [e40, e41, e42, e36]
      clear e40 e41 e42 e36
      have hz := hR.st.size
      go_simp
      refine hK.out _ _ ?_
      have hb : Below W.heap.size W (W.alloc (Obj.cells #[Value.int .i64 (-3), Value.int .i64 1, Value.int .i64 0, Value.int .i64 1, Value.int .i64 1, Value.int .i64 1] 45)) := (Below.refl _ _).alloc (Nat.le_refl _) _
      have hrow : Row (W.alloc (Obj.cells #[Value.int .i64 (-3), Value.int .i64 1, Value.int .i64 0, Value.int .i64 1, Value.int .i64 1, Value.int .i64 1] 45)) W.heap.size [.int .i64 (-3), .int .i64 1, .int .i64 0, .int .i64 1, .int .i64 1, .int .i64 1] := row6 _ _ _ _ _ _ _ _
      exact ⟨(fun jz => if jz = 68 then .agg #[.int .i64 (-3), .int .i64 1] else if jz = 69 then .agg #[.int .i64 0, .int .i64 1] else if jz = 70 then .agg #[.int .i64 1, .int .i64 1] else if jz = 64 then .bool true else if jz = 71 then .slice (some ⟨W.heap.size, 0, none⟩) 3 3 else v jz), (fun jz => if jz = 43 then W.heap.size else g jz), rfl, ⟨below_on hR.st hb, hR.f0.keep rfl, hR.f1.keep rfl, hR.f2.keep rfl, hR.f3.keep rfl, hR.f4.keep rfl, hR.f5.keep rfl, hR.f6.keep rfl, hR.f7.keep rfl, hR.f8.keep rfl, hR.f9.keep rfl, hR.f10.keep rfl, hR.f11.keep rfl, hR.f12.keep rfl, hR.f13.keep rfl, hR.f14.keep rfl, hR.f15.keep rfl, hR.f16.keep rfl, hR.f17.keep rfl, hR.f18.keep rfl, hR.f19.keep rfl, hR.f20.keep rfl, hR.f21.keep rfl, hR.f22.keep rfl, hR.f23.keep rfl, hR.f24.keep rfl, hR.f25.keep rfl, hR.f26.keep rfl, hR.f27.keep rfl, hR.f28.keep rfl, hR.f29.keep rfl, hR.f30.keep rfl, hR.f31.keep rfl, hR.f32.keep rfl, hR.f33.keep rfl, hR.f34.keep rfl, hR.f35.keep rfl, (fun _ => rfl), hR.f37.keep rfl, hR.f38.keep rfl, hR.f39.keep rfl, (fun _ => rfl), (fun _ => rfl), (fun _ => rfl), (fun _ => rfl), hR.f44.keep rfl, hR.f45.keep rfl, hR.f46.keep rfl, hR.b6.keepM rfl (fun h => ⟨h.1, h.2.on hb⟩), hR.b33.keepM rfl (fun h => ⟨h.1, h.2.on hb⟩), (fun _ => ⟨hz, hrow⟩), hR.n6_33.keep rfl rfl, (fun h _ => by have h1 := (hR.b6 (upd_back h rfl)).2.1; exact Nat.ne_of_lt h1), (fun h _ => by have h1 := (hR.b33 (upd_back h rfl)).2.1; exact Nat.ne_of_lt h1)⟩⟩
    refine EachOf.cons [39, 43, 36] rfl (by kernel_rfl) ?_ ?_
    · rintro L A W ⟨v, g, rfl, hR⟩ hi hw K hK
      have e39 := hR.f39 (hw 39 (by simp))
      have e43 := hR.f43 (hw 43 (by simp))
      have e36 := hR.f36 (hw 36 (by simp))
      simp only [e39, e43, e36]
      clear e39 e43 e36
      have hrw := (hR.b43 (hw 43 (by simp))).2
      go_simp
      go_at_call 25
      (with_reducible refine ((CE3 _ hR.st _ hrw).out).mono ?_)
      rintro e w2 ⟨rfl, hb⟩
      go_simp
      refine hK.out _ _ ?_
      exact ⟨(fun jz => if jz = 67 then .slice (some ⟨vd, 0, none⟩) 3 3 else if jz = 71 then .slice (some ⟨g 43, 0, none⟩) 3 3 else if jz = 64 then .bool true else if jz = 72 then .bool true else v jz), g, rfl, ⟨below_on hR.st hb, hR.f0.keep rfl, hR.f1.keep rfl, hR.f2.keep rfl, hR.f3.keep rfl, hR.f4.keep rfl, hR.f5.keep rfl, hR.f6.keep rfl, hR.f7.keep rfl, hR.f8.keep rfl, hR.f9.keep rfl, hR.f10.keep rfl, hR.f11.keep rfl, hR.f12.keep rfl, hR.f13.keep rfl, hR.f14.keep rfl, hR.f15.keep rfl, hR.f16.keep rfl, hR.f17.keep rfl, hR.f18.keep rfl, hR.f19.keep rfl, hR.f20.keep rfl, hR.f21.keep rfl, hR.f22.keep rfl, hR.f23.keep rfl, hR.f24.keep rfl, hR.f25.keep rfl, hR.f26.keep rfl, hR.f27.keep rfl, hR.f28.keep rfl, hR.f29.keep rfl, hR.f30.keep rfl, hR.f31.keep rfl, hR.f32.keep rfl, hR.f33.keep rfl, hR.f34.keep rfl, hR.f35.keep rfl, (fun _ => rfl), hR.f37.keep rfl, hR.f38.keep rfl, (fun _ => rfl), hR.f40.keep rfl, hR.f41.keep rfl, hR.f42.keep rfl, (fun _ => rfl), (fun _ => rfl), hR.f45.keep rfl, hR.f46.keep rfl, hR.b6.keepM rfl (fun h => ⟨h.1, h.2.on hb⟩), hR.b33.keepM rfl (fun h => ⟨h.1, h.2.on hb⟩), hR.b43.keepM rfl (fun h => ⟨h.1, h.2.on hb⟩), hR.n6_33.keep rfl rfl, hR.n6_43.keep rfl rfl, hR.n33_43.keep rfl rfl⟩⟩
    refine EachOf.cons [36, 44] rfl (by kernel_rfl) ?_ ?_
    · rintro L A W ⟨v, g, rfl, hR⟩ hi hw K hK
      have e36 := hR.f36 (hw 36 (by simp))
      have e44 := hR.f44 (hw 44 (by simp))
      simp only [e36, e44]
      clear e36 e44
      go_simp
      refine hK.out _ _ ?_
      exact ⟨(fun jz => if jz = 64 then .bool true else if jz = 72 then .bool true else if jz = 73 then .bool true else v jz), g, rfl, ⟨hR.st, hR.f0.keep rfl, hR.f1.keep rfl, hR.f2.keep rfl, hR.f3.keep rfl, hR.f4.keep rfl, hR.f5.keep rfl, hR.f6.keep rfl, hR.f7.keep rfl, hR.f8.keep rfl, hR.f9.keep rfl, hR.f10.keep rfl, hR.f11.keep rfl, hR.f12.keep rfl, hR.f13.keep rfl, hR.f14.keep rfl, hR.f15.keep rfl, hR.f16.keep rfl, hR.f17.keep rfl, hR.f18.keep rfl, hR.f19.keep rfl, hR.f20.keep rfl, hR.f21.keep rfl, hR.f22.keep rfl, hR.f23.keep rfl, hR.f24.keep rfl, hR.f25.keep rfl, hR.f26.keep rfl, hR.f27.keep rfl, hR.f28.keep rfl, hR.f29.keep rfl, hR.f30.keep rfl, hR.f31.keep rfl, hR.f32.keep rfl, hR.f33.keep rfl, hR.f34.keep rfl, hR.f35.keep rfl, (fun _ => rfl), hR.f37.keep rfl, hR.f38.keep rfl, hR.f39.keep rfl, hR.f40.keep rfl, hR.f41.keep rfl, hR.f42.keep rfl, hR.f43.keep rfl, (fun _ => rfl), (fun _ => rfl), hR.f46.keep rfl, hR.b6.keep rfl, hR.b33.keep rfl, hR.b43.keep rfl, hR.n6_33.keep rfl rfl, hR.n6_43.keep rfl rfl, hR.n33_43.keep rfl rfl⟩⟩
    refine EachOf.cons [45] rfl (by kernel_rfl) ?_ ?_
    · rintro L A W ⟨v, g, rfl, hR⟩ hi hw K hK
      have e45 := hR.f45 (hw 45 (by simp))
      simp only [e45]
      clear e45
      go_simp
      refine hK.out _ _ ?_
      exact ⟨(fun jz => if jz = 73 then .bool true else if jz = 0 then .bool true else v jz), g, rfl, ⟨hR.st, hR.f0.keep rfl, hR.f1.keep rfl, hR.f2.keep rfl, hR.f3.keep rfl, hR.f4.keep rfl, hR.f5.keep rfl, hR.f6.keep rfl, hR.f7.keep rfl, hR.f8.keep rfl, hR.f9.keep rfl, hR.f10.keep rfl, hR.f11.keep rfl, hR.f12.keep rfl, hR.f13.keep rfl, hR.f14.keep rfl, hR.f15.keep rfl, hR.f16.keep rfl, hR.f17.keep rfl, hR.f18.keep rfl, hR.f19.keep rfl, hR.f20.keep rfl, hR.f21.keep rfl, hR.f22.keep rfl, hR.f23.keep rfl, hR.f24.keep rfl, hR.f25.keep rfl, hR.f26.keep rfl, hR.f27.keep rfl, hR.f28.keep rfl, hR.f29.keep rfl, hR.f30.keep rfl, hR.f31.keep rfl, hR.f32.keep rfl, hR.f33.keep rfl, hR.f34.keep rfl, hR.f35.keep rfl, hR.f36.keep rfl, hR.f37.keep rfl, hR.f38.keep rfl, hR.f39.keep rfl, hR.f40.keep rfl, hR.f41.keep rfl, hR.f42.keep rfl, hR.f43.keep rfl, hR.f44.keep rfl, (fun _ => rfl), (fun _ => rfl), hR.b6.keep rfl, hR.b33.keep rfl, hR.b43.keep rfl, hR.n6_33.keep rfl rfl, hR.n6_43.keep rfl rfl, hR.n33_43.keep rfl rfl⟩⟩
    exact EachOf.nil
  rintro L A W2 ⟨v, g, rfl, hR⟩ hL
  have HR := Lib.hid (below_on HB.out hR.st)
  have e46 := hR.f46 (hL 46 (by simp))
  simp only [e46]
  clear e46 hR hL
  go_wp2_with fail
  go_ret
  exact ⟨rfl, HR.out⟩

end Go.Proofs.Ytjggnmbdgagkoaa
