/- Layer 3: the reference's quotient. -/
import Derived.Test.YtknbhpnhnhfbpaaS7
import Derived.Test.YtknbhpnhnhfbpaaS9
import Derived.Test.YtknbhpnhnhfbpaaS4
import Derived.Test.YtknbhpnhnhfbpaaREach
namespace Go.Proofs.Ytknbhpnhnhfbpaa
set_option linter.unusedVariables false
open Go.RowKit Go.Shelf

theorem least4 (x y z u : Int) (w : World) (b : Nat) (hc : Row w b [.int .i64 x, .int .i64 y, .int .i64 z, .int .i64 u]) : Hid (Calls Try.prog 48 #[.slice (some ⟨b, 0, none⟩) 4 4] w fun e w' => e = .returned (.int .i64 (min (min (min x y) z) u)) ∧ w = w') :=
  least_any [x, y, z, u] w b (by simp) (by simp) hc
theorem great4 (x y z u : Int) (w : World) (b : Nat) (hc : Row w b [.int .i64 x, .int .i64 y, .int .i64 z, .int .i64 u]) : Hid (Calls Try.prog 47 #[.slice (some ⟨b, 0, none⟩) 4 4] w fun e w' => e = .returned (.int .i64 (max (max (max x y) z) u)) ∧ w = w') :=
  great_any [x, y, z, u] w b (by simp) (by simp) hc

structure SDiv3R (w : World) (al ah bl bh k1 k2 k3 k4 m1 m2 m3 m4 tl tg n d e : Int) (Wc : World) (L : Nat → Bool) (v : Nat → Value) (g : Nat → Nat) (W : World) : Prop where
  st : L 47 = false → Below Wc.heap.size Wc W
  sr : Had L 47 (∃ W2, Below Wc.heap.size Wc W2 ∧ W = (W2.setCell ⟨w.heap.size + 1 + 1, 0, none⟩ (.int .i64 n)).setCell ⟨w.heap.size + 1 + 1, 1, none⟩ (.int .i64 d))
  ar : Had L 47 (∀ j ∈ [0, 1, 2, 3, 4, 5, 6, 7, 8, 9, 10, 11, 12, 13, 14, 15, 16, 17, 18, 19, 20, 21, 22, 23, 24, 25, 26, 27, 28, 29, 30, 31, 32, 33, 34, 35, 36, 37, 38, 39, 40, 41, 42, 43, 44, 45, 46], L j = true)
  f0 : Had L 0 (v 9 = .pointer (some ⟨w.heap.size, 0, none⟩))
  f1 : Had L 1 (v 10 = .int .i64 al)
  f2 : Had L 2 (v 11 = .pointer (some ⟨w.heap.size + 1, 0, none⟩))
  f3 : Had L 3 (v 12 = .int .i64 bl)
  f4 : Had L 4 (v 13 = .int .i64 k1)
  f5 : Had L 5 (v 14 = .pointer (some ⟨w.heap.size, 0, none⟩))
  f6 : Had L 6 (v 15 = .int .i64 al)
  f7 : Had L 7 (v 16 = .pointer (some ⟨w.heap.size + 1, 1, none⟩))
  f8 : Had L 8 (v 17 = .int .i64 bh)
  f9 : Had L 9 (v 18 = .int .i64 k2)
  f10 : Had L 10 (v 19 = .pointer (some ⟨w.heap.size, 1, none⟩))
  f11 : Had L 11 (v 20 = .int .i64 ah)
  f12 : Had L 12 (v 21 = .pointer (some ⟨w.heap.size + 1, 0, none⟩))
  f13 : Had L 13 (v 22 = .int .i64 bl)
  f14 : Had L 14 (v 23 = .int .i64 k3)
  f15 : Had L 15 (v 24 = .pointer (some ⟨w.heap.size, 1, none⟩))
  f16 : Had L 16 (v 25 = .int .i64 ah)
  f17 : Had L 17 (v 26 = .pointer (some ⟨w.heap.size + 1, 1, none⟩))
  f18 : Had L 18 (v 27 = .int .i64 bh)
  f19 : Had L 19 (v 28 = .int .i64 k4)
  f20 : Had L 20 (v 29 = .slice (some ⟨g 20, 0, none⟩) 4 4)
  f21 : Had L 21 (v 30 = .int .i64 tl)
  f22 : Had L 22 (v 31 = .pointer (some ⟨w.heap.size, 0, none⟩))
  f23 : Had L 23 (v 32 = .int .i64 al)
  f24 : Had L 24 (v 33 = .pointer (some ⟨w.heap.size + 1, 0, none⟩))
  f25 : Had L 25 (v 34 = .int .i64 bl)
  f26 : Had L 26 (v 35 = .int .i64 m1)
  f27 : Had L 27 (v 36 = .pointer (some ⟨w.heap.size, 0, none⟩))
  f28 : Had L 28 (v 37 = .int .i64 al)
  f29 : Had L 29 (v 38 = .pointer (some ⟨w.heap.size + 1, 1, none⟩))
  f30 : Had L 30 (v 39 = .int .i64 bh)
  f31 : Had L 31 (v 40 = .int .i64 m2)
  f32 : Had L 32 (v 41 = .pointer (some ⟨w.heap.size, 1, none⟩))
  f33 : Had L 33 (v 42 = .int .i64 ah)
  f34 : Had L 34 (v 43 = .pointer (some ⟨w.heap.size + 1, 0, none⟩))
  f35 : Had L 35 (v 44 = .int .i64 bl)
  f36 : Had L 36 (v 45 = .int .i64 m3)
  f37 : Had L 37 (v 46 = .pointer (some ⟨w.heap.size, 1, none⟩))
  f38 : Had L 38 (v 47 = .int .i64 ah)
  f39 : Had L 39 (v 48 = .pointer (some ⟨w.heap.size + 1, 1, none⟩))
  f40 : Had L 40 (v 49 = .int .i64 bh)
  f41 : Had L 41 (v 50 = .int .i64 m4)
  f42 : Had L 42 (v 51 = .slice (some ⟨g 42, 0, none⟩) 4 4)
  f43 : Had L 43 (v 52 = .int .i64 tg)
  f44 : Had L 44 (v 53 = .tuple #[.agg #[.int .i64 n, .int .i64 d], .int .i64 e])
  f45 : Had L 45 (v 54 = .agg #[.int .i64 n, .int .i64 d])
  f46 : Had L 46 (v 55 = .int .i64 e)
  f48 : Had L 48 (v 5 = .int .i64 e)
  b20 : Had L 20 (Wc.heap.size ≤ g 20 ∧ Row W (g 20) [.int .i64 k1, .int .i64 k2, .int .i64 k3, .int .i64 k4])
  b42 : Had L 42 (Wc.heap.size ≤ g 42 ∧ Row W (g 42) [.int .i64 m1, .int .i64 m2, .int .i64 m3, .int .i64 m4])
  n20_42 : Had2 L 20 42 (g 20 ≠ g 42)

set_option maxRecDepth 100000 in
set_option maxHeartbeats 64000000 in
theorem rdiv_walk (al ah bl bh k1 k2 k3 k4 m1 m2 m3 m4 tl tg n d e : Int) (w : World)  (Q1 : ∀ w, Hid (Calls Try.prog 37 #[.int .i64 al, .int .i64 bl] w fun e w' => e = .returned (.int .i64 k1) ∧ Below w.heap.size w w')) (Q2 : ∀ w, Hid (Calls Try.prog 37 #[.int .i64 al, .int .i64 bh] w fun e w' => e = .returned (.int .i64 k2) ∧ Below w.heap.size w w')) (Q3 : ∀ w, Hid (Calls Try.prog 37 #[.int .i64 ah, .int .i64 bl] w fun e w' => e = .returned (.int .i64 k3) ∧ Below w.heap.size w w')) (Q4 : ∀ w, Hid (Calls Try.prog 37 #[.int .i64 ah, .int .i64 bh] w fun e w' => e = .returned (.int .i64 k4) ∧ Below w.heap.size w w')) (P1 : ∀ w, Hid (Calls Try.prog 38 #[.int .i64 al, .int .i64 bl] w fun e w' => e = .returned (.int .i64 m1) ∧ Below w.heap.size w w')) (P2 : ∀ w, Hid (Calls Try.prog 38 #[.int .i64 al, .int .i64 bh] w fun e w' => e = .returned (.int .i64 m2) ∧ Below w.heap.size w w')) (P3 : ∀ w, Hid (Calls Try.prog 38 #[.int .i64 ah, .int .i64 bl] w fun e w' => e = .returned (.int .i64 m3) ∧ Below w.heap.size w w')) (P4 : ∀ w, Hid (Calls Try.prog 38 #[.int .i64 ah, .int .i64 bh] w fun e w' => e = .returned (.int .i64 m4) ∧ Below w.heap.size w w')) (LE : ∀ (w : World) (b : Nat), Row w b [.int .i64 k1, .int .i64 k2, .int .i64 k3, .int .i64 k4] → Hid (Calls Try.prog 48 #[.slice (some ⟨b, 0, none⟩) 4 4] w fun e w' => e = .returned (.int .i64 tl) ∧ w = w')) (GR : ∀ (w : World) (b : Nat), Row w b [.int .i64 m1, .int .i64 m2, .int .i64 m3, .int .i64 m4] → Hid (Calls Try.prog 47 #[.slice (some ⟨b, 0, none⟩) 4 4] w fun e w' => e = .returned (.int .i64 tg) ∧ w = w')) (CF : ∀ w, Hid (Calls Try.prog 46 #[.int .i64 tl, .int .i64 tg] w fun r w' => r = .returned (.tuple #[.agg #[.int .i64 n, .int .i64 d], .int .i64 e]) ∧ Below w.heap.size w w')) (NO : ∀ w, Hid (Calls Try.prog 35 #[.agg #[.int .i64 bl, .int .i64 bh], .int .i64 0] w fun e w' => e = .returned (.bool false) ∧ Below w.heap.size w w')) :
    Calls Try.prog 26 #[.agg #[.int .i64 al, .int .i64 ah], .agg #[.int .i64 bl, .int .i64 bh]] w fun r w' => r = .returned (.tuple #[.agg #[.int .i64 n, .int .i64 d], .int .i64 e]) ∧ Below w.heap.size w w' := by
  go_enter Try.func26, Try.ntmps26
  go_upto_region 1 with fail
  obtain ⟨W0, hW0⟩ : ∃ W0, W0 = ((w.alloc (Obj.cells #[Value.int IntKind.i64 al, Value.int IntKind.i64 ah] 23)).alloc (Obj.cells #[Value.int IntKind.i64 bl, Value.int IntKind.i64 bh] 23)).alloc (Obj.cells #[Value.int IntKind.i64 0, Value.int IntKind.i64 0] 23) := ⟨_, rfl⟩
  rw [← hW0]
  obtain ⟨HA, HB, HR, HF, HW⟩ := sargs w al ah bl bh W0 hW0
  clear hW0
  obtain ⟨_, HBp, HBq⟩ := HB.out
  go_wp2_with fail
  (with_reducible refine ((NO _).out).mono ?_)
  rintro e y1 ⟨rfl, hb⟩
  clear HBp HBq
  have hst := Lib.hid hb
  clear hb
  replace HF := Lib.hid (HF.out.on HR.out.1 hst.out)
  replace HA := Lib.hid (HA.out.on hst.out)
  replace HB := Lib.hid (HB.out.on hst.out)
  replace HR := Lib.hid (HR.out.on hst.out)
  replace HW := Lib.hid (below_on HW.out hst.out)
  clear hst
  clear NO
  go_upto_region 3 with fail
  refine wp_region_each (fun L A W => ∃ (v : Nat → Value) (g : Nat → Nat), A = ⟨#[.agg #[.int .i64 al, .int .i64 ah], .agg #[.int .i64 bl, .int .i64 bh], .pointer (some ⟨w.heap.size, 0, none⟩), .pointer (some ⟨w.heap.size + 1, 0, none⟩), .pointer (some ⟨w.heap.size + 1 + 1, 0, none⟩), v 5, .agg #[.int .i64 bl, .int .i64 bh], .bool false, undef, v 9, v 10, v 11, v 12, v 13, v 14, v 15, v 16, v 17, v 18, v 19, v 20, v 21, v 22, v 23, v 24, v 25, v 26, v 27, v 28, v 29, v 30, v 31, v 32, v 33, v 34, v 35, v 36, v 37, v 38, v 39, v 40, v 41, v 42, v 43, v 44, v 45, v 46, v 47, v 48, v 49, v 50, v 51, v 52, v 53, v 54, v 55], []⟩ ∧ SDiv3R w al ah bl bh k1 k2 k3 k4 m1 m2 m3 m4 tl tg n d e y1 L v g W) (by kernel_rfl) (by kernel_rfl) ⟨fun jz => if jz = 5 then .int .i64 0 else undef, fun _ => 0, rfl, ⟨(fun _ => Below.drew (Below.refl _ _)), Had.none, Had.none, Had.none, Had.none, Had.none, Had.none, Had.none, Had.none, Had.none, Had.none, Had.none, Had.none, Had.none, Had.none, Had.none, Had.none, Had.none, Had.none, Had.none, Had.none, Had.none, Had.none, Had.none, Had.none, Had.none, Had.none, Had.none, Had.none, Had.none, Had.none, Had.none, Had.none, Had.none, Had.none, Had.none, Had.none, Had.none, Had.none, Had.none, Had.none, Had.none, Had.none, Had.none, Had.none, Had.none, Had.none, Had.none, Had.none, Had.none, Had.none, Had.none, Had.none, (fun h => by cases h)⟩⟩ (rs := [0, 1, 2, 3, 4, 5, 6, 7, 8, 9, 10, 11, 12, 13, 14, 15, 16, 17, 18, 19, 20, 21, 22, 23, 24, 25, 26, 27, 28, 29, 30, 31, 32, 33, 34, 35, 36, 37, 38, 39, 40, 41, 42, 43, 44, 45, 46, 47, 48]) (by kernel_rfl) ?_ ?_
  · refine EachOf.cons [] rfl (by kernel_rfl) ?_ ?_
    · rintro L A W ⟨v, g, rfl, hR⟩ hi hw K hK
      have hk : L 47 = false := hR.ar.not hi rfl
      go_simp
      refine hK.out _ _ ?_
      exact ⟨(fun jz => if jz = 9 then .pointer (some ⟨w.heap.size, 0, none⟩) else v jz), g, rfl, ⟨(fun h => hR.st (upd_false h)), hR.sr.keep rfl, hR.ar.keepM rfl (fun h j hj => upd_on (h j hj)), (fun _ => rfl), hR.f1.keep rfl, hR.f2.keep rfl, hR.f3.keep rfl, hR.f4.keep rfl, hR.f5.keep rfl, hR.f6.keep rfl, hR.f7.keep rfl, hR.f8.keep rfl, hR.f9.keep rfl, hR.f10.keep rfl, hR.f11.keep rfl, hR.f12.keep rfl, hR.f13.keep rfl, hR.f14.keep rfl, hR.f15.keep rfl, hR.f16.keep rfl, hR.f17.keep rfl, hR.f18.keep rfl, hR.f19.keep rfl, hR.f20.keep rfl, hR.f21.keep rfl, hR.f22.keep rfl, hR.f23.keep rfl, hR.f24.keep rfl, hR.f25.keep rfl, hR.f26.keep rfl, hR.f27.keep rfl, hR.f28.keep rfl, hR.f29.keep rfl, hR.f30.keep rfl, hR.f31.keep rfl, hR.f32.keep rfl, hR.f33.keep rfl, hR.f34.keep rfl, hR.f35.keep rfl, hR.f36.keep rfl, hR.f37.keep rfl, hR.f38.keep rfl, hR.f39.keep rfl, hR.f40.keep rfl, hR.f41.keep rfl, hR.f42.keep rfl, hR.f43.keep rfl, hR.f44.keep rfl, hR.f45.keep rfl, hR.f46.keep rfl, hR.f48.keep rfl, hR.b20.keep rfl, hR.b42.keep rfl, hR.n20_42.keep rfl rfl⟩⟩
    refine EachOf.cons [0] rfl (by kernel_rfl) ?_ ?_
    · rintro L A W ⟨v, g, rfl, hR⟩ hi hw K hK
      have hk : L 47 = false := hR.ar.not hi rfl
      have e0 := hR.f0 (hw 0 (by simp))
      simp only [e0]
      clear e0
      obtain ⟨_, q0, q1⟩ := HA.out.on (hR.st hk)
      go_simp
      refine hK.out _ _ ?_
      exact ⟨(fun jz => if jz = 9 then .pointer (some ⟨w.heap.size, 0, none⟩) else if jz = 10 then .int .i64 al else v jz), g, rfl, ⟨(fun h => hR.st (upd_false h)), hR.sr.keep rfl, hR.ar.keepM rfl (fun h j hj => upd_on (h j hj)), (fun _ => rfl), (fun _ => rfl), hR.f2.keep rfl, hR.f3.keep rfl, hR.f4.keep rfl, hR.f5.keep rfl, hR.f6.keep rfl, hR.f7.keep rfl, hR.f8.keep rfl, hR.f9.keep rfl, hR.f10.keep rfl, hR.f11.keep rfl, hR.f12.keep rfl, hR.f13.keep rfl, hR.f14.keep rfl, hR.f15.keep rfl, hR.f16.keep rfl, hR.f17.keep rfl, hR.f18.keep rfl, hR.f19.keep rfl, hR.f20.keep rfl, hR.f21.keep rfl, hR.f22.keep rfl, hR.f23.keep rfl, hR.f24.keep rfl, hR.f25.keep rfl, hR.f26.keep rfl, hR.f27.keep rfl, hR.f28.keep rfl, hR.f29.keep rfl, hR.f30.keep rfl, hR.f31.keep rfl, hR.f32.keep rfl, hR.f33.keep rfl, hR.f34.keep rfl, hR.f35.keep rfl, hR.f36.keep rfl, hR.f37.keep rfl, hR.f38.keep rfl, hR.f39.keep rfl, hR.f40.keep rfl, hR.f41.keep rfl, hR.f42.keep rfl, hR.f43.keep rfl, hR.f44.keep rfl, hR.f45.keep rfl, hR.f46.keep rfl, hR.f48.keep rfl, hR.b20.keep rfl, hR.b42.keep rfl, hR.n20_42.keep rfl rfl⟩⟩
    refine EachOf.cons [] rfl (by kernel_rfl) ?_ ?_
    · rintro L A W ⟨v, g, rfl, hR⟩ hi hw K hK
      have hk : L 47 = false := hR.ar.not hi rfl
      go_simp
      refine hK.out _ _ ?_
      exact ⟨(fun jz => if jz = 11 then .pointer (some ⟨w.heap.size + 1, 0, none⟩) else v jz), g, rfl, ⟨(fun h => hR.st (upd_false h)), hR.sr.keep rfl, hR.ar.keepM rfl (fun h j hj => upd_on (h j hj)), hR.f0.keep rfl, hR.f1.keep rfl, (fun _ => rfl), hR.f3.keep rfl, hR.f4.keep rfl, hR.f5.keep rfl, hR.f6.keep rfl, hR.f7.keep rfl, hR.f8.keep rfl, hR.f9.keep rfl, hR.f10.keep rfl, hR.f11.keep rfl, hR.f12.keep rfl, hR.f13.keep rfl, hR.f14.keep rfl, hR.f15.keep rfl, hR.f16.keep rfl, hR.f17.keep rfl, hR.f18.keep rfl, hR.f19.keep rfl, hR.f20.keep rfl, hR.f21.keep rfl, hR.f22.keep rfl, hR.f23.keep rfl, hR.f24.keep rfl, hR.f25.keep rfl, hR.f26.keep rfl, hR.f27.keep rfl, hR.f28.keep rfl, hR.f29.keep rfl, hR.f30.keep rfl, hR.f31.keep rfl, hR.f32.keep rfl, hR.f33.keep rfl, hR.f34.keep rfl, hR.f35.keep rfl, hR.f36.keep rfl, hR.f37.keep rfl, hR.f38.keep rfl, hR.f39.keep rfl, hR.f40.keep rfl, hR.f41.keep rfl, hR.f42.keep rfl, hR.f43.keep rfl, hR.f44.keep rfl, hR.f45.keep rfl, hR.f46.keep rfl, hR.f48.keep rfl, hR.b20.keep rfl, hR.b42.keep rfl, hR.n20_42.keep rfl rfl⟩⟩
    refine EachOf.cons [2] rfl (by kernel_rfl) ?_ ?_
    · rintro L A W ⟨v, g, rfl, hR⟩ hi hw K hK
      have hk : L 47 = false := hR.ar.not hi rfl
      have e2 := hR.f2 (hw 2 (by simp))
      simp only [e2]
      clear e2
      obtain ⟨_, q0, q1⟩ := HB.out.on (hR.st hk)
      go_simp
      refine hK.out _ _ ?_
      exact ⟨(fun jz => if jz = 11 then .pointer (some ⟨w.heap.size + 1, 0, none⟩) else if jz = 12 then .int .i64 bl else v jz), g, rfl, ⟨(fun h => hR.st (upd_false h)), hR.sr.keep rfl, hR.ar.keepM rfl (fun h j hj => upd_on (h j hj)), hR.f0.keep rfl, hR.f1.keep rfl, (fun _ => rfl), (fun _ => rfl), hR.f4.keep rfl, hR.f5.keep rfl, hR.f6.keep rfl, hR.f7.keep rfl, hR.f8.keep rfl, hR.f9.keep rfl, hR.f10.keep rfl, hR.f11.keep rfl, hR.f12.keep rfl, hR.f13.keep rfl, hR.f14.keep rfl, hR.f15.keep rfl, hR.f16.keep rfl, hR.f17.keep rfl, hR.f18.keep rfl, hR.f19.keep rfl, hR.f20.keep rfl, hR.f21.keep rfl, hR.f22.keep rfl, hR.f23.keep rfl, hR.f24.keep rfl, hR.f25.keep rfl, hR.f26.keep rfl, hR.f27.keep rfl, hR.f28.keep rfl, hR.f29.keep rfl, hR.f30.keep rfl, hR.f31.keep rfl, hR.f32.keep rfl, hR.f33.keep rfl, hR.f34.keep rfl, hR.f35.keep rfl, hR.f36.keep rfl, hR.f37.keep rfl, hR.f38.keep rfl, hR.f39.keep rfl, hR.f40.keep rfl, hR.f41.keep rfl, hR.f42.keep rfl, hR.f43.keep rfl, hR.f44.keep rfl, hR.f45.keep rfl, hR.f46.keep rfl, hR.f48.keep rfl, hR.b20.keep rfl, hR.b42.keep rfl, hR.n20_42.keep rfl rfl⟩⟩
    refine EachOf.cons [1, 3] rfl (by kernel_rfl) ?_ ?_
    · rintro L A W ⟨v, g, rfl, hR⟩ hi hw K hK
      have hk : L 47 = false := hR.ar.not hi rfl
      have e1 := hR.f1 (hw 1 (by simp))
      have e3 := hR.f3 (hw 3 (by simp))
      simp only [e1, e3]
      clear e1 e3
      go_simp
      go_at_call 37
      (with_reducible refine ((Q1 _).out).mono ?_)
      rintro e w2 ⟨rfl, hb⟩
      go_simp
      refine hK.out _ _ ?_
      exact ⟨(fun jz => if jz = 10 then .int .i64 al else if jz = 12 then .int .i64 bl else if jz = 13 then .int .i64 k1 else v jz), g, rfl, ⟨(fun _ => below_on (hR.st hk) hb), (fun h => absurd (upd_back h rfl) (by simp [hk])), hR.ar.keepM rfl (fun h j hj => upd_on (h j hj)), hR.f0.keep rfl, (fun _ => rfl), hR.f2.keep rfl, (fun _ => rfl), (fun _ => rfl), hR.f5.keep rfl, hR.f6.keep rfl, hR.f7.keep rfl, hR.f8.keep rfl, hR.f9.keep rfl, hR.f10.keep rfl, hR.f11.keep rfl, hR.f12.keep rfl, hR.f13.keep rfl, hR.f14.keep rfl, hR.f15.keep rfl, hR.f16.keep rfl, hR.f17.keep rfl, hR.f18.keep rfl, hR.f19.keep rfl, hR.f20.keep rfl, hR.f21.keep rfl, hR.f22.keep rfl, hR.f23.keep rfl, hR.f24.keep rfl, hR.f25.keep rfl, hR.f26.keep rfl, hR.f27.keep rfl, hR.f28.keep rfl, hR.f29.keep rfl, hR.f30.keep rfl, hR.f31.keep rfl, hR.f32.keep rfl, hR.f33.keep rfl, hR.f34.keep rfl, hR.f35.keep rfl, hR.f36.keep rfl, hR.f37.keep rfl, hR.f38.keep rfl, hR.f39.keep rfl, hR.f40.keep rfl, hR.f41.keep rfl, hR.f42.keep rfl, hR.f43.keep rfl, hR.f44.keep rfl, hR.f45.keep rfl, hR.f46.keep rfl, hR.f48.keep rfl, hR.b20.keepM rfl (fun h => ⟨h.1, h.2.on hb⟩), hR.b42.keepM rfl (fun h => ⟨h.1, h.2.on hb⟩), hR.n20_42.keep rfl rfl⟩⟩
    refine EachOf.cons [] rfl (by kernel_rfl) ?_ ?_
    · rintro L A W ⟨v, g, rfl, hR⟩ hi hw K hK
      have hk : L 47 = false := hR.ar.not hi rfl
      go_simp
      refine hK.out _ _ ?_
      exact ⟨(fun jz => if jz = 14 then .pointer (some ⟨w.heap.size, 0, none⟩) else v jz), g, rfl, ⟨(fun h => hR.st (upd_false h)), hR.sr.keep rfl, hR.ar.keepM rfl (fun h j hj => upd_on (h j hj)), hR.f0.keep rfl, hR.f1.keep rfl, hR.f2.keep rfl, hR.f3.keep rfl, hR.f4.keep rfl, (fun _ => rfl), hR.f6.keep rfl, hR.f7.keep rfl, hR.f8.keep rfl, hR.f9.keep rfl, hR.f10.keep rfl, hR.f11.keep rfl, hR.f12.keep rfl, hR.f13.keep rfl, hR.f14.keep rfl, hR.f15.keep rfl, hR.f16.keep rfl, hR.f17.keep rfl, hR.f18.keep rfl, hR.f19.keep rfl, hR.f20.keep rfl, hR.f21.keep rfl, hR.f22.keep rfl, hR.f23.keep rfl, hR.f24.keep rfl, hR.f25.keep rfl, hR.f26.keep rfl, hR.f27.keep rfl, hR.f28.keep rfl, hR.f29.keep rfl, hR.f30.keep rfl, hR.f31.keep rfl, hR.f32.keep rfl, hR.f33.keep rfl, hR.f34.keep rfl, hR.f35.keep rfl, hR.f36.keep rfl, hR.f37.keep rfl, hR.f38.keep rfl, hR.f39.keep rfl, hR.f40.keep rfl, hR.f41.keep rfl, hR.f42.keep rfl, hR.f43.keep rfl, hR.f44.keep rfl, hR.f45.keep rfl, hR.f46.keep rfl, hR.f48.keep rfl, hR.b20.keep rfl, hR.b42.keep rfl, hR.n20_42.keep rfl rfl⟩⟩
    refine EachOf.cons [5] rfl (by kernel_rfl) ?_ ?_
    · rintro L A W ⟨v, g, rfl, hR⟩ hi hw K hK
      have hk : L 47 = false := hR.ar.not hi rfl
      have e5 := hR.f5 (hw 5 (by simp))
      simp only [e5]
      clear e5
      obtain ⟨_, q0, q1⟩ := HA.out.on (hR.st hk)
      go_simp
      refine hK.out _ _ ?_
      exact ⟨(fun jz => if jz = 14 then .pointer (some ⟨w.heap.size, 0, none⟩) else if jz = 15 then .int .i64 al else v jz), g, rfl, ⟨(fun h => hR.st (upd_false h)), hR.sr.keep rfl, hR.ar.keepM rfl (fun h j hj => upd_on (h j hj)), hR.f0.keep rfl, hR.f1.keep rfl, hR.f2.keep rfl, hR.f3.keep rfl, hR.f4.keep rfl, (fun _ => rfl), (fun _ => rfl), hR.f7.keep rfl, hR.f8.keep rfl, hR.f9.keep rfl, hR.f10.keep rfl, hR.f11.keep rfl, hR.f12.keep rfl, hR.f13.keep rfl, hR.f14.keep rfl, hR.f15.keep rfl, hR.f16.keep rfl, hR.f17.keep rfl, hR.f18.keep rfl, hR.f19.keep rfl, hR.f20.keep rfl, hR.f21.keep rfl, hR.f22.keep rfl, hR.f23.keep rfl, hR.f24.keep rfl, hR.f25.keep rfl, hR.f26.keep rfl, hR.f27.keep rfl, hR.f28.keep rfl, hR.f29.keep rfl, hR.f30.keep rfl, hR.f31.keep rfl, hR.f32.keep rfl, hR.f33.keep rfl, hR.f34.keep rfl, hR.f35.keep rfl, hR.f36.keep rfl, hR.f37.keep rfl, hR.f38.keep rfl, hR.f39.keep rfl, hR.f40.keep rfl, hR.f41.keep rfl, hR.f42.keep rfl, hR.f43.keep rfl, hR.f44.keep rfl, hR.f45.keep rfl, hR.f46.keep rfl, hR.f48.keep rfl, hR.b20.keep rfl, hR.b42.keep rfl, hR.n20_42.keep rfl rfl⟩⟩
    refine EachOf.cons [] rfl (by kernel_rfl) ?_ ?_
    · rintro L A W ⟨v, g, rfl, hR⟩ hi hw K hK
      have hk : L 47 = false := hR.ar.not hi rfl
      go_simp
      refine hK.out _ _ ?_
      exact ⟨(fun jz => if jz = 16 then .pointer (some ⟨w.heap.size + 1, 1, none⟩) else v jz), g, rfl, ⟨(fun h => hR.st (upd_false h)), hR.sr.keep rfl, hR.ar.keepM rfl (fun h j hj => upd_on (h j hj)), hR.f0.keep rfl, hR.f1.keep rfl, hR.f2.keep rfl, hR.f3.keep rfl, hR.f4.keep rfl, hR.f5.keep rfl, hR.f6.keep rfl, (fun _ => rfl), hR.f8.keep rfl, hR.f9.keep rfl, hR.f10.keep rfl, hR.f11.keep rfl, hR.f12.keep rfl, hR.f13.keep rfl, hR.f14.keep rfl, hR.f15.keep rfl, hR.f16.keep rfl, hR.f17.keep rfl, hR.f18.keep rfl, hR.f19.keep rfl, hR.f20.keep rfl, hR.f21.keep rfl, hR.f22.keep rfl, hR.f23.keep rfl, hR.f24.keep rfl, hR.f25.keep rfl, hR.f26.keep rfl, hR.f27.keep rfl, hR.f28.keep rfl, hR.f29.keep rfl, hR.f30.keep rfl, hR.f31.keep rfl, hR.f32.keep rfl, hR.f33.keep rfl, hR.f34.keep rfl, hR.f35.keep rfl, hR.f36.keep rfl, hR.f37.keep rfl, hR.f38.keep rfl, hR.f39.keep rfl, hR.f40.keep rfl, hR.f41.keep rfl, hR.f42.keep rfl, hR.f43.keep rfl, hR.f44.keep rfl, hR.f45.keep rfl, hR.f46.keep rfl, hR.f48.keep rfl, hR.b20.keep rfl, hR.b42.keep rfl, hR.n20_42.keep rfl rfl⟩⟩
    refine EachOf.cons [7] rfl (by kernel_rfl) ?_ ?_
    · rintro L A W ⟨v, g, rfl, hR⟩ hi hw K hK
      have hk : L 47 = false := hR.ar.not hi rfl
      have e7 := hR.f7 (hw 7 (by simp))
      simp only [e7]
      clear e7
      obtain ⟨_, q0, q1⟩ := HB.out.on (hR.st hk)
      go_simp
      refine hK.out _ _ ?_
      exact ⟨(fun jz => if jz = 16 then .pointer (some ⟨w.heap.size + 1, 1, none⟩) else if jz = 17 then .int .i64 bh else v jz), g, rfl, ⟨(fun h => hR.st (upd_false h)), hR.sr.keep rfl, hR.ar.keepM rfl (fun h j hj => upd_on (h j hj)), hR.f0.keep rfl, hR.f1.keep rfl, hR.f2.keep rfl, hR.f3.keep rfl, hR.f4.keep rfl, hR.f5.keep rfl, hR.f6.keep rfl, (fun _ => rfl), (fun _ => rfl), hR.f9.keep rfl, hR.f10.keep rfl, hR.f11.keep rfl, hR.f12.keep rfl, hR.f13.keep rfl, hR.f14.keep rfl, hR.f15.keep rfl, hR.f16.keep rfl, hR.f17.keep rfl, hR.f18.keep rfl, hR.f19.keep rfl, hR.f20.keep rfl, hR.f21.keep rfl, hR.f22.keep rfl, hR.f23.keep rfl, hR.f24.keep rfl, hR.f25.keep rfl, hR.f26.keep rfl, hR.f27.keep rfl, hR.f28.keep rfl, hR.f29.keep rfl, hR.f30.keep rfl, hR.f31.keep rfl, hR.f32.keep rfl, hR.f33.keep rfl, hR.f34.keep rfl, hR.f35.keep rfl, hR.f36.keep rfl, hR.f37.keep rfl, hR.f38.keep rfl, hR.f39.keep rfl, hR.f40.keep rfl, hR.f41.keep rfl, hR.f42.keep rfl, hR.f43.keep rfl, hR.f44.keep rfl, hR.f45.keep rfl, hR.f46.keep rfl, hR.f48.keep rfl, hR.b20.keep rfl, hR.b42.keep rfl, hR.n20_42.keep rfl rfl⟩⟩
    refine EachOf.cons [6, 8] rfl (by kernel_rfl) ?_ ?_
    · rintro L A W ⟨v, g, rfl, hR⟩ hi hw K hK
      have hk : L 47 = false := hR.ar.not hi rfl
      have e6 := hR.f6 (hw 6 (by simp))
      have e8 := hR.f8 (hw 8 (by simp))
      simp only [e6, e8]
      clear e6 e8
      go_simp
      go_at_call 37
      (with_reducible refine ((Q2 _).out).mono ?_)
      rintro e w2 ⟨rfl, hb⟩
      go_simp
      refine hK.out _ _ ?_
      exact ⟨(fun jz => if jz = 15 then .int .i64 al else if jz = 17 then .int .i64 bh else if jz = 18 then .int .i64 k2 else v jz), g, rfl, ⟨(fun _ => below_on (hR.st hk) hb), (fun h => absurd (upd_back h rfl) (by simp [hk])), hR.ar.keepM rfl (fun h j hj => upd_on (h j hj)), hR.f0.keep rfl, hR.f1.keep rfl, hR.f2.keep rfl, hR.f3.keep rfl, hR.f4.keep rfl, hR.f5.keep rfl, (fun _ => rfl), hR.f7.keep rfl, (fun _ => rfl), (fun _ => rfl), hR.f10.keep rfl, hR.f11.keep rfl, hR.f12.keep rfl, hR.f13.keep rfl, hR.f14.keep rfl, hR.f15.keep rfl, hR.f16.keep rfl, hR.f17.keep rfl, hR.f18.keep rfl, hR.f19.keep rfl, hR.f20.keep rfl, hR.f21.keep rfl, hR.f22.keep rfl, hR.f23.keep rfl, hR.f24.keep rfl, hR.f25.keep rfl, hR.f26.keep rfl, hR.f27.keep rfl, hR.f28.keep rfl, hR.f29.keep rfl, hR.f30.keep rfl, hR.f31.keep rfl, hR.f32.keep rfl, hR.f33.keep rfl, hR.f34.keep rfl, hR.f35.keep rfl, hR.f36.keep rfl, hR.f37.keep rfl, hR.f38.keep rfl, hR.f39.keep rfl, hR.f40.keep rfl, hR.f41.keep rfl, hR.f42.keep rfl, hR.f43.keep rfl, hR.f44.keep rfl, hR.f45.keep rfl, hR.f46.keep rfl, hR.f48.keep rfl, hR.b20.keepM rfl (fun h => ⟨h.1, h.2.on hb⟩), hR.b42.keepM rfl (fun h => ⟨h.1, h.2.on hb⟩), hR.n20_42.keep rfl rfl⟩⟩
    refine EachOf.cons [] rfl (by kernel_rfl) ?_ ?_
    · rintro L A W ⟨v, g, rfl, hR⟩ hi hw K hK
      have hk : L 47 = false := hR.ar.not hi rfl
      go_simp
      refine hK.out _ _ ?_
      exact ⟨(fun jz => if jz = 19 then .pointer (some ⟨w.heap.size, 1, none⟩) else v jz), g, rfl, ⟨(fun h => hR.st (upd_false h)), hR.sr.keep rfl, hR.ar.keepM rfl (fun h j hj => upd_on (h j hj)), hR.f0.keep rfl, hR.f1.keep rfl, hR.f2.keep rfl, hR.f3.keep rfl, hR.f4.keep rfl, hR.f5.keep rfl, hR.f6.keep rfl, hR.f7.keep rfl, hR.f8.keep rfl, hR.f9.keep rfl, (fun _ => rfl), hR.f11.keep rfl, hR.f12.keep rfl, hR.f13.keep rfl, hR.f14.keep rfl, hR.f15.keep rfl, hR.f16.keep rfl, hR.f17.keep rfl, hR.f18.keep rfl, hR.f19.keep rfl, hR.f20.keep rfl, hR.f21.keep rfl, hR.f22.keep rfl, hR.f23.keep rfl, hR.f24.keep rfl, hR.f25.keep rfl, hR.f26.keep rfl, hR.f27.keep rfl, hR.f28.keep rfl, hR.f29.keep rfl, hR.f30.keep rfl, hR.f31.keep rfl, hR.f32.keep rfl, hR.f33.keep rfl, hR.f34.keep rfl, hR.f35.keep rfl, hR.f36.keep rfl, hR.f37.keep rfl, hR.f38.keep rfl, hR.f39.keep rfl, hR.f40.keep rfl, hR.f41.keep rfl, hR.f42.keep rfl, hR.f43.keep rfl, hR.f44.keep rfl, hR.f45.keep rfl, hR.f46.keep rfl, hR.f48.keep rfl, hR.b20.keep rfl, hR.b42.keep rfl, hR.n20_42.keep rfl rfl⟩⟩
    refine EachOf.cons [10] rfl (by kernel_rfl) ?_ ?_
    · rintro L A W ⟨v, g, rfl, hR⟩ hi hw K hK
      have hk : L 47 = false := hR.ar.not hi rfl
      have e10 := hR.f10 (hw 10 (by simp))
      simp only [e10]
      clear e10
      obtain ⟨_, q0, q1⟩ := HA.out.on (hR.st hk)
      go_simp
      refine hK.out _ _ ?_
      exact ⟨(fun jz => if jz = 19 then .pointer (some ⟨w.heap.size, 1, none⟩) else if jz = 20 then .int .i64 ah else v jz), g, rfl, ⟨(fun h => hR.st (upd_false h)), hR.sr.keep rfl, hR.ar.keepM rfl (fun h j hj => upd_on (h j hj)), hR.f0.keep rfl, hR.f1.keep rfl, hR.f2.keep rfl, hR.f3.keep rfl, hR.f4.keep rfl, hR.f5.keep rfl, hR.f6.keep rfl, hR.f7.keep rfl, hR.f8.keep rfl, hR.f9.keep rfl, (fun _ => rfl), (fun _ => rfl), hR.f12.keep rfl, hR.f13.keep rfl, hR.f14.keep rfl, hR.f15.keep rfl, hR.f16.keep rfl, hR.f17.keep rfl, hR.f18.keep rfl, hR.f19.keep rfl, hR.f20.keep rfl, hR.f21.keep rfl, hR.f22.keep rfl, hR.f23.keep rfl, hR.f24.keep rfl, hR.f25.keep rfl, hR.f26.keep rfl, hR.f27.keep rfl, hR.f28.keep rfl, hR.f29.keep rfl, hR.f30.keep rfl, hR.f31.keep rfl, hR.f32.keep rfl, hR.f33.keep rfl, hR.f34.keep rfl, hR.f35.keep rfl, hR.f36.keep rfl, hR.f37.keep rfl, hR.f38.keep rfl, hR.f39.keep rfl, hR.f40.keep rfl, hR.f41.keep rfl, hR.f42.keep rfl, hR.f43.keep rfl, hR.f44.keep rfl, hR.f45.keep rfl, hR.f46.keep rfl, hR.f48.keep rfl, hR.b20.keep rfl, hR.b42.keep rfl, hR.n20_42.keep rfl rfl⟩⟩
    refine EachOf.cons [] rfl (by kernel_rfl) ?_ ?_
    · rintro L A W ⟨v, g, rfl, hR⟩ hi hw K hK
      have hk : L 47 = false := hR.ar.not hi rfl
      go_simp
      refine hK.out _ _ ?_
      exact ⟨(fun jz => if jz = 21 then .pointer (some ⟨w.heap.size + 1, 0, none⟩) else v jz), g, rfl, ⟨(fun h => hR.st (upd_false h)), hR.sr.keep rfl, hR.ar.keepM rfl (fun h j hj => upd_on (h j hj)), hR.f0.keep rfl, hR.f1.keep rfl, hR.f2.keep rfl, hR.f3.keep rfl, hR.f4.keep rfl, hR.f5.keep rfl, hR.f6.keep rfl, hR.f7.keep rfl, hR.f8.keep rfl, hR.f9.keep rfl, hR.f10.keep rfl, hR.f11.keep rfl, (fun _ => rfl), hR.f13.keep rfl, hR.f14.keep rfl, hR.f15.keep rfl, hR.f16.keep rfl, hR.f17.keep rfl, hR.f18.keep rfl, hR.f19.keep rfl, hR.f20.keep rfl, hR.f21.keep rfl, hR.f22.keep rfl, hR.f23.keep rfl, hR.f24.keep rfl, hR.f25.keep rfl, hR.f26.keep rfl, hR.f27.keep rfl, hR.f28.keep rfl, hR.f29.keep rfl, hR.f30.keep rfl, hR.f31.keep rfl, hR.f32.keep rfl, hR.f33.keep rfl, hR.f34.keep rfl, hR.f35.keep rfl, hR.f36.keep rfl, hR.f37.keep rfl, hR.f38.keep rfl, hR.f39.keep rfl, hR.f40.keep rfl, hR.f41.keep rfl, hR.f42.keep rfl, hR.f43.keep rfl, hR.f44.keep rfl, hR.f45.keep rfl, hR.f46.keep rfl, hR.f48.keep rfl, hR.b20.keep rfl, hR.b42.keep rfl, hR.n20_42.keep rfl rfl⟩⟩
    refine EachOf.cons [12] rfl (by kernel_rfl) ?_ ?_
    · rintro L A W ⟨v, g, rfl, hR⟩ hi hw K hK
      have hk : L 47 = false := hR.ar.not hi rfl
      have e12 := hR.f12 (hw 12 (by simp))
      simp only [e12]
      clear e12
      obtain ⟨_, q0, q1⟩ := HB.out.on (hR.st hk)
      go_simp
      refine hK.out _ _ ?_
      exact ⟨(fun jz => if jz = 21 then .pointer (some ⟨w.heap.size + 1, 0, none⟩) else if jz = 22 then .int .i64 bl else v jz), g, rfl, ⟨(fun h => hR.st (upd_false h)), hR.sr.keep rfl, hR.ar.keepM rfl (fun h j hj => upd_on (h j hj)), hR.f0.keep rfl, hR.f1.keep rfl, hR.f2.keep rfl, hR.f3.keep rfl, hR.f4.keep rfl, hR.f5.keep rfl, hR.f6.keep rfl, hR.f7.keep rfl, hR.f8.keep rfl, hR.f9.keep rfl, hR.f10.keep rfl, hR.f11.keep rfl, (fun _ => rfl), (fun _ => rfl), hR.f14.keep rfl, hR.f15.keep rfl, hR.f16.keep rfl, hR.f17.keep rfl, hR.f18.keep rfl, hR.f19.keep rfl, hR.f20.keep rfl, hR.f21.keep rfl, hR.f22.keep rfl, hR.f23.keep rfl, hR.f24.keep rfl, hR.f25.keep rfl, hR.f26.keep rfl, hR.f27.keep rfl, hR.f28.keep rfl, hR.f29.keep rfl, hR.f30.keep rfl, hR.f31.keep rfl, hR.f32.keep rfl, hR.f33.keep rfl, hR.f34.keep rfl, hR.f35.keep rfl, hR.f36.keep rfl, hR.f37.keep rfl, hR.f38.keep rfl, hR.f39.keep rfl, hR.f40.keep rfl, hR.f41.keep rfl, hR.f42.keep rfl, hR.f43.keep rfl, hR.f44.keep rfl, hR.f45.keep rfl, hR.f46.keep rfl, hR.f48.keep rfl, hR.b20.keep rfl, hR.b42.keep rfl, hR.n20_42.keep rfl rfl⟩⟩
    refine EachOf.cons [11, 13] rfl (by kernel_rfl) ?_ ?_
    · rintro L A W ⟨v, g, rfl, hR⟩ hi hw K hK
      have hk : L 47 = false := hR.ar.not hi rfl
      have e11 := hR.f11 (hw 11 (by simp))
      have e13 := hR.f13 (hw 13 (by simp))
      simp only [e11, e13]
      clear e11 e13
      go_simp
      go_at_call 37
      (with_reducible refine ((Q3 _).out).mono ?_)
      rintro e w2 ⟨rfl, hb⟩
      go_simp
      refine hK.out _ _ ?_
      exact ⟨(fun jz => if jz = 20 then .int .i64 ah else if jz = 22 then .int .i64 bl else if jz = 23 then .int .i64 k3 else v jz), g, rfl, ⟨(fun _ => below_on (hR.st hk) hb), (fun h => absurd (upd_back h rfl) (by simp [hk])), hR.ar.keepM rfl (fun h j hj => upd_on (h j hj)), hR.f0.keep rfl, hR.f1.keep rfl, hR.f2.keep rfl, hR.f3.keep rfl, hR.f4.keep rfl, hR.f5.keep rfl, hR.f6.keep rfl, hR.f7.keep rfl, hR.f8.keep rfl, hR.f9.keep rfl, hR.f10.keep rfl, (fun _ => rfl), hR.f12.keep rfl, (fun _ => rfl), (fun _ => rfl), hR.f15.keep rfl, hR.f16.keep rfl, hR.f17.keep rfl, hR.f18.keep rfl, hR.f19.keep rfl, hR.f20.keep rfl, hR.f21.keep rfl, hR.f22.keep rfl, hR.f23.keep rfl, hR.f24.keep rfl, hR.f25.keep rfl, hR.f26.keep rfl, hR.f27.keep rfl, hR.f28.keep rfl, hR.f29.keep rfl, hR.f30.keep rfl, hR.f31.keep rfl, hR.f32.keep rfl, hR.f33.keep rfl, hR.f34.keep rfl, hR.f35.keep rfl, hR.f36.keep rfl, hR.f37.keep rfl, hR.f38.keep rfl, hR.f39.keep rfl, hR.f40.keep rfl, hR.f41.keep rfl, hR.f42.keep rfl, hR.f43.keep rfl, hR.f44.keep rfl, hR.f45.keep rfl, hR.f46.keep rfl, hR.f48.keep rfl, hR.b20.keepM rfl (fun h => ⟨h.1, h.2.on hb⟩), hR.b42.keepM rfl (fun h => ⟨h.1, h.2.on hb⟩), hR.n20_42.keep rfl rfl⟩⟩
    refine EachOf.cons [] rfl (by kernel_rfl) ?_ ?_
    · rintro L A W ⟨v, g, rfl, hR⟩ hi hw K hK
      have hk : L 47 = false := hR.ar.not hi rfl
      go_simp
      refine hK.out _ _ ?_
      exact ⟨(fun jz => if jz = 24 then .pointer (some ⟨w.heap.size, 1, none⟩) else v jz), g, rfl, ⟨(fun h => hR.st (upd_false h)), hR.sr.keep rfl, hR.ar.keepM rfl (fun h j hj => upd_on (h j hj)), hR.f0.keep rfl, hR.f1.keep rfl, hR.f2.keep rfl, hR.f3.keep rfl, hR.f4.keep rfl, hR.f5.keep rfl, hR.f6.keep rfl, hR.f7.keep rfl, hR.f8.keep rfl, hR.f9.keep rfl, hR.f10.keep rfl, hR.f11.keep rfl, hR.f12.keep rfl, hR.f13.keep rfl, hR.f14.keep rfl, (fun _ => rfl), hR.f16.keep rfl, hR.f17.keep rfl, hR.f18.keep rfl, hR.f19.keep rfl, hR.f20.keep rfl, hR.f21.keep rfl, hR.f22.keep rfl, hR.f23.keep rfl, hR.f24.keep rfl, hR.f25.keep rfl, hR.f26.keep rfl, hR.f27.keep rfl, hR.f28.keep rfl, hR.f29.keep rfl, hR.f30.keep rfl, hR.f31.keep rfl, hR.f32.keep rfl, hR.f33.keep rfl, hR.f34.keep rfl, hR.f35.keep rfl, hR.f36.keep rfl, hR.f37.keep rfl, hR.f38.keep rfl, hR.f39.keep rfl, hR.f40.keep rfl, hR.f41.keep rfl, hR.f42.keep rfl, hR.f43.keep rfl, hR.f44.keep rfl, hR.f45.keep rfl, hR.f46.keep rfl, hR.f48.keep rfl, hR.b20.keep rfl, hR.b42.keep rfl, hR.n20_42.keep rfl rfl⟩⟩
    refine EachOf.cons [15] rfl (by kernel_rfl) ?_ ?_
    · rintro L A W ⟨v, g, rfl, hR⟩ hi hw K hK
      have hk : L 47 = false := hR.ar.not hi rfl
      have e15 := hR.f15 (hw 15 (by simp))
      simp only [e15]
      clear e15
      obtain ⟨_, q0, q1⟩ := HA.out.on (hR.st hk)
      go_simp
      refine hK.out _ _ ?_
      exact ⟨(fun jz => if jz = 24 then .pointer (some ⟨w.heap.size, 1, none⟩) else if jz = 25 then .int .i64 ah else v jz), g, rfl, ⟨(fun h => hR.st (upd_false h)), hR.sr.keep rfl, hR.ar.keepM rfl (fun h j hj => upd_on (h j hj)), hR.f0.keep rfl, hR.f1.keep rfl, hR.f2.keep rfl, hR.f3.keep rfl, hR.f4.keep rfl, hR.f5.keep rfl, hR.f6.keep rfl, hR.f7.keep rfl, hR.f8.keep rfl, hR.f9.keep rfl, hR.f10.keep rfl, hR.f11.keep rfl, hR.f12.keep rfl, hR.f13.keep rfl, hR.f14.keep rfl, (fun _ => rfl), (fun _ => rfl), hR.f17.keep rfl, hR.f18.keep rfl, hR.f19.keep rfl, hR.f20.keep rfl, hR.f21.keep rfl, hR.f22.keep rfl, hR.f23.keep rfl, hR.f24.keep rfl, hR.f25.keep rfl, hR.f26.keep rfl, hR.f27.keep rfl, hR.f28.keep rfl, hR.f29.keep rfl, hR.f30.keep rfl, hR.f31.keep rfl, hR.f32.keep rfl, hR.f33.keep rfl, hR.f34.keep rfl, hR.f35.keep rfl, hR.f36.keep rfl, hR.f37.keep rfl, hR.f38.keep rfl, hR.f39.keep rfl, hR.f40.keep rfl, hR.f41.keep rfl, hR.f42.keep rfl, hR.f43.keep rfl, hR.f44.keep rfl, hR.f45.keep rfl, hR.f46.keep rfl, hR.f48.keep rfl, hR.b20.keep rfl, hR.b42.keep rfl, hR.n20_42.keep rfl rfl⟩⟩
    refine EachOf.cons [] rfl (by kernel_rfl) ?_ ?_
    · rintro L A W ⟨v, g, rfl, hR⟩ hi hw K hK
      have hk : L 47 = false := hR.ar.not hi rfl
      go_simp
      refine hK.out _ _ ?_
      exact ⟨(fun jz => if jz = 26 then .pointer (some ⟨w.heap.size + 1, 1, none⟩) else v jz), g, rfl, ⟨(fun h => hR.st (upd_false h)), hR.sr.keep rfl, hR.ar.keepM rfl (fun h j hj => upd_on (h j hj)), hR.f0.keep rfl, hR.f1.keep rfl, hR.f2.keep rfl, hR.f3.keep rfl, hR.f4.keep rfl, hR.f5.keep rfl, hR.f6.keep rfl, hR.f7.keep rfl, hR.f8.keep rfl, hR.f9.keep rfl, hR.f10.keep rfl, hR.f11.keep rfl, hR.f12.keep rfl, hR.f13.keep rfl, hR.f14.keep rfl, hR.f15.keep rfl, hR.f16.keep rfl, (fun _ => rfl), hR.f18.keep rfl, hR.f19.keep rfl, hR.f20.keep rfl, hR.f21.keep rfl, hR.f22.keep rfl, hR.f23.keep rfl, hR.f24.keep rfl, hR.f25.keep rfl, hR.f26.keep rfl, hR.f27.keep rfl, hR.f28.keep rfl, hR.f29.keep rfl, hR.f30.keep rfl, hR.f31.keep rfl, hR.f32.keep rfl, hR.f33.keep rfl, hR.f34.keep rfl, hR.f35.keep rfl, hR.f36.keep rfl, hR.f37.keep rfl, hR.f38.keep rfl, hR.f39.keep rfl, hR.f40.keep rfl, hR.f41.keep rfl, hR.f42.keep rfl, hR.f43.keep rfl, hR.f44.keep rfl, hR.f45.keep rfl, hR.f46.keep rfl, hR.f48.keep rfl, hR.b20.keep rfl, hR.b42.keep rfl, hR.n20_42.keep rfl rfl⟩⟩
    refine EachOf.cons [17] rfl (by kernel_rfl) ?_ ?_
    · rintro L A W ⟨v, g, rfl, hR⟩ hi hw K hK
      have hk : L 47 = false := hR.ar.not hi rfl
      have e17 := hR.f17 (hw 17 (by simp))
      simp only [e17]
      clear e17
      obtain ⟨_, q0, q1⟩ := HB.out.on (hR.st hk)
      go_simp
      refine hK.out _ _ ?_
      exact ⟨(fun jz => if jz = 26 then .pointer (some ⟨w.heap.size + 1, 1, none⟩) else if jz = 27 then .int .i64 bh else v jz), g, rfl, ⟨(fun h => hR.st (upd_false h)), hR.sr.keep rfl, hR.ar.keepM rfl (fun h j hj => upd_on (h j hj)), hR.f0.keep rfl, hR.f1.keep rfl, hR.f2.keep rfl, hR.f3.keep rfl, hR.f4.keep rfl, hR.f5.keep rfl, hR.f6.keep rfl, hR.f7.keep rfl, hR.f8.keep rfl, hR.f9.keep rfl, hR.f10.keep rfl, hR.f11.keep rfl, hR.f12.keep rfl, hR.f13.keep rfl, hR.f14.keep rfl, hR.f15.keep rfl, hR.f16.keep rfl, (fun _ => rfl), (fun _ => rfl), hR.f19.keep rfl, hR.f20.keep rfl, hR.f21.keep rfl, hR.f22.keep rfl, hR.f23.keep rfl, hR.f24.keep rfl, hR.f25.keep rfl, hR.f26.keep rfl, hR.f27.keep rfl, hR.f28.keep rfl, hR.f29.keep rfl, hR.f30.keep rfl, hR.f31.keep rfl, hR.f32.keep rfl, hR.f33.keep rfl, hR.f34.keep rfl, hR.f35.keep rfl, hR.f36.keep rfl, hR.f37.keep rfl, hR.f38.keep rfl, hR.f39.keep rfl, hR.f40.keep rfl, hR.f41.keep rfl, hR.f42.keep rfl, hR.f43.keep rfl, hR.f44.keep rfl, hR.f45.keep rfl, hR.f46.keep rfl, hR.f48.keep rfl, hR.b20.keep rfl, hR.b42.keep rfl, hR.n20_42.keep rfl rfl⟩⟩
    refine EachOf.cons [16, 18] rfl (by kernel_rfl) ?_ ?_
    · rintro L A W ⟨v, g, rfl, hR⟩ hi hw K hK
      have hk : L 47 = false := hR.ar.not hi rfl
      have e16 := hR.f16 (hw 16 (by simp))
      have e18 := hR.f18 (hw 18 (by simp))
      simp only [e16, e18]
      clear e16 e18
      go_simp
      go_at_call 37
      (with_reducible refine ((Q4 _).out).mono ?_)
      rintro e w2 ⟨rfl, hb⟩
      go_simp
      refine hK.out _ _ ?_
      exact ⟨(fun jz => if jz = 25 then .int .i64 ah else if jz = 27 then .int .i64 bh else if jz = 28 then .int .i64 k4 else v jz), g, rfl, ⟨(fun _ => below_on (hR.st hk) hb), (fun h => absurd (upd_back h rfl) (by simp [hk])), hR.ar.keepM rfl (fun h j hj => upd_on (h j hj)), hR.f0.keep rfl, hR.f1.keep rfl, hR.f2.keep rfl, hR.f3.keep rfl, hR.f4.keep rfl, hR.f5.keep rfl, hR.f6.keep rfl, hR.f7.keep rfl, hR.f8.keep rfl, hR.f9.keep rfl, hR.f10.keep rfl, hR.f11.keep rfl, hR.f12.keep rfl, hR.f13.keep rfl, hR.f14.keep rfl, hR.f15.keep rfl, (fun _ => rfl), hR.f17.keep rfl, (fun _ => rfl), (fun _ => rfl), hR.f20.keep rfl, hR.f21.keep rfl, hR.f22.keep rfl, hR.f23.keep rfl, hR.f24.keep rfl, hR.f25.keep rfl, hR.f26.keep rfl, hR.f27.keep rfl, hR.f28.keep rfl, hR.f29.keep rfl, hR.f30.keep rfl, hR.f31.keep rfl, hR.f32.keep rfl, hR.f33.keep rfl, hR.f34.keep rfl, hR.f35.keep rfl, hR.f36.keep rfl, hR.f37.keep rfl, hR.f38.keep rfl, hR.f39.keep rfl, hR.f40.keep rfl, hR.f41.keep rfl, hR.f42.keep rfl, hR.f43.keep rfl, hR.f44.keep rfl, hR.f45.keep rfl, hR.f46.keep rfl, hR.f48.keep rfl, hR.b20.keepM rfl (fun h => ⟨h.1, h.2.on hb⟩), hR.b42.keepM rfl (fun h => ⟨h.1, h.2.on hb⟩), hR.n20_42.keep rfl rfl⟩⟩
    refine EachOf.cons [4, 9, 14, 19] rfl (by kernel_rfl) ?_ ?_
    · rintro L A W ⟨v, g, rfl, hR⟩ hi hw K hK
      have hk : L 47 = false := hR.ar.not hi rfl
      have e4 := hR.f4 (hw 4 (by simp))
      have e9 := hR.f9 (hw 9 (by simp))
      have e14 := hR.f14 (hw 14 (by simp))
      have e19 := hR.f19 (hw 19 (by simp))
      simp only [e4, e9, e14, e19]
      clear e4 e9 e14 e19
      have hz := (hR.st hk).size
      go_simp
      refine hK.out _ _ ?_
      have hb : Below W.heap.size W (W.alloc (Obj.cells #[Value.int .i64 k1, Value.int .i64 k2, Value.int .i64 k3, Value.int .i64 k4] 3)) := (Below.refl _ _).alloc (Nat.le_refl _) _
      have hrow : Row (W.alloc (Obj.cells #[Value.int .i64 k1, Value.int .i64 k2, Value.int .i64 k3, Value.int .i64 k4] 3)) W.heap.size [.int .i64 k1, .int .i64 k2, .int .i64 k3, .int .i64 k4] := row4 _ _ _ _ _ _
      exact ⟨(fun jz => if jz = 13 then .int .i64 k1 else if jz = 18 then .int .i64 k2 else if jz = 23 then .int .i64 k3 else if jz = 28 then .int .i64 k4 else if jz = 29 then .slice (some ⟨W.heap.size, 0, none⟩) 4 4 else v jz), (fun jz => if jz = 20 then W.heap.size else g jz), rfl, ⟨(fun _ => below_on (hR.st hk) hb), (fun h => absurd (upd_back h rfl) (by simp [hk])), hR.ar.keepM rfl (fun h j hj => upd_on (h j hj)), hR.f0.keep rfl, hR.f1.keep rfl, hR.f2.keep rfl, hR.f3.keep rfl, (fun _ => rfl), hR.f5.keep rfl, hR.f6.keep rfl, hR.f7.keep rfl, hR.f8.keep rfl, (fun _ => rfl), hR.f10.keep rfl, hR.f11.keep rfl, hR.f12.keep rfl, hR.f13.keep rfl, (fun _ => rfl), hR.f15.keep rfl, hR.f16.keep rfl, hR.f17.keep rfl, hR.f18.keep rfl, (fun _ => rfl), (fun _ => rfl), hR.f21.keep rfl, hR.f22.keep rfl, hR.f23.keep rfl, hR.f24.keep rfl, hR.f25.keep rfl, hR.f26.keep rfl, hR.f27.keep rfl, hR.f28.keep rfl, hR.f29.keep rfl, hR.f30.keep rfl, hR.f31.keep rfl, hR.f32.keep rfl, hR.f33.keep rfl, hR.f34.keep rfl, hR.f35.keep rfl, hR.f36.keep rfl, hR.f37.keep rfl, hR.f38.keep rfl, hR.f39.keep rfl, hR.f40.keep rfl, hR.f41.keep rfl, hR.f42.keep rfl, hR.f43.keep rfl, hR.f44.keep rfl, hR.f45.keep rfl, hR.f46.keep rfl, hR.f48.keep rfl, (fun _ => ⟨hz, hrow⟩), hR.b42.keepM rfl (fun h => ⟨h.1, h.2.on hb⟩), (fun _ h => by have h1 := (hR.b42 (upd_back h rfl)).2.1; exact Nat.ne_of_gt h1)⟩⟩
    refine EachOf.cons [20] rfl (by kernel_rfl) ?_ ?_
    · rintro L A W ⟨v, g, rfl, hR⟩ hi hw K hK
      have hk : L 47 = false := hR.ar.not hi rfl
      have e20 := hR.f20 (hw 20 (by simp))
      simp only [e20]
      clear e20
      have hrw := (hR.b20 (hw 20 (by simp))).2
      go_simp
      go_at_call 48
      (with_reducible refine ((LE _ _ hrw).out).mono ?_)
      rintro e w2 ⟨rfl, rfl⟩
      go_simp
      refine hK.out _ _ ?_
      exact ⟨(fun jz => if jz = 29 then .slice (some ⟨g 20, 0, none⟩) 4 4 else if jz = 30 then .int .i64 tl else v jz), g, rfl, ⟨(fun h => hR.st (upd_false h)), hR.sr.keep rfl, hR.ar.keepM rfl (fun h j hj => upd_on (h j hj)), hR.f0.keep rfl, hR.f1.keep rfl, hR.f2.keep rfl, hR.f3.keep rfl, hR.f4.keep rfl, hR.f5.keep rfl, hR.f6.keep rfl, hR.f7.keep rfl, hR.f8.keep rfl, hR.f9.keep rfl, hR.f10.keep rfl, hR.f11.keep rfl, hR.f12.keep rfl, hR.f13.keep rfl, hR.f14.keep rfl, hR.f15.keep rfl, hR.f16.keep rfl, hR.f17.keep rfl, hR.f18.keep rfl, hR.f19.keep rfl, (fun _ => rfl), (fun _ => rfl), hR.f22.keep rfl, hR.f23.keep rfl, hR.f24.keep rfl, hR.f25.keep rfl, hR.f26.keep rfl, hR.f27.keep rfl, hR.f28.keep rfl, hR.f29.keep rfl, hR.f30.keep rfl, hR.f31.keep rfl, hR.f32.keep rfl, hR.f33.keep rfl, hR.f34.keep rfl, hR.f35.keep rfl, hR.f36.keep rfl, hR.f37.keep rfl, hR.f38.keep rfl, hR.f39.keep rfl, hR.f40.keep rfl, hR.f41.keep rfl, hR.f42.keep rfl, hR.f43.keep rfl, hR.f44.keep rfl, hR.f45.keep rfl, hR.f46.keep rfl, hR.f48.keep rfl, hR.b20.keep rfl, hR.b42.keep rfl, hR.n20_42.keep rfl rfl⟩⟩
    refine EachOf.cons [] rfl (by kernel_rfl) ?_ ?_
    · rintro L A W ⟨v, g, rfl, hR⟩ hi hw K hK
      have hk : L 47 = false := hR.ar.not hi rfl
      go_simp
      refine hK.out _ _ ?_
      exact ⟨(fun jz => if jz = 31 then .pointer (some ⟨w.heap.size, 0, none⟩) else v jz), g, rfl, ⟨(fun h => hR.st (upd_false h)), hR.sr.keep rfl, hR.ar.keepM rfl (fun h j hj => upd_on (h j hj)), hR.f0.keep rfl, hR.f1.keep rfl, hR.f2.keep rfl, hR.f3.keep rfl, hR.f4.keep rfl, hR.f5.keep rfl, hR.f6.keep rfl, hR.f7.keep rfl, hR.f8.keep rfl, hR.f9.keep rfl, hR.f10.keep rfl, hR.f11.keep rfl, hR.f12.keep rfl, hR.f13.keep rfl, hR.f14.keep rfl, hR.f15.keep rfl, hR.f16.keep rfl, hR.f17.keep rfl, hR.f18.keep rfl, hR.f19.keep rfl, hR.f20.keep rfl, hR.f21.keep rfl, (fun _ => rfl), hR.f23.keep rfl, hR.f24.keep rfl, hR.f25.keep rfl, hR.f26.keep rfl, hR.f27.keep rfl, hR.f28.keep rfl, hR.f29.keep rfl, hR.f30.keep rfl, hR.f31.keep rfl, hR.f32.keep rfl, hR.f33.keep rfl, hR.f34.keep rfl, hR.f35.keep rfl, hR.f36.keep rfl, hR.f37.keep rfl, hR.f38.keep rfl, hR.f39.keep rfl, hR.f40.keep rfl, hR.f41.keep rfl, hR.f42.keep rfl, hR.f43.keep rfl, hR.f44.keep rfl, hR.f45.keep rfl, hR.f46.keep rfl, hR.f48.keep rfl, hR.b20.keep rfl, hR.b42.keep rfl, hR.n20_42.keep rfl rfl⟩⟩
    refine EachOf.cons [22] rfl (by kernel_rfl) ?_ ?_
    · rintro L A W ⟨v, g, rfl, hR⟩ hi hw K hK
      have hk : L 47 = false := hR.ar.not hi rfl
      have e22 := hR.f22 (hw 22 (by simp))
      simp only [e22]
      clear e22
      obtain ⟨_, q0, q1⟩ := HA.out.on (hR.st hk)
      go_simp
      refine hK.out _ _ ?_
      exact ⟨(fun jz => if jz = 31 then .pointer (some ⟨w.heap.size, 0, none⟩) else if jz = 32 then .int .i64 al else v jz), g, rfl, ⟨(fun h => hR.st (upd_false h)), hR.sr.keep rfl, hR.ar.keepM rfl (fun h j hj => upd_on (h j hj)), hR.f0.keep rfl, hR.f1.keep rfl, hR.f2.keep rfl, hR.f3.keep rfl, hR.f4.keep rfl, hR.f5.keep rfl, hR.f6.keep rfl, hR.f7.keep rfl, hR.f8.keep rfl, hR.f9.keep rfl, hR.f10.keep rfl, hR.f11.keep rfl, hR.f12.keep rfl, hR.f13.keep rfl, hR.f14.keep rfl, hR.f15.keep rfl, hR.f16.keep rfl, hR.f17.keep rfl, hR.f18.keep rfl, hR.f19.keep rfl, hR.f20.keep rfl, hR.f21.keep rfl, (fun _ => rfl), (fun _ => rfl), hR.f24.keep rfl, hR.f25.keep rfl, hR.f26.keep rfl, hR.f27.keep rfl, hR.f28.keep rfl, hR.f29.keep rfl, hR.f30.keep rfl, hR.f31.keep rfl, hR.f32.keep rfl, hR.f33.keep rfl, hR.f34.keep rfl, hR.f35.keep rfl, hR.f36.keep rfl, hR.f37.keep rfl, hR.f38.keep rfl, hR.f39.keep rfl, hR.f40.keep rfl, hR.f41.keep rfl, hR.f42.keep rfl, hR.f43.keep rfl, hR.f44.keep rfl, hR.f45.keep rfl, hR.f46.keep rfl, hR.f48.keep rfl, hR.b20.keep rfl, hR.b42.keep rfl, hR.n20_42.keep rfl rfl⟩⟩
    refine EachOf.cons [] rfl (by kernel_rfl) ?_ ?_
    · rintro L A W ⟨v, g, rfl, hR⟩ hi hw K hK
      have hk : L 47 = false := hR.ar.not hi rfl
      go_simp
      refine hK.out _ _ ?_
      exact ⟨(fun jz => if jz = 33 then .pointer (some ⟨w.heap.size + 1, 0, none⟩) else v jz), g, rfl, ⟨(fun h => hR.st (upd_false h)), hR.sr.keep rfl, hR.ar.keepM rfl (fun h j hj => upd_on (h j hj)), hR.f0.keep rfl, hR.f1.keep rfl, hR.f2.keep rfl, hR.f3.keep rfl, hR.f4.keep rfl, hR.f5.keep rfl, hR.f6.keep rfl, hR.f7.keep rfl, hR.f8.keep rfl, hR.f9.keep rfl, hR.f10.keep rfl, hR.f11.keep rfl, hR.f12.keep rfl, hR.f13.keep rfl, hR.f14.keep rfl, hR.f15.keep rfl, hR.f16.keep rfl, hR.f17.keep rfl, hR.f18.keep rfl, hR.f19.keep rfl, hR.f20.keep rfl, hR.f21.keep rfl, hR.f22.keep rfl, hR.f23.keep rfl, (fun _ => rfl), hR.f25.keep rfl, hR.f26.keep rfl, hR.f27.keep rfl, hR.f28.keep rfl, hR.f29.keep rfl, hR.f30.keep rfl, hR.f31.keep rfl, hR.f32.keep rfl, hR.f33.keep rfl, hR.f34.keep rfl, hR.f35.keep rfl, hR.f36.keep rfl, hR.f37.keep rfl, hR.f38.keep rfl, hR.f39.keep rfl, hR.f40.keep rfl, hR.f41.keep rfl, hR.f42.keep rfl, hR.f43.keep rfl, hR.f44.keep rfl, hR.f45.keep rfl, hR.f46.keep rfl, hR.f48.keep rfl, hR.b20.keep rfl, hR.b42.keep rfl, hR.n20_42.keep rfl rfl⟩⟩
    refine EachOf.cons [24] rfl (by kernel_rfl) ?_ ?_
    · rintro L A W ⟨v, g, rfl, hR⟩ hi hw K hK
      have hk : L 47 = false := hR.ar.not hi rfl
      have e24 := hR.f24 (hw 24 (by simp))
      simp only [e24]
      clear e24
      obtain ⟨_, q0, q1⟩ := HB.out.on (hR.st hk)
      go_simp
      refine hK.out _ _ ?_
      exact ⟨(fun jz => if jz = 33 then .pointer (some ⟨w.heap.size + 1, 0, none⟩) else if jz = 34 then .int .i64 bl else v jz), g, rfl, ⟨(fun h => hR.st (upd_false h)), hR.sr.keep rfl, hR.ar.keepM rfl (fun h j hj => upd_on (h j hj)), hR.f0.keep rfl, hR.f1.keep rfl, hR.f2.keep rfl, hR.f3.keep rfl, hR.f4.keep rfl, hR.f5.keep rfl, hR.f6.keep rfl, hR.f7.keep rfl, hR.f8.keep rfl, hR.f9.keep rfl, hR.f10.keep rfl, hR.f11.keep rfl, hR.f12.keep rfl, hR.f13.keep rfl, hR.f14.keep rfl, hR.f15.keep rfl, hR.f16.keep rfl, hR.f17.keep rfl, hR.f18.keep rfl, hR.f19.keep rfl, hR.f20.keep rfl, hR.f21.keep rfl, hR.f22.keep rfl, hR.f23.keep rfl, (fun _ => rfl), (fun _ => rfl), hR.f26.keep rfl, hR.f27.keep rfl, hR.f28.keep rfl, hR.f29.keep rfl, hR.f30.keep rfl, hR.f31.keep rfl, hR.f32.keep rfl, hR.f33.keep rfl, hR.f34.keep rfl, hR.f35.keep rfl, hR.f36.keep rfl, hR.f37.keep rfl, hR.f38.keep rfl, hR.f39.keep rfl, hR.f40.keep rfl, hR.f41.keep rfl, hR.f42.keep rfl, hR.f43.keep rfl, hR.f44.keep rfl, hR.f45.keep rfl, hR.f46.keep rfl, hR.f48.keep rfl, hR.b20.keep rfl, hR.b42.keep rfl, hR.n20_42.keep rfl rfl⟩⟩
    refine EachOf.cons [23, 25] rfl (by kernel_rfl) ?_ ?_
    · rintro L A W ⟨v, g, rfl, hR⟩ hi hw K hK
      have hk : L 47 = false := hR.ar.not hi rfl
      have e23 := hR.f23 (hw 23 (by simp))
      have e25 := hR.f25 (hw 25 (by simp))
      simp only [e23, e25]
      clear e23 e25
      go_simp
      go_at_call 38
      (with_reducible refine ((P1 _).out).mono ?_)
      rintro e w2 ⟨rfl, hb⟩
      go_simp
      refine hK.out _ _ ?_
      exact ⟨(fun jz => if jz = 32 then .int .i64 al else if jz = 34 then .int .i64 bl else if jz = 35 then .int .i64 m1 else v jz), g, rfl, ⟨(fun _ => below_on (hR.st hk) hb), (fun h => absurd (upd_back h rfl) (by simp [hk])), hR.ar.keepM rfl (fun h j hj => upd_on (h j hj)), hR.f0.keep rfl, hR.f1.keep rfl, hR.f2.keep rfl, hR.f3.keep rfl, hR.f4.keep rfl, hR.f5.keep rfl, hR.f6.keep rfl, hR.f7.keep rfl, hR.f8.keep rfl, hR.f9.keep rfl, hR.f10.keep rfl, hR.f11.keep rfl, hR.f12.keep rfl, hR.f13.keep rfl, hR.f14.keep rfl, hR.f15.keep rfl, hR.f16.keep rfl, hR.f17.keep rfl, hR.f18.keep rfl, hR.f19.keep rfl, hR.f20.keep rfl, hR.f21.keep rfl, hR.f22.keep rfl, (fun _ => rfl), hR.f24.keep rfl, (fun _ => rfl), (fun _ => rfl), hR.f27.keep rfl, hR.f28.keep rfl, hR.f29.keep rfl, hR.f30.keep rfl, hR.f31.keep rfl, hR.f32.keep rfl, hR.f33.keep rfl, hR.f34.keep rfl, hR.f35.keep rfl, hR.f36.keep rfl, hR.f37.keep rfl, hR.f38.keep rfl, hR.f39.keep rfl, hR.f40.keep rfl, hR.f41.keep rfl, hR.f42.keep rfl, hR.f43.keep rfl, hR.f44.keep rfl, hR.f45.keep rfl, hR.f46.keep rfl, hR.f48.keep rfl, hR.b20.keepM rfl (fun h => ⟨h.1, h.2.on hb⟩), hR.b42.keepM rfl (fun h => ⟨h.1, h.2.on hb⟩), hR.n20_42.keep rfl rfl⟩⟩
    refine EachOf.cons [] rfl (by kernel_rfl) ?_ ?_
    · rintro L A W ⟨v, g, rfl, hR⟩ hi hw K hK
      have hk : L 47 = false := hR.ar.not hi rfl
      go_simp
      refine hK.out _ _ ?_
      exact ⟨(fun jz => if jz = 36 then .pointer (some ⟨w.heap.size, 0, none⟩) else v jz), g, rfl, ⟨(fun h => hR.st (upd_false h)), hR.sr.keep rfl, hR.ar.keepM rfl (fun h j hj => upd_on (h j hj)), hR.f0.keep rfl, hR.f1.keep rfl, hR.f2.keep rfl, hR.f3.keep rfl, hR.f4.keep rfl, hR.f5.keep rfl, hR.f6.keep rfl, hR.f7.keep rfl, hR.f8.keep rfl, hR.f9.keep rfl, hR.f10.keep rfl, hR.f11.keep rfl, hR.f12.keep rfl, hR.f13.keep rfl, hR.f14.keep rfl, hR.f15.keep rfl, hR.f16.keep rfl, hR.f17.keep rfl, hR.f18.keep rfl, hR.f19.keep rfl, hR.f20.keep rfl, hR.f21.keep rfl, hR.f22.keep rfl, hR.f23.keep rfl, hR.f24.keep rfl, hR.f25.keep rfl, hR.f26.keep rfl, (fun _ => rfl), hR.f28.keep rfl, hR.f29.keep rfl, hR.f30.keep rfl, hR.f31.keep rfl, hR.f32.keep rfl, hR.f33.keep rfl, hR.f34.keep rfl, hR.f35.keep rfl, hR.f36.keep rfl, hR.f37.keep rfl, hR.f38.keep rfl, hR.f39.keep rfl, hR.f40.keep rfl, hR.f41.keep rfl, hR.f42.keep rfl, hR.f43.keep rfl, hR.f44.keep rfl, hR.f45.keep rfl, hR.f46.keep rfl, hR.f48.keep rfl, hR.b20.keep rfl, hR.b42.keep rfl, hR.n20_42.keep rfl rfl⟩⟩
    refine EachOf.cons [27] rfl (by kernel_rfl) ?_ ?_
    · rintro L A W ⟨v, g, rfl, hR⟩ hi hw K hK
      have hk : L 47 = false := hR.ar.not hi rfl
      have e27 := hR.f27 (hw 27 (by simp))
      simp only [e27]
      clear e27
      obtain ⟨_, q0, q1⟩ := HA.out.on (hR.st hk)
      go_simp
      refine hK.out _ _ ?_
      exact ⟨(fun jz => if jz = 36 then .pointer (some ⟨w.heap.size, 0, none⟩) else if jz = 37 then .int .i64 al else v jz), g, rfl, ⟨(fun h => hR.st (upd_false h)), hR.sr.keep rfl, hR.ar.keepM rfl (fun h j hj => upd_on (h j hj)), hR.f0.keep rfl, hR.f1.keep rfl, hR.f2.keep rfl, hR.f3.keep rfl, hR.f4.keep rfl, hR.f5.keep rfl, hR.f6.keep rfl, hR.f7.keep rfl, hR.f8.keep rfl, hR.f9.keep rfl, hR.f10.keep rfl, hR.f11.keep rfl, hR.f12.keep rfl, hR.f13.keep rfl, hR.f14.keep rfl, hR.f15.keep rfl, hR.f16.keep rfl, hR.f17.keep rfl, hR.f18.keep rfl, hR.f19.keep rfl, hR.f20.keep rfl, hR.f21.keep rfl, hR.f22.keep rfl, hR.f23.keep rfl, hR.f24.keep rfl, hR.f25.keep rfl, hR.f26.keep rfl, (fun _ => rfl), (fun _ => rfl), hR.f29.keep rfl, hR.f30.keep rfl, hR.f31.keep rfl, hR.f32.keep rfl, hR.f33.keep rfl, hR.f34.keep rfl, hR.f35.keep rfl, hR.f36.keep rfl, hR.f37.keep rfl, hR.f38.keep rfl, hR.f39.keep rfl, hR.f40.keep rfl, hR.f41.keep rfl, hR.f42.keep rfl, hR.f43.keep rfl, hR.f44.keep rfl, hR.f45.keep rfl, hR.f46.keep rfl, hR.f48.keep rfl, hR.b20.keep rfl, hR.b42.keep rfl, hR.n20_42.keep rfl rfl⟩⟩
    refine EachOf.cons [] rfl (by kernel_rfl) ?_ ?_
    · rintro L A W ⟨v, g, rfl, hR⟩ hi hw K hK
      have hk : L 47 = false := hR.ar.not hi rfl
      go_simp
      refine hK.out _ _ ?_
      exact ⟨(fun jz => if jz = 38 then .pointer (some ⟨w.heap.size + 1, 1, none⟩) else v jz), g, rfl, ⟨(fun h => hR.st (upd_false h)), hR.sr.keep rfl, hR.ar.keepM rfl (fun h j hj => upd_on (h j hj)), hR.f0.keep rfl, hR.f1.keep rfl, hR.f2.keep rfl, hR.f3.keep rfl, hR.f4.keep rfl, hR.f5.keep rfl, hR.f6.keep rfl, hR.f7.keep rfl, hR.f8.keep rfl, hR.f9.keep rfl, hR.f10.keep rfl, hR.f11.keep rfl, hR.f12.keep rfl, hR.f13.keep rfl, hR.f14.keep rfl, hR.f15.keep rfl, hR.f16.keep rfl, hR.f17.keep rfl, hR.f18.keep rfl, hR.f19.keep rfl, hR.f20.keep rfl, hR.f21.keep rfl, hR.f22.keep rfl, hR.f23.keep rfl, hR.f24.keep rfl, hR.f25.keep rfl, hR.f26.keep rfl, hR.f27.keep rfl, hR.f28.keep rfl, (fun _ => rfl), hR.f30.keep rfl, hR.f31.keep rfl, hR.f32.keep rfl, hR.f33.keep rfl, hR.f34.keep rfl, hR.f35.keep rfl, hR.f36.keep rfl, hR.f37.keep rfl, hR.f38.keep rfl, hR.f39.keep rfl, hR.f40.keep rfl, hR.f41.keep rfl, hR.f42.keep rfl, hR.f43.keep rfl, hR.f44.keep rfl, hR.f45.keep rfl, hR.f46.keep rfl, hR.f48.keep rfl, hR.b20.keep rfl, hR.b42.keep rfl, hR.n20_42.keep rfl rfl⟩⟩
    refine EachOf.cons [29] rfl (by kernel_rfl) ?_ ?_
    · rintro L A W ⟨v, g, rfl, hR⟩ hi hw K hK
      have hk : L 47 = false := hR.ar.not hi rfl
      have e29 := hR.f29 (hw 29 (by simp))
      simp only [e29]
      clear e29
      obtain ⟨_, q0, q1⟩ := HB.out.on (hR.st hk)
      go_simp
      refine hK.out _ _ ?_
      exact ⟨(fun jz => if jz = 38 then .pointer (some ⟨w.heap.size + 1, 1, none⟩) else if jz = 39 then .int .i64 bh else v jz), g, rfl, ⟨(fun h => hR.st (upd_false h)), hR.sr.keep rfl, hR.ar.keepM rfl (fun h j hj => upd_on (h j hj)), hR.f0.keep rfl, hR.f1.keep rfl, hR.f2.keep rfl, hR.f3.keep rfl, hR.f4.keep rfl, hR.f5.keep rfl, hR.f6.keep rfl, hR.f7.keep rfl, hR.f8.keep rfl, hR.f9.keep rfl, hR.f10.keep rfl, hR.f11.keep rfl, hR.f12.keep rfl, hR.f13.keep rfl, hR.f14.keep rfl, hR.f15.keep rfl, hR.f16.keep rfl, hR.f17.keep rfl, hR.f18.keep rfl, hR.f19.keep rfl, hR.f20.keep rfl, hR.f21.keep rfl, hR.f22.keep rfl, hR.f23.keep rfl, hR.f24.keep rfl, hR.f25.keep rfl, hR.f26.keep rfl, hR.f27.keep rfl, hR.f28.keep rfl, (fun _ => rfl), (fun _ => rfl), hR.f31.keep rfl, hR.f32.keep rfl, hR.f33.keep rfl, hR.f34.keep rfl, hR.f35.keep rfl, hR.f36.keep rfl, hR.f37.keep rfl, hR.f38.keep rfl, hR.f39.keep rfl, hR.f40.keep rfl, hR.f41.keep rfl, hR.f42.keep rfl, hR.f43.keep rfl, hR.f44.keep rfl, hR.f45.keep rfl, hR.f46.keep rfl, hR.f48.keep rfl, hR.b20.keep rfl, hR.b42.keep rfl, hR.n20_42.keep rfl rfl⟩⟩
    refine EachOf.cons [28, 30] rfl (by kernel_rfl) ?_ ?_
    · rintro L A W ⟨v, g, rfl, hR⟩ hi hw K hK
      have hk : L 47 = false := hR.ar.not hi rfl
      have e28 := hR.f28 (hw 28 (by simp))
      have e30 := hR.f30 (hw 30 (by simp))
      simp only [e28, e30]
      clear e28 e30
      go_simp
      go_at_call 38
      (with_reducible refine ((P2 _).out).mono ?_)
      rintro e w2 ⟨rfl, hb⟩
      go_simp
      refine hK.out _ _ ?_
      exact ⟨(fun jz => if jz = 37 then .int .i64 al else if jz = 39 then .int .i64 bh else if jz = 40 then .int .i64 m2 else v jz), g, rfl, ⟨(fun _ => below_on (hR.st hk) hb), (fun h => absurd (upd_back h rfl) (by simp [hk])), hR.ar.keepM rfl (fun h j hj => upd_on (h j hj)), hR.f0.keep rfl, hR.f1.keep rfl, hR.f2.keep rfl, hR.f3.keep rfl, hR.f4.keep rfl, hR.f5.keep rfl, hR.f6.keep rfl, hR.f7.keep rfl, hR.f8.keep rfl, hR.f9.keep rfl, hR.f10.keep rfl, hR.f11.keep rfl, hR.f12.keep rfl, hR.f13.keep rfl, hR.f14.keep rfl, hR.f15.keep rfl, hR.f16.keep rfl, hR.f17.keep rfl, hR.f18.keep rfl, hR.f19.keep rfl, hR.f20.keep rfl, hR.f21.keep rfl, hR.f22.keep rfl, hR.f23.keep rfl, hR.f24.keep rfl, hR.f25.keep rfl, hR.f26.keep rfl, hR.f27.keep rfl, (fun _ => rfl), hR.f29.keep rfl, (fun _ => rfl), (fun _ => rfl), hR.f32.keep rfl, hR.f33.keep rfl, hR.f34.keep rfl, hR.f35.keep rfl, hR.f36.keep rfl, hR.f37.keep rfl, hR.f38.keep rfl, hR.f39.keep rfl, hR.f40.keep rfl, hR.f41.keep rfl, hR.f42.keep rfl, hR.f43.keep rfl, hR.f44.keep rfl, hR.f45.keep rfl, hR.f46.keep rfl, hR.f48.keep rfl, hR.b20.keepM rfl (fun h => ⟨h.1, h.2.on hb⟩), hR.b42.keepM rfl (fun h => ⟨h.1, h.2.on hb⟩), hR.n20_42.keep rfl rfl⟩⟩
    refine EachOf.cons [] rfl (by kernel_rfl) ?_ ?_
    · rintro L A W ⟨v, g, rfl, hR⟩ hi hw K hK
      have hk : L 47 = false := hR.ar.not hi rfl
      go_simp
      refine hK.out _ _ ?_
      exact ⟨(fun jz => if jz = 41 then .pointer (some ⟨w.heap.size, 1, none⟩) else v jz), g, rfl, ⟨(fun h => hR.st (upd_false h)), hR.sr.keep rfl, hR.ar.keepM rfl (fun h j hj => upd_on (h j hj)), hR.f0.keep rfl, hR.f1.keep rfl, hR.f2.keep rfl, hR.f3.keep rfl, hR.f4.keep rfl, hR.f5.keep rfl, hR.f6.keep rfl, hR.f7.keep rfl, hR.f8.keep rfl, hR.f9.keep rfl, hR.f10.keep rfl, hR.f11.keep rfl, hR.f12.keep rfl, hR.f13.keep rfl, hR.f14.keep rfl, hR.f15.keep rfl, hR.f16.keep rfl, hR.f17.keep rfl, hR.f18.keep rfl, hR.f19.keep rfl, hR.f20.keep rfl, hR.f21.keep rfl, hR.f22.keep rfl, hR.f23.keep rfl, hR.f24.keep rfl, hR.f25.keep rfl, hR.f26.keep rfl, hR.f27.keep rfl, hR.f28.keep rfl, hR.f29.keep rfl, hR.f30.keep rfl, hR.f31.keep rfl, (fun _ => rfl), hR.f33.keep rfl, hR.f34.keep rfl, hR.f35.keep rfl, hR.f36.keep rfl, hR.f37.keep rfl, hR.f38.keep rfl, hR.f39.keep rfl, hR.f40.keep rfl, hR.f41.keep rfl, hR.f42.keep rfl, hR.f43.keep rfl, hR.f44.keep rfl, hR.f45.keep rfl, hR.f46.keep rfl, hR.f48.keep rfl, hR.b20.keep rfl, hR.b42.keep rfl, hR.n20_42.keep rfl rfl⟩⟩
    refine EachOf.cons [32] rfl (by kernel_rfl) ?_ ?_
    · rintro L A W ⟨v, g, rfl, hR⟩ hi hw K hK
      have hk : L 47 = false := hR.ar.not hi rfl
      have e32 := hR.f32 (hw 32 (by simp))
      simp only [e32]
      clear e32
      obtain ⟨_, q0, q1⟩ := HA.out.on (hR.st hk)
      go_simp
      refine hK.out _ _ ?_
      exact ⟨(fun jz => if jz = 41 then .pointer (some ⟨w.heap.size, 1, none⟩) else if jz = 42 then .int .i64 ah else v jz), g, rfl, ⟨(fun h => hR.st (upd_false h)), hR.sr.keep rfl, hR.ar.keepM rfl (fun h j hj => upd_on (h j hj)), hR.f0.keep rfl, hR.f1.keep rfl, hR.f2.keep rfl, hR.f3.keep rfl, hR.f4.keep rfl, hR.f5.keep rfl, hR.f6.keep rfl, hR.f7.keep rfl, hR.f8.keep rfl, hR.f9.keep rfl, hR.f10.keep rfl, hR.f11.keep rfl, hR.f12.keep rfl, hR.f13.keep rfl, hR.f14.keep rfl, hR.f15.keep rfl, hR.f16.keep rfl, hR.f17.keep rfl, hR.f18.keep rfl, hR.f19.keep rfl, hR.f20.keep rfl, hR.f21.keep rfl, hR.f22.keep rfl, hR.f23.keep rfl, hR.f24.keep rfl, hR.f25.keep rfl, hR.f26.keep rfl, hR.f27.keep rfl, hR.f28.keep rfl, hR.f29.keep rfl, hR.f30.keep rfl, hR.f31.keep rfl, (fun _ => rfl), (fun _ => rfl), hR.f34.keep rfl, hR.f35.keep rfl, hR.f36.keep rfl, hR.f37.keep rfl, hR.f38.keep rfl, hR.f39.keep rfl, hR.f40.keep rfl, hR.f41.keep rfl, hR.f42.keep rfl, hR.f43.keep rfl, hR.f44.keep rfl, hR.f45.keep rfl, hR.f46.keep rfl, hR.f48.keep rfl, hR.b20.keep rfl, hR.b42.keep rfl, hR.n20_42.keep rfl rfl⟩⟩
    refine EachOf.cons [] rfl (by kernel_rfl) ?_ ?_
    · rintro L A W ⟨v, g, rfl, hR⟩ hi hw K hK
      have hk : L 47 = false := hR.ar.not hi rfl
      go_simp
      refine hK.out _ _ ?_
      exact ⟨(fun jz => if jz = 43 then .pointer (some ⟨w.heap.size + 1, 0, none⟩) else v jz), g, rfl, ⟨(fun h => hR.st (upd_false h)), hR.sr.keep rfl, hR.ar.keepM rfl (fun h j hj => upd_on (h j hj)), hR.f0.keep rfl, hR.f1.keep rfl, hR.f2.keep rfl, hR.f3.keep rfl, hR.f4.keep rfl, hR.f5.keep rfl, hR.f6.keep rfl, hR.f7.keep rfl, hR.f8.keep rfl, hR.f9.keep rfl, hR.f10.keep rfl, hR.f11.keep rfl, hR.f12.keep rfl, hR.f13.keep rfl, hR.f14.keep rfl, hR.f15.keep rfl, hR.f16.keep rfl, hR.f17.keep rfl, hR.f18.keep rfl, hR.f19.keep rfl, hR.f20.keep rfl, hR.f21.keep rfl, hR.f22.keep rfl, hR.f23.keep rfl, hR.f24.keep rfl, hR.f25.keep rfl, hR.f26.keep rfl, hR.f27.keep rfl, hR.f28.keep rfl, hR.f29.keep rfl, hR.f30.keep rfl, hR.f31.keep rfl, hR.f32.keep rfl, hR.f33.keep rfl, (fun _ => rfl), hR.f35.keep rfl, hR.f36.keep rfl, hR.f37.keep rfl, hR.f38.keep rfl, hR.f39.keep rfl, hR.f40.keep rfl, hR.f41.keep rfl, hR.f42.keep rfl, hR.f43.keep rfl, hR.f44.keep rfl, hR.f45.keep rfl, hR.f46.keep rfl, hR.f48.keep rfl, hR.b20.keep rfl, hR.b42.keep rfl, hR.n20_42.keep rfl rfl⟩⟩
    refine EachOf.cons [34] rfl (by kernel_rfl) ?_ ?_
    · rintro L A W ⟨v, g, rfl, hR⟩ hi hw K hK
      have hk : L 47 = false := hR.ar.not hi rfl
      have e34 := hR.f34 (hw 34 (by simp))
      simp only [e34]
      clear e34
      obtain ⟨_, q0, q1⟩ := HB.out.on (hR.st hk)
      go_simp
      refine hK.out _ _ ?_
      exact ⟨(fun jz => if jz = 43 then .pointer (some ⟨w.heap.size + 1, 0, none⟩) else if jz = 44 then .int .i64 bl else v jz), g, rfl, ⟨(fun h => hR.st (upd_false h)), hR.sr.keep rfl, hR.ar.keepM rfl (fun h j hj => upd_on (h j hj)), hR.f0.keep rfl, hR.f1.keep rfl, hR.f2.keep rfl, hR.f3.keep rfl, hR.f4.keep rfl, hR.f5.keep rfl, hR.f6.keep rfl, hR.f7.keep rfl, hR.f8.keep rfl, hR.f9.keep rfl, hR.f10.keep rfl, hR.f11.keep rfl, hR.f12.keep rfl, hR.f13.keep rfl, hR.f14.keep rfl, hR.f15.keep rfl, hR.f16.keep rfl, hR.f17.keep rfl, hR.f18.keep rfl, hR.f19.keep rfl, hR.f20.keep rfl, hR.f21.keep rfl, hR.f22.keep rfl, hR.f23.keep rfl, hR.f24.keep rfl, hR.f25.keep rfl, hR.f26.keep rfl, hR.f27.keep rfl, hR.f28.keep rfl, hR.f29.keep rfl, hR.f30.keep rfl, hR.f31.keep rfl, hR.f32.keep rfl, hR.f33.keep rfl, (fun _ => rfl), (fun _ => rfl), hR.f36.keep rfl, hR.f37.keep rfl, hR.f38.keep rfl, hR.f39.keep rfl, hR.f40.keep rfl, hR.f41.keep rfl, hR.f42.keep rfl, hR.f43.keep rfl, hR.f44.keep rfl, hR.f45.keep rfl, hR.f46.keep rfl, hR.f48.keep rfl, hR.b20.keep rfl, hR.b42.keep rfl, hR.n20_42.keep rfl rfl⟩⟩
    refine EachOf.cons [33, 35] rfl (by kernel_rfl) ?_ ?_
    · rintro L A W ⟨v, g, rfl, hR⟩ hi hw K hK
      have hk : L 47 = false := hR.ar.not hi rfl
      have e33 := hR.f33 (hw 33 (by simp))
      have e35 := hR.f35 (hw 35 (by simp))
      simp only [e33, e35]
      clear e33 e35
      go_simp
      go_at_call 38
      (with_reducible refine ((P3 _).out).mono ?_)
      rintro e w2 ⟨rfl, hb⟩
      go_simp
      refine hK.out _ _ ?_
      exact ⟨(fun jz => if jz = 42 then .int .i64 ah else if jz = 44 then .int .i64 bl else if jz = 45 then .int .i64 m3 else v jz), g, rfl, ⟨(fun _ => below_on (hR.st hk) hb), (fun h => absurd (upd_back h rfl) (by simp [hk])), hR.ar.keepM rfl (fun h j hj => upd_on (h j hj)), hR.f0.keep rfl, hR.f1.keep rfl, hR.f2.keep rfl, hR.f3.keep rfl, hR.f4.keep rfl, hR.f5.keep rfl, hR.f6.keep rfl, hR.f7.keep rfl, hR.f8.keep rfl, hR.f9.keep rfl, hR.f10.keep rfl, hR.f11.keep rfl, hR.f12.keep rfl, hR.f13.keep rfl, hR.f14.keep rfl, hR.f15.keep rfl, hR.f16.keep rfl, hR.f17.keep rfl, hR.f18.keep rfl, hR.f19.keep rfl, hR.f20.keep rfl, hR.f21.keep rfl, hR.f22.keep rfl, hR.f23.keep rfl, hR.f24.keep rfl, hR.f25.keep rfl, hR.f26.keep rfl, hR.f27.keep rfl, hR.f28.keep rfl, hR.f29.keep rfl, hR.f30.keep rfl, hR.f31.keep rfl, hR.f32.keep rfl, (fun _ => rfl), hR.f34.keep rfl, (fun _ => rfl), (fun _ => rfl), hR.f37.keep rfl, hR.f38.keep rfl, hR.f39.keep rfl, hR.f40.keep rfl, hR.f41.keep rfl, hR.f42.keep rfl, hR.f43.keep rfl, hR.f44.keep rfl, hR.f45.keep rfl, hR.f46.keep rfl, hR.f48.keep rfl, hR.b20.keepM rfl (fun h => ⟨h.1, h.2.on hb⟩), hR.b42.keepM rfl (fun h => ⟨h.1, h.2.on hb⟩), hR.n20_42.keep rfl rfl⟩⟩
    refine EachOf.cons [] rfl (by kernel_rfl) ?_ ?_
    · rintro L A W ⟨v, g, rfl, hR⟩ hi hw K hK
      have hk : L 47 = false := hR.ar.not hi rfl
      go_simp
      refine hK.out _ _ ?_
      exact ⟨(fun jz => if jz = 46 then .pointer (some ⟨w.heap.size, 1, none⟩) else v jz), g, rfl, ⟨(fun h => hR.st (upd_false h)), hR.sr.keep rfl, hR.ar.keepM rfl (fun h j hj => upd_on (h j hj)), hR.f0.keep rfl, hR.f1.keep rfl, hR.f2.keep rfl, hR.f3.keep rfl, hR.f4.keep rfl, hR.f5.keep rfl, hR.f6.keep rfl, hR.f7.keep rfl, hR.f8.keep rfl, hR.f9.keep rfl, hR.f10.keep rfl, hR.f11.keep rfl, hR.f12.keep rfl, hR.f13.keep rfl, hR.f14.keep rfl, hR.f15.keep rfl, hR.f16.keep rfl, hR.f17.keep rfl, hR.f18.keep rfl, hR.f19.keep rfl, hR.f20.keep rfl, hR.f21.keep rfl, hR.f22.keep rfl, hR.f23.keep rfl, hR.f24.keep rfl, hR.f25.keep rfl, hR.f26.keep rfl, hR.f27.keep rfl, hR.f28.keep rfl, hR.f29.keep rfl, hR.f30.keep rfl, hR.f31.keep rfl, hR.f32.keep rfl, hR.f33.keep rfl, hR.f34.keep rfl, hR.f35.keep rfl, hR.f36.keep rfl, (fun _ => rfl), hR.f38.keep rfl, hR.f39.keep rfl, hR.f40.keep rfl, hR.f41.keep rfl, hR.f42.keep rfl, hR.f43.keep rfl, hR.f44.keep rfl, hR.f45.keep rfl, hR.f46.keep rfl, hR.f48.keep rfl, hR.b20.keep rfl, hR.b42.keep rfl, hR.n20_42.keep rfl rfl⟩⟩
    refine EachOf.cons [37] rfl (by kernel_rfl) ?_ ?_
    · rintro L A W ⟨v, g, rfl, hR⟩ hi hw K hK
      have hk : L 47 = false := hR.ar.not hi rfl
      have e37 := hR.f37 (hw 37 (by simp))
      simp only [e37]
      clear e37
      obtain ⟨_, q0, q1⟩ := HA.out.on (hR.st hk)
      go_simp
      refine hK.out _ _ ?_
      exact ⟨(fun jz => if jz = 46 then .pointer (some ⟨w.heap.size, 1, none⟩) else if jz = 47 then .int .i64 ah else v jz), g, rfl, ⟨(fun h => hR.st (upd_false h)), hR.sr.keep rfl, hR.ar.keepM rfl (fun h j hj => upd_on (h j hj)), hR.f0.keep rfl, hR.f1.keep rfl, hR.f2.keep rfl, hR.f3.keep rfl, hR.f4.keep rfl, hR.f5.keep rfl, hR.f6.keep rfl, hR.f7.keep rfl, hR.f8.keep rfl, hR.f9.keep rfl, hR.f10.keep rfl, hR.f11.keep rfl, hR.f12.keep rfl, hR.f13.keep rfl, hR.f14.keep rfl, hR.f15.keep rfl, hR.f16.keep rfl, hR.f17.keep rfl, hR.f18.keep rfl, hR.f19.keep rfl, hR.f20.keep rfl, hR.f21.keep rfl, hR.f22.keep rfl, hR.f23.keep rfl, hR.f24.keep rfl, hR.f25.keep rfl, hR.f26.keep rfl, hR.f27.keep rfl, hR.f28.keep rfl, hR.f29.keep rfl, hR.f30.keep rfl, hR.f31.keep rfl, hR.f32.keep rfl, hR.f33.keep rfl, hR.f34.keep rfl, hR.f35.keep rfl, hR.f36.keep rfl, (fun _ => rfl), (fun _ => rfl), hR.f39.keep rfl, hR.f40.keep rfl, hR.f41.keep rfl, hR.f42.keep rfl, hR.f43.keep rfl, hR.f44.keep rfl, hR.f45.keep rfl, hR.f46.keep rfl, hR.f48.keep rfl, hR.b20.keep rfl, hR.b42.keep rfl, hR.n20_42.keep rfl rfl⟩⟩
    refine EachOf.cons [] rfl (by kernel_rfl) ?_ ?_
    · rintro L A W ⟨v, g, rfl, hR⟩ hi hw K hK
      have hk : L 47 = false := hR.ar.not hi rfl
      go_simp
      refine hK.out _ _ ?_
      exact ⟨(fun jz => if jz = 48 then .pointer (some ⟨w.heap.size + 1, 1, none⟩) else v jz), g, rfl, ⟨(fun h => hR.st (upd_false h)), hR.sr.keep rfl, hR.ar.keepM rfl (fun h j hj => upd_on (h j hj)), hR.f0.keep rfl, hR.f1.keep rfl, hR.f2.keep rfl, hR.f3.keep rfl, hR.f4.keep rfl, hR.f5.keep rfl, hR.f6.keep rfl, hR.f7.keep rfl, hR.f8.keep rfl, hR.f9.keep rfl, hR.f10.keep rfl, hR.f11.keep rfl, hR.f12.keep rfl, hR.f13.keep rfl, hR.f14.keep rfl, hR.f15.keep rfl, hR.f16.keep rfl, hR.f17.keep rfl, hR.f18.keep rfl, hR.f19.keep rfl, hR.f20.keep rfl, hR.f21.keep rfl, hR.f22.keep rfl, hR.f23.keep rfl, hR.f24.keep rfl, hR.f25.keep rfl, hR.f26.keep rfl, hR.f27.keep rfl, hR.f28.keep rfl, hR.f29.keep rfl, hR.f30.keep rfl, hR.f31.keep rfl, hR.f32.keep rfl, hR.f33.keep rfl, hR.f34.keep rfl, hR.f35.keep rfl, hR.f36.keep rfl, hR.f37.keep rfl, hR.f38.keep rfl, (fun _ => rfl), hR.f40.keep rfl, hR.f41.keep rfl, hR.f42.keep rfl, hR.f43.keep rfl, hR.f44.keep rfl, hR.f45.keep rfl, hR.f46.keep rfl, hR.f48.keep rfl, hR.b20.keep rfl, hR.b42.keep rfl, hR.n20_42.keep rfl rfl⟩⟩
    refine EachOf.cons [39] rfl (by kernel_rfl) ?_ ?_
    · rintro L A W ⟨v, g, rfl, hR⟩ hi hw K hK
      have hk : L 47 = false := hR.ar.not hi rfl
      have e39 := hR.f39 (hw 39 (by simp))
      simp only [e39]
      clear e39
      obtain ⟨_, q0, q1⟩ := HB.out.on (hR.st hk)
      go_simp
      refine hK.out _ _ ?_
      exact ⟨(fun jz => if jz = 48 then .pointer (some ⟨w.heap.size + 1, 1, none⟩) else if jz = 49 then .int .i64 bh else v jz), g, rfl, ⟨(fun h => hR.st (upd_false h)), hR.sr.keep rfl, hR.ar.keepM rfl (fun h j hj => upd_on (h j hj)), hR.f0.keep rfl, hR.f1.keep rfl, hR.f2.keep rfl, hR.f3.keep rfl, hR.f4.keep rfl, hR.f5.keep rfl, hR.f6.keep rfl, hR.f7.keep rfl, hR.f8.keep rfl, hR.f9.keep rfl, hR.f10.keep rfl, hR.f11.keep rfl, hR.f12.keep rfl, hR.f13.keep rfl, hR.f14.keep rfl, hR.f15.keep rfl, hR.f16.keep rfl, hR.f17.keep rfl, hR.f18.keep rfl, hR.f19.keep rfl, hR.f20.keep rfl, hR.f21.keep rfl, hR.f22.keep rfl, hR.f23.keep rfl, hR.f24.keep rfl, hR.f25.keep rfl, hR.f26.keep rfl, hR.f27.keep rfl, hR.f28.keep rfl, hR.f29.keep rfl, hR.f30.keep rfl, hR.f31.keep rfl, hR.f32.keep rfl, hR.f33.keep rfl, hR.f34.keep rfl, hR.f35.keep rfl, hR.f36.keep rfl, hR.f37.keep rfl, hR.f38.keep rfl, (fun _ => rfl), (fun _ => rfl), hR.f41.keep rfl, hR.f42.keep rfl, hR.f43.keep rfl, hR.f44.keep rfl, hR.f45.keep rfl, hR.f46.keep rfl, hR.f48.keep rfl, hR.b20.keep rfl, hR.b42.keep rfl, hR.n20_42.keep rfl rfl⟩⟩
    refine EachOf.cons [38, 40] rfl (by kernel_rfl) ?_ ?_
    · rintro L A W ⟨v, g, rfl, hR⟩ hi hw K hK
      have hk : L 47 = false := hR.ar.not hi rfl
      have e38 := hR.f38 (hw 38 (by simp))
      have e40 := hR.f40 (hw 40 (by simp))
      simp only [e38, e40]
      clear e38 e40
      go_simp
      go_at_call 38
      (with_reducible refine ((P4 _).out).mono ?_)
      rintro e w2 ⟨rfl, hb⟩
      go_simp
      refine hK.out _ _ ?_
      exact ⟨(fun jz => if jz = 47 then .int .i64 ah else if jz = 49 then .int .i64 bh else if jz = 50 then .int .i64 m4 else v jz), g, rfl, ⟨(fun _ => below_on (hR.st hk) hb), (fun h => absurd (upd_back h rfl) (by simp [hk])), hR.ar.keepM rfl (fun h j hj => upd_on (h j hj)), hR.f0.keep rfl, hR.f1.keep rfl, hR.f2.keep rfl, hR.f3.keep rfl, hR.f4.keep rfl, hR.f5.keep rfl, hR.f6.keep rfl, hR.f7.keep rfl, hR.f8.keep rfl, hR.f9.keep rfl, hR.f10.keep rfl, hR.f11.keep rfl, hR.f12.keep rfl, hR.f13.keep rfl, hR.f14.keep rfl, hR.f15.keep rfl, hR.f16.keep rfl, hR.f17.keep rfl, hR.f18.keep rfl, hR.f19.keep rfl, hR.f20.keep rfl, hR.f21.keep rfl, hR.f22.keep rfl, hR.f23.keep rfl, hR.f24.keep rfl, hR.f25.keep rfl, hR.f26.keep rfl, hR.f27.keep rfl, hR.f28.keep rfl, hR.f29.keep rfl, hR.f30.keep rfl, hR.f31.keep rfl, hR.f32.keep rfl, hR.f33.keep rfl, hR.f34.keep rfl, hR.f35.keep rfl, hR.f36.keep rfl, hR.f37.keep rfl, (fun _ => rfl), hR.f39.keep rfl, (fun _ => rfl), (fun _ => rfl), hR.f42.keep rfl, hR.f43.keep rfl, hR.f44.keep rfl, hR.f45.keep rfl, hR.f46.keep rfl, hR.f48.keep rfl, hR.b20.keepM rfl (fun h => ⟨h.1, h.2.on hb⟩), hR.b42.keepM rfl (fun h => ⟨h.1, h.2.on hb⟩), hR.n20_42.keep rfl rfl⟩⟩
    refine EachOf.cons [26, 31, 36, 41] rfl (by kernel_rfl) ?_ ?_
    · rintro L A W ⟨v, g, rfl, hR⟩ hi hw K hK
      have hk : L 47 = false := hR.ar.not hi rfl
      have e26 := hR.f26 (hw 26 (by simp))
      have e31 := hR.f31 (hw 31 (by simp))
      have e36 := hR.f36 (hw 36 (by simp))
      have e41 := hR.f41 (hw 41 (by simp))
      simp only [e26, e31, e36, e41]
      clear e26 e31 e36 e41
      have hz := (hR.st hk).size
      go_simp
      refine hK.out _ _ ?_
      have hb : Below W.heap.size W (W.alloc (Obj.cells #[Value.int .i64 m1, Value.int .i64 m2, Value.int .i64 m3, Value.int .i64 m4] 3)) := (Below.refl _ _).alloc (Nat.le_refl _) _
      have hrow : Row (W.alloc (Obj.cells #[Value.int .i64 m1, Value.int .i64 m2, Value.int .i64 m3, Value.int .i64 m4] 3)) W.heap.size [.int .i64 m1, .int .i64 m2, .int .i64 m3, .int .i64 m4] := row4 _ _ _ _ _ _
      exact ⟨(fun jz => if jz = 35 then .int .i64 m1 else if jz = 40 then .int .i64 m2 else if jz = 45 then .int .i64 m3 else if jz = 50 then .int .i64 m4 else if jz = 51 then .slice (some ⟨W.heap.size, 0, none⟩) 4 4 else v jz), (fun jz => if jz = 42 then W.heap.size else g jz), rfl, ⟨(fun _ => below_on (hR.st hk) hb), (fun h => absurd (upd_back h rfl) (by simp [hk])), hR.ar.keepM rfl (fun h j hj => upd_on (h j hj)), hR.f0.keep rfl, hR.f1.keep rfl, hR.f2.keep rfl, hR.f3.keep rfl, hR.f4.keep rfl, hR.f5.keep rfl, hR.f6.keep rfl, hR.f7.keep rfl, hR.f8.keep rfl, hR.f9.keep rfl, hR.f10.keep rfl, hR.f11.keep rfl, hR.f12.keep rfl, hR.f13.keep rfl, hR.f14.keep rfl, hR.f15.keep rfl, hR.f16.keep rfl, hR.f17.keep rfl, hR.f18.keep rfl, hR.f19.keep rfl, hR.f20.keep rfl, hR.f21.keep rfl, hR.f22.keep rfl, hR.f23.keep rfl, hR.f24.keep rfl, hR.f25.keep rfl, (fun _ => rfl), hR.f27.keep rfl, hR.f28.keep rfl, hR.f29.keep rfl, hR.f30.keep rfl, (fun _ => rfl), hR.f32.keep rfl, hR.f33.keep rfl, hR.f34.keep rfl, hR.f35.keep rfl, (fun _ => rfl), hR.f37.keep rfl, hR.f38.keep rfl, hR.f39.keep rfl, hR.f40.keep rfl, (fun _ => rfl), (fun _ => rfl), hR.f43.keep rfl, hR.f44.keep rfl, hR.f45.keep rfl, hR.f46.keep rfl, hR.f48.keep rfl, hR.b20.keepM rfl (fun h => ⟨h.1, h.2.on hb⟩), (fun _ => ⟨hz, hrow⟩), (fun h _ => by have h1 := (hR.b20 (upd_back h rfl)).2.1; exact Nat.ne_of_lt h1)⟩⟩
    refine EachOf.cons [42] rfl (by kernel_rfl) ?_ ?_
    · rintro L A W ⟨v, g, rfl, hR⟩ hi hw K hK
      have hk : L 47 = false := hR.ar.not hi rfl
      have e42 := hR.f42 (hw 42 (by simp))
      simp only [e42]
      clear e42
      have hrw := (hR.b42 (hw 42 (by simp))).2
      go_simp
      go_at_call 47
      (with_reducible refine ((GR _ _ hrw).out).mono ?_)
      rintro e w2 ⟨rfl, rfl⟩
      go_simp
      refine hK.out _ _ ?_
      exact ⟨(fun jz => if jz = 51 then .slice (some ⟨g 42, 0, none⟩) 4 4 else if jz = 52 then .int .i64 tg else v jz), g, rfl, ⟨(fun h => hR.st (upd_false h)), hR.sr.keep rfl, hR.ar.keepM rfl (fun h j hj => upd_on (h j hj)), hR.f0.keep rfl, hR.f1.keep rfl, hR.f2.keep rfl, hR.f3.keep rfl, hR.f4.keep rfl, hR.f5.keep rfl, hR.f6.keep rfl, hR.f7.keep rfl, hR.f8.keep rfl, hR.f9.keep rfl, hR.f10.keep rfl, hR.f11.keep rfl, hR.f12.keep rfl, hR.f13.keep rfl, hR.f14.keep rfl, hR.f15.keep rfl, hR.f16.keep rfl, hR.f17.keep rfl, hR.f18.keep rfl, hR.f19.keep rfl, hR.f20.keep rfl, hR.f21.keep rfl, hR.f22.keep rfl, hR.f23.keep rfl, hR.f24.keep rfl, hR.f25.keep rfl, hR.f26.keep rfl, hR.f27.keep rfl, hR.f28.keep rfl, hR.f29.keep rfl, hR.f30.keep rfl, hR.f31.keep rfl, hR.f32.keep rfl, hR.f33.keep rfl, hR.f34.keep rfl, hR.f35.keep rfl, hR.f36.keep rfl, hR.f37.keep rfl, hR.f38.keep rfl, hR.f39.keep rfl, hR.f40.keep rfl, hR.f41.keep rfl, (fun _ => rfl), (fun _ => rfl), hR.f44.keep rfl, hR.f45.keep rfl, hR.f46.keep rfl, hR.f48.keep rfl, hR.b20.keep rfl, hR.b42.keep rfl, hR.n20_42.keep rfl rfl⟩⟩
    refine EachOf.cons [21, 43] rfl (by kernel_rfl) ?_ ?_
    · rintro L A W ⟨v, g, rfl, hR⟩ hi hw K hK
      have hk : L 47 = false := hR.ar.not hi rfl
      have e21 := hR.f21 (hw 21 (by simp))
      have e43 := hR.f43 (hw 43 (by simp))
      simp only [e21, e43]
      clear e21 e43
      go_simp
      go_at_call 46
      (with_reducible refine ((CF _).out).mono ?_)
      rintro e w2 ⟨rfl, hb⟩
      go_simp
      refine hK.out _ _ ?_
      exact ⟨(fun jz => if jz = 30 then .int .i64 tl else if jz = 52 then .int .i64 tg else if jz = 53 then .tuple #[.agg #[.int .i64 n, .int .i64 d], .int .i64 e] else v jz), g, rfl, ⟨(fun _ => below_on (hR.st hk) hb), (fun h => absurd (upd_back h rfl) (by simp [hk])), hR.ar.keepM rfl (fun h j hj => upd_on (h j hj)), hR.f0.keep rfl, hR.f1.keep rfl, hR.f2.keep rfl, hR.f3.keep rfl, hR.f4.keep rfl, hR.f5.keep rfl, hR.f6.keep rfl, hR.f7.keep rfl, hR.f8.keep rfl, hR.f9.keep rfl, hR.f10.keep rfl, hR.f11.keep rfl, hR.f12.keep rfl, hR.f13.keep rfl, hR.f14.keep rfl, hR.f15.keep rfl, hR.f16.keep rfl, hR.f17.keep rfl, hR.f18.keep rfl, hR.f19.keep rfl, hR.f20.keep rfl, (fun _ => rfl), hR.f22.keep rfl, hR.f23.keep rfl, hR.f24.keep rfl, hR.f25.keep rfl, hR.f26.keep rfl, hR.f27.keep rfl, hR.f28.keep rfl, hR.f29.keep rfl, hR.f30.keep rfl, hR.f31.keep rfl, hR.f32.keep rfl, hR.f33.keep rfl, hR.f34.keep rfl, hR.f35.keep rfl, hR.f36.keep rfl, hR.f37.keep rfl, hR.f38.keep rfl, hR.f39.keep rfl, hR.f40.keep rfl, hR.f41.keep rfl, hR.f42.keep rfl, (fun _ => rfl), (fun _ => rfl), hR.f45.keep rfl, hR.f46.keep rfl, hR.f48.keep rfl, hR.b20.keepM rfl (fun h => ⟨h.1, h.2.on hb⟩), hR.b42.keepM rfl (fun h => ⟨h.1, h.2.on hb⟩), hR.n20_42.keep rfl rfl⟩⟩
    refine EachOf.cons [44] rfl (by kernel_rfl) ?_ ?_
    · rintro L A W ⟨v, g, rfl, hR⟩ hi hw K hK
      have hk : L 47 = false := hR.ar.not hi rfl
      have e44 := hR.f44 (hw 44 (by simp))
      simp only [e44]
      clear e44
      go_simp
      refine hK.out _ _ ?_
      exact ⟨(fun jz => if jz = 53 then .tuple #[.agg #[.int .i64 n, .int .i64 d], .int .i64 e] else if jz = 54 then .agg #[.int .i64 n, .int .i64 d] else v jz), g, rfl, ⟨(fun h => hR.st (upd_false h)), hR.sr.keep rfl, hR.ar.keepM rfl (fun h j hj => upd_on (h j hj)), hR.f0.keep rfl, hR.f1.keep rfl, hR.f2.keep rfl, hR.f3.keep rfl, hR.f4.keep rfl, hR.f5.keep rfl, hR.f6.keep rfl, hR.f7.keep rfl, hR.f8.keep rfl, hR.f9.keep rfl, hR.f10.keep rfl, hR.f11.keep rfl, hR.f12.keep rfl, hR.f13.keep rfl, hR.f14.keep rfl, hR.f15.keep rfl, hR.f16.keep rfl, hR.f17.keep rfl, hR.f18.keep rfl, hR.f19.keep rfl, hR.f20.keep rfl, hR.f21.keep rfl, hR.f22.keep rfl, hR.f23.keep rfl, hR.f24.keep rfl, hR.f25.keep rfl, hR.f26.keep rfl, hR.f27.keep rfl, hR.f28.keep rfl, hR.f29.keep rfl, hR.f30.keep rfl, hR.f31.keep rfl, hR.f32.keep rfl, hR.f33.keep rfl, hR.f34.keep rfl, hR.f35.keep rfl, hR.f36.keep rfl, hR.f37.keep rfl, hR.f38.keep rfl, hR.f39.keep rfl, hR.f40.keep rfl, hR.f41.keep rfl, hR.f42.keep rfl, hR.f43.keep rfl, (fun _ => rfl), (fun _ => rfl), hR.f46.keep rfl, hR.f48.keep rfl, hR.b20.keep rfl, hR.b42.keep rfl, hR.n20_42.keep rfl rfl⟩⟩
    refine EachOf.cons [44] rfl (by kernel_rfl) ?_ ?_
    · rintro L A W ⟨v, g, rfl, hR⟩ hi hw K hK
      have hk : L 47 = false := hR.ar.not hi rfl
      have e44 := hR.f44 (hw 44 (by simp))
      simp only [e44]
      clear e44
      go_simp
      refine hK.out _ _ ?_
      exact ⟨(fun jz => if jz = 53 then .tuple #[.agg #[.int .i64 n, .int .i64 d], .int .i64 e] else if jz = 55 then .int .i64 e else v jz), g, rfl, ⟨(fun h => hR.st (upd_false h)), hR.sr.keep rfl, hR.ar.keepM rfl (fun h j hj => upd_on (h j hj)), hR.f0.keep rfl, hR.f1.keep rfl, hR.f2.keep rfl, hR.f3.keep rfl, hR.f4.keep rfl, hR.f5.keep rfl, hR.f6.keep rfl, hR.f7.keep rfl, hR.f8.keep rfl, hR.f9.keep rfl, hR.f10.keep rfl, hR.f11.keep rfl, hR.f12.keep rfl, hR.f13.keep rfl, hR.f14.keep rfl, hR.f15.keep rfl, hR.f16.keep rfl, hR.f17.keep rfl, hR.f18.keep rfl, hR.f19.keep rfl, hR.f20.keep rfl, hR.f21.keep rfl, hR.f22.keep rfl, hR.f23.keep rfl, hR.f24.keep rfl, hR.f25.keep rfl, hR.f26.keep rfl, hR.f27.keep rfl, hR.f28.keep rfl, hR.f29.keep rfl, hR.f30.keep rfl, hR.f31.keep rfl, hR.f32.keep rfl, hR.f33.keep rfl, hR.f34.keep rfl, hR.f35.keep rfl, hR.f36.keep rfl, hR.f37.keep rfl, hR.f38.keep rfl, hR.f39.keep rfl, hR.f40.keep rfl, hR.f41.keep rfl, hR.f42.keep rfl, hR.f43.keep rfl, (fun _ => rfl), hR.f45.keep rfl, (fun _ => rfl), hR.f48.keep rfl, hR.b20.keep rfl, hR.b42.keep rfl, hR.n20_42.keep rfl rfl⟩⟩
    refine EachOf.cons [0, 1, 2, 3, 4, 5, 6, 7, 8, 9, 10, 11, 12, 13, 14, 15, 16, 17, 18, 19, 20, 21, 22, 23, 24, 25, 26, 27, 28, 29, 30, 31, 32, 33, 34, 35, 36, 37, 38, 39, 40, 41, 42, 43, 44, 45, 46] rfl (by kernel_rfl) ?_ ?_
    · rintro L A W ⟨v, g, rfl, hR⟩ hi hw K hK
      have e45 := hR.f45 (hw 45 (by simp))
      simp only [e45]
      clear e45
      obtain ⟨l5, p5, q5⟩ := HR.out.on (hR.st hi)
      obtain ⟨r5, s5⟩ := HF.out.on HR.out.1 (hR.st hi)
      go_simp
      refine hK.out _ _ ?_
      exact ⟨(fun jz => if jz = 54 then .agg #[.int .i64 n, .int .i64 d] else v jz), g, rfl, ⟨(fun h => by simp [upd_self] at h), (fun _ => ⟨W, hR.st hi, rfl⟩), (fun _ j hj => upd_on (hw j hj)), hR.f0.keep rfl, hR.f1.keep rfl, hR.f2.keep rfl, hR.f3.keep rfl, hR.f4.keep rfl, hR.f5.keep rfl, hR.f6.keep rfl, hR.f7.keep rfl, hR.f8.keep rfl, hR.f9.keep rfl, hR.f10.keep rfl, hR.f11.keep rfl, hR.f12.keep rfl, hR.f13.keep rfl, hR.f14.keep rfl, hR.f15.keep rfl, hR.f16.keep rfl, hR.f17.keep rfl, hR.f18.keep rfl, hR.f19.keep rfl, hR.f20.keep rfl, hR.f21.keep rfl, hR.f22.keep rfl, hR.f23.keep rfl, hR.f24.keep rfl, hR.f25.keep rfl, hR.f26.keep rfl, hR.f27.keep rfl, hR.f28.keep rfl, hR.f29.keep rfl, hR.f30.keep rfl, hR.f31.keep rfl, hR.f32.keep rfl, hR.f33.keep rfl, hR.f34.keep rfl, hR.f35.keep rfl, hR.f36.keep rfl, hR.f37.keep rfl, hR.f38.keep rfl, hR.f39.keep rfl, hR.f40.keep rfl, hR.f41.keep rfl, hR.f42.keep rfl, hR.f43.keep rfl, hR.f44.keep rfl, (fun _ => rfl), hR.f46.keep rfl, hR.f48.keep rfl, hR.b20.keepM rfl (fun h => ⟨h.1, h.2.far (by have h2 := HR.out.1; omega)⟩), hR.b42.keepM rfl (fun h => ⟨h.1, h.2.far (by have h2 := HR.out.1; omega)⟩), hR.n20_42.keep rfl rfl⟩⟩
    refine EachOf.cons [46] rfl (by kernel_rfl) ?_ ?_
    · rintro L A W ⟨v, g, rfl, hR⟩ hi hw K hK
      have e46 := hR.f46 (hw 46 (by simp))
      simp only [e46]
      clear e46
      go_simp
      refine hK.out _ _ ?_
      exact ⟨(fun jz => if jz = 55 then .int .i64 e else if jz = 5 then .int .i64 e else v jz), g, rfl, ⟨(fun h => hR.st (upd_false h)), hR.sr.keep rfl, hR.ar.keepM rfl (fun h j hj => upd_on (h j hj)), hR.f0.keep rfl, hR.f1.keep rfl, hR.f2.keep rfl, hR.f3.keep rfl, hR.f4.keep rfl, hR.f5.keep rfl, hR.f6.keep rfl, hR.f7.keep rfl, hR.f8.keep rfl, hR.f9.keep rfl, hR.f10.keep rfl, hR.f11.keep rfl, hR.f12.keep rfl, hR.f13.keep rfl, hR.f14.keep rfl, hR.f15.keep rfl, hR.f16.keep rfl, hR.f17.keep rfl, hR.f18.keep rfl, hR.f19.keep rfl, hR.f20.keep rfl, hR.f21.keep rfl, hR.f22.keep rfl, hR.f23.keep rfl, hR.f24.keep rfl, hR.f25.keep rfl, hR.f26.keep rfl, hR.f27.keep rfl, hR.f28.keep rfl, hR.f29.keep rfl, hR.f30.keep rfl, hR.f31.keep rfl, hR.f32.keep rfl, hR.f33.keep rfl, hR.f34.keep rfl, hR.f35.keep rfl, hR.f36.keep rfl, hR.f37.keep rfl, hR.f38.keep rfl, hR.f39.keep rfl, hR.f40.keep rfl, hR.f41.keep rfl, hR.f42.keep rfl, hR.f43.keep rfl, hR.f44.keep rfl, hR.f45.keep rfl, (fun _ => rfl), (fun _ => rfl), hR.b20.keep rfl, hR.b42.keep rfl, hR.n20_42.keep rfl rfl⟩⟩
    exact EachOf.nil
  rintro L A W1 ⟨v1, g1, rfl, hR⟩ hL
  have e48 := hR.f48 (hL 48 (by simp))
  obtain ⟨W1b, hb9, hw9⟩ := hR.sr (hL 47 (by simp))
  have hst := Lib.hid hb9
  clear hb9
  simp only [e48]
  clear e48
  clear hR hL
  replace HF := Lib.hid (HF.out.on HR.out.1 hst.out)
  replace HA := Lib.hid (HA.out.on hst.out)
  replace HB := Lib.hid (HB.out.on hst.out)
  replace HR := Lib.hid (HR.out.on hst.out)
  replace HW := Lib.hid (below_on HW.out hst.out)
  subst hw9
  obtain ⟨_, r8, r9⟩ := Blk.set (x := .int .i64 n) (y := .int .i64 d) HR.out
  have hB := ((HW.out.setCell (p := ⟨w.heap.size + 1 + 1, 0, none⟩) (by simp; omega) (.int .i64 n)).setCell (p := ⟨w.heap.size + 1 + 1, 1, none⟩) (by simp; omega) (.int .i64 d))
  go_wp2
  refine bodyPost_ret (by simp [results, Try.results26, go_sem, r8, r9]; try rfl) rfl ?_
  exact ⟨rfl, hB⟩

set_option maxRecDepth 100000 in
set_option maxHeartbeats 8000000 in
theorem rdiv_zero (al ah bl bh : Int) (w : World) (NO : ∀ w, Hid (Calls Try.prog 35 #[.agg #[.int .i64 bl, .int .i64 bh], .int .i64 0] w fun e w' => e = .returned (.bool true) ∧ Below w.heap.size w w')) :
    Calls Try.prog 26 #[.agg #[.int .i64 al, .int .i64 ah], .agg #[.int .i64 bl, .int .i64 bh]] w fun r w' => r = .returned (.tuple #[.agg #[.int .i64 0, .int .i64 0], .int .i64 16]) ∧ Below w.heap.size w w' := by
  go_enter Try.func26, Try.ntmps26
  go_upto_region 1 with fail
  obtain ⟨W0, hW0⟩ : ∃ W0, W0 = ((w.alloc (Obj.cells #[Value.int IntKind.i64 al, Value.int IntKind.i64 ah] 23)).alloc (Obj.cells #[Value.int IntKind.i64 bl, Value.int IntKind.i64 bh] 23)).alloc (Obj.cells #[Value.int IntKind.i64 0, Value.int IntKind.i64 0] 23) := ⟨_, rfl⟩
  rw [← hW0]
  obtain ⟨HA, HB, HR, HF, HW⟩ := sargs w al ah bl bh W0 hW0
  clear hW0
  obtain ⟨_, HBp, HBq⟩ := HB.out
  go_wp2_with fail
  (with_reducible refine ((NO _).out).mono ?_)
  rintro e y1 ⟨rfl, hb⟩
  clear HBp HBq
  have hst := Lib.hid hb
  clear hb
  replace HF := Lib.hid (HF.out.on HR.out.1 hst.out)
  replace HA := Lib.hid (HA.out.on hst.out)
  replace HB := Lib.hid (HB.out.on hst.out)
  replace HR := Lib.hid (HR.out.on hst.out)
  replace HW := Lib.hid (below_on HW.out hst.out)
  clear hst
  clear NO
  obtain ⟨HFp, HFq⟩ := HF.out
  obtain ⟨_, HRp, HRq⟩ := HR.out
  obtain ⟨_, r8, r9⟩ := Blk.set (x := .int .i64 0) (y := .int .i64 0) HR.out
  have hB := ((HW.out.setCell (p := ⟨w.heap.size + 1 + 1, 0, none⟩) (by simp; omega) (.int .i64 0)).setCell (p := ⟨w.heap.size + 1 + 1, 1, none⟩) (by simp; omega) (.int .i64 0))
  go_wp2
  refine bodyPost_ret (by simp [results, Try.results26, go_sem, r8, r9]; try rfl) rfl ?_
  exact ⟨rfl, hB⟩

theorem rDiv_any (al ah bl bh : Int) (w : World) (va : SVd al ah) (vb : SVd bl bh) (n d e : Int) (h : divS al ah bl bh = (n, d, e)) :
    Calls Try.prog 26 #[.agg #[.int .i64 al, .int .i64 ah], .agg #[.int .i64 bl, .int .i64 bh]] w fun r w' => r = .returned (.tuple #[.agg #[.int .i64 n, .int .i64 d], .int .i64 e]) ∧ Below w.heap.size w w' := by
  by_cases hb : bl ≤ 0 ∧ 0 ≤ bh
  · unfold divS at h
    rw [if_pos hb] at h
    obtain ⟨q1, q2, q3⟩ := three h
    subst q1; subst q2; subst q3
    exact rdiv_zero al ah bl bh w (fun w => Lib.hid (has_yes bl bh 0 w hb.1 hb.2))
  · rw [divS_eq va vb hb] at h
    obtain ⟨va1, va2, va3⟩ := va
    obtain ⟨vb1, vb2, vb3⟩ := vb
    have i1 := fl_in (x := al) (c := bl) (by omega) (by omega) (by omega)
    have j1 := ce_in (x := al) (c := bl) (by omega) (by omega) (by omega)
    have i2 := fl_in (x := al) (c := bh) (by omega) (by omega) (by omega)
    have j2 := ce_in (x := al) (c := bh) (by omega) (by omega) (by omega)
    have i3 := fl_in (x := ah) (c := bl) (by omega) (by omega) (by omega)
    have j3 := ce_in (x := ah) (c := bl) (by omega) (by omega) (by omega)
    have i4 := fl_in (x := ah) (c := bh) (by omega) (by omega) (by omega)
    have j4 := ce_in (x := ah) (c := bh) (by omega) (by omega) (by omega)
    have hle := fl_le_ce (x := al) (c := bl) (by omega)
    have hf : fitS (min (min (min (fl al bl) (fl al bh)) (fl ah bl)) (fl ah bh)) (max (max (max (ce al bl) (ce al bh)) (ce ah bl)) (ce ah bh)) = (n, d, e) := by
      unfold fitS
      unfold inM at *
      rw [if_pos (sV_yes ⟨by omega, by omega, by omega⟩)]
      exact h
    exact rdiv_walk al ah bl bh _ _ _ _ _ _ _ _ _ _ n d e w
      (fun w => Lib.hid (rFloor_any al bl w (by omega) (by omega) (by omega) (by omega) (by omega)))
      (fun w => Lib.hid (rFloor_any al bh w (by omega) (by omega) (by omega) (by omega) (by omega)))
      (fun w => Lib.hid (rFloor_any ah bl w (by omega) (by omega) (by omega) (by omega) (by omega)))
      (fun w => Lib.hid (rFloor_any ah bh w (by omega) (by omega) (by omega) (by omega) (by omega)))
      (fun w => Lib.hid (rCeil_any al bl w (by omega) (by omega) (by omega) (by omega) (by omega)))
      (fun w => Lib.hid (rCeil_any al bh w (by omega) (by omega) (by omega) (by omega) (by omega)))
      (fun w => Lib.hid (rCeil_any ah bl w (by omega) (by omega) (by omega) (by omega) (by omega)))
      (fun w => Lib.hid (rCeil_any ah bh w (by omega) (by omega) (by omega) (by omega) (by omega)))
      (fun w b hc => least4 _ _ _ _ w b hc) (fun w b hc => great4 _ _ _ _ w b hc)
      (fun w => Lib.hid (Fits_s _ _ w n d e hf))
      (fun w => Lib.hid (has_no bl bh 0 w hb))

end Go.Proofs.Ytknbhpnhnhfbpaa
