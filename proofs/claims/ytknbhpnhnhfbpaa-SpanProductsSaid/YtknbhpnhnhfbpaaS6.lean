/- Layer 3: what the laws' helpers return; the chapter's examples hold. -/
import Derived.Test.YtknbhpnhnhfbpaaS5
import Derived.Test.YtknbhpnhnhfbpaaREach
namespace Go.Proofs.Ytknbhpnhnhfbpaa
set_option linter.unusedVariables false
open Go.RowKit Go.Shelf

set_option maxHeartbeats 1000000 in
theorem of_any (a b : Int) (w : World)  :
    Calls Try.prog 39 #[.int .i64 a, .int .i64 b] w fun e w' => e = .returned (.agg #[.int .i64 (min a b), .int .i64 (max a b)]) ∧ Below w.heap.size w w' := by
  go_enter Try.func39, Try.ntmps39
  go_wp2
  refine bodyPost_ret (by simp [results, Try.results39, go_sem]; try rfl) rfl ?_
  exact ⟨rfl, (by repeat' (first | (with_reducible exact Below.refl _ _) | (with_reducible assumption) | (with_reducible refine Below.alloc ?_ ?_ _) | (with_reducible refine below_drew ?_ _) | (with_reducible refine Below.drew ?_) | (with_reducible refine Below.setCell ?_ ?_ _) | go_size))⟩

set_option maxHeartbeats 1000000 in
theorem wrong_yes  (w : World)  :
    Calls Try.prog 18 #[.agg #[.int .i64 0, .int .i64 0], .int .i64 1] w fun e w' => e = .returned (.bool true) ∧ Below w.heap.size w w' := by
  go_enter Try.func18, Try.ntmps18
  go_wp2
  go_ret
  exact ⟨rfl, (by repeat' (first | (with_reducible exact Below.refl _ _) | (with_reducible assumption) | (with_reducible refine Below.alloc ?_ ?_ _) | (with_reducible refine below_drew ?_ _) | (with_reducible refine Below.drew ?_) | (with_reducible refine Below.setCell ?_ ?_ _) | go_size))⟩

set_option maxHeartbeats 1000000 in
theorem inside_yes (al ah bl bh : Int) (w : World) (h0 : bl ≤ al) (h1 : ah ≤ bh) :
    Calls Try.prog 41 #[.agg #[.int .i64 al, .int .i64 ah], .agg #[.int .i64 bl, .int .i64 bh]] w fun e w' => e = .returned (.bool true) ∧ Below w.heap.size w w' := by
  go_enter Try.func41, Try.ntmps41
  go_wp2
  go_ret
  exact ⟨rfl, (by repeat' (first | (with_reducible exact Below.refl _ _) | (with_reducible assumption) | (with_reducible refine Below.alloc ?_ ?_ _) | (with_reducible refine below_drew ?_ _) | (with_reducible refine Below.drew ?_) | (with_reducible refine Below.setCell ?_ ?_ _) | go_size))⟩

theorem exs_mul : sMul (-2) 3 4 5 = (-10, 15, 0) := by decide +kernel
theorem exs_div : sDiv 7 8 (-3) (-2) = (-4, -2, 0) := by decide +kernel
theorem exs_root : sRoot 2 17 1 5 = (1, 5, 0) := by decide +kernel
theorem exs_of : sOf 7 3 10 = (23, 24, 0) := by decide +kernel
theorem exs_times : sTimes (-1) 1 5 (-3) = (-2, 2, 0) := by decide +kernel

structure Awk6R (w : World) (Wc : World) (L : Nat → Bool) (v : Nat → Value) (g : Nat → Nat) (W : World) : Prop where
  st : Below Wc.heap.size Wc W
  f0 : Had L 0 (v 38 = .int .i64 0)
  f1 : Had L 1 (v 39 = .bool true)
  f2 : Had L 2 (v 40 = .bool true)
  f3 : Had L 3 (v 41 = .agg #[.int .i64 (-10), .int .i64 15])
  f4 : Had L 4 (v 42 = .agg #[.int .i64 (-10), .int .i64 15])
  f5 : Had L 5 (v 43 = .bool true)
  f6 : Had L 6 (v 44 = .bool true)
  f7 : Had L 7 (v 45 = .bool true)
  f8 : Had L 8 (v 46 = .int .i64 0)
  f9 : Had L 9 (v 47 = .bool true)
  f10 : Had L 10 (v 48 = .bool true)
  f11 : Had L 11 (v 49 = .bool true)
  f12 : Had L 12 (v 50 = .agg #[.int .i64 (-4), .int .i64 (-2)])
  f13 : Had L 13 (v 51 = .agg #[.int .i64 (-4), .int .i64 (-2)])
  f14 : Had L 14 (v 52 = .bool true)
  f15 : Had L 15 (v 53 = .bool true)
  f16 : Had L 16 (v 54 = .bool true)
  f17 : Had L 17 (v 55 = .int .i64 0)
  f18 : Had L 18 (v 56 = .bool true)
  f19 : Had L 19 (v 57 = .bool true)
  f20 : Had L 20 (v 58 = .bool true)
  f21 : Had L 21 (v 59 = .agg #[.int .i64 1, .int .i64 5])
  f22 : Had L 22 (v 60 = .agg #[.int .i64 1, .int .i64 5])
  f23 : Had L 23 (v 61 = .bool true)
  f24 : Had L 24 (v 62 = .bool true)
  f25 : Had L 25 (v 63 = .bool true)
  f26 : Had L 26 (v 64 = .int .i64 0)
  f27 : Had L 27 (v 65 = .bool true)
  f28 : Had L 28 (v 66 = .bool true)
  f29 : Had L 29 (v 67 = .bool true)
  f30 : Had L 30 (v 68 = .agg #[.int .i64 23, .int .i64 24])
  f31 : Had L 31 (v 69 = .agg #[.int .i64 23, .int .i64 24])
  f32 : Had L 32 (v 70 = .bool true)
  f33 : Had L 33 (v 71 = .bool true)
  f34 : Had L 34 (v 72 = .bool true)
  f35 : Had L 35 (v 73 = .int .i64 0)
  f36 : Had L 36 (v 74 = .bool true)
  f37 : Had L 37 (v 75 = .bool true)
  f38 : Had L 38 (v 76 = .bool true)
  f39 : Had L 39 (v 77 = .agg #[.int .i64 (-2), .int .i64 2])
  f40 : Had L 40 (v 78 = .agg #[.int .i64 (-2), .int .i64 2])
  f41 : Had L 41 (v 79 = .bool true)
  f42 : Had L 42 (v 80 = .bool true)
  f43 : Had L 43 (v 0 = .bool true)

set_option maxRecDepth 100000 in
set_option maxHeartbeats 16000000 in
theorem sawake_any (w : World) : Calls Try.prog 11 #[] w fun e w' => e = .returned (.bool true) ∧ Below w.heap.size w w' := by
  have HW := Lib.hid (Below.refl w.heap.size w)
  have O0 : ∀ w, Hid (Calls Try.prog 39 #[.int .i64 (-2), .int .i64 3] w fun e w' => e = .returned (.agg #[.int .i64 (-2), .int .i64 3]) ∧ Below w.heap.size w w') := fun w => of_any (-2) (3) w
  have O1 : ∀ w, Hid (Calls Try.prog 39 #[.int .i64 4, .int .i64 5] w fun e w' => e = .returned (.agg #[.int .i64 4, .int .i64 5]) ∧ Below w.heap.size w w') := fun w => of_any (4) (5) w
  have O2 : ∀ w, Hid (Calls Try.prog 39 #[.int .i64 7, .int .i64 8] w fun e w' => e = .returned (.agg #[.int .i64 7, .int .i64 8]) ∧ Below w.heap.size w w') := fun w => of_any (7) (8) w
  have O3 : ∀ w, Hid (Calls Try.prog 39 #[.int .i64 (-3), .int .i64 (-2)] w fun e w' => e = .returned (.agg #[.int .i64 (-3), .int .i64 (-2)]) ∧ Below w.heap.size w w') := fun w => of_any (-3) (-2) w
  have O4 : ∀ w, Hid (Calls Try.prog 39 #[.int .i64 2, .int .i64 17] w fun e w' => e = .returned (.agg #[.int .i64 2, .int .i64 17]) ∧ Below w.heap.size w w') := fun w => of_any (2) (17) w
  have O5 : ∀ w, Hid (Calls Try.prog 39 #[.int .i64 (-1), .int .i64 1] w fun e w' => e = .returned (.agg #[.int .i64 (-1), .int .i64 1]) ∧ Below w.heap.size w w') := fun w => of_any (-1) (1) w
  have O6 : ∀ w, Hid (Calls Try.prog 39 #[.int .i64 (-10), .int .i64 15] w fun e w' => e = .returned (.agg #[.int .i64 (-10), .int .i64 15]) ∧ Below w.heap.size w w') := fun w => of_any (-10) (15) w
  have O7 : ∀ w, Hid (Calls Try.prog 39 #[.int .i64 (-4), .int .i64 (-2)] w fun e w' => e = .returned (.agg #[.int .i64 (-4), .int .i64 (-2)]) ∧ Below w.heap.size w w') := fun w => of_any (-4) (-2) w
  have O8 : ∀ w, Hid (Calls Try.prog 39 #[.int .i64 1, .int .i64 5] w fun e w' => e = .returned (.agg #[.int .i64 1, .int .i64 5]) ∧ Below w.heap.size w w') := fun w => of_any (1) (5) w
  have O9 : ∀ w, Hid (Calls Try.prog 39 #[.int .i64 23, .int .i64 24] w fun e w' => e = .returned (.agg #[.int .i64 23, .int .i64 24]) ∧ Below w.heap.size w w') := fun w => of_any (23) (24) w
  have O10 : ∀ w, Hid (Calls Try.prog 39 #[.int .i64 (-2), .int .i64 2] w fun e w' => e = .returned (.agg #[.int .i64 (-2), .int .i64 2]) ∧ Below w.heap.size w w') := fun w => of_any (-2) (2) w
  have CM := fun w => Lib.hid (sMul_any (-2) 3 4 5 w (by decide) (by decide) (by decide) (by decide) (by decide) (by decide) (by decide) (by decide) (-10) 15 0 exs_mul)
  have CD := fun w => Lib.hid (sDiv_any 7 8 (-3) (-2) w (by decide) (by decide) (by decide) (by decide) (by decide) (by decide) (by decide) (by decide) (-4) (-2) 0 exs_div)
  have CR := fun w => Lib.hid (sRoot_any 2 17 1 5 w (fun _ _ => ⟨⟨by decide, by decide, by decide, by decide⟩, ⟨by decide, by decide, by decide, .inr (by decide)⟩⟩) 1 5 0 exs_root)
  have CO := fun w => Lib.hid (sOf_any 7 3 10 w (by decide) (by decide) (by decide) (by decide) 23 24 0 exs_of)
  have CT := fun w => Lib.hid (sTimes_any (-1) 1 5 (-3) w (-2) 2 0 exs_times)
  go_enter Try.func11, Try.ntmps11
  go_wp2_with fail
  (with_reducible refine ((O0 _).out).mono ?_)
  rintro e y1 ⟨rfl, hb⟩
  have hst := Lib.hid hb
  clear hb
  replace HW := Lib.hid (below_on HW.out hst.out)
  clear hst
  go_wp2_with fail
  (with_reducible refine ((O1 _).out).mono ?_)
  rintro e y2 ⟨rfl, hb⟩
  have hst := Lib.hid hb
  clear hb
  replace HW := Lib.hid (below_on HW.out hst.out)
  clear hst
  go_wp2_with fail
  (with_reducible refine ((CM _).out).mono ?_)
  rintro e y3 ⟨rfl, hb⟩
  have hst := Lib.hid hb
  clear hb
  replace HW := Lib.hid (below_on HW.out hst.out)
  clear hst
  go_wp2_with fail
  (with_reducible refine ((O2 _).out).mono ?_)
  rintro e y4 ⟨rfl, hb⟩
  have hst := Lib.hid (below_on (w := y3) (by repeat' (first | (with_reducible exact Below.refl _ _) | (with_reducible assumption) | (with_reducible refine Below.alloc ?_ ?_ _) | (with_reducible refine below_drew ?_ _) | (with_reducible refine Below.drew ?_) | (with_reducible refine Below.setCell ?_ ?_ _) | go_size)) hb)
  have B0 : Hid (Blk y4 (y3.heap.size) (.int .i64 (-10)) (.int .i64 15)) := Blk.on (W := (y3.alloc (Obj.cells #[Value.int .i64 (-10), Value.int .i64 15] 23))) (by first | exact Blk.new _ _ _ _ | exact (Blk.new _ _ _ _).alloc _ | exact ((Blk.new _ _ _ _).alloc _).alloc _ | (have hn := Blk.new (y3) (Value.int .i64 (-10)) (Value.int .i64 15) 23; simpa using hn)) hb
  clear hb
  replace HW := Lib.hid (below_on HW.out hst.out)
  clear hst
  go_wp2_with fail
  (with_reducible refine ((O3 _).out).mono ?_)
  rintro e y5 ⟨rfl, hb⟩
  have hst := Lib.hid hb
  clear hb
  replace B0 := Lib.hid (B0.out.on hst.out)
  replace HW := Lib.hid (below_on HW.out hst.out)
  clear hst
  go_wp2_with fail
  (with_reducible refine ((CD _).out).mono ?_)
  rintro e y6 ⟨rfl, hb⟩
  have hst := Lib.hid hb
  clear hb
  replace B0 := Lib.hid (B0.out.on hst.out)
  replace HW := Lib.hid (below_on HW.out hst.out)
  clear hst
  go_wp2_with fail
  (with_reducible refine ((O4 _).out).mono ?_)
  rintro e y7 ⟨rfl, hb⟩
  have hst := Lib.hid (below_on (w := y6) (by repeat' (first | (with_reducible exact Below.refl _ _) | (with_reducible assumption) | (with_reducible refine Below.alloc ?_ ?_ _) | (with_reducible refine below_drew ?_ _) | (with_reducible refine Below.drew ?_) | (with_reducible refine Below.setCell ?_ ?_ _) | go_size)) hb)
  have B1 : Hid (Blk y7 (y6.heap.size) (.int .i64 (-4)) (.int .i64 (-2))) := Blk.on (W := (y6.alloc (Obj.cells #[Value.int .i64 (-4), Value.int .i64 (-2)] 23))) (by first | exact Blk.new _ _ _ _ | exact (Blk.new _ _ _ _).alloc _ | exact ((Blk.new _ _ _ _).alloc _).alloc _ | (have hn := Blk.new (y6) (Value.int .i64 (-4)) (Value.int .i64 (-2)) 23; simpa using hn)) hb
  clear hb
  replace B0 := Lib.hid (B0.out.on hst.out)
  replace HW := Lib.hid (below_on HW.out hst.out)
  clear hst
  go_wp2_with fail
  (with_reducible refine ((CR _).out).mono ?_)
  rintro e y8 ⟨rfl, hb⟩
  have hst := Lib.hid hb
  clear hb
  replace B0 := Lib.hid (B0.out.on hst.out)
  replace B1 := Lib.hid (B1.out.on hst.out)
  replace HW := Lib.hid (below_on HW.out hst.out)
  clear hst
  go_wp2_with fail
  (with_reducible refine ((CO _).out).mono ?_)
  rintro e y9 ⟨rfl, hb⟩
  have hst := Lib.hid (below_on (w := y8) (by repeat' (first | (with_reducible exact Below.refl _ _) | (with_reducible assumption) | (with_reducible refine Below.alloc ?_ ?_ _) | (with_reducible refine below_drew ?_ _) | (with_reducible refine Below.drew ?_) | (with_reducible refine Below.setCell ?_ ?_ _) | go_size)) hb)
  have B2 : Hid (Blk y9 (y8.heap.size) (.int .i64 1) (.int .i64 5)) := Blk.on (W := (y8.alloc (Obj.cells #[Value.int .i64 1, Value.int .i64 5] 23))) (by first | exact Blk.new _ _ _ _ | exact (Blk.new _ _ _ _).alloc _ | exact ((Blk.new _ _ _ _).alloc _).alloc _ | (have hn := Blk.new (y8) (Value.int .i64 1) (Value.int .i64 5) 23; simpa using hn)) hb
  clear hb
  replace B0 := Lib.hid (B0.out.on hst.out)
  replace B1 := Lib.hid (B1.out.on hst.out)
  replace HW := Lib.hid (below_on HW.out hst.out)
  clear hst
  go_wp2_with fail
  (with_reducible refine ((O5 _).out).mono ?_)
  rintro e y10 ⟨rfl, hb⟩
  have hst := Lib.hid (below_on (w := y9) (by repeat' (first | (with_reducible exact Below.refl _ _) | (with_reducible assumption) | (with_reducible refine Below.alloc ?_ ?_ _) | (with_reducible refine below_drew ?_ _) | (with_reducible refine Below.drew ?_) | (with_reducible refine Below.setCell ?_ ?_ _) | go_size)) hb)
  have B3 : Hid (Blk y10 (y9.heap.size) (.int .i64 23) (.int .i64 24)) := Blk.on (W := (y9.alloc (Obj.cells #[Value.int .i64 23, Value.int .i64 24] 23))) (by first | exact Blk.new _ _ _ _ | exact (Blk.new _ _ _ _).alloc _ | exact ((Blk.new _ _ _ _).alloc _).alloc _ | (have hn := Blk.new (y9) (Value.int .i64 23) (Value.int .i64 24) 23; simpa using hn)) hb
  clear hb
  replace B0 := Lib.hid (B0.out.on hst.out)
  replace B1 := Lib.hid (B1.out.on hst.out)
  replace B2 := Lib.hid (B2.out.on hst.out)
  replace HW := Lib.hid (below_on HW.out hst.out)
  clear hst
  go_wp2_with fail
  (with_reducible refine ((CT _).out).mono ?_)
  rintro e y11 ⟨rfl, hb⟩
  have hst := Lib.hid hb
  clear hb
  replace B0 := Lib.hid (B0.out.on hst.out)
  replace B1 := Lib.hid (B1.out.on hst.out)
  replace B2 := Lib.hid (B2.out.on hst.out)
  replace B3 := Lib.hid (B3.out.on hst.out)
  replace HW := Lib.hid (below_on HW.out hst.out)
  clear hst
  go_wp2_with fail
  obtain ⟨y12, hy⟩ : ∃ W, W = (y11.alloc (Obj.cells #[Value.int .i64 (-2), Value.int .i64 2] 23)) := ⟨_, rfl⟩
  rw [← hy]
  have hb : Below ((y11.alloc (Obj.cells #[Value.int .i64 (-2), Value.int .i64 2] 23))).heap.size ((y11.alloc (Obj.cells #[Value.int .i64 (-2), Value.int .i64 2] 23))) y12 := by rw [hy]; exact Below.refl _ _
  clear hy
  have hst := Lib.hid (below_on (w := y11) (by repeat' (first | (with_reducible exact Below.refl _ _) | (with_reducible assumption) | (with_reducible refine Below.alloc ?_ ?_ _) | (with_reducible refine below_drew ?_ _) | (with_reducible refine Below.drew ?_) | (with_reducible refine Below.setCell ?_ ?_ _) | go_size)) hb)
  have B4 : Hid (Blk y12 (y11.heap.size) (.int .i64 (-2)) (.int .i64 2)) := Blk.on (W := (y11.alloc (Obj.cells #[Value.int .i64 (-2), Value.int .i64 2] 23))) (by first | exact Blk.new _ _ _ _ | exact (Blk.new _ _ _ _).alloc _ | (have hn := Blk.new (y11) (Value.int .i64 (-2)) (Value.int .i64 2) 23; simpa using hn)) hb
  clear hb
  replace B0 := Lib.hid (B0.out.on hst.out)
  replace B1 := Lib.hid (B1.out.on hst.out)
  replace B2 := Lib.hid (B2.out.on hst.out)
  replace B3 := Lib.hid (B3.out.on hst.out)
  replace HW := Lib.hid (below_on HW.out hst.out)
  clear hst
  refine wp_region_each (fun L A W => ∃ (v : Nat → Value) (g : Nat → Nat), A = ⟨#[v 0, .pointer (some ⟨y3.heap.size, 0, none⟩), .int .i64 0, .pointer (some ⟨y6.heap.size, 0, none⟩), .int .i64 0, .pointer (some ⟨y8.heap.size, 0, none⟩), .int .i64 0, .pointer (some ⟨y9.heap.size, 0, none⟩), .int .i64 0, .pointer (some ⟨y11.heap.size, 0, none⟩), .int .i64 0, .tuple #[.agg #[.int .i64 (-10), .int .i64 15], .int .i64 0], .agg #[.int .i64 (-2), .int .i64 3], .agg #[.int .i64 4, .int .i64 5], .tuple #[.agg #[.int .i64 (-10), .int .i64 15], .int .i64 0], .agg #[.int .i64 (-10), .int .i64 15], .int .i64 0, .tuple #[.agg #[.int .i64 (-4), .int .i64 (-2)], .int .i64 0], .agg #[.int .i64 7, .int .i64 8], .agg #[.int .i64 (-3), .int .i64 (-2)], .tuple #[.agg #[.int .i64 (-4), .int .i64 (-2)], .int .i64 0], .agg #[.int .i64 (-4), .int .i64 (-2)], .int .i64 0, .tuple #[.agg #[.int .i64 1, .int .i64 5], .int .i64 0], .agg #[.int .i64 2, .int .i64 17], .tuple #[.agg #[.int .i64 1, .int .i64 5], .int .i64 0], .agg #[.int .i64 1, .int .i64 5], .int .i64 0, .tuple #[.agg #[.int .i64 23, .int .i64 24], .int .i64 0], .agg #[.int .i64 7, .int .i64 3], .tuple #[.agg #[.int .i64 23, .int .i64 24], .int .i64 0], .agg #[.int .i64 23, .int .i64 24], .int .i64 0, .tuple #[.agg #[.int .i64 (-2), .int .i64 2], .int .i64 0], .agg #[.int .i64 (-1), .int .i64 1], .tuple #[.agg #[.int .i64 (-2), .int .i64 2], .int .i64 0], .agg #[.int .i64 (-2), .int .i64 2], .int .i64 0, v 38, v 39, v 40, v 41, v 42, v 43, v 44, v 45, v 46, v 47, v 48, v 49, v 50, v 51, v 52, v 53, v 54, v 55, v 56, v 57, v 58, v 59, v 60, v 61, v 62, v 63, v 64, v 65, v 66, v 67, v 68, v 69, v 70, v 71, v 72, v 73, v 74, v 75, v 76, v 77, v 78, v 79, v 80], []⟩ ∧ Awk6R w y12 L v g W) (by kernel_rfl) (by kernel_rfl) ⟨fun j => if j = 0 then .bool false else undef, fun _ => 0, rfl, ⟨Below.drew (Below.refl _ _), Had.none, Had.none, Had.none, Had.none, Had.none, Had.none, Had.none, Had.none, Had.none, Had.none, Had.none, Had.none, Had.none, Had.none, Had.none, Had.none, Had.none, Had.none, Had.none, Had.none, Had.none, Had.none, Had.none, Had.none, Had.none, Had.none, Had.none, Had.none, Had.none, Had.none, Had.none, Had.none, Had.none, Had.none, Had.none, Had.none, Had.none, Had.none, Had.none, Had.none, Had.none, Had.none, Had.none, Had.none⟩⟩ (rs := [0, 1, 2, 3, 4, 5, 6, 7, 8, 9, 10, 11, 12, 13, 14, 15, 16, 17, 18, 19, 20, 21, 22, 23, 24, 25, 26, 27, 28, 29, 30, 31, 32, 33, 34, 35, 36, 37, 38, 39, 40, 41, 42, 43]) (by kernel_rfl) ?_ ?_
  · refine EachOf.cons [] rfl (by kernel_rfl) ?_ ?_
    · rintro L A W ⟨v, g, rfl, hR⟩ hi hw K hK
      go_simp
      refine hK.out _ _ ?_
      exact ⟨(fun j => if j = 38 then .int .i64 0 else v j), g, rfl, ⟨hR.st, (fun _ => rfl), hR.f1.keep rfl, hR.f2.keep rfl, hR.f3.keep rfl, hR.f4.keep rfl, hR.f5.keep rfl, hR.f6.keep rfl, hR.f7.keep rfl, hR.f8.keep rfl, hR.f9.keep rfl, hR.f10.keep rfl, hR.f11.keep rfl, hR.f12.keep rfl, hR.f13.keep rfl, hR.f14.keep rfl, hR.f15.keep rfl, hR.f16.keep rfl, hR.f17.keep rfl, hR.f18.keep rfl, hR.f19.keep rfl, hR.f20.keep rfl, hR.f21.keep rfl, hR.f22.keep rfl, hR.f23.keep rfl, hR.f24.keep rfl, hR.f25.keep rfl, hR.f26.keep rfl, hR.f27.keep rfl, hR.f28.keep rfl, hR.f29.keep rfl, hR.f30.keep rfl, hR.f31.keep rfl, hR.f32.keep rfl, hR.f33.keep rfl, hR.f34.keep rfl, hR.f35.keep rfl, hR.f36.keep rfl, hR.f37.keep rfl, hR.f38.keep rfl, hR.f39.keep rfl, hR.f40.keep rfl, hR.f41.keep rfl, hR.f42.keep rfl, hR.f43.keep rfl⟩⟩
    refine EachOf.cons [0] rfl (by kernel_rfl) ?_ ?_
    · rintro L A W ⟨v, g, rfl, hR⟩ hi hw K hK
      have e0 := hR.f0 (hw 0 (by simp))
      simp only [e0]
      clear e0
      go_simp
      refine hK.out _ _ ?_
      exact ⟨(fun j => if j = 38 then .int .i64 0 else if j = 39 then .bool true else v j), g, rfl, ⟨hR.st, (fun _ => rfl), (fun _ => rfl), hR.f2.keep rfl, hR.f3.keep rfl, hR.f4.keep rfl, hR.f5.keep rfl, hR.f6.keep rfl, hR.f7.keep rfl, hR.f8.keep rfl, hR.f9.keep rfl, hR.f10.keep rfl, hR.f11.keep rfl, hR.f12.keep rfl, hR.f13.keep rfl, hR.f14.keep rfl, hR.f15.keep rfl, hR.f16.keep rfl, hR.f17.keep rfl, hR.f18.keep rfl, hR.f19.keep rfl, hR.f20.keep rfl, hR.f21.keep rfl, hR.f22.keep rfl, hR.f23.keep rfl, hR.f24.keep rfl, hR.f25.keep rfl, hR.f26.keep rfl, hR.f27.keep rfl, hR.f28.keep rfl, hR.f29.keep rfl, hR.f30.keep rfl, hR.f31.keep rfl, hR.f32.keep rfl, hR.f33.keep rfl, hR.f34.keep rfl, hR.f35.keep rfl, hR.f36.keep rfl, hR.f37.keep rfl, hR.f38.keep rfl, hR.f39.keep rfl, hR.f40.keep rfl, hR.f41.keep rfl, hR.f42.keep rfl, hR.f43.keep rfl⟩⟩
    refine EachOf.cons [1] rfl (by kernel_rfl) ?_ ?_
    · rintro L A W ⟨v, g, rfl, hR⟩ hi hw K hK
      have e1 := hR.f1 (hw 1 (by simp))
      simp only [e1]
      clear e1
      go_simp
      refine hK.out _ _ ?_
      exact ⟨(fun j => if j = 39 then .bool true else if j = 40 then .bool true else v j), g, rfl, ⟨hR.st, hR.f0.keep rfl, (fun _ => rfl), (fun _ => rfl), hR.f3.keep rfl, hR.f4.keep rfl, hR.f5.keep rfl, hR.f6.keep rfl, hR.f7.keep rfl, hR.f8.keep rfl, hR.f9.keep rfl, hR.f10.keep rfl, hR.f11.keep rfl, hR.f12.keep rfl, hR.f13.keep rfl, hR.f14.keep rfl, hR.f15.keep rfl, hR.f16.keep rfl, hR.f17.keep rfl, hR.f18.keep rfl, hR.f19.keep rfl, hR.f20.keep rfl, hR.f21.keep rfl, hR.f22.keep rfl, hR.f23.keep rfl, hR.f24.keep rfl, hR.f25.keep rfl, hR.f26.keep rfl, hR.f27.keep rfl, hR.f28.keep rfl, hR.f29.keep rfl, hR.f30.keep rfl, hR.f31.keep rfl, hR.f32.keep rfl, hR.f33.keep rfl, hR.f34.keep rfl, hR.f35.keep rfl, hR.f36.keep rfl, hR.f37.keep rfl, hR.f38.keep rfl, hR.f39.keep rfl, hR.f40.keep rfl, hR.f41.keep rfl, hR.f42.keep rfl, hR.f43.keep rfl⟩⟩
    refine EachOf.cons [2] rfl (by kernel_rfl) ?_ ?_
    · rintro L A W ⟨v, g, rfl, hR⟩ hi hw K hK
      have e2 := hR.f2 (hw 2 (by simp))
      simp only [e2]
      clear e2
      obtain ⟨_, q0, q1⟩ := B0.out.on hR.st
      go_simp
      refine hK.out _ _ ?_
      exact ⟨(fun j => if j = 40 then .bool true else if j = 41 then .agg #[.int .i64 (-10), .int .i64 15] else v j), g, rfl, ⟨hR.st, hR.f0.keep rfl, hR.f1.keep rfl, (fun _ => rfl), (fun _ => rfl), hR.f4.keep rfl, hR.f5.keep rfl, hR.f6.keep rfl, hR.f7.keep rfl, hR.f8.keep rfl, hR.f9.keep rfl, hR.f10.keep rfl, hR.f11.keep rfl, hR.f12.keep rfl, hR.f13.keep rfl, hR.f14.keep rfl, hR.f15.keep rfl, hR.f16.keep rfl, hR.f17.keep rfl, hR.f18.keep rfl, hR.f19.keep rfl, hR.f20.keep rfl, hR.f21.keep rfl, hR.f22.keep rfl, hR.f23.keep rfl, hR.f24.keep rfl, hR.f25.keep rfl, hR.f26.keep rfl, hR.f27.keep rfl, hR.f28.keep rfl, hR.f29.keep rfl, hR.f30.keep rfl, hR.f31.keep rfl, hR.f32.keep rfl, hR.f33.keep rfl, hR.f34.keep rfl, hR.f35.keep rfl, hR.f36.keep rfl, hR.f37.keep rfl, hR.f38.keep rfl, hR.f39.keep rfl, hR.f40.keep rfl, hR.f41.keep rfl, hR.f42.keep rfl, hR.f43.keep rfl⟩⟩
    refine EachOf.cons [2] rfl (by kernel_rfl) ?_ ?_
    · rintro L A W ⟨v, g, rfl, hR⟩ hi hw K hK
      have e2 := hR.f2 (hw 2 (by simp))
      simp only [e2]
      clear e2
      go_simp
      go_at_call 39
      (with_reducible refine ((O6 _).out).mono ?_)
      rintro e w2 ⟨rfl, hb⟩
      go_simp
      refine hK.out _ _ ?_
      exact ⟨(fun j => if j = 40 then .bool true else if j = 42 then .agg #[.int .i64 (-10), .int .i64 15] else v j), g, rfl, ⟨below_on hR.st hb, hR.f0.keep rfl, hR.f1.keep rfl, (fun _ => rfl), hR.f3.keep rfl, (fun _ => rfl), hR.f5.keep rfl, hR.f6.keep rfl, hR.f7.keep rfl, hR.f8.keep rfl, hR.f9.keep rfl, hR.f10.keep rfl, hR.f11.keep rfl, hR.f12.keep rfl, hR.f13.keep rfl, hR.f14.keep rfl, hR.f15.keep rfl, hR.f16.keep rfl, hR.f17.keep rfl, hR.f18.keep rfl, hR.f19.keep rfl, hR.f20.keep rfl, hR.f21.keep rfl, hR.f22.keep rfl, hR.f23.keep rfl, hR.f24.keep rfl, hR.f25.keep rfl, hR.f26.keep rfl, hR.f27.keep rfl, hR.f28.keep rfl, hR.f29.keep rfl, hR.f30.keep rfl, hR.f31.keep rfl, hR.f32.keep rfl, hR.f33.keep rfl, hR.f34.keep rfl, hR.f35.keep rfl, hR.f36.keep rfl, hR.f37.keep rfl, hR.f38.keep rfl, hR.f39.keep rfl, hR.f40.keep rfl, hR.f41.keep rfl, hR.f42.keep rfl, hR.f43.keep rfl⟩⟩
    refine EachOf.cons [3, 4, 2] rfl (by kernel_rfl) ?_ ?_
    · rintro L A W ⟨v, g, rfl, hR⟩ hi hw K hK
      have e3 := hR.f3 (hw 3 (by simp))
      have e4 := hR.f4 (hw 4 (by simp))
      have e2 := hR.f2 (hw 2 (by simp))
      simp only [e3, e4, e2]
      clear e3 e4 e2
      go_simp
      refine hK.out _ _ ?_
      exact ⟨(fun j => if j = 41 then .agg #[.int .i64 (-10), .int .i64 15] else if j = 42 then .agg #[.int .i64 (-10), .int .i64 15] else if j = 40 then .bool true else if j = 43 then .bool true else v j), g, rfl, ⟨hR.st, hR.f0.keep rfl, hR.f1.keep rfl, (fun _ => rfl), (fun _ => rfl), (fun _ => rfl), (fun _ => rfl), hR.f6.keep rfl, hR.f7.keep rfl, hR.f8.keep rfl, hR.f9.keep rfl, hR.f10.keep rfl, hR.f11.keep rfl, hR.f12.keep rfl, hR.f13.keep rfl, hR.f14.keep rfl, hR.f15.keep rfl, hR.f16.keep rfl, hR.f17.keep rfl, hR.f18.keep rfl, hR.f19.keep rfl, hR.f20.keep rfl, hR.f21.keep rfl, hR.f22.keep rfl, hR.f23.keep rfl, hR.f24.keep rfl, hR.f25.keep rfl, hR.f26.keep rfl, hR.f27.keep rfl, hR.f28.keep rfl, hR.f29.keep rfl, hR.f30.keep rfl, hR.f31.keep rfl, hR.f32.keep rfl, hR.f33.keep rfl, hR.f34.keep rfl, hR.f35.keep rfl, hR.f36.keep rfl, hR.f37.keep rfl, hR.f38.keep rfl, hR.f39.keep rfl, hR.f40.keep rfl, hR.f41.keep rfl, hR.f42.keep rfl, hR.f43.keep rfl⟩⟩
    refine EachOf.cons [2, 5] rfl (by kernel_rfl) ?_ ?_
    · rintro L A W ⟨v, g, rfl, hR⟩ hi hw K hK
      have e2 := hR.f2 (hw 2 (by simp))
      have e5 := hR.f5 (hw 5 (by simp))
      simp only [e2, e5]
      clear e2 e5
      go_simp
      refine hK.out _ _ ?_
      exact ⟨(fun j => if j = 40 then .bool true else if j = 43 then .bool true else if j = 44 then .bool true else v j), g, rfl, ⟨hR.st, hR.f0.keep rfl, hR.f1.keep rfl, (fun _ => rfl), hR.f3.keep rfl, hR.f4.keep rfl, (fun _ => rfl), (fun _ => rfl), hR.f7.keep rfl, hR.f8.keep rfl, hR.f9.keep rfl, hR.f10.keep rfl, hR.f11.keep rfl, hR.f12.keep rfl, hR.f13.keep rfl, hR.f14.keep rfl, hR.f15.keep rfl, hR.f16.keep rfl, hR.f17.keep rfl, hR.f18.keep rfl, hR.f19.keep rfl, hR.f20.keep rfl, hR.f21.keep rfl, hR.f22.keep rfl, hR.f23.keep rfl, hR.f24.keep rfl, hR.f25.keep rfl, hR.f26.keep rfl, hR.f27.keep rfl, hR.f28.keep rfl, hR.f29.keep rfl, hR.f30.keep rfl, hR.f31.keep rfl, hR.f32.keep rfl, hR.f33.keep rfl, hR.f34.keep rfl, hR.f35.keep rfl, hR.f36.keep rfl, hR.f37.keep rfl, hR.f38.keep rfl, hR.f39.keep rfl, hR.f40.keep rfl, hR.f41.keep rfl, hR.f42.keep rfl, hR.f43.keep rfl⟩⟩
    refine EachOf.cons [6] rfl (by kernel_rfl) ?_ ?_
    · rintro L A W ⟨v, g, rfl, hR⟩ hi hw K hK
      have e6 := hR.f6 (hw 6 (by simp))
      simp only [e6]
      clear e6
      go_simp
      refine hK.out _ _ ?_
      exact ⟨(fun j => if j = 44 then .bool true else if j = 45 then .bool true else v j), g, rfl, ⟨hR.st, hR.f0.keep rfl, hR.f1.keep rfl, hR.f2.keep rfl, hR.f3.keep rfl, hR.f4.keep rfl, hR.f5.keep rfl, (fun _ => rfl), (fun _ => rfl), hR.f8.keep rfl, hR.f9.keep rfl, hR.f10.keep rfl, hR.f11.keep rfl, hR.f12.keep rfl, hR.f13.keep rfl, hR.f14.keep rfl, hR.f15.keep rfl, hR.f16.keep rfl, hR.f17.keep rfl, hR.f18.keep rfl, hR.f19.keep rfl, hR.f20.keep rfl, hR.f21.keep rfl, hR.f22.keep rfl, hR.f23.keep rfl, hR.f24.keep rfl, hR.f25.keep rfl, hR.f26.keep rfl, hR.f27.keep rfl, hR.f28.keep rfl, hR.f29.keep rfl, hR.f30.keep rfl, hR.f31.keep rfl, hR.f32.keep rfl, hR.f33.keep rfl, hR.f34.keep rfl, hR.f35.keep rfl, hR.f36.keep rfl, hR.f37.keep rfl, hR.f38.keep rfl, hR.f39.keep rfl, hR.f40.keep rfl, hR.f41.keep rfl, hR.f42.keep rfl, hR.f43.keep rfl⟩⟩
    refine EachOf.cons [7] rfl (by kernel_rfl) ?_ ?_
    · rintro L A W ⟨v, g, rfl, hR⟩ hi hw K hK
      have e7 := hR.f7 (hw 7 (by simp))
      simp only [e7]
      clear e7
      go_simp
      refine hK.out _ _ ?_
      exact ⟨(fun j => if j = 45 then .bool true else if j = 46 then .int .i64 0 else v j), g, rfl, ⟨hR.st, hR.f0.keep rfl, hR.f1.keep rfl, hR.f2.keep rfl, hR.f3.keep rfl, hR.f4.keep rfl, hR.f5.keep rfl, hR.f6.keep rfl, (fun _ => rfl), (fun _ => rfl), hR.f9.keep rfl, hR.f10.keep rfl, hR.f11.keep rfl, hR.f12.keep rfl, hR.f13.keep rfl, hR.f14.keep rfl, hR.f15.keep rfl, hR.f16.keep rfl, hR.f17.keep rfl, hR.f18.keep rfl, hR.f19.keep rfl, hR.f20.keep rfl, hR.f21.keep rfl, hR.f22.keep rfl, hR.f23.keep rfl, hR.f24.keep rfl, hR.f25.keep rfl, hR.f26.keep rfl, hR.f27.keep rfl, hR.f28.keep rfl, hR.f29.keep rfl, hR.f30.keep rfl, hR.f31.keep rfl, hR.f32.keep rfl, hR.f33.keep rfl, hR.f34.keep rfl, hR.f35.keep rfl, hR.f36.keep rfl, hR.f37.keep rfl, hR.f38.keep rfl, hR.f39.keep rfl, hR.f40.keep rfl, hR.f41.keep rfl, hR.f42.keep rfl, hR.f43.keep rfl⟩⟩
    refine EachOf.cons [8, 7] rfl (by kernel_rfl) ?_ ?_
    · rintro L A W ⟨v, g, rfl, hR⟩ hi hw K hK
      have e8 := hR.f8 (hw 8 (by simp))
      have e7 := hR.f7 (hw 7 (by simp))
      simp only [e8, e7]
      clear e8 e7
      go_simp
      refine hK.out _ _ ?_
      exact ⟨(fun j => if j = 46 then .int .i64 0 else if j = 45 then .bool true else if j = 47 then .bool true else v j), g, rfl, ⟨hR.st, hR.f0.keep rfl, hR.f1.keep rfl, hR.f2.keep rfl, hR.f3.keep rfl, hR.f4.keep rfl, hR.f5.keep rfl, hR.f6.keep rfl, (fun _ => rfl), (fun _ => rfl), (fun _ => rfl), hR.f10.keep rfl, hR.f11.keep rfl, hR.f12.keep rfl, hR.f13.keep rfl, hR.f14.keep rfl, hR.f15.keep rfl, hR.f16.keep rfl, hR.f17.keep rfl, hR.f18.keep rfl, hR.f19.keep rfl, hR.f20.keep rfl, hR.f21.keep rfl, hR.f22.keep rfl, hR.f23.keep rfl, hR.f24.keep rfl, hR.f25.keep rfl, hR.f26.keep rfl, hR.f27.keep rfl, hR.f28.keep rfl, hR.f29.keep rfl, hR.f30.keep rfl, hR.f31.keep rfl, hR.f32.keep rfl, hR.f33.keep rfl, hR.f34.keep rfl, hR.f35.keep rfl, hR.f36.keep rfl, hR.f37.keep rfl, hR.f38.keep rfl, hR.f39.keep rfl, hR.f40.keep rfl, hR.f41.keep rfl, hR.f42.keep rfl, hR.f43.keep rfl⟩⟩
    refine EachOf.cons [7, 9] rfl (by kernel_rfl) ?_ ?_
    · rintro L A W ⟨v, g, rfl, hR⟩ hi hw K hK
      have e7 := hR.f7 (hw 7 (by simp))
      have e9 := hR.f9 (hw 9 (by simp))
      simp only [e7, e9]
      clear e7 e9
      go_simp
      refine hK.out _ _ ?_
      exact ⟨(fun j => if j = 45 then .bool true else if j = 47 then .bool true else if j = 48 then .bool true else v j), g, rfl, ⟨hR.st, hR.f0.keep rfl, hR.f1.keep rfl, hR.f2.keep rfl, hR.f3.keep rfl, hR.f4.keep rfl, hR.f5.keep rfl, hR.f6.keep rfl, (fun _ => rfl), hR.f8.keep rfl, (fun _ => rfl), (fun _ => rfl), hR.f11.keep rfl, hR.f12.keep rfl, hR.f13.keep rfl, hR.f14.keep rfl, hR.f15.keep rfl, hR.f16.keep rfl, hR.f17.keep rfl, hR.f18.keep rfl, hR.f19.keep rfl, hR.f20.keep rfl, hR.f21.keep rfl, hR.f22.keep rfl, hR.f23.keep rfl, hR.f24.keep rfl, hR.f25.keep rfl, hR.f26.keep rfl, hR.f27.keep rfl, hR.f28.keep rfl, hR.f29.keep rfl, hR.f30.keep rfl, hR.f31.keep rfl, hR.f32.keep rfl, hR.f33.keep rfl, hR.f34.keep rfl, hR.f35.keep rfl, hR.f36.keep rfl, hR.f37.keep rfl, hR.f38.keep rfl, hR.f39.keep rfl, hR.f40.keep rfl, hR.f41.keep rfl, hR.f42.keep rfl, hR.f43.keep rfl⟩⟩
    refine EachOf.cons [10] rfl (by kernel_rfl) ?_ ?_
    · rintro L A W ⟨v, g, rfl, hR⟩ hi hw K hK
      have e10 := hR.f10 (hw 10 (by simp))
      simp only [e10]
      clear e10
      go_simp
      refine hK.out _ _ ?_
      exact ⟨(fun j => if j = 48 then .bool true else if j = 49 then .bool true else v j), g, rfl, ⟨hR.st, hR.f0.keep rfl, hR.f1.keep rfl, hR.f2.keep rfl, hR.f3.keep rfl, hR.f4.keep rfl, hR.f5.keep rfl, hR.f6.keep rfl, hR.f7.keep rfl, hR.f8.keep rfl, hR.f9.keep rfl, (fun _ => rfl), (fun _ => rfl), hR.f12.keep rfl, hR.f13.keep rfl, hR.f14.keep rfl, hR.f15.keep rfl, hR.f16.keep rfl, hR.f17.keep rfl, hR.f18.keep rfl, hR.f19.keep rfl, hR.f20.keep rfl, hR.f21.keep rfl, hR.f22.keep rfl, hR.f23.keep rfl, hR.f24.keep rfl, hR.f25.keep rfl, hR.f26.keep rfl, hR.f27.keep rfl, hR.f28.keep rfl, hR.f29.keep rfl, hR.f30.keep rfl, hR.f31.keep rfl, hR.f32.keep rfl, hR.f33.keep rfl, hR.f34.keep rfl, hR.f35.keep rfl, hR.f36.keep rfl, hR.f37.keep rfl, hR.f38.keep rfl, hR.f39.keep rfl, hR.f40.keep rfl, hR.f41.keep rfl, hR.f42.keep rfl, hR.f43.keep rfl⟩⟩
    refine EachOf.cons [11] rfl (by kernel_rfl) ?_ ?_
    · rintro L A W ⟨v, g, rfl, hR⟩ hi hw K hK
      have e11 := hR.f11 (hw 11 (by simp))
      simp only [e11]
      clear e11
      obtain ⟨_, q0, q1⟩ := B1.out.on hR.st
      go_simp
      refine hK.out _ _ ?_
      exact ⟨(fun j => if j = 49 then .bool true else if j = 50 then .agg #[.int .i64 (-4), .int .i64 (-2)] else v j), g, rfl, ⟨hR.st, hR.f0.keep rfl, hR.f1.keep rfl, hR.f2.keep rfl, hR.f3.keep rfl, hR.f4.keep rfl, hR.f5.keep rfl, hR.f6.keep rfl, hR.f7.keep rfl, hR.f8.keep rfl, hR.f9.keep rfl, hR.f10.keep rfl, (fun _ => rfl), (fun _ => rfl), hR.f13.keep rfl, hR.f14.keep rfl, hR.f15.keep rfl, hR.f16.keep rfl, hR.f17.keep rfl, hR.f18.keep rfl, hR.f19.keep rfl, hR.f20.keep rfl, hR.f21.keep rfl, hR.f22.keep rfl, hR.f23.keep rfl, hR.f24.keep rfl, hR.f25.keep rfl, hR.f26.keep rfl, hR.f27.keep rfl, hR.f28.keep rfl, hR.f29.keep rfl, hR.f30.keep rfl, hR.f31.keep rfl, hR.f32.keep rfl, hR.f33.keep rfl, hR.f34.keep rfl, hR.f35.keep rfl, hR.f36.keep rfl, hR.f37.keep rfl, hR.f38.keep rfl, hR.f39.keep rfl, hR.f40.keep rfl, hR.f41.keep rfl, hR.f42.keep rfl, hR.f43.keep rfl⟩⟩
    refine EachOf.cons [11] rfl (by kernel_rfl) ?_ ?_
    · rintro L A W ⟨v, g, rfl, hR⟩ hi hw K hK
      have e11 := hR.f11 (hw 11 (by simp))
      simp only [e11]
      clear e11
      go_simp
      go_at_call 39
      (with_reducible refine ((O7 _).out).mono ?_)
      rintro e w2 ⟨rfl, hb⟩
      go_simp
      refine hK.out _ _ ?_
      exact ⟨(fun j => if j = 49 then .bool true else if j = 51 then .agg #[.int .i64 (-4), .int .i64 (-2)] else v j), g, rfl, ⟨below_on hR.st hb, hR.f0.keep rfl, hR.f1.keep rfl, hR.f2.keep rfl, hR.f3.keep rfl, hR.f4.keep rfl, hR.f5.keep rfl, hR.f6.keep rfl, hR.f7.keep rfl, hR.f8.keep rfl, hR.f9.keep rfl, hR.f10.keep rfl, (fun _ => rfl), hR.f12.keep rfl, (fun _ => rfl), hR.f14.keep rfl, hR.f15.keep rfl, hR.f16.keep rfl, hR.f17.keep rfl, hR.f18.keep rfl, hR.f19.keep rfl, hR.f20.keep rfl, hR.f21.keep rfl, hR.f22.keep rfl, hR.f23.keep rfl, hR.f24.keep rfl, hR.f25.keep rfl, hR.f26.keep rfl, hR.f27.keep rfl, hR.f28.keep rfl, hR.f29.keep rfl, hR.f30.keep rfl, hR.f31.keep rfl, hR.f32.keep rfl, hR.f33.keep rfl, hR.f34.keep rfl, hR.f35.keep rfl, hR.f36.keep rfl, hR.f37.keep rfl, hR.f38.keep rfl, hR.f39.keep rfl, hR.f40.keep rfl, hR.f41.keep rfl, hR.f42.keep rfl, hR.f43.keep rfl⟩⟩
    refine EachOf.cons [12, 13, 11] rfl (by kernel_rfl) ?_ ?_
    · rintro L A W ⟨v, g, rfl, hR⟩ hi hw K hK
      have e12 := hR.f12 (hw 12 (by simp))
      have e13 := hR.f13 (hw 13 (by simp))
      have e11 := hR.f11 (hw 11 (by simp))
      simp only [e12, e13, e11]
      clear e12 e13 e11
      go_simp
      refine hK.out _ _ ?_
      exact ⟨(fun j => if j = 50 then .agg #[.int .i64 (-4), .int .i64 (-2)] else if j = 51 then .agg #[.int .i64 (-4), .int .i64 (-2)] else if j = 49 then .bool true else if j = 52 then .bool true else v j), g, rfl, ⟨hR.st, hR.f0.keep rfl, hR.f1.keep rfl, hR.f2.keep rfl, hR.f3.keep rfl, hR.f4.keep rfl, hR.f5.keep rfl, hR.f6.keep rfl, hR.f7.keep rfl, hR.f8.keep rfl, hR.f9.keep rfl, hR.f10.keep rfl, (fun _ => rfl), (fun _ => rfl), (fun _ => rfl), (fun _ => rfl), hR.f15.keep rfl, hR.f16.keep rfl, hR.f17.keep rfl, hR.f18.keep rfl, hR.f19.keep rfl, hR.f20.keep rfl, hR.f21.keep rfl, hR.f22.keep rfl, hR.f23.keep rfl, hR.f24.keep rfl, hR.f25.keep rfl, hR.f26.keep rfl, hR.f27.keep rfl, hR.f28.keep rfl, hR.f29.keep rfl, hR.f30.keep rfl, hR.f31.keep rfl, hR.f32.keep rfl, hR.f33.keep rfl, hR.f34.keep rfl, hR.f35.keep rfl, hR.f36.keep rfl, hR.f37.keep rfl, hR.f38.keep rfl, hR.f39.keep rfl, hR.f40.keep rfl, hR.f41.keep rfl, hR.f42.keep rfl, hR.f43.keep rfl⟩⟩
    refine EachOf.cons [11, 14] rfl (by kernel_rfl) ?_ ?_
    · rintro L A W ⟨v, g, rfl, hR⟩ hi hw K hK
      have e11 := hR.f11 (hw 11 (by simp))
      have e14 := hR.f14 (hw 14 (by simp))
      simp only [e11, e14]
      clear e11 e14
      go_simp
      refine hK.out _ _ ?_
      exact ⟨(fun j => if j = 49 then .bool true else if j = 52 then .bool true else if j = 53 then .bool true else v j), g, rfl, ⟨hR.st, hR.f0.keep rfl, hR.f1.keep rfl, hR.f2.keep rfl, hR.f3.keep rfl, hR.f4.keep rfl, hR.f5.keep rfl, hR.f6.keep rfl, hR.f7.keep rfl, hR.f8.keep rfl, hR.f9.keep rfl, hR.f10.keep rfl, (fun _ => rfl), hR.f12.keep rfl, hR.f13.keep rfl, (fun _ => rfl), (fun _ => rfl), hR.f16.keep rfl, hR.f17.keep rfl, hR.f18.keep rfl, hR.f19.keep rfl, hR.f20.keep rfl, hR.f21.keep rfl, hR.f22.keep rfl, hR.f23.keep rfl, hR.f24.keep rfl, hR.f25.keep rfl, hR.f26.keep rfl, hR.f27.keep rfl, hR.f28.keep rfl, hR.f29.keep rfl, hR.f30.keep rfl, hR.f31.keep rfl, hR.f32.keep rfl, hR.f33.keep rfl, hR.f34.keep rfl, hR.f35.keep rfl, hR.f36.keep rfl, hR.f37.keep rfl, hR.f38.keep rfl, hR.f39.keep rfl, hR.f40.keep rfl, hR.f41.keep rfl, hR.f42.keep rfl, hR.f43.keep rfl⟩⟩
    refine EachOf.cons [15] rfl (by kernel_rfl) ?_ ?_
    · rintro L A W ⟨v, g, rfl, hR⟩ hi hw K hK
      have e15 := hR.f15 (hw 15 (by simp))
      simp only [e15]
      clear e15
      go_simp
      refine hK.out _ _ ?_
      exact ⟨(fun j => if j = 53 then .bool true else if j = 54 then .bool true else v j), g, rfl, ⟨hR.st, hR.f0.keep rfl, hR.f1.keep rfl, hR.f2.keep rfl, hR.f3.keep rfl, hR.f4.keep rfl, hR.f5.keep rfl, hR.f6.keep rfl, hR.f7.keep rfl, hR.f8.keep rfl, hR.f9.keep rfl, hR.f10.keep rfl, hR.f11.keep rfl, hR.f12.keep rfl, hR.f13.keep rfl, hR.f14.keep rfl, (fun _ => rfl), (fun _ => rfl), hR.f17.keep rfl, hR.f18.keep rfl, hR.f19.keep rfl, hR.f20.keep rfl, hR.f21.keep rfl, hR.f22.keep rfl, hR.f23.keep rfl, hR.f24.keep rfl, hR.f25.keep rfl, hR.f26.keep rfl, hR.f27.keep rfl, hR.f28.keep rfl, hR.f29.keep rfl, hR.f30.keep rfl, hR.f31.keep rfl, hR.f32.keep rfl, hR.f33.keep rfl, hR.f34.keep rfl, hR.f35.keep rfl, hR.f36.keep rfl, hR.f37.keep rfl, hR.f38.keep rfl, hR.f39.keep rfl, hR.f40.keep rfl, hR.f41.keep rfl, hR.f42.keep rfl, hR.f43.keep rfl⟩⟩
    refine EachOf.cons [16] rfl (by kernel_rfl) ?_ ?_
    · rintro L A W ⟨v, g, rfl, hR⟩ hi hw K hK
      have e16 := hR.f16 (hw 16 (by simp))
      simp only [e16]
      clear e16
      go_simp
      refine hK.out _ _ ?_
      exact ⟨(fun j => if j = 54 then .bool true else if j = 55 then .int .i64 0 else v j), g, rfl, ⟨hR.st, hR.f0.keep rfl, hR.f1.keep rfl, hR.f2.keep rfl, hR.f3.keep rfl, hR.f4.keep rfl, hR.f5.keep rfl, hR.f6.keep rfl, hR.f7.keep rfl, hR.f8.keep rfl, hR.f9.keep rfl, hR.f10.keep rfl, hR.f11.keep rfl, hR.f12.keep rfl, hR.f13.keep rfl, hR.f14.keep rfl, hR.f15.keep rfl, (fun _ => rfl), (fun _ => rfl), hR.f18.keep rfl, hR.f19.keep rfl, hR.f20.keep rfl, hR.f21.keep rfl, hR.f22.keep rfl, hR.f23.keep rfl, hR.f24.keep rfl, hR.f25.keep rfl, hR.f26.keep rfl, hR.f27.keep rfl, hR.f28.keep rfl, hR.f29.keep rfl, hR.f30.keep rfl, hR.f31.keep rfl, hR.f32.keep rfl, hR.f33.keep rfl, hR.f34.keep rfl, hR.f35.keep rfl, hR.f36.keep rfl, hR.f37.keep rfl, hR.f38.keep rfl, hR.f39.keep rfl, hR.f40.keep rfl, hR.f41.keep rfl, hR.f42.keep rfl, hR.f43.keep rfl⟩⟩
    refine EachOf.cons [17, 16] rfl (by kernel_rfl) ?_ ?_
    · rintro L A W ⟨v, g, rfl, hR⟩ hi hw K hK
      have e17 := hR.f17 (hw 17 (by simp))
      have e16 := hR.f16 (hw 16 (by simp))
      simp only [e17, e16]
      clear e17 e16
      go_simp
      refine hK.out _ _ ?_
      exact ⟨(fun j => if j = 55 then .int .i64 0 else if j = 54 then .bool true else if j = 56 then .bool true else v j), g, rfl, ⟨hR.st, hR.f0.keep rfl, hR.f1.keep rfl, hR.f2.keep rfl, hR.f3.keep rfl, hR.f4.keep rfl, hR.f5.keep rfl, hR.f6.keep rfl, hR.f7.keep rfl, hR.f8.keep rfl, hR.f9.keep rfl, hR.f10.keep rfl, hR.f11.keep rfl, hR.f12.keep rfl, hR.f13.keep rfl, hR.f14.keep rfl, hR.f15.keep rfl, (fun _ => rfl), (fun _ => rfl), (fun _ => rfl), hR.f19.keep rfl, hR.f20.keep rfl, hR.f21.keep rfl, hR.f22.keep rfl, hR.f23.keep rfl, hR.f24.keep rfl, hR.f25.keep rfl, hR.f26.keep rfl, hR.f27.keep rfl, hR.f28.keep rfl, hR.f29.keep rfl, hR.f30.keep rfl, hR.f31.keep rfl, hR.f32.keep rfl, hR.f33.keep rfl, hR.f34.keep rfl, hR.f35.keep rfl, hR.f36.keep rfl, hR.f37.keep rfl, hR.f38.keep rfl, hR.f39.keep rfl, hR.f40.keep rfl, hR.f41.keep rfl, hR.f42.keep rfl, hR.f43.keep rfl⟩⟩
    refine EachOf.cons [16, 18] rfl (by kernel_rfl) ?_ ?_
    · rintro L A W ⟨v, g, rfl, hR⟩ hi hw K hK
      have e16 := hR.f16 (hw 16 (by simp))
      have e18 := hR.f18 (hw 18 (by simp))
      simp only [e16, e18]
      clear e16 e18
      go_simp
      refine hK.out _ _ ?_
      exact ⟨(fun j => if j = 54 then .bool true else if j = 56 then .bool true else if j = 57 then .bool true else v j), g, rfl, ⟨hR.st, hR.f0.keep rfl, hR.f1.keep rfl, hR.f2.keep rfl, hR.f3.keep rfl, hR.f4.keep rfl, hR.f5.keep rfl, hR.f6.keep rfl, hR.f7.keep rfl, hR.f8.keep rfl, hR.f9.keep rfl, hR.f10.keep rfl, hR.f11.keep rfl, hR.f12.keep rfl, hR.f13.keep rfl, hR.f14.keep rfl, hR.f15.keep rfl, (fun _ => rfl), hR.f17.keep rfl, (fun _ => rfl), (fun _ => rfl), hR.f20.keep rfl, hR.f21.keep rfl, hR.f22.keep rfl, hR.f23.keep rfl, hR.f24.keep rfl, hR.f25.keep rfl, hR.f26.keep rfl, hR.f27.keep rfl, hR.f28.keep rfl, hR.f29.keep rfl, hR.f30.keep rfl, hR.f31.keep rfl, hR.f32.keep rfl, hR.f33.keep rfl, hR.f34.keep rfl, hR.f35.keep rfl, hR.f36.keep rfl, hR.f37.keep rfl, hR.f38.keep rfl, hR.f39.keep rfl, hR.f40.keep rfl, hR.f41.keep rfl, hR.f42.keep rfl, hR.f43.keep rfl⟩⟩
    refine EachOf.cons [19] rfl (by kernel_rfl) ?_ ?_
    · rintro L A W ⟨v, g, rfl, hR⟩ hi hw K hK
      have e19 := hR.f19 (hw 19 (by simp))
      simp only [e19]
      clear e19
      go_simp
      refine hK.out _ _ ?_
      exact ⟨(fun j => if j = 57 then .bool true else if j = 58 then .bool true else v j), g, rfl, ⟨hR.st, hR.f0.keep rfl, hR.f1.keep rfl, hR.f2.keep rfl, hR.f3.keep rfl, hR.f4.keep rfl, hR.f5.keep rfl, hR.f6.keep rfl, hR.f7.keep rfl, hR.f8.keep rfl, hR.f9.keep rfl, hR.f10.keep rfl, hR.f11.keep rfl, hR.f12.keep rfl, hR.f13.keep rfl, hR.f14.keep rfl, hR.f15.keep rfl, hR.f16.keep rfl, hR.f17.keep rfl, hR.f18.keep rfl, (fun _ => rfl), (fun _ => rfl), hR.f21.keep rfl, hR.f22.keep rfl, hR.f23.keep rfl, hR.f24.keep rfl, hR.f25.keep rfl, hR.f26.keep rfl, hR.f27.keep rfl, hR.f28.keep rfl, hR.f29.keep rfl, hR.f30.keep rfl, hR.f31.keep rfl, hR.f32.keep rfl, hR.f33.keep rfl, hR.f34.keep rfl, hR.f35.keep rfl, hR.f36.keep rfl, hR.f37.keep rfl, hR.f38.keep rfl, hR.f39.keep rfl, hR.f40.keep rfl, hR.f41.keep rfl, hR.f42.keep rfl, hR.f43.keep rfl⟩⟩
    refine EachOf.cons [20] rfl (by kernel_rfl) ?_ ?_
    · rintro L A W ⟨v, g, rfl, hR⟩ hi hw K hK
      have e20 := hR.f20 (hw 20 (by simp))
      simp only [e20]
      clear e20
      obtain ⟨_, q0, q1⟩ := B2.out.on hR.st
      go_simp
      refine hK.out _ _ ?_
      exact ⟨(fun j => if j = 58 then .bool true else if j = 59 then .agg #[.int .i64 1, .int .i64 5] else v j), g, rfl, ⟨hR.st, hR.f0.keep rfl, hR.f1.keep rfl, hR.f2.keep rfl, hR.f3.keep rfl, hR.f4.keep rfl, hR.f5.keep rfl, hR.f6.keep rfl, hR.f7.keep rfl, hR.f8.keep rfl, hR.f9.keep rfl, hR.f10.keep rfl, hR.f11.keep rfl, hR.f12.keep rfl, hR.f13.keep rfl, hR.f14.keep rfl, hR.f15.keep rfl, hR.f16.keep rfl, hR.f17.keep rfl, hR.f18.keep rfl, hR.f19.keep rfl, (fun _ => rfl), (fun _ => rfl), hR.f22.keep rfl, hR.f23.keep rfl, hR.f24.keep rfl, hR.f25.keep rfl, hR.f26.keep rfl, hR.f27.keep rfl, hR.f28.keep rfl, hR.f29.keep rfl, hR.f30.keep rfl, hR.f31.keep rfl, hR.f32.keep rfl, hR.f33.keep rfl, hR.f34.keep rfl, hR.f35.keep rfl, hR.f36.keep rfl, hR.f37.keep rfl, hR.f38.keep rfl, hR.f39.keep rfl, hR.f40.keep rfl, hR.f41.keep rfl, hR.f42.keep rfl, hR.f43.keep rfl⟩⟩
    refine EachOf.cons [20] rfl (by kernel_rfl) ?_ ?_
    · rintro L A W ⟨v, g, rfl, hR⟩ hi hw K hK
      have e20 := hR.f20 (hw 20 (by simp))
      simp only [e20]
      clear e20
      go_simp
      go_at_call 39
      (with_reducible refine ((O8 _).out).mono ?_)
      rintro e w2 ⟨rfl, hb⟩
      go_simp
      refine hK.out _ _ ?_
      exact ⟨(fun j => if j = 58 then .bool true else if j = 60 then .agg #[.int .i64 1, .int .i64 5] else v j), g, rfl, ⟨below_on hR.st hb, hR.f0.keep rfl, hR.f1.keep rfl, hR.f2.keep rfl, hR.f3.keep rfl, hR.f4.keep rfl, hR.f5.keep rfl, hR.f6.keep rfl, hR.f7.keep rfl, hR.f8.keep rfl, hR.f9.keep rfl, hR.f10.keep rfl, hR.f11.keep rfl, hR.f12.keep rfl, hR.f13.keep rfl, hR.f14.keep rfl, hR.f15.keep rfl, hR.f16.keep rfl, hR.f17.keep rfl, hR.f18.keep rfl, hR.f19.keep rfl, (fun _ => rfl), hR.f21.keep rfl, (fun _ => rfl), hR.f23.keep rfl, hR.f24.keep rfl, hR.f25.keep rfl, hR.f26.keep rfl, hR.f27.keep rfl, hR.f28.keep rfl, hR.f29.keep rfl, hR.f30.keep rfl, hR.f31.keep rfl, hR.f32.keep rfl, hR.f33.keep rfl, hR.f34.keep rfl, hR.f35.keep rfl, hR.f36.keep rfl, hR.f37.keep rfl, hR.f38.keep rfl, hR.f39.keep rfl, hR.f40.keep rfl, hR.f41.keep rfl, hR.f42.keep rfl, hR.f43.keep rfl⟩⟩
    refine EachOf.cons [21, 22, 20] rfl (by kernel_rfl) ?_ ?_
    · rintro L A W ⟨v, g, rfl, hR⟩ hi hw K hK
      have e21 := hR.f21 (hw 21 (by simp))
      have e22 := hR.f22 (hw 22 (by simp))
      have e20 := hR.f20 (hw 20 (by simp))
      simp only [e21, e22, e20]
      clear e21 e22 e20
      go_simp
      refine hK.out _ _ ?_
      exact ⟨(fun j => if j = 59 then .agg #[.int .i64 1, .int .i64 5] else if j = 60 then .agg #[.int .i64 1, .int .i64 5] else if j = 58 then .bool true else if j = 61 then .bool true else v j), g, rfl, ⟨hR.st, hR.f0.keep rfl, hR.f1.keep rfl, hR.f2.keep rfl, hR.f3.keep rfl, hR.f4.keep rfl, hR.f5.keep rfl, hR.f6.keep rfl, hR.f7.keep rfl, hR.f8.keep rfl, hR.f9.keep rfl, hR.f10.keep rfl, hR.f11.keep rfl, hR.f12.keep rfl, hR.f13.keep rfl, hR.f14.keep rfl, hR.f15.keep rfl, hR.f16.keep rfl, hR.f17.keep rfl, hR.f18.keep rfl, hR.f19.keep rfl, (fun _ => rfl), (fun _ => rfl), (fun _ => rfl), (fun _ => rfl), hR.f24.keep rfl, hR.f25.keep rfl, hR.f26.keep rfl, hR.f27.keep rfl, hR.f28.keep rfl, hR.f29.keep rfl, hR.f30.keep rfl, hR.f31.keep rfl, hR.f32.keep rfl, hR.f33.keep rfl, hR.f34.keep rfl, hR.f35.keep rfl, hR.f36.keep rfl, hR.f37.keep rfl, hR.f38.keep rfl, hR.f39.keep rfl, hR.f40.keep rfl, hR.f41.keep rfl, hR.f42.keep rfl, hR.f43.keep rfl⟩⟩
    refine EachOf.cons [20, 23] rfl (by kernel_rfl) ?_ ?_
    · rintro L A W ⟨v, g, rfl, hR⟩ hi hw K hK
      have e20 := hR.f20 (hw 20 (by simp))
      have e23 := hR.f23 (hw 23 (by simp))
      simp only [e20, e23]
      clear e20 e23
      go_simp
      refine hK.out _ _ ?_
      exact ⟨(fun j => if j = 58 then .bool true else if j = 61 then .bool true else if j = 62 then .bool true else v j), g, rfl, ⟨hR.st, hR.f0.keep rfl, hR.f1.keep rfl, hR.f2.keep rfl, hR.f3.keep rfl, hR.f4.keep rfl, hR.f5.keep rfl, hR.f6.keep rfl, hR.f7.keep rfl, hR.f8.keep rfl, hR.f9.keep rfl, hR.f10.keep rfl, hR.f11.keep rfl, hR.f12.keep rfl, hR.f13.keep rfl, hR.f14.keep rfl, hR.f15.keep rfl, hR.f16.keep rfl, hR.f17.keep rfl, hR.f18.keep rfl, hR.f19.keep rfl, (fun _ => rfl), hR.f21.keep rfl, hR.f22.keep rfl, (fun _ => rfl), (fun _ => rfl), hR.f25.keep rfl, hR.f26.keep rfl, hR.f27.keep rfl, hR.f28.keep rfl, hR.f29.keep rfl, hR.f30.keep rfl, hR.f31.keep rfl, hR.f32.keep rfl, hR.f33.keep rfl, hR.f34.keep rfl, hR.f35.keep rfl, hR.f36.keep rfl, hR.f37.keep rfl, hR.f38.keep rfl, hR.f39.keep rfl, hR.f40.keep rfl, hR.f41.keep rfl, hR.f42.keep rfl, hR.f43.keep rfl⟩⟩
    refine EachOf.cons [24] rfl (by kernel_rfl) ?_ ?_
    · rintro L A W ⟨v, g, rfl, hR⟩ hi hw K hK
      have e24 := hR.f24 (hw 24 (by simp))
      simp only [e24]
      clear e24
      go_simp
      refine hK.out _ _ ?_
      exact ⟨(fun j => if j = 62 then .bool true else if j = 63 then .bool true else v j), g, rfl, ⟨hR.st, hR.f0.keep rfl, hR.f1.keep rfl, hR.f2.keep rfl, hR.f3.keep rfl, hR.f4.keep rfl, hR.f5.keep rfl, hR.f6.keep rfl, hR.f7.keep rfl, hR.f8.keep rfl, hR.f9.keep rfl, hR.f10.keep rfl, hR.f11.keep rfl, hR.f12.keep rfl, hR.f13.keep rfl, hR.f14.keep rfl, hR.f15.keep rfl, hR.f16.keep rfl, hR.f17.keep rfl, hR.f18.keep rfl, hR.f19.keep rfl, hR.f20.keep rfl, hR.f21.keep rfl, hR.f22.keep rfl, hR.f23.keep rfl, (fun _ => rfl), (fun _ => rfl), hR.f26.keep rfl, hR.f27.keep rfl, hR.f28.keep rfl, hR.f29.keep rfl, hR.f30.keep rfl, hR.f31.keep rfl, hR.f32.keep rfl, hR.f33.keep rfl, hR.f34.keep rfl, hR.f35.keep rfl, hR.f36.keep rfl, hR.f37.keep rfl, hR.f38.keep rfl, hR.f39.keep rfl, hR.f40.keep rfl, hR.f41.keep rfl, hR.f42.keep rfl, hR.f43.keep rfl⟩⟩
    refine EachOf.cons [25] rfl (by kernel_rfl) ?_ ?_
    · rintro L A W ⟨v, g, rfl, hR⟩ hi hw K hK
      have e25 := hR.f25 (hw 25 (by simp))
      simp only [e25]
      clear e25
      go_simp
      refine hK.out _ _ ?_
      exact ⟨(fun j => if j = 63 then .bool true else if j = 64 then .int .i64 0 else v j), g, rfl, ⟨hR.st, hR.f0.keep rfl, hR.f1.keep rfl, hR.f2.keep rfl, hR.f3.keep rfl, hR.f4.keep rfl, hR.f5.keep rfl, hR.f6.keep rfl, hR.f7.keep rfl, hR.f8.keep rfl, hR.f9.keep rfl, hR.f10.keep rfl, hR.f11.keep rfl, hR.f12.keep rfl, hR.f13.keep rfl, hR.f14.keep rfl, hR.f15.keep rfl, hR.f16.keep rfl, hR.f17.keep rfl, hR.f18.keep rfl, hR.f19.keep rfl, hR.f20.keep rfl, hR.f21.keep rfl, hR.f22.keep rfl, hR.f23.keep rfl, hR.f24.keep rfl, (fun _ => rfl), (fun _ => rfl), hR.f27.keep rfl, hR.f28.keep rfl, hR.f29.keep rfl, hR.f30.keep rfl, hR.f31.keep rfl, hR.f32.keep rfl, hR.f33.keep rfl, hR.f34.keep rfl, hR.f35.keep rfl, hR.f36.keep rfl, hR.f37.keep rfl, hR.f38.keep rfl, hR.f39.keep rfl, hR.f40.keep rfl, hR.f41.keep rfl, hR.f42.keep rfl, hR.f43.keep rfl⟩⟩
    refine EachOf.cons [26, 25] rfl (by kernel_rfl) ?_ ?_
    · rintro L A W ⟨v, g, rfl, hR⟩ hi hw K hK
      have e26 := hR.f26 (hw 26 (by simp))
      have e25 := hR.f25 (hw 25 (by simp))
      simp only [e26, e25]
      clear e26 e25
      go_simp
      refine hK.out _ _ ?_
      exact ⟨(fun j => if j = 64 then .int .i64 0 else if j = 63 then .bool true else if j = 65 then .bool true else v j), g, rfl, ⟨hR.st, hR.f0.keep rfl, hR.f1.keep rfl, hR.f2.keep rfl, hR.f3.keep rfl, hR.f4.keep rfl, hR.f5.keep rfl, hR.f6.keep rfl, hR.f7.keep rfl, hR.f8.keep rfl, hR.f9.keep rfl, hR.f10.keep rfl, hR.f11.keep rfl, hR.f12.keep rfl, hR.f13.keep rfl, hR.f14.keep rfl, hR.f15.keep rfl, hR.f16.keep rfl, hR.f17.keep rfl, hR.f18.keep rfl, hR.f19.keep rfl, hR.f20.keep rfl, hR.f21.keep rfl, hR.f22.keep rfl, hR.f23.keep rfl, hR.f24.keep rfl, (fun _ => rfl), (fun _ => rfl), (fun _ => rfl), hR.f28.keep rfl, hR.f29.keep rfl, hR.f30.keep rfl, hR.f31.keep rfl, hR.f32.keep rfl, hR.f33.keep rfl, hR.f34.keep rfl, hR.f35.keep rfl, hR.f36.keep rfl, hR.f37.keep rfl, hR.f38.keep rfl, hR.f39.keep rfl, hR.f40.keep rfl, hR.f41.keep rfl, hR.f42.keep rfl, hR.f43.keep rfl⟩⟩
    refine EachOf.cons [25, 27] rfl (by kernel_rfl) ?_ ?_
    · rintro L A W ⟨v, g, rfl, hR⟩ hi hw K hK
      have e25 := hR.f25 (hw 25 (by simp))
      have e27 := hR.f27 (hw 27 (by simp))
      simp only [e25, e27]
      clear e25 e27
      go_simp
      refine hK.out _ _ ?_
      exact ⟨(fun j => if j = 63 then .bool true else if j = 65 then .bool true else if j = 66 then .bool true else v j), g, rfl, ⟨hR.st, hR.f0.keep rfl, hR.f1.keep rfl, hR.f2.keep rfl, hR.f3.keep rfl, hR.f4.keep rfl, hR.f5.keep rfl, hR.f6.keep rfl, hR.f7.keep rfl, hR.f8.keep rfl, hR.f9.keep rfl, hR.f10.keep rfl, hR.f11.keep rfl, hR.f12.keep rfl, hR.f13.keep rfl, hR.f14.keep rfl, hR.f15.keep rfl, hR.f16.keep rfl, hR.f17.keep rfl, hR.f18.keep rfl, hR.f19.keep rfl, hR.f20.keep rfl, hR.f21.keep rfl, hR.f22.keep rfl, hR.f23.keep rfl, hR.f24.keep rfl, (fun _ => rfl), hR.f26.keep rfl, (fun _ => rfl), (fun _ => rfl), hR.f29.keep rfl, hR.f30.keep rfl, hR.f31.keep rfl, hR.f32.keep rfl, hR.f33.keep rfl, hR.f34.keep rfl, hR.f35.keep rfl, hR.f36.keep rfl, hR.f37.keep rfl, hR.f38.keep rfl, hR.f39.keep rfl, hR.f40.keep rfl, hR.f41.keep rfl, hR.f42.keep rfl, hR.f43.keep rfl⟩⟩
    refine EachOf.cons [28] rfl (by kernel_rfl) ?_ ?_
    · rintro L A W ⟨v, g, rfl, hR⟩ hi hw K hK
      have e28 := hR.f28 (hw 28 (by simp))
      simp only [e28]
      clear e28
      go_simp
      refine hK.out _ _ ?_
      exact ⟨(fun j => if j = 66 then .bool true else if j = 67 then .bool true else v j), g, rfl, ⟨hR.st, hR.f0.keep rfl, hR.f1.keep rfl, hR.f2.keep rfl, hR.f3.keep rfl, hR.f4.keep rfl, hR.f5.keep rfl, hR.f6.keep rfl, hR.f7.keep rfl, hR.f8.keep rfl, hR.f9.keep rfl, hR.f10.keep rfl, hR.f11.keep rfl, hR.f12.keep rfl, hR.f13.keep rfl, hR.f14.keep rfl, hR.f15.keep rfl, hR.f16.keep rfl, hR.f17.keep rfl, hR.f18.keep rfl, hR.f19.keep rfl, hR.f20.keep rfl, hR.f21.keep rfl, hR.f22.keep rfl, hR.f23.keep rfl, hR.f24.keep rfl, hR.f25.keep rfl, hR.f26.keep rfl, hR.f27.keep rfl, (fun _ => rfl), (fun _ => rfl), hR.f30.keep rfl, hR.f31.keep rfl, hR.f32.keep rfl, hR.f33.keep rfl, hR.f34.keep rfl, hR.f35.keep rfl, hR.f36.keep rfl, hR.f37.keep rfl, hR.f38.keep rfl, hR.f39.keep rfl, hR.f40.keep rfl, hR.f41.keep rfl, hR.f42.keep rfl, hR.f43.keep rfl⟩⟩
    refine EachOf.cons [29] rfl (by kernel_rfl) ?_ ?_
    · rintro L A W ⟨v, g, rfl, hR⟩ hi hw K hK
      have e29 := hR.f29 (hw 29 (by simp))
      simp only [e29]
      clear e29
      obtain ⟨_, q0, q1⟩ := B3.out.on hR.st
      go_simp
      refine hK.out _ _ ?_
      exact ⟨(fun j => if j = 67 then .bool true else if j = 68 then .agg #[.int .i64 23, .int .i64 24] else v j), g, rfl, ⟨hR.st, hR.f0.keep rfl, hR.f1.keep rfl, hR.f2.keep rfl, hR.f3.keep rfl, hR.f4.keep rfl, hR.f5.keep rfl, hR.f6.keep rfl, hR.f7.keep rfl, hR.f8.keep rfl, hR.f9.keep rfl, hR.f10.keep rfl, hR.f11.keep rfl, hR.f12.keep rfl, hR.f13.keep rfl, hR.f14.keep rfl, hR.f15.keep rfl, hR.f16.keep rfl, hR.f17.keep rfl, hR.f18.keep rfl, hR.f19.keep rfl, hR.f20.keep rfl, hR.f21.keep rfl, hR.f22.keep rfl, hR.f23.keep rfl, hR.f24.keep rfl, hR.f25.keep rfl, hR.f26.keep rfl, hR.f27.keep rfl, hR.f28.keep rfl, (fun _ => rfl), (fun _ => rfl), hR.f31.keep rfl, hR.f32.keep rfl, hR.f33.keep rfl, hR.f34.keep rfl, hR.f35.keep rfl, hR.f36.keep rfl, hR.f37.keep rfl, hR.f38.keep rfl, hR.f39.keep rfl, hR.f40.keep rfl, hR.f41.keep rfl, hR.f42.keep rfl, hR.f43.keep rfl⟩⟩
    refine EachOf.cons [29] rfl (by kernel_rfl) ?_ ?_
    · rintro L A W ⟨v, g, rfl, hR⟩ hi hw K hK
      have e29 := hR.f29 (hw 29 (by simp))
      simp only [e29]
      clear e29
      go_simp
      go_at_call 39
      (with_reducible refine ((O9 _).out).mono ?_)
      rintro e w2 ⟨rfl, hb⟩
      go_simp
      refine hK.out _ _ ?_
      exact ⟨(fun j => if j = 67 then .bool true else if j = 69 then .agg #[.int .i64 23, .int .i64 24] else v j), g, rfl, ⟨below_on hR.st hb, hR.f0.keep rfl, hR.f1.keep rfl, hR.f2.keep rfl, hR.f3.keep rfl, hR.f4.keep rfl, hR.f5.keep rfl, hR.f6.keep rfl, hR.f7.keep rfl, hR.f8.keep rfl, hR.f9.keep rfl, hR.f10.keep rfl, hR.f11.keep rfl, hR.f12.keep rfl, hR.f13.keep rfl, hR.f14.keep rfl, hR.f15.keep rfl, hR.f16.keep rfl, hR.f17.keep rfl, hR.f18.keep rfl, hR.f19.keep rfl, hR.f20.keep rfl, hR.f21.keep rfl, hR.f22.keep rfl, hR.f23.keep rfl, hR.f24.keep rfl, hR.f25.keep rfl, hR.f26.keep rfl, hR.f27.keep rfl, hR.f28.keep rfl, (fun _ => rfl), hR.f30.keep rfl, (fun _ => rfl), hR.f32.keep rfl, hR.f33.keep rfl, hR.f34.keep rfl, hR.f35.keep rfl, hR.f36.keep rfl, hR.f37.keep rfl, hR.f38.keep rfl, hR.f39.keep rfl, hR.f40.keep rfl, hR.f41.keep rfl, hR.f42.keep rfl, hR.f43.keep rfl⟩⟩
    refine EachOf.cons [30, 31, 29] rfl (by kernel_rfl) ?_ ?_
    · rintro L A W ⟨v, g, rfl, hR⟩ hi hw K hK
      have e30 := hR.f30 (hw 30 (by simp))
      have e31 := hR.f31 (hw 31 (by simp))
      have e29 := hR.f29 (hw 29 (by simp))
      simp only [e30, e31, e29]
      clear e30 e31 e29
      go_simp
      refine hK.out _ _ ?_
      exact ⟨(fun j => if j = 68 then .agg #[.int .i64 23, .int .i64 24] else if j = 69 then .agg #[.int .i64 23, .int .i64 24] else if j = 67 then .bool true else if j = 70 then .bool true else v j), g, rfl, ⟨hR.st, hR.f0.keep rfl, hR.f1.keep rfl, hR.f2.keep rfl, hR.f3.keep rfl, hR.f4.keep rfl, hR.f5.keep rfl, hR.f6.keep rfl, hR.f7.keep rfl, hR.f8.keep rfl, hR.f9.keep rfl, hR.f10.keep rfl, hR.f11.keep rfl, hR.f12.keep rfl, hR.f13.keep rfl, hR.f14.keep rfl, hR.f15.keep rfl, hR.f16.keep rfl, hR.f17.keep rfl, hR.f18.keep rfl, hR.f19.keep rfl, hR.f20.keep rfl, hR.f21.keep rfl, hR.f22.keep rfl, hR.f23.keep rfl, hR.f24.keep rfl, hR.f25.keep rfl, hR.f26.keep rfl, hR.f27.keep rfl, hR.f28.keep rfl, (fun _ => rfl), (fun _ => rfl), (fun _ => rfl), (fun _ => rfl), hR.f33.keep rfl, hR.f34.keep rfl, hR.f35.keep rfl, hR.f36.keep rfl, hR.f37.keep rfl, hR.f38.keep rfl, hR.f39.keep rfl, hR.f40.keep rfl, hR.f41.keep rfl, hR.f42.keep rfl, hR.f43.keep rfl⟩⟩
    refine EachOf.cons [29, 32] rfl (by kernel_rfl) ?_ ?_
    · rintro L A W ⟨v, g, rfl, hR⟩ hi hw K hK
      have e29 := hR.f29 (hw 29 (by simp))
      have e32 := hR.f32 (hw 32 (by simp))
      simp only [e29, e32]
      clear e29 e32
      go_simp
      refine hK.out _ _ ?_
      exact ⟨(fun j => if j = 67 then .bool true else if j = 70 then .bool true else if j = 71 then .bool true else v j), g, rfl, ⟨hR.st, hR.f0.keep rfl, hR.f1.keep rfl, hR.f2.keep rfl, hR.f3.keep rfl, hR.f4.keep rfl, hR.f5.keep rfl, hR.f6.keep rfl, hR.f7.keep rfl, hR.f8.keep rfl, hR.f9.keep rfl, hR.f10.keep rfl, hR.f11.keep rfl, hR.f12.keep rfl, hR.f13.keep rfl, hR.f14.keep rfl, hR.f15.keep rfl, hR.f16.keep rfl, hR.f17.keep rfl, hR.f18.keep rfl, hR.f19.keep rfl, hR.f20.keep rfl, hR.f21.keep rfl, hR.f22.keep rfl, hR.f23.keep rfl, hR.f24.keep rfl, hR.f25.keep rfl, hR.f26.keep rfl, hR.f27.keep rfl, hR.f28.keep rfl, (fun _ => rfl), hR.f30.keep rfl, hR.f31.keep rfl, (fun _ => rfl), (fun _ => rfl), hR.f34.keep rfl, hR.f35.keep rfl, hR.f36.keep rfl, hR.f37.keep rfl, hR.f38.keep rfl, hR.f39.keep rfl, hR.f40.keep rfl, hR.f41.keep rfl, hR.f42.keep rfl, hR.f43.keep rfl⟩⟩
    refine EachOf.cons [33] rfl (by kernel_rfl) ?_ ?_
    · rintro L A W ⟨v, g, rfl, hR⟩ hi hw K hK
      have e33 := hR.f33 (hw 33 (by simp))
      simp only [e33]
      clear e33
      go_simp
      refine hK.out _ _ ?_
      exact ⟨(fun j => if j = 71 then .bool true else if j = 72 then .bool true else v j), g, rfl, ⟨hR.st, hR.f0.keep rfl, hR.f1.keep rfl, hR.f2.keep rfl, hR.f3.keep rfl, hR.f4.keep rfl, hR.f5.keep rfl, hR.f6.keep rfl, hR.f7.keep rfl, hR.f8.keep rfl, hR.f9.keep rfl, hR.f10.keep rfl, hR.f11.keep rfl, hR.f12.keep rfl, hR.f13.keep rfl, hR.f14.keep rfl, hR.f15.keep rfl, hR.f16.keep rfl, hR.f17.keep rfl, hR.f18.keep rfl, hR.f19.keep rfl, hR.f20.keep rfl, hR.f21.keep rfl, hR.f22.keep rfl, hR.f23.keep rfl, hR.f24.keep rfl, hR.f25.keep rfl, hR.f26.keep rfl, hR.f27.keep rfl, hR.f28.keep rfl, hR.f29.keep rfl, hR.f30.keep rfl, hR.f31.keep rfl, hR.f32.keep rfl, (fun _ => rfl), (fun _ => rfl), hR.f35.keep rfl, hR.f36.keep rfl, hR.f37.keep rfl, hR.f38.keep rfl, hR.f39.keep rfl, hR.f40.keep rfl, hR.f41.keep rfl, hR.f42.keep rfl, hR.f43.keep rfl⟩⟩
    refine EachOf.cons [34] rfl (by kernel_rfl) ?_ ?_
    · rintro L A W ⟨v, g, rfl, hR⟩ hi hw K hK
      have e34 := hR.f34 (hw 34 (by simp))
      simp only [e34]
      clear e34
      go_simp
      refine hK.out _ _ ?_
      exact ⟨(fun j => if j = 72 then .bool true else if j = 73 then .int .i64 0 else v j), g, rfl, ⟨hR.st, hR.f0.keep rfl, hR.f1.keep rfl, hR.f2.keep rfl, hR.f3.keep rfl, hR.f4.keep rfl, hR.f5.keep rfl, hR.f6.keep rfl, hR.f7.keep rfl, hR.f8.keep rfl, hR.f9.keep rfl, hR.f10.keep rfl, hR.f11.keep rfl, hR.f12.keep rfl, hR.f13.keep rfl, hR.f14.keep rfl, hR.f15.keep rfl, hR.f16.keep rfl, hR.f17.keep rfl, hR.f18.keep rfl, hR.f19.keep rfl, hR.f20.keep rfl, hR.f21.keep rfl, hR.f22.keep rfl, hR.f23.keep rfl, hR.f24.keep rfl, hR.f25.keep rfl, hR.f26.keep rfl, hR.f27.keep rfl, hR.f28.keep rfl, hR.f29.keep rfl, hR.f30.keep rfl, hR.f31.keep rfl, hR.f32.keep rfl, hR.f33.keep rfl, (fun _ => rfl), (fun _ => rfl), hR.f36.keep rfl, hR.f37.keep rfl, hR.f38.keep rfl, hR.f39.keep rfl, hR.f40.keep rfl, hR.f41.keep rfl, hR.f42.keep rfl, hR.f43.keep rfl⟩⟩
    refine EachOf.cons [35, 34] rfl (by kernel_rfl) ?_ ?_
    · rintro L A W ⟨v, g, rfl, hR⟩ hi hw K hK
      have e35 := hR.f35 (hw 35 (by simp))
      have e34 := hR.f34 (hw 34 (by simp))
      simp only [e35, e34]
      clear e35 e34
      go_simp
      refine hK.out _ _ ?_
      exact ⟨(fun j => if j = 73 then .int .i64 0 else if j = 72 then .bool true else if j = 74 then .bool true else v j), g, rfl, ⟨hR.st, hR.f0.keep rfl, hR.f1.keep rfl, hR.f2.keep rfl, hR.f3.keep rfl, hR.f4.keep rfl, hR.f5.keep rfl, hR.f6.keep rfl, hR.f7.keep rfl, hR.f8.keep rfl, hR.f9.keep rfl, hR.f10.keep rfl, hR.f11.keep rfl, hR.f12.keep rfl, hR.f13.keep rfl, hR.f14.keep rfl, hR.f15.keep rfl, hR.f16.keep rfl, hR.f17.keep rfl, hR.f18.keep rfl, hR.f19.keep rfl, hR.f20.keep rfl, hR.f21.keep rfl, hR.f22.keep rfl, hR.f23.keep rfl, hR.f24.keep rfl, hR.f25.keep rfl, hR.f26.keep rfl, hR.f27.keep rfl, hR.f28.keep rfl, hR.f29.keep rfl, hR.f30.keep rfl, hR.f31.keep rfl, hR.f32.keep rfl, hR.f33.keep rfl, (fun _ => rfl), (fun _ => rfl), (fun _ => rfl), hR.f37.keep rfl, hR.f38.keep rfl, hR.f39.keep rfl, hR.f40.keep rfl, hR.f41.keep rfl, hR.f42.keep rfl, hR.f43.keep rfl⟩⟩
    refine EachOf.cons [34, 36] rfl (by kernel_rfl) ?_ ?_
    · rintro L A W ⟨v, g, rfl, hR⟩ hi hw K hK
      have e34 := hR.f34 (hw 34 (by simp))
      have e36 := hR.f36 (hw 36 (by simp))
      simp only [e34, e36]
      clear e34 e36
      go_simp
      refine hK.out _ _ ?_
      exact ⟨(fun j => if j = 72 then .bool true else if j = 74 then .bool true else if j = 75 then .bool true else v j), g, rfl, ⟨hR.st, hR.f0.keep rfl, hR.f1.keep rfl, hR.f2.keep rfl, hR.f3.keep rfl, hR.f4.keep rfl, hR.f5.keep rfl, hR.f6.keep rfl, hR.f7.keep rfl, hR.f8.keep rfl, hR.f9.keep rfl, hR.f10.keep rfl, hR.f11.keep rfl, hR.f12.keep rfl, hR.f13.keep rfl, hR.f14.keep rfl, hR.f15.keep rfl, hR.f16.keep rfl, hR.f17.keep rfl, hR.f18.keep rfl, hR.f19.keep rfl, hR.f20.keep rfl, hR.f21.keep rfl, hR.f22.keep rfl, hR.f23.keep rfl, hR.f24.keep rfl, hR.f25.keep rfl, hR.f26.keep rfl, hR.f27.keep rfl, hR.f28.keep rfl, hR.f29.keep rfl, hR.f30.keep rfl, hR.f31.keep rfl, hR.f32.keep rfl, hR.f33.keep rfl, (fun _ => rfl), hR.f35.keep rfl, (fun _ => rfl), (fun _ => rfl), hR.f38.keep rfl, hR.f39.keep rfl, hR.f40.keep rfl, hR.f41.keep rfl, hR.f42.keep rfl, hR.f43.keep rfl⟩⟩
    refine EachOf.cons [37] rfl (by kernel_rfl) ?_ ?_
    · rintro L A W ⟨v, g, rfl, hR⟩ hi hw K hK
      have e37 := hR.f37 (hw 37 (by simp))
      simp only [e37]
      clear e37
      go_simp
      refine hK.out _ _ ?_
      exact ⟨(fun j => if j = 75 then .bool true else if j = 76 then .bool true else v j), g, rfl, ⟨hR.st, hR.f0.keep rfl, hR.f1.keep rfl, hR.f2.keep rfl, hR.f3.keep rfl, hR.f4.keep rfl, hR.f5.keep rfl, hR.f6.keep rfl, hR.f7.keep rfl, hR.f8.keep rfl, hR.f9.keep rfl, hR.f10.keep rfl, hR.f11.keep rfl, hR.f12.keep rfl, hR.f13.keep rfl, hR.f14.keep rfl, hR.f15.keep rfl, hR.f16.keep rfl, hR.f17.keep rfl, hR.f18.keep rfl, hR.f19.keep rfl, hR.f20.keep rfl, hR.f21.keep rfl, hR.f22.keep rfl, hR.f23.keep rfl, hR.f24.keep rfl, hR.f25.keep rfl, hR.f26.keep rfl, hR.f27.keep rfl, hR.f28.keep rfl, hR.f29.keep rfl, hR.f30.keep rfl, hR.f31.keep rfl, hR.f32.keep rfl, hR.f33.keep rfl, hR.f34.keep rfl, hR.f35.keep rfl, hR.f36.keep rfl, (fun _ => rfl), (fun _ => rfl), hR.f39.keep rfl, hR.f40.keep rfl, hR.f41.keep rfl, hR.f42.keep rfl, hR.f43.keep rfl⟩⟩
    refine EachOf.cons [38] rfl (by kernel_rfl) ?_ ?_
    · rintro L A W ⟨v, g, rfl, hR⟩ hi hw K hK
      have e38 := hR.f38 (hw 38 (by simp))
      simp only [e38]
      clear e38
      obtain ⟨_, q0, q1⟩ := B4.out.on hR.st
      go_simp
      refine hK.out _ _ ?_
      exact ⟨(fun j => if j = 76 then .bool true else if j = 77 then .agg #[.int .i64 (-2), .int .i64 2] else v j), g, rfl, ⟨hR.st, hR.f0.keep rfl, hR.f1.keep rfl, hR.f2.keep rfl, hR.f3.keep rfl, hR.f4.keep rfl, hR.f5.keep rfl, hR.f6.keep rfl, hR.f7.keep rfl, hR.f8.keep rfl, hR.f9.keep rfl, hR.f10.keep rfl, hR.f11.keep rfl, hR.f12.keep rfl, hR.f13.keep rfl, hR.f14.keep rfl, hR.f15.keep rfl, hR.f16.keep rfl, hR.f17.keep rfl, hR.f18.keep rfl, hR.f19.keep rfl, hR.f20.keep rfl, hR.f21.keep rfl, hR.f22.keep rfl, hR.f23.keep rfl, hR.f24.keep rfl, hR.f25.keep rfl, hR.f26.keep rfl, hR.f27.keep rfl, hR.f28.keep rfl, hR.f29.keep rfl, hR.f30.keep rfl, hR.f31.keep rfl, hR.f32.keep rfl, hR.f33.keep rfl, hR.f34.keep rfl, hR.f35.keep rfl, hR.f36.keep rfl, hR.f37.keep rfl, (fun _ => rfl), (fun _ => rfl), hR.f40.keep rfl, hR.f41.keep rfl, hR.f42.keep rfl, hR.f43.keep rfl⟩⟩
    refine EachOf.cons [38] rfl (by kernel_rfl) ?_ ?_
    · rintro L A W ⟨v, g, rfl, hR⟩ hi hw K hK
      have e38 := hR.f38 (hw 38 (by simp))
      simp only [e38]
      clear e38
      go_simp
      go_at_call 39
      (with_reducible refine ((O10 _).out).mono ?_)
      rintro e w2 ⟨rfl, hb⟩
      go_simp
      refine hK.out _ _ ?_
      exact ⟨(fun j => if j = 76 then .bool true else if j = 78 then .agg #[.int .i64 (-2), .int .i64 2] else v j), g, rfl, ⟨below_on hR.st hb, hR.f0.keep rfl, hR.f1.keep rfl, hR.f2.keep rfl, hR.f3.keep rfl, hR.f4.keep rfl, hR.f5.keep rfl, hR.f6.keep rfl, hR.f7.keep rfl, hR.f8.keep rfl, hR.f9.keep rfl, hR.f10.keep rfl, hR.f11.keep rfl, hR.f12.keep rfl, hR.f13.keep rfl, hR.f14.keep rfl, hR.f15.keep rfl, hR.f16.keep rfl, hR.f17.keep rfl, hR.f18.keep rfl, hR.f19.keep rfl, hR.f20.keep rfl, hR.f21.keep rfl, hR.f22.keep rfl, hR.f23.keep rfl, hR.f24.keep rfl, hR.f25.keep rfl, hR.f26.keep rfl, hR.f27.keep rfl, hR.f28.keep rfl, hR.f29.keep rfl, hR.f30.keep rfl, hR.f31.keep rfl, hR.f32.keep rfl, hR.f33.keep rfl, hR.f34.keep rfl, hR.f35.keep rfl, hR.f36.keep rfl, hR.f37.keep rfl, (fun _ => rfl), hR.f39.keep rfl, (fun _ => rfl), hR.f41.keep rfl, hR.f42.keep rfl, hR.f43.keep rfl⟩⟩
    refine EachOf.cons [39, 40, 38] rfl (by kernel_rfl) ?_ ?_
    · rintro L A W ⟨v, g, rfl, hR⟩ hi hw K hK
      have e39 := hR.f39 (hw 39 (by simp))
      have e40 := hR.f40 (hw 40 (by simp))
      have e38 := hR.f38 (hw 38 (by simp))
      simp only [e39, e40, e38]
      clear e39 e40 e38
      go_simp
      refine hK.out _ _ ?_
      exact ⟨(fun j => if j = 77 then .agg #[.int .i64 (-2), .int .i64 2] else if j = 78 then .agg #[.int .i64 (-2), .int .i64 2] else if j = 76 then .bool true else if j = 79 then .bool true else v j), g, rfl, ⟨hR.st, hR.f0.keep rfl, hR.f1.keep rfl, hR.f2.keep rfl, hR.f3.keep rfl, hR.f4.keep rfl, hR.f5.keep rfl, hR.f6.keep rfl, hR.f7.keep rfl, hR.f8.keep rfl, hR.f9.keep rfl, hR.f10.keep rfl, hR.f11.keep rfl, hR.f12.keep rfl, hR.f13.keep rfl, hR.f14.keep rfl, hR.f15.keep rfl, hR.f16.keep rfl, hR.f17.keep rfl, hR.f18.keep rfl, hR.f19.keep rfl, hR.f20.keep rfl, hR.f21.keep rfl, hR.f22.keep rfl, hR.f23.keep rfl, hR.f24.keep rfl, hR.f25.keep rfl, hR.f26.keep rfl, hR.f27.keep rfl, hR.f28.keep rfl, hR.f29.keep rfl, hR.f30.keep rfl, hR.f31.keep rfl, hR.f32.keep rfl, hR.f33.keep rfl, hR.f34.keep rfl, hR.f35.keep rfl, hR.f36.keep rfl, hR.f37.keep rfl, (fun _ => rfl), (fun _ => rfl), (fun _ => rfl), (fun _ => rfl), hR.f42.keep rfl, hR.f43.keep rfl⟩⟩
    refine EachOf.cons [38, 41] rfl (by kernel_rfl) ?_ ?_
    · rintro L A W ⟨v, g, rfl, hR⟩ hi hw K hK
      have e38 := hR.f38 (hw 38 (by simp))
      have e41 := hR.f41 (hw 41 (by simp))
      simp only [e38, e41]
      clear e38 e41
      go_simp
      refine hK.out _ _ ?_
      exact ⟨(fun j => if j = 76 then .bool true else if j = 79 then .bool true else if j = 80 then .bool true else v j), g, rfl, ⟨hR.st, hR.f0.keep rfl, hR.f1.keep rfl, hR.f2.keep rfl, hR.f3.keep rfl, hR.f4.keep rfl, hR.f5.keep rfl, hR.f6.keep rfl, hR.f7.keep rfl, hR.f8.keep rfl, hR.f9.keep rfl, hR.f10.keep rfl, hR.f11.keep rfl, hR.f12.keep rfl, hR.f13.keep rfl, hR.f14.keep rfl, hR.f15.keep rfl, hR.f16.keep rfl, hR.f17.keep rfl, hR.f18.keep rfl, hR.f19.keep rfl, hR.f20.keep rfl, hR.f21.keep rfl, hR.f22.keep rfl, hR.f23.keep rfl, hR.f24.keep rfl, hR.f25.keep rfl, hR.f26.keep rfl, hR.f27.keep rfl, hR.f28.keep rfl, hR.f29.keep rfl, hR.f30.keep rfl, hR.f31.keep rfl, hR.f32.keep rfl, hR.f33.keep rfl, hR.f34.keep rfl, hR.f35.keep rfl, hR.f36.keep rfl, hR.f37.keep rfl, (fun _ => rfl), hR.f39.keep rfl, hR.f40.keep rfl, (fun _ => rfl), (fun _ => rfl), hR.f43.keep rfl⟩⟩
    refine EachOf.cons [42] rfl (by kernel_rfl) ?_ ?_
    · rintro L A W ⟨v, g, rfl, hR⟩ hi hw K hK
      have e42 := hR.f42 (hw 42 (by simp))
      simp only [e42]
      clear e42
      go_simp
      refine hK.out _ _ ?_
      exact ⟨(fun j => if j = 80 then .bool true else if j = 0 then .bool true else v j), g, rfl, ⟨hR.st, hR.f0.keep rfl, hR.f1.keep rfl, hR.f2.keep rfl, hR.f3.keep rfl, hR.f4.keep rfl, hR.f5.keep rfl, hR.f6.keep rfl, hR.f7.keep rfl, hR.f8.keep rfl, hR.f9.keep rfl, hR.f10.keep rfl, hR.f11.keep rfl, hR.f12.keep rfl, hR.f13.keep rfl, hR.f14.keep rfl, hR.f15.keep rfl, hR.f16.keep rfl, hR.f17.keep rfl, hR.f18.keep rfl, hR.f19.keep rfl, hR.f20.keep rfl, hR.f21.keep rfl, hR.f22.keep rfl, hR.f23.keep rfl, hR.f24.keep rfl, hR.f25.keep rfl, hR.f26.keep rfl, hR.f27.keep rfl, hR.f28.keep rfl, hR.f29.keep rfl, hR.f30.keep rfl, hR.f31.keep rfl, hR.f32.keep rfl, hR.f33.keep rfl, hR.f34.keep rfl, hR.f35.keep rfl, hR.f36.keep rfl, hR.f37.keep rfl, hR.f38.keep rfl, hR.f39.keep rfl, hR.f40.keep rfl, hR.f41.keep rfl, (fun _ => rfl), (fun _ => rfl)⟩⟩
    exact EachOf.nil
  rintro L A W1 ⟨v1, g1, rfl, hR⟩ hL
  have e43 := hR.f43 (hL 43 (by simp))
  have hst := Lib.hid hR.st
  simp only [e43]
  clear e43
  clear hR hL
  replace B0 := Lib.hid (B0.out.on hst.out)
  replace B1 := Lib.hid (B1.out.on hst.out)
  replace B2 := Lib.hid (B2.out.on hst.out)
  replace B3 := Lib.hid (B3.out.on hst.out)
  replace B4 := Lib.hid (B4.out.on hst.out)
  replace HW := Lib.hid (below_on HW.out hst.out)
  go_wp2_with fail
  go_ret
  exact ⟨rfl, HW.out⟩

end Go.Proofs.Ytknbhpnhnhfbpaa
