/- The reference of layer 2: Add, walked. -/
import Derived.Test.YtjggnmbdgagkoaaRRef13
import Derived.Test.YtjggnmbdgagkoaaREach
namespace Go.Proofs.Ytjggnmbdgagkoaa
set_option linter.unusedVariables false
open Go.RowKit Go.Shelf

theorem nat_mul_bd {a b : Int} (ha : (a.natAbs : Int) ≤ 1152921504606846976) (hb : (b.natAbs : Int) ≤ 1152921504606846976) : 0 ≤ (a.natAbs : Int) * (b.natAbs : Int) ∧ (a.natAbs : Int) * (b.natAbs : Int) ≤ 1329227995784915872903807060280344576 := by
  refine ⟨Int.mul_nonneg (by omega) (by omega), ?_⟩
  have h1 := Int.mul_le_mul_of_nonneg_right ha (show 0 ≤ (b.natAbs : Int) by omega)
  omega

structure Add1R (w : World) (an ad bn bd a b a2 b2 X1 X2 Y1 Y2 D1 D2 : Int) (Wc : World) (L : Nat → Bool) (v : Nat → Value) (g : Nat → Nat) (W : World) : Prop where
  st : Below Wc.heap.size Wc W
  f0 : Had L 0 (v 9 = .pointer (some ⟨w.heap.size, 0, none⟩))
  f1 : Had L 1 (v 10 = .int .i64 an)
  f2 : Had L 2 (v 11 = .int .u64 a)
  f3 : Had L 3 (v 12 = .pointer (some ⟨w.heap.size + 1, 1, none⟩))
  f4 : Had L 4 (v 13 = .int .i64 bd)
  f5 : Had L 5 (v 14 = .int .u64 b)
  f6 : Had L 6 (v 15 = .agg #[.int .u64 X1, .int .u64 X2])
  f7 : Had L 7 (v 6 = .pointer (some ⟨g 7, 0, none⟩))
  b7 : Had L 7 (Own Wc.heap.size W (g 7))
  c8 : Had L 8 (L 7 = true ∧ Blk W (g 7) (.int .u64 X1) (.int .u64 X2))

structure Add2R (w : World) (an ad bn bd a b a2 b2 X1 X2 Y1 Y2 D1 D2 : Int) (Wc : World) (L : Nat → Bool) (v : Nat → Value) (g : Nat → Nat) (W : World) : Prop where
  st : Below Wc.heap.size Wc W
  f0 : Had L 0 (v 16 = .pointer (some ⟨w.heap.size + 1, 0, none⟩))
  f1 : Had L 1 (v 17 = .int .i64 bn)
  f2 : Had L 2 (v 18 = .int .u64 b2)
  f3 : Had L 3 (v 19 = .pointer (some ⟨w.heap.size, 1, none⟩))
  f4 : Had L 4 (v 20 = .int .i64 ad)
  f5 : Had L 5 (v 21 = .int .u64 a2)
  f6 : Had L 6 (v 22 = .agg #[.int .u64 Y1, .int .u64 Y2])
  f7 : Had L 7 (v 7 = .pointer (some ⟨g 7, 0, none⟩))
  b7 : Had L 7 (Own Wc.heap.size W (g 7))
  c8 : Had L 8 (L 7 = true ∧ Blk W (g 7) (.int .u64 Y1) (.int .u64 Y2))

structure Add3R (w : World) (an ad bn bd a b a2 b2 X1 X2 Y1 Y2 D1 D2 : Int) (Wc : World) (L : Nat → Bool) (v : Nat → Value) (g : Nat → Nat) (W : World) : Prop where
  st : Below Wc.heap.size Wc W
  f0 : Had L 0 (v 23 = .pointer (some ⟨w.heap.size, 1, none⟩))
  f1 : Had L 1 (v 24 = .int .i64 ad)
  f2 : Had L 2 (v 25 = .int .u64 a2)
  f3 : Had L 3 (v 26 = .pointer (some ⟨w.heap.size + 1, 1, none⟩))
  f4 : Had L 4 (v 27 = .int .i64 bd)
  f5 : Had L 5 (v 28 = .int .u64 b)
  f6 : Had L 6 (v 29 = .agg #[.int .u64 D1, .int .u64 D2])
  f7 : Had L 7 (v 8 = .pointer (some ⟨g 7, 0, none⟩))
  b7 : Had L 7 (Own Wc.heap.size W (g 7))
  c8 : Had L 8 (L 7 = true ∧ Blk W (g 7) (.int .u64 D1) (.int .u64 D2))

structure Add5fR (w : World) (an ad bn bd a b a2 b2 X1 X2 Y1 Y2 D1 D2 : Int) (S1 S2 n d er : Int) (Wc : World) (L : Nat → Bool) (v : Nat → Value) (g : Nat → Nat) (W : World) : Prop where
  st : L 10 = false → Below Wc.heap.size Wc W
  sr : Had L 10 (∃ W2, Below Wc.heap.size Wc W2 ∧ W = (W2.setCell ⟨w.heap.size + 1 + 1, 0, none⟩ (.int .i64 n)).setCell ⟨w.heap.size + 1 + 1, 1, none⟩ (.int .i64 d))
  ar : Had L 10 (∀ j ∈ [0, 1, 2, 3, 4, 5, 6, 7, 8, 9], L j = true)
  f0 : Had L 0 (v 37 = .agg #[.int .u64 X1, .int .u64 X2])
  f1 : Had L 1 (v 38 = .agg #[.int .u64 Y1, .int .u64 Y2])
  f2 : Had L 2 (v 39 = .agg #[.int .u64 S1, .int .u64 S2])
  f3 : Had L 3 (v 40 = .pointer (some ⟨w.heap.size, 0, none⟩))
  f4 : Had L 4 (v 41 = .int .i64 an)
  f5 : Had L 5 (v 42 = .bool false)
  f6 : Had L 6 (v 43 = .agg #[.int .u64 D1, .int .u64 D2])
  f7 : Had L 7 (v 44 = .tuple #[.agg #[.int .i64 n, .int .i64 d], .int .i64 er])
  f8 : Had L 8 (v 45 = .agg #[.int .i64 n, .int .i64 d])
  f9 : Had L 9 (v 46 = .int .i64 er)
  f11 : Had L 11 (v 5 = .int .i64 er)

structure Add8fR (w : World) (an ad bn bd a b a2 b2 X1 X2 Y1 Y2 D1 D2 : Int) (Q1 Q2 n d er : Int) (Wc : World) (L : Nat → Bool) (v : Nat → Value) (g : Nat → Nat) (W : World) : Prop where
  st : L 10 = false → Below Wc.heap.size Wc W
  sr : Had L 10 (∃ W2, Below Wc.heap.size Wc W2 ∧ W = (W2.setCell ⟨w.heap.size + 1 + 1, 0, none⟩ (.int .i64 n)).setCell ⟨w.heap.size + 1 + 1, 1, none⟩ (.int .i64 d))
  ar : Had L 10 (∀ j ∈ [0, 1, 2, 3, 4, 5, 6, 7, 8, 9], L j = true)
  f0 : Had L 0 (v 60 = .agg #[.int .u64 X1, .int .u64 X2])
  f1 : Had L 1 (v 61 = .agg #[.int .u64 Y1, .int .u64 Y2])
  f2 : Had L 2 (v 62 = .agg #[.int .u64 Q1, .int .u64 Q2])
  f3 : Had L 3 (v 63 = .pointer (some ⟨w.heap.size, 0, none⟩))
  f4 : Had L 4 (v 64 = .int .i64 an)
  f5 : Had L 5 (v 65 = .bool false)
  f6 : Had L 6 (v 66 = .agg #[.int .u64 D1, .int .u64 D2])
  f7 : Had L 7 (v 67 = .tuple #[.agg #[.int .i64 n, .int .i64 d], .int .i64 er])
  f8 : Had L 8 (v 68 = .agg #[.int .i64 n, .int .i64 d])
  f9 : Had L 9 (v 69 = .int .i64 er)
  f11 : Had L 11 (v 5 = .int .i64 er)

structure Add7fR (w : World) (an ad bn bd a b a2 b2 X1 X2 Y1 Y2 D1 D2 : Int) (M1 M2 n d er : Int) (Wc : World) (L : Nat → Bool) (v : Nat → Value) (g : Nat → Nat) (W : World) : Prop where
  st : L 10 = false → Below Wc.heap.size Wc W
  sr : Had L 10 (∃ W2, Below Wc.heap.size Wc W2 ∧ W = (W2.setCell ⟨w.heap.size + 1 + 1, 0, none⟩ (.int .i64 n)).setCell ⟨w.heap.size + 1 + 1, 1, none⟩ (.int .i64 d))
  ar : Had L 10 (∀ j ∈ [0, 1, 2, 3, 4, 5, 6, 7, 8, 9], L j = true)
  f0 : Had L 0 (v 50 = .agg #[.int .u64 Y1, .int .u64 Y2])
  f1 : Had L 1 (v 51 = .agg #[.int .u64 X1, .int .u64 X2])
  f2 : Had L 2 (v 52 = .agg #[.int .u64 M1, .int .u64 M2])
  f3 : Had L 3 (v 53 = .pointer (some ⟨w.heap.size + 1, 0, none⟩))
  f4 : Had L 4 (v 54 = .int .i64 bn)
  f5 : Had L 5 (v 55 = .bool true)
  f6 : Had L 6 (v 56 = .agg #[.int .u64 D1, .int .u64 D2])
  f7 : Had L 7 (v 57 = .tuple #[.agg #[.int .i64 n, .int .i64 d], .int .i64 er])
  f8 : Had L 8 (v 58 = .agg #[.int .i64 n, .int .i64 d])
  f9 : Had L 9 (v 59 = .int .i64 er)
  f11 : Had L 11 (v 5 = .int .i64 er)

structure Add8tR (w : World) (an ad bn bd a b a2 b2 X1 X2 Y1 Y2 D1 D2 : Int) (Q1 Q2 n d er : Int) (Wc : World) (L : Nat → Bool) (v : Nat → Value) (g : Nat → Nat) (W : World) : Prop where
  st : L 10 = false → Below Wc.heap.size Wc W
  sr : Had L 10 (∃ W2, Below Wc.heap.size Wc W2 ∧ W = (W2.setCell ⟨w.heap.size + 1 + 1, 0, none⟩ (.int .i64 n)).setCell ⟨w.heap.size + 1 + 1, 1, none⟩ (.int .i64 d))
  ar : Had L 10 (∀ j ∈ [0, 1, 2, 3, 4, 5, 6, 7, 8, 9], L j = true)
  f0 : Had L 0 (v 60 = .agg #[.int .u64 X1, .int .u64 X2])
  f1 : Had L 1 (v 61 = .agg #[.int .u64 Y1, .int .u64 Y2])
  f2 : Had L 2 (v 62 = .agg #[.int .u64 Q1, .int .u64 Q2])
  f3 : Had L 3 (v 63 = .pointer (some ⟨w.heap.size, 0, none⟩))
  f4 : Had L 4 (v 64 = .int .i64 an)
  f5 : Had L 5 (v 65 = .bool true)
  f6 : Had L 6 (v 66 = .agg #[.int .u64 D1, .int .u64 D2])
  f7 : Had L 7 (v 67 = .tuple #[.agg #[.int .i64 n, .int .i64 d], .int .i64 er])
  f8 : Had L 8 (v 68 = .agg #[.int .i64 n, .int .i64 d])
  f9 : Had L 9 (v 69 = .int .i64 er)
  f11 : Had L 11 (v 5 = .int .i64 er)

structure Add7tR (w : World) (an ad bn bd a b a2 b2 X1 X2 Y1 Y2 D1 D2 : Int) (M1 M2 n d er : Int) (Wc : World) (L : Nat → Bool) (v : Nat → Value) (g : Nat → Nat) (W : World) : Prop where
  st : L 10 = false → Below Wc.heap.size Wc W
  sr : Had L 10 (∃ W2, Below Wc.heap.size Wc W2 ∧ W = (W2.setCell ⟨w.heap.size + 1 + 1, 0, none⟩ (.int .i64 n)).setCell ⟨w.heap.size + 1 + 1, 1, none⟩ (.int .i64 d))
  ar : Had L 10 (∀ j ∈ [0, 1, 2, 3, 4, 5, 6, 7, 8, 9], L j = true)
  f0 : Had L 0 (v 50 = .agg #[.int .u64 Y1, .int .u64 Y2])
  f1 : Had L 1 (v 51 = .agg #[.int .u64 X1, .int .u64 X2])
  f2 : Had L 2 (v 52 = .agg #[.int .u64 M1, .int .u64 M2])
  f3 : Had L 3 (v 53 = .pointer (some ⟨w.heap.size + 1, 0, none⟩))
  f4 : Had L 4 (v 54 = .int .i64 bn)
  f5 : Had L 5 (v 55 = .bool false)
  f6 : Had L 6 (v 56 = .agg #[.int .u64 D1, .int .u64 D2])
  f7 : Had L 7 (v 57 = .tuple #[.agg #[.int .i64 n, .int .i64 d], .int .i64 er])
  f8 : Had L 8 (v 58 = .agg #[.int .i64 n, .int .i64 d])
  f9 : Had L 9 (v 59 = .int .i64 er)
  f11 : Had L 11 (v 5 = .int .i64 er)

structure Add5tR (w : World) (an ad bn bd a b a2 b2 X1 X2 Y1 Y2 D1 D2 : Int) (S1 S2 n d er : Int) (Wc : World) (L : Nat → Bool) (v : Nat → Value) (g : Nat → Nat) (W : World) : Prop where
  st : L 10 = false → Below Wc.heap.size Wc W
  sr : Had L 10 (∃ W2, Below Wc.heap.size Wc W2 ∧ W = (W2.setCell ⟨w.heap.size + 1 + 1, 0, none⟩ (.int .i64 n)).setCell ⟨w.heap.size + 1 + 1, 1, none⟩ (.int .i64 d))
  ar : Had L 10 (∀ j ∈ [0, 1, 2, 3, 4, 5, 6, 7, 8, 9], L j = true)
  f0 : Had L 0 (v 37 = .agg #[.int .u64 X1, .int .u64 X2])
  f1 : Had L 1 (v 38 = .agg #[.int .u64 Y1, .int .u64 Y2])
  f2 : Had L 2 (v 39 = .agg #[.int .u64 S1, .int .u64 S2])
  f3 : Had L 3 (v 40 = .pointer (some ⟨w.heap.size, 0, none⟩))
  f4 : Had L 4 (v 41 = .int .i64 an)
  f5 : Had L 5 (v 42 = .bool true)
  f6 : Had L 6 (v 43 = .agg #[.int .u64 D1, .int .u64 D2])
  f7 : Had L 7 (v 44 = .tuple #[.agg #[.int .i64 n, .int .i64 d], .int .i64 er])
  f8 : Had L 8 (v 45 = .agg #[.int .i64 n, .int .i64 d])
  f9 : Had L 9 (v 46 = .int .i64 er)
  f11 : Had L 11 (v 5 = .int .i64 er)

set_option maxRecDepth 100000 in
set_option maxHeartbeats 16000000 in
theorem refAdd_walk (w : World) (an ad bn bd a b a2 b2 X1 X2 Y1 Y2 D1 D2 S1 S2 M1 M2 Q1 Q2 n d er : Int) (sa sb less : Bool)
    (C1 : ∀ w, Hid (Calls Try.prog 64 #[.int .i64 an] w fun e w' => e = .returned (.int .u64 a) ∧ w = w'))
    (C2 : ∀ w, Hid (Calls Try.prog 64 #[.int .i64 bn] w fun e w' => e = .returned (.int .u64 b2) ∧ w = w'))
    (C3 : ∀ w, Hid (Calls Try.prog 64 #[.int .i64 ad] w fun e w' => e = .returned (.int .u64 a2) ∧ w = w'))
    (C4 : ∀ w, Hid (Calls Try.prog 64 #[.int .i64 bd] w fun e w' => e = .returned (.int .u64 b) ∧ w = w'))
    (CM1 : ∀ w, Hid (Calls Try.prog 63 #[.int .u64 a, .int .u64 b] w fun e w' => e = .returned (.agg #[.int .u64 X1, .int .u64 X2]) ∧ Below w.heap.size w w'))
    (CM2 : ∀ w, Hid (Calls Try.prog 63 #[.int .u64 b2, .int .u64 a2] w fun e w' => e = .returned (.agg #[.int .u64 Y1, .int .u64 Y2]) ∧ Below w.heap.size w w'))
    (CM3 : ∀ w, Hid (Calls Try.prog 63 #[.int .u64 a2, .int .u64 b] w fun e w' => e = .returned (.agg #[.int .u64 D1, .int .u64 D2]) ∧ Below w.heap.size w w'))
    (CS : ∀ w, Hid (Calls Try.prog 66 #[.agg #[.int .u64 X1, .int .u64 X2], .agg #[.int .u64 Y1, .int .u64 Y2]] w fun e w' => e = .returned (.agg #[.int .u64 S1, .int .u64 S2]) ∧ Below w.heap.size w w'))
    (CL : ∀ w, Hid (Calls Try.prog 67 #[.agg #[.int .u64 X1, .int .u64 X2], .agg #[.int .u64 Y1, .int .u64 Y2]] w fun e w' => e = .returned (.bool less) ∧ Below w.heap.size w w'))
    (CM : ∀ w, Hid (Calls Try.prog 68 #[.agg #[.int .u64 Y1, .int .u64 Y2], .agg #[.int .u64 X1, .int .u64 X2]] w fun e w' => e = .returned (.agg #[.int .u64 M1, .int .u64 M2]) ∧ Below w.heap.size w w'))
    (CN : ∀ w, Hid (Calls Try.prog 68 #[.agg #[.int .u64 X1, .int .u64 X2], .agg #[.int .u64 Y1, .int .u64 Y2]] w fun e w' => e = .returned (.agg #[.int .u64 Q1, .int .u64 Q2]) ∧ Below w.heap.size w w'))
    (CD1 : sa = sb → ∀ w, Hid (Calls Try.prog 65 #[.agg #[.int .u64 S1, .int .u64 S2], .bool sa, .agg #[.int .u64 D1, .int .u64 D2]] w fun e w' => e = .returned (.tuple #[.agg #[.int .i64 n, .int .i64 d], .int .i64 er]) ∧ Below w.heap.size w w'))
    (CD2 : sa ≠ sb → less = true → ∀ w, Hid (Calls Try.prog 65 #[.agg #[.int .u64 M1, .int .u64 M2], .bool sb, .agg #[.int .u64 D1, .int .u64 D2]] w fun e w' => e = .returned (.tuple #[.agg #[.int .i64 n, .int .i64 d], .int .i64 er]) ∧ Below w.heap.size w w'))
    (CD3 : sa ≠ sb → less = false → ∀ w, Hid (Calls Try.prog 65 #[.agg #[.int .u64 Q1, .int .u64 Q2], .bool sa, .agg #[.int .u64 D1, .int .u64 D2]] w fun e w' => e = .returned (.tuple #[.agg #[.int .i64 n, .int .i64 d], .int .i64 er]) ∧ Below w.heap.size w w'))
    (d1 : decide (an < 0) = sa) (d2 : decide (bn < 0) = sb) :
    Calls Try.prog 40 #[.agg #[.int .i64 an, .int .i64 ad], .agg #[.int .i64 bn, .int .i64 bd]] w fun e w' => e = .returned (.tuple #[.agg #[.int .i64 n, .int .i64 d], .int .i64 er]) ∧ Below w.heap.size w w' := by
  go_enter Try.func40, Try.ntmps40
  go_upto_region 1 with fail
  obtain ⟨W0, hW0⟩ : ∃ W0, W0 = ((w.alloc (Obj.cells #[Value.int IntKind.i64 an, Value.int IntKind.i64 ad] 45)).alloc (Obj.cells #[Value.int IntKind.i64 bn, Value.int IntKind.i64 bd] 45)).alloc (Obj.cells #[Value.int IntKind.i64 0, Value.int IntKind.i64 0] 45) := ⟨_, rfl⟩
  rw [← hW0]
  have S0 := Lib.hid (ArgSt.start w an ad bn bd W0 hW0)
  clear hW0
  have HA := Lib.hid S0.out.1
  have HB := Lib.hid S0.out.2.1
  have HR := Lib.hid S0.out.2.2.1
  have HF := Lib.hid S0.out.2.2.2.1
  have HW := Lib.hid S0.out.2.2.2.2
  clear S0
  refine wp_region_each (fun L A W => ∃ (v : Nat → Value) (g : Nat → Nat), A = ⟨#[.agg #[.int .i64 an, .int .i64 ad], .agg #[.int .i64 bn, .int .i64 bd], .pointer (some ⟨w.heap.size, 0, none⟩), .pointer (some ⟨w.heap.size + 1, 0, none⟩), .pointer (some ⟨w.heap.size + 1 + 1, 0, none⟩), .int .i64 0, v 6, undef, undef, v 9, v 10, v 11, v 12, v 13, v 14, v 15, undef, undef, undef, undef, undef, undef, undef, undef, undef, undef, undef, undef, undef, undef, undef, undef, undef, undef, undef, undef, undef, undef, undef, undef, undef, undef, undef, undef, undef, undef, undef, undef, undef, undef, undef, undef, undef, undef, undef, undef, undef, undef, undef, undef, undef, undef, undef, undef, undef, undef, undef, undef, undef, undef], []⟩ ∧ Add1R w an ad bn bd a b a2 b2 X1 X2 Y1 Y2 D1 D2 W0 L v g W) (by kernel_rfl) (by kernel_rfl) ⟨fun _ => undef, fun _ => 0, rfl, ⟨Below.drew (Below.refl _ _), Had.none, Had.none, Had.none, Had.none, Had.none, Had.none, Had.none, Had.none, Had.none, Had.none⟩⟩ (rs := [0, 1, 2, 3, 4, 5, 6, 7, 8]) (by kernel_rfl) ?_ ?_
  · refine EachOf.cons [] rfl (by kernel_rfl) ?_ ?_
    · rintro L A W ⟨v, g, rfl, hR⟩ hi hw K hK
      go_simp
      refine hK.out _ _ ?_
      exact ⟨(fun j => if j = 9 then .pointer (some ⟨w.heap.size, 0, none⟩) else v j), g, rfl, ⟨hR.st, (fun _ => rfl), hR.f1.keep rfl, hR.f2.keep rfl, hR.f3.keep rfl, hR.f4.keep rfl, hR.f5.keep rfl, hR.f6.keep rfl, hR.f7.keep rfl, hR.b7.keep rfl, hR.c8.keepM rfl (fun h => ⟨upd_on h.1, h.2⟩)⟩⟩
    refine EachOf.cons [0] rfl (by kernel_rfl) ?_ ?_
    · rintro L A W ⟨v, g, rfl, hR⟩ hi hw K hK
      have e0 := hR.f0 (hw 0 (by simp))
      simp only [e0]
      clear e0
      obtain ⟨_, q0, q1⟩ := HA.out.on hR.st
      go_simp
      refine hK.out _ _ ?_
      exact ⟨(fun j => if j = 9 then .pointer (some ⟨w.heap.size, 0, none⟩) else if j = 10 then .int .i64 an else v j), g, rfl, ⟨hR.st, (fun _ => rfl), (fun _ => rfl), hR.f2.keep rfl, hR.f3.keep rfl, hR.f4.keep rfl, hR.f5.keep rfl, hR.f6.keep rfl, hR.f7.keep rfl, hR.b7.keep rfl, hR.c8.keepM rfl (fun h => ⟨upd_on h.1, h.2⟩)⟩⟩
    refine EachOf.cons [1] rfl (by kernel_rfl) ?_ ?_
    · rintro L A W ⟨v, g, rfl, hR⟩ hi hw K hK
      have e1 := hR.f1 (hw 1 (by simp))
      simp only [e1]
      clear e1
      go_simp
      go_at_call 64
      (with_reducible refine ((C1 _).out).mono ?_)
      rintro e w2 ⟨rfl, rfl⟩
      go_simp
      refine hK.out _ _ ?_
      exact ⟨(fun j => if j = 10 then .int .i64 an else if j = 11 then .int .u64 a else v j), g, rfl, ⟨hR.st, hR.f0.keep rfl, (fun _ => rfl), (fun _ => rfl), hR.f3.keep rfl, hR.f4.keep rfl, hR.f5.keep rfl, hR.f6.keep rfl, hR.f7.keep rfl, hR.b7.keep rfl, hR.c8.keepM rfl (fun h => ⟨upd_on h.1, h.2⟩)⟩⟩
    refine EachOf.cons [] rfl (by kernel_rfl) ?_ ?_
    · rintro L A W ⟨v, g, rfl, hR⟩ hi hw K hK
      go_simp
      refine hK.out _ _ ?_
      exact ⟨(fun j => if j = 12 then .pointer (some ⟨w.heap.size + 1, 1, none⟩) else v j), g, rfl, ⟨hR.st, hR.f0.keep rfl, hR.f1.keep rfl, hR.f2.keep rfl, (fun _ => rfl), hR.f4.keep rfl, hR.f5.keep rfl, hR.f6.keep rfl, hR.f7.keep rfl, hR.b7.keep rfl, hR.c8.keepM rfl (fun h => ⟨upd_on h.1, h.2⟩)⟩⟩
    refine EachOf.cons [3] rfl (by kernel_rfl) ?_ ?_
    · rintro L A W ⟨v, g, rfl, hR⟩ hi hw K hK
      have e3 := hR.f3 (hw 3 (by simp))
      simp only [e3]
      clear e3
      obtain ⟨_, q0, q1⟩ := HB.out.on hR.st
      go_simp
      refine hK.out _ _ ?_
      exact ⟨(fun j => if j = 12 then .pointer (some ⟨w.heap.size + 1, 1, none⟩) else if j = 13 then .int .i64 bd else v j), g, rfl, ⟨hR.st, hR.f0.keep rfl, hR.f1.keep rfl, hR.f2.keep rfl, (fun _ => rfl), (fun _ => rfl), hR.f5.keep rfl, hR.f6.keep rfl, hR.f7.keep rfl, hR.b7.keep rfl, hR.c8.keepM rfl (fun h => ⟨upd_on h.1, h.2⟩)⟩⟩
    refine EachOf.cons [4] rfl (by kernel_rfl) ?_ ?_
    · rintro L A W ⟨v, g, rfl, hR⟩ hi hw K hK
      have e4 := hR.f4 (hw 4 (by simp))
      simp only [e4]
      clear e4
      go_simp
      go_at_call 64
      (with_reducible refine ((C4 _).out).mono ?_)
      rintro e w2 ⟨rfl, rfl⟩
      go_simp
      refine hK.out _ _ ?_
      exact ⟨(fun j => if j = 13 then .int .i64 bd else if j = 14 then .int .u64 b else v j), g, rfl, ⟨hR.st, hR.f0.keep rfl, hR.f1.keep rfl, hR.f2.keep rfl, hR.f3.keep rfl, (fun _ => rfl), (fun _ => rfl), hR.f6.keep rfl, hR.f7.keep rfl, hR.b7.keep rfl, hR.c8.keepM rfl (fun h => ⟨upd_on h.1, h.2⟩)⟩⟩
    refine EachOf.cons [2, 5] rfl (by kernel_rfl) ?_ ?_
    · rintro L A W ⟨v, g, rfl, hR⟩ hi hw K hK
      have e2 := hR.f2 (hw 2 (by simp))
      have e5 := hR.f5 (hw 5 (by simp))
      simp only [e2, e5]
      clear e2 e5
      go_simp
      go_at_call 63
      (with_reducible refine ((CM1 _).out).mono ?_)
      rintro e w2 ⟨rfl, hb⟩
      go_simp
      refine hK.out _ _ ?_
      exact ⟨(fun j => if j = 11 then .int .u64 a else if j = 14 then .int .u64 b else if j = 15 then .agg #[.int .u64 X1, .int .u64 X2] else v j), g, rfl, ⟨below_on hR.st hb, hR.f0.keep rfl, hR.f1.keep rfl, (fun _ => rfl), hR.f3.keep rfl, hR.f4.keep rfl, (fun _ => rfl), (fun _ => rfl), hR.f7.keep rfl, hR.b7.keepM rfl (fun h => h.on hb), hR.c8.keepM rfl (fun h => ⟨upd_on h.1, h.2.on hb⟩)⟩⟩
    refine EachOf.cons [] rfl (by kernel_rfl) ?_ ?_
    · rintro L A W ⟨v, g, rfl, hR⟩ hi hw K hK
      have hz := hR.st.size
      go_simp
      refine hK.out _ _ ?_
      have hb : Below W.heap.size W (W.alloc (Obj.cells #[Value.int IntKind.u64 0, Value.int IntKind.u64 0] 83)) := (Below.refl _ _).alloc (Nat.le_refl _) _
      exact ⟨(fun j => if j = 6 then .pointer (some ⟨W.heap.size, 0, none⟩) else v j), (fun j => if j = 7 then W.heap.size else g j), rfl, ⟨below_on hR.st hb, hR.f0.keep rfl, hR.f1.keep rfl, hR.f2.keep rfl, hR.f3.keep rfl, hR.f4.keep rfl, hR.f5.keep rfl, hR.f6.keep rfl, (fun _ => rfl), (fun _ => Own.new _ _ _ _ hz), (fun h => absurd ((hR.c8 (upd_back h rfl)).1) (by simp [hi]))⟩⟩
    refine EachOf.cons [7, 6] rfl (by kernel_rfl) ?_ ?_
    · rintro L A W ⟨v, g, rfl, hR⟩ hi hw K hK
      have e7 := hR.f7 (hw 7 (by simp))
      have e6 := hR.f6 (hw 6 (by simp))
      simp only [e7, e6]
      clear e7 e6
      have o2 := hR.b7 (hw 7 (by simp))
      have o1 := o2.1
      have HO := Lib.hid o2
      clear o2
      obtain ⟨_, ⟨u5, v5, l5, p5, q5⟩, r5, s5⟩ := HO.out
      go_simp
      have o2 := HO.out
      refine hK.out _ _ ?_
      exact ⟨(fun j => if j = 6 then .pointer (some ⟨g 7, 0, none⟩) else if j = 15 then .agg #[.int .u64 X1, .int .u64 X2] else v j), g, rfl, ⟨(hR.st.setCell (by simpa using o1) _).setCell (by simpa using o1) _, hR.f0.keep rfl, hR.f1.keep rfl, hR.f2.keep rfl, hR.f3.keep rfl, hR.f4.keep rfl, hR.f5.keep rfl, (fun _ => rfl), (fun _ => rfl), hR.b7.keepM rfl (fun h => h.set), (fun _ => ⟨upd_on (hw 7 (by simp)), o2.setw⟩)⟩⟩
    exact EachOf.nil
  rintro L A W1 ⟨v1, g1, rfl, hR⟩ hL
  have e7 := hR.f7 (hL 7 (by simp))
  have hst := Lib.hid hR.st
  simp only [e7]
  clear e7
  have HX := Lib.hid (hR.c8 (hL 8 (by simp))).2
  have HXF := Lib.hid (hR.b7 (hL 7 (by simp))).2.2
  have HXN := Lib.hid (hR.b7 (hL 7 (by simp))).1
  clear hR hL
  generalize g1 7 = gx at *
  replace HF := Lib.hid (HF.out.on HR.out.1 hst.out)
  replace HA := Lib.hid (HA.out.on hst.out)
  replace HB := Lib.hid (HB.out.on hst.out)
  replace HR := Lib.hid (HR.out.on hst.out)
  replace HW := Lib.hid (below_on HW.out hst.out)
  go_wp2_with fail
  refine wp_region_each (fun L A W => ∃ (v : Nat → Value) (g : Nat → Nat), A = ⟨#[.agg #[.int .i64 an, .int .i64 ad], .agg #[.int .i64 bn, .int .i64 bd], .pointer (some ⟨w.heap.size, 0, none⟩), .pointer (some ⟨w.heap.size + 1, 0, none⟩), .pointer (some ⟨w.heap.size + 1 + 1, 0, none⟩), .int .i64 0, .pointer (some ⟨gx, 0, none⟩), v 7, undef, v1 9, v1 10, v1 11, v1 12, v1 13, v1 14, v1 15, v 16, v 17, v 18, v 19, v 20, v 21, v 22, undef, undef, undef, undef, undef, undef, undef, undef, undef, undef, undef, undef, undef, undef, undef, undef, undef, undef, undef, undef, undef, undef, undef, undef, undef, undef, undef, undef, undef, undef, undef, undef, undef, undef, undef, undef, undef, undef, undef, undef, undef, undef, undef, undef, undef, undef, undef], []⟩ ∧ Add2R w an ad bn bd a b a2 b2 X1 X2 Y1 Y2 D1 D2 W1 L v g W) (by kernel_rfl) (by kernel_rfl) ⟨fun _ => undef, fun _ => 0, rfl, ⟨Below.drew (Below.refl _ _), Had.none, Had.none, Had.none, Had.none, Had.none, Had.none, Had.none, Had.none, Had.none, Had.none⟩⟩ (rs := [0, 1, 2, 3, 4, 5, 6, 7, 8]) (by kernel_rfl) ?_ ?_
  · refine EachOf.cons [] rfl (by kernel_rfl) ?_ ?_
    · rintro L A W ⟨v, g, rfl, hR⟩ hi hw K hK
      go_simp
      refine hK.out _ _ ?_
      exact ⟨(fun j => if j = 16 then .pointer (some ⟨w.heap.size + 1, 0, none⟩) else v j), g, rfl, ⟨hR.st, (fun _ => rfl), hR.f1.keep rfl, hR.f2.keep rfl, hR.f3.keep rfl, hR.f4.keep rfl, hR.f5.keep rfl, hR.f6.keep rfl, hR.f7.keep rfl, hR.b7.keep rfl, hR.c8.keepM rfl (fun h => ⟨upd_on h.1, h.2⟩)⟩⟩
    refine EachOf.cons [0] rfl (by kernel_rfl) ?_ ?_
    · rintro L A W ⟨v, g, rfl, hR⟩ hi hw K hK
      have e0 := hR.f0 (hw 0 (by simp))
      simp only [e0]
      clear e0
      obtain ⟨_, q0, q1⟩ := HB.out.on hR.st
      go_simp
      refine hK.out _ _ ?_
      exact ⟨(fun j => if j = 16 then .pointer (some ⟨w.heap.size + 1, 0, none⟩) else if j = 17 then .int .i64 bn else v j), g, rfl, ⟨hR.st, (fun _ => rfl), (fun _ => rfl), hR.f2.keep rfl, hR.f3.keep rfl, hR.f4.keep rfl, hR.f5.keep rfl, hR.f6.keep rfl, hR.f7.keep rfl, hR.b7.keep rfl, hR.c8.keepM rfl (fun h => ⟨upd_on h.1, h.2⟩)⟩⟩
    refine EachOf.cons [1] rfl (by kernel_rfl) ?_ ?_
    · rintro L A W ⟨v, g, rfl, hR⟩ hi hw K hK
      have e1 := hR.f1 (hw 1 (by simp))
      simp only [e1]
      clear e1
      go_simp
      go_at_call 64
      (with_reducible refine ((C2 _).out).mono ?_)
      rintro e w2 ⟨rfl, rfl⟩
      go_simp
      refine hK.out _ _ ?_
      exact ⟨(fun j => if j = 17 then .int .i64 bn else if j = 18 then .int .u64 b2 else v j), g, rfl, ⟨hR.st, hR.f0.keep rfl, (fun _ => rfl), (fun _ => rfl), hR.f3.keep rfl, hR.f4.keep rfl, hR.f5.keep rfl, hR.f6.keep rfl, hR.f7.keep rfl, hR.b7.keep rfl, hR.c8.keepM rfl (fun h => ⟨upd_on h.1, h.2⟩)⟩⟩
    refine EachOf.cons [] rfl (by kernel_rfl) ?_ ?_
    · rintro L A W ⟨v, g, rfl, hR⟩ hi hw K hK
      go_simp
      refine hK.out _ _ ?_
      exact ⟨(fun j => if j = 19 then .pointer (some ⟨w.heap.size, 1, none⟩) else v j), g, rfl, ⟨hR.st, hR.f0.keep rfl, hR.f1.keep rfl, hR.f2.keep rfl, (fun _ => rfl), hR.f4.keep rfl, hR.f5.keep rfl, hR.f6.keep rfl, hR.f7.keep rfl, hR.b7.keep rfl, hR.c8.keepM rfl (fun h => ⟨upd_on h.1, h.2⟩)⟩⟩
    refine EachOf.cons [3] rfl (by kernel_rfl) ?_ ?_
    · rintro L A W ⟨v, g, rfl, hR⟩ hi hw K hK
      have e3 := hR.f3 (hw 3 (by simp))
      simp only [e3]
      clear e3
      obtain ⟨_, q0, q1⟩ := HA.out.on hR.st
      go_simp
      refine hK.out _ _ ?_
      exact ⟨(fun j => if j = 19 then .pointer (some ⟨w.heap.size, 1, none⟩) else if j = 20 then .int .i64 ad else v j), g, rfl, ⟨hR.st, hR.f0.keep rfl, hR.f1.keep rfl, hR.f2.keep rfl, (fun _ => rfl), (fun _ => rfl), hR.f5.keep rfl, hR.f6.keep rfl, hR.f7.keep rfl, hR.b7.keep rfl, hR.c8.keepM rfl (fun h => ⟨upd_on h.1, h.2⟩)⟩⟩
    refine EachOf.cons [4] rfl (by kernel_rfl) ?_ ?_
    · rintro L A W ⟨v, g, rfl, hR⟩ hi hw K hK
      have e4 := hR.f4 (hw 4 (by simp))
      simp only [e4]
      clear e4
      go_simp
      go_at_call 64
      (with_reducible refine ((C3 _).out).mono ?_)
      rintro e w2 ⟨rfl, rfl⟩
      go_simp
      refine hK.out _ _ ?_
      exact ⟨(fun j => if j = 20 then .int .i64 ad else if j = 21 then .int .u64 a2 else v j), g, rfl, ⟨hR.st, hR.f0.keep rfl, hR.f1.keep rfl, hR.f2.keep rfl, hR.f3.keep rfl, (fun _ => rfl), (fun _ => rfl), hR.f6.keep rfl, hR.f7.keep rfl, hR.b7.keep rfl, hR.c8.keepM rfl (fun h => ⟨upd_on h.1, h.2⟩)⟩⟩
    refine EachOf.cons [2, 5] rfl (by kernel_rfl) ?_ ?_
    · rintro L A W ⟨v, g, rfl, hR⟩ hi hw K hK
      have e2 := hR.f2 (hw 2 (by simp))
      have e5 := hR.f5 (hw 5 (by simp))
      simp only [e2, e5]
      clear e2 e5
      go_simp
      go_at_call 63
      (with_reducible refine ((CM2 _).out).mono ?_)
      rintro e w2 ⟨rfl, hb⟩
      go_simp
      refine hK.out _ _ ?_
      exact ⟨(fun j => if j = 18 then .int .u64 b2 else if j = 21 then .int .u64 a2 else if j = 22 then .agg #[.int .u64 Y1, .int .u64 Y2] else v j), g, rfl, ⟨below_on hR.st hb, hR.f0.keep rfl, hR.f1.keep rfl, (fun _ => rfl), hR.f3.keep rfl, hR.f4.keep rfl, (fun _ => rfl), (fun _ => rfl), hR.f7.keep rfl, hR.b7.keepM rfl (fun h => h.on hb), hR.c8.keepM rfl (fun h => ⟨upd_on h.1, h.2.on hb⟩)⟩⟩
    refine EachOf.cons [] rfl (by kernel_rfl) ?_ ?_
    · rintro L A W ⟨v, g, rfl, hR⟩ hi hw K hK
      have hz := hR.st.size
      go_simp
      refine hK.out _ _ ?_
      have hb : Below W.heap.size W (W.alloc (Obj.cells #[Value.int IntKind.u64 0, Value.int IntKind.u64 0] 83)) := (Below.refl _ _).alloc (Nat.le_refl _) _
      exact ⟨(fun j => if j = 7 then .pointer (some ⟨W.heap.size, 0, none⟩) else v j), (fun j => if j = 7 then W.heap.size else g j), rfl, ⟨below_on hR.st hb, hR.f0.keep rfl, hR.f1.keep rfl, hR.f2.keep rfl, hR.f3.keep rfl, hR.f4.keep rfl, hR.f5.keep rfl, hR.f6.keep rfl, (fun _ => rfl), (fun _ => Own.new _ _ _ _ hz), (fun h => absurd ((hR.c8 (upd_back h rfl)).1) (by simp [hi]))⟩⟩
    refine EachOf.cons [7, 6] rfl (by kernel_rfl) ?_ ?_
    · rintro L A W ⟨v, g, rfl, hR⟩ hi hw K hK
      have e7 := hR.f7 (hw 7 (by simp))
      have e6 := hR.f6 (hw 6 (by simp))
      simp only [e7, e6]
      clear e7 e6
      have o2 := hR.b7 (hw 7 (by simp))
      have o1 := o2.1
      have HO := Lib.hid o2
      clear o2
      obtain ⟨_, ⟨u5, v5, l5, p5, q5⟩, r5, s5⟩ := HO.out
      go_simp
      have o2 := HO.out
      refine hK.out _ _ ?_
      exact ⟨(fun j => if j = 7 then .pointer (some ⟨g 7, 0, none⟩) else if j = 22 then .agg #[.int .u64 Y1, .int .u64 Y2] else v j), g, rfl, ⟨(hR.st.setCell (by simpa using o1) _).setCell (by simpa using o1) _, hR.f0.keep rfl, hR.f1.keep rfl, hR.f2.keep rfl, hR.f3.keep rfl, hR.f4.keep rfl, hR.f5.keep rfl, (fun _ => rfl), (fun _ => rfl), hR.b7.keepM rfl (fun h => h.set), (fun _ => ⟨upd_on (hw 7 (by simp)), o2.setw⟩)⟩⟩
    exact EachOf.nil
  rintro L A W2 ⟨v2, g2, rfl, hR⟩ hL
  have e7 := hR.f7 (hL 7 (by simp))
  have hst := Lib.hid hR.st
  simp only [e7]
  clear e7
  have HY := Lib.hid (hR.c8 (hL 8 (by simp))).2
  have HYF := Lib.hid (hR.b7 (hL 7 (by simp))).2.2
  have HYN := Lib.hid (hR.b7 (hL 7 (by simp))).1
  clear hR hL
  generalize g2 7 = gy at *
  replace HF := Lib.hid (HF.out.on HR.out.1 hst.out)
  replace HXF := Lib.hid (HXF.out.on HX.out.1 hst.out)
  replace HA := Lib.hid (HA.out.on hst.out)
  replace HB := Lib.hid (HB.out.on hst.out)
  replace HR := Lib.hid (HR.out.on hst.out)
  replace HX := Lib.hid (HX.out.on hst.out)
  replace HW := Lib.hid (below_on HW.out hst.out)
  go_wp2_with fail
  refine wp_region_each (fun L A W => ∃ (v : Nat → Value) (g : Nat → Nat), A = ⟨#[.agg #[.int .i64 an, .int .i64 ad], .agg #[.int .i64 bn, .int .i64 bd], .pointer (some ⟨w.heap.size, 0, none⟩), .pointer (some ⟨w.heap.size + 1, 0, none⟩), .pointer (some ⟨w.heap.size + 1 + 1, 0, none⟩), .int .i64 0, .pointer (some ⟨gx, 0, none⟩), .pointer (some ⟨gy, 0, none⟩), v 8, v1 9, v1 10, v1 11, v1 12, v1 13, v1 14, v1 15, v2 16, v2 17, v2 18, v2 19, v2 20, v2 21, v2 22, v 23, v 24, v 25, v 26, v 27, v 28, v 29, undef, undef, undef, undef, undef, undef, undef, undef, undef, undef, undef, undef, undef, undef, undef, undef, undef, undef, undef, undef, undef, undef, undef, undef, undef, undef, undef, undef, undef, undef, undef, undef, undef, undef, undef, undef, undef, undef, undef, undef], []⟩ ∧ Add3R w an ad bn bd a b a2 b2 X1 X2 Y1 Y2 D1 D2 W2 L v g W) (by kernel_rfl) (by kernel_rfl) ⟨fun _ => undef, fun _ => 0, rfl, ⟨Below.drew (Below.refl _ _), Had.none, Had.none, Had.none, Had.none, Had.none, Had.none, Had.none, Had.none, Had.none, Had.none⟩⟩ (rs := [0, 1, 2, 3, 4, 5, 6, 7, 8]) (by kernel_rfl) ?_ ?_
  · refine EachOf.cons [] rfl (by kernel_rfl) ?_ ?_
    · rintro L A W ⟨v, g, rfl, hR⟩ hi hw K hK
      go_simp
      refine hK.out _ _ ?_
      exact ⟨(fun j => if j = 23 then .pointer (some ⟨w.heap.size, 1, none⟩) else v j), g, rfl, ⟨hR.st, (fun _ => rfl), hR.f1.keep rfl, hR.f2.keep rfl, hR.f3.keep rfl, hR.f4.keep rfl, hR.f5.keep rfl, hR.f6.keep rfl, hR.f7.keep rfl, hR.b7.keep rfl, hR.c8.keepM rfl (fun h => ⟨upd_on h.1, h.2⟩)⟩⟩
    refine EachOf.cons [0] rfl (by kernel_rfl) ?_ ?_
    · rintro L A W ⟨v, g, rfl, hR⟩ hi hw K hK
      have e0 := hR.f0 (hw 0 (by simp))
      simp only [e0]
      clear e0
      obtain ⟨_, q0, q1⟩ := HA.out.on hR.st
      go_simp
      refine hK.out _ _ ?_
      exact ⟨(fun j => if j = 23 then .pointer (some ⟨w.heap.size, 1, none⟩) else if j = 24 then .int .i64 ad else v j), g, rfl, ⟨hR.st, (fun _ => rfl), (fun _ => rfl), hR.f2.keep rfl, hR.f3.keep rfl, hR.f4.keep rfl, hR.f5.keep rfl, hR.f6.keep rfl, hR.f7.keep rfl, hR.b7.keep rfl, hR.c8.keepM rfl (fun h => ⟨upd_on h.1, h.2⟩)⟩⟩
    refine EachOf.cons [1] rfl (by kernel_rfl) ?_ ?_
    · rintro L A W ⟨v, g, rfl, hR⟩ hi hw K hK
      have e1 := hR.f1 (hw 1 (by simp))
      simp only [e1]
      clear e1
      go_simp
      go_at_call 64
      (with_reducible refine ((C3 _).out).mono ?_)
      rintro e w2 ⟨rfl, rfl⟩
      go_simp
      refine hK.out _ _ ?_
      exact ⟨(fun j => if j = 24 then .int .i64 ad else if j = 25 then .int .u64 a2 else v j), g, rfl, ⟨hR.st, hR.f0.keep rfl, (fun _ => rfl), (fun _ => rfl), hR.f3.keep rfl, hR.f4.keep rfl, hR.f5.keep rfl, hR.f6.keep rfl, hR.f7.keep rfl, hR.b7.keep rfl, hR.c8.keepM rfl (fun h => ⟨upd_on h.1, h.2⟩)⟩⟩
    refine EachOf.cons [] rfl (by kernel_rfl) ?_ ?_
    · rintro L A W ⟨v, g, rfl, hR⟩ hi hw K hK
      go_simp
      refine hK.out _ _ ?_
      exact ⟨(fun j => if j = 26 then .pointer (some ⟨w.heap.size + 1, 1, none⟩) else v j), g, rfl, ⟨hR.st, hR.f0.keep rfl, hR.f1.keep rfl, hR.f2.keep rfl, (fun _ => rfl), hR.f4.keep rfl, hR.f5.keep rfl, hR.f6.keep rfl, hR.f7.keep rfl, hR.b7.keep rfl, hR.c8.keepM rfl (fun h => ⟨upd_on h.1, h.2⟩)⟩⟩
    refine EachOf.cons [3] rfl (by kernel_rfl) ?_ ?_
    · rintro L A W ⟨v, g, rfl, hR⟩ hi hw K hK
      have e3 := hR.f3 (hw 3 (by simp))
      simp only [e3]
      clear e3
      obtain ⟨_, q0, q1⟩ := HB.out.on hR.st
      go_simp
      refine hK.out _ _ ?_
      exact ⟨(fun j => if j = 26 then .pointer (some ⟨w.heap.size + 1, 1, none⟩) else if j = 27 then .int .i64 bd else v j), g, rfl, ⟨hR.st, hR.f0.keep rfl, hR.f1.keep rfl, hR.f2.keep rfl, (fun _ => rfl), (fun _ => rfl), hR.f5.keep rfl, hR.f6.keep rfl, hR.f7.keep rfl, hR.b7.keep rfl, hR.c8.keepM rfl (fun h => ⟨upd_on h.1, h.2⟩)⟩⟩
    refine EachOf.cons [4] rfl (by kernel_rfl) ?_ ?_
    · rintro L A W ⟨v, g, rfl, hR⟩ hi hw K hK
      have e4 := hR.f4 (hw 4 (by simp))
      simp only [e4]
      clear e4
      go_simp
      go_at_call 64
      (with_reducible refine ((C4 _).out).mono ?_)
      rintro e w2 ⟨rfl, rfl⟩
      go_simp
      refine hK.out _ _ ?_
      exact ⟨(fun j => if j = 27 then .int .i64 bd else if j = 28 then .int .u64 b else v j), g, rfl, ⟨hR.st, hR.f0.keep rfl, hR.f1.keep rfl, hR.f2.keep rfl, hR.f3.keep rfl, (fun _ => rfl), (fun _ => rfl), hR.f6.keep rfl, hR.f7.keep rfl, hR.b7.keep rfl, hR.c8.keepM rfl (fun h => ⟨upd_on h.1, h.2⟩)⟩⟩
    refine EachOf.cons [2, 5] rfl (by kernel_rfl) ?_ ?_
    · rintro L A W ⟨v, g, rfl, hR⟩ hi hw K hK
      have e2 := hR.f2 (hw 2 (by simp))
      have e5 := hR.f5 (hw 5 (by simp))
      simp only [e2, e5]
      clear e2 e5
      go_simp
      go_at_call 63
      (with_reducible refine ((CM3 _).out).mono ?_)
      rintro e w2 ⟨rfl, hb⟩
      go_simp
      refine hK.out _ _ ?_
      exact ⟨(fun j => if j = 25 then .int .u64 a2 else if j = 28 then .int .u64 b else if j = 29 then .agg #[.int .u64 D1, .int .u64 D2] else v j), g, rfl, ⟨below_on hR.st hb, hR.f0.keep rfl, hR.f1.keep rfl, (fun _ => rfl), hR.f3.keep rfl, hR.f4.keep rfl, (fun _ => rfl), (fun _ => rfl), hR.f7.keep rfl, hR.b7.keepM rfl (fun h => h.on hb), hR.c8.keepM rfl (fun h => ⟨upd_on h.1, h.2.on hb⟩)⟩⟩
    refine EachOf.cons [] rfl (by kernel_rfl) ?_ ?_
    · rintro L A W ⟨v, g, rfl, hR⟩ hi hw K hK
      have hz := hR.st.size
      go_simp
      refine hK.out _ _ ?_
      have hb : Below W.heap.size W (W.alloc (Obj.cells #[Value.int IntKind.u64 0, Value.int IntKind.u64 0] 83)) := (Below.refl _ _).alloc (Nat.le_refl _) _
      exact ⟨(fun j => if j = 8 then .pointer (some ⟨W.heap.size, 0, none⟩) else v j), (fun j => if j = 7 then W.heap.size else g j), rfl, ⟨below_on hR.st hb, hR.f0.keep rfl, hR.f1.keep rfl, hR.f2.keep rfl, hR.f3.keep rfl, hR.f4.keep rfl, hR.f5.keep rfl, hR.f6.keep rfl, (fun _ => rfl), (fun _ => Own.new _ _ _ _ hz), (fun h => absurd ((hR.c8 (upd_back h rfl)).1) (by simp [hi]))⟩⟩
    refine EachOf.cons [7, 6] rfl (by kernel_rfl) ?_ ?_
    · rintro L A W ⟨v, g, rfl, hR⟩ hi hw K hK
      have e7 := hR.f7 (hw 7 (by simp))
      have e6 := hR.f6 (hw 6 (by simp))
      simp only [e7, e6]
      clear e7 e6
      have o2 := hR.b7 (hw 7 (by simp))
      have o1 := o2.1
      have HO := Lib.hid o2
      clear o2
      obtain ⟨_, ⟨u5, v5, l5, p5, q5⟩, r5, s5⟩ := HO.out
      go_simp
      have o2 := HO.out
      refine hK.out _ _ ?_
      exact ⟨(fun j => if j = 8 then .pointer (some ⟨g 7, 0, none⟩) else if j = 29 then .agg #[.int .u64 D1, .int .u64 D2] else v j), g, rfl, ⟨(hR.st.setCell (by simpa using o1) _).setCell (by simpa using o1) _, hR.f0.keep rfl, hR.f1.keep rfl, hR.f2.keep rfl, hR.f3.keep rfl, hR.f4.keep rfl, hR.f5.keep rfl, (fun _ => rfl), (fun _ => rfl), hR.b7.keepM rfl (fun h => h.set), (fun _ => ⟨upd_on (hw 7 (by simp)), o2.setw⟩)⟩⟩
    exact EachOf.nil
  rintro L A W3 ⟨v3, g3, rfl, hR⟩ hL
  have e7 := hR.f7 (hL 7 (by simp))
  have hst := Lib.hid hR.st
  simp only [e7]
  clear e7
  have HD := Lib.hid (hR.c8 (hL 8 (by simp))).2
  have HDF := Lib.hid (hR.b7 (hL 7 (by simp))).2.2
  have HDN := Lib.hid (hR.b7 (hL 7 (by simp))).1
  clear hR hL
  generalize g3 7 = gd at *
  replace HF := Lib.hid (HF.out.on HR.out.1 hst.out)
  replace HXF := Lib.hid (HXF.out.on HX.out.1 hst.out)
  replace HYF := Lib.hid (HYF.out.on HY.out.1 hst.out)
  replace HA := Lib.hid (HA.out.on hst.out)
  replace HB := Lib.hid (HB.out.on hst.out)
  replace HR := Lib.hid (HR.out.on hst.out)
  replace HX := Lib.hid (HX.out.on hst.out)
  replace HY := Lib.hid (HY.out.on hst.out)
  replace HW := Lib.hid (below_on HW.out hst.out)
  cases sa
  · cases sb
    · have CP := CS
      have CD := CD1 rfl
      obtain ⟨_, HAp, HAq⟩ := HA.out
      obtain ⟨_, HBp, HBq⟩ := HB.out
      go_wp2_with fail
      clear HAp HAq HBp HBq
      refine wp_region_each (fun L A W => ∃ (v : Nat → Value) (g : Nat → Nat), A = ⟨#[.agg #[.int .i64 an, .int .i64 ad], .agg #[.int .i64 bn, .int .i64 bd], .pointer (some ⟨w.heap.size, 0, none⟩), .pointer (some ⟨w.heap.size + 1, 0, none⟩), .pointer (some ⟨w.heap.size + 1 + 1, 0, none⟩), v 5, .pointer (some ⟨gx, 0, none⟩), .pointer (some ⟨gy, 0, none⟩), .pointer (some ⟨gd, 0, none⟩), v1 9, v1 10, v1 11, v1 12, v1 13, v1 14, v1 15, v2 16, v2 17, v2 18, v2 19, v2 20, v2 21, v2 22, v3 23, v3 24, v3 25, v3 26, v3 27, v3 28, v3 29, .pointer (some ⟨w.heap.size, 0, none⟩), .int .i64 an, .bool false, .pointer (some ⟨w.heap.size + 1, 0, none⟩), .int .i64 bn, .bool false, .bool true, v 37, v 38, v 39, v 40, v 41, v 42, v 43, v 44, v 45, v 46, undef, undef, undef, undef, undef, undef, undef, undef, undef, undef, undef, undef, undef, undef, undef, undef, undef, undef, undef, undef, undef, undef, undef], []⟩ ∧ Add5fR w an ad bn bd a b a2 b2 X1 X2 Y1 Y2 D1 D2 S1 S2 n d er W3 L v g W) (by kernel_rfl) (by kernel_rfl) ⟨fun j => if j = 5 then .int .i64 0 else undef, fun _ => 0, rfl, ⟨(fun _ => Below.drew (Below.refl _ _)), Had.none, Had.none, Had.none, Had.none, Had.none, Had.none, Had.none, Had.none, Had.none, Had.none, Had.none, Had.none, Had.none⟩⟩ (rs := [0, 1, 2, 3, 4, 5, 6, 7, 8, 9, 10, 11]) (by kernel_rfl) ?_ ?_
      · refine EachOf.cons [] rfl (by kernel_rfl) ?_ ?_
        · rintro L A W ⟨v, g, rfl, hR⟩ hi hw K hK
          have hk : L 10 = false := hR.ar.not hi rfl
          obtain ⟨_, q0, q1⟩ := HX.out.on (hR.st hk)
          go_simp
          refine hK.out _ _ ?_
          exact ⟨(fun j => if j = 37 then .agg #[.int .u64 X1, .int .u64 X2] else v j), g, rfl, ⟨(fun h => hR.st (upd_false h)), hR.sr.keep rfl, hR.ar.keepM rfl (fun h j hj => upd_on (h j hj)), (fun _ => rfl), hR.f1.keep rfl, hR.f2.keep rfl, hR.f3.keep rfl, hR.f4.keep rfl, hR.f5.keep rfl, hR.f6.keep rfl, hR.f7.keep rfl, hR.f8.keep rfl, hR.f9.keep rfl, hR.f11.keep rfl⟩⟩
        refine EachOf.cons [] rfl (by kernel_rfl) ?_ ?_
        · rintro L A W ⟨v, g, rfl, hR⟩ hi hw K hK
          have hk : L 10 = false := hR.ar.not hi rfl
          obtain ⟨_, q0, q1⟩ := HY.out.on (hR.st hk)
          go_simp
          refine hK.out _ _ ?_
          exact ⟨(fun j => if j = 38 then .agg #[.int .u64 Y1, .int .u64 Y2] else v j), g, rfl, ⟨(fun h => hR.st (upd_false h)), hR.sr.keep rfl, hR.ar.keepM rfl (fun h j hj => upd_on (h j hj)), hR.f0.keep rfl, (fun _ => rfl), hR.f2.keep rfl, hR.f3.keep rfl, hR.f4.keep rfl, hR.f5.keep rfl, hR.f6.keep rfl, hR.f7.keep rfl, hR.f8.keep rfl, hR.f9.keep rfl, hR.f11.keep rfl⟩⟩
        refine EachOf.cons [0, 1] rfl (by kernel_rfl) ?_ ?_
        · rintro L A W ⟨v, g, rfl, hR⟩ hi hw K hK
          have hk : L 10 = false := hR.ar.not hi rfl
          have e0 := hR.f0 (hw 0 (by simp))
          have e1 := hR.f1 (hw 1 (by simp))
          simp only [e0, e1]
          clear e0 e1
          go_simp
          go_at_call 66
          (with_reducible refine ((CP _).out).mono ?_)
          rintro e w2 ⟨rfl, hb⟩
          go_simp
          refine hK.out _ _ ?_
          exact ⟨(fun j => if j = 37 then .agg #[.int .u64 X1, .int .u64 X2] else if j = 38 then .agg #[.int .u64 Y1, .int .u64 Y2] else if j = 39 then .agg #[.int .u64 S1, .int .u64 S2] else v j), g, rfl, ⟨(fun _ => below_on (hR.st hk) hb), (fun h => absurd (upd_back h rfl) (by simp [hk])), hR.ar.keepM rfl (fun h j hj => upd_on (h j hj)), (fun _ => rfl), (fun _ => rfl), (fun _ => rfl), hR.f3.keep rfl, hR.f4.keep rfl, hR.f5.keep rfl, hR.f6.keep rfl, hR.f7.keep rfl, hR.f8.keep rfl, hR.f9.keep rfl, hR.f11.keep rfl⟩⟩
        refine EachOf.cons [] rfl (by kernel_rfl) ?_ ?_
        · rintro L A W ⟨v, g, rfl, hR⟩ hi hw K hK
          have hk : L 10 = false := hR.ar.not hi rfl
          go_simp
          refine hK.out _ _ ?_
          exact ⟨(fun j => if j = 40 then .pointer (some ⟨w.heap.size, 0, none⟩) else v j), g, rfl, ⟨(fun h => hR.st (upd_false h)), hR.sr.keep rfl, hR.ar.keepM rfl (fun h j hj => upd_on (h j hj)), hR.f0.keep rfl, hR.f1.keep rfl, hR.f2.keep rfl, (fun _ => rfl), hR.f4.keep rfl, hR.f5.keep rfl, hR.f6.keep rfl, hR.f7.keep rfl, hR.f8.keep rfl, hR.f9.keep rfl, hR.f11.keep rfl⟩⟩
        refine EachOf.cons [3] rfl (by kernel_rfl) ?_ ?_
        · rintro L A W ⟨v, g, rfl, hR⟩ hi hw K hK
          have hk : L 10 = false := hR.ar.not hi rfl
          have e3 := hR.f3 (hw 3 (by simp))
          simp only [e3]
          clear e3
          obtain ⟨_, q0, q1⟩ := HA.out.on (hR.st hk)
          go_simp
          refine hK.out _ _ ?_
          exact ⟨(fun j => if j = 40 then .pointer (some ⟨w.heap.size, 0, none⟩) else if j = 41 then .int .i64 an else v j), g, rfl, ⟨(fun h => hR.st (upd_false h)), hR.sr.keep rfl, hR.ar.keepM rfl (fun h j hj => upd_on (h j hj)), hR.f0.keep rfl, hR.f1.keep rfl, hR.f2.keep rfl, (fun _ => rfl), (fun _ => rfl), hR.f5.keep rfl, hR.f6.keep rfl, hR.f7.keep rfl, hR.f8.keep rfl, hR.f9.keep rfl, hR.f11.keep rfl⟩⟩
        refine EachOf.cons [4] rfl (by kernel_rfl) ?_ ?_
        · rintro L A W ⟨v, g, rfl, hR⟩ hi hw K hK
          have hk : L 10 = false := hR.ar.not hi rfl
          have e4 := hR.f4 (hw 4 (by simp))
          simp only [e4]
          clear e4
          go_simp
          refine hK.out _ _ ?_
          exact ⟨(fun j => if j = 41 then .int .i64 an else if j = 42 then .bool false else v j), g, rfl, ⟨(fun h => hR.st (upd_false h)), hR.sr.keep rfl, hR.ar.keepM rfl (fun h j hj => upd_on (h j hj)), hR.f0.keep rfl, hR.f1.keep rfl, hR.f2.keep rfl, hR.f3.keep rfl, (fun _ => rfl), (fun _ => rfl), hR.f6.keep rfl, hR.f7.keep rfl, hR.f8.keep rfl, hR.f9.keep rfl, hR.f11.keep rfl⟩⟩
        refine EachOf.cons [] rfl (by kernel_rfl) ?_ ?_
        · rintro L A W ⟨v, g, rfl, hR⟩ hi hw K hK
          have hk : L 10 = false := hR.ar.not hi rfl
          obtain ⟨_, q0, q1⟩ := HD.out.on (hR.st hk)
          go_simp
          refine hK.out _ _ ?_
          exact ⟨(fun j => if j = 43 then .agg #[.int .u64 D1, .int .u64 D2] else v j), g, rfl, ⟨(fun h => hR.st (upd_false h)), hR.sr.keep rfl, hR.ar.keepM rfl (fun h j hj => upd_on (h j hj)), hR.f0.keep rfl, hR.f1.keep rfl, hR.f2.keep rfl, hR.f3.keep rfl, hR.f4.keep rfl, hR.f5.keep rfl, (fun _ => rfl), hR.f7.keep rfl, hR.f8.keep rfl, hR.f9.keep rfl, hR.f11.keep rfl⟩⟩
        refine EachOf.cons [2, 5, 6] rfl (by kernel_rfl) ?_ ?_
        · rintro L A W ⟨v, g, rfl, hR⟩ hi hw K hK
          have hk : L 10 = false := hR.ar.not hi rfl
          have e2 := hR.f2 (hw 2 (by simp))
          have e5 := hR.f5 (hw 5 (by simp))
          have e6 := hR.f6 (hw 6 (by simp))
          simp only [e2, e5, e6]
          clear e2 e5 e6
          go_simp
          go_at_call 65
          (with_reducible refine ((CD _).out).mono ?_)
          rintro e w2 ⟨rfl, hb⟩
          go_simp
          refine hK.out _ _ ?_
          exact ⟨(fun j => if j = 39 then .agg #[.int .u64 S1, .int .u64 S2] else if j = 42 then .bool false else if j = 43 then .agg #[.int .u64 D1, .int .u64 D2] else if j = 44 then .tuple #[.agg #[.int .i64 n, .int .i64 d], .int .i64 er] else v j), g, rfl, ⟨(fun _ => below_on (hR.st hk) hb), (fun h => absurd (upd_back h rfl) (by simp [hk])), hR.ar.keepM rfl (fun h j hj => upd_on (h j hj)), hR.f0.keep rfl, hR.f1.keep rfl, (fun _ => rfl), hR.f3.keep rfl, hR.f4.keep rfl, (fun _ => rfl), (fun _ => rfl), (fun _ => rfl), hR.f8.keep rfl, hR.f9.keep rfl, hR.f11.keep rfl⟩⟩
        refine EachOf.cons [7] rfl (by kernel_rfl) ?_ ?_
        · rintro L A W ⟨v, g, rfl, hR⟩ hi hw K hK
          have hk : L 10 = false := hR.ar.not hi rfl
          have e7 := hR.f7 (hw 7 (by simp))
          simp only [e7]
          clear e7
          go_simp
          refine hK.out _ _ ?_
          exact ⟨(fun j => if j = 44 then .tuple #[.agg #[.int .i64 n, .int .i64 d], .int .i64 er] else if j = 45 then .agg #[.int .i64 n, .int .i64 d] else v j), g, rfl, ⟨(fun h => hR.st (upd_false h)), hR.sr.keep rfl, hR.ar.keepM rfl (fun h j hj => upd_on (h j hj)), hR.f0.keep rfl, hR.f1.keep rfl, hR.f2.keep rfl, hR.f3.keep rfl, hR.f4.keep rfl, hR.f5.keep rfl, hR.f6.keep rfl, (fun _ => rfl), (fun _ => rfl), hR.f9.keep rfl, hR.f11.keep rfl⟩⟩
        refine EachOf.cons [7] rfl (by kernel_rfl) ?_ ?_
        · rintro L A W ⟨v, g, rfl, hR⟩ hi hw K hK
          have hk : L 10 = false := hR.ar.not hi rfl
          have e7 := hR.f7 (hw 7 (by simp))
          simp only [e7]
          clear e7
          go_simp
          refine hK.out _ _ ?_
          exact ⟨(fun j => if j = 44 then .tuple #[.agg #[.int .i64 n, .int .i64 d], .int .i64 er] else if j = 46 then .int .i64 er else v j), g, rfl, ⟨(fun h => hR.st (upd_false h)), hR.sr.keep rfl, hR.ar.keepM rfl (fun h j hj => upd_on (h j hj)), hR.f0.keep rfl, hR.f1.keep rfl, hR.f2.keep rfl, hR.f3.keep rfl, hR.f4.keep rfl, hR.f5.keep rfl, hR.f6.keep rfl, (fun _ => rfl), hR.f8.keep rfl, (fun _ => rfl), hR.f11.keep rfl⟩⟩
        refine EachOf.cons [0, 1, 2, 3, 4, 5, 6, 7, 8, 9] rfl (by kernel_rfl) ?_ ?_
        · rintro L A W ⟨v, g, rfl, hR⟩ hi hw K hK
          have e8 := hR.f8 (hw 8 (by simp))
          simp only [e8]
          clear e8
          obtain ⟨l5, p5, q5⟩ := HR.out.on (hR.st hi)
          obtain ⟨r5, s5⟩ := HF.out.on HR.out.1 (hR.st hi)
          go_simp
          refine hK.out _ _ ?_
          exact ⟨(fun j => if j = 45 then .agg #[.int .i64 n, .int .i64 d] else v j), g, rfl, ⟨(fun h => by simp [upd_self] at h), (fun _ => ⟨W, hR.st hi, rfl⟩), (fun _ j hj => upd_on (hw j hj)), hR.f0.keep rfl, hR.f1.keep rfl, hR.f2.keep rfl, hR.f3.keep rfl, hR.f4.keep rfl, hR.f5.keep rfl, hR.f6.keep rfl, hR.f7.keep rfl, (fun _ => rfl), hR.f9.keep rfl, hR.f11.keep rfl⟩⟩
        refine EachOf.cons [9] rfl (by kernel_rfl) ?_ ?_
        · rintro L A W ⟨v, g, rfl, hR⟩ hi hw K hK
          have e9 := hR.f9 (hw 9 (by simp))
          simp only [e9]
          clear e9
          go_simp
          refine hK.out _ _ ?_
          exact ⟨(fun j => if j = 46 then .int .i64 er else if j = 5 then .int .i64 er else v j), g, rfl, ⟨(fun h => hR.st (upd_false h)), hR.sr.keep rfl, hR.ar.keepM rfl (fun h j hj => upd_on (h j hj)), hR.f0.keep rfl, hR.f1.keep rfl, hR.f2.keep rfl, hR.f3.keep rfl, hR.f4.keep rfl, hR.f5.keep rfl, hR.f6.keep rfl, hR.f7.keep rfl, hR.f8.keep rfl, (fun _ => rfl), (fun _ => rfl)⟩⟩
        exact EachOf.nil
      rintro L A W4f ⟨v4f, g4f, rfl, hR⟩ hL
      have e11 := hR.f11 (hL 11 (by simp))
      obtain ⟨W4fb, hb9, hw9⟩ := hR.sr (hL 10 (by simp))
      have hst := Lib.hid hb9
      clear hb9
      simp only [e11]
      clear e11
      clear hR hL
      replace HF := Lib.hid (HF.out.on HR.out.1 hst.out)
      replace HXF := Lib.hid (HXF.out.on HX.out.1 hst.out)
      replace HYF := Lib.hid (HYF.out.on HY.out.1 hst.out)
      replace HDF := Lib.hid (HDF.out.on HD.out.1 hst.out)
      replace HA := Lib.hid (HA.out.on hst.out)
      replace HB := Lib.hid (HB.out.on hst.out)
      replace HR := Lib.hid (HR.out.on hst.out)
      replace HX := Lib.hid (HX.out.on hst.out)
      replace HY := Lib.hid (HY.out.on hst.out)
      replace HD := Lib.hid (HD.out.on hst.out)
      replace HW := Lib.hid (below_on HW.out hst.out)
      subst hw9
      have hB := ((HW.out.setCell (p := ⟨w.heap.size + 1 + 1, 0, none⟩) (by simp; omega) (.int .i64 n)).setCell (p := ⟨w.heap.size + 1 + 1, 1, none⟩) (by simp; omega) (.int .i64 d))
      obtain ⟨_, r8, r9⟩ := Blk.set (x := .int .i64 n) (y := .int .i64 d) HR.out
      go_wp2
      refine bodyPost_ret (by simp [results, Try.results40, go_sem, r8, r9]; try rfl) rfl ?_
      exact ⟨rfl, hB⟩
    · cases less
      · have CP := CN
        have CD := CD3 (by decide) rfl
        obtain ⟨_, HAp, HAq⟩ := HA.out
        obtain ⟨_, HBp, HBq⟩ := HB.out
        obtain ⟨_, HRp, HRq⟩ := HR.out
        obtain ⟨_, HXp, HXq⟩ := HX.out
        obtain ⟨_, HYp, HYq⟩ := HY.out
        obtain ⟨_, HDp, HDq⟩ := HD.out
        go_wp2_with fail
        (with_reducible refine ((CL _).out).mono ?_)
        rintro e w4 ⟨rfl, hb4⟩
        have hst := Lib.hid hb4
        clear hb4
        clear HAp HAq HBp HBq HRp HRq HXp HXq HYp HYq HDp HDq
        replace HF := Lib.hid (HF.out.on HR.out.1 hst.out)
        replace HXF := Lib.hid (HXF.out.on HX.out.1 hst.out)
        replace HYF := Lib.hid (HYF.out.on HY.out.1 hst.out)
        replace HDF := Lib.hid (HDF.out.on HD.out.1 hst.out)
        replace HA := Lib.hid (HA.out.on hst.out)
        replace HB := Lib.hid (HB.out.on hst.out)
        replace HR := Lib.hid (HR.out.on hst.out)
        replace HX := Lib.hid (HX.out.on hst.out)
        replace HY := Lib.hid (HY.out.on hst.out)
        replace HD := Lib.hid (HD.out.on hst.out)
        replace HW := Lib.hid (below_on HW.out hst.out)
        go_wp2_with fail
        refine wp_region_each (fun L A W => ∃ (v : Nat → Value) (g : Nat → Nat), A = ⟨#[.agg #[.int .i64 an, .int .i64 ad], .agg #[.int .i64 bn, .int .i64 bd], .pointer (some ⟨w.heap.size, 0, none⟩), .pointer (some ⟨w.heap.size + 1, 0, none⟩), .pointer (some ⟨w.heap.size + 1 + 1, 0, none⟩), v 5, .pointer (some ⟨gx, 0, none⟩), .pointer (some ⟨gy, 0, none⟩), .pointer (some ⟨gd, 0, none⟩), v1 9, v1 10, v1 11, v1 12, v1 13, v1 14, v1 15, v2 16, v2 17, v2 18, v2 19, v2 20, v2 21, v2 22, v3 23, v3 24, v3 25, v3 26, v3 27, v3 28, v3 29, .pointer (some ⟨w.heap.size, 0, none⟩), .int .i64 an, .bool false, .pointer (some ⟨w.heap.size + 1, 0, none⟩), .int .i64 bn, .bool true, .bool false, undef, undef, undef, undef, undef, undef, undef, undef, undef, undef, .agg #[.int .u64 X1, .int .u64 X2], .agg #[.int .u64 Y1, .int .u64 Y2], .bool false, undef, undef, undef, undef, undef, undef, undef, undef, undef, undef, v 60, v 61, v 62, v 63, v 64, v 65, v 66, v 67, v 68, v 69], []⟩ ∧ Add8fR w an ad bn bd a b a2 b2 X1 X2 Y1 Y2 D1 D2 Q1 Q2 n d er w4 L v g W) (by kernel_rfl) (by kernel_rfl) ⟨fun j => if j = 5 then .int .i64 0 else undef, fun _ => 0, rfl, ⟨(fun _ => Below.drew (Below.refl _ _)), Had.none, Had.none, Had.none, Had.none, Had.none, Had.none, Had.none, Had.none, Had.none, Had.none, Had.none, Had.none, Had.none⟩⟩ (rs := [0, 1, 2, 3, 4, 5, 6, 7, 8, 9, 10, 11]) (by kernel_rfl) ?_ ?_
        · refine EachOf.cons [] rfl (by kernel_rfl) ?_ ?_
          · rintro L A W ⟨v, g, rfl, hR⟩ hi hw K hK
            have hk : L 10 = false := hR.ar.not hi rfl
            obtain ⟨_, q0, q1⟩ := HX.out.on (hR.st hk)
            go_simp
            refine hK.out _ _ ?_
            exact ⟨(fun j => if j = 60 then .agg #[.int .u64 X1, .int .u64 X2] else v j), g, rfl, ⟨(fun h => hR.st (upd_false h)), hR.sr.keep rfl, hR.ar.keepM rfl (fun h j hj => upd_on (h j hj)), (fun _ => rfl), hR.f1.keep rfl, hR.f2.keep rfl, hR.f3.keep rfl, hR.f4.keep rfl, hR.f5.keep rfl, hR.f6.keep rfl, hR.f7.keep rfl, hR.f8.keep rfl, hR.f9.keep rfl, hR.f11.keep rfl⟩⟩
          refine EachOf.cons [] rfl (by kernel_rfl) ?_ ?_
          · rintro L A W ⟨v, g, rfl, hR⟩ hi hw K hK
            have hk : L 10 = false := hR.ar.not hi rfl
            obtain ⟨_, q0, q1⟩ := HY.out.on (hR.st hk)
            go_simp
            refine hK.out _ _ ?_
            exact ⟨(fun j => if j = 61 then .agg #[.int .u64 Y1, .int .u64 Y2] else v j), g, rfl, ⟨(fun h => hR.st (upd_false h)), hR.sr.keep rfl, hR.ar.keepM rfl (fun h j hj => upd_on (h j hj)), hR.f0.keep rfl, (fun _ => rfl), hR.f2.keep rfl, hR.f3.keep rfl, hR.f4.keep rfl, hR.f5.keep rfl, hR.f6.keep rfl, hR.f7.keep rfl, hR.f8.keep rfl, hR.f9.keep rfl, hR.f11.keep rfl⟩⟩
          refine EachOf.cons [0, 1] rfl (by kernel_rfl) ?_ ?_
          · rintro L A W ⟨v, g, rfl, hR⟩ hi hw K hK
            have hk : L 10 = false := hR.ar.not hi rfl
            have e0 := hR.f0 (hw 0 (by simp))
            have e1 := hR.f1 (hw 1 (by simp))
            simp only [e0, e1]
            clear e0 e1
            go_simp
            go_at_call 68
            (with_reducible refine ((CP _).out).mono ?_)
            rintro e w2 ⟨rfl, hb⟩
            go_simp
            refine hK.out _ _ ?_
            exact ⟨(fun j => if j = 60 then .agg #[.int .u64 X1, .int .u64 X2] else if j = 61 then .agg #[.int .u64 Y1, .int .u64 Y2] else if j = 62 then .agg #[.int .u64 Q1, .int .u64 Q2] else v j), g, rfl, ⟨(fun _ => below_on (hR.st hk) hb), (fun h => absurd (upd_back h rfl) (by simp [hk])), hR.ar.keepM rfl (fun h j hj => upd_on (h j hj)), (fun _ => rfl), (fun _ => rfl), (fun _ => rfl), hR.f3.keep rfl, hR.f4.keep rfl, hR.f5.keep rfl, hR.f6.keep rfl, hR.f7.keep rfl, hR.f8.keep rfl, hR.f9.keep rfl, hR.f11.keep rfl⟩⟩
          refine EachOf.cons [] rfl (by kernel_rfl) ?_ ?_
          · rintro L A W ⟨v, g, rfl, hR⟩ hi hw K hK
            have hk : L 10 = false := hR.ar.not hi rfl
            go_simp
            refine hK.out _ _ ?_
            exact ⟨(fun j => if j = 63 then .pointer (some ⟨w.heap.size, 0, none⟩) else v j), g, rfl, ⟨(fun h => hR.st (upd_false h)), hR.sr.keep rfl, hR.ar.keepM rfl (fun h j hj => upd_on (h j hj)), hR.f0.keep rfl, hR.f1.keep rfl, hR.f2.keep rfl, (fun _ => rfl), hR.f4.keep rfl, hR.f5.keep rfl, hR.f6.keep rfl, hR.f7.keep rfl, hR.f8.keep rfl, hR.f9.keep rfl, hR.f11.keep rfl⟩⟩
          refine EachOf.cons [3] rfl (by kernel_rfl) ?_ ?_
          · rintro L A W ⟨v, g, rfl, hR⟩ hi hw K hK
            have hk : L 10 = false := hR.ar.not hi rfl
            have e3 := hR.f3 (hw 3 (by simp))
            simp only [e3]
            clear e3
            obtain ⟨_, q0, q1⟩ := HA.out.on (hR.st hk)
            go_simp
            refine hK.out _ _ ?_
            exact ⟨(fun j => if j = 63 then .pointer (some ⟨w.heap.size, 0, none⟩) else if j = 64 then .int .i64 an else v j), g, rfl, ⟨(fun h => hR.st (upd_false h)), hR.sr.keep rfl, hR.ar.keepM rfl (fun h j hj => upd_on (h j hj)), hR.f0.keep rfl, hR.f1.keep rfl, hR.f2.keep rfl, (fun _ => rfl), (fun _ => rfl), hR.f5.keep rfl, hR.f6.keep rfl, hR.f7.keep rfl, hR.f8.keep rfl, hR.f9.keep rfl, hR.f11.keep rfl⟩⟩
          refine EachOf.cons [4] rfl (by kernel_rfl) ?_ ?_
          · rintro L A W ⟨v, g, rfl, hR⟩ hi hw K hK
            have hk : L 10 = false := hR.ar.not hi rfl
            have e4 := hR.f4 (hw 4 (by simp))
            simp only [e4]
            clear e4
            go_simp
            refine hK.out _ _ ?_
            exact ⟨(fun j => if j = 64 then .int .i64 an else if j = 65 then .bool false else v j), g, rfl, ⟨(fun h => hR.st (upd_false h)), hR.sr.keep rfl, hR.ar.keepM rfl (fun h j hj => upd_on (h j hj)), hR.f0.keep rfl, hR.f1.keep rfl, hR.f2.keep rfl, hR.f3.keep rfl, (fun _ => rfl), (fun _ => rfl), hR.f6.keep rfl, hR.f7.keep rfl, hR.f8.keep rfl, hR.f9.keep rfl, hR.f11.keep rfl⟩⟩
          refine EachOf.cons [] rfl (by kernel_rfl) ?_ ?_
          · rintro L A W ⟨v, g, rfl, hR⟩ hi hw K hK
            have hk : L 10 = false := hR.ar.not hi rfl
            obtain ⟨_, q0, q1⟩ := HD.out.on (hR.st hk)
            go_simp
            refine hK.out _ _ ?_
            exact ⟨(fun j => if j = 66 then .agg #[.int .u64 D1, .int .u64 D2] else v j), g, rfl, ⟨(fun h => hR.st (upd_false h)), hR.sr.keep rfl, hR.ar.keepM rfl (fun h j hj => upd_on (h j hj)), hR.f0.keep rfl, hR.f1.keep rfl, hR.f2.keep rfl, hR.f3.keep rfl, hR.f4.keep rfl, hR.f5.keep rfl, (fun _ => rfl), hR.f7.keep rfl, hR.f8.keep rfl, hR.f9.keep rfl, hR.f11.keep rfl⟩⟩
          refine EachOf.cons [2, 5, 6] rfl (by kernel_rfl) ?_ ?_
          · rintro L A W ⟨v, g, rfl, hR⟩ hi hw K hK
            have hk : L 10 = false := hR.ar.not hi rfl
            have e2 := hR.f2 (hw 2 (by simp))
            have e5 := hR.f5 (hw 5 (by simp))
            have e6 := hR.f6 (hw 6 (by simp))
            simp only [e2, e5, e6]
            clear e2 e5 e6
            go_simp
            go_at_call 65
            (with_reducible refine ((CD _).out).mono ?_)
            rintro e w2 ⟨rfl, hb⟩
            go_simp
            refine hK.out _ _ ?_
            exact ⟨(fun j => if j = 62 then .agg #[.int .u64 Q1, .int .u64 Q2] else if j = 65 then .bool false else if j = 66 then .agg #[.int .u64 D1, .int .u64 D2] else if j = 67 then .tuple #[.agg #[.int .i64 n, .int .i64 d], .int .i64 er] else v j), g, rfl, ⟨(fun _ => below_on (hR.st hk) hb), (fun h => absurd (upd_back h rfl) (by simp [hk])), hR.ar.keepM rfl (fun h j hj => upd_on (h j hj)), hR.f0.keep rfl, hR.f1.keep rfl, (fun _ => rfl), hR.f3.keep rfl, hR.f4.keep rfl, (fun _ => rfl), (fun _ => rfl), (fun _ => rfl), hR.f8.keep rfl, hR.f9.keep rfl, hR.f11.keep rfl⟩⟩
          refine EachOf.cons [7] rfl (by kernel_rfl) ?_ ?_
          · rintro L A W ⟨v, g, rfl, hR⟩ hi hw K hK
            have hk : L 10 = false := hR.ar.not hi rfl
            have e7 := hR.f7 (hw 7 (by simp))
            simp only [e7]
            clear e7
            go_simp
            refine hK.out _ _ ?_
            exact ⟨(fun j => if j = 67 then .tuple #[.agg #[.int .i64 n, .int .i64 d], .int .i64 er] else if j = 68 then .agg #[.int .i64 n, .int .i64 d] else v j), g, rfl, ⟨(fun h => hR.st (upd_false h)), hR.sr.keep rfl, hR.ar.keepM rfl (fun h j hj => upd_on (h j hj)), hR.f0.keep rfl, hR.f1.keep rfl, hR.f2.keep rfl, hR.f3.keep rfl, hR.f4.keep rfl, hR.f5.keep rfl, hR.f6.keep rfl, (fun _ => rfl), (fun _ => rfl), hR.f9.keep rfl, hR.f11.keep rfl⟩⟩
          refine EachOf.cons [7] rfl (by kernel_rfl) ?_ ?_
          · rintro L A W ⟨v, g, rfl, hR⟩ hi hw K hK
            have hk : L 10 = false := hR.ar.not hi rfl
            have e7 := hR.f7 (hw 7 (by simp))
            simp only [e7]
            clear e7
            go_simp
            refine hK.out _ _ ?_
            exact ⟨(fun j => if j = 67 then .tuple #[.agg #[.int .i64 n, .int .i64 d], .int .i64 er] else if j = 69 then .int .i64 er else v j), g, rfl, ⟨(fun h => hR.st (upd_false h)), hR.sr.keep rfl, hR.ar.keepM rfl (fun h j hj => upd_on (h j hj)), hR.f0.keep rfl, hR.f1.keep rfl, hR.f2.keep rfl, hR.f3.keep rfl, hR.f4.keep rfl, hR.f5.keep rfl, hR.f6.keep rfl, (fun _ => rfl), hR.f8.keep rfl, (fun _ => rfl), hR.f11.keep rfl⟩⟩
          refine EachOf.cons [0, 1, 2, 3, 4, 5, 6, 7, 8, 9] rfl (by kernel_rfl) ?_ ?_
          · rintro L A W ⟨v, g, rfl, hR⟩ hi hw K hK
            have e8 := hR.f8 (hw 8 (by simp))
            simp only [e8]
            clear e8
            obtain ⟨l5, p5, q5⟩ := HR.out.on (hR.st hi)
            obtain ⟨r5, s5⟩ := HF.out.on HR.out.1 (hR.st hi)
            go_simp
            refine hK.out _ _ ?_
            exact ⟨(fun j => if j = 68 then .agg #[.int .i64 n, .int .i64 d] else v j), g, rfl, ⟨(fun h => by simp [upd_self] at h), (fun _ => ⟨W, hR.st hi, rfl⟩), (fun _ j hj => upd_on (hw j hj)), hR.f0.keep rfl, hR.f1.keep rfl, hR.f2.keep rfl, hR.f3.keep rfl, hR.f4.keep rfl, hR.f5.keep rfl, hR.f6.keep rfl, hR.f7.keep rfl, (fun _ => rfl), hR.f9.keep rfl, hR.f11.keep rfl⟩⟩
          refine EachOf.cons [9] rfl (by kernel_rfl) ?_ ?_
          · rintro L A W ⟨v, g, rfl, hR⟩ hi hw K hK
            have e9 := hR.f9 (hw 9 (by simp))
            simp only [e9]
            clear e9
            go_simp
            refine hK.out _ _ ?_
            exact ⟨(fun j => if j = 69 then .int .i64 er else if j = 5 then .int .i64 er else v j), g, rfl, ⟨(fun h => hR.st (upd_false h)), hR.sr.keep rfl, hR.ar.keepM rfl (fun h j hj => upd_on (h j hj)), hR.f0.keep rfl, hR.f1.keep rfl, hR.f2.keep rfl, hR.f3.keep rfl, hR.f4.keep rfl, hR.f5.keep rfl, hR.f6.keep rfl, hR.f7.keep rfl, hR.f8.keep rfl, (fun _ => rfl), (fun _ => rfl)⟩⟩
          exact EachOf.nil
        rintro L A W4f ⟨v4f, g4f, rfl, hR⟩ hL
        have e11 := hR.f11 (hL 11 (by simp))
        obtain ⟨W4fb, hb9, hw9⟩ := hR.sr (hL 10 (by simp))
        have hst := Lib.hid hb9
        clear hb9
        simp only [e11]
        clear e11
        clear hR hL
        replace HF := Lib.hid (HF.out.on HR.out.1 hst.out)
        replace HXF := Lib.hid (HXF.out.on HX.out.1 hst.out)
        replace HYF := Lib.hid (HYF.out.on HY.out.1 hst.out)
        replace HDF := Lib.hid (HDF.out.on HD.out.1 hst.out)
        replace HA := Lib.hid (HA.out.on hst.out)
        replace HB := Lib.hid (HB.out.on hst.out)
        replace HR := Lib.hid (HR.out.on hst.out)
        replace HX := Lib.hid (HX.out.on hst.out)
        replace HY := Lib.hid (HY.out.on hst.out)
        replace HD := Lib.hid (HD.out.on hst.out)
        replace HW := Lib.hid (below_on HW.out hst.out)
        subst hw9
        have hB := ((HW.out.setCell (p := ⟨w.heap.size + 1 + 1, 0, none⟩) (by simp; omega) (.int .i64 n)).setCell (p := ⟨w.heap.size + 1 + 1, 1, none⟩) (by simp; omega) (.int .i64 d))
        obtain ⟨_, r8, r9⟩ := Blk.set (x := .int .i64 n) (y := .int .i64 d) HR.out
        go_wp2
        refine bodyPost_ret (by simp [results, Try.results40, go_sem, r8, r9]; try rfl) rfl ?_
        exact ⟨rfl, hB⟩
      · have CP := CM
        have CD := CD2 (by decide) rfl
        obtain ⟨_, HAp, HAq⟩ := HA.out
        obtain ⟨_, HBp, HBq⟩ := HB.out
        obtain ⟨_, HRp, HRq⟩ := HR.out
        obtain ⟨_, HXp, HXq⟩ := HX.out
        obtain ⟨_, HYp, HYq⟩ := HY.out
        obtain ⟨_, HDp, HDq⟩ := HD.out
        go_wp2_with fail
        (with_reducible refine ((CL _).out).mono ?_)
        rintro e w4 ⟨rfl, hb4⟩
        have hst := Lib.hid hb4
        clear hb4
        clear HAp HAq HBp HBq HRp HRq HXp HXq HYp HYq HDp HDq
        replace HF := Lib.hid (HF.out.on HR.out.1 hst.out)
        replace HXF := Lib.hid (HXF.out.on HX.out.1 hst.out)
        replace HYF := Lib.hid (HYF.out.on HY.out.1 hst.out)
        replace HDF := Lib.hid (HDF.out.on HD.out.1 hst.out)
        replace HA := Lib.hid (HA.out.on hst.out)
        replace HB := Lib.hid (HB.out.on hst.out)
        replace HR := Lib.hid (HR.out.on hst.out)
        replace HX := Lib.hid (HX.out.on hst.out)
        replace HY := Lib.hid (HY.out.on hst.out)
        replace HD := Lib.hid (HD.out.on hst.out)
        replace HW := Lib.hid (below_on HW.out hst.out)
        go_wp2_with fail
        refine wp_region_each (fun L A W => ∃ (v : Nat → Value) (g : Nat → Nat), A = ⟨#[.agg #[.int .i64 an, .int .i64 ad], .agg #[.int .i64 bn, .int .i64 bd], .pointer (some ⟨w.heap.size, 0, none⟩), .pointer (some ⟨w.heap.size + 1, 0, none⟩), .pointer (some ⟨w.heap.size + 1 + 1, 0, none⟩), v 5, .pointer (some ⟨gx, 0, none⟩), .pointer (some ⟨gy, 0, none⟩), .pointer (some ⟨gd, 0, none⟩), v1 9, v1 10, v1 11, v1 12, v1 13, v1 14, v1 15, v2 16, v2 17, v2 18, v2 19, v2 20, v2 21, v2 22, v3 23, v3 24, v3 25, v3 26, v3 27, v3 28, v3 29, .pointer (some ⟨w.heap.size, 0, none⟩), .int .i64 an, .bool false, .pointer (some ⟨w.heap.size + 1, 0, none⟩), .int .i64 bn, .bool true, .bool false, undef, undef, undef, undef, undef, undef, undef, undef, undef, undef, .agg #[.int .u64 X1, .int .u64 X2], .agg #[.int .u64 Y1, .int .u64 Y2], .bool true, v 50, v 51, v 52, v 53, v 54, v 55, v 56, v 57, v 58, v 59, undef, undef, undef, undef, undef, undef, undef, undef, undef, undef], []⟩ ∧ Add7fR w an ad bn bd a b a2 b2 X1 X2 Y1 Y2 D1 D2 M1 M2 n d er w4 L v g W) (by kernel_rfl) (by kernel_rfl) ⟨fun j => if j = 5 then .int .i64 0 else undef, fun _ => 0, rfl, ⟨(fun _ => Below.drew (Below.refl _ _)), Had.none, Had.none, Had.none, Had.none, Had.none, Had.none, Had.none, Had.none, Had.none, Had.none, Had.none, Had.none, Had.none⟩⟩ (rs := [0, 1, 2, 3, 4, 5, 6, 7, 8, 9, 10, 11]) (by kernel_rfl) ?_ ?_
        · refine EachOf.cons [] rfl (by kernel_rfl) ?_ ?_
          · rintro L A W ⟨v, g, rfl, hR⟩ hi hw K hK
            have hk : L 10 = false := hR.ar.not hi rfl
            obtain ⟨_, q0, q1⟩ := HY.out.on (hR.st hk)
            go_simp
            refine hK.out _ _ ?_
            exact ⟨(fun j => if j = 50 then .agg #[.int .u64 Y1, .int .u64 Y2] else v j), g, rfl, ⟨(fun h => hR.st (upd_false h)), hR.sr.keep rfl, hR.ar.keepM rfl (fun h j hj => upd_on (h j hj)), (fun _ => rfl), hR.f1.keep rfl, hR.f2.keep rfl, hR.f3.keep rfl, hR.f4.keep rfl, hR.f5.keep rfl, hR.f6.keep rfl, hR.f7.keep rfl, hR.f8.keep rfl, hR.f9.keep rfl, hR.f11.keep rfl⟩⟩
          refine EachOf.cons [] rfl (by kernel_rfl) ?_ ?_
          · rintro L A W ⟨v, g, rfl, hR⟩ hi hw K hK
            have hk : L 10 = false := hR.ar.not hi rfl
            obtain ⟨_, q0, q1⟩ := HX.out.on (hR.st hk)
            go_simp
            refine hK.out _ _ ?_
            exact ⟨(fun j => if j = 51 then .agg #[.int .u64 X1, .int .u64 X2] else v j), g, rfl, ⟨(fun h => hR.st (upd_false h)), hR.sr.keep rfl, hR.ar.keepM rfl (fun h j hj => upd_on (h j hj)), hR.f0.keep rfl, (fun _ => rfl), hR.f2.keep rfl, hR.f3.keep rfl, hR.f4.keep rfl, hR.f5.keep rfl, hR.f6.keep rfl, hR.f7.keep rfl, hR.f8.keep rfl, hR.f9.keep rfl, hR.f11.keep rfl⟩⟩
          refine EachOf.cons [0, 1] rfl (by kernel_rfl) ?_ ?_
          · rintro L A W ⟨v, g, rfl, hR⟩ hi hw K hK
            have hk : L 10 = false := hR.ar.not hi rfl
            have e0 := hR.f0 (hw 0 (by simp))
            have e1 := hR.f1 (hw 1 (by simp))
            simp only [e0, e1]
            clear e0 e1
            go_simp
            go_at_call 68
            (with_reducible refine ((CP _).out).mono ?_)
            rintro e w2 ⟨rfl, hb⟩
            go_simp
            refine hK.out _ _ ?_
            exact ⟨(fun j => if j = 50 then .agg #[.int .u64 Y1, .int .u64 Y2] else if j = 51 then .agg #[.int .u64 X1, .int .u64 X2] else if j = 52 then .agg #[.int .u64 M1, .int .u64 M2] else v j), g, rfl, ⟨(fun _ => below_on (hR.st hk) hb), (fun h => absurd (upd_back h rfl) (by simp [hk])), hR.ar.keepM rfl (fun h j hj => upd_on (h j hj)), (fun _ => rfl), (fun _ => rfl), (fun _ => rfl), hR.f3.keep rfl, hR.f4.keep rfl, hR.f5.keep rfl, hR.f6.keep rfl, hR.f7.keep rfl, hR.f8.keep rfl, hR.f9.keep rfl, hR.f11.keep rfl⟩⟩
          refine EachOf.cons [] rfl (by kernel_rfl) ?_ ?_
          · rintro L A W ⟨v, g, rfl, hR⟩ hi hw K hK
            have hk : L 10 = false := hR.ar.not hi rfl
            go_simp
            refine hK.out _ _ ?_
            exact ⟨(fun j => if j = 53 then .pointer (some ⟨w.heap.size + 1, 0, none⟩) else v j), g, rfl, ⟨(fun h => hR.st (upd_false h)), hR.sr.keep rfl, hR.ar.keepM rfl (fun h j hj => upd_on (h j hj)), hR.f0.keep rfl, hR.f1.keep rfl, hR.f2.keep rfl, (fun _ => rfl), hR.f4.keep rfl, hR.f5.keep rfl, hR.f6.keep rfl, hR.f7.keep rfl, hR.f8.keep rfl, hR.f9.keep rfl, hR.f11.keep rfl⟩⟩
          refine EachOf.cons [3] rfl (by kernel_rfl) ?_ ?_
          · rintro L A W ⟨v, g, rfl, hR⟩ hi hw K hK
            have hk : L 10 = false := hR.ar.not hi rfl
            have e3 := hR.f3 (hw 3 (by simp))
            simp only [e3]
            clear e3
            obtain ⟨_, q0, q1⟩ := HB.out.on (hR.st hk)
            go_simp
            refine hK.out _ _ ?_
            exact ⟨(fun j => if j = 53 then .pointer (some ⟨w.heap.size + 1, 0, none⟩) else if j = 54 then .int .i64 bn else v j), g, rfl, ⟨(fun h => hR.st (upd_false h)), hR.sr.keep rfl, hR.ar.keepM rfl (fun h j hj => upd_on (h j hj)), hR.f0.keep rfl, hR.f1.keep rfl, hR.f2.keep rfl, (fun _ => rfl), (fun _ => rfl), hR.f5.keep rfl, hR.f6.keep rfl, hR.f7.keep rfl, hR.f8.keep rfl, hR.f9.keep rfl, hR.f11.keep rfl⟩⟩
          refine EachOf.cons [4] rfl (by kernel_rfl) ?_ ?_
          · rintro L A W ⟨v, g, rfl, hR⟩ hi hw K hK
            have hk : L 10 = false := hR.ar.not hi rfl
            have e4 := hR.f4 (hw 4 (by simp))
            simp only [e4]
            clear e4
            go_simp
            refine hK.out _ _ ?_
            exact ⟨(fun j => if j = 54 then .int .i64 bn else if j = 55 then .bool true else v j), g, rfl, ⟨(fun h => hR.st (upd_false h)), hR.sr.keep rfl, hR.ar.keepM rfl (fun h j hj => upd_on (h j hj)), hR.f0.keep rfl, hR.f1.keep rfl, hR.f2.keep rfl, hR.f3.keep rfl, (fun _ => rfl), (fun _ => rfl), hR.f6.keep rfl, hR.f7.keep rfl, hR.f8.keep rfl, hR.f9.keep rfl, hR.f11.keep rfl⟩⟩
          refine EachOf.cons [] rfl (by kernel_rfl) ?_ ?_
          · rintro L A W ⟨v, g, rfl, hR⟩ hi hw K hK
            have hk : L 10 = false := hR.ar.not hi rfl
            obtain ⟨_, q0, q1⟩ := HD.out.on (hR.st hk)
            go_simp
            refine hK.out _ _ ?_
            exact ⟨(fun j => if j = 56 then .agg #[.int .u64 D1, .int .u64 D2] else v j), g, rfl, ⟨(fun h => hR.st (upd_false h)), hR.sr.keep rfl, hR.ar.keepM rfl (fun h j hj => upd_on (h j hj)), hR.f0.keep rfl, hR.f1.keep rfl, hR.f2.keep rfl, hR.f3.keep rfl, hR.f4.keep rfl, hR.f5.keep rfl, (fun _ => rfl), hR.f7.keep rfl, hR.f8.keep rfl, hR.f9.keep rfl, hR.f11.keep rfl⟩⟩
          refine EachOf.cons [2, 5, 6] rfl (by kernel_rfl) ?_ ?_
          · rintro L A W ⟨v, g, rfl, hR⟩ hi hw K hK
            have hk : L 10 = false := hR.ar.not hi rfl
            have e2 := hR.f2 (hw 2 (by simp))
            have e5 := hR.f5 (hw 5 (by simp))
            have e6 := hR.f6 (hw 6 (by simp))
            simp only [e2, e5, e6]
            clear e2 e5 e6
            go_simp
            go_at_call 65
            (with_reducible refine ((CD _).out).mono ?_)
            rintro e w2 ⟨rfl, hb⟩
            go_simp
            refine hK.out _ _ ?_
            exact ⟨(fun j => if j = 52 then .agg #[.int .u64 M1, .int .u64 M2] else if j = 55 then .bool true else if j = 56 then .agg #[.int .u64 D1, .int .u64 D2] else if j = 57 then .tuple #[.agg #[.int .i64 n, .int .i64 d], .int .i64 er] else v j), g, rfl, ⟨(fun _ => below_on (hR.st hk) hb), (fun h => absurd (upd_back h rfl) (by simp [hk])), hR.ar.keepM rfl (fun h j hj => upd_on (h j hj)), hR.f0.keep rfl, hR.f1.keep rfl, (fun _ => rfl), hR.f3.keep rfl, hR.f4.keep rfl, (fun _ => rfl), (fun _ => rfl), (fun _ => rfl), hR.f8.keep rfl, hR.f9.keep rfl, hR.f11.keep rfl⟩⟩
          refine EachOf.cons [7] rfl (by kernel_rfl) ?_ ?_
          · rintro L A W ⟨v, g, rfl, hR⟩ hi hw K hK
            have hk : L 10 = false := hR.ar.not hi rfl
            have e7 := hR.f7 (hw 7 (by simp))
            simp only [e7]
            clear e7
            go_simp
            refine hK.out _ _ ?_
            exact ⟨(fun j => if j = 57 then .tuple #[.agg #[.int .i64 n, .int .i64 d], .int .i64 er] else if j = 58 then .agg #[.int .i64 n, .int .i64 d] else v j), g, rfl, ⟨(fun h => hR.st (upd_false h)), hR.sr.keep rfl, hR.ar.keepM rfl (fun h j hj => upd_on (h j hj)), hR.f0.keep rfl, hR.f1.keep rfl, hR.f2.keep rfl, hR.f3.keep rfl, hR.f4.keep rfl, hR.f5.keep rfl, hR.f6.keep rfl, (fun _ => rfl), (fun _ => rfl), hR.f9.keep rfl, hR.f11.keep rfl⟩⟩
          refine EachOf.cons [7] rfl (by kernel_rfl) ?_ ?_
          · rintro L A W ⟨v, g, rfl, hR⟩ hi hw K hK
            have hk : L 10 = false := hR.ar.not hi rfl
            have e7 := hR.f7 (hw 7 (by simp))
            simp only [e7]
            clear e7
            go_simp
            refine hK.out _ _ ?_
            exact ⟨(fun j => if j = 57 then .tuple #[.agg #[.int .i64 n, .int .i64 d], .int .i64 er] else if j = 59 then .int .i64 er else v j), g, rfl, ⟨(fun h => hR.st (upd_false h)), hR.sr.keep rfl, hR.ar.keepM rfl (fun h j hj => upd_on (h j hj)), hR.f0.keep rfl, hR.f1.keep rfl, hR.f2.keep rfl, hR.f3.keep rfl, hR.f4.keep rfl, hR.f5.keep rfl, hR.f6.keep rfl, (fun _ => rfl), hR.f8.keep rfl, (fun _ => rfl), hR.f11.keep rfl⟩⟩
          refine EachOf.cons [0, 1, 2, 3, 4, 5, 6, 7, 8, 9] rfl (by kernel_rfl) ?_ ?_
          · rintro L A W ⟨v, g, rfl, hR⟩ hi hw K hK
            have e8 := hR.f8 (hw 8 (by simp))
            simp only [e8]
            clear e8
            obtain ⟨l5, p5, q5⟩ := HR.out.on (hR.st hi)
            obtain ⟨r5, s5⟩ := HF.out.on HR.out.1 (hR.st hi)
            go_simp
            refine hK.out _ _ ?_
            exact ⟨(fun j => if j = 58 then .agg #[.int .i64 n, .int .i64 d] else v j), g, rfl, ⟨(fun h => by simp [upd_self] at h), (fun _ => ⟨W, hR.st hi, rfl⟩), (fun _ j hj => upd_on (hw j hj)), hR.f0.keep rfl, hR.f1.keep rfl, hR.f2.keep rfl, hR.f3.keep rfl, hR.f4.keep rfl, hR.f5.keep rfl, hR.f6.keep rfl, hR.f7.keep rfl, (fun _ => rfl), hR.f9.keep rfl, hR.f11.keep rfl⟩⟩
          refine EachOf.cons [9] rfl (by kernel_rfl) ?_ ?_
          · rintro L A W ⟨v, g, rfl, hR⟩ hi hw K hK
            have e9 := hR.f9 (hw 9 (by simp))
            simp only [e9]
            clear e9
            go_simp
            refine hK.out _ _ ?_
            exact ⟨(fun j => if j = 59 then .int .i64 er else if j = 5 then .int .i64 er else v j), g, rfl, ⟨(fun h => hR.st (upd_false h)), hR.sr.keep rfl, hR.ar.keepM rfl (fun h j hj => upd_on (h j hj)), hR.f0.keep rfl, hR.f1.keep rfl, hR.f2.keep rfl, hR.f3.keep rfl, hR.f4.keep rfl, hR.f5.keep rfl, hR.f6.keep rfl, hR.f7.keep rfl, hR.f8.keep rfl, (fun _ => rfl), (fun _ => rfl)⟩⟩
          exact EachOf.nil
        rintro L A W4f ⟨v4f, g4f, rfl, hR⟩ hL
        have e11 := hR.f11 (hL 11 (by simp))
        obtain ⟨W4fb, hb9, hw9⟩ := hR.sr (hL 10 (by simp))
        have hst := Lib.hid hb9
        clear hb9
        simp only [e11]
        clear e11
        clear hR hL
        replace HF := Lib.hid (HF.out.on HR.out.1 hst.out)
        replace HXF := Lib.hid (HXF.out.on HX.out.1 hst.out)
        replace HYF := Lib.hid (HYF.out.on HY.out.1 hst.out)
        replace HDF := Lib.hid (HDF.out.on HD.out.1 hst.out)
        replace HA := Lib.hid (HA.out.on hst.out)
        replace HB := Lib.hid (HB.out.on hst.out)
        replace HR := Lib.hid (HR.out.on hst.out)
        replace HX := Lib.hid (HX.out.on hst.out)
        replace HY := Lib.hid (HY.out.on hst.out)
        replace HD := Lib.hid (HD.out.on hst.out)
        replace HW := Lib.hid (below_on HW.out hst.out)
        subst hw9
        have hB := ((HW.out.setCell (p := ⟨w.heap.size + 1 + 1, 0, none⟩) (by simp; omega) (.int .i64 n)).setCell (p := ⟨w.heap.size + 1 + 1, 1, none⟩) (by simp; omega) (.int .i64 d))
        obtain ⟨_, r8, r9⟩ := Blk.set (x := .int .i64 n) (y := .int .i64 d) HR.out
        go_wp2
        refine bodyPost_ret (by simp [results, Try.results40, go_sem, r8, r9]; try rfl) rfl ?_
        exact ⟨rfl, hB⟩
  · cases sb
    · cases less
      · have CP := CN
        have CD := CD3 (by decide) rfl
        obtain ⟨_, HAp, HAq⟩ := HA.out
        obtain ⟨_, HBp, HBq⟩ := HB.out
        obtain ⟨_, HRp, HRq⟩ := HR.out
        obtain ⟨_, HXp, HXq⟩ := HX.out
        obtain ⟨_, HYp, HYq⟩ := HY.out
        obtain ⟨_, HDp, HDq⟩ := HD.out
        go_wp2_with fail
        (with_reducible refine ((CL _).out).mono ?_)
        rintro e w4 ⟨rfl, hb4⟩
        have hst := Lib.hid hb4
        clear hb4
        clear HAp HAq HBp HBq HRp HRq HXp HXq HYp HYq HDp HDq
        replace HF := Lib.hid (HF.out.on HR.out.1 hst.out)
        replace HXF := Lib.hid (HXF.out.on HX.out.1 hst.out)
        replace HYF := Lib.hid (HYF.out.on HY.out.1 hst.out)
        replace HDF := Lib.hid (HDF.out.on HD.out.1 hst.out)
        replace HA := Lib.hid (HA.out.on hst.out)
        replace HB := Lib.hid (HB.out.on hst.out)
        replace HR := Lib.hid (HR.out.on hst.out)
        replace HX := Lib.hid (HX.out.on hst.out)
        replace HY := Lib.hid (HY.out.on hst.out)
        replace HD := Lib.hid (HD.out.on hst.out)
        replace HW := Lib.hid (below_on HW.out hst.out)
        go_wp2_with fail
        refine wp_region_each (fun L A W => ∃ (v : Nat → Value) (g : Nat → Nat), A = ⟨#[.agg #[.int .i64 an, .int .i64 ad], .agg #[.int .i64 bn, .int .i64 bd], .pointer (some ⟨w.heap.size, 0, none⟩), .pointer (some ⟨w.heap.size + 1, 0, none⟩), .pointer (some ⟨w.heap.size + 1 + 1, 0, none⟩), v 5, .pointer (some ⟨gx, 0, none⟩), .pointer (some ⟨gy, 0, none⟩), .pointer (some ⟨gd, 0, none⟩), v1 9, v1 10, v1 11, v1 12, v1 13, v1 14, v1 15, v2 16, v2 17, v2 18, v2 19, v2 20, v2 21, v2 22, v3 23, v3 24, v3 25, v3 26, v3 27, v3 28, v3 29, .pointer (some ⟨w.heap.size, 0, none⟩), .int .i64 an, .bool true, .pointer (some ⟨w.heap.size + 1, 0, none⟩), .int .i64 bn, .bool false, .bool false, undef, undef, undef, undef, undef, undef, undef, undef, undef, undef, .agg #[.int .u64 X1, .int .u64 X2], .agg #[.int .u64 Y1, .int .u64 Y2], .bool false, undef, undef, undef, undef, undef, undef, undef, undef, undef, undef, v 60, v 61, v 62, v 63, v 64, v 65, v 66, v 67, v 68, v 69], []⟩ ∧ Add8tR w an ad bn bd a b a2 b2 X1 X2 Y1 Y2 D1 D2 Q1 Q2 n d er w4 L v g W) (by kernel_rfl) (by kernel_rfl) ⟨fun j => if j = 5 then .int .i64 0 else undef, fun _ => 0, rfl, ⟨(fun _ => Below.drew (Below.refl _ _)), Had.none, Had.none, Had.none, Had.none, Had.none, Had.none, Had.none, Had.none, Had.none, Had.none, Had.none, Had.none, Had.none⟩⟩ (rs := [0, 1, 2, 3, 4, 5, 6, 7, 8, 9, 10, 11]) (by kernel_rfl) ?_ ?_
        · refine EachOf.cons [] rfl (by kernel_rfl) ?_ ?_
          · rintro L A W ⟨v, g, rfl, hR⟩ hi hw K hK
            have hk : L 10 = false := hR.ar.not hi rfl
            obtain ⟨_, q0, q1⟩ := HX.out.on (hR.st hk)
            go_simp
            refine hK.out _ _ ?_
            exact ⟨(fun j => if j = 60 then .agg #[.int .u64 X1, .int .u64 X2] else v j), g, rfl, ⟨(fun h => hR.st (upd_false h)), hR.sr.keep rfl, hR.ar.keepM rfl (fun h j hj => upd_on (h j hj)), (fun _ => rfl), hR.f1.keep rfl, hR.f2.keep rfl, hR.f3.keep rfl, hR.f4.keep rfl, hR.f5.keep rfl, hR.f6.keep rfl, hR.f7.keep rfl, hR.f8.keep rfl, hR.f9.keep rfl, hR.f11.keep rfl⟩⟩
          refine EachOf.cons [] rfl (by kernel_rfl) ?_ ?_
          · rintro L A W ⟨v, g, rfl, hR⟩ hi hw K hK
            have hk : L 10 = false := hR.ar.not hi rfl
            obtain ⟨_, q0, q1⟩ := HY.out.on (hR.st hk)
            go_simp
            refine hK.out _ _ ?_
            exact ⟨(fun j => if j = 61 then .agg #[.int .u64 Y1, .int .u64 Y2] else v j), g, rfl, ⟨(fun h => hR.st (upd_false h)), hR.sr.keep rfl, hR.ar.keepM rfl (fun h j hj => upd_on (h j hj)), hR.f0.keep rfl, (fun _ => rfl), hR.f2.keep rfl, hR.f3.keep rfl, hR.f4.keep rfl, hR.f5.keep rfl, hR.f6.keep rfl, hR.f7.keep rfl, hR.f8.keep rfl, hR.f9.keep rfl, hR.f11.keep rfl⟩⟩
          refine EachOf.cons [0, 1] rfl (by kernel_rfl) ?_ ?_
          · rintro L A W ⟨v, g, rfl, hR⟩ hi hw K hK
            have hk : L 10 = false := hR.ar.not hi rfl
            have e0 := hR.f0 (hw 0 (by simp))
            have e1 := hR.f1 (hw 1 (by simp))
            simp only [e0, e1]
            clear e0 e1
            go_simp
            go_at_call 68
            (with_reducible refine ((CP _).out).mono ?_)
            rintro e w2 ⟨rfl, hb⟩
            go_simp
            refine hK.out _ _ ?_
            exact ⟨(fun j => if j = 60 then .agg #[.int .u64 X1, .int .u64 X2] else if j = 61 then .agg #[.int .u64 Y1, .int .u64 Y2] else if j = 62 then .agg #[.int .u64 Q1, .int .u64 Q2] else v j), g, rfl, ⟨(fun _ => below_on (hR.st hk) hb), (fun h => absurd (upd_back h rfl) (by simp [hk])), hR.ar.keepM rfl (fun h j hj => upd_on (h j hj)), (fun _ => rfl), (fun _ => rfl), (fun _ => rfl), hR.f3.keep rfl, hR.f4.keep rfl, hR.f5.keep rfl, hR.f6.keep rfl, hR.f7.keep rfl, hR.f8.keep rfl, hR.f9.keep rfl, hR.f11.keep rfl⟩⟩
          refine EachOf.cons [] rfl (by kernel_rfl) ?_ ?_
          · rintro L A W ⟨v, g, rfl, hR⟩ hi hw K hK
            have hk : L 10 = false := hR.ar.not hi rfl
            go_simp
            refine hK.out _ _ ?_
            exact ⟨(fun j => if j = 63 then .pointer (some ⟨w.heap.size, 0, none⟩) else v j), g, rfl, ⟨(fun h => hR.st (upd_false h)), hR.sr.keep rfl, hR.ar.keepM rfl (fun h j hj => upd_on (h j hj)), hR.f0.keep rfl, hR.f1.keep rfl, hR.f2.keep rfl, (fun _ => rfl), hR.f4.keep rfl, hR.f5.keep rfl, hR.f6.keep rfl, hR.f7.keep rfl, hR.f8.keep rfl, hR.f9.keep rfl, hR.f11.keep rfl⟩⟩
          refine EachOf.cons [3] rfl (by kernel_rfl) ?_ ?_
          · rintro L A W ⟨v, g, rfl, hR⟩ hi hw K hK
            have hk : L 10 = false := hR.ar.not hi rfl
            have e3 := hR.f3 (hw 3 (by simp))
            simp only [e3]
            clear e3
            obtain ⟨_, q0, q1⟩ := HA.out.on (hR.st hk)
            go_simp
            refine hK.out _ _ ?_
            exact ⟨(fun j => if j = 63 then .pointer (some ⟨w.heap.size, 0, none⟩) else if j = 64 then .int .i64 an else v j), g, rfl, ⟨(fun h => hR.st (upd_false h)), hR.sr.keep rfl, hR.ar.keepM rfl (fun h j hj => upd_on (h j hj)), hR.f0.keep rfl, hR.f1.keep rfl, hR.f2.keep rfl, (fun _ => rfl), (fun _ => rfl), hR.f5.keep rfl, hR.f6.keep rfl, hR.f7.keep rfl, hR.f8.keep rfl, hR.f9.keep rfl, hR.f11.keep rfl⟩⟩
          refine EachOf.cons [4] rfl (by kernel_rfl) ?_ ?_
          · rintro L A W ⟨v, g, rfl, hR⟩ hi hw K hK
            have hk : L 10 = false := hR.ar.not hi rfl
            have e4 := hR.f4 (hw 4 (by simp))
            simp only [e4]
            clear e4
            go_simp
            refine hK.out _ _ ?_
            exact ⟨(fun j => if j = 64 then .int .i64 an else if j = 65 then .bool true else v j), g, rfl, ⟨(fun h => hR.st (upd_false h)), hR.sr.keep rfl, hR.ar.keepM rfl (fun h j hj => upd_on (h j hj)), hR.f0.keep rfl, hR.f1.keep rfl, hR.f2.keep rfl, hR.f3.keep rfl, (fun _ => rfl), (fun _ => rfl), hR.f6.keep rfl, hR.f7.keep rfl, hR.f8.keep rfl, hR.f9.keep rfl, hR.f11.keep rfl⟩⟩
          refine EachOf.cons [] rfl (by kernel_rfl) ?_ ?_
          · rintro L A W ⟨v, g, rfl, hR⟩ hi hw K hK
            have hk : L 10 = false := hR.ar.not hi rfl
            obtain ⟨_, q0, q1⟩ := HD.out.on (hR.st hk)
            go_simp
            refine hK.out _ _ ?_
            exact ⟨(fun j => if j = 66 then .agg #[.int .u64 D1, .int .u64 D2] else v j), g, rfl, ⟨(fun h => hR.st (upd_false h)), hR.sr.keep rfl, hR.ar.keepM rfl (fun h j hj => upd_on (h j hj)), hR.f0.keep rfl, hR.f1.keep rfl, hR.f2.keep rfl, hR.f3.keep rfl, hR.f4.keep rfl, hR.f5.keep rfl, (fun _ => rfl), hR.f7.keep rfl, hR.f8.keep rfl, hR.f9.keep rfl, hR.f11.keep rfl⟩⟩
          refine EachOf.cons [2, 5, 6] rfl (by kernel_rfl) ?_ ?_
          · rintro L A W ⟨v, g, rfl, hR⟩ hi hw K hK
            have hk : L 10 = false := hR.ar.not hi rfl
            have e2 := hR.f2 (hw 2 (by simp))
            have e5 := hR.f5 (hw 5 (by simp))
            have e6 := hR.f6 (hw 6 (by simp))
            simp only [e2, e5, e6]
            clear e2 e5 e6
            go_simp
            go_at_call 65
            (with_reducible refine ((CD _).out).mono ?_)
            rintro e w2 ⟨rfl, hb⟩
            go_simp
            refine hK.out _ _ ?_
            exact ⟨(fun j => if j = 62 then .agg #[.int .u64 Q1, .int .u64 Q2] else if j = 65 then .bool true else if j = 66 then .agg #[.int .u64 D1, .int .u64 D2] else if j = 67 then .tuple #[.agg #[.int .i64 n, .int .i64 d], .int .i64 er] else v j), g, rfl, ⟨(fun _ => below_on (hR.st hk) hb), (fun h => absurd (upd_back h rfl) (by simp [hk])), hR.ar.keepM rfl (fun h j hj => upd_on (h j hj)), hR.f0.keep rfl, hR.f1.keep rfl, (fun _ => rfl), hR.f3.keep rfl, hR.f4.keep rfl, (fun _ => rfl), (fun _ => rfl), (fun _ => rfl), hR.f8.keep rfl, hR.f9.keep rfl, hR.f11.keep rfl⟩⟩
          refine EachOf.cons [7] rfl (by kernel_rfl) ?_ ?_
          · rintro L A W ⟨v, g, rfl, hR⟩ hi hw K hK
            have hk : L 10 = false := hR.ar.not hi rfl
            have e7 := hR.f7 (hw 7 (by simp))
            simp only [e7]
            clear e7
            go_simp
            refine hK.out _ _ ?_
            exact ⟨(fun j => if j = 67 then .tuple #[.agg #[.int .i64 n, .int .i64 d], .int .i64 er] else if j = 68 then .agg #[.int .i64 n, .int .i64 d] else v j), g, rfl, ⟨(fun h => hR.st (upd_false h)), hR.sr.keep rfl, hR.ar.keepM rfl (fun h j hj => upd_on (h j hj)), hR.f0.keep rfl, hR.f1.keep rfl, hR.f2.keep rfl, hR.f3.keep rfl, hR.f4.keep rfl, hR.f5.keep rfl, hR.f6.keep rfl, (fun _ => rfl), (fun _ => rfl), hR.f9.keep rfl, hR.f11.keep rfl⟩⟩
          refine EachOf.cons [7] rfl (by kernel_rfl) ?_ ?_
          · rintro L A W ⟨v, g, rfl, hR⟩ hi hw K hK
            have hk : L 10 = false := hR.ar.not hi rfl
            have e7 := hR.f7 (hw 7 (by simp))
            simp only [e7]
            clear e7
            go_simp
            refine hK.out _ _ ?_
            exact ⟨(fun j => if j = 67 then .tuple #[.agg #[.int .i64 n, .int .i64 d], .int .i64 er] else if j = 69 then .int .i64 er else v j), g, rfl, ⟨(fun h => hR.st (upd_false h)), hR.sr.keep rfl, hR.ar.keepM rfl (fun h j hj => upd_on (h j hj)), hR.f0.keep rfl, hR.f1.keep rfl, hR.f2.keep rfl, hR.f3.keep rfl, hR.f4.keep rfl, hR.f5.keep rfl, hR.f6.keep rfl, (fun _ => rfl), hR.f8.keep rfl, (fun _ => rfl), hR.f11.keep rfl⟩⟩
          refine EachOf.cons [0, 1, 2, 3, 4, 5, 6, 7, 8, 9] rfl (by kernel_rfl) ?_ ?_
          · rintro L A W ⟨v, g, rfl, hR⟩ hi hw K hK
            have e8 := hR.f8 (hw 8 (by simp))
            simp only [e8]
            clear e8
            obtain ⟨l5, p5, q5⟩ := HR.out.on (hR.st hi)
            obtain ⟨r5, s5⟩ := HF.out.on HR.out.1 (hR.st hi)
            go_simp
            refine hK.out _ _ ?_
            exact ⟨(fun j => if j = 68 then .agg #[.int .i64 n, .int .i64 d] else v j), g, rfl, ⟨(fun h => by simp [upd_self] at h), (fun _ => ⟨W, hR.st hi, rfl⟩), (fun _ j hj => upd_on (hw j hj)), hR.f0.keep rfl, hR.f1.keep rfl, hR.f2.keep rfl, hR.f3.keep rfl, hR.f4.keep rfl, hR.f5.keep rfl, hR.f6.keep rfl, hR.f7.keep rfl, (fun _ => rfl), hR.f9.keep rfl, hR.f11.keep rfl⟩⟩
          refine EachOf.cons [9] rfl (by kernel_rfl) ?_ ?_
          · rintro L A W ⟨v, g, rfl, hR⟩ hi hw K hK
            have e9 := hR.f9 (hw 9 (by simp))
            simp only [e9]
            clear e9
            go_simp
            refine hK.out _ _ ?_
            exact ⟨(fun j => if j = 69 then .int .i64 er else if j = 5 then .int .i64 er else v j), g, rfl, ⟨(fun h => hR.st (upd_false h)), hR.sr.keep rfl, hR.ar.keepM rfl (fun h j hj => upd_on (h j hj)), hR.f0.keep rfl, hR.f1.keep rfl, hR.f2.keep rfl, hR.f3.keep rfl, hR.f4.keep rfl, hR.f5.keep rfl, hR.f6.keep rfl, hR.f7.keep rfl, hR.f8.keep rfl, (fun _ => rfl), (fun _ => rfl)⟩⟩
          exact EachOf.nil
        rintro L A W4t ⟨v4t, g4t, rfl, hR⟩ hL
        have e11 := hR.f11 (hL 11 (by simp))
        obtain ⟨W4tb, hb9, hw9⟩ := hR.sr (hL 10 (by simp))
        have hst := Lib.hid hb9
        clear hb9
        simp only [e11]
        clear e11
        clear hR hL
        replace HF := Lib.hid (HF.out.on HR.out.1 hst.out)
        replace HXF := Lib.hid (HXF.out.on HX.out.1 hst.out)
        replace HYF := Lib.hid (HYF.out.on HY.out.1 hst.out)
        replace HDF := Lib.hid (HDF.out.on HD.out.1 hst.out)
        replace HA := Lib.hid (HA.out.on hst.out)
        replace HB := Lib.hid (HB.out.on hst.out)
        replace HR := Lib.hid (HR.out.on hst.out)
        replace HX := Lib.hid (HX.out.on hst.out)
        replace HY := Lib.hid (HY.out.on hst.out)
        replace HD := Lib.hid (HD.out.on hst.out)
        replace HW := Lib.hid (below_on HW.out hst.out)
        subst hw9
        have hB := ((HW.out.setCell (p := ⟨w.heap.size + 1 + 1, 0, none⟩) (by simp; omega) (.int .i64 n)).setCell (p := ⟨w.heap.size + 1 + 1, 1, none⟩) (by simp; omega) (.int .i64 d))
        obtain ⟨_, r8, r9⟩ := Blk.set (x := .int .i64 n) (y := .int .i64 d) HR.out
        go_wp2
        refine bodyPost_ret (by simp [results, Try.results40, go_sem, r8, r9]; try rfl) rfl ?_
        exact ⟨rfl, hB⟩
      · have CP := CM
        have CD := CD2 (by decide) rfl
        obtain ⟨_, HAp, HAq⟩ := HA.out
        obtain ⟨_, HBp, HBq⟩ := HB.out
        obtain ⟨_, HRp, HRq⟩ := HR.out
        obtain ⟨_, HXp, HXq⟩ := HX.out
        obtain ⟨_, HYp, HYq⟩ := HY.out
        obtain ⟨_, HDp, HDq⟩ := HD.out
        go_wp2_with fail
        (with_reducible refine ((CL _).out).mono ?_)
        rintro e w4 ⟨rfl, hb4⟩
        have hst := Lib.hid hb4
        clear hb4
        clear HAp HAq HBp HBq HRp HRq HXp HXq HYp HYq HDp HDq
        replace HF := Lib.hid (HF.out.on HR.out.1 hst.out)
        replace HXF := Lib.hid (HXF.out.on HX.out.1 hst.out)
        replace HYF := Lib.hid (HYF.out.on HY.out.1 hst.out)
        replace HDF := Lib.hid (HDF.out.on HD.out.1 hst.out)
        replace HA := Lib.hid (HA.out.on hst.out)
        replace HB := Lib.hid (HB.out.on hst.out)
        replace HR := Lib.hid (HR.out.on hst.out)
        replace HX := Lib.hid (HX.out.on hst.out)
        replace HY := Lib.hid (HY.out.on hst.out)
        replace HD := Lib.hid (HD.out.on hst.out)
        replace HW := Lib.hid (below_on HW.out hst.out)
        go_wp2_with fail
        refine wp_region_each (fun L A W => ∃ (v : Nat → Value) (g : Nat → Nat), A = ⟨#[.agg #[.int .i64 an, .int .i64 ad], .agg #[.int .i64 bn, .int .i64 bd], .pointer (some ⟨w.heap.size, 0, none⟩), .pointer (some ⟨w.heap.size + 1, 0, none⟩), .pointer (some ⟨w.heap.size + 1 + 1, 0, none⟩), v 5, .pointer (some ⟨gx, 0, none⟩), .pointer (some ⟨gy, 0, none⟩), .pointer (some ⟨gd, 0, none⟩), v1 9, v1 10, v1 11, v1 12, v1 13, v1 14, v1 15, v2 16, v2 17, v2 18, v2 19, v2 20, v2 21, v2 22, v3 23, v3 24, v3 25, v3 26, v3 27, v3 28, v3 29, .pointer (some ⟨w.heap.size, 0, none⟩), .int .i64 an, .bool true, .pointer (some ⟨w.heap.size + 1, 0, none⟩), .int .i64 bn, .bool false, .bool false, undef, undef, undef, undef, undef, undef, undef, undef, undef, undef, .agg #[.int .u64 X1, .int .u64 X2], .agg #[.int .u64 Y1, .int .u64 Y2], .bool true, v 50, v 51, v 52, v 53, v 54, v 55, v 56, v 57, v 58, v 59, undef, undef, undef, undef, undef, undef, undef, undef, undef, undef], []⟩ ∧ Add7tR w an ad bn bd a b a2 b2 X1 X2 Y1 Y2 D1 D2 M1 M2 n d er w4 L v g W) (by kernel_rfl) (by kernel_rfl) ⟨fun j => if j = 5 then .int .i64 0 else undef, fun _ => 0, rfl, ⟨(fun _ => Below.drew (Below.refl _ _)), Had.none, Had.none, Had.none, Had.none, Had.none, Had.none, Had.none, Had.none, Had.none, Had.none, Had.none, Had.none, Had.none⟩⟩ (rs := [0, 1, 2, 3, 4, 5, 6, 7, 8, 9, 10, 11]) (by kernel_rfl) ?_ ?_
        · refine EachOf.cons [] rfl (by kernel_rfl) ?_ ?_
          · rintro L A W ⟨v, g, rfl, hR⟩ hi hw K hK
            have hk : L 10 = false := hR.ar.not hi rfl
            obtain ⟨_, q0, q1⟩ := HY.out.on (hR.st hk)
            go_simp
            refine hK.out _ _ ?_
            exact ⟨(fun j => if j = 50 then .agg #[.int .u64 Y1, .int .u64 Y2] else v j), g, rfl, ⟨(fun h => hR.st (upd_false h)), hR.sr.keep rfl, hR.ar.keepM rfl (fun h j hj => upd_on (h j hj)), (fun _ => rfl), hR.f1.keep rfl, hR.f2.keep rfl, hR.f3.keep rfl, hR.f4.keep rfl, hR.f5.keep rfl, hR.f6.keep rfl, hR.f7.keep rfl, hR.f8.keep rfl, hR.f9.keep rfl, hR.f11.keep rfl⟩⟩
          refine EachOf.cons [] rfl (by kernel_rfl) ?_ ?_
          · rintro L A W ⟨v, g, rfl, hR⟩ hi hw K hK
            have hk : L 10 = false := hR.ar.not hi rfl
            obtain ⟨_, q0, q1⟩ := HX.out.on (hR.st hk)
            go_simp
            refine hK.out _ _ ?_
            exact ⟨(fun j => if j = 51 then .agg #[.int .u64 X1, .int .u64 X2] else v j), g, rfl, ⟨(fun h => hR.st (upd_false h)), hR.sr.keep rfl, hR.ar.keepM rfl (fun h j hj => upd_on (h j hj)), hR.f0.keep rfl, (fun _ => rfl), hR.f2.keep rfl, hR.f3.keep rfl, hR.f4.keep rfl, hR.f5.keep rfl, hR.f6.keep rfl, hR.f7.keep rfl, hR.f8.keep rfl, hR.f9.keep rfl, hR.f11.keep rfl⟩⟩
          refine EachOf.cons [0, 1] rfl (by kernel_rfl) ?_ ?_
          · rintro L A W ⟨v, g, rfl, hR⟩ hi hw K hK
            have hk : L 10 = false := hR.ar.not hi rfl
            have e0 := hR.f0 (hw 0 (by simp))
            have e1 := hR.f1 (hw 1 (by simp))
            simp only [e0, e1]
            clear e0 e1
            go_simp
            go_at_call 68
            (with_reducible refine ((CP _).out).mono ?_)
            rintro e w2 ⟨rfl, hb⟩
            go_simp
            refine hK.out _ _ ?_
            exact ⟨(fun j => if j = 50 then .agg #[.int .u64 Y1, .int .u64 Y2] else if j = 51 then .agg #[.int .u64 X1, .int .u64 X2] else if j = 52 then .agg #[.int .u64 M1, .int .u64 M2] else v j), g, rfl, ⟨(fun _ => below_on (hR.st hk) hb), (fun h => absurd (upd_back h rfl) (by simp [hk])), hR.ar.keepM rfl (fun h j hj => upd_on (h j hj)), (fun _ => rfl), (fun _ => rfl), (fun _ => rfl), hR.f3.keep rfl, hR.f4.keep rfl, hR.f5.keep rfl, hR.f6.keep rfl, hR.f7.keep rfl, hR.f8.keep rfl, hR.f9.keep rfl, hR.f11.keep rfl⟩⟩
          refine EachOf.cons [] rfl (by kernel_rfl) ?_ ?_
          · rintro L A W ⟨v, g, rfl, hR⟩ hi hw K hK
            have hk : L 10 = false := hR.ar.not hi rfl
            go_simp
            refine hK.out _ _ ?_
            exact ⟨(fun j => if j = 53 then .pointer (some ⟨w.heap.size + 1, 0, none⟩) else v j), g, rfl, ⟨(fun h => hR.st (upd_false h)), hR.sr.keep rfl, hR.ar.keepM rfl (fun h j hj => upd_on (h j hj)), hR.f0.keep rfl, hR.f1.keep rfl, hR.f2.keep rfl, (fun _ => rfl), hR.f4.keep rfl, hR.f5.keep rfl, hR.f6.keep rfl, hR.f7.keep rfl, hR.f8.keep rfl, hR.f9.keep rfl, hR.f11.keep rfl⟩⟩
          refine EachOf.cons [3] rfl (by kernel_rfl) ?_ ?_
          · rintro L A W ⟨v, g, rfl, hR⟩ hi hw K hK
            have hk : L 10 = false := hR.ar.not hi rfl
            have e3 := hR.f3 (hw 3 (by simp))
            simp only [e3]
            clear e3
            obtain ⟨_, q0, q1⟩ := HB.out.on (hR.st hk)
            go_simp
            refine hK.out _ _ ?_
            exact ⟨(fun j => if j = 53 then .pointer (some ⟨w.heap.size + 1, 0, none⟩) else if j = 54 then .int .i64 bn else v j), g, rfl, ⟨(fun h => hR.st (upd_false h)), hR.sr.keep rfl, hR.ar.keepM rfl (fun h j hj => upd_on (h j hj)), hR.f0.keep rfl, hR.f1.keep rfl, hR.f2.keep rfl, (fun _ => rfl), (fun _ => rfl), hR.f5.keep rfl, hR.f6.keep rfl, hR.f7.keep rfl, hR.f8.keep rfl, hR.f9.keep rfl, hR.f11.keep rfl⟩⟩
          refine EachOf.cons [4] rfl (by kernel_rfl) ?_ ?_
          · rintro L A W ⟨v, g, rfl, hR⟩ hi hw K hK
            have hk : L 10 = false := hR.ar.not hi rfl
            have e4 := hR.f4 (hw 4 (by simp))
            simp only [e4]
            clear e4
            go_simp
            refine hK.out _ _ ?_
            exact ⟨(fun j => if j = 54 then .int .i64 bn else if j = 55 then .bool false else v j), g, rfl, ⟨(fun h => hR.st (upd_false h)), hR.sr.keep rfl, hR.ar.keepM rfl (fun h j hj => upd_on (h j hj)), hR.f0.keep rfl, hR.f1.keep rfl, hR.f2.keep rfl, hR.f3.keep rfl, (fun _ => rfl), (fun _ => rfl), hR.f6.keep rfl, hR.f7.keep rfl, hR.f8.keep rfl, hR.f9.keep rfl, hR.f11.keep rfl⟩⟩
          refine EachOf.cons [] rfl (by kernel_rfl) ?_ ?_
          · rintro L A W ⟨v, g, rfl, hR⟩ hi hw K hK
            have hk : L 10 = false := hR.ar.not hi rfl
            obtain ⟨_, q0, q1⟩ := HD.out.on (hR.st hk)
            go_simp
            refine hK.out _ _ ?_
            exact ⟨(fun j => if j = 56 then .agg #[.int .u64 D1, .int .u64 D2] else v j), g, rfl, ⟨(fun h => hR.st (upd_false h)), hR.sr.keep rfl, hR.ar.keepM rfl (fun h j hj => upd_on (h j hj)), hR.f0.keep rfl, hR.f1.keep rfl, hR.f2.keep rfl, hR.f3.keep rfl, hR.f4.keep rfl, hR.f5.keep rfl, (fun _ => rfl), hR.f7.keep rfl, hR.f8.keep rfl, hR.f9.keep rfl, hR.f11.keep rfl⟩⟩
          refine EachOf.cons [2, 5, 6] rfl (by kernel_rfl) ?_ ?_
          · rintro L A W ⟨v, g, rfl, hR⟩ hi hw K hK
            have hk : L 10 = false := hR.ar.not hi rfl
            have e2 := hR.f2 (hw 2 (by simp))
            have e5 := hR.f5 (hw 5 (by simp))
            have e6 := hR.f6 (hw 6 (by simp))
            simp only [e2, e5, e6]
            clear e2 e5 e6
            go_simp
            go_at_call 65
            (with_reducible refine ((CD _).out).mono ?_)
            rintro e w2 ⟨rfl, hb⟩
            go_simp
            refine hK.out _ _ ?_
            exact ⟨(fun j => if j = 52 then .agg #[.int .u64 M1, .int .u64 M2] else if j = 55 then .bool false else if j = 56 then .agg #[.int .u64 D1, .int .u64 D2] else if j = 57 then .tuple #[.agg #[.int .i64 n, .int .i64 d], .int .i64 er] else v j), g, rfl, ⟨(fun _ => below_on (hR.st hk) hb), (fun h => absurd (upd_back h rfl) (by simp [hk])), hR.ar.keepM rfl (fun h j hj => upd_on (h j hj)), hR.f0.keep rfl, hR.f1.keep rfl, (fun _ => rfl), hR.f3.keep rfl, hR.f4.keep rfl, (fun _ => rfl), (fun _ => rfl), (fun _ => rfl), hR.f8.keep rfl, hR.f9.keep rfl, hR.f11.keep rfl⟩⟩
          refine EachOf.cons [7] rfl (by kernel_rfl) ?_ ?_
          · rintro L A W ⟨v, g, rfl, hR⟩ hi hw K hK
            have hk : L 10 = false := hR.ar.not hi rfl
            have e7 := hR.f7 (hw 7 (by simp))
            simp only [e7]
            clear e7
            go_simp
            refine hK.out _ _ ?_
            exact ⟨(fun j => if j = 57 then .tuple #[.agg #[.int .i64 n, .int .i64 d], .int .i64 er] else if j = 58 then .agg #[.int .i64 n, .int .i64 d] else v j), g, rfl, ⟨(fun h => hR.st (upd_false h)), hR.sr.keep rfl, hR.ar.keepM rfl (fun h j hj => upd_on (h j hj)), hR.f0.keep rfl, hR.f1.keep rfl, hR.f2.keep rfl, hR.f3.keep rfl, hR.f4.keep rfl, hR.f5.keep rfl, hR.f6.keep rfl, (fun _ => rfl), (fun _ => rfl), hR.f9.keep rfl, hR.f11.keep rfl⟩⟩
          refine EachOf.cons [7] rfl (by kernel_rfl) ?_ ?_
          · rintro L A W ⟨v, g, rfl, hR⟩ hi hw K hK
            have hk : L 10 = false := hR.ar.not hi rfl
            have e7 := hR.f7 (hw 7 (by simp))
            simp only [e7]
            clear e7
            go_simp
            refine hK.out _ _ ?_
            exact ⟨(fun j => if j = 57 then .tuple #[.agg #[.int .i64 n, .int .i64 d], .int .i64 er] else if j = 59 then .int .i64 er else v j), g, rfl, ⟨(fun h => hR.st (upd_false h)), hR.sr.keep rfl, hR.ar.keepM rfl (fun h j hj => upd_on (h j hj)), hR.f0.keep rfl, hR.f1.keep rfl, hR.f2.keep rfl, hR.f3.keep rfl, hR.f4.keep rfl, hR.f5.keep rfl, hR.f6.keep rfl, (fun _ => rfl), hR.f8.keep rfl, (fun _ => rfl), hR.f11.keep rfl⟩⟩
          refine EachOf.cons [0, 1, 2, 3, 4, 5, 6, 7, 8, 9] rfl (by kernel_rfl) ?_ ?_
          · rintro L A W ⟨v, g, rfl, hR⟩ hi hw K hK
            have e8 := hR.f8 (hw 8 (by simp))
            simp only [e8]
            clear e8
            obtain ⟨l5, p5, q5⟩ := HR.out.on (hR.st hi)
            obtain ⟨r5, s5⟩ := HF.out.on HR.out.1 (hR.st hi)
            go_simp
            refine hK.out _ _ ?_
            exact ⟨(fun j => if j = 58 then .agg #[.int .i64 n, .int .i64 d] else v j), g, rfl, ⟨(fun h => by simp [upd_self] at h), (fun _ => ⟨W, hR.st hi, rfl⟩), (fun _ j hj => upd_on (hw j hj)), hR.f0.keep rfl, hR.f1.keep rfl, hR.f2.keep rfl, hR.f3.keep rfl, hR.f4.keep rfl, hR.f5.keep rfl, hR.f6.keep rfl, hR.f7.keep rfl, (fun _ => rfl), hR.f9.keep rfl, hR.f11.keep rfl⟩⟩
          refine EachOf.cons [9] rfl (by kernel_rfl) ?_ ?_
          · rintro L A W ⟨v, g, rfl, hR⟩ hi hw K hK
            have e9 := hR.f9 (hw 9 (by simp))
            simp only [e9]
            clear e9
            go_simp
            refine hK.out _ _ ?_
            exact ⟨(fun j => if j = 59 then .int .i64 er else if j = 5 then .int .i64 er else v j), g, rfl, ⟨(fun h => hR.st (upd_false h)), hR.sr.keep rfl, hR.ar.keepM rfl (fun h j hj => upd_on (h j hj)), hR.f0.keep rfl, hR.f1.keep rfl, hR.f2.keep rfl, hR.f3.keep rfl, hR.f4.keep rfl, hR.f5.keep rfl, hR.f6.keep rfl, hR.f7.keep rfl, hR.f8.keep rfl, (fun _ => rfl), (fun _ => rfl)⟩⟩
          exact EachOf.nil
        rintro L A W4t ⟨v4t, g4t, rfl, hR⟩ hL
        have e11 := hR.f11 (hL 11 (by simp))
        obtain ⟨W4tb, hb9, hw9⟩ := hR.sr (hL 10 (by simp))
        have hst := Lib.hid hb9
        clear hb9
        simp only [e11]
        clear e11
        clear hR hL
        replace HF := Lib.hid (HF.out.on HR.out.1 hst.out)
        replace HXF := Lib.hid (HXF.out.on HX.out.1 hst.out)
        replace HYF := Lib.hid (HYF.out.on HY.out.1 hst.out)
        replace HDF := Lib.hid (HDF.out.on HD.out.1 hst.out)
        replace HA := Lib.hid (HA.out.on hst.out)
        replace HB := Lib.hid (HB.out.on hst.out)
        replace HR := Lib.hid (HR.out.on hst.out)
        replace HX := Lib.hid (HX.out.on hst.out)
        replace HY := Lib.hid (HY.out.on hst.out)
        replace HD := Lib.hid (HD.out.on hst.out)
        replace HW := Lib.hid (below_on HW.out hst.out)
        subst hw9
        have hB := ((HW.out.setCell (p := ⟨w.heap.size + 1 + 1, 0, none⟩) (by simp; omega) (.int .i64 n)).setCell (p := ⟨w.heap.size + 1 + 1, 1, none⟩) (by simp; omega) (.int .i64 d))
        obtain ⟨_, r8, r9⟩ := Blk.set (x := .int .i64 n) (y := .int .i64 d) HR.out
        go_wp2
        refine bodyPost_ret (by simp [results, Try.results40, go_sem, r8, r9]; try rfl) rfl ?_
        exact ⟨rfl, hB⟩
    · have CP := CS
      have CD := CD1 rfl
      obtain ⟨_, HAp, HAq⟩ := HA.out
      obtain ⟨_, HBp, HBq⟩ := HB.out
      go_wp2_with fail
      clear HAp HAq HBp HBq
      refine wp_region_each (fun L A W => ∃ (v : Nat → Value) (g : Nat → Nat), A = ⟨#[.agg #[.int .i64 an, .int .i64 ad], .agg #[.int .i64 bn, .int .i64 bd], .pointer (some ⟨w.heap.size, 0, none⟩), .pointer (some ⟨w.heap.size + 1, 0, none⟩), .pointer (some ⟨w.heap.size + 1 + 1, 0, none⟩), v 5, .pointer (some ⟨gx, 0, none⟩), .pointer (some ⟨gy, 0, none⟩), .pointer (some ⟨gd, 0, none⟩), v1 9, v1 10, v1 11, v1 12, v1 13, v1 14, v1 15, v2 16, v2 17, v2 18, v2 19, v2 20, v2 21, v2 22, v3 23, v3 24, v3 25, v3 26, v3 27, v3 28, v3 29, .pointer (some ⟨w.heap.size, 0, none⟩), .int .i64 an, .bool true, .pointer (some ⟨w.heap.size + 1, 0, none⟩), .int .i64 bn, .bool true, .bool true, v 37, v 38, v 39, v 40, v 41, v 42, v 43, v 44, v 45, v 46, undef, undef, undef, undef, undef, undef, undef, undef, undef, undef, undef, undef, undef, undef, undef, undef, undef, undef, undef, undef, undef, undef, undef], []⟩ ∧ Add5tR w an ad bn bd a b a2 b2 X1 X2 Y1 Y2 D1 D2 S1 S2 n d er W3 L v g W) (by kernel_rfl) (by kernel_rfl) ⟨fun j => if j = 5 then .int .i64 0 else undef, fun _ => 0, rfl, ⟨(fun _ => Below.drew (Below.refl _ _)), Had.none, Had.none, Had.none, Had.none, Had.none, Had.none, Had.none, Had.none, Had.none, Had.none, Had.none, Had.none, Had.none⟩⟩ (rs := [0, 1, 2, 3, 4, 5, 6, 7, 8, 9, 10, 11]) (by kernel_rfl) ?_ ?_
      · refine EachOf.cons [] rfl (by kernel_rfl) ?_ ?_
        · rintro L A W ⟨v, g, rfl, hR⟩ hi hw K hK
          have hk : L 10 = false := hR.ar.not hi rfl
          obtain ⟨_, q0, q1⟩ := HX.out.on (hR.st hk)
          go_simp
          refine hK.out _ _ ?_
          exact ⟨(fun j => if j = 37 then .agg #[.int .u64 X1, .int .u64 X2] else v j), g, rfl, ⟨(fun h => hR.st (upd_false h)), hR.sr.keep rfl, hR.ar.keepM rfl (fun h j hj => upd_on (h j hj)), (fun _ => rfl), hR.f1.keep rfl, hR.f2.keep rfl, hR.f3.keep rfl, hR.f4.keep rfl, hR.f5.keep rfl, hR.f6.keep rfl, hR.f7.keep rfl, hR.f8.keep rfl, hR.f9.keep rfl, hR.f11.keep rfl⟩⟩
        refine EachOf.cons [] rfl (by kernel_rfl) ?_ ?_
        · rintro L A W ⟨v, g, rfl, hR⟩ hi hw K hK
          have hk : L 10 = false := hR.ar.not hi rfl
          obtain ⟨_, q0, q1⟩ := HY.out.on (hR.st hk)
          go_simp
          refine hK.out _ _ ?_
          exact ⟨(fun j => if j = 38 then .agg #[.int .u64 Y1, .int .u64 Y2] else v j), g, rfl, ⟨(fun h => hR.st (upd_false h)), hR.sr.keep rfl, hR.ar.keepM rfl (fun h j hj => upd_on (h j hj)), hR.f0.keep rfl, (fun _ => rfl), hR.f2.keep rfl, hR.f3.keep rfl, hR.f4.keep rfl, hR.f5.keep rfl, hR.f6.keep rfl, hR.f7.keep rfl, hR.f8.keep rfl, hR.f9.keep rfl, hR.f11.keep rfl⟩⟩
        refine EachOf.cons [0, 1] rfl (by kernel_rfl) ?_ ?_
        · rintro L A W ⟨v, g, rfl, hR⟩ hi hw K hK
          have hk : L 10 = false := hR.ar.not hi rfl
          have e0 := hR.f0 (hw 0 (by simp))
          have e1 := hR.f1 (hw 1 (by simp))
          simp only [e0, e1]
          clear e0 e1
          go_simp
          go_at_call 66
          (with_reducible refine ((CP _).out).mono ?_)
          rintro e w2 ⟨rfl, hb⟩
          go_simp
          refine hK.out _ _ ?_
          exact ⟨(fun j => if j = 37 then .agg #[.int .u64 X1, .int .u64 X2] else if j = 38 then .agg #[.int .u64 Y1, .int .u64 Y2] else if j = 39 then .agg #[.int .u64 S1, .int .u64 S2] else v j), g, rfl, ⟨(fun _ => below_on (hR.st hk) hb), (fun h => absurd (upd_back h rfl) (by simp [hk])), hR.ar.keepM rfl (fun h j hj => upd_on (h j hj)), (fun _ => rfl), (fun _ => rfl), (fun _ => rfl), hR.f3.keep rfl, hR.f4.keep rfl, hR.f5.keep rfl, hR.f6.keep rfl, hR.f7.keep rfl, hR.f8.keep rfl, hR.f9.keep rfl, hR.f11.keep rfl⟩⟩
        refine EachOf.cons [] rfl (by kernel_rfl) ?_ ?_
        · rintro L A W ⟨v, g, rfl, hR⟩ hi hw K hK
          have hk : L 10 = false := hR.ar.not hi rfl
          go_simp
          refine hK.out _ _ ?_
          exact ⟨(fun j => if j = 40 then .pointer (some ⟨w.heap.size, 0, none⟩) else v j), g, rfl, ⟨(fun h => hR.st (upd_false h)), hR.sr.keep rfl, hR.ar.keepM rfl (fun h j hj => upd_on (h j hj)), hR.f0.keep rfl, hR.f1.keep rfl, hR.f2.keep rfl, (fun _ => rfl), hR.f4.keep rfl, hR.f5.keep rfl, hR.f6.keep rfl, hR.f7.keep rfl, hR.f8.keep rfl, hR.f9.keep rfl, hR.f11.keep rfl⟩⟩
        refine EachOf.cons [3] rfl (by kernel_rfl) ?_ ?_
        · rintro L A W ⟨v, g, rfl, hR⟩ hi hw K hK
          have hk : L 10 = false := hR.ar.not hi rfl
          have e3 := hR.f3 (hw 3 (by simp))
          simp only [e3]
          clear e3
          obtain ⟨_, q0, q1⟩ := HA.out.on (hR.st hk)
          go_simp
          refine hK.out _ _ ?_
          exact ⟨(fun j => if j = 40 then .pointer (some ⟨w.heap.size, 0, none⟩) else if j = 41 then .int .i64 an else v j), g, rfl, ⟨(fun h => hR.st (upd_false h)), hR.sr.keep rfl, hR.ar.keepM rfl (fun h j hj => upd_on (h j hj)), hR.f0.keep rfl, hR.f1.keep rfl, hR.f2.keep rfl, (fun _ => rfl), (fun _ => rfl), hR.f5.keep rfl, hR.f6.keep rfl, hR.f7.keep rfl, hR.f8.keep rfl, hR.f9.keep rfl, hR.f11.keep rfl⟩⟩
        refine EachOf.cons [4] rfl (by kernel_rfl) ?_ ?_
        · rintro L A W ⟨v, g, rfl, hR⟩ hi hw K hK
          have hk : L 10 = false := hR.ar.not hi rfl
          have e4 := hR.f4 (hw 4 (by simp))
          simp only [e4]
          clear e4
          go_simp
          refine hK.out _ _ ?_
          exact ⟨(fun j => if j = 41 then .int .i64 an else if j = 42 then .bool true else v j), g, rfl, ⟨(fun h => hR.st (upd_false h)), hR.sr.keep rfl, hR.ar.keepM rfl (fun h j hj => upd_on (h j hj)), hR.f0.keep rfl, hR.f1.keep rfl, hR.f2.keep rfl, hR.f3.keep rfl, (fun _ => rfl), (fun _ => rfl), hR.f6.keep rfl, hR.f7.keep rfl, hR.f8.keep rfl, hR.f9.keep rfl, hR.f11.keep rfl⟩⟩
        refine EachOf.cons [] rfl (by kernel_rfl) ?_ ?_
        · rintro L A W ⟨v, g, rfl, hR⟩ hi hw K hK
          have hk : L 10 = false := hR.ar.not hi rfl
          obtain ⟨_, q0, q1⟩ := HD.out.on (hR.st hk)
          go_simp
          refine hK.out _ _ ?_
          exact ⟨(fun j => if j = 43 then .agg #[.int .u64 D1, .int .u64 D2] else v j), g, rfl, ⟨(fun h => hR.st (upd_false h)), hR.sr.keep rfl, hR.ar.keepM rfl (fun h j hj => upd_on (h j hj)), hR.f0.keep rfl, hR.f1.keep rfl, hR.f2.keep rfl, hR.f3.keep rfl, hR.f4.keep rfl, hR.f5.keep rfl, (fun _ => rfl), hR.f7.keep rfl, hR.f8.keep rfl, hR.f9.keep rfl, hR.f11.keep rfl⟩⟩
        refine EachOf.cons [2, 5, 6] rfl (by kernel_rfl) ?_ ?_
        · rintro L A W ⟨v, g, rfl, hR⟩ hi hw K hK
          have hk : L 10 = false := hR.ar.not hi rfl
          have e2 := hR.f2 (hw 2 (by simp))
          have e5 := hR.f5 (hw 5 (by simp))
          have e6 := hR.f6 (hw 6 (by simp))
          simp only [e2, e5, e6]
          clear e2 e5 e6
          go_simp
          go_at_call 65
          (with_reducible refine ((CD _).out).mono ?_)
          rintro e w2 ⟨rfl, hb⟩
          go_simp
          refine hK.out _ _ ?_
          exact ⟨(fun j => if j = 39 then .agg #[.int .u64 S1, .int .u64 S2] else if j = 42 then .bool true else if j = 43 then .agg #[.int .u64 D1, .int .u64 D2] else if j = 44 then .tuple #[.agg #[.int .i64 n, .int .i64 d], .int .i64 er] else v j), g, rfl, ⟨(fun _ => below_on (hR.st hk) hb), (fun h => absurd (upd_back h rfl) (by simp [hk])), hR.ar.keepM rfl (fun h j hj => upd_on (h j hj)), hR.f0.keep rfl, hR.f1.keep rfl, (fun _ => rfl), hR.f3.keep rfl, hR.f4.keep rfl, (fun _ => rfl), (fun _ => rfl), (fun _ => rfl), hR.f8.keep rfl, hR.f9.keep rfl, hR.f11.keep rfl⟩⟩
        refine EachOf.cons [7] rfl (by kernel_rfl) ?_ ?_
        · rintro L A W ⟨v, g, rfl, hR⟩ hi hw K hK
          have hk : L 10 = false := hR.ar.not hi rfl
          have e7 := hR.f7 (hw 7 (by simp))
          simp only [e7]
          clear e7
          go_simp
          refine hK.out _ _ ?_
          exact ⟨(fun j => if j = 44 then .tuple #[.agg #[.int .i64 n, .int .i64 d], .int .i64 er] else if j = 45 then .agg #[.int .i64 n, .int .i64 d] else v j), g, rfl, ⟨(fun h => hR.st (upd_false h)), hR.sr.keep rfl, hR.ar.keepM rfl (fun h j hj => upd_on (h j hj)), hR.f0.keep rfl, hR.f1.keep rfl, hR.f2.keep rfl, hR.f3.keep rfl, hR.f4.keep rfl, hR.f5.keep rfl, hR.f6.keep rfl, (fun _ => rfl), (fun _ => rfl), hR.f9.keep rfl, hR.f11.keep rfl⟩⟩
        refine EachOf.cons [7] rfl (by kernel_rfl) ?_ ?_
        · rintro L A W ⟨v, g, rfl, hR⟩ hi hw K hK
          have hk : L 10 = false := hR.ar.not hi rfl
          have e7 := hR.f7 (hw 7 (by simp))
          simp only [e7]
          clear e7
          go_simp
          refine hK.out _ _ ?_
          exact ⟨(fun j => if j = 44 then .tuple #[.agg #[.int .i64 n, .int .i64 d], .int .i64 er] else if j = 46 then .int .i64 er else v j), g, rfl, ⟨(fun h => hR.st (upd_false h)), hR.sr.keep rfl, hR.ar.keepM rfl (fun h j hj => upd_on (h j hj)), hR.f0.keep rfl, hR.f1.keep rfl, hR.f2.keep rfl, hR.f3.keep rfl, hR.f4.keep rfl, hR.f5.keep rfl, hR.f6.keep rfl, (fun _ => rfl), hR.f8.keep rfl, (fun _ => rfl), hR.f11.keep rfl⟩⟩
        refine EachOf.cons [0, 1, 2, 3, 4, 5, 6, 7, 8, 9] rfl (by kernel_rfl) ?_ ?_
        · rintro L A W ⟨v, g, rfl, hR⟩ hi hw K hK
          have e8 := hR.f8 (hw 8 (by simp))
          simp only [e8]
          clear e8
          obtain ⟨l5, p5, q5⟩ := HR.out.on (hR.st hi)
          obtain ⟨r5, s5⟩ := HF.out.on HR.out.1 (hR.st hi)
          go_simp
          refine hK.out _ _ ?_
          exact ⟨(fun j => if j = 45 then .agg #[.int .i64 n, .int .i64 d] else v j), g, rfl, ⟨(fun h => by simp [upd_self] at h), (fun _ => ⟨W, hR.st hi, rfl⟩), (fun _ j hj => upd_on (hw j hj)), hR.f0.keep rfl, hR.f1.keep rfl, hR.f2.keep rfl, hR.f3.keep rfl, hR.f4.keep rfl, hR.f5.keep rfl, hR.f6.keep rfl, hR.f7.keep rfl, (fun _ => rfl), hR.f9.keep rfl, hR.f11.keep rfl⟩⟩
        refine EachOf.cons [9] rfl (by kernel_rfl) ?_ ?_
        · rintro L A W ⟨v, g, rfl, hR⟩ hi hw K hK
          have e9 := hR.f9 (hw 9 (by simp))
          simp only [e9]
          clear e9
          go_simp
          refine hK.out _ _ ?_
          exact ⟨(fun j => if j = 46 then .int .i64 er else if j = 5 then .int .i64 er else v j), g, rfl, ⟨(fun h => hR.st (upd_false h)), hR.sr.keep rfl, hR.ar.keepM rfl (fun h j hj => upd_on (h j hj)), hR.f0.keep rfl, hR.f1.keep rfl, hR.f2.keep rfl, hR.f3.keep rfl, hR.f4.keep rfl, hR.f5.keep rfl, hR.f6.keep rfl, hR.f7.keep rfl, hR.f8.keep rfl, (fun _ => rfl), (fun _ => rfl)⟩⟩
        exact EachOf.nil
      rintro L A W4t ⟨v4t, g4t, rfl, hR⟩ hL
      have e11 := hR.f11 (hL 11 (by simp))
      obtain ⟨W4tb, hb9, hw9⟩ := hR.sr (hL 10 (by simp))
      have hst := Lib.hid hb9
      clear hb9
      simp only [e11]
      clear e11
      clear hR hL
      replace HF := Lib.hid (HF.out.on HR.out.1 hst.out)
      replace HXF := Lib.hid (HXF.out.on HX.out.1 hst.out)
      replace HYF := Lib.hid (HYF.out.on HY.out.1 hst.out)
      replace HDF := Lib.hid (HDF.out.on HD.out.1 hst.out)
      replace HA := Lib.hid (HA.out.on hst.out)
      replace HB := Lib.hid (HB.out.on hst.out)
      replace HR := Lib.hid (HR.out.on hst.out)
      replace HX := Lib.hid (HX.out.on hst.out)
      replace HY := Lib.hid (HY.out.on hst.out)
      replace HD := Lib.hid (HD.out.on hst.out)
      replace HW := Lib.hid (below_on HW.out hst.out)
      subst hw9
      have hB := ((HW.out.setCell (p := ⟨w.heap.size + 1 + 1, 0, none⟩) (by simp; omega) (.int .i64 n)).setCell (p := ⟨w.heap.size + 1 + 1, 1, none⟩) (by simp; omega) (.int .i64 d))
      obtain ⟨_, r8, r9⟩ := Blk.set (x := .int .i64 n) (y := .int .i64 d) HR.out
      go_wp2
      refine bodyPost_ret (by simp [results, Try.results40, go_sem, r8, r9]; try rfl) rfl ?_
      exact ⟨rfl, hB⟩

theorem refAdd_any (an ad bn bd : Int) (w : World) (va : Vld an ad) (vb : Vld bn bd) (n d er : Int) (h : addT an ad bn bd = (n, d, er)) :
    Calls Try.prog 40 #[.agg #[.int .i64 an, .int .i64 ad], .agg #[.int .i64 bn, .int .i64 bd]] w fun e w' => e = .returned (.tuple #[.agg #[.int .i64 n, .int .i64 d], .int .i64 er]) ∧ Below w.heap.size w w' := by
  rw [add_made va vb] at h
  have a1 := va.d1; have a2 := va.d2; have a3 := va.n1; have a4 := va.n2
  have b1 := vb.d1; have b2 := vb.d2; have b3 := vb.n1; have b4 := vb.n2
  obtain ⟨x0, x1⟩ := nat_mul_bd (a := an) (b := bd) (by omega) (by omega)
  obtain ⟨y0, y1⟩ := nat_mul_bd (a := bn) (b := ad) (by omega) (by omega)
  obtain ⟨z0, z1⟩ := nat_mul_bd (a := ad) (b := bd) (by omega) (by omega)
  refine refAdd_walk w an ad bn bd _ _ _ _ _ _ _ _ _ _ _ _ _ _ _ _ n d er _ _ (decide ((an.natAbs : Int) * (bd.natAbs : Int) < (bn.natAbs : Int) * (ad.natAbs : Int)))
    (fun w => refSize_any an w (by omega) (by omega)) (fun w => refSize_any bn w (by omega) (by omega)) (fun w => refSize_any ad w (by omega) (by omega)) (fun w => refSize_any bd w (by omega) (by omega))
    (fun w => refMul_any _ _ w (by omega) (by omega) (by omega) (by omega)) (fun w => refMul_any _ _ w (by omega) (by omega) (by omega) (by omega)) (fun w => refMul_any _ _ w (by omega) (by omega) (by omega) (by omega))
    (fun w => refPlus_any _ _ w) (fun w => less_any _ _ w (by omega) (by omega) (by omega) (by omega)) (fun w => refMinus_any _ _ w) (fun w => refMinus_any _ _ w) ?_ ?_ ?_ rfl rfl
  · intro hs w
    unfold addR at h
    rw [if_pos hs] at h
    exact made_any _ _ _ w (by omega) (by omega) (by omega) (by omega) n d er h
  · intro hs hl w
    unfold addR at h
    rw [if_neg hs, if_pos (by simpa using hl)] at h
    exact made_any _ _ _ w (by simp at hl; omega) (by omega) (by omega) (by omega) n d er h
  · intro hs hl w
    unfold addR at h
    rw [if_neg hs, if_neg (by simpa using hl)] at h
    exact made_any _ _ _ w (by simp at hl; omega) (by omega) (by omega) (by omega) n d er h

end Go.Proofs.Ytjggnmbdgagkoaa
