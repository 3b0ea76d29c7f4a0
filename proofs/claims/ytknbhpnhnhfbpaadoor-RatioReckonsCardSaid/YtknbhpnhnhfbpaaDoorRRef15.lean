/- The reference of layer 2: Sub and Cmp, walked. -/
import Derived.Test.YtknbhpnhnhfbpaaDoorRRef14
namespace Go.Proofs.YtknbhpnhnhfbpaaDoor
set_option linter.unusedVariables false
open Go.RowKit Go.Shelf

theorem two_args (w : World) (a0 a1 b0 b1 : Value) (t : Nat) (W : World) (hW : W = (w.alloc (Obj.cells #[a0, a1] t)).alloc (Obj.cells #[b0, b1] t)) : Blk W w.heap.size a0 a1 ∧ Blk W (w.heap.size + 1) b0 b1 ∧ Below w.heap.size w W := by
  subst hW
  refine ⟨(Blk.new _ _ _ _).alloc _, ?_, (by repeat' (first | (with_reducible exact Below.refl _ _) | (with_reducible assumption) | (with_reducible refine Below.alloc ?_ ?_ _) | (with_reducible refine below_drew ?_ _) | (with_reducible refine Below.drew ?_) | (with_reducible refine Below.setCell ?_ ?_ _) | go_size))⟩
  have h := Blk.new (w.alloc (Obj.cells #[a0, a1] t)) b0 b1 t
  simpa using h

structure Sub1R (w : World) (an ad bn bd n d er : Int) (Wc : World) (L : Nat → Bool) (v : Nat → Value) (g : Nat → Nat) (W : World) : Prop where
  st : L 6 = false → Below Wc.heap.size Wc W
  sr : Had L 6 (∃ W2, Below Wc.heap.size Wc W2 ∧ W = (W2.setCell ⟨w.heap.size + 1 + 1, 0, none⟩ (.int .i64 n)).setCell ⟨w.heap.size + 1 + 1, 1, none⟩ (.int .i64 d))
  ar : Had L 6 (∀ j ∈ [0, 1, 2, 3, 4, 5], L j = true)
  f0 : Had L 0 (v 6 = .agg #[.int .i64 an, .int .i64 ad])
  f1 : Had L 1 (v 7 = .agg #[.int .i64 bn, .int .i64 bd])
  f2 : Had L 2 (v 8 = .agg #[.int .i64 (-bn), .int .i64 bd])
  f3 : Had L 3 (v 9 = .tuple #[.agg #[.int .i64 n, .int .i64 d], .int .i64 er])
  f4 : Had L 4 (v 10 = .agg #[.int .i64 n, .int .i64 d])
  f5 : Had L 5 (v 11 = .int .i64 er)
  f7 : Had L 7 (v 5 = .int .i64 er)

set_option maxRecDepth 100000 in
set_option maxHeartbeats 8000000 in
theorem refSub_any (an ad bn bd : Int) (w : World) (va : Vld an ad) (vb : Vld bn bd) (n d er : Int) (h : subT an ad bn bd = (n, d, er)) :
    Calls Tryd.prog 15 #[.agg #[.int .i64 an, .int .i64 ad], .agg #[.int .i64 bn, .int .i64 bd]] w fun e w' => e = .returned (.tuple #[.agg #[.int .i64 n, .int .i64 d], .int .i64 er]) ∧ Below w.heap.size w w' := by
  rw [sub_add] at h
  have CN := fun w => Lib.hid (refNeg_any bn bd w vb.n1 vb.n2)
  have CA := fun w => Lib.hid (refAdd_any an ad (-bn) bd w va vb.neg n d er h)
  clear h va vb
  go_enter Tryd.func15, Tryd.ntmps15
  go_upto_region 1 with fail
  obtain ⟨W0, hW0⟩ : ∃ W0, W0 = ((w.alloc (Obj.cells #[Value.int IntKind.i64 an, Value.int IntKind.i64 ad] 23)).alloc (Obj.cells #[Value.int IntKind.i64 bn, Value.int IntKind.i64 bd] 23)).alloc (Obj.cells #[Value.int IntKind.i64 0, Value.int IntKind.i64 0] 23) := ⟨_, rfl⟩
  rw [← hW0]
  have S0 := Lib.hid (ArgSt.start w an ad bn bd W0 hW0)
  clear hW0
  have HA := Lib.hid S0.out.1
  have HB := Lib.hid S0.out.2.1
  have HR := Lib.hid S0.out.2.2.1
  have HF := Lib.hid S0.out.2.2.2.1
  have HW := Lib.hid S0.out.2.2.2.2
  clear S0
  refine wp_region_each (fun L A W => ∃ (v : Nat → Value) (g : Nat → Nat), A = ⟨#[.agg #[.int .i64 an, .int .i64 ad], .agg #[.int .i64 bn, .int .i64 bd], .pointer (some ⟨w.heap.size, 0, none⟩), .pointer (some ⟨w.heap.size + 1, 0, none⟩), .pointer (some ⟨w.heap.size + 1 + 1, 0, none⟩), v 5, v 6, v 7, v 8, v 9, v 10, v 11], []⟩ ∧ Sub1R w an ad bn bd n d er W0 L v g W) (by kernel_rfl) (by kernel_rfl) ⟨fun j => if j = 5 then .int .i64 0 else undef, fun _ => 0, rfl, ⟨(fun _ => Below.drew (Below.refl _ _)), Had.none, Had.none, Had.none, Had.none, Had.none, Had.none, Had.none, Had.none, Had.none⟩⟩ (rs := [0, 1, 2, 3, 4, 5, 6, 7]) (by kernel_rfl) ?_ ?_
  · refine EachOf.cons [] rfl (by kernel_rfl) ?_ ?_
    · rintro L A W ⟨v, g, rfl, hR⟩ hi hw K hK
      have hk : L 6 = false := hR.ar.not hi rfl
      obtain ⟨_, q0, q1⟩ := HA.out.on (hR.st hk)
      go_simp
      refine hK.out _ _ ?_
      exact ⟨(fun j => if j = 6 then .agg #[.int .i64 an, .int .i64 ad] else v j), g, rfl, ⟨(fun h => hR.st (upd_false h)), hR.sr.keep rfl, hR.ar.keepM rfl (fun h j hj => upd_on (h j hj)), (fun _ => rfl), hR.f1.keep rfl, hR.f2.keep rfl, hR.f3.keep rfl, hR.f4.keep rfl, hR.f5.keep rfl, hR.f7.keep rfl⟩⟩
    refine EachOf.cons [] rfl (by kernel_rfl) ?_ ?_
    · rintro L A W ⟨v, g, rfl, hR⟩ hi hw K hK
      have hk : L 6 = false := hR.ar.not hi rfl
      obtain ⟨_, q0, q1⟩ := HB.out.on (hR.st hk)
      go_simp
      refine hK.out _ _ ?_
      exact ⟨(fun j => if j = 7 then .agg #[.int .i64 bn, .int .i64 bd] else v j), g, rfl, ⟨(fun h => hR.st (upd_false h)), hR.sr.keep rfl, hR.ar.keepM rfl (fun h j hj => upd_on (h j hj)), hR.f0.keep rfl, (fun _ => rfl), hR.f2.keep rfl, hR.f3.keep rfl, hR.f4.keep rfl, hR.f5.keep rfl, hR.f7.keep rfl⟩⟩
    refine EachOf.cons [1] rfl (by kernel_rfl) ?_ ?_
    · rintro L A W ⟨v, g, rfl, hR⟩ hi hw K hK
      have hk : L 6 = false := hR.ar.not hi rfl
      have e1 := hR.f1 (hw 1 (by simp))
      simp only [e1]
      clear e1
      go_simp
      go_at_call 42
      (with_reducible refine ((CN _).out).mono ?_)
      rintro e w2 ⟨rfl, hb⟩
      go_simp
      refine hK.out _ _ ?_
      exact ⟨(fun j => if j = 7 then .agg #[.int .i64 bn, .int .i64 bd] else if j = 8 then .agg #[.int .i64 (-bn), .int .i64 bd] else v j), g, rfl, ⟨(fun _ => below_on (hR.st hk) hb), (fun h => absurd (upd_back h rfl) (by simp [hk])), hR.ar.keepM rfl (fun h j hj => upd_on (h j hj)), hR.f0.keep rfl, (fun _ => rfl), (fun _ => rfl), hR.f3.keep rfl, hR.f4.keep rfl, hR.f5.keep rfl, hR.f7.keep rfl⟩⟩
    refine EachOf.cons [0, 2] rfl (by kernel_rfl) ?_ ?_
    · rintro L A W ⟨v, g, rfl, hR⟩ hi hw K hK
      have hk : L 6 = false := hR.ar.not hi rfl
      have e0 := hR.f0 (hw 0 (by simp))
      have e2 := hR.f2 (hw 2 (by simp))
      simp only [e0, e2]
      clear e0 e2
      go_simp
      go_at_call 14
      (with_reducible refine ((CA _).out).mono ?_)
      rintro e w2 ⟨rfl, hb⟩
      go_simp
      refine hK.out _ _ ?_
      exact ⟨(fun j => if j = 6 then .agg #[.int .i64 an, .int .i64 ad] else if j = 8 then .agg #[.int .i64 (-bn), .int .i64 bd] else if j = 9 then .tuple #[.agg #[.int .i64 n, .int .i64 d], .int .i64 er] else v j), g, rfl, ⟨(fun _ => below_on (hR.st hk) hb), (fun h => absurd (upd_back h rfl) (by simp [hk])), hR.ar.keepM rfl (fun h j hj => upd_on (h j hj)), (fun _ => rfl), hR.f1.keep rfl, (fun _ => rfl), (fun _ => rfl), hR.f4.keep rfl, hR.f5.keep rfl, hR.f7.keep rfl⟩⟩
    refine EachOf.cons [3] rfl (by kernel_rfl) ?_ ?_
    · rintro L A W ⟨v, g, rfl, hR⟩ hi hw K hK
      have hk : L 6 = false := hR.ar.not hi rfl
      have e3 := hR.f3 (hw 3 (by simp))
      simp only [e3]
      clear e3
      go_simp
      refine hK.out _ _ ?_
      exact ⟨(fun j => if j = 9 then .tuple #[.agg #[.int .i64 n, .int .i64 d], .int .i64 er] else if j = 10 then .agg #[.int .i64 n, .int .i64 d] else v j), g, rfl, ⟨(fun h => hR.st (upd_false h)), hR.sr.keep rfl, hR.ar.keepM rfl (fun h j hj => upd_on (h j hj)), hR.f0.keep rfl, hR.f1.keep rfl, hR.f2.keep rfl, (fun _ => rfl), (fun _ => rfl), hR.f5.keep rfl, hR.f7.keep rfl⟩⟩
    refine EachOf.cons [3] rfl (by kernel_rfl) ?_ ?_
    · rintro L A W ⟨v, g, rfl, hR⟩ hi hw K hK
      have hk : L 6 = false := hR.ar.not hi rfl
      have e3 := hR.f3 (hw 3 (by simp))
      simp only [e3]
      clear e3
      go_simp
      refine hK.out _ _ ?_
      exact ⟨(fun j => if j = 9 then .tuple #[.agg #[.int .i64 n, .int .i64 d], .int .i64 er] else if j = 11 then .int .i64 er else v j), g, rfl, ⟨(fun h => hR.st (upd_false h)), hR.sr.keep rfl, hR.ar.keepM rfl (fun h j hj => upd_on (h j hj)), hR.f0.keep rfl, hR.f1.keep rfl, hR.f2.keep rfl, (fun _ => rfl), hR.f4.keep rfl, (fun _ => rfl), hR.f7.keep rfl⟩⟩
    refine EachOf.cons [0, 1, 2, 3, 4, 5] rfl (by kernel_rfl) ?_ ?_
    · rintro L A W ⟨v, g, rfl, hR⟩ hi hw K hK
      have e4 := hR.f4 (hw 4 (by simp))
      simp only [e4]
      clear e4
      obtain ⟨l5, p5, q5⟩ := HR.out.on (hR.st hi)
      obtain ⟨r5, s5⟩ := HF.out.on HR.out.1 (hR.st hi)
      go_simp
      refine hK.out _ _ ?_
      exact ⟨(fun j => if j = 10 then .agg #[.int .i64 n, .int .i64 d] else v j), g, rfl, ⟨(fun h => by simp [upd_self] at h), (fun _ => ⟨W, hR.st hi, rfl⟩), (fun _ j hj => upd_on (hw j hj)), hR.f0.keep rfl, hR.f1.keep rfl, hR.f2.keep rfl, hR.f3.keep rfl, (fun _ => rfl), hR.f5.keep rfl, hR.f7.keep rfl⟩⟩
    refine EachOf.cons [5] rfl (by kernel_rfl) ?_ ?_
    · rintro L A W ⟨v, g, rfl, hR⟩ hi hw K hK
      have e5 := hR.f5 (hw 5 (by simp))
      simp only [e5]
      clear e5
      go_simp
      refine hK.out _ _ ?_
      exact ⟨(fun j => if j = 11 then .int .i64 er else if j = 5 then .int .i64 er else v j), g, rfl, ⟨(fun h => hR.st (upd_false h)), hR.sr.keep rfl, hR.ar.keepM rfl (fun h j hj => upd_on (h j hj)), hR.f0.keep rfl, hR.f1.keep rfl, hR.f2.keep rfl, hR.f3.keep rfl, hR.f4.keep rfl, (fun _ => rfl), (fun _ => rfl)⟩⟩
    exact EachOf.nil
  rintro L A W1 ⟨v1, g1, rfl, hR⟩ hL
  have e7 := hR.f7 (hL 7 (by simp))
  obtain ⟨W1b, hb9, hw9⟩ := hR.sr (hL 6 (by simp))
  have hst := Lib.hid hb9
  clear hb9
  simp only [e7]
  clear e7
  clear hR hL
  replace HF := Lib.hid (HF.out.on HR.out.1 hst.out)
  replace HA := Lib.hid (HA.out.on hst.out)
  replace HB := Lib.hid (HB.out.on hst.out)
  replace HR := Lib.hid (HR.out.on hst.out)
  replace HW := Lib.hid (below_on HW.out hst.out)
  subst hw9
  have hB := ((HW.out.setCell (p := ⟨w.heap.size + 1 + 1, 0, none⟩) (by simp; omega) (.int .i64 n)).setCell (p := ⟨w.heap.size + 1 + 1, 1, none⟩) (by simp; omega) (.int .i64 d))
  obtain ⟨_, r8, r9⟩ := Blk.set (x := .int .i64 n) (y := .int .i64 d) HR.out
  go_wp2
  refine bodyPost_ret (by simp [results, Tryd.results15, go_sem, r8, r9]; try rfl) rfl ?_
  exact ⟨rfl, hB⟩

structure Cmp1R (w : World) (an ad bn bd a b a2 b2 X1 X2 Y1 Y2 : Int) (Wc : World) (L : Nat → Bool) (v : Nat → Value) (g : Nat → Nat) (W : World) : Prop where
  st : Below Wc.heap.size Wc W
  f0 : Had L 0 (v 7 = .pointer (some ⟨w.heap.size, 0, none⟩))
  f1 : Had L 1 (v 8 = .int .i64 an)
  f2 : Had L 2 (v 9 = .int .u64 a)
  f3 : Had L 3 (v 10 = .pointer (some ⟨w.heap.size + 1, 1, none⟩))
  f4 : Had L 4 (v 11 = .int .i64 bd)
  f5 : Had L 5 (v 12 = .int .u64 b)
  f6 : Had L 6 (v 13 = .agg #[.int .u64 X1, .int .u64 X2])
  f7 : Had L 7 (v 14 = .pointer (some ⟨w.heap.size + 1, 0, none⟩))
  f8 : Had L 8 (v 15 = .int .i64 bn)
  f9 : Had L 9 (v 16 = .int .u64 b2)
  f10 : Had L 10 (v 17 = .pointer (some ⟨w.heap.size, 1, none⟩))
  f11 : Had L 11 (v 18 = .int .i64 ad)
  f12 : Had L 12 (v 19 = .int .u64 a2)
  f13 : Had L 13 (v 20 = .agg #[.int .u64 Y1, .int .u64 Y2])
  f14 : Had L 14 (v 5 = .pointer (some ⟨g 14, 0, none⟩))
  f15 : Had L 15 (v 6 = .pointer (some ⟨g 15, 0, none⟩))
  b14 : Had L 14 (Own Wc.heap.size W (g 14))
  b15 : Had L 15 (Own Wc.heap.size W (g 15))
  n14_15 : Had2 L 14 15 (g 14 ≠ g 15)
  c16 : Had L 16 (L 14 = true ∧ Blk W (g 14) (.int .u64 X1) (.int .u64 X2))
  c17 : Had L 17 (L 15 = true ∧ Blk W (g 15) (.int .u64 Y1) (.int .u64 Y2))

structure Cmp8f0fR (w : World) (an ad bn bd a b a2 b2 X1 X2 Y1 Y2 : Int) (Wc : World) (L : Nat → Bool) (v : Nat → Value) (g : Nat → Nat) (W : World) : Prop where
  st : Below Wc.heap.size Wc W
  f0 : Had L 0 (v 40 = .agg #[.int .u64 X1, .int .u64 X2])
  f1 : Had L 1 (v 41 = .agg #[.int .u64 Y1, .int .u64 Y2])
  f2 : Had L 2 (v 42 = .bool false)
  f3 : Had L 3 (v 43 = .pointer (some ⟨w.heap.size, 0, none⟩))
  f4 : Had L 4 (v 44 = .int .i64 an)
  f5 : Had L 5 (v 45 = .bool true)
  f6 : Had L 6 (v 46 = .bool false)

structure Cmp8f0tR (w : World) (an ad bn bd a b a2 b2 X1 X2 Y1 Y2 : Int) (Wc : World) (L : Nat → Bool) (v : Nat → Value) (g : Nat → Nat) (W : World) : Prop where
  st : Below Wc.heap.size Wc W
  f0 : Had L 0 (v 40 = .agg #[.int .u64 X1, .int .u64 X2])
  f1 : Had L 1 (v 41 = .agg #[.int .u64 Y1, .int .u64 Y2])
  f2 : Had L 2 (v 42 = .bool true)
  f3 : Had L 3 (v 43 = .pointer (some ⟨w.heap.size, 0, none⟩))
  f4 : Had L 4 (v 44 = .int .i64 an)
  f5 : Had L 5 (v 45 = .bool true)
  f6 : Had L 6 (v 46 = .bool true)

structure Cmp8f1fR (w : World) (an ad bn bd a b a2 b2 X1 X2 Y1 Y2 : Int) (Wc : World) (L : Nat → Bool) (v : Nat → Value) (g : Nat → Nat) (W : World) : Prop where
  st : Below Wc.heap.size Wc W
  f0 : Had L 0 (v 40 = .agg #[.int .u64 X1, .int .u64 X2])
  f1 : Had L 1 (v 41 = .agg #[.int .u64 Y1, .int .u64 Y2])
  f2 : Had L 2 (v 42 = .bool false)
  f3 : Had L 3 (v 43 = .pointer (some ⟨w.heap.size, 0, none⟩))
  f4 : Had L 4 (v 44 = .int .i64 an)
  f5 : Had L 5 (v 45 = .bool true)
  f6 : Had L 6 (v 46 = .bool false)

structure Cmp8f1tR (w : World) (an ad bn bd a b a2 b2 X1 X2 Y1 Y2 : Int) (Wc : World) (L : Nat → Bool) (v : Nat → Value) (g : Nat → Nat) (W : World) : Prop where
  st : Below Wc.heap.size Wc W
  f0 : Had L 0 (v 40 = .agg #[.int .u64 X1, .int .u64 X2])
  f1 : Had L 1 (v 41 = .agg #[.int .u64 Y1, .int .u64 Y2])
  f2 : Had L 2 (v 42 = .bool true)
  f3 : Had L 3 (v 43 = .pointer (some ⟨w.heap.size, 0, none⟩))
  f4 : Had L 4 (v 44 = .int .i64 an)
  f5 : Had L 5 (v 45 = .bool true)
  f6 : Had L 6 (v 46 = .bool true)

structure Cmp8t0fR (w : World) (an ad bn bd a b a2 b2 X1 X2 Y1 Y2 : Int) (Wc : World) (L : Nat → Bool) (v : Nat → Value) (g : Nat → Nat) (W : World) : Prop where
  st : Below Wc.heap.size Wc W
  f0 : Had L 0 (v 40 = .agg #[.int .u64 X1, .int .u64 X2])
  f1 : Had L 1 (v 41 = .agg #[.int .u64 Y1, .int .u64 Y2])
  f2 : Had L 2 (v 42 = .bool false)
  f3 : Had L 3 (v 43 = .pointer (some ⟨w.heap.size, 0, none⟩))
  f4 : Had L 4 (v 44 = .int .i64 an)
  f5 : Had L 5 (v 45 = .bool false)
  f6 : Had L 6 (v 46 = .bool true)

structure Cmp8t0tR (w : World) (an ad bn bd a b a2 b2 X1 X2 Y1 Y2 : Int) (Wc : World) (L : Nat → Bool) (v : Nat → Value) (g : Nat → Nat) (W : World) : Prop where
  st : Below Wc.heap.size Wc W
  f0 : Had L 0 (v 40 = .agg #[.int .u64 X1, .int .u64 X2])
  f1 : Had L 1 (v 41 = .agg #[.int .u64 Y1, .int .u64 Y2])
  f2 : Had L 2 (v 42 = .bool true)
  f3 : Had L 3 (v 43 = .pointer (some ⟨w.heap.size, 0, none⟩))
  f4 : Had L 4 (v 44 = .int .i64 an)
  f5 : Had L 5 (v 45 = .bool false)
  f6 : Had L 6 (v 46 = .bool false)

structure Cmp8t1fR (w : World) (an ad bn bd a b a2 b2 X1 X2 Y1 Y2 : Int) (Wc : World) (L : Nat → Bool) (v : Nat → Value) (g : Nat → Nat) (W : World) : Prop where
  st : Below Wc.heap.size Wc W
  f0 : Had L 0 (v 40 = .agg #[.int .u64 X1, .int .u64 X2])
  f1 : Had L 1 (v 41 = .agg #[.int .u64 Y1, .int .u64 Y2])
  f2 : Had L 2 (v 42 = .bool false)
  f3 : Had L 3 (v 43 = .pointer (some ⟨w.heap.size, 0, none⟩))
  f4 : Had L 4 (v 44 = .int .i64 an)
  f5 : Had L 5 (v 45 = .bool false)
  f6 : Had L 6 (v 46 = .bool true)

structure Cmp8t1tR (w : World) (an ad bn bd a b a2 b2 X1 X2 Y1 Y2 : Int) (Wc : World) (L : Nat → Bool) (v : Nat → Value) (g : Nat → Nat) (W : World) : Prop where
  st : Below Wc.heap.size Wc W
  f0 : Had L 0 (v 40 = .agg #[.int .u64 X1, .int .u64 X2])
  f1 : Had L 1 (v 41 = .agg #[.int .u64 Y1, .int .u64 Y2])
  f2 : Had L 2 (v 42 = .bool true)
  f3 : Had L 3 (v 43 = .pointer (some ⟨w.heap.size, 0, none⟩))
  f4 : Had L 4 (v 44 = .int .i64 an)
  f5 : Had L 5 (v 45 = .bool false)
  f6 : Had L 6 (v 46 = .bool false)

def cmpV (sa sb eq less : Bool) : Int := if sa && !sb then -1 else if !sa && sb then 1 else if eq then 0 else if less == !sa then -1 else 1

set_option maxRecDepth 100000 in
set_option maxHeartbeats 16000000 in
theorem refCmp_walk (w : World) (an ad bn bd a b a2 b2 X1 X2 Y1 Y2 k : Int) (sa sb eq less : Bool)
    (C1 : ∀ w, Hid (Calls Tryd.prog 36 #[.int .i64 an] w fun e w' => e = .returned (.int .u64 a) ∧ w = w'))
    (C2 : ∀ w, Hid (Calls Tryd.prog 36 #[.int .i64 bn] w fun e w' => e = .returned (.int .u64 b2) ∧ w = w'))
    (C3 : ∀ w, Hid (Calls Tryd.prog 36 #[.int .i64 ad] w fun e w' => e = .returned (.int .u64 a2) ∧ w = w'))
    (C4 : ∀ w, Hid (Calls Tryd.prog 36 #[.int .i64 bd] w fun e w' => e = .returned (.int .u64 b) ∧ w = w'))
    (CM1 : ∀ w, Hid (Calls Tryd.prog 37 #[.int .u64 a, .int .u64 b] w fun e w' => e = .returned (.agg #[.int .u64 X1, .int .u64 X2]) ∧ Below w.heap.size w w'))
    (CM2 : ∀ w, Hid (Calls Tryd.prog 37 #[.int .u64 b2, .int .u64 a2] w fun e w' => e = .returned (.agg #[.int .u64 Y1, .int .u64 Y2]) ∧ Below w.heap.size w w'))
    (CL : ∀ w, Hid (Calls Tryd.prog 40 #[.agg #[.int .u64 X1, .int .u64 X2], .agg #[.int .u64 Y1, .int .u64 Y2]] w fun e w' => e = .returned (.bool less) ∧ Below w.heap.size w w'))
    (d1 : decide (an < 0) = sa) (d2 : decide (bn < 0) = sb) (d3 : decide (0 ≤ an) = !sa) (d4 : decide (0 ≤ bn) = !sb)
    (E1 : Hid (eq = true → X1 = Y1 ∧ X2 = Y2)) (E0 : Hid (eq = false → ¬ X1 = Y1 ∨ X1 = Y1 ∧ ¬ X2 = Y2)) (hk : Hid (k = cmpV sa sb eq less)) :
    Calls Tryd.prog 18 #[.agg #[.int .i64 an, .int .i64 ad], .agg #[.int .i64 bn, .int .i64 bd]] w fun e w' => e = .returned (.int .i64 k) ∧ Below w.heap.size w w' := by
  go_enter Tryd.func18, Tryd.ntmps18
  go_upto_region 1 with fail
  obtain ⟨W0, hW0⟩ : ∃ W0, W0 = (w.alloc (Obj.cells #[Value.int IntKind.i64 an, Value.int IntKind.i64 ad] 23)).alloc (Obj.cells #[Value.int IntKind.i64 bn, Value.int IntKind.i64 bd] 23) := ⟨_, rfl⟩
  rw [← hW0]
  obtain ⟨s1, s2, s3⟩ := two_args w _ _ _ _ _ W0 hW0
  have HA := Lib.hid s1
  have HB := Lib.hid s2
  have HW := Lib.hid s3
  clear hW0 s1 s2 s3
  refine wp_region_each (fun L A W => ∃ (v : Nat → Value) (g : Nat → Nat), A = ⟨#[.agg #[.int .i64 an, .int .i64 ad], .agg #[.int .i64 bn, .int .i64 bd], .pointer (some ⟨w.heap.size, 0, none⟩), .pointer (some ⟨w.heap.size + 1, 0, none⟩), .int .i64 0, v 5, v 6, v 7, v 8, v 9, v 10, v 11, v 12, v 13, v 14, v 15, v 16, v 17, v 18, v 19, v 20, undef, undef, undef, undef, undef, undef, undef, undef, undef, undef, undef, undef, undef, undef, undef, undef, undef, undef, undef, undef, undef, undef, undef, undef, undef, undef], []⟩ ∧ Cmp1R w an ad bn bd a b a2 b2 X1 X2 Y1 Y2 W0 L v g W) (by kernel_rfl) (by kernel_rfl) ⟨fun _ => undef, fun _ => 0, rfl, ⟨Below.drew (Below.refl _ _), Had.none, Had.none, Had.none, Had.none, Had.none, Had.none, Had.none, Had.none, Had.none, Had.none, Had.none, Had.none, Had.none, Had.none, Had.none, Had.none, Had.none, Had.none, (fun h => by cases h), Had.none, Had.none⟩⟩ (rs := [0, 1, 2, 3, 4, 5, 6, 7, 8, 9, 10, 11, 12, 13, 14, 15, 16, 17]) (by kernel_rfl) ?_ ?_
  · refine EachOf.cons [] rfl (by kernel_rfl) ?_ ?_
    · rintro L A W ⟨v, g, rfl, hR⟩ hi hw K hK
      go_simp
      refine hK.out _ _ ?_
      exact ⟨(fun j => if j = 7 then .pointer (some ⟨w.heap.size, 0, none⟩) else v j), g, rfl, ⟨hR.st, (fun _ => rfl), hR.f1.keep rfl, hR.f2.keep rfl, hR.f3.keep rfl, hR.f4.keep rfl, hR.f5.keep rfl, hR.f6.keep rfl, hR.f7.keep rfl, hR.f8.keep rfl, hR.f9.keep rfl, hR.f10.keep rfl, hR.f11.keep rfl, hR.f12.keep rfl, hR.f13.keep rfl, hR.f14.keep rfl, hR.f15.keep rfl, hR.b14.keep rfl, hR.b15.keep rfl, hR.n14_15.keep rfl rfl, hR.c16.keepM rfl (fun h => ⟨upd_on h.1, h.2⟩), hR.c17.keepM rfl (fun h => ⟨upd_on h.1, h.2⟩)⟩⟩
    refine EachOf.cons [0] rfl (by kernel_rfl) ?_ ?_
    · rintro L A W ⟨v, g, rfl, hR⟩ hi hw K hK
      have e0 := hR.f0 (hw 0 (by simp))
      simp only [e0]
      clear e0
      obtain ⟨_, q0, q1⟩ := HA.out.on hR.st
      go_simp
      refine hK.out _ _ ?_
      exact ⟨(fun j => if j = 7 then .pointer (some ⟨w.heap.size, 0, none⟩) else if j = 8 then .int .i64 an else v j), g, rfl, ⟨hR.st, (fun _ => rfl), (fun _ => rfl), hR.f2.keep rfl, hR.f3.keep rfl, hR.f4.keep rfl, hR.f5.keep rfl, hR.f6.keep rfl, hR.f7.keep rfl, hR.f8.keep rfl, hR.f9.keep rfl, hR.f10.keep rfl, hR.f11.keep rfl, hR.f12.keep rfl, hR.f13.keep rfl, hR.f14.keep rfl, hR.f15.keep rfl, hR.b14.keep rfl, hR.b15.keep rfl, hR.n14_15.keep rfl rfl, hR.c16.keepM rfl (fun h => ⟨upd_on h.1, h.2⟩), hR.c17.keepM rfl (fun h => ⟨upd_on h.1, h.2⟩)⟩⟩
    refine EachOf.cons [1] rfl (by kernel_rfl) ?_ ?_
    · rintro L A W ⟨v, g, rfl, hR⟩ hi hw K hK
      have e1 := hR.f1 (hw 1 (by simp))
      simp only [e1]
      clear e1
      go_simp
      go_at_call 36
      (with_reducible refine ((C1 _).out).mono ?_)
      rintro e w2 ⟨rfl, rfl⟩
      go_simp
      refine hK.out _ _ ?_
      exact ⟨(fun j => if j = 8 then .int .i64 an else if j = 9 then .int .u64 a else v j), g, rfl, ⟨hR.st, hR.f0.keep rfl, (fun _ => rfl), (fun _ => rfl), hR.f3.keep rfl, hR.f4.keep rfl, hR.f5.keep rfl, hR.f6.keep rfl, hR.f7.keep rfl, hR.f8.keep rfl, hR.f9.keep rfl, hR.f10.keep rfl, hR.f11.keep rfl, hR.f12.keep rfl, hR.f13.keep rfl, hR.f14.keep rfl, hR.f15.keep rfl, hR.b14.keep rfl, hR.b15.keep rfl, hR.n14_15.keep rfl rfl, hR.c16.keepM rfl (fun h => ⟨upd_on h.1, h.2⟩), hR.c17.keepM rfl (fun h => ⟨upd_on h.1, h.2⟩)⟩⟩
    refine EachOf.cons [] rfl (by kernel_rfl) ?_ ?_
    · rintro L A W ⟨v, g, rfl, hR⟩ hi hw K hK
      go_simp
      refine hK.out _ _ ?_
      exact ⟨(fun j => if j = 10 then .pointer (some ⟨w.heap.size + 1, 1, none⟩) else v j), g, rfl, ⟨hR.st, hR.f0.keep rfl, hR.f1.keep rfl, hR.f2.keep rfl, (fun _ => rfl), hR.f4.keep rfl, hR.f5.keep rfl, hR.f6.keep rfl, hR.f7.keep rfl, hR.f8.keep rfl, hR.f9.keep rfl, hR.f10.keep rfl, hR.f11.keep rfl, hR.f12.keep rfl, hR.f13.keep rfl, hR.f14.keep rfl, hR.f15.keep rfl, hR.b14.keep rfl, hR.b15.keep rfl, hR.n14_15.keep rfl rfl, hR.c16.keepM rfl (fun h => ⟨upd_on h.1, h.2⟩), hR.c17.keepM rfl (fun h => ⟨upd_on h.1, h.2⟩)⟩⟩
    refine EachOf.cons [3] rfl (by kernel_rfl) ?_ ?_
    · rintro L A W ⟨v, g, rfl, hR⟩ hi hw K hK
      have e3 := hR.f3 (hw 3 (by simp))
      simp only [e3]
      clear e3
      obtain ⟨_, q0, q1⟩ := HB.out.on hR.st
      go_simp
      refine hK.out _ _ ?_
      exact ⟨(fun j => if j = 10 then .pointer (some ⟨w.heap.size + 1, 1, none⟩) else if j = 11 then .int .i64 bd else v j), g, rfl, ⟨hR.st, hR.f0.keep rfl, hR.f1.keep rfl, hR.f2.keep rfl, (fun _ => rfl), (fun _ => rfl), hR.f5.keep rfl, hR.f6.keep rfl, hR.f7.keep rfl, hR.f8.keep rfl, hR.f9.keep rfl, hR.f10.keep rfl, hR.f11.keep rfl, hR.f12.keep rfl, hR.f13.keep rfl, hR.f14.keep rfl, hR.f15.keep rfl, hR.b14.keep rfl, hR.b15.keep rfl, hR.n14_15.keep rfl rfl, hR.c16.keepM rfl (fun h => ⟨upd_on h.1, h.2⟩), hR.c17.keepM rfl (fun h => ⟨upd_on h.1, h.2⟩)⟩⟩
    refine EachOf.cons [4] rfl (by kernel_rfl) ?_ ?_
    · rintro L A W ⟨v, g, rfl, hR⟩ hi hw K hK
      have e4 := hR.f4 (hw 4 (by simp))
      simp only [e4]
      clear e4
      go_simp
      go_at_call 36
      (with_reducible refine ((C4 _).out).mono ?_)
      rintro e w2 ⟨rfl, rfl⟩
      go_simp
      refine hK.out _ _ ?_
      exact ⟨(fun j => if j = 11 then .int .i64 bd else if j = 12 then .int .u64 b else v j), g, rfl, ⟨hR.st, hR.f0.keep rfl, hR.f1.keep rfl, hR.f2.keep rfl, hR.f3.keep rfl, (fun _ => rfl), (fun _ => rfl), hR.f6.keep rfl, hR.f7.keep rfl, hR.f8.keep rfl, hR.f9.keep rfl, hR.f10.keep rfl, hR.f11.keep rfl, hR.f12.keep rfl, hR.f13.keep rfl, hR.f14.keep rfl, hR.f15.keep rfl, hR.b14.keep rfl, hR.b15.keep rfl, hR.n14_15.keep rfl rfl, hR.c16.keepM rfl (fun h => ⟨upd_on h.1, h.2⟩), hR.c17.keepM rfl (fun h => ⟨upd_on h.1, h.2⟩)⟩⟩
    refine EachOf.cons [2, 5] rfl (by kernel_rfl) ?_ ?_
    · rintro L A W ⟨v, g, rfl, hR⟩ hi hw K hK
      have e2 := hR.f2 (hw 2 (by simp))
      have e5 := hR.f5 (hw 5 (by simp))
      simp only [e2, e5]
      clear e2 e5
      go_simp
      go_at_call 37
      (with_reducible refine ((CM1 _).out).mono ?_)
      rintro e w2 ⟨rfl, hb⟩
      go_simp
      refine hK.out _ _ ?_
      exact ⟨(fun j => if j = 9 then .int .u64 a else if j = 12 then .int .u64 b else if j = 13 then .agg #[.int .u64 X1, .int .u64 X2] else v j), g, rfl, ⟨below_on hR.st hb, hR.f0.keep rfl, hR.f1.keep rfl, (fun _ => rfl), hR.f3.keep rfl, hR.f4.keep rfl, (fun _ => rfl), (fun _ => rfl), hR.f7.keep rfl, hR.f8.keep rfl, hR.f9.keep rfl, hR.f10.keep rfl, hR.f11.keep rfl, hR.f12.keep rfl, hR.f13.keep rfl, hR.f14.keep rfl, hR.f15.keep rfl, hR.b14.keepM rfl (fun h => h.on hb), hR.b15.keepM rfl (fun h => h.on hb), hR.n14_15.keep rfl rfl, hR.c16.keepM rfl (fun h => ⟨upd_on h.1, h.2.on hb⟩), hR.c17.keepM rfl (fun h => ⟨upd_on h.1, h.2.on hb⟩)⟩⟩
    refine EachOf.cons [] rfl (by kernel_rfl) ?_ ?_
    · rintro L A W ⟨v, g, rfl, hR⟩ hi hw K hK
      go_simp
      refine hK.out _ _ ?_
      exact ⟨(fun j => if j = 14 then .pointer (some ⟨w.heap.size + 1, 0, none⟩) else v j), g, rfl, ⟨hR.st, hR.f0.keep rfl, hR.f1.keep rfl, hR.f2.keep rfl, hR.f3.keep rfl, hR.f4.keep rfl, hR.f5.keep rfl, hR.f6.keep rfl, (fun _ => rfl), hR.f8.keep rfl, hR.f9.keep rfl, hR.f10.keep rfl, hR.f11.keep rfl, hR.f12.keep rfl, hR.f13.keep rfl, hR.f14.keep rfl, hR.f15.keep rfl, hR.b14.keep rfl, hR.b15.keep rfl, hR.n14_15.keep rfl rfl, hR.c16.keepM rfl (fun h => ⟨upd_on h.1, h.2⟩), hR.c17.keepM rfl (fun h => ⟨upd_on h.1, h.2⟩)⟩⟩
    refine EachOf.cons [7] rfl (by kernel_rfl) ?_ ?_
    · rintro L A W ⟨v, g, rfl, hR⟩ hi hw K hK
      have e7 := hR.f7 (hw 7 (by simp))
      simp only [e7]
      clear e7
      obtain ⟨_, q0, q1⟩ := HB.out.on hR.st
      go_simp
      refine hK.out _ _ ?_
      exact ⟨(fun j => if j = 14 then .pointer (some ⟨w.heap.size + 1, 0, none⟩) else if j = 15 then .int .i64 bn else v j), g, rfl, ⟨hR.st, hR.f0.keep rfl, hR.f1.keep rfl, hR.f2.keep rfl, hR.f3.keep rfl, hR.f4.keep rfl, hR.f5.keep rfl, hR.f6.keep rfl, (fun _ => rfl), (fun _ => rfl), hR.f9.keep rfl, hR.f10.keep rfl, hR.f11.keep rfl, hR.f12.keep rfl, hR.f13.keep rfl, hR.f14.keep rfl, hR.f15.keep rfl, hR.b14.keep rfl, hR.b15.keep rfl, hR.n14_15.keep rfl rfl, hR.c16.keepM rfl (fun h => ⟨upd_on h.1, h.2⟩), hR.c17.keepM rfl (fun h => ⟨upd_on h.1, h.2⟩)⟩⟩
    refine EachOf.cons [8] rfl (by kernel_rfl) ?_ ?_
    · rintro L A W ⟨v, g, rfl, hR⟩ hi hw K hK
      have e8 := hR.f8 (hw 8 (by simp))
      simp only [e8]
      clear e8
      go_simp
      go_at_call 36
      (with_reducible refine ((C2 _).out).mono ?_)
      rintro e w2 ⟨rfl, rfl⟩
      go_simp
      refine hK.out _ _ ?_
      exact ⟨(fun j => if j = 15 then .int .i64 bn else if j = 16 then .int .u64 b2 else v j), g, rfl, ⟨hR.st, hR.f0.keep rfl, hR.f1.keep rfl, hR.f2.keep rfl, hR.f3.keep rfl, hR.f4.keep rfl, hR.f5.keep rfl, hR.f6.keep rfl, hR.f7.keep rfl, (fun _ => rfl), (fun _ => rfl), hR.f10.keep rfl, hR.f11.keep rfl, hR.f12.keep rfl, hR.f13.keep rfl, hR.f14.keep rfl, hR.f15.keep rfl, hR.b14.keep rfl, hR.b15.keep rfl, hR.n14_15.keep rfl rfl, hR.c16.keepM rfl (fun h => ⟨upd_on h.1, h.2⟩), hR.c17.keepM rfl (fun h => ⟨upd_on h.1, h.2⟩)⟩⟩
    refine EachOf.cons [] rfl (by kernel_rfl) ?_ ?_
    · rintro L A W ⟨v, g, rfl, hR⟩ hi hw K hK
      go_simp
      refine hK.out _ _ ?_
      exact ⟨(fun j => if j = 17 then .pointer (some ⟨w.heap.size, 1, none⟩) else v j), g, rfl, ⟨hR.st, hR.f0.keep rfl, hR.f1.keep rfl, hR.f2.keep rfl, hR.f3.keep rfl, hR.f4.keep rfl, hR.f5.keep rfl, hR.f6.keep rfl, hR.f7.keep rfl, hR.f8.keep rfl, hR.f9.keep rfl, (fun _ => rfl), hR.f11.keep rfl, hR.f12.keep rfl, hR.f13.keep rfl, hR.f14.keep rfl, hR.f15.keep rfl, hR.b14.keep rfl, hR.b15.keep rfl, hR.n14_15.keep rfl rfl, hR.c16.keepM rfl (fun h => ⟨upd_on h.1, h.2⟩), hR.c17.keepM rfl (fun h => ⟨upd_on h.1, h.2⟩)⟩⟩
    refine EachOf.cons [10] rfl (by kernel_rfl) ?_ ?_
    · rintro L A W ⟨v, g, rfl, hR⟩ hi hw K hK
      have e10 := hR.f10 (hw 10 (by simp))
      simp only [e10]
      clear e10
      obtain ⟨_, q0, q1⟩ := HA.out.on hR.st
      go_simp
      refine hK.out _ _ ?_
      exact ⟨(fun j => if j = 17 then .pointer (some ⟨w.heap.size, 1, none⟩) else if j = 18 then .int .i64 ad else v j), g, rfl, ⟨hR.st, hR.f0.keep rfl, hR.f1.keep rfl, hR.f2.keep rfl, hR.f3.keep rfl, hR.f4.keep rfl, hR.f5.keep rfl, hR.f6.keep rfl, hR.f7.keep rfl, hR.f8.keep rfl, hR.f9.keep rfl, (fun _ => rfl), (fun _ => rfl), hR.f12.keep rfl, hR.f13.keep rfl, hR.f14.keep rfl, hR.f15.keep rfl, hR.b14.keep rfl, hR.b15.keep rfl, hR.n14_15.keep rfl rfl, hR.c16.keepM rfl (fun h => ⟨upd_on h.1, h.2⟩), hR.c17.keepM rfl (fun h => ⟨upd_on h.1, h.2⟩)⟩⟩
    refine EachOf.cons [11] rfl (by kernel_rfl) ?_ ?_
    · rintro L A W ⟨v, g, rfl, hR⟩ hi hw K hK
      have e11 := hR.f11 (hw 11 (by simp))
      simp only [e11]
      clear e11
      go_simp
      go_at_call 36
      (with_reducible refine ((C3 _).out).mono ?_)
      rintro e w2 ⟨rfl, rfl⟩
      go_simp
      refine hK.out _ _ ?_
      exact ⟨(fun j => if j = 18 then .int .i64 ad else if j = 19 then .int .u64 a2 else v j), g, rfl, ⟨hR.st, hR.f0.keep rfl, hR.f1.keep rfl, hR.f2.keep rfl, hR.f3.keep rfl, hR.f4.keep rfl, hR.f5.keep rfl, hR.f6.keep rfl, hR.f7.keep rfl, hR.f8.keep rfl, hR.f9.keep rfl, hR.f10.keep rfl, (fun _ => rfl), (fun _ => rfl), hR.f13.keep rfl, hR.f14.keep rfl, hR.f15.keep rfl, hR.b14.keep rfl, hR.b15.keep rfl, hR.n14_15.keep rfl rfl, hR.c16.keepM rfl (fun h => ⟨upd_on h.1, h.2⟩), hR.c17.keepM rfl (fun h => ⟨upd_on h.1, h.2⟩)⟩⟩
    refine EachOf.cons [9, 12] rfl (by kernel_rfl) ?_ ?_
    · rintro L A W ⟨v, g, rfl, hR⟩ hi hw K hK
      have e9 := hR.f9 (hw 9 (by simp))
      have e12 := hR.f12 (hw 12 (by simp))
      simp only [e9, e12]
      clear e9 e12
      go_simp
      go_at_call 37
      (with_reducible refine ((CM2 _).out).mono ?_)
      rintro e w2 ⟨rfl, hb⟩
      go_simp
      refine hK.out _ _ ?_
      exact ⟨(fun j => if j = 16 then .int .u64 b2 else if j = 19 then .int .u64 a2 else if j = 20 then .agg #[.int .u64 Y1, .int .u64 Y2] else v j), g, rfl, ⟨below_on hR.st hb, hR.f0.keep rfl, hR.f1.keep rfl, hR.f2.keep rfl, hR.f3.keep rfl, hR.f4.keep rfl, hR.f5.keep rfl, hR.f6.keep rfl, hR.f7.keep rfl, hR.f8.keep rfl, (fun _ => rfl), hR.f10.keep rfl, hR.f11.keep rfl, (fun _ => rfl), (fun _ => rfl), hR.f14.keep rfl, hR.f15.keep rfl, hR.b14.keepM rfl (fun h => h.on hb), hR.b15.keepM rfl (fun h => h.on hb), hR.n14_15.keep rfl rfl, hR.c16.keepM rfl (fun h => ⟨upd_on h.1, h.2.on hb⟩), hR.c17.keepM rfl (fun h => ⟨upd_on h.1, h.2.on hb⟩)⟩⟩
    refine EachOf.cons [] rfl (by kernel_rfl) ?_ ?_
    · rintro L A W ⟨v, g, rfl, hR⟩ hi hw K hK
      have hz := hR.st.size
      go_simp
      refine hK.out _ _ ?_
      have hb : Below W.heap.size W (W.alloc (Obj.cells #[Value.int IntKind.u64 0, Value.int IntKind.u64 0] 58)) := (Below.refl _ _).alloc (Nat.le_refl _) _
      exact ⟨(fun j => if j = 5 then .pointer (some ⟨W.heap.size, 0, none⟩) else v j), (fun j => if j = 14 then W.heap.size else g j), rfl, ⟨below_on hR.st hb, hR.f0.keep rfl, hR.f1.keep rfl, hR.f2.keep rfl, hR.f3.keep rfl, hR.f4.keep rfl, hR.f5.keep rfl, hR.f6.keep rfl, hR.f7.keep rfl, hR.f8.keep rfl, hR.f9.keep rfl, hR.f10.keep rfl, hR.f11.keep rfl, hR.f12.keep rfl, hR.f13.keep rfl, (fun _ => rfl), hR.f15.keep rfl, (fun _ => Own.new _ _ _ _ hz), hR.b15.keepM rfl (fun h => h.on hb), (fun _ h => by have h1 := (hR.b15 (upd_back h rfl)).lt; exact Nat.ne_of_gt h1), (fun h => absurd ((hR.c16 (upd_back h rfl)).1) (by simp [hi])), hR.c17.keepM rfl (fun h => ⟨upd_on h.1, h.2.on hb⟩)⟩⟩
    refine EachOf.cons [] rfl (by kernel_rfl) ?_ ?_
    · rintro L A W ⟨v, g, rfl, hR⟩ hi hw K hK
      have hz := hR.st.size
      go_simp
      refine hK.out _ _ ?_
      have hb : Below W.heap.size W (W.alloc (Obj.cells #[Value.int IntKind.u64 0, Value.int IntKind.u64 0] 58)) := (Below.refl _ _).alloc (Nat.le_refl _) _
      exact ⟨(fun j => if j = 6 then .pointer (some ⟨W.heap.size, 0, none⟩) else v j), (fun j => if j = 15 then W.heap.size else g j), rfl, ⟨below_on hR.st hb, hR.f0.keep rfl, hR.f1.keep rfl, hR.f2.keep rfl, hR.f3.keep rfl, hR.f4.keep rfl, hR.f5.keep rfl, hR.f6.keep rfl, hR.f7.keep rfl, hR.f8.keep rfl, hR.f9.keep rfl, hR.f10.keep rfl, hR.f11.keep rfl, hR.f12.keep rfl, hR.f13.keep rfl, hR.f14.keep rfl, (fun _ => rfl), hR.b14.keepM rfl (fun h => h.on hb), (fun _ => Own.new _ _ _ _ hz), (fun h _ => by have h1 := (hR.b14 (upd_back h rfl)).lt; exact Nat.ne_of_lt h1), hR.c16.keepM rfl (fun h => ⟨upd_on h.1, h.2.on hb⟩), (fun h => absurd ((hR.c17 (upd_back h rfl)).1) (by simp [hi]))⟩⟩
    refine EachOf.cons [14, 6] rfl (by kernel_rfl) ?_ ?_
    · rintro L A W ⟨v, g, rfl, hR⟩ hi hw K hK
      have e14 := hR.f14 (hw 14 (by simp))
      have e6 := hR.f6 (hw 6 (by simp))
      simp only [e14, e6]
      clear e14 e6
      have o2 := hR.b14 (hw 14 (by simp))
      have o1 := o2.1
      have HO := Lib.hid o2
      clear o2
      obtain ⟨_, ⟨u5, v5, l5, p5, q5⟩, r5, s5⟩ := HO.out
      go_simp
      have o2 := HO.out
      refine hK.out _ _ ?_
      exact ⟨(fun j => if j = 5 then .pointer (some ⟨g 14, 0, none⟩) else if j = 13 then .agg #[.int .u64 X1, .int .u64 X2] else v j), g, rfl, ⟨(hR.st.setCell (by simpa using o1) _).setCell (by simpa using o1) _, hR.f0.keep rfl, hR.f1.keep rfl, hR.f2.keep rfl, hR.f3.keep rfl, hR.f4.keep rfl, hR.f5.keep rfl, (fun _ => rfl), hR.f7.keep rfl, hR.f8.keep rfl, hR.f9.keep rfl, hR.f10.keep rfl, hR.f11.keep rfl, hR.f12.keep rfl, hR.f13.keep rfl, (fun _ => rfl), hR.f15.keep rfl, hR.b14.keepM rfl (fun h => h.set), hR.b15.keepM rfl (fun h => h.set), hR.n14_15.keep rfl rfl, (fun _ => ⟨upd_on (hw 14 (by simp)), o2.setw⟩), hR.c17.keepM rfl (fun h => ⟨upd_on h.1, h.2.far (hR.n14_15 (hw 14 (by simp)) h.1)⟩)⟩⟩
    refine EachOf.cons [15, 13] rfl (by kernel_rfl) ?_ ?_
    · rintro L A W ⟨v, g, rfl, hR⟩ hi hw K hK
      have e15 := hR.f15 (hw 15 (by simp))
      have e13 := hR.f13 (hw 13 (by simp))
      simp only [e15, e13]
      clear e15 e13
      have o2 := hR.b15 (hw 15 (by simp))
      have o1 := o2.1
      have HO := Lib.hid o2
      clear o2
      obtain ⟨_, ⟨u5, v5, l5, p5, q5⟩, r5, s5⟩ := HO.out
      go_simp
      have o2 := HO.out
      refine hK.out _ _ ?_
      exact ⟨(fun j => if j = 6 then .pointer (some ⟨g 15, 0, none⟩) else if j = 20 then .agg #[.int .u64 Y1, .int .u64 Y2] else v j), g, rfl, ⟨(hR.st.setCell (by simpa using o1) _).setCell (by simpa using o1) _, hR.f0.keep rfl, hR.f1.keep rfl, hR.f2.keep rfl, hR.f3.keep rfl, hR.f4.keep rfl, hR.f5.keep rfl, hR.f6.keep rfl, hR.f7.keep rfl, hR.f8.keep rfl, hR.f9.keep rfl, hR.f10.keep rfl, hR.f11.keep rfl, hR.f12.keep rfl, (fun _ => rfl), hR.f14.keep rfl, (fun _ => rfl), hR.b14.keepM rfl (fun h => h.set), hR.b15.keepM rfl (fun h => h.set), hR.n14_15.keep rfl rfl, hR.c16.keepM rfl (fun h => ⟨upd_on h.1, h.2.far (fun e => hR.n14_15 h.1 (hw 15 (by simp)) e.symm)⟩), (fun _ => ⟨upd_on (hw 15 (by simp)), o2.setw⟩)⟩⟩
    exact EachOf.nil
  rintro L A W1 ⟨v1, g1, rfl, hR⟩ hL
  have e14 := hR.f14 (hL 14 (by simp))
  have e15 := hR.f15 (hL 15 (by simp))
  have hst := Lib.hid hR.st
  simp only [e14, e15]
  clear e14 e15
  have HX := Lib.hid (hR.c16 (hL 16 (by simp))).2
  have HXF := Lib.hid (hR.b14 (hL 14 (by simp))).2.2
  have HXN := Lib.hid (hR.b14 (hL 14 (by simp))).1
  have HY := Lib.hid (hR.c17 (hL 17 (by simp))).2
  have HYF := Lib.hid (hR.b15 (hL 15 (by simp))).2.2
  have HYN := Lib.hid (hR.b15 (hL 15 (by simp))).1
  clear hR hL
  generalize g1 14 = gx at *
  generalize g1 15 = gy at *
  replace HA := Lib.hid (HA.out.on hst.out)
  replace HB := Lib.hid (HB.out.on hst.out)
  replace HW := Lib.hid (below_on HW.out hst.out)
  obtain ⟨_, HAp, HAq⟩ := HA.out
  obtain ⟨_, HBp, HBq⟩ := HB.out
  obtain ⟨_, HXp, HXq⟩ := HX.out
  obtain ⟨_, HYp, HYq⟩ := HY.out
  cases sa
  · cases sb
    · cases eq
      · have hne := E0.out rfl
        rcases hne with q1 | ⟨rfl, q2⟩
        · cases less
          · go_wp2_with fail
            clear HAp HAq HBp HBq HXp HXq HYp HYq
            refine wp_region_each (fun L A W => ∃ (v : Nat → Value) (g : Nat → Nat), A = ⟨#[.agg #[.int .i64 an, .int .i64 ad], .agg #[.int .i64 bn, .int .i64 bd], .pointer (some ⟨w.heap.size, 0, none⟩), .pointer (some ⟨w.heap.size + 1, 0, none⟩), .int .i64 0, .pointer (some ⟨gx, 0, none⟩), .pointer (some ⟨gy, 0, none⟩), v1 7, v1 8, v1 9, v1 10, v1 11, v1 12, v1 13, v1 14, v1 15, v1 16, v1 17, v1 18, v1 19, v1 20, .pointer (some ⟨w.heap.size, 0, none⟩), .int .i64 an, .bool false, .bool false, undef, undef, undef, .bool false, .pointer (some ⟨w.heap.size, 0, none⟩), .int .i64 an, .bool true, .bool true, .pointer (some ⟨w.heap.size + 1, 0, none⟩), .int .i64 bn, .bool false, .bool false, .agg #[.int .u64 X1, .int .u64 X2], .agg #[.int .u64 Y1, .int .u64 Y2], .bool false, v 40, v 41, v 42, v 43, v 44, v 45, v 46], []⟩ ∧ Cmp8f0fR w an ad bn bd a b a2 b2 X1 X2 Y1 Y2 W1 L v g W) (by kernel_rfl) (by kernel_rfl) ⟨fun _ => undef, fun _ => 0, rfl, ⟨Below.drew (Below.refl _ _), Had.none, Had.none, Had.none, Had.none, Had.none, Had.none, Had.none⟩⟩ (rs := [0, 1, 2, 3, 4, 5, 6]) (by kernel_rfl) ?_ ?_
            · refine EachOf.cons [] rfl (by kernel_rfl) ?_ ?_
              · rintro L A W ⟨v, g, rfl, hR⟩ hi hw K hK
                obtain ⟨_, q0, q1⟩ := HX.out.on hR.st
                go_simp
                refine hK.out _ _ ?_
                exact ⟨(fun j => if j = 40 then .agg #[.int .u64 X1, .int .u64 X2] else v j), g, rfl, ⟨hR.st, (fun _ => rfl), hR.f1.keep rfl, hR.f2.keep rfl, hR.f3.keep rfl, hR.f4.keep rfl, hR.f5.keep rfl, hR.f6.keep rfl⟩⟩
              refine EachOf.cons [] rfl (by kernel_rfl) ?_ ?_
              · rintro L A W ⟨v, g, rfl, hR⟩ hi hw K hK
                obtain ⟨_, q0, q1⟩ := HY.out.on hR.st
                go_simp
                refine hK.out _ _ ?_
                exact ⟨(fun j => if j = 41 then .agg #[.int .u64 Y1, .int .u64 Y2] else v j), g, rfl, ⟨hR.st, hR.f0.keep rfl, (fun _ => rfl), hR.f2.keep rfl, hR.f3.keep rfl, hR.f4.keep rfl, hR.f5.keep rfl, hR.f6.keep rfl⟩⟩
              refine EachOf.cons [0, 1] rfl (by kernel_rfl) ?_ ?_
              · rintro L A W ⟨v, g, rfl, hR⟩ hi hw K hK
                have e0 := hR.f0 (hw 0 (by simp))
                have e1 := hR.f1 (hw 1 (by simp))
                simp only [e0, e1]
                clear e0 e1
                go_simp
                go_at_call 40
                (with_reducible refine ((CL _).out).mono ?_)
                rintro e w2 ⟨rfl, hb⟩
                go_simp
                refine hK.out _ _ ?_
                exact ⟨(fun j => if j = 40 then .agg #[.int .u64 X1, .int .u64 X2] else if j = 41 then .agg #[.int .u64 Y1, .int .u64 Y2] else if j = 42 then .bool false else v j), g, rfl, ⟨below_on hR.st hb, (fun _ => rfl), (fun _ => rfl), (fun _ => rfl), hR.f3.keep rfl, hR.f4.keep rfl, hR.f5.keep rfl, hR.f6.keep rfl⟩⟩
              refine EachOf.cons [] rfl (by kernel_rfl) ?_ ?_
              · rintro L A W ⟨v, g, rfl, hR⟩ hi hw K hK
                go_simp
                refine hK.out _ _ ?_
                exact ⟨(fun j => if j = 43 then .pointer (some ⟨w.heap.size, 0, none⟩) else v j), g, rfl, ⟨hR.st, hR.f0.keep rfl, hR.f1.keep rfl, hR.f2.keep rfl, (fun _ => rfl), hR.f4.keep rfl, hR.f5.keep rfl, hR.f6.keep rfl⟩⟩
              refine EachOf.cons [3] rfl (by kernel_rfl) ?_ ?_
              · rintro L A W ⟨v, g, rfl, hR⟩ hi hw K hK
                have e3 := hR.f3 (hw 3 (by simp))
                simp only [e3]
                clear e3
                obtain ⟨_, q0, q1⟩ := HA.out.on hR.st
                go_simp
                refine hK.out _ _ ?_
                exact ⟨(fun j => if j = 43 then .pointer (some ⟨w.heap.size, 0, none⟩) else if j = 44 then .int .i64 an else v j), g, rfl, ⟨hR.st, hR.f0.keep rfl, hR.f1.keep rfl, hR.f2.keep rfl, (fun _ => rfl), (fun _ => rfl), hR.f5.keep rfl, hR.f6.keep rfl⟩⟩
              refine EachOf.cons [4] rfl (by kernel_rfl) ?_ ?_
              · rintro L A W ⟨v, g, rfl, hR⟩ hi hw K hK
                have e4 := hR.f4 (hw 4 (by simp))
                simp only [e4]
                clear e4
                go_simp
                refine hK.out _ _ ?_
                exact ⟨(fun j => if j = 44 then .int .i64 an else if j = 45 then .bool true else v j), g, rfl, ⟨hR.st, hR.f0.keep rfl, hR.f1.keep rfl, hR.f2.keep rfl, hR.f3.keep rfl, (fun _ => rfl), (fun _ => rfl), hR.f6.keep rfl⟩⟩
              refine EachOf.cons [2, 5] rfl (by kernel_rfl) ?_ ?_
              · rintro L A W ⟨v, g, rfl, hR⟩ hi hw K hK
                have e2 := hR.f2 (hw 2 (by simp))
                have e5 := hR.f5 (hw 5 (by simp))
                simp only [e2, e5]
                clear e2 e5
                go_simp
                refine hK.out _ _ ?_
                exact ⟨(fun j => if j = 42 then .bool false else if j = 45 then .bool true else if j = 46 then .bool false else v j), g, rfl, ⟨hR.st, hR.f0.keep rfl, hR.f1.keep rfl, (fun _ => rfl), hR.f3.keep rfl, hR.f4.keep rfl, (fun _ => rfl), (fun _ => rfl)⟩⟩
              exact EachOf.nil
            rintro L A W2f0f ⟨v2f0f, g2f0f, rfl, hR⟩ hL
            have e6 := hR.f6 (hL 6 (by simp))
            have hst := Lib.hid hR.st
            simp only [e6]
            clear e6
            clear hR hL
            replace HXF := Lib.hid (HXF.out.on HX.out.1 hst.out)
            replace HYF := Lib.hid (HYF.out.on HY.out.1 hst.out)
            replace HA := Lib.hid (HA.out.on hst.out)
            replace HB := Lib.hid (HB.out.on hst.out)
            replace HX := Lib.hid (HX.out.on hst.out)
            replace HY := Lib.hid (HY.out.on hst.out)
            replace HW := Lib.hid (below_on HW.out hst.out)
            go_wp2_with fail
            go_ret
            exact ⟨by rw [hk.out]; rfl, HW.out⟩
          · go_wp2_with fail
            clear HAp HAq HBp HBq HXp HXq HYp HYq
            refine wp_region_each (fun L A W => ∃ (v : Nat → Value) (g : Nat → Nat), A = ⟨#[.agg #[.int .i64 an, .int .i64 ad], .agg #[.int .i64 bn, .int .i64 bd], .pointer (some ⟨w.heap.size, 0, none⟩), .pointer (some ⟨w.heap.size + 1, 0, none⟩), .int .i64 0, .pointer (some ⟨gx, 0, none⟩), .pointer (some ⟨gy, 0, none⟩), v1 7, v1 8, v1 9, v1 10, v1 11, v1 12, v1 13, v1 14, v1 15, v1 16, v1 17, v1 18, v1 19, v1 20, .pointer (some ⟨w.heap.size, 0, none⟩), .int .i64 an, .bool false, .bool false, undef, undef, undef, .bool false, .pointer (some ⟨w.heap.size, 0, none⟩), .int .i64 an, .bool true, .bool true, .pointer (some ⟨w.heap.size + 1, 0, none⟩), .int .i64 bn, .bool false, .bool false, .agg #[.int .u64 X1, .int .u64 X2], .agg #[.int .u64 Y1, .int .u64 Y2], .bool false, v 40, v 41, v 42, v 43, v 44, v 45, v 46], []⟩ ∧ Cmp8f0tR w an ad bn bd a b a2 b2 X1 X2 Y1 Y2 W1 L v g W) (by kernel_rfl) (by kernel_rfl) ⟨fun _ => undef, fun _ => 0, rfl, ⟨Below.drew (Below.refl _ _), Had.none, Had.none, Had.none, Had.none, Had.none, Had.none, Had.none⟩⟩ (rs := [0, 1, 2, 3, 4, 5, 6]) (by kernel_rfl) ?_ ?_
            · refine EachOf.cons [] rfl (by kernel_rfl) ?_ ?_
              · rintro L A W ⟨v, g, rfl, hR⟩ hi hw K hK
                obtain ⟨_, q0, q1⟩ := HX.out.on hR.st
                go_simp
                refine hK.out _ _ ?_
                exact ⟨(fun j => if j = 40 then .agg #[.int .u64 X1, .int .u64 X2] else v j), g, rfl, ⟨hR.st, (fun _ => rfl), hR.f1.keep rfl, hR.f2.keep rfl, hR.f3.keep rfl, hR.f4.keep rfl, hR.f5.keep rfl, hR.f6.keep rfl⟩⟩
              refine EachOf.cons [] rfl (by kernel_rfl) ?_ ?_
              · rintro L A W ⟨v, g, rfl, hR⟩ hi hw K hK
                obtain ⟨_, q0, q1⟩ := HY.out.on hR.st
                go_simp
                refine hK.out _ _ ?_
                exact ⟨(fun j => if j = 41 then .agg #[.int .u64 Y1, .int .u64 Y2] else v j), g, rfl, ⟨hR.st, hR.f0.keep rfl, (fun _ => rfl), hR.f2.keep rfl, hR.f3.keep rfl, hR.f4.keep rfl, hR.f5.keep rfl, hR.f6.keep rfl⟩⟩
              refine EachOf.cons [0, 1] rfl (by kernel_rfl) ?_ ?_
              · rintro L A W ⟨v, g, rfl, hR⟩ hi hw K hK
                have e0 := hR.f0 (hw 0 (by simp))
                have e1 := hR.f1 (hw 1 (by simp))
                simp only [e0, e1]
                clear e0 e1
                go_simp
                go_at_call 40
                (with_reducible refine ((CL _).out).mono ?_)
                rintro e w2 ⟨rfl, hb⟩
                go_simp
                refine hK.out _ _ ?_
                exact ⟨(fun j => if j = 40 then .agg #[.int .u64 X1, .int .u64 X2] else if j = 41 then .agg #[.int .u64 Y1, .int .u64 Y2] else if j = 42 then .bool true else v j), g, rfl, ⟨below_on hR.st hb, (fun _ => rfl), (fun _ => rfl), (fun _ => rfl), hR.f3.keep rfl, hR.f4.keep rfl, hR.f5.keep rfl, hR.f6.keep rfl⟩⟩
              refine EachOf.cons [] rfl (by kernel_rfl) ?_ ?_
              · rintro L A W ⟨v, g, rfl, hR⟩ hi hw K hK
                go_simp
                refine hK.out _ _ ?_
                exact ⟨(fun j => if j = 43 then .pointer (some ⟨w.heap.size, 0, none⟩) else v j), g, rfl, ⟨hR.st, hR.f0.keep rfl, hR.f1.keep rfl, hR.f2.keep rfl, (fun _ => rfl), hR.f4.keep rfl, hR.f5.keep rfl, hR.f6.keep rfl⟩⟩
              refine EachOf.cons [3] rfl (by kernel_rfl) ?_ ?_
              · rintro L A W ⟨v, g, rfl, hR⟩ hi hw K hK
                have e3 := hR.f3 (hw 3 (by simp))
                simp only [e3]
                clear e3
                obtain ⟨_, q0, q1⟩ := HA.out.on hR.st
                go_simp
                refine hK.out _ _ ?_
                exact ⟨(fun j => if j = 43 then .pointer (some ⟨w.heap.size, 0, none⟩) else if j = 44 then .int .i64 an else v j), g, rfl, ⟨hR.st, hR.f0.keep rfl, hR.f1.keep rfl, hR.f2.keep rfl, (fun _ => rfl), (fun _ => rfl), hR.f5.keep rfl, hR.f6.keep rfl⟩⟩
              refine EachOf.cons [4] rfl (by kernel_rfl) ?_ ?_
              · rintro L A W ⟨v, g, rfl, hR⟩ hi hw K hK
                have e4 := hR.f4 (hw 4 (by simp))
                simp only [e4]
                clear e4
                go_simp
                refine hK.out _ _ ?_
                exact ⟨(fun j => if j = 44 then .int .i64 an else if j = 45 then .bool true else v j), g, rfl, ⟨hR.st, hR.f0.keep rfl, hR.f1.keep rfl, hR.f2.keep rfl, hR.f3.keep rfl, (fun _ => rfl), (fun _ => rfl), hR.f6.keep rfl⟩⟩
              refine EachOf.cons [2, 5] rfl (by kernel_rfl) ?_ ?_
              · rintro L A W ⟨v, g, rfl, hR⟩ hi hw K hK
                have e2 := hR.f2 (hw 2 (by simp))
                have e5 := hR.f5 (hw 5 (by simp))
                simp only [e2, e5]
                clear e2 e5
                go_simp
                refine hK.out _ _ ?_
                exact ⟨(fun j => if j = 42 then .bool true else if j = 45 then .bool true else if j = 46 then .bool true else v j), g, rfl, ⟨hR.st, hR.f0.keep rfl, hR.f1.keep rfl, (fun _ => rfl), hR.f3.keep rfl, hR.f4.keep rfl, (fun _ => rfl), (fun _ => rfl)⟩⟩
              exact EachOf.nil
            rintro L A W2f0t ⟨v2f0t, g2f0t, rfl, hR⟩ hL
            have e6 := hR.f6 (hL 6 (by simp))
            have hst := Lib.hid hR.st
            simp only [e6]
            clear e6
            clear hR hL
            replace HXF := Lib.hid (HXF.out.on HX.out.1 hst.out)
            replace HYF := Lib.hid (HYF.out.on HY.out.1 hst.out)
            replace HA := Lib.hid (HA.out.on hst.out)
            replace HB := Lib.hid (HB.out.on hst.out)
            replace HX := Lib.hid (HX.out.on hst.out)
            replace HY := Lib.hid (HY.out.on hst.out)
            replace HW := Lib.hid (below_on HW.out hst.out)
            go_wp2_with fail
            go_ret
            exact ⟨by rw [hk.out]; rfl, HW.out⟩
        · cases less
          · go_wp2_with fail
            clear HAp HAq HBp HBq HXp HXq HYp HYq
            refine wp_region_each (fun L A W => ∃ (v : Nat → Value) (g : Nat → Nat), A = ⟨#[.agg #[.int .i64 an, .int .i64 ad], .agg #[.int .i64 bn, .int .i64 bd], .pointer (some ⟨w.heap.size, 0, none⟩), .pointer (some ⟨w.heap.size + 1, 0, none⟩), .int .i64 0, .pointer (some ⟨gx, 0, none⟩), .pointer (some ⟨gy, 0, none⟩), v1 7, v1 8, v1 9, v1 10, v1 11, v1 12, v1 13, v1 14, v1 15, v1 16, v1 17, v1 18, v1 19, v1 20, .pointer (some ⟨w.heap.size, 0, none⟩), .int .i64 an, .bool false, .bool false, undef, undef, undef, .bool false, .pointer (some ⟨w.heap.size, 0, none⟩), .int .i64 an, .bool true, .bool true, .pointer (some ⟨w.heap.size + 1, 0, none⟩), .int .i64 bn, .bool false, .bool false, .agg #[.int .u64 X1, .int .u64 X2], .agg #[.int .u64 X1, .int .u64 Y2], .bool false, v 40, v 41, v 42, v 43, v 44, v 45, v 46], []⟩ ∧ Cmp8f1fR w an ad bn bd a b a2 b2 X1 X2 X1 Y2 W1 L v g W) (by kernel_rfl) (by kernel_rfl) ⟨fun _ => undef, fun _ => 0, rfl, ⟨Below.drew (Below.refl _ _), Had.none, Had.none, Had.none, Had.none, Had.none, Had.none, Had.none⟩⟩ (rs := [0, 1, 2, 3, 4, 5, 6]) (by kernel_rfl) ?_ ?_
            · refine EachOf.cons [] rfl (by kernel_rfl) ?_ ?_
              · rintro L A W ⟨v, g, rfl, hR⟩ hi hw K hK
                obtain ⟨_, q0, q1⟩ := HX.out.on hR.st
                go_simp
                refine hK.out _ _ ?_
                exact ⟨(fun j => if j = 40 then .agg #[.int .u64 X1, .int .u64 X2] else v j), g, rfl, ⟨hR.st, (fun _ => rfl), hR.f1.keep rfl, hR.f2.keep rfl, hR.f3.keep rfl, hR.f4.keep rfl, hR.f5.keep rfl, hR.f6.keep rfl⟩⟩
              refine EachOf.cons [] rfl (by kernel_rfl) ?_ ?_
              · rintro L A W ⟨v, g, rfl, hR⟩ hi hw K hK
                obtain ⟨_, q0, q1⟩ := HY.out.on hR.st
                go_simp
                refine hK.out _ _ ?_
                exact ⟨(fun j => if j = 41 then .agg #[.int .u64 X1, .int .u64 Y2] else v j), g, rfl, ⟨hR.st, hR.f0.keep rfl, (fun _ => rfl), hR.f2.keep rfl, hR.f3.keep rfl, hR.f4.keep rfl, hR.f5.keep rfl, hR.f6.keep rfl⟩⟩
              refine EachOf.cons [0, 1] rfl (by kernel_rfl) ?_ ?_
              · rintro L A W ⟨v, g, rfl, hR⟩ hi hw K hK
                have e0 := hR.f0 (hw 0 (by simp))
                have e1 := hR.f1 (hw 1 (by simp))
                simp only [e0, e1]
                clear e0 e1
                go_simp
                go_at_call 40
                (with_reducible refine ((CL _).out).mono ?_)
                rintro e w2 ⟨rfl, hb⟩
                go_simp
                refine hK.out _ _ ?_
                exact ⟨(fun j => if j = 40 then .agg #[.int .u64 X1, .int .u64 X2] else if j = 41 then .agg #[.int .u64 X1, .int .u64 Y2] else if j = 42 then .bool false else v j), g, rfl, ⟨below_on hR.st hb, (fun _ => rfl), (fun _ => rfl), (fun _ => rfl), hR.f3.keep rfl, hR.f4.keep rfl, hR.f5.keep rfl, hR.f6.keep rfl⟩⟩
              refine EachOf.cons [] rfl (by kernel_rfl) ?_ ?_
              · rintro L A W ⟨v, g, rfl, hR⟩ hi hw K hK
                go_simp
                refine hK.out _ _ ?_
                exact ⟨(fun j => if j = 43 then .pointer (some ⟨w.heap.size, 0, none⟩) else v j), g, rfl, ⟨hR.st, hR.f0.keep rfl, hR.f1.keep rfl, hR.f2.keep rfl, (fun _ => rfl), hR.f4.keep rfl, hR.f5.keep rfl, hR.f6.keep rfl⟩⟩
              refine EachOf.cons [3] rfl (by kernel_rfl) ?_ ?_
              · rintro L A W ⟨v, g, rfl, hR⟩ hi hw K hK
                have e3 := hR.f3 (hw 3 (by simp))
                simp only [e3]
                clear e3
                obtain ⟨_, q0, q1⟩ := HA.out.on hR.st
                go_simp
                refine hK.out _ _ ?_
                exact ⟨(fun j => if j = 43 then .pointer (some ⟨w.heap.size, 0, none⟩) else if j = 44 then .int .i64 an else v j), g, rfl, ⟨hR.st, hR.f0.keep rfl, hR.f1.keep rfl, hR.f2.keep rfl, (fun _ => rfl), (fun _ => rfl), hR.f5.keep rfl, hR.f6.keep rfl⟩⟩
              refine EachOf.cons [4] rfl (by kernel_rfl) ?_ ?_
              · rintro L A W ⟨v, g, rfl, hR⟩ hi hw K hK
                have e4 := hR.f4 (hw 4 (by simp))
                simp only [e4]
                clear e4
                go_simp
                refine hK.out _ _ ?_
                exact ⟨(fun j => if j = 44 then .int .i64 an else if j = 45 then .bool true else v j), g, rfl, ⟨hR.st, hR.f0.keep rfl, hR.f1.keep rfl, hR.f2.keep rfl, hR.f3.keep rfl, (fun _ => rfl), (fun _ => rfl), hR.f6.keep rfl⟩⟩
              refine EachOf.cons [2, 5] rfl (by kernel_rfl) ?_ ?_
              · rintro L A W ⟨v, g, rfl, hR⟩ hi hw K hK
                have e2 := hR.f2 (hw 2 (by simp))
                have e5 := hR.f5 (hw 5 (by simp))
                simp only [e2, e5]
                clear e2 e5
                go_simp
                refine hK.out _ _ ?_
                exact ⟨(fun j => if j = 42 then .bool false else if j = 45 then .bool true else if j = 46 then .bool false else v j), g, rfl, ⟨hR.st, hR.f0.keep rfl, hR.f1.keep rfl, (fun _ => rfl), hR.f3.keep rfl, hR.f4.keep rfl, (fun _ => rfl), (fun _ => rfl)⟩⟩
              exact EachOf.nil
            rintro L A W2f1f ⟨v2f1f, g2f1f, rfl, hR⟩ hL
            have e6 := hR.f6 (hL 6 (by simp))
            have hst := Lib.hid hR.st
            simp only [e6]
            clear e6
            clear hR hL
            replace HXF := Lib.hid (HXF.out.on HX.out.1 hst.out)
            replace HYF := Lib.hid (HYF.out.on HY.out.1 hst.out)
            replace HA := Lib.hid (HA.out.on hst.out)
            replace HB := Lib.hid (HB.out.on hst.out)
            replace HX := Lib.hid (HX.out.on hst.out)
            replace HY := Lib.hid (HY.out.on hst.out)
            replace HW := Lib.hid (below_on HW.out hst.out)
            go_wp2_with fail
            go_ret
            exact ⟨by rw [hk.out]; rfl, HW.out⟩
          · go_wp2_with fail
            clear HAp HAq HBp HBq HXp HXq HYp HYq
            refine wp_region_each (fun L A W => ∃ (v : Nat → Value) (g : Nat → Nat), A = ⟨#[.agg #[.int .i64 an, .int .i64 ad], .agg #[.int .i64 bn, .int .i64 bd], .pointer (some ⟨w.heap.size, 0, none⟩), .pointer (some ⟨w.heap.size + 1, 0, none⟩), .int .i64 0, .pointer (some ⟨gx, 0, none⟩), .pointer (some ⟨gy, 0, none⟩), v1 7, v1 8, v1 9, v1 10, v1 11, v1 12, v1 13, v1 14, v1 15, v1 16, v1 17, v1 18, v1 19, v1 20, .pointer (some ⟨w.heap.size, 0, none⟩), .int .i64 an, .bool false, .bool false, undef, undef, undef, .bool false, .pointer (some ⟨w.heap.size, 0, none⟩), .int .i64 an, .bool true, .bool true, .pointer (some ⟨w.heap.size + 1, 0, none⟩), .int .i64 bn, .bool false, .bool false, .agg #[.int .u64 X1, .int .u64 X2], .agg #[.int .u64 X1, .int .u64 Y2], .bool false, v 40, v 41, v 42, v 43, v 44, v 45, v 46], []⟩ ∧ Cmp8f1tR w an ad bn bd a b a2 b2 X1 X2 X1 Y2 W1 L v g W) (by kernel_rfl) (by kernel_rfl) ⟨fun _ => undef, fun _ => 0, rfl, ⟨Below.drew (Below.refl _ _), Had.none, Had.none, Had.none, Had.none, Had.none, Had.none, Had.none⟩⟩ (rs := [0, 1, 2, 3, 4, 5, 6]) (by kernel_rfl) ?_ ?_
            · refine EachOf.cons [] rfl (by kernel_rfl) ?_ ?_
              · rintro L A W ⟨v, g, rfl, hR⟩ hi hw K hK
                obtain ⟨_, q0, q1⟩ := HX.out.on hR.st
                go_simp
                refine hK.out _ _ ?_
                exact ⟨(fun j => if j = 40 then .agg #[.int .u64 X1, .int .u64 X2] else v j), g, rfl, ⟨hR.st, (fun _ => rfl), hR.f1.keep rfl, hR.f2.keep rfl, hR.f3.keep rfl, hR.f4.keep rfl, hR.f5.keep rfl, hR.f6.keep rfl⟩⟩
              refine EachOf.cons [] rfl (by kernel_rfl) ?_ ?_
              · rintro L A W ⟨v, g, rfl, hR⟩ hi hw K hK
                obtain ⟨_, q0, q1⟩ := HY.out.on hR.st
                go_simp
                refine hK.out _ _ ?_
                exact ⟨(fun j => if j = 41 then .agg #[.int .u64 X1, .int .u64 Y2] else v j), g, rfl, ⟨hR.st, hR.f0.keep rfl, (fun _ => rfl), hR.f2.keep rfl, hR.f3.keep rfl, hR.f4.keep rfl, hR.f5.keep rfl, hR.f6.keep rfl⟩⟩
              refine EachOf.cons [0, 1] rfl (by kernel_rfl) ?_ ?_
              · rintro L A W ⟨v, g, rfl, hR⟩ hi hw K hK
                have e0 := hR.f0 (hw 0 (by simp))
                have e1 := hR.f1 (hw 1 (by simp))
                simp only [e0, e1]
                clear e0 e1
                go_simp
                go_at_call 40
                (with_reducible refine ((CL _).out).mono ?_)
                rintro e w2 ⟨rfl, hb⟩
                go_simp
                refine hK.out _ _ ?_
                exact ⟨(fun j => if j = 40 then .agg #[.int .u64 X1, .int .u64 X2] else if j = 41 then .agg #[.int .u64 X1, .int .u64 Y2] else if j = 42 then .bool true else v j), g, rfl, ⟨below_on hR.st hb, (fun _ => rfl), (fun _ => rfl), (fun _ => rfl), hR.f3.keep rfl, hR.f4.keep rfl, hR.f5.keep rfl, hR.f6.keep rfl⟩⟩
              refine EachOf.cons [] rfl (by kernel_rfl) ?_ ?_
              · rintro L A W ⟨v, g, rfl, hR⟩ hi hw K hK
                go_simp
                refine hK.out _ _ ?_
                exact ⟨(fun j => if j = 43 then .pointer (some ⟨w.heap.size, 0, none⟩) else v j), g, rfl, ⟨hR.st, hR.f0.keep rfl, hR.f1.keep rfl, hR.f2.keep rfl, (fun _ => rfl), hR.f4.keep rfl, hR.f5.keep rfl, hR.f6.keep rfl⟩⟩
              refine EachOf.cons [3] rfl (by kernel_rfl) ?_ ?_
              · rintro L A W ⟨v, g, rfl, hR⟩ hi hw K hK
                have e3 := hR.f3 (hw 3 (by simp))
                simp only [e3]
                clear e3
                obtain ⟨_, q0, q1⟩ := HA.out.on hR.st
                go_simp
                refine hK.out _ _ ?_
                exact ⟨(fun j => if j = 43 then .pointer (some ⟨w.heap.size, 0, none⟩) else if j = 44 then .int .i64 an else v j), g, rfl, ⟨hR.st, hR.f0.keep rfl, hR.f1.keep rfl, hR.f2.keep rfl, (fun _ => rfl), (fun _ => rfl), hR.f5.keep rfl, hR.f6.keep rfl⟩⟩
              refine EachOf.cons [4] rfl (by kernel_rfl) ?_ ?_
              · rintro L A W ⟨v, g, rfl, hR⟩ hi hw K hK
                have e4 := hR.f4 (hw 4 (by simp))
                simp only [e4]
                clear e4
                go_simp
                refine hK.out _ _ ?_
                exact ⟨(fun j => if j = 44 then .int .i64 an else if j = 45 then .bool true else v j), g, rfl, ⟨hR.st, hR.f0.keep rfl, hR.f1.keep rfl, hR.f2.keep rfl, hR.f3.keep rfl, (fun _ => rfl), (fun _ => rfl), hR.f6.keep rfl⟩⟩
              refine EachOf.cons [2, 5] rfl (by kernel_rfl) ?_ ?_
              · rintro L A W ⟨v, g, rfl, hR⟩ hi hw K hK
                have e2 := hR.f2 (hw 2 (by simp))
                have e5 := hR.f5 (hw 5 (by simp))
                simp only [e2, e5]
                clear e2 e5
                go_simp
                refine hK.out _ _ ?_
                exact ⟨(fun j => if j = 42 then .bool true else if j = 45 then .bool true else if j = 46 then .bool true else v j), g, rfl, ⟨hR.st, hR.f0.keep rfl, hR.f1.keep rfl, (fun _ => rfl), hR.f3.keep rfl, hR.f4.keep rfl, (fun _ => rfl), (fun _ => rfl)⟩⟩
              exact EachOf.nil
            rintro L A W2f1t ⟨v2f1t, g2f1t, rfl, hR⟩ hL
            have e6 := hR.f6 (hL 6 (by simp))
            have hst := Lib.hid hR.st
            simp only [e6]
            clear e6
            clear hR hL
            replace HXF := Lib.hid (HXF.out.on HX.out.1 hst.out)
            replace HYF := Lib.hid (HYF.out.on HY.out.1 hst.out)
            replace HA := Lib.hid (HA.out.on hst.out)
            replace HB := Lib.hid (HB.out.on hst.out)
            replace HX := Lib.hid (HX.out.on hst.out)
            replace HY := Lib.hid (HY.out.on hst.out)
            replace HW := Lib.hid (below_on HW.out hst.out)
            go_wp2_with fail
            go_ret
            exact ⟨by rw [hk.out]; rfl, HW.out⟩
      · obtain ⟨rfl, rfl⟩ := E1.out rfl
        go_wp2_with fail
        go_ret
        exact ⟨by rw [hk.out]; rfl, HW.out⟩
    · go_wp2_with fail
      go_ret
      exact ⟨by rw [hk.out]; rfl, HW.out⟩
  · cases sb
    · go_wp2_with fail
      go_ret
      exact ⟨by rw [hk.out]; rfl, HW.out⟩
    · cases eq
      · have hne := E0.out rfl
        rcases hne with q1 | ⟨rfl, q2⟩
        · cases less
          · go_wp2_with fail
            clear HAp HAq HBp HBq HXp HXq HYp HYq
            refine wp_region_each (fun L A W => ∃ (v : Nat → Value) (g : Nat → Nat), A = ⟨#[.agg #[.int .i64 an, .int .i64 ad], .agg #[.int .i64 bn, .int .i64 bd], .pointer (some ⟨w.heap.size, 0, none⟩), .pointer (some ⟨w.heap.size + 1, 0, none⟩), .int .i64 0, .pointer (some ⟨gx, 0, none⟩), .pointer (some ⟨gy, 0, none⟩), v1 7, v1 8, v1 9, v1 10, v1 11, v1 12, v1 13, v1 14, v1 15, v1 16, v1 17, v1 18, v1 19, v1 20, .pointer (some ⟨w.heap.size, 0, none⟩), .int .i64 an, .bool true, .bool true, .pointer (some ⟨w.heap.size + 1, 0, none⟩), .int .i64 bn, .bool false, .bool false, .pointer (some ⟨w.heap.size, 0, none⟩), .int .i64 an, .bool false, .bool false, undef, undef, undef, .bool false, .agg #[.int .u64 X1, .int .u64 X2], .agg #[.int .u64 Y1, .int .u64 Y2], .bool false, v 40, v 41, v 42, v 43, v 44, v 45, v 46], []⟩ ∧ Cmp8t0fR w an ad bn bd a b a2 b2 X1 X2 Y1 Y2 W1 L v g W) (by kernel_rfl) (by kernel_rfl) ⟨fun _ => undef, fun _ => 0, rfl, ⟨Below.drew (Below.refl _ _), Had.none, Had.none, Had.none, Had.none, Had.none, Had.none, Had.none⟩⟩ (rs := [0, 1, 2, 3, 4, 5, 6]) (by kernel_rfl) ?_ ?_
            · refine EachOf.cons [] rfl (by kernel_rfl) ?_ ?_
              · rintro L A W ⟨v, g, rfl, hR⟩ hi hw K hK
                obtain ⟨_, q0, q1⟩ := HX.out.on hR.st
                go_simp
                refine hK.out _ _ ?_
                exact ⟨(fun j => if j = 40 then .agg #[.int .u64 X1, .int .u64 X2] else v j), g, rfl, ⟨hR.st, (fun _ => rfl), hR.f1.keep rfl, hR.f2.keep rfl, hR.f3.keep rfl, hR.f4.keep rfl, hR.f5.keep rfl, hR.f6.keep rfl⟩⟩
              refine EachOf.cons [] rfl (by kernel_rfl) ?_ ?_
              · rintro L A W ⟨v, g, rfl, hR⟩ hi hw K hK
                obtain ⟨_, q0, q1⟩ := HY.out.on hR.st
                go_simp
                refine hK.out _ _ ?_
                exact ⟨(fun j => if j = 41 then .agg #[.int .u64 Y1, .int .u64 Y2] else v j), g, rfl, ⟨hR.st, hR.f0.keep rfl, (fun _ => rfl), hR.f2.keep rfl, hR.f3.keep rfl, hR.f4.keep rfl, hR.f5.keep rfl, hR.f6.keep rfl⟩⟩
              refine EachOf.cons [0, 1] rfl (by kernel_rfl) ?_ ?_
              · rintro L A W ⟨v, g, rfl, hR⟩ hi hw K hK
                have e0 := hR.f0 (hw 0 (by simp))
                have e1 := hR.f1 (hw 1 (by simp))
                simp only [e0, e1]
                clear e0 e1
                go_simp
                go_at_call 40
                (with_reducible refine ((CL _).out).mono ?_)
                rintro e w2 ⟨rfl, hb⟩
                go_simp
                refine hK.out _ _ ?_
                exact ⟨(fun j => if j = 40 then .agg #[.int .u64 X1, .int .u64 X2] else if j = 41 then .agg #[.int .u64 Y1, .int .u64 Y2] else if j = 42 then .bool false else v j), g, rfl, ⟨below_on hR.st hb, (fun _ => rfl), (fun _ => rfl), (fun _ => rfl), hR.f3.keep rfl, hR.f4.keep rfl, hR.f5.keep rfl, hR.f6.keep rfl⟩⟩
              refine EachOf.cons [] rfl (by kernel_rfl) ?_ ?_
              · rintro L A W ⟨v, g, rfl, hR⟩ hi hw K hK
                go_simp
                refine hK.out _ _ ?_
                exact ⟨(fun j => if j = 43 then .pointer (some ⟨w.heap.size, 0, none⟩) else v j), g, rfl, ⟨hR.st, hR.f0.keep rfl, hR.f1.keep rfl, hR.f2.keep rfl, (fun _ => rfl), hR.f4.keep rfl, hR.f5.keep rfl, hR.f6.keep rfl⟩⟩
              refine EachOf.cons [3] rfl (by kernel_rfl) ?_ ?_
              · rintro L A W ⟨v, g, rfl, hR⟩ hi hw K hK
                have e3 := hR.f3 (hw 3 (by simp))
                simp only [e3]
                clear e3
                obtain ⟨_, q0, q1⟩ := HA.out.on hR.st
                go_simp
                refine hK.out _ _ ?_
                exact ⟨(fun j => if j = 43 then .pointer (some ⟨w.heap.size, 0, none⟩) else if j = 44 then .int .i64 an else v j), g, rfl, ⟨hR.st, hR.f0.keep rfl, hR.f1.keep rfl, hR.f2.keep rfl, (fun _ => rfl), (fun _ => rfl), hR.f5.keep rfl, hR.f6.keep rfl⟩⟩
              refine EachOf.cons [4] rfl (by kernel_rfl) ?_ ?_
              · rintro L A W ⟨v, g, rfl, hR⟩ hi hw K hK
                have e4 := hR.f4 (hw 4 (by simp))
                simp only [e4]
                clear e4
                go_simp
                refine hK.out _ _ ?_
                exact ⟨(fun j => if j = 44 then .int .i64 an else if j = 45 then .bool false else v j), g, rfl, ⟨hR.st, hR.f0.keep rfl, hR.f1.keep rfl, hR.f2.keep rfl, hR.f3.keep rfl, (fun _ => rfl), (fun _ => rfl), hR.f6.keep rfl⟩⟩
              refine EachOf.cons [2, 5] rfl (by kernel_rfl) ?_ ?_
              · rintro L A W ⟨v, g, rfl, hR⟩ hi hw K hK
                have e2 := hR.f2 (hw 2 (by simp))
                have e5 := hR.f5 (hw 5 (by simp))
                simp only [e2, e5]
                clear e2 e5
                go_simp
                refine hK.out _ _ ?_
                exact ⟨(fun j => if j = 42 then .bool false else if j = 45 then .bool false else if j = 46 then .bool true else v j), g, rfl, ⟨hR.st, hR.f0.keep rfl, hR.f1.keep rfl, (fun _ => rfl), hR.f3.keep rfl, hR.f4.keep rfl, (fun _ => rfl), (fun _ => rfl)⟩⟩
              exact EachOf.nil
            rintro L A W2t0f ⟨v2t0f, g2t0f, rfl, hR⟩ hL
            have e6 := hR.f6 (hL 6 (by simp))
            have hst := Lib.hid hR.st
            simp only [e6]
            clear e6
            clear hR hL
            replace HXF := Lib.hid (HXF.out.on HX.out.1 hst.out)
            replace HYF := Lib.hid (HYF.out.on HY.out.1 hst.out)
            replace HA := Lib.hid (HA.out.on hst.out)
            replace HB := Lib.hid (HB.out.on hst.out)
            replace HX := Lib.hid (HX.out.on hst.out)
            replace HY := Lib.hid (HY.out.on hst.out)
            replace HW := Lib.hid (below_on HW.out hst.out)
            go_wp2_with fail
            go_ret
            exact ⟨by rw [hk.out]; rfl, HW.out⟩
          · go_wp2_with fail
            clear HAp HAq HBp HBq HXp HXq HYp HYq
            refine wp_region_each (fun L A W => ∃ (v : Nat → Value) (g : Nat → Nat), A = ⟨#[.agg #[.int .i64 an, .int .i64 ad], .agg #[.int .i64 bn, .int .i64 bd], .pointer (some ⟨w.heap.size, 0, none⟩), .pointer (some ⟨w.heap.size + 1, 0, none⟩), .int .i64 0, .pointer (some ⟨gx, 0, none⟩), .pointer (some ⟨gy, 0, none⟩), v1 7, v1 8, v1 9, v1 10, v1 11, v1 12, v1 13, v1 14, v1 15, v1 16, v1 17, v1 18, v1 19, v1 20, .pointer (some ⟨w.heap.size, 0, none⟩), .int .i64 an, .bool true, .bool true, .pointer (some ⟨w.heap.size + 1, 0, none⟩), .int .i64 bn, .bool false, .bool false, .pointer (some ⟨w.heap.size, 0, none⟩), .int .i64 an, .bool false, .bool false, undef, undef, undef, .bool false, .agg #[.int .u64 X1, .int .u64 X2], .agg #[.int .u64 Y1, .int .u64 Y2], .bool false, v 40, v 41, v 42, v 43, v 44, v 45, v 46], []⟩ ∧ Cmp8t0tR w an ad bn bd a b a2 b2 X1 X2 Y1 Y2 W1 L v g W) (by kernel_rfl) (by kernel_rfl) ⟨fun _ => undef, fun _ => 0, rfl, ⟨Below.drew (Below.refl _ _), Had.none, Had.none, Had.none, Had.none, Had.none, Had.none, Had.none⟩⟩ (rs := [0, 1, 2, 3, 4, 5, 6]) (by kernel_rfl) ?_ ?_
            · refine EachOf.cons [] rfl (by kernel_rfl) ?_ ?_
              · rintro L A W ⟨v, g, rfl, hR⟩ hi hw K hK
                obtain ⟨_, q0, q1⟩ := HX.out.on hR.st
                go_simp
                refine hK.out _ _ ?_
                exact ⟨(fun j => if j = 40 then .agg #[.int .u64 X1, .int .u64 X2] else v j), g, rfl, ⟨hR.st, (fun _ => rfl), hR.f1.keep rfl, hR.f2.keep rfl, hR.f3.keep rfl, hR.f4.keep rfl, hR.f5.keep rfl, hR.f6.keep rfl⟩⟩
              refine EachOf.cons [] rfl (by kernel_rfl) ?_ ?_
              · rintro L A W ⟨v, g, rfl, hR⟩ hi hw K hK
                obtain ⟨_, q0, q1⟩ := HY.out.on hR.st
                go_simp
                refine hK.out _ _ ?_
                exact ⟨(fun j => if j = 41 then .agg #[.int .u64 Y1, .int .u64 Y2] else v j), g, rfl, ⟨hR.st, hR.f0.keep rfl, (fun _ => rfl), hR.f2.keep rfl, hR.f3.keep rfl, hR.f4.keep rfl, hR.f5.keep rfl, hR.f6.keep rfl⟩⟩
              refine EachOf.cons [0, 1] rfl (by kernel_rfl) ?_ ?_
              · rintro L A W ⟨v, g, rfl, hR⟩ hi hw K hK
                have e0 := hR.f0 (hw 0 (by simp))
                have e1 := hR.f1 (hw 1 (by simp))
                simp only [e0, e1]
                clear e0 e1
                go_simp
                go_at_call 40
                (with_reducible refine ((CL _).out).mono ?_)
                rintro e w2 ⟨rfl, hb⟩
                go_simp
                refine hK.out _ _ ?_
                exact ⟨(fun j => if j = 40 then .agg #[.int .u64 X1, .int .u64 X2] else if j = 41 then .agg #[.int .u64 Y1, .int .u64 Y2] else if j = 42 then .bool true else v j), g, rfl, ⟨below_on hR.st hb, (fun _ => rfl), (fun _ => rfl), (fun _ => rfl), hR.f3.keep rfl, hR.f4.keep rfl, hR.f5.keep rfl, hR.f6.keep rfl⟩⟩
              refine EachOf.cons [] rfl (by kernel_rfl) ?_ ?_
              · rintro L A W ⟨v, g, rfl, hR⟩ hi hw K hK
                go_simp
                refine hK.out _ _ ?_
                exact ⟨(fun j => if j = 43 then .pointer (some ⟨w.heap.size, 0, none⟩) else v j), g, rfl, ⟨hR.st, hR.f0.keep rfl, hR.f1.keep rfl, hR.f2.keep rfl, (fun _ => rfl), hR.f4.keep rfl, hR.f5.keep rfl, hR.f6.keep rfl⟩⟩
              refine EachOf.cons [3] rfl (by kernel_rfl) ?_ ?_
              · rintro L A W ⟨v, g, rfl, hR⟩ hi hw K hK
                have e3 := hR.f3 (hw 3 (by simp))
                simp only [e3]
                clear e3
                obtain ⟨_, q0, q1⟩ := HA.out.on hR.st
                go_simp
                refine hK.out _ _ ?_
                exact ⟨(fun j => if j = 43 then .pointer (some ⟨w.heap.size, 0, none⟩) else if j = 44 then .int .i64 an else v j), g, rfl, ⟨hR.st, hR.f0.keep rfl, hR.f1.keep rfl, hR.f2.keep rfl, (fun _ => rfl), (fun _ => rfl), hR.f5.keep rfl, hR.f6.keep rfl⟩⟩
              refine EachOf.cons [4] rfl (by kernel_rfl) ?_ ?_
              · rintro L A W ⟨v, g, rfl, hR⟩ hi hw K hK
                have e4 := hR.f4 (hw 4 (by simp))
                simp only [e4]
                clear e4
                go_simp
                refine hK.out _ _ ?_
                exact ⟨(fun j => if j = 44 then .int .i64 an else if j = 45 then .bool false else v j), g, rfl, ⟨hR.st, hR.f0.keep rfl, hR.f1.keep rfl, hR.f2.keep rfl, hR.f3.keep rfl, (fun _ => rfl), (fun _ => rfl), hR.f6.keep rfl⟩⟩
              refine EachOf.cons [2, 5] rfl (by kernel_rfl) ?_ ?_
              · rintro L A W ⟨v, g, rfl, hR⟩ hi hw K hK
                have e2 := hR.f2 (hw 2 (by simp))
                have e5 := hR.f5 (hw 5 (by simp))
                simp only [e2, e5]
                clear e2 e5
                go_simp
                refine hK.out _ _ ?_
                exact ⟨(fun j => if j = 42 then .bool true else if j = 45 then .bool false else if j = 46 then .bool false else v j), g, rfl, ⟨hR.st, hR.f0.keep rfl, hR.f1.keep rfl, (fun _ => rfl), hR.f3.keep rfl, hR.f4.keep rfl, (fun _ => rfl), (fun _ => rfl)⟩⟩
              exact EachOf.nil
            rintro L A W2t0t ⟨v2t0t, g2t0t, rfl, hR⟩ hL
            have e6 := hR.f6 (hL 6 (by simp))
            have hst := Lib.hid hR.st
            simp only [e6]
            clear e6
            clear hR hL
            replace HXF := Lib.hid (HXF.out.on HX.out.1 hst.out)
            replace HYF := Lib.hid (HYF.out.on HY.out.1 hst.out)
            replace HA := Lib.hid (HA.out.on hst.out)
            replace HB := Lib.hid (HB.out.on hst.out)
            replace HX := Lib.hid (HX.out.on hst.out)
            replace HY := Lib.hid (HY.out.on hst.out)
            replace HW := Lib.hid (below_on HW.out hst.out)
            go_wp2_with fail
            go_ret
            exact ⟨by rw [hk.out]; rfl, HW.out⟩
        · cases less
          · go_wp2_with fail
            clear HAp HAq HBp HBq HXp HXq HYp HYq
            refine wp_region_each (fun L A W => ∃ (v : Nat → Value) (g : Nat → Nat), A = ⟨#[.agg #[.int .i64 an, .int .i64 ad], .agg #[.int .i64 bn, .int .i64 bd], .pointer (some ⟨w.heap.size, 0, none⟩), .pointer (some ⟨w.heap.size + 1, 0, none⟩), .int .i64 0, .pointer (some ⟨gx, 0, none⟩), .pointer (some ⟨gy, 0, none⟩), v1 7, v1 8, v1 9, v1 10, v1 11, v1 12, v1 13, v1 14, v1 15, v1 16, v1 17, v1 18, v1 19, v1 20, .pointer (some ⟨w.heap.size, 0, none⟩), .int .i64 an, .bool true, .bool true, .pointer (some ⟨w.heap.size + 1, 0, none⟩), .int .i64 bn, .bool false, .bool false, .pointer (some ⟨w.heap.size, 0, none⟩), .int .i64 an, .bool false, .bool false, undef, undef, undef, .bool false, .agg #[.int .u64 X1, .int .u64 X2], .agg #[.int .u64 X1, .int .u64 Y2], .bool false, v 40, v 41, v 42, v 43, v 44, v 45, v 46], []⟩ ∧ Cmp8t1fR w an ad bn bd a b a2 b2 X1 X2 X1 Y2 W1 L v g W) (by kernel_rfl) (by kernel_rfl) ⟨fun _ => undef, fun _ => 0, rfl, ⟨Below.drew (Below.refl _ _), Had.none, Had.none, Had.none, Had.none, Had.none, Had.none, Had.none⟩⟩ (rs := [0, 1, 2, 3, 4, 5, 6]) (by kernel_rfl) ?_ ?_
            · refine EachOf.cons [] rfl (by kernel_rfl) ?_ ?_
              · rintro L A W ⟨v, g, rfl, hR⟩ hi hw K hK
                obtain ⟨_, q0, q1⟩ := HX.out.on hR.st
                go_simp
                refine hK.out _ _ ?_
                exact ⟨(fun j => if j = 40 then .agg #[.int .u64 X1, .int .u64 X2] else v j), g, rfl, ⟨hR.st, (fun _ => rfl), hR.f1.keep rfl, hR.f2.keep rfl, hR.f3.keep rfl, hR.f4.keep rfl, hR.f5.keep rfl, hR.f6.keep rfl⟩⟩
              refine EachOf.cons [] rfl (by kernel_rfl) ?_ ?_
              · rintro L A W ⟨v, g, rfl, hR⟩ hi hw K hK
                obtain ⟨_, q0, q1⟩ := HY.out.on hR.st
                go_simp
                refine hK.out _ _ ?_
                exact ⟨(fun j => if j = 41 then .agg #[.int .u64 X1, .int .u64 Y2] else v j), g, rfl, ⟨hR.st, hR.f0.keep rfl, (fun _ => rfl), hR.f2.keep rfl, hR.f3.keep rfl, hR.f4.keep rfl, hR.f5.keep rfl, hR.f6.keep rfl⟩⟩
              refine EachOf.cons [0, 1] rfl (by kernel_rfl) ?_ ?_
              · rintro L A W ⟨v, g, rfl, hR⟩ hi hw K hK
                have e0 := hR.f0 (hw 0 (by simp))
                have e1 := hR.f1 (hw 1 (by simp))
                simp only [e0, e1]
                clear e0 e1
                go_simp
                go_at_call 40
                (with_reducible refine ((CL _).out).mono ?_)
                rintro e w2 ⟨rfl, hb⟩
                go_simp
                refine hK.out _ _ ?_
                exact ⟨(fun j => if j = 40 then .agg #[.int .u64 X1, .int .u64 X2] else if j = 41 then .agg #[.int .u64 X1, .int .u64 Y2] else if j = 42 then .bool false else v j), g, rfl, ⟨below_on hR.st hb, (fun _ => rfl), (fun _ => rfl), (fun _ => rfl), hR.f3.keep rfl, hR.f4.keep rfl, hR.f5.keep rfl, hR.f6.keep rfl⟩⟩
              refine EachOf.cons [] rfl (by kernel_rfl) ?_ ?_
              · rintro L A W ⟨v, g, rfl, hR⟩ hi hw K hK
                go_simp
                refine hK.out _ _ ?_
                exact ⟨(fun j => if j = 43 then .pointer (some ⟨w.heap.size, 0, none⟩) else v j), g, rfl, ⟨hR.st, hR.f0.keep rfl, hR.f1.keep rfl, hR.f2.keep rfl, (fun _ => rfl), hR.f4.keep rfl, hR.f5.keep rfl, hR.f6.keep rfl⟩⟩
              refine EachOf.cons [3] rfl (by kernel_rfl) ?_ ?_
              · rintro L A W ⟨v, g, rfl, hR⟩ hi hw K hK
                have e3 := hR.f3 (hw 3 (by simp))
                simp only [e3]
                clear e3
                obtain ⟨_, q0, q1⟩ := HA.out.on hR.st
                go_simp
                refine hK.out _ _ ?_
                exact ⟨(fun j => if j = 43 then .pointer (some ⟨w.heap.size, 0, none⟩) else if j = 44 then .int .i64 an else v j), g, rfl, ⟨hR.st, hR.f0.keep rfl, hR.f1.keep rfl, hR.f2.keep rfl, (fun _ => rfl), (fun _ => rfl), hR.f5.keep rfl, hR.f6.keep rfl⟩⟩
              refine EachOf.cons [4] rfl (by kernel_rfl) ?_ ?_
              · rintro L A W ⟨v, g, rfl, hR⟩ hi hw K hK
                have e4 := hR.f4 (hw 4 (by simp))
                simp only [e4]
                clear e4
                go_simp
                refine hK.out _ _ ?_
                exact ⟨(fun j => if j = 44 then .int .i64 an else if j = 45 then .bool false else v j), g, rfl, ⟨hR.st, hR.f0.keep rfl, hR.f1.keep rfl, hR.f2.keep rfl, hR.f3.keep rfl, (fun _ => rfl), (fun _ => rfl), hR.f6.keep rfl⟩⟩
              refine EachOf.cons [2, 5] rfl (by kernel_rfl) ?_ ?_
              · rintro L A W ⟨v, g, rfl, hR⟩ hi hw K hK
                have e2 := hR.f2 (hw 2 (by simp))
                have e5 := hR.f5 (hw 5 (by simp))
                simp only [e2, e5]
                clear e2 e5
                go_simp
                refine hK.out _ _ ?_
                exact ⟨(fun j => if j = 42 then .bool false else if j = 45 then .bool false else if j = 46 then .bool true else v j), g, rfl, ⟨hR.st, hR.f0.keep rfl, hR.f1.keep rfl, (fun _ => rfl), hR.f3.keep rfl, hR.f4.keep rfl, (fun _ => rfl), (fun _ => rfl)⟩⟩
              exact EachOf.nil
            rintro L A W2t1f ⟨v2t1f, g2t1f, rfl, hR⟩ hL
            have e6 := hR.f6 (hL 6 (by simp))
            have hst := Lib.hid hR.st
            simp only [e6]
            clear e6
            clear hR hL
            replace HXF := Lib.hid (HXF.out.on HX.out.1 hst.out)
            replace HYF := Lib.hid (HYF.out.on HY.out.1 hst.out)
            replace HA := Lib.hid (HA.out.on hst.out)
            replace HB := Lib.hid (HB.out.on hst.out)
            replace HX := Lib.hid (HX.out.on hst.out)
            replace HY := Lib.hid (HY.out.on hst.out)
            replace HW := Lib.hid (below_on HW.out hst.out)
            go_wp2_with fail
            go_ret
            exact ⟨by rw [hk.out]; rfl, HW.out⟩
          · go_wp2_with fail
            clear HAp HAq HBp HBq HXp HXq HYp HYq
            refine wp_region_each (fun L A W => ∃ (v : Nat → Value) (g : Nat → Nat), A = ⟨#[.agg #[.int .i64 an, .int .i64 ad], .agg #[.int .i64 bn, .int .i64 bd], .pointer (some ⟨w.heap.size, 0, none⟩), .pointer (some ⟨w.heap.size + 1, 0, none⟩), .int .i64 0, .pointer (some ⟨gx, 0, none⟩), .pointer (some ⟨gy, 0, none⟩), v1 7, v1 8, v1 9, v1 10, v1 11, v1 12, v1 13, v1 14, v1 15, v1 16, v1 17, v1 18, v1 19, v1 20, .pointer (some ⟨w.heap.size, 0, none⟩), .int .i64 an, .bool true, .bool true, .pointer (some ⟨w.heap.size + 1, 0, none⟩), .int .i64 bn, .bool false, .bool false, .pointer (some ⟨w.heap.size, 0, none⟩), .int .i64 an, .bool false, .bool false, undef, undef, undef, .bool false, .agg #[.int .u64 X1, .int .u64 X2], .agg #[.int .u64 X1, .int .u64 Y2], .bool false, v 40, v 41, v 42, v 43, v 44, v 45, v 46], []⟩ ∧ Cmp8t1tR w an ad bn bd a b a2 b2 X1 X2 X1 Y2 W1 L v g W) (by kernel_rfl) (by kernel_rfl) ⟨fun _ => undef, fun _ => 0, rfl, ⟨Below.drew (Below.refl _ _), Had.none, Had.none, Had.none, Had.none, Had.none, Had.none, Had.none⟩⟩ (rs := [0, 1, 2, 3, 4, 5, 6]) (by kernel_rfl) ?_ ?_
            · refine EachOf.cons [] rfl (by kernel_rfl) ?_ ?_
              · rintro L A W ⟨v, g, rfl, hR⟩ hi hw K hK
                obtain ⟨_, q0, q1⟩ := HX.out.on hR.st
                go_simp
                refine hK.out _ _ ?_
                exact ⟨(fun j => if j = 40 then .agg #[.int .u64 X1, .int .u64 X2] else v j), g, rfl, ⟨hR.st, (fun _ => rfl), hR.f1.keep rfl, hR.f2.keep rfl, hR.f3.keep rfl, hR.f4.keep rfl, hR.f5.keep rfl, hR.f6.keep rfl⟩⟩
              refine EachOf.cons [] rfl (by kernel_rfl) ?_ ?_
              · rintro L A W ⟨v, g, rfl, hR⟩ hi hw K hK
                obtain ⟨_, q0, q1⟩ := HY.out.on hR.st
                go_simp
                refine hK.out _ _ ?_
                exact ⟨(fun j => if j = 41 then .agg #[.int .u64 X1, .int .u64 Y2] else v j), g, rfl, ⟨hR.st, hR.f0.keep rfl, (fun _ => rfl), hR.f2.keep rfl, hR.f3.keep rfl, hR.f4.keep rfl, hR.f5.keep rfl, hR.f6.keep rfl⟩⟩
              refine EachOf.cons [0, 1] rfl (by kernel_rfl) ?_ ?_
              · rintro L A W ⟨v, g, rfl, hR⟩ hi hw K hK
                have e0 := hR.f0 (hw 0 (by simp))
                have e1 := hR.f1 (hw 1 (by simp))
                simp only [e0, e1]
                clear e0 e1
                go_simp
                go_at_call 40
                (with_reducible refine ((CL _).out).mono ?_)
                rintro e w2 ⟨rfl, hb⟩
                go_simp
                refine hK.out _ _ ?_
                exact ⟨(fun j => if j = 40 then .agg #[.int .u64 X1, .int .u64 X2] else if j = 41 then .agg #[.int .u64 X1, .int .u64 Y2] else if j = 42 then .bool true else v j), g, rfl, ⟨below_on hR.st hb, (fun _ => rfl), (fun _ => rfl), (fun _ => rfl), hR.f3.keep rfl, hR.f4.keep rfl, hR.f5.keep rfl, hR.f6.keep rfl⟩⟩
              refine EachOf.cons [] rfl (by kernel_rfl) ?_ ?_
              · rintro L A W ⟨v, g, rfl, hR⟩ hi hw K hK
                go_simp
                refine hK.out _ _ ?_
                exact ⟨(fun j => if j = 43 then .pointer (some ⟨w.heap.size, 0, none⟩) else v j), g, rfl, ⟨hR.st, hR.f0.keep rfl, hR.f1.keep rfl, hR.f2.keep rfl, (fun _ => rfl), hR.f4.keep rfl, hR.f5.keep rfl, hR.f6.keep rfl⟩⟩
              refine EachOf.cons [3] rfl (by kernel_rfl) ?_ ?_
              · rintro L A W ⟨v, g, rfl, hR⟩ hi hw K hK
                have e3 := hR.f3 (hw 3 (by simp))
                simp only [e3]
                clear e3
                obtain ⟨_, q0, q1⟩ := HA.out.on hR.st
                go_simp
                refine hK.out _ _ ?_
                exact ⟨(fun j => if j = 43 then .pointer (some ⟨w.heap.size, 0, none⟩) else if j = 44 then .int .i64 an else v j), g, rfl, ⟨hR.st, hR.f0.keep rfl, hR.f1.keep rfl, hR.f2.keep rfl, (fun _ => rfl), (fun _ => rfl), hR.f5.keep rfl, hR.f6.keep rfl⟩⟩
              refine EachOf.cons [4] rfl (by kernel_rfl) ?_ ?_
              · rintro L A W ⟨v, g, rfl, hR⟩ hi hw K hK
                have e4 := hR.f4 (hw 4 (by simp))
                simp only [e4]
                clear e4
                go_simp
                refine hK.out _ _ ?_
                exact ⟨(fun j => if j = 44 then .int .i64 an else if j = 45 then .bool false else v j), g, rfl, ⟨hR.st, hR.f0.keep rfl, hR.f1.keep rfl, hR.f2.keep rfl, hR.f3.keep rfl, (fun _ => rfl), (fun _ => rfl), hR.f6.keep rfl⟩⟩
              refine EachOf.cons [2, 5] rfl (by kernel_rfl) ?_ ?_
              · rintro L A W ⟨v, g, rfl, hR⟩ hi hw K hK
                have e2 := hR.f2 (hw 2 (by simp))
                have e5 := hR.f5 (hw 5 (by simp))
                simp only [e2, e5]
                clear e2 e5
                go_simp
                refine hK.out _ _ ?_
                exact ⟨(fun j => if j = 42 then .bool true else if j = 45 then .bool false else if j = 46 then .bool false else v j), g, rfl, ⟨hR.st, hR.f0.keep rfl, hR.f1.keep rfl, (fun _ => rfl), hR.f3.keep rfl, hR.f4.keep rfl, (fun _ => rfl), (fun _ => rfl)⟩⟩
              exact EachOf.nil
            rintro L A W2t1t ⟨v2t1t, g2t1t, rfl, hR⟩ hL
            have e6 := hR.f6 (hL 6 (by simp))
            have hst := Lib.hid hR.st
            simp only [e6]
            clear e6
            clear hR hL
            replace HXF := Lib.hid (HXF.out.on HX.out.1 hst.out)
            replace HYF := Lib.hid (HYF.out.on HY.out.1 hst.out)
            replace HA := Lib.hid (HA.out.on hst.out)
            replace HB := Lib.hid (HB.out.on hst.out)
            replace HX := Lib.hid (HX.out.on hst.out)
            replace HY := Lib.hid (HY.out.on hst.out)
            replace HW := Lib.hid (below_on HW.out hst.out)
            go_wp2_with fail
            go_ret
            exact ⟨by rw [hk.out]; rfl, HW.out⟩
      · obtain ⟨rfl, rfl⟩ := E1.out rfl
        go_wp2_with fail
        go_ret
        exact ⟨by rw [hk.out]; rfl, HW.out⟩

theorem refCmp_any (an ad bn bd : Int) (w : World) (va : Vld an ad) (vb : Vld bn bd) (k : Int) (h : sgn (an * bd + -bn * ad) = k) :
    Calls Tryd.prog 18 #[.agg #[.int .i64 an, .int .i64 ad], .agg #[.int .i64 bn, .int .i64 bd]] w fun e w' => e = .returned (.int .i64 k) ∧ Below w.heap.size w w' := by
  rw [cmp_made va vb] at h
  have a1 := va.d1; have a2 := va.d2; have a3 := va.n1; have a4 := va.n2
  have b1 := vb.d1; have b2 := vb.d2; have b3 := vb.n1; have b4 := vb.n2
  obtain ⟨x0, x1⟩ := nat_mul_bd (a := an) (b := bd) (by omega) (by omega)
  obtain ⟨y0, y1⟩ := nat_mul_bd (a := bn) (b := ad) (by omega) (by omega)
  obtain ⟨X, hX⟩ : ∃ X, (an.natAbs : Int) * (bd.natAbs : Int) = X := ⟨_, rfl⟩
  obtain ⟨Y, hY⟩ : ∃ X, (bn.natAbs : Int) * (ad.natAbs : Int) = X := ⟨_, rfl⟩
  rw [hX, hY] at h
  rw [hX] at x0 x1
  rw [hY] at y0 y1
  refine refCmp_walk w an ad bn bd _ _ _ _ (hiW X) (loW X) (hiW Y) (loW Y) k _ _ (decide (X = Y)) (decide (X < Y))
    (fun w => refSize_any an w (by omega) (by omega)) (fun w => refSize_any bn w (by omega) (by omega)) (fun w => refSize_any ad w (by omega) (by omega)) (fun w => refSize_any bd w (by omega) (by omega))
    (fun w => by have := refMul_any (an.natAbs : Int) (bd.natAbs : Int) w (by omega) (by omega) (by omega) (by omega); rw [hX] at this; exact this)
    (fun w => by have := refMul_any (bn.natAbs : Int) (ad.natAbs : Int) w (by omega) (by omega) (by omega) (by omega); rw [hY] at this; exact this)
    (fun w => less_any X Y w (by omega) (by omega) (by omega) (by omega)) rfl rfl ?_ ?_ ?_ ?_ ?_
  · rw [Bool.eq_iff_iff]; simp
  · rw [Bool.eq_iff_iff]; simp
  · intro e
    have e : X = Y := by simpa using e
    subst e
    exact ⟨rfl, rfl⟩
  · intro e
    have e : ¬ X = Y := by simpa using e
    unfold hiW loW
    by_cases c : X / 18446744073709551616 = Y / 18446744073709551616
    · exact .inr (by omega)
    · exact .inl (by omega)
  · rw [← h]
    unfold cmpR cmpV Hid
    have e1 : decide (0 ≤ an) = !decide (an < 0) := by rw [Bool.eq_iff_iff]; simp
    rw [e1]
    rcases Int.lt_or_le an 0 with h1 | h1 <;> rcases Int.lt_or_le bn 0 with h2 | h2
    · simp [h1, h2, show ¬ 0 ≤ bn by omega, show ¬ 0 ≤ an by omega]
    · simp [h1, h2, show ¬ bn < 0 by omega]
    · simp [h1, h2, show ¬ 0 ≤ bn by omega, show ¬ an < 0 by omega]
    · simp [h1, h2, show ¬ bn < 0 by omega, show ¬ an < 0 by omega]

end Go.Proofs.YtknbhpnhnhfbpaaDoor
