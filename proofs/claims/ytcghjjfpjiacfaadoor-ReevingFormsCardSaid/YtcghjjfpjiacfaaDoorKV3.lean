/- Layer 10: package reeving: which holds are right. -/
import Derived.Test.YtcghjjfpjiacfaaDoorKV2
namespace Go.Proofs.YtcghjjfpjiacfaaDoor
open Go.ChangeShapes Go.WideShapes Go.ChangeAt Go.RowKit Go.Joins Go.Deep Go.Shelf
set_option linter.unusedVariables false

theorem str_ne {x : ByteArray} (h : x ≠ ByteArray.empty) : x.toList.isEmpty = false := empty_no fun e => h (Go.WideShapes.bytes_inj e)
set_option maxHeartbeats 4000000 in
theorem isPull_any (x : ByteArray) (p u d : Int) (mb n : Nat) (f : Nat → ByteArray) (pb m c : Nat) (zs : List Int) (w : World) (hm : IxM w mb f n) (hx : x.size ≤ 1000) (hz : zs.length = m) (hm2 : m ≤ 100) (hc : ∀ j, j < zs.length → w.cell? ⟨pb, 0 + j, none⟩ = some (.int .i64 (zs.getD j 0))) (hpb : pb < w.heap.size) (v : Bool) (hv : v = if x = ByteArray.empty then p == 0 else knB f n x && zs.contains p) :
    Calls Tryd.prog 117 #[.agg #[.string x, .int .i64 p, .int .i64 u, .int .i64 d], .map (some mb), .slice (some ⟨pb, 0, none⟩) m c] w fun e w' => e = .returned (.bool v) ∧ Below w.heap.size w w' := by
  obtain ⟨w1, hw1⟩ : ∃ W, W = w.alloc (Obj.cells #[Value.string x, .int .i64 p, .int .i64 u, .int .i64 d] 64) := ⟨_, rfl⟩
  obtain ⟨xb, hxb⟩ : ∃ x, x = w.heap.size := ⟨_, rfl⟩
  have hC : C4 w1 xb (.string x) (.int .i64 p) (.int .i64 u) (.int .i64 d) := by rw [hw1, hxb]; exact C4.new _ _ _ _ _ _
  have HB := Lib.hid (show Below w.heap.size w w1 from by rw [hw1]; exact (Below.refl _ _).alloc (Nat.le_refl _) _)
  have HM := Lib.hid (hm.on HB.out)
  have c0 := hC.c0
  have c1 := hC.c1
  by_cases h0 : x = ByteArray.empty
  · rw [if_pos h0] at hv
    subst h0
    subst hv
    clear hm hC hc
    go_enter Tryd.func117, Tryd.ntmps117
    go_upto_region 1 with fail
    rw [← hxb, ← hw1]
    clear hxb hw1
    go_wp2_with fail
    go_ret
    exact ⟨rfl, HB.out⟩
  · rw [if_neg h0] at hv
    have CC := Lib.hid (Tryd.slices_Contains_int pb 0 m c zs p w1 (by omega) (by omega) (fun j hj => (HB.out.cell (p := ⟨pb, 0 + j, none⟩) hpb).trans (hc j hj)))
    rw [List.take_of_length_le (by omega)] at CC
    have h1 := str_ne h0
    have hlk := lstI_kn f x n
    obtain ⟨t, ht⟩ : ∃ t, (lstI f x n).isSome = t := ⟨_, rfl⟩
    obtain ⟨q, hq⟩ : ∃ q, (lstI f x n).getD 0 = q := ⟨_, rfl⟩
    rw [ht] at hlk
    rw [← hlk] at hv
    have HTT := Lib.hid (And.intro hq ht)
    obtain ⟨g, hg⟩ : ∃ g, zs.contains p = g := ⟨_, rfl⟩
    rw [hg] at hv CC
    clear ht hq hlk hm hC hc hz hg
    cases t
    · rw [Bool.false_and] at hv
      subst hv
      go_enter Tryd.func117, Tryd.ntmps117
      go_upto_region 1 with fail
      rw [← hxb, ← hw1]
      clear hxb hw1
      go_wp2_with (at_lookup; refine wpList_ixm _ rfl rfl _ _ rfl mb n f rfl HM.out x rfl (by unfold maxLen; omega) q false HTT.out.1 HTT.out.2 ?_)
      go_ret
      exact ⟨rfl, HB.out⟩
    · rw [Bool.true_and] at hv
      subst hv
      go_enter Tryd.func117, Tryd.ntmps117
      go_upto_region 1 with fail
      rw [← hxb, ← hw1]
      clear hxb hw1
      go_wp2_with (first
        | (at_lookup; refine wpList_ixm _ rfl rfl _ _ rfl mb n f rfl HM.out x rfl (by unfold maxLen; omega) q true HTT.out.1 HTT.out.2 ?_)
        | (go_at_call 136; (with_reducible refine (CC.out.mono ?_)); rintro e w2 ⟨rfl, rfl⟩))
      go_ret
      exact ⟨rfl, HB.out⟩

theorem pulE_has (p : Int) : [1, -1].contains p = pulE p := by
  unfold pulE
  simp only [List.contains_cons, List.contains_nil, Bool.or_false]
theorem pulS_has (p : Int) : [2, 0, -2].contains p = pulS p := by
  unfold pulS
  simp only [List.contains_cons, List.contains_nil, Bool.or_false]
set_option maxHeartbeats 4000000 in
theorem isEnd_any (x : ByteArray) (p u d : Int) (mb n : Nat) (f : Nat → ByteArray) (w : World) (hm : IxM w mb f n) (hx : x.size ≤ 1000) (v : Bool) (hv : hldB (knB f n x) ⟨x, p, u, d⟩ true = v) :
    Calls Tryd.prog 97 #[.agg #[.string x, .int .i64 p, .int .i64 u, .int .i64 d], .map (some mb)] w fun e w' => e = .returned (.bool v) ∧ Below w.heap.size w w' := by
  obtain ⟨w1, hw1⟩ : ∃ W, W = w.alloc (Obj.cells #[Value.string x, .int .i64 p, .int .i64 u, .int .i64 d] 64) := ⟨_, rfl⟩
  obtain ⟨xb, hxb⟩ : ∃ x, x = w.heap.size := ⟨_, rfl⟩
  have hC : C4 w1 xb (.string x) (.int .i64 p) (.int .i64 u) (.int .i64 d) := by rw [hw1, hxb]; exact C4.new _ _ _ _ _ _
  have HB := Lib.hid (show Below w.heap.size w w1 from by rw [hw1]; exact (Below.refl _ _).alloc (Nat.le_refl _) _)
  have hv2 : v = (plB (knB f n x) ⟨x, p, u, d⟩ true && (u == 1 && d == 1)) := by rw [← hv]; rfl
  have hpl : plB (knB f n x) ⟨x, p, u, d⟩ true = if x = ByteArray.empty then p == 0 else knB f n x && [1, -1].contains p := by unfold plB; simp only [pulE_has]; rfl
  obtain ⟨w2, hw2⟩ : ∃ W, W = w1.alloc (Obj.cells #[Value.int .i64 1, .int .i64 (-1)] 3) := ⟨_, rfl⟩
  obtain ⟨pb, hpb⟩ : ∃ x, x = w1.heap.size := ⟨_, rfl⟩
  have hP : C2 w2 pb (.int .i64 1) (.int .i64 (-1)) := by rw [hw2, hpb]; exact C2.new _ _ _ _
  have HB2 := Lib.hid (show Below w1.heap.size w1 w2 from by rw [hw2]; exact (Below.refl _ _).alloc (Nat.le_refl _) _)
  obtain ⟨t, ht⟩ : ∃ t, plB (knB f n x) ⟨x, p, u, d⟩ true = t := ⟨_, rfl⟩
  rw [ht] at hv2 hpl
  have CP := Lib.hid (isPull_any x p u d mb n f pb 2 2 [1, -1] w2 ((hm.on HB.out).on HB2.out) hx rfl (by omega) (fun j hj => by
    have : j = 0 ∨ j = 1 := by simp at hj; omega
    rcases this with rfl | rfl
    · exact hP.c0
    · exact hP.c1) hP.lt t hpl)
  have c0 := hC.c0
  have c1 := hC.c1
  have c2 := hC.c2
  have c3 := hC.c3
  have HC := Lib.hid (hC.on HB2.out)
  have HE : Hid (w2 = w1.alloc (Obj.cells #[Value.int .i64 1, .int .i64 (-1)] 3) ∧ pb = w1.heap.size) := ⟨hw2, hpb⟩
  clear hv ht hpl hP hC hm hw2 hpb
  have HF := Lib.hid (below_on HB.out HB2.out)
  cases t
  · rw [Bool.false_and] at hv2
    subst hv2
    go_enter Tryd.func97, Tryd.ntmps97
    go_upto_region 1 with fail
    rw [← hxb, ← hw1]
    clear hxb hw1
    go_wp2_with (first
      | (go_at_call 117; rw [← HE.out.1, ← HE.out.2]; (with_reducible refine (CP.out.mono ?_)); rintro e w3 ⟨rfl, hb3⟩; have HG := Lib.hid (below_on HF.out hb3); have c2 := (HC.out.on hb3).c2; have c3 := (HC.out.on hb3).c3; clear hb3))
    go_ret
    exact ⟨rfl, HG.out⟩
  · rw [Bool.true_and] at hv2
    by_cases hu : u = 1
    · by_cases hd : d = 1
      · subst hu
        subst hd
        obtain rfl : v = true := hv2
        go_enter Tryd.func97, Tryd.ntmps97
        go_upto_region 1 with fail
        rw [← hxb, ← hw1]
        clear hxb hw1
        go_wp2_with (first
          | (go_at_call 117; rw [← HE.out.1, ← HE.out.2]; (with_reducible refine (CP.out.mono ?_)); rintro e w3 ⟨rfl, hb3⟩; have HG := Lib.hid (below_on HF.out hb3); have c2 := (HC.out.on hb3).c2; have c3 := (HC.out.on hb3).c3; clear hb3))
        go_ret
        exact ⟨rfl, HG.out⟩
      · have e : (u == 1 && d == 1) = false := by simp [hd]
        rw [e] at hv2
        subst hv2
        subst hu
        clear e
        go_enter Tryd.func97, Tryd.ntmps97
        go_upto_region 1 with fail
        rw [← hxb, ← hw1]
        clear hxb hw1
        go_wp2_with (first
          | (go_at_call 117; rw [← HE.out.1, ← HE.out.2]; (with_reducible refine (CP.out.mono ?_)); rintro e w3 ⟨rfl, hb3⟩; have HG := Lib.hid (below_on HF.out hb3); have c2 := (HC.out.on hb3).c2; have c3 := (HC.out.on hb3).c3; clear hb3))
        go_ret
        exact ⟨rfl, HG.out⟩
    · have e : (u == 1 && d == 1) = false := by simp [hu]
      rw [e] at hv2
      subst hv2
      clear e
      go_enter Tryd.func97, Tryd.ntmps97
      go_upto_region 1 with fail
      rw [← hxb, ← hw1]
      clear hxb hw1
      go_wp2_with (first
        | (go_at_call 117; rw [← HE.out.1, ← HE.out.2]; (with_reducible refine (CP.out.mono ?_)); rintro e w3 ⟨rfl, hb3⟩; have HG := Lib.hid (below_on HF.out hb3); have c2 := (HC.out.on hb3).c2; have c3 := (HC.out.on hb3).c3; clear hb3))
      go_ret
      exact ⟨rfl, HG.out⟩
set_option maxHeartbeats 4000000 in
theorem isSheave_any (x : ByteArray) (p u d : Int) (mb n : Nat) (f : Nat → ByteArray) (w : World) (hm : IxM w mb f n) (hx : x.size ≤ 1000) (hu : i64r u) (hd : i64r d) (v : Bool) (hv : hldB (knB f n x) ⟨x, p, u, d⟩ false = v) :
    Calls Tryd.prog 96 #[.agg #[.string x, .int .i64 p, .int .i64 u, .int .i64 d], .map (some mb)] w fun e w' => e = .returned (.bool v) ∧ Below w.heap.size w w' := by
  obtain ⟨w1, hw1⟩ : ∃ W, W = w.alloc (Obj.cells #[Value.string x, .int .i64 p, .int .i64 u, .int .i64 d] 64) := ⟨_, rfl⟩
  obtain ⟨xb, hxb⟩ : ∃ x, x = w.heap.size := ⟨_, rfl⟩
  have hC : C4 w1 xb (.string x) (.int .i64 p) (.int .i64 u) (.int .i64 d) := by rw [hw1, hxb]; exact C4.new _ _ _ _ _ _
  have HB := Lib.hid (show Below w.heap.size w w1 from by rw [hw1]; exact (Below.refl _ _).alloc (Nat.le_refl _) _)
  have hv2 : v = (plB (knB f n x) ⟨x, p, u, d⟩ false && (vB u d && (decide (d ≤ u) && decide (u ≤ 100)))) := by rw [← hv]; rfl
  have hpl : plB (knB f n x) ⟨x, p, u, d⟩ false = if x = ByteArray.empty then p == 0 else knB f n x && [2, 0, -2].contains p := by unfold plB; simp only [pulS_has]; rfl
  obtain ⟨w2, hw2⟩ : ∃ W, W = w1.alloc (Obj.cells #[Value.int .i64 2, .int .i64 0, .int .i64 (-2)] 3) := ⟨_, rfl⟩
  obtain ⟨pb, hpb⟩ : ∃ x, x = w1.heap.size := ⟨_, rfl⟩
  have hP : C3 w2 pb (.int .i64 2) (.int .i64 0) (.int .i64 (-2)) := by rw [hw2, hpb]; exact C3.new _ _ _ _ _
  have HB2 := Lib.hid (show Below w1.heap.size w1 w2 from by rw [hw2]; exact (Below.refl _ _).alloc (Nat.le_refl _) _)
  obtain ⟨t, ht⟩ : ∃ t, plB (knB f n x) ⟨x, p, u, d⟩ false = t := ⟨_, rfl⟩
  rw [ht] at hv2 hpl
  have CP := Lib.hid (isPull_any x p u d mb n f pb 3 3 [2, 0, -2] w2 ((hm.on HB.out).on HB2.out) hx rfl (by omega) (fun j hj => by
    have : j = 0 ∨ j = 1 ∨ j = 2 := by simp at hj; omega
    rcases this with rfl | rfl | rfl
    · exact hP.c0
    · exact hP.c1
    · exact hP.c2) hP.lt t hpl)
  have CV := fun W => Lib.hid (Valid_any u d W hu.1 hu.2 hd.1 hd.2)
  have CI := fun W => Lib.hid (kwithin_any u d 100 W)
  obtain ⟨t2, ht2⟩ : ∃ t, vB u d = t := ⟨_, rfl⟩
  obtain ⟨t3, ht3⟩ : ∃ t, (decide (d ≤ u) && decide (u ≤ 100)) = t := ⟨_, rfl⟩
  rw [ht2] at CV hv2
  rw [ht3] at CI hv2
  have c0 := hC.c0
  have c1 := hC.c1
  have c2 := hC.c2
  have c3 := hC.c3
  have HC := Lib.hid (hC.on HB2.out)
  have HE : Hid (w2 = w1.alloc (Obj.cells #[Value.int .i64 2, .int .i64 0, .int .i64 (-2)] 3) ∧ pb = w1.heap.size) := ⟨hw2, hpb⟩
  clear hv ht hpl hP hC hm hw2 hpb hu hd ht2 ht3
  have HF := Lib.hid (below_on HB.out HB2.out)
  cases t
  · rw [Bool.false_and] at hv2
    subst hv2
    go_enter Tryd.func96, Tryd.ntmps96
    go_upto_region 1 with fail
    rw [← hxb, ← hw1]
    clear hxb hw1
    go_wp2_with (first
      | (go_at_call 117; rw [← HE.out.1, ← HE.out.2]; (with_reducible refine (CP.out.mono ?_)); rintro e w3 ⟨rfl, hb3⟩; have HG := Lib.hid (below_on HF.out hb3); have HC2 := Lib.hid (HC.out.on hb3); have c2 := (HC.out.on hb3).c2; have c3 := (HC.out.on hb3).c3; clear hb3))
    go_ret
    exact ⟨rfl, HG.out⟩
  · rw [Bool.true_and] at hv2
    cases t2
    · rw [Bool.false_and] at hv2
      subst hv2
      go_enter Tryd.func96, Tryd.ntmps96
      go_upto_region 1 with fail
      rw [← hxb, ← hw1]
      clear hxb hw1
      go_wp2_with (first
        | (go_at_call 117; rw [← HE.out.1, ← HE.out.2]; (with_reducible refine (CP.out.mono ?_)); rintro e w3 ⟨rfl, hb3⟩; have HG := Lib.hid (below_on HF.out hb3); have HC2 := Lib.hid (HC.out.on hb3); have c2 := (HC.out.on hb3).c2; have c3 := (HC.out.on hb3).c3; clear hb3)
        | (go_at_call 118; (with_reducible refine ((CV _).out.mono ?_)); rintro e w4 ⟨rfl, hb4⟩; have HG2 := Lib.hid (below_on HG.out hb4); clear c2 c3; have c2 := ((HC2.out.on hb4)).c2; have c3 := (HC2.out.on hb4).c3; clear hb4))
      go_ret
      exact ⟨rfl, HG2.out⟩
    · rw [Bool.true_and] at hv2
      subst hv2
      go_enter Tryd.func96, Tryd.ntmps96
      go_upto_region 1 with fail
      rw [← hxb, ← hw1]
      clear hxb hw1
      go_wp2_with (first
        | (go_at_call 117; rw [← HE.out.1, ← HE.out.2]; (with_reducible refine (CP.out.mono ?_)); rintro e w3 ⟨rfl, hb3⟩; have HG := Lib.hid (below_on HF.out hb3); have HC2 := Lib.hid (HC.out.on hb3); have c2 := (HC.out.on hb3).c2; have c3 := (HC.out.on hb3).c3; clear hb3)
        | (go_at_call 118; (with_reducible refine ((CV _).out.mono ?_)); rintro e w4 ⟨rfl, hb4⟩; have HG2 := Lib.hid (below_on HG.out hb4); clear c2 c3; have c2 := ((HC2.out.on hb4)).c2; have c3 := (HC2.out.on hb4).c3; clear hb4)
        | (go_at_call 58; (with_reducible refine ((CI _).out.mono ?_)); rintro e w5 ⟨rfl, rfl⟩))
      go_ret
      exact ⟨rfl, HG2.out⟩
end Go.Proofs.YtcghjjfpjiacfaaDoor
