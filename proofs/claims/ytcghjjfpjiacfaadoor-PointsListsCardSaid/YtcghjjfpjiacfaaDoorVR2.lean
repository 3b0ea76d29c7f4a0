/- Layer 9: the reference's turns and points between. -/
import Derived.Test.YtcghjjfpjiacfaaDoorVR1
namespace Go.Proofs.YtcghjjfpjiacfaaDoor
open Go.ChangeShapes Go.WideShapes Go.ChangeAt Go.RowKit Go.Joins Go.Deep Go.Shelf
set_option linter.unusedVariables false

structure VtaR (b3 b4 b5 : Nat) (a b c pu pv : Pt) (Wc : World) (L : Nat → Bool) (v : Nat → Value) (g : Nat → Nat) (W : World) : Prop where
  st : Below Wc.heap.size Wc W
  b6 : Had L 6 (Wc.heap.size ≤ g 6 ∧ g 6 < W.heap.size)
  z6 : Had L 6 (L 8 = false → CB W (g 6) [.int .i64 0, .int .i64 0, .int .i64 0])
  y8 : Had L 8 (CB W (g 6) [.int .i64 pu.x, .int .i64 pu.y, .int .i64 pu.z])
  b7 : Had L 7 (Wc.heap.size ≤ g 7 ∧ g 7 < W.heap.size)
  z7 : Had L 7 (L 9 = false → CB W (g 7) [.int .i64 0, .int .i64 0, .int .i64 0])
  y9 : Had L 9 (CB W (g 7) [.int .i64 pv.x, .int .i64 pv.y, .int .i64 pv.z])
  n6x7 : Had2 L 6 7 (g 6 ≠ g 7)
  w2 : Had L 2 (∀ j ∈ [0, 1], L j = true)
  w5 : Had L 5 (∀ j ∈ [3, 4], L j = true)
  w8 : Had L 8 (∀ j ∈ [0, 1, 2, 5, 6, 7], L j = true)
  w9 : Had L 9 (∀ j ∈ [0, 1, 2, 3, 4, 5, 6, 7, 8], L j = true)
  f0 : Had L 0 (v 11 = .agg #[.int .i64 b.x, .int .i64 b.y, .int .i64 b.z])
  f1 : Had L 1 (v 12 = .agg #[.int .i64 a.x, .int .i64 a.y, .int .i64 a.z])
  f2 : Had L 2 (v 13 = .agg #[.int .i64 pu.x, .int .i64 pu.y, .int .i64 pu.z])
  f3 : Had L 3 (v 14 = .agg #[.int .i64 c.x, .int .i64 c.y, .int .i64 c.z])
  f4 : Had L 4 (v 15 = .agg #[.int .i64 a.x, .int .i64 a.y, .int .i64 a.z])
  f5 : Had L 5 (v 16 = .agg #[.int .i64 pv.x, .int .i64 pv.y, .int .i64 pv.z])
  f6 : Had L 6 (v 7 = .pointer (some ⟨g 6, 0, none⟩))
  f7 : Had L 7 (v 8 = .pointer (some ⟨g 7, 0, none⟩))
structure VtbR (b7 b8 : Nat) (pu pv : Pt) (x y : Int) (Wc : World) (L : Nat → Bool) (v : Nat → Value) (W : World) : Prop where
  st : Below Wc.heap.size Wc W
  w1 : Had L 1 (∀ j ∈ [0], L j = true)
  w3 : Had L 3 (∀ j ∈ [2], L j = true)
  w4 : Had L 4 (∀ j ∈ [1, 3], L j = true)
  w6 : Had L 6 (∀ j ∈ [5], L j = true)
  w8 : Had L 8 (∀ j ∈ [7], L j = true)
  w9 : Had L 9 (∀ j ∈ [6, 8], L j = true)
  w10 : Had L 10 (∀ j ∈ [4], L j = true)
  w11 : Had L 11 (∀ j ∈ [9], L j = true)
  f0 : Had L 0 (v 17 = .pointer (some ⟨b7, 0, none⟩))
  f1 : Had L 1 (v 18 = .int .i64 pu.x)
  f2 : Had L 2 (v 19 = .pointer (some ⟨b8, 1, none⟩))
  f3 : Had L 3 (v 20 = .int .i64 pv.y)
  f4 : Had L 4 (v 21 = .int .i64 x)
  f5 : Had L 5 (v 22 = .pointer (some ⟨b7, 1, none⟩))
  f6 : Had L 6 (v 23 = .int .i64 pu.y)
  f7 : Had L 7 (v 24 = .pointer (some ⟨b8, 0, none⟩))
  f8 : Had L 8 (v 25 = .int .i64 pv.x)
  f9 : Had L 9 (v 26 = .int .i64 y)
  f10 : Had L 10 (v 9 = .int .i64 x)
  f11 : Had L 11 (v 10 = .int .i64 y)
set_option maxRecDepth 100000 in
set_option maxHeartbeats 16000000 in
theorem rTurn_any (a b c : Pt) (w : World) (ha : a.ok) (hb : b.ok) (hc : c.ok) : Calls Tryd.prog 55 #[.agg #[.int .i64 a.x, .int .i64 a.y, .int .i64 a.z], .agg #[.int .i64 b.x, .int .i64 b.y, .int .i64 b.z], .agg #[.int .i64 c.x, .int .i64 c.y, .int .i64 c.z]] w fun r w' => r = .returned (.int .i64 (sgI (tnI a b c))) ∧ Below w.heap.size w w' := by
  obtain ⟨w1, hw1⟩ : ∃ W, W = ((w.alloc (Obj.cells #[.int .i64 a.x, .int .i64 a.y, .int .i64 a.z] 23)).alloc (Obj.cells #[.int .i64 b.x, .int .i64 b.y, .int .i64 b.z] 23)).alloc (Obj.cells #[.int .i64 c.x, .int .i64 c.y, .int .i64 c.z] 23) := ⟨_, rfl⟩
  obtain ⟨hb1, hA, hB, hC⟩ := three_boxes w a b c _ _ _ w1 hw1
  obtain ⟨b3, hb3⟩ : ∃ x, x = w.heap.size := ⟨_, rfl⟩
  obtain ⟨b4, hb4⟩ : ∃ x, x = w.heap.size + 1 := ⟨_, rfl⟩
  obtain ⟨b5, hb5⟩ : ∃ x, x = w.heap.size + 1 + 1 := ⟨_, rfl⟩
  have HS : Hid (b3 = w.heap.size ∧ b4 = w.heap.size + 1 ∧ b5 = w.heap.size + 1 + 1 ∧ w1 = ((w.alloc (Obj.cells #[.int .i64 a.x, .int .i64 a.y, .int .i64 a.z] 23)).alloc (Obj.cells #[.int .i64 b.x, .int .i64 b.y, .int .i64 b.z] 23)).alloc (Obj.cells #[.int .i64 c.x, .int .i64 c.y, .int .i64 c.z] 23)) := ⟨hb3, hb4, hb5, hw1⟩
  rw [← hb3] at hA
  rw [← hb4] at hB
  rw [← hb5] at hC
  have HB := Lib.hid hb1
  have LA0 := Lib.hid (And.intro hA.c0 hA.lt)
  have LA1 := Lib.hid (And.intro hA.c1 hA.lt)
  have LA2 := Lib.hid (And.intro hA.c2 hA.lt)
  have LB0 := Lib.hid (And.intro hB.c0 hB.lt)
  have LB1 := Lib.hid (And.intro hB.c1 hB.lt)
  have LB2 := Lib.hid (And.intro hB.c2 hB.lt)
  have LC0 := Lib.hid (And.intro hC.c0 hC.lt)
  have LC1 := Lib.hid (And.intro hC.c1 hC.lt)
  have LC2 := Lib.hid (And.intro hC.c2 hC.lt)
  have CU := fun W => Lib.hid (rMin_any b a W hb ha)
  have CV := fun W => Lib.hid (rMin_any c a W hc ha)
  obtain ⟨u1, u2, _⟩ := sub_bd hb ha
  obtain ⟨v1, v2, _⟩ := sub_bd hc ha
  have e0 : tnI a b c = (b.sub a).x * (c.sub a).y - (b.sub a).y * (c.sub a).x := rfl
  obtain ⟨pu, hu⟩ : ∃ d, b.sub a = d := ⟨_, rfl⟩
  obtain ⟨pv, hv⟩ : ∃ d, c.sub a = d := ⟨_, rfl⟩
  rw [hu] at CU e0 u1 u2
  rw [hv] at CV e0 v1 v2
  have k1 := tn_bd (d := pu.x) (e := pv.y) u1.1 u1.2 v2.1 v2.2
  have k2 := tn_bd (d := pu.y) (e := pv.x) u2.1 u2.2 v1.1 v1.2
  obtain ⟨x, hx⟩ : ∃ x, pu.x * pv.y = x := ⟨_, rfl⟩
  obtain ⟨y, hy⟩ : ∃ x, pu.y * pv.x = x := ⟨_, rfl⟩
  rw [hx] at k1 e0
  rw [hy] at k2 e0
  have wx : IntKind.i64.wrap (pu.x * pv.y) = x := by rw [hx]; exact IntWalk.i64_in _ (by omega)
  have wy : IntKind.i64.wrap (pu.y * pv.x) = y := by rw [hy]; exact IntWalk.i64_in _ (by omega)
  obtain ⟨r, hr⟩ : ∃ r, sgI (tnI a b c) = r := ⟨_, rfl⟩
  rw [hr]
  have HR : Hid (r = if y < x then 1 else if x < y then -1 else 0) := by
    show r = _
    rw [← hr, e0]
    unfold sgI
    split <;> split <;> first | omega | (split <;> omega) | rfl
  clear hA hB hC hb1 hb3 hb4 hb5 hw1 hu hv hx hy hr e0 k1 k2 u1 u2 v1 v2 ha hb hc
  go_enter Tryd.func55, Tryd.ntmps55
  go_upto_region 1 with fail
  rw [← HS.out.2.2.2, ← HS.out.2.2.1, ← HS.out.2.1, ← HS.out.1]
  clear HS
  refine wp_region_each (fun L A W => ∃ (v : Nat → Value) (g : Nat → Nat), A = ⟨#[_, _, _, _, _, _, _, v 7, v 8, _, _, v 11, v 12, v 13, v 14, v 15, v 16, _, _, _, _, _, _, _, _, _, _, _, _, _, _, _, _], []⟩ ∧ VtaR b3 b4 b5 a b c pu pv w1 L v g W) (by kernel_rfl) (by kernel_rfl) ⟨fun jz => if jz = 11 then undef else if jz = 12 then undef else if jz = 13 then undef else if jz = 14 then undef else if jz = 15 then undef else if jz = 16 then undef else if jz = 7 then undef else if jz = 8 then undef else undef, fun _ => 0, rfl, ⟨(Below.drew (Below.refl _ _)), Had.none, Had.none, Had.none, Had.none, Had.none, Had.none, (fun h => by cases h), Had.none, Had.none, Had.none, Had.none, Had.none, Had.none, Had.none, Had.none, Had.none, Had.none, Had.none, Had.none⟩⟩ (rs := [0, 1, 2, 3, 4, 5, 6, 7, 8, 9]) (by kernel_rfl) ?_ ?_
  · refine EachOf.cons [] rfl (by kernel_rfl) ?_ ?_
    · rintro L A W ⟨v, g, rfl, hR⟩ hi hw KK hK
      have q0 := (hR.st.cell (p := ⟨b4, 0, none⟩) LB0.out.2).trans LB0.out.1
      have q1 := (hR.st.cell (p := ⟨b4, 1, none⟩) LB1.out.2).trans LB1.out.1
      have q2 := (hR.st.cell (p := ⟨b4, 2, none⟩) LB2.out.2).trans LB2.out.1
      go_simp
      refine hK.out _ _ ?_
      exact ⟨(fun jz => if jz = 11 then .agg #[.int .i64 b.x, .int .i64 b.y, .int .i64 b.z] else v jz), g, rfl, ⟨hR.st, hR.b6.k, (fun h h2 => hR.z6 (upd_back h rfl) (upd_false h2)), (fun h => hR.y8 (upd_back h rfl)), hR.b7.k, (fun h h2 => hR.z7 (upd_back h rfl) (upd_false h2)), (fun h => hR.y9 (upd_back h rfl)), (hR.n6x7.keep rfl rfl), hR.w2.o, hR.w5.o, hR.w8.o, hR.w9.o, (fun _ => rfl), hR.f1.k, hR.f2.k, hR.f3.k, hR.f4.k, hR.f5.k, hR.f6.k, hR.f7.k⟩⟩
    refine EachOf.cons [] rfl (by kernel_rfl) ?_ ?_
    · rintro L A W ⟨v, g, rfl, hR⟩ hi hw KK hK
      have q0 := (hR.st.cell (p := ⟨b3, 0, none⟩) LA0.out.2).trans LA0.out.1
      have q1 := (hR.st.cell (p := ⟨b3, 1, none⟩) LA1.out.2).trans LA1.out.1
      have q2 := (hR.st.cell (p := ⟨b3, 2, none⟩) LA2.out.2).trans LA2.out.1
      go_simp
      refine hK.out _ _ ?_
      exact ⟨(fun jz => if jz = 12 then .agg #[.int .i64 a.x, .int .i64 a.y, .int .i64 a.z] else v jz), g, rfl, ⟨hR.st, hR.b6.k, (fun h h2 => hR.z6 (upd_back h rfl) (upd_false h2)), (fun h => hR.y8 (upd_back h rfl)), hR.b7.k, (fun h h2 => hR.z7 (upd_back h rfl) (upd_false h2)), (fun h => hR.y9 (upd_back h rfl)), (hR.n6x7.keep rfl rfl), hR.w2.o, hR.w5.o, hR.w8.o, hR.w9.o, hR.f0.k, (fun _ => rfl), hR.f2.k, hR.f3.k, hR.f4.k, hR.f5.k, hR.f6.k, hR.f7.k⟩⟩
    refine EachOf.cons [0, 1] rfl (by kernel_rfl) ?_ ?_
    · rintro L A W ⟨v, g, rfl, hR⟩ hi hw KK hK
      have e0 := hR.f0 (hw 0 (by simp))
      have e1 := hR.f1 (hw 1 (by simp))
      simp only [e0, e1]
      clear e0 e1
      go_simp
      go_at_call 51
      (with_reducible refine ((CU _).out).mono ?_)
      rintro e w2 ⟨rfl, hb⟩
      go_simp
      refine hK.out _ _ ?_
      exact ⟨(fun jz => if jz = 11 then .agg #[.int .i64 b.x, .int .i64 b.y, .int .i64 b.z] else if jz = 12 then .agg #[.int .i64 a.x, .int .i64 a.y, .int .i64 a.z] else if jz = 13 then .agg #[.int .i64 pu.x, .int .i64 pu.y, .int .i64 pu.z] else v jz), g, rfl, ⟨below_on hR.st hb, (fun h => ⟨(hR.b6 (upd_back h rfl)).1, Nat.lt_of_lt_of_le (hR.b6 (upd_back h rfl)).2 hb.size⟩), (fun h h2 => (hR.z6 (upd_back h rfl) (upd_false h2)).on hb), (fun h => (hR.y8 (upd_back h rfl)).on hb), (fun h => ⟨(hR.b7 (upd_back h rfl)).1, Nat.lt_of_lt_of_le (hR.b7 (upd_back h rfl)).2 hb.size⟩), (fun h h2 => (hR.z7 (upd_back h rfl) (upd_false h2)).on hb), (fun h => (hR.y9 (upd_back h rfl)).on hb), (hR.n6x7.keep rfl rfl), (fun _ j hj => upd_on (hw j hj)), hR.w5.o, hR.w8.o, hR.w9.o, (fun _ => rfl), (fun _ => rfl), (fun _ => rfl), hR.f3.k, hR.f4.k, hR.f5.k, hR.f6.k, hR.f7.k⟩⟩
    refine EachOf.cons [] rfl (by kernel_rfl) ?_ ?_
    · rintro L A W ⟨v, g, rfl, hR⟩ hi hw KK hK
      have q0 := (hR.st.cell (p := ⟨b5, 0, none⟩) LC0.out.2).trans LC0.out.1
      have q1 := (hR.st.cell (p := ⟨b5, 1, none⟩) LC1.out.2).trans LC1.out.1
      have q2 := (hR.st.cell (p := ⟨b5, 2, none⟩) LC2.out.2).trans LC2.out.1
      go_simp
      refine hK.out _ _ ?_
      exact ⟨(fun jz => if jz = 14 then .agg #[.int .i64 c.x, .int .i64 c.y, .int .i64 c.z] else v jz), g, rfl, ⟨hR.st, hR.b6.k, (fun h h2 => hR.z6 (upd_back h rfl) (upd_false h2)), (fun h => hR.y8 (upd_back h rfl)), hR.b7.k, (fun h h2 => hR.z7 (upd_back h rfl) (upd_false h2)), (fun h => hR.y9 (upd_back h rfl)), (hR.n6x7.keep rfl rfl), hR.w2.o, hR.w5.o, hR.w8.o, hR.w9.o, hR.f0.k, hR.f1.k, hR.f2.k, (fun _ => rfl), hR.f4.k, hR.f5.k, hR.f6.k, hR.f7.k⟩⟩
    refine EachOf.cons [] rfl (by kernel_rfl) ?_ ?_
    · rintro L A W ⟨v, g, rfl, hR⟩ hi hw KK hK
      have q0 := (hR.st.cell (p := ⟨b3, 0, none⟩) LA0.out.2).trans LA0.out.1
      have q1 := (hR.st.cell (p := ⟨b3, 1, none⟩) LA1.out.2).trans LA1.out.1
      have q2 := (hR.st.cell (p := ⟨b3, 2, none⟩) LA2.out.2).trans LA2.out.1
      go_simp
      refine hK.out _ _ ?_
      exact ⟨(fun jz => if jz = 15 then .agg #[.int .i64 a.x, .int .i64 a.y, .int .i64 a.z] else v jz), g, rfl, ⟨hR.st, hR.b6.k, (fun h h2 => hR.z6 (upd_back h rfl) (upd_false h2)), (fun h => hR.y8 (upd_back h rfl)), hR.b7.k, (fun h h2 => hR.z7 (upd_back h rfl) (upd_false h2)), (fun h => hR.y9 (upd_back h rfl)), (hR.n6x7.keep rfl rfl), hR.w2.o, hR.w5.o, hR.w8.o, hR.w9.o, hR.f0.k, hR.f1.k, hR.f2.k, hR.f3.k, (fun _ => rfl), hR.f5.k, hR.f6.k, hR.f7.k⟩⟩
    refine EachOf.cons [3, 4] rfl (by kernel_rfl) ?_ ?_
    · rintro L A W ⟨v, g, rfl, hR⟩ hi hw KK hK
      have e3 := hR.f3 (hw 3 (by simp))
      have e4 := hR.f4 (hw 4 (by simp))
      simp only [e3, e4]
      clear e3 e4
      go_simp
      go_at_call 51
      (with_reducible refine ((CV _).out).mono ?_)
      rintro e w2 ⟨rfl, hb⟩
      go_simp
      refine hK.out _ _ ?_
      exact ⟨(fun jz => if jz = 14 then .agg #[.int .i64 c.x, .int .i64 c.y, .int .i64 c.z] else if jz = 15 then .agg #[.int .i64 a.x, .int .i64 a.y, .int .i64 a.z] else if jz = 16 then .agg #[.int .i64 pv.x, .int .i64 pv.y, .int .i64 pv.z] else v jz), g, rfl, ⟨below_on hR.st hb, (fun h => ⟨(hR.b6 (upd_back h rfl)).1, Nat.lt_of_lt_of_le (hR.b6 (upd_back h rfl)).2 hb.size⟩), (fun h h2 => (hR.z6 (upd_back h rfl) (upd_false h2)).on hb), (fun h => (hR.y8 (upd_back h rfl)).on hb), (fun h => ⟨(hR.b7 (upd_back h rfl)).1, Nat.lt_of_lt_of_le (hR.b7 (upd_back h rfl)).2 hb.size⟩), (fun h h2 => (hR.z7 (upd_back h rfl) (upd_false h2)).on hb), (fun h => (hR.y9 (upd_back h rfl)).on hb), (hR.n6x7.keep rfl rfl), hR.w2.o, (fun _ j hj => upd_on (hw j hj)), hR.w8.o, hR.w9.o, hR.f0.k, hR.f1.k, hR.f2.k, (fun _ => rfl), (fun _ => rfl), (fun _ => rfl), hR.f6.k, hR.f7.k⟩⟩
    refine EachOf.cons [] rfl (by kernel_rfl) ?_ ?_
    · rintro L A W ⟨v, g, rfl, hR⟩ hi hw KK hK
      have hz : w1.heap.size ≤ W.heap.size := hR.st.size
      go_simp
      refine hK.out _ _ ?_
      have hb : Below W.heap.size W (W.alloc (Obj.cells #[Value.int .i64 0, Value.int .i64 0, Value.int .i64 0] 23)) := (Below.refl _ _).alloc (Nat.le_refl _) _
      have hnew : CB (W.alloc (Obj.cells #[Value.int .i64 0, Value.int .i64 0, Value.int .i64 0] 23)) W.heap.size [.int .i64 0, .int .i64 0, .int .i64 0] := cb_new _ _ _
      exact ⟨(fun jz => if jz = 7 then .pointer (some ⟨W.heap.size, 0, none⟩) else v jz), (fun jz => if jz = 6 then W.heap.size else g jz), rfl, ⟨below_on hR.st hb, (fun _ => ⟨hz, by simp⟩), (fun _ _ => hnew), (fun h => absurd (hR.w8 (upd_back h rfl) 6 (by simp)) (by simp [hi])), (fun h => ⟨(hR.b7 (upd_back h rfl)).1, Nat.lt_of_lt_of_le (hR.b7 (upd_back h rfl)).2 hb.size⟩), (fun h h2 => (hR.z7 (upd_back h rfl) (upd_false h2)).on hb), (fun h => (hR.y9 (upd_back h rfl)).on hb), (fun _ h => (Nat.ne_of_lt (hR.b7 (upd_back h rfl)).2).symm), hR.w2.o, hR.w5.o, hR.w8.o, hR.w9.o, hR.f0.k, hR.f1.k, hR.f2.k, hR.f3.k, hR.f4.k, hR.f5.k, (fun _ => rfl), hR.f7.k⟩⟩
    refine EachOf.cons [] rfl (by kernel_rfl) ?_ ?_
    · rintro L A W ⟨v, g, rfl, hR⟩ hi hw KK hK
      have hz : w1.heap.size ≤ W.heap.size := hR.st.size
      go_simp
      refine hK.out _ _ ?_
      have hb : Below W.heap.size W (W.alloc (Obj.cells #[Value.int .i64 0, Value.int .i64 0, Value.int .i64 0] 23)) := (Below.refl _ _).alloc (Nat.le_refl _) _
      have hnew : CB (W.alloc (Obj.cells #[Value.int .i64 0, Value.int .i64 0, Value.int .i64 0] 23)) W.heap.size [.int .i64 0, .int .i64 0, .int .i64 0] := cb_new _ _ _
      exact ⟨(fun jz => if jz = 8 then .pointer (some ⟨W.heap.size, 0, none⟩) else v jz), (fun jz => if jz = 7 then W.heap.size else g jz), rfl, ⟨below_on hR.st hb, (fun h => ⟨(hR.b6 (upd_back h rfl)).1, Nat.lt_of_lt_of_le (hR.b6 (upd_back h rfl)).2 hb.size⟩), (fun h h2 => (hR.z6 (upd_back h rfl) (upd_false h2)).on hb), (fun h => (hR.y8 (upd_back h rfl)).on hb), (fun _ => ⟨hz, by simp⟩), (fun _ _ => hnew), (fun h => absurd (hR.w9 (upd_back h rfl) 7 (by simp)) (by simp [hi])), (fun h _ => Nat.ne_of_lt (hR.b6 (upd_back h rfl)).2), hR.w2.o, hR.w5.o, hR.w8.o, hR.w9.o, hR.f0.k, hR.f1.k, hR.f2.k, hR.f3.k, hR.f4.k, hR.f5.k, hR.f6.k, (fun _ => rfl)⟩⟩
    refine EachOf.cons [0, 1, 2, 5, 6, 7] rfl (by kernel_rfl) ?_ ?_
    · rintro L A W ⟨v, g, rfl, hR⟩ hi hw KK hK
      have e6 := hR.f6 (hw 6 (by simp))
      have e2 := hR.f2 (hw 2 (by simp))
      simp only [e6, e2]
      clear e6 e2
      have hzz := hR.z6 (hw 6 (by simp)) hi
      have hbb := hR.b6 (hw 6 (by simp))
      have q0 := hzz.cell 0 _ rfl
      have y0 := hzz.fz 0
      have q1 := hzz.cell 1 _ rfl
      have y1 := hzz.fz 1
      have q2 := hzz.cell 2 _ rfl
      have y2 := hzz.fz 2
      have ql := hzz.lt
      go_simp
      refine hK.out _ _ ?_
      exact ⟨(fun jz => if jz = 7 then .pointer (some ⟨g 6, 0, none⟩) else if jz = 13 then .agg #[.int .i64 pu.x, .int .i64 pu.y, .int .i64 pu.z] else v jz), g, rfl, ⟨(stL_below hbb.1 [.int .i64 pu.x, .int .i64 pu.y, .int .i64 pu.z] W 0 hR.st), (fun h => ⟨(hR.b6 (upd_back h rfl)).1, Nat.lt_of_lt_of_eq (hR.b6 (upd_back h rfl)).2 (stL_size (b := g 6) [.int .i64 pu.x, .int .i64 pu.y, .int .i64 pu.z] W 0).symm⟩), (fun _ h => by simp [upd_self] at h), (fun _ => CB.fill (vs := [.int .i64 pu.x, .int .i64 pu.y, .int .i64 pu.z]) hzz rfl), (fun h => ⟨(hR.b7 (upd_back h rfl)).1, Nat.lt_of_lt_of_eq (hR.b7 (upd_back h rfl)).2 (stL_size (b := g 6) [.int .i64 pu.x, .int .i64 pu.y, .int .i64 pu.z] W 0).symm⟩), (fun h h2 => stL_far (hR.n6x7 (hw 6 (by simp)) (upd_back h rfl)) [.int .i64 pu.x, .int .i64 pu.y, .int .i64 pu.z] W 0 (hR.z7 (upd_back h rfl) (upd_false h2))), (fun h => stL_far (hR.n6x7 (hw 6 (by simp)) (hR.w9 (upd_back h rfl) 7 (by simp))) [.int .i64 pu.x, .int .i64 pu.y, .int .i64 pu.z] W 0 (hR.y9 (upd_back h rfl))), (hR.n6x7.keep rfl rfl), hR.w2.o, hR.w5.o, (fun _ j hj => upd_on (hw j hj)), hR.w9.o, hR.f0.k, hR.f1.k, (fun _ => rfl), hR.f3.k, hR.f4.k, hR.f5.k, (fun _ => rfl), hR.f7.k⟩⟩
    refine EachOf.cons [0, 1, 2, 3, 4, 5, 6, 7, 8] rfl (by kernel_rfl) ?_ ?_
    · rintro L A W ⟨v, g, rfl, hR⟩ hi hw KK hK
      have e7 := hR.f7 (hw 7 (by simp))
      have e5 := hR.f5 (hw 5 (by simp))
      simp only [e7, e5]
      clear e7 e5
      have hzz := hR.z7 (hw 7 (by simp)) hi
      have hbb := hR.b7 (hw 7 (by simp))
      have q0 := hzz.cell 0 _ rfl
      have y0 := hzz.fz 0
      have q1 := hzz.cell 1 _ rfl
      have y1 := hzz.fz 1
      have q2 := hzz.cell 2 _ rfl
      have y2 := hzz.fz 2
      have ql := hzz.lt
      go_simp
      refine hK.out _ _ ?_
      exact ⟨(fun jz => if jz = 8 then .pointer (some ⟨g 7, 0, none⟩) else if jz = 16 then .agg #[.int .i64 pv.x, .int .i64 pv.y, .int .i64 pv.z] else v jz), g, rfl, ⟨(stL_below hbb.1 [.int .i64 pv.x, .int .i64 pv.y, .int .i64 pv.z] W 0 hR.st), (fun h => ⟨(hR.b6 (upd_back h rfl)).1, Nat.lt_of_lt_of_eq (hR.b6 (upd_back h rfl)).2 (stL_size (b := g 7) [.int .i64 pv.x, .int .i64 pv.y, .int .i64 pv.z] W 0).symm⟩), (fun h h2 => stL_far (fun q => hR.n6x7 (upd_back h rfl) (hw 7 (by simp)) q.symm) [.int .i64 pv.x, .int .i64 pv.y, .int .i64 pv.z] W 0 (hR.z6 (upd_back h rfl) (upd_false h2))), (fun h => stL_far (fun q => hR.n6x7 (hR.w8 (upd_back h rfl) 6 (by simp)) (hw 7 (by simp)) q.symm) [.int .i64 pv.x, .int .i64 pv.y, .int .i64 pv.z] W 0 (hR.y8 (upd_back h rfl))), (fun h => ⟨(hR.b7 (upd_back h rfl)).1, Nat.lt_of_lt_of_eq (hR.b7 (upd_back h rfl)).2 (stL_size (b := g 7) [.int .i64 pv.x, .int .i64 pv.y, .int .i64 pv.z] W 0).symm⟩), (fun _ h => by simp [upd_self] at h), (fun _ => CB.fill (vs := [.int .i64 pv.x, .int .i64 pv.y, .int .i64 pv.z]) hzz rfl), (hR.n6x7.keep rfl rfl), hR.w2.o, hR.w5.o, hR.w8.o, (fun _ j hj => upd_on (hw j hj)), hR.f0.k, hR.f1.k, hR.f2.k, hR.f3.k, hR.f4.k, (fun _ => rfl), hR.f6.k, (fun _ => rfl)⟩⟩
    exact EachOf.nil
  rintro L A W6 ⟨va, g, rfl, hR⟩ hL
  have e6 := hR.f6 (hL 6 (by simp))
  have e7 := hR.f7 (hL 7 (by simp))
  simp only [e6, e7]
  have D6 := (hR.y8 (hL 8 (by simp))).b3
  have D7 := (hR.y9 (hL 9 (by simp))).b3
  have HB6 := Lib.hid (below_on HB.out hR.st)
  generalize g 6 = b7 at *
  generalize g 7 = b8 at *
  have LU0 := Lib.hid (And.intro D6.c0 D6.lt)
  have LU1 := Lib.hid (And.intro D6.c1 D6.lt)
  have LV0 := Lib.hid (And.intro D7.c0 D7.lt)
  have LV1 := Lib.hid (And.intro D7.c1 D7.lt)
  clear e6 e7 D6 D7 hR hL LA0 LA1 LA2 LB0 LB1 LB2 LC0 LC1 LC2 CU CV HB
  go_upto_region 2 with fail
  refine wp_region_each (fun L A W => ∃ (v : Nat → Value), A = ⟨#[_, _, _, _, _, _, _, _, _, v 9, v 10, _, _, _, _, _, _, v 17, v 18, v 19, v 20, v 21, v 22, v 23, v 24, v 25, v 26, _, _, _, _, _, _], []⟩ ∧ VtbR b7 b8 pu pv x y W6 L v W) (by kernel_rfl) (by kernel_rfl) ⟨fun jz => if jz = 17 then undef else if jz = 18 then undef else if jz = 19 then undef else if jz = 20 then undef else if jz = 21 then undef else if jz = 22 then undef else if jz = 23 then undef else if jz = 24 then undef else if jz = 25 then undef else if jz = 26 then undef else if jz = 9 then undef else if jz = 10 then undef else undef, rfl, ⟨Below.drew (Below.refl _ _), Had.none, Had.none, Had.none, Had.none, Had.none, Had.none, Had.none, Had.none, Had.none, Had.none, Had.none, Had.none, Had.none, Had.none, Had.none, Had.none, Had.none, Had.none, Had.none, Had.none⟩⟩ (rs := [0, 1, 2, 3, 4, 5, 6, 7, 8, 9, 10, 11]) (by kernel_rfl) ?_ ?_
  · refine EachOf.cons [] rfl (by kernel_rfl) ?_ ?_
    · rintro L A W ⟨v, rfl, hR⟩ hi hw K hK
      go_simp
      refine hK.out _ _ ?_
      exact ⟨(fun jz => if jz = 17 then .pointer (some ⟨b7, 0, none⟩) else v jz), rfl, ⟨hR.st, hR.w1.o, hR.w3.o, hR.w4.o, hR.w6.o, hR.w8.o, hR.w9.o, hR.w10.o, hR.w11.o, (fun _ => rfl), hR.f1.k, hR.f2.k, hR.f3.k, hR.f4.k, hR.f5.k, hR.f6.k, hR.f7.k, hR.f8.k, hR.f9.k, hR.f10.k, hR.f11.k⟩⟩
    refine EachOf.cons [0] rfl (by kernel_rfl) ?_ ?_
    · rintro L A W ⟨v, rfl, hR⟩ hi hw K hK
      have e0 := hR.f0 (hw 0 (by simp))
      simp only [e0]
      clear e0
      have q0 := (hR.st.cell (p := ⟨b7, 0, none⟩) LU0.out.2).trans LU0.out.1
      go_simp
      refine hK.out _ _ ?_
      exact ⟨(fun jz => if jz = 17 then .pointer (some ⟨b7, 0, none⟩) else if jz = 18 then .int .i64 pu.x else v jz), rfl, ⟨hR.st, (fun _ j hj => upd_on (hw j hj)), hR.w3.o, hR.w4.o, hR.w6.o, hR.w8.o, hR.w9.o, hR.w10.o, hR.w11.o, (fun _ => rfl), (fun _ => rfl), hR.f2.k, hR.f3.k, hR.f4.k, hR.f5.k, hR.f6.k, hR.f7.k, hR.f8.k, hR.f9.k, hR.f10.k, hR.f11.k⟩⟩
    refine EachOf.cons [] rfl (by kernel_rfl) ?_ ?_
    · rintro L A W ⟨v, rfl, hR⟩ hi hw K hK
      go_simp
      refine hK.out _ _ ?_
      exact ⟨(fun jz => if jz = 19 then .pointer (some ⟨b8, 1, none⟩) else v jz), rfl, ⟨hR.st, hR.w1.o, hR.w3.o, hR.w4.o, hR.w6.o, hR.w8.o, hR.w9.o, hR.w10.o, hR.w11.o, hR.f0.k, hR.f1.k, (fun _ => rfl), hR.f3.k, hR.f4.k, hR.f5.k, hR.f6.k, hR.f7.k, hR.f8.k, hR.f9.k, hR.f10.k, hR.f11.k⟩⟩
    refine EachOf.cons [2] rfl (by kernel_rfl) ?_ ?_
    · rintro L A W ⟨v, rfl, hR⟩ hi hw K hK
      have e2 := hR.f2 (hw 2 (by simp))
      simp only [e2]
      clear e2
      have q0 := (hR.st.cell (p := ⟨b8, 1, none⟩) LV1.out.2).trans LV1.out.1
      go_simp
      refine hK.out _ _ ?_
      exact ⟨(fun jz => if jz = 19 then .pointer (some ⟨b8, 1, none⟩) else if jz = 20 then .int .i64 pv.y else v jz), rfl, ⟨hR.st, hR.w1.o, (fun _ j hj => upd_on (hw j hj)), hR.w4.o, hR.w6.o, hR.w8.o, hR.w9.o, hR.w10.o, hR.w11.o, hR.f0.k, hR.f1.k, (fun _ => rfl), (fun _ => rfl), hR.f4.k, hR.f5.k, hR.f6.k, hR.f7.k, hR.f8.k, hR.f9.k, hR.f10.k, hR.f11.k⟩⟩
    refine EachOf.cons [1, 3] rfl (by kernel_rfl) ?_ ?_
    · rintro L A W ⟨v, rfl, hR⟩ hi hw K hK
      have e1 := hR.f1 (hw 1 (by simp))
      have e3 := hR.f3 (hw 3 (by simp))
      simp only [e1, e3]
      clear e1 e3
      go_simp
      refine hK.out _ _ ?_
      exact ⟨(fun jz => if jz = 18 then .int .i64 pu.x else if jz = 20 then .int .i64 pv.y else if jz = 21 then .int .i64 x else v jz), rfl, ⟨hR.st, hR.w1.o, hR.w3.o, (fun _ j hj => upd_on (hw j hj)), hR.w6.o, hR.w8.o, hR.w9.o, hR.w10.o, hR.w11.o, hR.f0.k, (fun _ => rfl), hR.f2.k, (fun _ => rfl), (fun _ => rfl), hR.f5.k, hR.f6.k, hR.f7.k, hR.f8.k, hR.f9.k, hR.f10.k, hR.f11.k⟩⟩
    refine EachOf.cons [] rfl (by kernel_rfl) ?_ ?_
    · rintro L A W ⟨v, rfl, hR⟩ hi hw K hK
      go_simp
      refine hK.out _ _ ?_
      exact ⟨(fun jz => if jz = 22 then .pointer (some ⟨b7, 1, none⟩) else v jz), rfl, ⟨hR.st, hR.w1.o, hR.w3.o, hR.w4.o, hR.w6.o, hR.w8.o, hR.w9.o, hR.w10.o, hR.w11.o, hR.f0.k, hR.f1.k, hR.f2.k, hR.f3.k, hR.f4.k, (fun _ => rfl), hR.f6.k, hR.f7.k, hR.f8.k, hR.f9.k, hR.f10.k, hR.f11.k⟩⟩
    refine EachOf.cons [5] rfl (by kernel_rfl) ?_ ?_
    · rintro L A W ⟨v, rfl, hR⟩ hi hw K hK
      have e5 := hR.f5 (hw 5 (by simp))
      simp only [e5]
      clear e5
      have q0 := (hR.st.cell (p := ⟨b7, 1, none⟩) LU1.out.2).trans LU1.out.1
      go_simp
      refine hK.out _ _ ?_
      exact ⟨(fun jz => if jz = 22 then .pointer (some ⟨b7, 1, none⟩) else if jz = 23 then .int .i64 pu.y else v jz), rfl, ⟨hR.st, hR.w1.o, hR.w3.o, hR.w4.o, (fun _ j hj => upd_on (hw j hj)), hR.w8.o, hR.w9.o, hR.w10.o, hR.w11.o, hR.f0.k, hR.f1.k, hR.f2.k, hR.f3.k, hR.f4.k, (fun _ => rfl), (fun _ => rfl), hR.f7.k, hR.f8.k, hR.f9.k, hR.f10.k, hR.f11.k⟩⟩
    refine EachOf.cons [] rfl (by kernel_rfl) ?_ ?_
    · rintro L A W ⟨v, rfl, hR⟩ hi hw K hK
      go_simp
      refine hK.out _ _ ?_
      exact ⟨(fun jz => if jz = 24 then .pointer (some ⟨b8, 0, none⟩) else v jz), rfl, ⟨hR.st, hR.w1.o, hR.w3.o, hR.w4.o, hR.w6.o, hR.w8.o, hR.w9.o, hR.w10.o, hR.w11.o, hR.f0.k, hR.f1.k, hR.f2.k, hR.f3.k, hR.f4.k, hR.f5.k, hR.f6.k, (fun _ => rfl), hR.f8.k, hR.f9.k, hR.f10.k, hR.f11.k⟩⟩
    refine EachOf.cons [7] rfl (by kernel_rfl) ?_ ?_
    · rintro L A W ⟨v, rfl, hR⟩ hi hw K hK
      have e7 := hR.f7 (hw 7 (by simp))
      simp only [e7]
      clear e7
      have q0 := (hR.st.cell (p := ⟨b8, 0, none⟩) LV0.out.2).trans LV0.out.1
      go_simp
      refine hK.out _ _ ?_
      exact ⟨(fun jz => if jz = 24 then .pointer (some ⟨b8, 0, none⟩) else if jz = 25 then .int .i64 pv.x else v jz), rfl, ⟨hR.st, hR.w1.o, hR.w3.o, hR.w4.o, hR.w6.o, (fun _ j hj => upd_on (hw j hj)), hR.w9.o, hR.w10.o, hR.w11.o, hR.f0.k, hR.f1.k, hR.f2.k, hR.f3.k, hR.f4.k, hR.f5.k, hR.f6.k, (fun _ => rfl), (fun _ => rfl), hR.f9.k, hR.f10.k, hR.f11.k⟩⟩
    refine EachOf.cons [6, 8] rfl (by kernel_rfl) ?_ ?_
    · rintro L A W ⟨v, rfl, hR⟩ hi hw K hK
      have e6 := hR.f6 (hw 6 (by simp))
      have e8 := hR.f8 (hw 8 (by simp))
      simp only [e6, e8]
      clear e6 e8
      go_simp
      refine hK.out _ _ ?_
      exact ⟨(fun jz => if jz = 23 then .int .i64 pu.y else if jz = 25 then .int .i64 pv.x else if jz = 26 then .int .i64 y else v jz), rfl, ⟨hR.st, hR.w1.o, hR.w3.o, hR.w4.o, hR.w6.o, hR.w8.o, (fun _ j hj => upd_on (hw j hj)), hR.w10.o, hR.w11.o, hR.f0.k, hR.f1.k, hR.f2.k, hR.f3.k, hR.f4.k, hR.f5.k, (fun _ => rfl), hR.f7.k, (fun _ => rfl), (fun _ => rfl), hR.f10.k, hR.f11.k⟩⟩
    refine EachOf.cons [4] rfl (by kernel_rfl) ?_ ?_
    · rintro L A W ⟨v, rfl, hR⟩ hi hw K hK
      have e4 := hR.f4 (hw 4 (by simp))
      simp only [e4]
      clear e4
      go_simp
      refine hK.out _ _ ?_
      exact ⟨(fun jz => if jz = 21 then .int .i64 x else if jz = 9 then .int .i64 x else v jz), rfl, ⟨hR.st, hR.w1.o, hR.w3.o, hR.w4.o, hR.w6.o, hR.w8.o, hR.w9.o, (fun _ j hj => upd_on (hw j hj)), hR.w11.o, hR.f0.k, hR.f1.k, hR.f2.k, hR.f3.k, (fun _ => rfl), hR.f5.k, hR.f6.k, hR.f7.k, hR.f8.k, hR.f9.k, (fun _ => rfl), hR.f11.k⟩⟩
    refine EachOf.cons [9] rfl (by kernel_rfl) ?_ ?_
    · rintro L A W ⟨v, rfl, hR⟩ hi hw K hK
      have e9 := hR.f9 (hw 9 (by simp))
      simp only [e9]
      clear e9
      go_simp
      refine hK.out _ _ ?_
      exact ⟨(fun jz => if jz = 26 then .int .i64 y else if jz = 10 then .int .i64 y else v jz), rfl, ⟨hR.st, hR.w1.o, hR.w3.o, hR.w4.o, hR.w6.o, hR.w8.o, hR.w9.o, hR.w10.o, (fun _ j hj => upd_on (hw j hj)), hR.f0.k, hR.f1.k, hR.f2.k, hR.f3.k, hR.f4.k, hR.f5.k, hR.f6.k, hR.f7.k, hR.f8.k, (fun _ => rfl), hR.f10.k, (fun _ => rfl)⟩⟩
    exact EachOf.nil
  rintro L A W7 ⟨vb, rfl, hR⟩ hL
  have e20 := hR.f10 (hL 10 (by simp))
  have e21 := hR.f11 (hL 11 (by simp))
  simp only [e20, e21]
  have HB7 := Lib.hid (below_on HB6.out hR.st)
  clear e20 e21 hR hL LU0 LU1 LV0 LV1 HB6
  by_cases h1 : y < x
  · have d1 : decide (y < x) = true := decide_eq_true h1
    have HE : Hid (r = 1) := by show r = 1; rw [HR.out, if_pos h1]
    go_wp2_with fail
    go_ret
    exact ⟨by rw [HE.out]; rfl, HB7.out⟩
  · have d1 : decide (y < x) = false := decide_eq_false h1
    by_cases h2 : x < y
    · have d2 : decide (x < y) = true := decide_eq_true h2
      have HE : Hid (r = -1) := by show r = -1; rw [HR.out, if_neg h1, if_pos h2]
      go_wp2_with fail
      go_ret
      exact ⟨by rw [HE.out]; rfl, HB7.out⟩
    · have d2 : decide (x < y) = false := decide_eq_false h2
      have HE : Hid (r = 0) := by show r = 0; rw [HR.out, if_neg h1, if_neg h2]
      go_wp2_with fail
      go_ret
      exact ⟨by rw [HE.out]; rfl, HB7.out⟩
structure VtcR (b4 b8 b9 : Nat) (num den : Int) (a d : Pt) (mx my mz qx qy qz x y z : Int) (Wc : World) (L : Nat → Bool) (v : Nat → Value) (W : World) : Prop where
  st : L 28 = false → Below Wc.heap.size Wc W
  s1 : Had L 28 (∃ W2, Below Wc.heap.size Wc W2 ∧ W = ((W2.setCell ⟨b8, 0, none⟩ (.int .i64 x)).setCell ⟨b8, 1, none⟩ (.int .i64 y)).setCell ⟨b8, 2, none⟩ (.int .i64 z))
  w1 : Had L 1 (∀ j ∈ [0], L j = true)
  w3 : Had L 3 (∀ j ∈ [2], L j = true)
  w5 : Had L 5 (∀ j ∈ [3, 4], L j = true)
  w7 : Had L 7 (∀ j ∈ [5, 6], L j = true)
  w8 : Had L 8 (∀ j ∈ [1, 7], L j = true)
  w10 : Had L 10 (∀ j ∈ [9], L j = true)
  w12 : Had L 12 (∀ j ∈ [11], L j = true)
  w14 : Had L 14 (∀ j ∈ [12, 13], L j = true)
  w16 : Had L 16 (∀ j ∈ [14, 15], L j = true)
  w17 : Had L 17 (∀ j ∈ [10, 16], L j = true)
  w19 : Had L 19 (∀ j ∈ [18], L j = true)
  w21 : Had L 21 (∀ j ∈ [20], L j = true)
  w23 : Had L 23 (∀ j ∈ [21, 22], L j = true)
  w25 : Had L 25 (∀ j ∈ [23, 24], L j = true)
  w26 : Had L 26 (∀ j ∈ [19, 25], L j = true)
  w27 : Had L 27 (∀ j ∈ [8, 17, 26], L j = true)
  w28 : Had L 28 (∀ j ∈ [0, 1, 2, 3, 4, 5, 6, 7, 8, 9, 10, 11, 12, 13, 14, 15, 16, 17, 18, 19, 20, 21, 22, 23, 24, 25, 26, 27], L j = true)
  f0 : Had L 0 (v 13 = .pointer (some ⟨b4, 0, none⟩))
  f1 : Had L 1 (v 14 = .int .i64 a.x)
  f2 : Had L 2 (v 15 = .pointer (some ⟨b9, 0, none⟩))
  f3 : Had L 3 (v 16 = .int .i64 d.x)
  f4 : Had L 4 (v 17 = .int .i64 num)
  f5 : Had L 5 (v 18 = .int .i64 mx)
  f6 : Had L 6 (v 19 = .int .i64 den)
  f7 : Had L 7 (v 20 = .int .i64 qx)
  f8 : Had L 8 (v 21 = .int .i64 x)
  f9 : Had L 9 (v 22 = .pointer (some ⟨b4, 1, none⟩))
  f10 : Had L 10 (v 23 = .int .i64 a.y)
  f11 : Had L 11 (v 24 = .pointer (some ⟨b9, 1, none⟩))
  f12 : Had L 12 (v 25 = .int .i64 d.y)
  f13 : Had L 13 (v 26 = .int .i64 num)
  f14 : Had L 14 (v 27 = .int .i64 my)
  f15 : Had L 15 (v 28 = .int .i64 den)
  f16 : Had L 16 (v 29 = .int .i64 qy)
  f17 : Had L 17 (v 30 = .int .i64 y)
  f18 : Had L 18 (v 31 = .pointer (some ⟨b4, 2, none⟩))
  f19 : Had L 19 (v 32 = .int .i64 a.z)
  f20 : Had L 20 (v 33 = .pointer (some ⟨b9, 2, none⟩))
  f21 : Had L 21 (v 34 = .int .i64 d.z)
  f22 : Had L 22 (v 35 = .int .i64 num)
  f23 : Had L 23 (v 36 = .int .i64 mz)
  f24 : Had L 24 (v 37 = .int .i64 den)
  f25 : Had L 25 (v 38 = .int .i64 qz)
  f26 : Had L 26 (v 39 = .int .i64 z)
  f27 : Had L 27 (v 40 = .agg #[.int .i64 x, .int .i64 y, .int .i64 z])
end Go.Proofs.YtcghjjfpjiacfaaDoor
