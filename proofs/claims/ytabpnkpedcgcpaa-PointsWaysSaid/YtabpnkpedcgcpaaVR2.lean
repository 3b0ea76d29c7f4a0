/- Layer 9: the reference's turns and points between. -/
import Derived.Test.YtabpnkpedcgcpaaVR1
namespace Go.Proofs.Ytabpnkpedcgcpaa
open Go.ChangeShapes Go.WideShapes Go.ChangeAt Go.RowKit Go.Joins Go.Deep Go.Shelf
set_option linter.unusedVariables false

structure VtaR (b3 b4 b5 : Nat) (a b c pu pv : Pt) (Wc : World) (L : Nat → Bool) (v : Nat → Value) (g : Nat → Nat) (W : World) : Prop where
  st : Below Wc.heap.size Wc W
  b6 : Had L 6 (Wc.heap.size ≤ g 6 ∧ g 6 < W.heap.size)
  z6 : Had L 6 (L 8 = false → CB W (g 6) [.int .i64 0, .int .i64 0, .int .i64 0])
  y8 : Had L 8 (CB W (g 6) [.int .i64 pu.x, .int .i64 pu.y, .int .i64 pu.z])
  b7 : Had L 7 (Wc.heap.size ≤ g 7 ∧ g 7 < W.heap.size)
  z7 : Had L 7 (L 9 = false → CB W (g 7) [.int .i64 0, .int .i64 0, .int .i64 0])
  y9 : Had L 9 (CB W (g 7) [.int .i64 pv.x, .int .i64 pv.y, .int .i64 pv.z])
  n6x7 : Had2 L 6 7 (g 6 ≠ g 7)
  w2 : Had L 2 (∀ j ∈ [0, 1], L j = true)
  w5 : Had L 5 (∀ j ∈ [3, 4], L j = true)
  w8 : Had L 8 (∀ j ∈ [0, 1, 2, 5, 6, 7], L j = true)
  w9 : Had L 9 (∀ j ∈ [0, 1, 2, 3, 4, 5, 6, 7, 8], L j = true)
  f0 : Had L 0 (v 11 = .agg #[.int .i64 b.x, .int .i64 b.y, .int .i64 b.z])
  f1 : Had L 1 (v 12 = .agg #[.int .i64 a.x, .int .i64 a.y, .int .i64 a.z])
  f2 : Had L 2 (v 13 = .agg #[.int .i64 pu.x, .int .i64 pu.y, .int .i64 pu.z])
  f3 : Had L 3 (v 14 = .agg #[.int .i64 c.x, .int .i64 c.y, .int .i64 c.z])
  f4 : Had L 4 (v 15 = .agg #[.int .i64 a.x, .int .i64 a.y, .int .i64 a.z])
  f5 : Had L 5 (v 16 = .agg #[.int .i64 pv.x, .int .i64 pv.y, .int .i64 pv.z])
  f6 : Had L 6 (v 7 = .pointer (some ⟨g 6, 0, none⟩))
  f7 : Had L 7 (v 8 = .pointer (some ⟨g 7, 0, none⟩))
structure VtbR (b7 b8 : Nat) (pu pv : Pt) (x y : Int) (Wc : World) (L : Nat → Bool) (v : Nat → Value) (W : World) : Prop where
  st : Below Wc.heap.size Wc W
  w1 : Had L 1 (∀ j ∈ [0], L j = true)
  w3 : Had L 3 (∀ j ∈ [2], L j = true)
  w4 : Had L 4 (∀ j ∈ [1, 3], L j = true)
  w6 : Had L 6 (∀ j ∈ [5], L j = true)
  w8 : Had L 8 (∀ j ∈ [7], L j = true)
  w9 : Had L 9 (∀ j ∈ [6, 8], L j = true)
  w10 : Had L 10 (∀ j ∈ [4], L j = true)
  w11 : Had L 11 (∀ j ∈ [9], L j = true)
  f0 : Had L 0 (v 17 = .pointer (some ⟨b7, 0, none⟩))
  f1 : Had L 1 (v 18 = .int .i64 pu.x)
  f2 : Had L 2 (v 19 = .pointer (some ⟨b8, 1, none⟩))
  f3 : Had L 3 (v 20 = .int .i64 pv.y)
  f4 : Had L 4 (v 21 = .int .i64 x)
  f5 : Had L 5 (v 22 = .pointer (some ⟨b7, 1, none⟩))
  f6 : Had L 6 (v 23 = .int .i64 pu.y)
  f7 : Had L 7 (v 24 = .pointer (some ⟨b8, 0, none⟩))
  f8 : Had L 8 (v 25 = .int .i64 pv.x)
  f9 : Had L 9 (v 26 = .int .i64 y)
  f10 : Had L 10 (v 9 = .int .i64 x)
  f11 : Had L 11 (v 10 = .int .i64 y)
set_option maxRecDepth 100000 in
set_option maxHeartbeats 16000000 in
theorem rTurn_any (a b c : Pt) (w : World) (ha : a.ok) (hb : b.ok) (hc : c.ok) : Calls Try.prog 29 #[.agg #[.int .i64 a.x, .int .i64 a.y, .int .i64 a.z], .agg #[.int .i64 b.x, .int .i64 b.y, .int .i64 b.z], .agg #[.int .i64 c.x, .int .i64 c.y, .int .i64 c.z]] w fun r w' => r = .returned (.int .i64 (sgI (tnI a b c))) ∧ Below w.heap.size w w' := by
  obtain ⟨w1, hw1⟩ : ∃ W, W = ((w.alloc (Obj.cells #[.int .i64 a.x, .int .i64 a.y, .int .i64 a.z] 41)).alloc (Obj.cells #[.int .i64 b.x, .int .i64 b.y, .int .i64 b.z] 41)).alloc (Obj.cells #[.int .i64 c.x, .int .i64 c.y, .int .i64 c.z] 41) := ⟨_, rfl⟩
  obtain ⟨hb1, hA, hB, hC⟩ := three_boxes w a b c _ _ _ w1 hw1
  obtain ⟨b3, hb3⟩ : ∃ x, x = w.heap.size := ⟨_, rfl⟩
  obtain ⟨b4, hb4⟩ : ∃ x, x = w.heap.size + 1 := ⟨_, rfl⟩
  obtain ⟨b5, hb5⟩ : ∃ x, x = w.heap.size + 1 + 1 := ⟨_, rfl⟩
  have HS : Hid (b3 = w.heap.size ∧ b4 = w.heap.size + 1 ∧ b5 = w.heap.size + 1 + 1 ∧ w1 = ((w.alloc (Obj.cells #[.int .i64 a.x, .int .i64 a.y, .int .i64 a.z] 41)).alloc (Obj.cells #[.int .i64 b.x, .int .i64 b.y, .int .i64 b.z] 41)).alloc (Obj.cells #[.int .i64 c.x, .int .i64 c.y, .int .i64 c.z] 41)) := ⟨hb3, hb4, hb5, hw1⟩
  rw [← hb3] at hA
  rw [← hb4] at hB
  rw [← hb5] at hC
  have HB := Lib.hid hb1
  have LA0 := Lib.hid (And.intro hA.c0 hA.lt)
  have LA1 := Lib.hid (And.intro hA.c1 hA.lt)
  have LA2 := Lib.hid (And.intro hA.c2 hA.lt)
  have LB0 := Lib.hid (And.intro hB.c0 hB.lt)
  have LB1 := Lib.hid (And.intro hB.c1 hB.lt)
  have LB2 := Lib.hid (And.intro hB.c2 hB.lt)
  have LC0 := Lib.hid (And.intro hC.c0 hC.lt)
  have LC1 := Lib.hid (And.intro hC.c1 hC.lt)
  have LC2 := Lib.hid (And.intro hC.c2 hC.lt)
  have CU := fun W => Lib.hid (rMin_any b a W hb ha)
  have CV := fun W => Lib.hid (rMin_any c a W hc ha)
  obtain ⟨u1, u2, _⟩ := sub_bd hb ha
  obtain ⟨v1, v2, _⟩ := sub_bd hc ha
  have e0 : tnI a b c = (b.sub a).x * (c.sub a).y - (b.sub a).y * (c.sub a).x := rfl
  obtain ⟨pu, hu⟩ : ∃ d, b.sub a = d := ⟨_, rfl⟩
  obtain ⟨pv, hv⟩ : ∃ d, c.sub a = d := ⟨_, rfl⟩
  rw [hu] at CU e0 u1 u2
  rw [hv] at CV e0 v1 v2
  have k1 := tn_bd (d := pu.x) (e := pv.y) u1.1 u1.2 v2.1 v2.2
  have k2 := tn_bd (d := pu.y) (e := pv.x) u2.1 u2.2 v1.1 v1.2
  obtain ⟨x, hx⟩ : ∃ x, pu.x * pv.y = x := ⟨_, rfl⟩
  obtain ⟨y, hy⟩ : ∃ x, pu.y * pv.x = x := ⟨_, rfl⟩
  rw [hx] at k1 e0
  rw [hy] at k2 e0
  have wx : IntKind.i64.wrap (pu.x * pv.y) = x := by rw [hx]; exact IntWalk.i64_in _ (by omega)
  have wy : IntKind.i64.wrap (pu.y * pv.x) = y := by rw [hy]; exact IntWalk.i64_in _ (by omega)
  obtain ⟨r, hr⟩ : ∃ r, sgI (tnI a b c) = r := ⟨_, rfl⟩
  rw [hr]
  have HR : Hid (r = if y < x then 1 else if x < y then -1 else 0) := by
    show r = _
    rw [← hr, e0]
    unfold sgI
    split <;> split <;> first | omega | (split <;> omega) | rfl
  clear hA hB hC hb1 hb3 hb4 hb5 hw1 hu hv hx hy hr e0 k1 k2 u1 u2 v1 v2 ha hb hc
  go_enter Try.func29, Try.ntmps29
  go_upto_region 1 with fail
  rw [← HS.out.2.2.2, ← HS.out.2.2.1, ← HS.out.2.1, ← HS.out.1]
  clear HS
  refine wp_region_each (fun L A W => ∃ (v : Nat → Value) (g : Nat → Nat), A = ⟨#[_, _, _, _, _, _, _, v 7, v 8, _, _, v 11, v 12, v 13, v 14, v 15, v 16, _, _, _, _, _, _, _, _, _, _, _, _, _, _, _, _], []⟩ ∧ VtaR b3 b4 b5 a b c pu pv w1 L v g W) (by kernel_rfl) (by kernel_rfl) ⟨fun jz => if jz = 11 then undef else if jz = 12 then undef else if jz = 13 then undef else if jz = 14 then undef else if jz = 15 then undef else if jz = 16 then undef else if jz = 7 then undef else if jz = 8 then undef else undef, fun _ => 0, rfl, ⟨(Below.drew (Below.refl _ _)), Had.none, Had.none, Had.none, Had.none, Had.none, Had.none, (fun h => by cases h), Had.none, Had.none, Had.none, Had.none, Had.none, Had.none, Had.none, Had.none, Had.none, Had.none, Had.none, Had.none⟩⟩ (rs := [0, 1, 2, 3, 4, 5, 6, 7, 8, 9]) (by kernel_rfl) ?_ ?_
  · refine EachOf.cons [] rfl (by kernel_rfl) ?_ ?_
    · rintro L A W ⟨v, g, rfl, hR⟩ hi hw KK hK
      have q0 := (hR.st.cell (p := ⟨b4, 0, none⟩) LB0.out.2).trans LB0.out.1
      have q1 := (hR.st.cell (p := ⟨b4, 1, none⟩) LB1.out.2).trans LB1.out.1
      have q2 := (hR.st.cell (p := ⟨b4, 2, none⟩) LB2.out.2).trans LB2.out.1
      go_simp
      refine hK.out _ _ ?_
      exact ⟨(fun jz => if jz = 11 then .agg #[.int .i64 b.x, .int .i64 b.y, .int .i64 b.z] else v jz), g, rfl, ⟨hR.st, hR.b6.k, (fun h h2 => hR.z6 (upd_back h rfl) (upd_false h2)), (fun h => hR.y8 (upd_back h rfl)), hR.b7.k, (fun h h2 => hR.z7 (upd_back h rfl) (upd_false h2)), (fun h => hR.y9 (upd_back h rfl)), (hR.n6x7.keep rfl rfl), hR.w2.o, hR.w5.o, hR.w8.o, hR.w9.o, (fun _ => rfl), hR.f1.k, hR.f2.k, hR.f3.k, hR.f4.k, hR.f5.k, hR.f6.k, hR.f7.k⟩⟩
    refine EachOf.cons [] rfl (by kernel_rfl) ?_ ?_
    · rintro L A W ⟨v, g, rfl, hR⟩ hi hw KK hK
      have q0 := (hR.st.cell (p := ⟨b3, 0, none⟩) LA0.out.2).trans LA0.out.1
      have q1 := (hR.st.cell (p := ⟨b3, 1, none⟩) LA1.out.2).trans LA1.out.1
      have q2 := (hR.st.cell (p := ⟨b3, 2, none⟩) LA2.out.2).trans LA2.out.1
      go_simp
      refine hK.out _ _ ?_
      exact ⟨(fun jz => if jz = 12 then .agg #[.int .i64 a.x, .int .i64 a.y, .int .i64 a.z] else v jz), g, rfl, ⟨hR.st, hR.b6.k, (fun h h2 => hR.z6 (upd_back h rfl) (upd_false h2)), (fun h => hR.y8 (upd_back h rfl)), hR.b7.k, (fun h h2 => hR.z7 (upd_back h rfl) (upd_false h2)), (fun h => hR.y9 (upd_back h rfl)), (hR.n6x7.keep rfl rfl), hR.w2.o, hR.w5.o, hR.w8.o, hR.w9.o, hR.f0.k, (fun _ => rfl), hR.f2.k, hR.f3.k, hR.f4.k, hR.f5.k, hR.f6.k, hR.f7.k⟩⟩
    refine EachOf.cons [0, 1] rfl (by kernel_rfl) ?_ ?_
    · rintro L A W ⟨v, g, rfl, hR⟩ hi hw KK hK
      have e0 := hR.f0 (hw 0 (by simp))
      have e1 := hR.f1 (hw 1 (by simp))
      simp only [e0, e1]
      clear e0 e1
      go_simp
      go_at_call 57
      (with_reducible refine ((CU _).out).mono ?_)
      rintro e w2 ⟨rfl, hb⟩
      go_simp
      refine hK.out _ _ ?_
      exact ⟨(fun jz => if jz = 11 then .agg #[.int .i64 b.x, .int .i64 b.y, .int .i64 b.z] else if jz = 12 then .agg #[.int .i64 a.x, .int .i64 a.y, .int .i64 a.z] else if jz = 13 then .agg #[.int .i64 pu.x, .int .i64 pu.y, .int .i64 pu.z] else v jz), g, rfl, ⟨below_on hR.st hb, (fun h => ⟨(hR.b6 (upd_back h rfl)).1, Nat.lt_of_lt_of_le (hR.b6 (upd_back h rfl)).2 hb.size⟩), (fun h h2 => (hR.z6 (upd_back h rfl) (upd_false h2)).on hb), (fun h => (hR.y8 (upd_back h rfl)).on hb), (fun h => ⟨(hR.b7 (upd_back h rfl)).1, Nat.lt_of_lt_of_le (hR.b7 (upd_back h rfl)).2 hb.size⟩), (fun h h2 => (hR.z7 (upd_back h rfl) (upd_false h2)).on hb), (fun h => (hR.y9 (upd_back h rfl)).on hb), (hR.n6x7.keep rfl rfl), (fun _ j hj => upd_on (hw j hj)), hR.w5.o, hR.w8.o, hR.w9.o, (fun _ => rfl), (fun _ => rfl), (fun _ => rfl), hR.f3.k, hR.f4.k, hR.f5.k, hR.f6.k, hR.f7.k⟩⟩
    refine EachOf.cons [] rfl (by kernel_rfl) ?_ ?_
    · rintro L A W ⟨v, g, rfl, hR⟩ hi hw KK hK
      have q0 := (hR.st.cell (p := ⟨b5, 0, none⟩) LC0.out.2).trans LC0.out.1
      have q1 := (hR.st.cell (p := ⟨b5, 1, none⟩) LC1.out.2).trans LC1.out.1
      have q2 := (hR.st.cell (p := ⟨b5, 2, none⟩) LC2.out.2).trans LC2.out.1
      go_simp
      refine hK.out _ _ ?_
      exact ⟨(fun jz => if jz = 14 then .agg #[.int .i64 c.x, .int .i64 c.y, .int .i64 c.z] else v jz), g, rfl, ⟨hR.st, hR.b6.k, (fun h h2 => hR.z6 (upd_back h rfl) (upd_false h2)), (fun h => hR.y8 (upd_back h rfl)), hR.b7.k, (fun h h2 => hR.z7 (upd_back h rfl) (upd_false h2)), (fun h => hR.y9 (upd_back h rfl)), (hR.n6x7.keep rfl rfl), hR.w2.o, hR.w5.o, hR.w8.o, hR.w9.o, hR.f0.k, hR.f1.k, hR.f2.k, (fun _ => rfl), hR.f4.k, hR.f5.k, hR.f6.k, hR.f7.k⟩⟩
    refine EachOf.cons [] rfl (by kernel_rfl) ?_ ?_
    · rintro L A W ⟨v, g, rfl, hR⟩ hi hw KK hK
      have q0 := (hR.st.cell (p := ⟨b3, 0, none⟩) LA0.out.2).trans LA0.out.1
      have q1 := (hR.st.cell (p := ⟨b3, 1, none⟩) LA1.out.2).trans LA1.out.1
      have q2 := (hR.st.cell (p := ⟨b3, 2, none⟩) LA2.out.2).trans LA2.out.1
      go_simp
      refine hK.out _ _ ?_
      exact ⟨(fun jz => if jz = 15 then .agg #[.int .i64 a.x, .int .i64 a.y, .int .i64 a.z] else v jz), g, rfl, ⟨hR.st, hR.b6.k, (fun h h2 => hR.z6 (upd_back h rfl) (upd_false h2)), (fun h => hR.y8 (upd_back h rfl)), hR.b7.k, (fun h h2 => hR.z7 (upd_back h rfl) (upd_false h2)), (fun h => hR.y9 (upd_back h rfl)), (hR.n6x7.keep rfl rfl), hR.w2.o, hR.w5.o, hR.w8.o, hR.w9.o, hR.f0.k, hR.f1.k, hR.f2.k, hR.f3.k, (fun _ => rfl), hR.f5.k, hR.f6.k, hR.f7.k⟩⟩
    refine EachOf.cons [3, 4] rfl (by kernel_rfl) ?_ ?_
    · rintro L A W ⟨v, g, rfl, hR⟩ hi hw KK hK
      have e3 := hR.f3 (hw 3 (by simp))
      have e4 := hR.f4 (hw 4 (by simp))
      simp only [e3, e4]
      clear e3 e4
      go_simp
      go_at_call 57
      (with_reducible refine ((CV _).out).mono ?_)
      rintro e w2 ⟨rfl, hb⟩
      go_simp
      refine hK.out _ _ ?_
      exact ⟨(fun jz => if jz = 14 then .agg #[.int .i64 c.x, .int .i64 c.y, .int .i64 c.z] else if jz = 15 then .agg #[.int .i64 a.x, .int .i64 a.y, .int .i64 a.z] else if jz = 16 then .agg #[.int .i64 pv.x, .int .i64 pv.y, .int .i64 pv.z] else v jz), g, rfl, ⟨below_on hR.st hb, (fun h => ⟨(hR.b6 (upd_back h rfl)).1, Nat.lt_of_lt_of_le (hR.b6 (upd_back h rfl)).2 hb.size⟩), (fun h h2 => (hR.z6 (upd_back h rfl) (upd_false h2)).on hb), (fun h => (hR.y8 (upd_back h rfl)).on hb), (fun h => ⟨(hR.b7 (upd_back h rfl)).1, Nat.lt_of_lt_of_le (hR.b7 (upd_back h rfl)).2 hb.size⟩), (fun h h2 => (hR.z7 (upd_back h rfl) (upd_false h2)).on hb), (fun h => (hR.y9 (upd_back h rfl)).on hb), (hR.n6x7.keep rfl rfl), hR.w2.o, (fun _ j hj => upd_on (hw j hj)), hR.w8.o, hR.w9.o, hR.f0.k, hR.f1.k, hR.f2.k, (fun _ => rfl), (fun _ => rfl), (fun _ => rfl), hR.f6.k, hR.f7.k⟩⟩
    refine EachOf.cons [] rfl (by kernel_rfl) ?_ ?_
    · rintro L A W ⟨v, g, rfl, hR⟩ hi hw KK hK
      have hz : w1.heap.size ≤ W.heap.size := hR.st.size
      go_simp
      refine hK.out _ _ ?_
      have hb : Below W.heap.size W (W.alloc (Obj.cells #[Value.int .i64 0, Value.int .i64 0, Value.int .i64 0] 41)) := (Below.refl _ _).alloc (Nat.le_refl _) _
      have hnew : CB (W.alloc (Obj.cells #[Value.int .i64 0, Value.int .i64 0, Value.int .i64 0] 41)) W.heap.size [.int .i64 0, .int .i64 0, .int .i64 0] := cb_new _ _ _
      exact ⟨(fun jz => if jz = 7 then .pointer (some ⟨W.heap.size, 0, none⟩) else v jz), (fun jz => if jz = 6 then W.heap.size else g jz), rfl, ⟨below_on hR.st hb, (fun _ => ⟨hz, by simp⟩), (fun _ _ => hnew), (fun h => absurd (hR.w8 (upd_back h rfl) 6 (by simp)) (by simp [hi])), (fun h => ⟨(hR.b7 (upd_back h rfl)).1, Nat.lt_of_lt_of_le (hR.b7 (upd_back h rfl)).2 hb.size⟩), (fun h h2 => (hR.z7 (upd_back h rfl) (upd_false h2)).on hb), (fun h => (hR.y9 (upd_back h rfl)).on hb), (fun _ h => (Nat.ne_of_lt (hR.b7 (upd_back h rfl)).2).symm), hR.w2.o, hR.w5.o, hR.w8.o, hR.w9.o, hR.f0.k, hR.f1.k, hR.f2.k, hR.f3.k, hR.f4.k, hR.f5.k, (fun _ => rfl), hR.f7.k⟩⟩
    refine EachOf.cons [] rfl (by kernel_rfl) ?_ ?_
    · rintro L A W ⟨v, g, rfl, hR⟩ hi hw KK hK
      have hz : w1.heap.size ≤ W.heap.size := hR.st.size
      go_simp
      refine hK.out _ _ ?_
      have hb : Below W.heap.size W (W.alloc (Obj.cells #[Value.int .i64 0, Value.int .i64 0, Value.int .i64 0] 41)) := (Below.refl _ _).alloc (Nat.le_refl _) _
      have hnew : CB (W.alloc (Obj.cells #[Value.int .i64 0, Value.int .i64 0, Value.int .i64 0] 41)) W.heap.size [.int .i64 0, .int .i64 0, .int .i64 0] := cb_new _ _ _
      exact ⟨(fun jz => if jz = 8 then .pointer (some ⟨W.heap.size, 0, none⟩) else v jz), (fun jz => if jz = 7 then W.heap.size else g jz), rfl, ⟨below_on hR.st hb, (fun h => ⟨(hR.b6 (upd_back h rfl)).1, Nat.lt_of_lt_of_le (hR.b6 (upd_back h rfl)).2 hb.size⟩), (fun h h2 => (hR.z6 (upd_back h rfl) (upd_false h2)).on hb), (fun h => (hR.y8 (upd_back h rfl)).on hb), (fun _ => ⟨hz, by simp⟩), (fun _ _ => hnew), (fun h => absurd (hR.w9 (upd_back h rfl) 7 (by simp)) (by simp [hi])), (fun h _ => Nat.ne_of_lt (hR.b6 (upd_back h rfl)).2), hR.w2.o, hR.w5.o, hR.w8.o, hR.w9.o, hR.f0.k, hR.f1.k, hR.f2.k, hR.f3.k, hR.f4.k, hR.f5.k, hR.f6.k, (fun _ => rfl)⟩⟩
    refine EachOf.cons [0, 1, 2, 5, 6, 7] rfl (by kernel_rfl) ?_ ?_
    · rintro L A W ⟨v, g, rfl, hR⟩ hi hw KK hK
      have e6 := hR.f6 (hw 6 (by simp))
      have e2 := hR.f2 (hw 2 (by simp))
      simp only [e6, e2]
      clear e6 e2
      have hzz := hR.z6 (hw 6 (by simp)) hi
      have hbb := hR.b6 (hw 6 (by simp))
      have q0 := hzz.cell 0 _ rfl
      have y0 := hzz.fz 0
      have q1 := hzz.cell 1 _ rfl
      have y1 := hzz.fz 1
      have q2 := hzz.cell 2 _ rfl
      have y2 := hzz.fz 2
      have ql := hzz.lt
      go_simp
      refine hK.out _ _ ?_
      exact ⟨(fun jz => if jz = 7 then .pointer (some ⟨g 6, 0, none⟩) else if jz = 13 then .agg #[.int .i64 pu.x, .int .i64 pu.y, .int .i64 pu.z] else v jz), g, rfl, ⟨(stL_below hbb.1 [.int .i64 pu.x, .int .i64 pu.y, .int .i64 pu.z] W 0 hR.st), (fun h => ⟨(hR.b6 (upd_back h rfl)).1, Nat.lt_of_lt_of_eq (hR.b6 (upd_back h rfl)).2 (stL_size (b := g 6) [.int .i64 pu.x, .int .i64 pu.y, .int .i64 pu.z] W 0).symm⟩), (fun _ h => by simp [upd_self] at h), (fun _ => CB.fill (vs := [.int .i64 pu.x, .int .i64 pu.y, .int .i64 pu.z]) hzz rfl), (fun h => ⟨(hR.b7 (upd_back h rfl)).1, Nat.lt_of_lt_of_eq (hR.b7 (upd_back h rfl)).2 (stL_size (b := g 6) [.int .i64 pu.x, .int .i64 pu.y, .int .i64 pu.z] W 0).symm⟩), (fun h h2 => stL_far (hR.n6x7 (hw 6 (by simp)) (upd_back h rfl)) [.int .i64 pu.x, .int .i64 pu.y, .int .i64 pu.z] W 0 (hR.z7 (upd_back h rfl) (upd_false h2))), (fun h => stL_far (hR.n6x7 (hw 6 (by simp)) (hR.w9 (upd_back h rfl) 7 (by simp))) [.int .i64 pu.x, .int .i64 pu.y, .int .i64 pu.z] W 0 (hR.y9 (upd_back h rfl))), (hR.n6x7.keep rfl rfl), hR.w2.o, hR.w5.o, (fun _ j hj => upd_on (hw j hj)), hR.w9.o, hR.f0.k, hR.f1.k, (fun _ => rfl), hR.f3.k, hR.f4.k, hR.f5.k, (fun _ => rfl), hR.f7.k⟩⟩
    refine EachOf.cons [0, 1, 2, 3, 4, 5, 6, 7, 8] rfl (by kernel_rfl) ?_ ?_
    · rintro L A W ⟨v, g, rfl, hR⟩ hi hw KK hK
      have e7 := hR.f7 (hw 7 (by simp))
      have e5 := hR.f5 (hw 5 (by simp))
      simp only [e7, e5]
      clear e7 e5
      have hzz := hR.z7 (hw 7 (by simp)) hi
      have hbb := hR.b7 (hw 7 (by simp))
      have q0 := hzz.cell 0 _ rfl
      have y0 := hzz.fz 0
      have q1 := hzz.cell 1 _ rfl
      have y1 := hzz.fz 1
      have q2 := hzz.cell 2 _ rfl
      have y2 := hzz.fz 2
      have ql := hzz.lt
      go_simp
      refine hK.out _ _ ?_
      exact ⟨(fun jz => if jz = 8 then .pointer (some ⟨g 7, 0, none⟩) else if jz = 16 then .agg #[.int .i64 pv.x, .int .i64 pv.y, .int .i64 pv.z] else v jz), g, rfl, ⟨(stL_below hbb.1 [.int .i64 pv.x, .int .i64 pv.y, .int .i64 pv.z] W 0 hR.st), (fun h => ⟨(hR.b6 (upd_back h rfl)).1, Nat.lt_of_lt_of_eq (hR.b6 (upd_back h rfl)).2 (stL_size (b := g 7) [.int .i64 pv.x, .int .i64 pv.y, .int .i64 pv.z] W 0).symm⟩), (fun h h2 => stL_far (fun q => hR.n6x7 (upd_back h rfl) (hw 7 (by simp)) q.symm) [.int .i64 pv.x, .int .i64 pv.y, .int .i64 pv.z] W 0 (hR.z6 (upd_back h rfl) (upd_false h2))), (fun h => stL_far (fun q => hR.n6x7 (hR.w8 (upd_back h rfl) 6 (by simp)) (hw 7 (by simp)) q.symm) [.int .i64 pv.x, .int .i64 pv.y, .int .i64 pv.z] W 0 (hR.y8 (upd_back h rfl))), (fun h => ⟨(hR.b7 (upd_back h rfl)).1, Nat.lt_of_lt_of_eq (hR.b7 (upd_back h rfl)).2 (stL_size (b := g 7) [.int .i64 pv.x, .int .i64 pv.y, .int .i64 pv.z] W 0).symm⟩), (fun _ h => by simp [upd_self] at h), (fun _ => CB.fill (vs := [.int .i64 pv.x, .int .i64 pv.y, .int .i64 pv.z]) hzz rfl), (hR.n6x7.keep rfl rfl), hR.w2.o, hR.w5.o, hR.w8.o, (fun _ j hj => upd_on (hw j hj)), hR.f0.k, hR.f1.k, hR.f2.k, hR.f3.k, hR.f4.k, (fun _ => rfl), hR.f6.k, (fun _ => rfl)⟩⟩
    exact EachOf.nil
  rintro L A W6 ⟨va, g, rfl, hR⟩ hL
  have e6 := hR.f6 (hL 6 (by simp))
  have e7 := hR.f7 (hL 7 (by simp))
  simp only [e6, e7]
  have D6 := (hR.y8 (hL 8 (by simp))).b3
  have D7 := (hR.y9 (hL 9 (by simp))).b3
  have HB6 := Lib.hid (below_on HB.out hR.st)
  generalize g 6 = b7 at *
  generalize g 7 = b8 at *
  have LU0 := Lib.hid (And.intro D6.c0 D6.lt)
  have LU1 := Lib.hid (And.intro D6.c1 D6.lt)
  have LV0 := Lib.hid (And.intro D7.c0 D7.lt)
  have LV1 := Lib.hid (And.intro D7.c1 D7.lt)
  clear e6 e7 D6 D7 hR hL LA0 LA1 LA2 LB0 LB1 LB2 LC0 LC1 LC2 CU CV HB
  go_upto_region 2 with fail
  refine wp_region_each (fun L A W => ∃ (v : Nat → Value), A = ⟨#[_, _, _, _, _, _, _, _, _, v 9, v 10, _, _, _, _, _, _, v 17, v 18, v 19, v 20, v 21, v 22, v 23, v 24, v 25, v 26, _, _, _, _, _, _], []⟩ ∧ VtbR b7 b8 pu pv x y W6 L v W) (by kernel_rfl) (by kernel_rfl) ⟨fun jz => if jz = 17 then undef else if jz = 18 then undef else if jz = 19 then undef else if jz = 20 then undef else if jz = 21 then undef else if jz = 22 then undef else if jz = 23 then undef else if jz = 24 then undef else if jz = 25 then undef else if jz = 26 then undef else if jz = 9 then undef else if jz = 10 then undef else undef, rfl, ⟨Below.drew (Below.refl _ _), Had.none, Had.none, Had.none, Had.none, Had.none, Had.none, Had.none, Had.none, Had.none, Had.none, Had.none, Had.none, Had.none, Had.none, Had.none, Had.none, Had.none, Had.none, Had.none, Had.none⟩⟩ (rs := [0, 1, 2, 3, 4, 5, 6, 7, 8, 9, 10, 11]) (by kernel_rfl) ?_ ?_
  · refine EachOf.cons [] rfl (by kernel_rfl) ?_ ?_
    · rintro L A W ⟨v, rfl, hR⟩ hi hw K hK
      go_simp
      refine hK.out _ _ ?_
      exact ⟨(fun jz => if jz = 17 then .pointer (some ⟨b7, 0, none⟩) else v jz), rfl, ⟨hR.st, hR.w1.o, hR.w3.o, hR.w4.o, hR.w6.o, hR.w8.o, hR.w9.o, hR.w10.o, hR.w11.o, (fun _ => rfl), hR.f1.k, hR.f2.k, hR.f3.k, hR.f4.k, hR.f5.k, hR.f6.k, hR.f7.k, hR.f8.k, hR.f9.k, hR.f10.k, hR.f11.k⟩⟩
    refine EachOf.cons [0] rfl (by kernel_rfl) ?_ ?_
    · rintro L A W ⟨v, rfl, hR⟩ hi hw K hK
      have e0 := hR.f0 (hw 0 (by simp))
      simp only [e0]
      clear e0
      have q0 := (hR.st.cell (p := ⟨b7, 0, none⟩) LU0.out.2).trans LU0.out.1
      go_simp
      refine hK.out _ _ ?_
      exact ⟨(fun jz => if jz = 17 then .pointer (some ⟨b7, 0, none⟩) else if jz = 18 then .int .i64 pu.x else v jz), rfl, ⟨hR.st, (fun _ j hj => upd_on (hw j hj)), hR.w3.o, hR.w4.o, hR.w6.o, hR.w8.o, hR.w9.o, hR.w10.o, hR.w11.o, (fun _ => rfl), (fun _ => rfl), hR.f2.k, hR.f3.k, hR.f4.k, hR.f5.k, hR.f6.k, hR.f7.k, hR.f8.k, hR.f9.k, hR.f10.k, hR.f11.k⟩⟩
    refine EachOf.cons [] rfl (by kernel_rfl) ?_ ?_
    · rintro L A W ⟨v, rfl, hR⟩ hi hw K hK
      go_simp
      refine hK.out _ _ ?_
      exact ⟨(fun jz => if jz = 19 then .pointer (some ⟨b8, 1, none⟩) else v jz), rfl, ⟨hR.st, hR.w1.o, hR.w3.o, hR.w4.o, hR.w6.o, hR.w8.o, hR.w9.o, hR.w10.o, hR.w11.o, hR.f0.k, hR.f1.k, (fun _ => rfl), hR.f3.k, hR.f4.k, hR.f5.k, hR.f6.k, hR.f7.k, hR.f8.k, hR.f9.k, hR.f10.k, hR.f11.k⟩⟩
    refine EachOf.cons [2] rfl (by kernel_rfl) ?_ ?_
    · rintro L A W ⟨v, rfl, hR⟩ hi hw K hK
      have e2 := hR.f2 (hw 2 (by simp))
      simp only [e2]
      clear e2
      have q0 := (hR.st.cell (p := ⟨b8, 1, none⟩) LV1.out.2).trans LV1.out.1
      go_simp
      refine hK.out _ _ ?_
      exact ⟨(fun jz => if jz = 19 then .pointer (some ⟨b8, 1, none⟩) else if jz = 20 then .int .i64 pv.y else v jz), rfl, ⟨hR.st, hR.w1.o, (fun _ j hj => upd_on (hw j hj)), hR.w4.o, hR.w6.o, hR.w8.o, hR.w9.o, hR.w10.o, hR.w11.o, hR.f0.k, hR.f1.k, (fun _ => rfl), (fun _ => rfl), hR.f4.k, hR.f5.k, hR.f6.k, hR.f7.k, hR.f8.k, hR.f9.k, hR.f10.k, hR.f11.k⟩⟩
    refine EachOf.cons [1, 3] rfl (by kernel_rfl) ?_ ?_
    · rintro L A W ⟨v, rfl, hR⟩ hi hw K hK
      have e1 := hR.f1 (hw 1 (by simp))
      have e3 := hR.f3 (hw 3 (by simp))
      simp only [e1, e3]
      clear e1 e3
      go_simp
      refine hK.out _ _ ?_
      exact ⟨(fun jz => if jz = 18 then .int .i64 pu.x else if jz = 20 then .int .i64 pv.y else if jz = 21 then .int .i64 x else v jz), rfl, ⟨hR.st, hR.w1.o, hR.w3.o, (fun _ j hj => upd_on (hw j hj)), hR.w6.o, hR.w8.o, hR.w9.o, hR.w10.o, hR.w11.o, hR.f0.k, (fun _ => rfl), hR.f2.k, (fun _ => rfl), (fun _ => rfl), hR.f5.k, hR.f6.k, hR.f7.k, hR.f8.k, hR.f9.k, hR.f10.k, hR.f11.k⟩⟩
    refine EachOf.cons [] rfl (by kernel_rfl) ?_ ?_
    · rintro L A W ⟨v, rfl, hR⟩ hi hw K hK
      go_simp
      refine hK.out _ _ ?_
      exact ⟨(fun jz => if jz = 22 then .pointer (some ⟨b7, 1, none⟩) else v jz), rfl, ⟨hR.st, hR.w1.o, hR.w3.o, hR.w4.o, hR.w6.o, hR.w8.o, hR.w9.o, hR.w10.o, hR.w11.o, hR.f0.k, hR.f1.k, hR.f2.k, hR.f3.k, hR.f4.k, (fun _ => rfl), hR.f6.k, hR.f7.k, hR.f8.k, hR.f9.k, hR.f10.k, hR.f11.k⟩⟩
    refine EachOf.cons [5] rfl (by kernel_rfl) ?_ ?_
    · rintro L A W ⟨v, rfl, hR⟩ hi hw K hK
      have e5 := hR.f5 (hw 5 (by simp))
      simp only [e5]
      clear e5
      have q0 := (hR.st.cell (p := ⟨b7, 1, none⟩) LU1.out.2).trans LU1.out.1
      go_simp
      refine hK.out _ _ ?_
      exact ⟨(fun jz => if jz = 22 then .pointer (some ⟨b7, 1, none⟩) else if jz = 23 then .int .i64 pu.y else v jz), rfl, ⟨hR.st, hR.w1.o, hR.w3.o, hR.w4.o, (fun _ j hj => upd_on (hw j hj)), hR.w8.o, hR.w9.o, hR.w10.o, hR.w11.o, hR.f0.k, hR.f1.k, hR.f2.k, hR.f3.k, hR.f4.k, (fun _ => rfl), (fun _ => rfl), hR.f7.k, hR.f8.k, hR.f9.k, hR.f10.k, hR.f11.k⟩⟩
    refine EachOf.cons [] rfl (by kernel_rfl) ?_ ?_
    · rintro L A W ⟨v, rfl, hR⟩ hi hw K hK
      go_simp
      refine hK.out _ _ ?_
      exact ⟨(fun jz => if jz = 24 then .pointer (some ⟨b8, 0, none⟩) else v jz), rfl, ⟨hR.st, hR.w1.o, hR.w3.o, hR.w4.o, hR.w6.o, hR.w8.o, hR.w9.o, hR.w10.o, hR.w11.o, hR.f0.k, hR.f1.k, hR.f2.k, hR.f3.k, hR.f4.k, hR.f5.k, hR.f6.k, (fun _ => rfl), hR.f8.k, hR.f9.k, hR.f10.k, hR.f11.k⟩⟩
    refine EachOf.cons [7] rfl (by kernel_rfl) ?_ ?_
    · rintro L A W ⟨v, rfl, hR⟩ hi hw K hK
      have e7 := hR.f7 (hw 7 (by simp))
      simp only [e7]
      clear e7
      have q0 := (hR.st.cell (p := ⟨b8, 0, none⟩) LV0.out.2).trans LV0.out.1
      go_simp
      refine hK.out _ _ ?_
      exact ⟨(fun jz => if jz = 24 then .pointer (some ⟨b8, 0, none⟩) else if jz = 25 then .int .i64 pv.x else v jz), rfl, ⟨hR.st, hR.w1.o, hR.w3.o, hR.w4.o, hR.w6.o, (fun _ j hj => upd_on (hw j hj)), hR.w9.o, hR.w10.o, hR.w11.o, hR.f0.k, hR.f1.k, hR.f2.k, hR.f3.k, hR.f4.k, hR.f5.k, hR.f6.k, (fun _ => rfl), (fun _ => rfl), hR.f9.k, hR.f10.k, hR.f11.k⟩⟩
    refine EachOf.cons [6, 8] rfl (by kernel_rfl) ?_ ?_
    · rintro L A W ⟨v, rfl, hR⟩ hi hw K hK
      have e6 := hR.f6 (hw 6 (by simp))
      have e8 := hR.f8 (hw 8 (by simp))
      simp only [e6, e8]
      clear e6 e8
      go_simp
      refine hK.out _ _ ?_
      exact ⟨(fun jz => if jz = 23 then .int .i64 pu.y else if jz = 25 then .int .i64 pv.x else if jz = 26 then .int .i64 y else v jz), rfl, ⟨hR.st, hR.w1.o, hR.w3.o, hR.w4.o, hR.w6.o, hR.w8.o, (fun _ j hj => upd_on (hw j hj)), hR.w10.o, hR.w11.o, hR.f0.k, hR.f1.k, hR.f2.k, hR.f3.k, hR.f4.k, hR.f5.k, (fun _ => rfl), hR.f7.k, (fun _ => rfl), (fun _ => rfl), hR.f10.k, hR.f11.k⟩⟩
    refine EachOf.cons [4] rfl (by kernel_rfl) ?_ ?_
    · rintro L A W ⟨v, rfl, hR⟩ hi hw K hK
      have e4 := hR.f4 (hw 4 (by simp))
      simp only [e4]
      clear e4
      go_simp
      refine hK.out _ _ ?_
      exact ⟨(fun jz => if jz = 21 then .int .i64 x else if jz = 9 then .int .i64 x else v jz), rfl, ⟨hR.st, hR.w1.o, hR.w3.o, hR.w4.o, hR.w6.o, hR.w8.o, hR.w9.o, (fun _ j hj => upd_on (hw j hj)), hR.w11.o, hR.f0.k, hR.f1.k, hR.f2.k, hR.f3.k, (fun _ => rfl), hR.f5.k, hR.f6.k, hR.f7.k, hR.f8.k, hR.f9.k, (fun _ => rfl), hR.f11.k⟩⟩
    refine EachOf.cons [9] rfl (by kernel_rfl) ?_ ?_
    · rintro L A W ⟨v, rfl, hR⟩ hi hw K hK
      have e9 := hR.f9 (hw 9 (by simp))
      simp only [e9]
      clear e9
      go_simp
      refine hK.out _ _ ?_
      exact ⟨(fun jz => if jz = 26 then .int .i64 y else if jz = 10 then .int .i64 y else v jz), rfl, ⟨hR.st, hR.w1.o, hR.w3.o, hR.w4.o, hR.w6.o, hR.w8.o, hR.w9.o, hR.w10.o, (fun _ j hj => upd_on (hw j hj)), hR.f0.k, hR.f1.k, hR.f2.k, hR.f3.k, hR.f4.k, hR.f5.k, hR.f6.k, hR.f7.k, hR.f8.k, (fun _ => rfl), hR.f10.k, (fun _ => rfl)⟩⟩
    exact EachOf.nil
  rintro L A W7 ⟨vb, rfl, hR⟩ hL
  have e20 := hR.f10 (hL 10 (by simp))
  have e21 := hR.f11 (hL 11 (by simp))
  simp only [e20, e21]
  have HB7 := Lib.hid (below_on HB6.out hR.st)
  clear e20 e21 hR hL LU0 LU1 LV0 LV1 HB6
  by_cases h1 : y < x
  · have d1 : decide (y < x) = true := decide_eq_true h1
    have HE : Hid (r = 1) := by show r = 1; rw [HR.out, if_pos h1]
    go_wp2_with fail
    go_ret
    exact ⟨by rw [HE.out]; rfl, HB7.out⟩
  · have d1 : decide (y < x) = false := decide_eq_false h1
    by_cases h2 : x < y
    · have d2 : decide (x < y) = true := decide_eq_true h2
      have HE : Hid (r = -1) := by show r = -1; rw [HR.out, if_neg h1, if_pos h2]
      go_wp2_with fail
      go_ret
      exact ⟨by rw [HE.out]; rfl, HB7.out⟩
    · have d2 : decide (x < y) = false := decide_eq_false h2
      have HE : Hid (r = 0) := by show r = 0; rw [HR.out, if_neg h1, if_neg h2]
      go_wp2_with fail
      go_ret
      exact ⟨by rw [HE.out]; rfl, HB7.out⟩
set_option maxHeartbeats 4000000 in
theorem rDown_any (a b : Int) (w : World) (a0 : -4611686018427387904 ≤ a) (a1 : a ≤ 4611686018427387904) (b0 : 0 < b) (b1 : b ≤ 1000) : Calls Try.prog 61 #[.int .i64 a, .int .i64 b] w fun e w' => e = .returned (.int .i64 (a / b)) ∧ w = w' := by
  have hf : a / b = if a < a.tdiv b * b then a.tdiv b - 1 else a.tdiv b := by
    rw [fl_div a b b0]
    by_cases h : a.tmod b < 0
    · rw [if_pos h, if_pos ((fl_gt a b b0).2 h)]
    · rw [if_neg h, if_neg (fun q => h ((fl_gt a b b0).1 q))]
  have hb := fl_bd a b
  have hm := Int.mul_tdiv_add_tmod a b
  have hr := tmod_bd a b b0
  obtain ⟨q, hq⟩ : ∃ q, a.tdiv b = q := ⟨_, rfl⟩
  obtain ⟨x, hx⟩ : ∃ x, a / b = x := ⟨_, rfl⟩
  rw [hq, hx] at hf
  rw [hq] at hb hm
  rw [Int.mul_comm] at hm
  rw [hx]
  obtain ⟨p, hp⟩ : ∃ p, q * b = p := ⟨_, rfl⟩
  rw [hp] at hf hm
  have wq : IntKind.i64.wrap q = q := IntWalk.i64_in _ (by omega)
  have wp : IntKind.i64.wrap (q * b) = p := by rw [hp]; exact IntWalk.i64_in _ (by omega)
  have wq1 : IntKind.i64.wrap (q - 1) = q - 1 := IntWalk.i64_in _ (by omega)
  have nz : ¬ b = 0 := by omega
  have nz1 : ¬ b = -1 := by omega
  by_cases h : a < p
  · have d : decide (a < p) = true := decide_eq_true h
    rw [if_pos h] at hf
    have HF := Lib.hid hf
    clear hf hx hb hr hm hp
    go_enter Try.func61, Try.ntmps61
    go_wp2_with fail
    go_ret
    exact ⟨by rw [HF.out]; rfl, rfl⟩
  · have d : decide (a < p) = false := decide_eq_false h
    rw [if_neg h] at hf
    have HF := Lib.hid hf
    clear hf hx hb hr hm hp
    go_enter Try.func61, Try.ntmps61
    go_wp2_with fail
    go_ret
    exact ⟨by rw [HF.out]; rfl, rfl⟩
structure VtcR (b4 b8 b9 : Nat) (num den : Int) (a d : Pt) (mx my mz qx qy qz x y z : Int) (Wc : World) (L : Nat → Bool) (v : Nat → Value) (W : World) : Prop where
  st : L 28 = false → Below Wc.heap.size Wc W
  s1 : Had L 28 (∃ W2, Below Wc.heap.size Wc W2 ∧ W = ((W2.setCell ⟨b8, 0, none⟩ (.int .i64 x)).setCell ⟨b8, 1, none⟩ (.int .i64 y)).setCell ⟨b8, 2, none⟩ (.int .i64 z))
  w1 : Had L 1 (∀ j ∈ [0], L j = true)
  w3 : Had L 3 (∀ j ∈ [2], L j = true)
  w5 : Had L 5 (∀ j ∈ [3, 4], L j = true)
  w7 : Had L 7 (∀ j ∈ [5, 6], L j = true)
  w8 : Had L 8 (∀ j ∈ [1, 7], L j = true)
  w10 : Had L 10 (∀ j ∈ [9], L j = true)
  w12 : Had L 12 (∀ j ∈ [11], L j = true)
  w14 : Had L 14 (∀ j ∈ [12, 13], L j = true)
  w16 : Had L 16 (∀ j ∈ [14, 15], L j = true)
  w17 : Had L 17 (∀ j ∈ [10, 16], L j = true)
  w19 : Had L 19 (∀ j ∈ [18], L j = true)
  w21 : Had L 21 (∀ j ∈ [20], L j = true)
  w23 : Had L 23 (∀ j ∈ [21, 22], L j = true)
  w25 : Had L 25 (∀ j ∈ [23, 24], L j = true)
  w26 : Had L 26 (∀ j ∈ [19, 25], L j = true)
  w27 : Had L 27 (∀ j ∈ [8, 17, 26], L j = true)
  w28 : Had L 28 (∀ j ∈ [0, 1, 2, 3, 4, 5, 6, 7, 8, 9, 10, 11, 12, 13, 14, 15, 16, 17, 18, 19, 20, 21, 22, 23, 24, 25, 26, 27], L j = true)
  f0 : Had L 0 (v 13 = .pointer (some ⟨b4, 0, none⟩))
  f1 : Had L 1 (v 14 = .int .i64 a.x)
  f2 : Had L 2 (v 15 = .pointer (some ⟨b9, 0, none⟩))
  f3 : Had L 3 (v 16 = .int .i64 d.x)
  f4 : Had L 4 (v 17 = .int .i64 num)
  f5 : Had L 5 (v 18 = .int .i64 mx)
  f6 : Had L 6 (v 19 = .int .i64 den)
  f7 : Had L 7 (v 20 = .int .i64 qx)
  f8 : Had L 8 (v 21 = .int .i64 x)
  f9 : Had L 9 (v 22 = .pointer (some ⟨b4, 1, none⟩))
  f10 : Had L 10 (v 23 = .int .i64 a.y)
  f11 : Had L 11 (v 24 = .pointer (some ⟨b9, 1, none⟩))
  f12 : Had L 12 (v 25 = .int .i64 d.y)
  f13 : Had L 13 (v 26 = .int .i64 num)
  f14 : Had L 14 (v 27 = .int .i64 my)
  f15 : Had L 15 (v 28 = .int .i64 den)
  f16 : Had L 16 (v 29 = .int .i64 qy)
  f17 : Had L 17 (v 30 = .int .i64 y)
  f18 : Had L 18 (v 31 = .pointer (some ⟨b4, 2, none⟩))
  f19 : Had L 19 (v 32 = .int .i64 a.z)
  f20 : Had L 20 (v 33 = .pointer (some ⟨b9, 2, none⟩))
  f21 : Had L 21 (v 34 = .int .i64 d.z)
  f22 : Had L 22 (v 35 = .int .i64 num)
  f23 : Had L 23 (v 36 = .int .i64 mz)
  f24 : Had L 24 (v 37 = .int .i64 den)
  f25 : Had L 25 (v 38 = .int .i64 qz)
  f26 : Had L 26 (v 39 = .int .i64 z)
  f27 : Had L 27 (v 40 = .agg #[.int .i64 x, .int .i64 y, .int .i64 z])
set_option maxRecDepth 100000 in
set_option maxHeartbeats 16000000 in
theorem rBtw_any (a b : Pt) (num den : Int) (w : World) (ha : a.ok) (hb : b.ok) (n0 : 0 ≤ num) (n1 : num ≤ den) (d0 : 1 ≤ den) (d1 : den ≤ 1000) :
    Calls Try.prog 30 #[.agg #[.int .i64 a.x, .int .i64 a.y, .int .i64 a.z], .agg #[.int .i64 b.x, .int .i64 b.y, .int .i64 b.z], .int .i64 num, .int .i64 den] w fun r w' => r = .returned (.agg #[.int .i64 (btP a b num den).x, .int .i64 (btP a b num den).y, .int .i64 (btP a b num den).z]) ∧ Below w.heap.size w w' := by
  obtain ⟨w1, hw1⟩ : ∃ W, W = ((w.alloc (Obj.cells #[.int .i64 a.x, .int .i64 a.y, .int .i64 a.z] 41)).alloc (Obj.cells #[.int .i64 b.x, .int .i64 b.y, .int .i64 b.z] 41)).alloc (Obj.cells #[.int .i64 0, .int .i64 0, .int .i64 0] 41) := ⟨_, rfl⟩
  obtain ⟨hb1, hA, hB, hO⟩ := three_boxes w a b ⟨0, 0, 0⟩ _ _ _ w1 hw1
  obtain ⟨b4, hb4⟩ : ∃ x, x = w.heap.size := ⟨_, rfl⟩
  obtain ⟨b5, hb5⟩ : ∃ x, x = w.heap.size + 1 := ⟨_, rfl⟩
  obtain ⟨b8, hb8⟩ : ∃ x, x = w.heap.size + 1 + 1 := ⟨_, rfl⟩
  have HS : Hid (b4 = w.heap.size ∧ b5 = w.heap.size + 1 ∧ b8 = w.heap.size + 1 + 1 ∧ w1 = ((w.alloc (Obj.cells #[.int .i64 a.x, .int .i64 a.y, .int .i64 a.z] 41)).alloc (Obj.cells #[.int .i64 b.x, .int .i64 b.y, .int .i64 b.z] 41)).alloc (Obj.cells #[.int .i64 0, .int .i64 0, .int .i64 0] 41)) := ⟨hb4, hb5, hb8, hw1⟩
  have lo : w.heap.size ≤ b8 := by omega
  rw [← hb4] at hA
  rw [← hb5] at hB
  rw [← hb8] at hO
  have HB := Lib.hid hb1
  have HA := Lib.hid hA
  have HO := Lib.hid hO
  have a0 := hA.c0
  have a1 := hA.c1
  have a2 := hA.c2
  have q0 := hB.c0
  have q1 := hB.c1
  have q2 := hB.c2
  have CM := fun W => Lib.hid (rMin_any b a W hb ha)
  have vd : ∀ f t : Int, okc f → okc t → (IntKind.i64.wrap ((t - f) * num) = num * (t - f) ∧ IntKind.i64.wrap (f + num * (t - f) / den) = btI f t num den ∧ ∀ W, Hid (Calls Try.prog 61 #[.int .i64 (num * (t - f)), .int .i64 den] W fun e w' => e = .returned (.int .i64 (num * (t - f) / den)) ∧ W = w')) := fun f t hf ht => by
    obtain ⟨k1, k2, k3, k4⟩ := bt_bd hf.1 hf.2 ht.1 ht.2 n0 n1 d0 d1
    have f0 := hf.1
    have f1 := hf.2
    refine ⟨by rw [Int.mul_comm]; exact IntWalk.i64_in _ (by omega), IntWalk.i64_in _ (by omega), fun W => rDown_any _ _ W (by omega) (by omega) (by omega) d1⟩
  obtain ⟨wx, sx, CX⟩ := vd a.x b.x ha.1 hb.1
  obtain ⟨wy, sy, CY⟩ := vd a.y b.y ha.2.1 hb.2.1
  obtain ⟨wz, sz, CZ⟩ := vd a.z b.z ha.2.2 hb.2.2
  have ex : (b.sub a).x = b.x - a.x := rfl
  have ey : (b.sub a).y = b.y - a.y := rfl
  have ez : (b.sub a).z = b.z - a.z := rfl
  rw [← ex] at wx sx CX
  rw [← ey] at wy sy CY
  rw [← ez] at wz sz CZ
  obtain ⟨d, hd⟩ : ∃ d, b.sub a = d := ⟨_, rfl⟩
  rw [hd] at wx sx CX wy sy CY wz sz CZ CM
  obtain ⟨mx, hmx⟩ : ∃ m, num * d.x = m := ⟨_, rfl⟩
  obtain ⟨my, hmy⟩ : ∃ m, num * d.y = m := ⟨_, rfl⟩
  obtain ⟨mz, hmz⟩ : ∃ m, num * d.z = m := ⟨_, rfl⟩
  rw [hmx] at wx sx CX
  rw [hmy] at wy sy CY
  rw [hmz] at wz sz CZ
  obtain ⟨qx, hqx⟩ : ∃ m, mx / den = m := ⟨_, rfl⟩
  obtain ⟨qy, hqy⟩ : ∃ m, my / den = m := ⟨_, rfl⟩
  obtain ⟨qz, hqz⟩ : ∃ m, mz / den = m := ⟨_, rfl⟩
  rw [hqx] at sx CX
  rw [hqy] at sy CY
  rw [hqz] at sz CZ
  obtain ⟨x, hx⟩ : ∃ x, btI a.x b.x num den = x := ⟨_, rfl⟩
  obtain ⟨y, hy⟩ : ∃ x, btI a.y b.y num den = x := ⟨_, rfl⟩
  obtain ⟨z, hz⟩ : ∃ x, btI a.z b.z num den = x := ⟨_, rfl⟩
  have hr : btP a b num den = ⟨x, y, z⟩ := by rw [← hx, ← hy, ← hz]; rfl
  rw [hx] at sx
  rw [hy] at sy
  rw [hz] at sz
  rw [hr]
  clear hA hB hO hb1 hb4 hb5 hb8 hw1 ha hb vd ex ey ez hd hmx hmy hmz hqx hqy hqz hx hy hz hr
  go_enter Try.func30, Try.ntmps30
  go_upto_region 1 with fail
  rw [← HS.out.2.2.2, ← HS.out.2.2.1, ← HS.out.2.1, ← HS.out.1]
  clear HS
  go_upto_region 2 with (go_at_call 57; (with_reducible refine ((CM _).out.mono ?_)); rintro e w2 ⟨rfl, hb2⟩; have HB2 := Lib.hid (below_on HB.out hb2); have HA2 := Lib.hid (HA.out.on hb2); have HO2 := Lib.hid (HO.out.on hb2); clear hb2 a0 a1 a2 q0 q1 q2)
  have bl := below_alloc w2 (Obj.cells #[.int .i64 d.x, .int .i64 d.y, .int .i64 d.z] 41)
  have HB3 := Lib.hid (below_on HB2.out bl)
  have hD := B3.new w2 d.x d.y d.z 41
  have HA3 := HA2.out.on bl
  have HO3 := Lib.hid (HO2.out.on bl)
  clear bl
  obtain ⟨w3, hw3⟩ : ∃ W, W = w2.alloc (Obj.cells #[.int .i64 d.x, .int .i64 d.y, .int .i64 d.z] 41) := ⟨_, rfl⟩
  rw [← hw3] at HB3 hD HA3 HO3
  rw [← hw3]
  obtain ⟨b9, hb9⟩ : ∃ x, x = w2.heap.size := ⟨_, rfl⟩
  rw [← hb9] at hD
  rw [← hb9]
  have LA0 := Lib.hid (And.intro HA3.c0 HA3.lt)
  have LA1 := Lib.hid (And.intro HA3.c1 HA3.lt)
  have LA2 := Lib.hid (And.intro HA3.c2 HA3.lt)
  have LD0 := Lib.hid (And.intro hD.c0 hD.lt)
  have LD1 := Lib.hid (And.intro hD.c1 hD.lt)
  have LD2 := Lib.hid (And.intro hD.c2 hD.lt)
  clear hw3 hD hb9 HA3 HB HB2 HA HA2 HO HO2 CM
  refine wp_region_each (fun L A W => ∃ (v : Nat → Value), A = ⟨#[_, _, _, _, _, _, _, _, _, _, _, _, _, v 13, v 14, v 15, v 16, v 17, v 18, v 19, v 20, v 21, v 22, v 23, v 24, v 25, v 26, v 27, v 28, v 29, v 30, v 31, v 32, v 33, v 34, v 35, v 36, v 37, v 38, v 39, v 40], []⟩ ∧ VtcR b4 b8 b9 num den a d mx my mz qx qy qz x y z w3 L v W) (by kernel_rfl) (by kernel_rfl) ⟨fun jz => if jz = 13 then undef else if jz = 14 then undef else if jz = 15 then undef else if jz = 16 then undef else if jz = 17 then undef else if jz = 18 then undef else if jz = 19 then undef else if jz = 20 then undef else if jz = 21 then undef else if jz = 22 then undef else if jz = 23 then undef else if jz = 24 then undef else if jz = 25 then undef else if jz = 26 then undef else if jz = 27 then undef else if jz = 28 then undef else if jz = 29 then undef else if jz = 30 then undef else if jz = 31 then undef else if jz = 32 then undef else if jz = 33 then undef else if jz = 34 then undef else if jz = 35 then undef else if jz = 36 then undef else if jz = 37 then undef else if jz = 38 then undef else if jz = 39 then undef else if jz = 40 then undef else undef, rfl, ⟨(fun _ => Below.drew (Below.refl _ _)), Had.none, Had.none, Had.none, Had.none, Had.none, Had.none, Had.none, Had.none, Had.none, Had.none, Had.none, Had.none, Had.none, Had.none, Had.none, Had.none, Had.none, Had.none, Had.none, Had.none, Had.none, Had.none, Had.none, Had.none, Had.none, Had.none, Had.none, Had.none, Had.none, Had.none, Had.none, Had.none, Had.none, Had.none, Had.none, Had.none, Had.none, Had.none, Had.none, Had.none, Had.none, Had.none, Had.none, Had.none, Had.none, Had.none⟩⟩ (rs := [0, 1, 2, 3, 4, 5, 6, 7, 8, 9, 10, 11, 12, 13, 14, 15, 16, 17, 18, 19, 20, 21, 22, 23, 24, 25, 26, 27, 28]) (by kernel_rfl) ?_ ?_
  · refine EachOf.cons [] rfl (by kernel_rfl) ?_ ?_
    · rintro L A W ⟨v, rfl, hR⟩ hi hw K hK
      have hk : L 28 = false := hR.w28.not hi rfl
      go_simp
      refine hK.out _ _ ?_
      exact ⟨(fun jz => if jz = 13 then .pointer (some ⟨b4, 0, none⟩) else v jz), rfl, ⟨(fun h => hR.st (upd_false h)), hR.s1.k, hR.w1.o, hR.w3.o, hR.w5.o, hR.w7.o, hR.w8.o, hR.w10.o, hR.w12.o, hR.w14.o, hR.w16.o, hR.w17.o, hR.w19.o, hR.w21.o, hR.w23.o, hR.w25.o, hR.w26.o, hR.w27.o, hR.w28.o, (fun _ => rfl), hR.f1.k, hR.f2.k, hR.f3.k, hR.f4.k, hR.f5.k, hR.f6.k, hR.f7.k, hR.f8.k, hR.f9.k, hR.f10.k, hR.f11.k, hR.f12.k, hR.f13.k, hR.f14.k, hR.f15.k, hR.f16.k, hR.f17.k, hR.f18.k, hR.f19.k, hR.f20.k, hR.f21.k, hR.f22.k, hR.f23.k, hR.f24.k, hR.f25.k, hR.f26.k, hR.f27.k⟩⟩
    refine EachOf.cons [0] rfl (by kernel_rfl) ?_ ?_
    · rintro L A W ⟨v, rfl, hR⟩ hi hw K hK
      have hk : L 28 = false := hR.w28.not hi rfl
      have e0 := hR.f0 (hw 0 (by simp))
      simp only [e0]
      clear e0
      have q0 := ((hR.st hk).cell (p := ⟨b4, 0, none⟩) LA0.out.2).trans LA0.out.1
      go_simp
      refine hK.out _ _ ?_
      exact ⟨(fun jz => if jz = 13 then .pointer (some ⟨b4, 0, none⟩) else if jz = 14 then .int .i64 a.x else v jz), rfl, ⟨(fun h => hR.st (upd_false h)), hR.s1.k, (fun _ j hj => upd_on (hw j hj)), hR.w3.o, hR.w5.o, hR.w7.o, hR.w8.o, hR.w10.o, hR.w12.o, hR.w14.o, hR.w16.o, hR.w17.o, hR.w19.o, hR.w21.o, hR.w23.o, hR.w25.o, hR.w26.o, hR.w27.o, hR.w28.o, (fun _ => rfl), (fun _ => rfl), hR.f2.k, hR.f3.k, hR.f4.k, hR.f5.k, hR.f6.k, hR.f7.k, hR.f8.k, hR.f9.k, hR.f10.k, hR.f11.k, hR.f12.k, hR.f13.k, hR.f14.k, hR.f15.k, hR.f16.k, hR.f17.k, hR.f18.k, hR.f19.k, hR.f20.k, hR.f21.k, hR.f22.k, hR.f23.k, hR.f24.k, hR.f25.k, hR.f26.k, hR.f27.k⟩⟩
    refine EachOf.cons [] rfl (by kernel_rfl) ?_ ?_
    · rintro L A W ⟨v, rfl, hR⟩ hi hw K hK
      have hk : L 28 = false := hR.w28.not hi rfl
      go_simp
      refine hK.out _ _ ?_
      exact ⟨(fun jz => if jz = 15 then .pointer (some ⟨b9, 0, none⟩) else v jz), rfl, ⟨(fun h => hR.st (upd_false h)), hR.s1.k, hR.w1.o, hR.w3.o, hR.w5.o, hR.w7.o, hR.w8.o, hR.w10.o, hR.w12.o, hR.w14.o, hR.w16.o, hR.w17.o, hR.w19.o, hR.w21.o, hR.w23.o, hR.w25.o, hR.w26.o, hR.w27.o, hR.w28.o, hR.f0.k, hR.f1.k, (fun _ => rfl), hR.f3.k, hR.f4.k, hR.f5.k, hR.f6.k, hR.f7.k, hR.f8.k, hR.f9.k, hR.f10.k, hR.f11.k, hR.f12.k, hR.f13.k, hR.f14.k, hR.f15.k, hR.f16.k, hR.f17.k, hR.f18.k, hR.f19.k, hR.f20.k, hR.f21.k, hR.f22.k, hR.f23.k, hR.f24.k, hR.f25.k, hR.f26.k, hR.f27.k⟩⟩
    refine EachOf.cons [2] rfl (by kernel_rfl) ?_ ?_
    · rintro L A W ⟨v, rfl, hR⟩ hi hw K hK
      have hk : L 28 = false := hR.w28.not hi rfl
      have e2 := hR.f2 (hw 2 (by simp))
      simp only [e2]
      clear e2
      have q0 := ((hR.st hk).cell (p := ⟨b9, 0, none⟩) LD0.out.2).trans LD0.out.1
      go_simp
      refine hK.out _ _ ?_
      exact ⟨(fun jz => if jz = 15 then .pointer (some ⟨b9, 0, none⟩) else if jz = 16 then .int .i64 d.x else v jz), rfl, ⟨(fun h => hR.st (upd_false h)), hR.s1.k, hR.w1.o, (fun _ j hj => upd_on (hw j hj)), hR.w5.o, hR.w7.o, hR.w8.o, hR.w10.o, hR.w12.o, hR.w14.o, hR.w16.o, hR.w17.o, hR.w19.o, hR.w21.o, hR.w23.o, hR.w25.o, hR.w26.o, hR.w27.o, hR.w28.o, hR.f0.k, hR.f1.k, (fun _ => rfl), (fun _ => rfl), hR.f4.k, hR.f5.k, hR.f6.k, hR.f7.k, hR.f8.k, hR.f9.k, hR.f10.k, hR.f11.k, hR.f12.k, hR.f13.k, hR.f14.k, hR.f15.k, hR.f16.k, hR.f17.k, hR.f18.k, hR.f19.k, hR.f20.k, hR.f21.k, hR.f22.k, hR.f23.k, hR.f24.k, hR.f25.k, hR.f26.k, hR.f27.k⟩⟩
    refine EachOf.cons [] rfl (by kernel_rfl) ?_ ?_
    · rintro L A W ⟨v, rfl, hR⟩ hi hw K hK
      have hk : L 28 = false := hR.w28.not hi rfl
      go_simp
      refine hK.out _ _ ?_
      exact ⟨(fun jz => if jz = 17 then .int .i64 num else v jz), rfl, ⟨(fun h => hR.st (upd_false h)), hR.s1.k, hR.w1.o, hR.w3.o, hR.w5.o, hR.w7.o, hR.w8.o, hR.w10.o, hR.w12.o, hR.w14.o, hR.w16.o, hR.w17.o, hR.w19.o, hR.w21.o, hR.w23.o, hR.w25.o, hR.w26.o, hR.w27.o, hR.w28.o, hR.f0.k, hR.f1.k, hR.f2.k, hR.f3.k, (fun _ => rfl), hR.f5.k, hR.f6.k, hR.f7.k, hR.f8.k, hR.f9.k, hR.f10.k, hR.f11.k, hR.f12.k, hR.f13.k, hR.f14.k, hR.f15.k, hR.f16.k, hR.f17.k, hR.f18.k, hR.f19.k, hR.f20.k, hR.f21.k, hR.f22.k, hR.f23.k, hR.f24.k, hR.f25.k, hR.f26.k, hR.f27.k⟩⟩
    refine EachOf.cons [3, 4] rfl (by kernel_rfl) ?_ ?_
    · rintro L A W ⟨v, rfl, hR⟩ hi hw K hK
      have hk : L 28 = false := hR.w28.not hi rfl
      have e3 := hR.f3 (hw 3 (by simp))
      have e4 := hR.f4 (hw 4 (by simp))
      simp only [e3, e4]
      clear e3 e4
      go_simp
      refine hK.out _ _ ?_
      exact ⟨(fun jz => if jz = 16 then .int .i64 d.x else if jz = 17 then .int .i64 num else if jz = 18 then .int .i64 mx else v jz), rfl, ⟨(fun h => hR.st (upd_false h)), hR.s1.k, hR.w1.o, hR.w3.o, (fun _ j hj => upd_on (hw j hj)), hR.w7.o, hR.w8.o, hR.w10.o, hR.w12.o, hR.w14.o, hR.w16.o, hR.w17.o, hR.w19.o, hR.w21.o, hR.w23.o, hR.w25.o, hR.w26.o, hR.w27.o, hR.w28.o, hR.f0.k, hR.f1.k, hR.f2.k, (fun _ => rfl), (fun _ => rfl), (fun _ => rfl), hR.f6.k, hR.f7.k, hR.f8.k, hR.f9.k, hR.f10.k, hR.f11.k, hR.f12.k, hR.f13.k, hR.f14.k, hR.f15.k, hR.f16.k, hR.f17.k, hR.f18.k, hR.f19.k, hR.f20.k, hR.f21.k, hR.f22.k, hR.f23.k, hR.f24.k, hR.f25.k, hR.f26.k, hR.f27.k⟩⟩
    refine EachOf.cons [] rfl (by kernel_rfl) ?_ ?_
    · rintro L A W ⟨v, rfl, hR⟩ hi hw K hK
      have hk : L 28 = false := hR.w28.not hi rfl
      go_simp
      refine hK.out _ _ ?_
      exact ⟨(fun jz => if jz = 19 then .int .i64 den else v jz), rfl, ⟨(fun h => hR.st (upd_false h)), hR.s1.k, hR.w1.o, hR.w3.o, hR.w5.o, hR.w7.o, hR.w8.o, hR.w10.o, hR.w12.o, hR.w14.o, hR.w16.o, hR.w17.o, hR.w19.o, hR.w21.o, hR.w23.o, hR.w25.o, hR.w26.o, hR.w27.o, hR.w28.o, hR.f0.k, hR.f1.k, hR.f2.k, hR.f3.k, hR.f4.k, hR.f5.k, (fun _ => rfl), hR.f7.k, hR.f8.k, hR.f9.k, hR.f10.k, hR.f11.k, hR.f12.k, hR.f13.k, hR.f14.k, hR.f15.k, hR.f16.k, hR.f17.k, hR.f18.k, hR.f19.k, hR.f20.k, hR.f21.k, hR.f22.k, hR.f23.k, hR.f24.k, hR.f25.k, hR.f26.k, hR.f27.k⟩⟩
    refine EachOf.cons [5, 6] rfl (by kernel_rfl) ?_ ?_
    · rintro L A W ⟨v, rfl, hR⟩ hi hw K hK
      have hk : L 28 = false := hR.w28.not hi rfl
      have e5 := hR.f5 (hw 5 (by simp))
      have e6 := hR.f6 (hw 6 (by simp))
      simp only [e5, e6]
      clear e5 e6
      go_simp
      go_at_call 61
      (with_reducible refine ((CX _).out).mono ?_)
      rintro e w2 ⟨rfl, rfl⟩
      go_simp
      refine hK.out _ _ ?_
      exact ⟨(fun jz => if jz = 18 then .int .i64 mx else if jz = 19 then .int .i64 den else if jz = 20 then .int .i64 qx else v jz), rfl, ⟨(fun h => hR.st (upd_false h)), hR.s1.k, hR.w1.o, hR.w3.o, hR.w5.o, (fun _ j hj => upd_on (hw j hj)), hR.w8.o, hR.w10.o, hR.w12.o, hR.w14.o, hR.w16.o, hR.w17.o, hR.w19.o, hR.w21.o, hR.w23.o, hR.w25.o, hR.w26.o, hR.w27.o, hR.w28.o, hR.f0.k, hR.f1.k, hR.f2.k, hR.f3.k, hR.f4.k, (fun _ => rfl), (fun _ => rfl), (fun _ => rfl), hR.f8.k, hR.f9.k, hR.f10.k, hR.f11.k, hR.f12.k, hR.f13.k, hR.f14.k, hR.f15.k, hR.f16.k, hR.f17.k, hR.f18.k, hR.f19.k, hR.f20.k, hR.f21.k, hR.f22.k, hR.f23.k, hR.f24.k, hR.f25.k, hR.f26.k, hR.f27.k⟩⟩
    refine EachOf.cons [1, 7] rfl (by kernel_rfl) ?_ ?_
    · rintro L A W ⟨v, rfl, hR⟩ hi hw K hK
      have hk : L 28 = false := hR.w28.not hi rfl
      have e1 := hR.f1 (hw 1 (by simp))
      have e7 := hR.f7 (hw 7 (by simp))
      simp only [e1, e7]
      clear e1 e7
      go_simp
      refine hK.out _ _ ?_
      exact ⟨(fun jz => if jz = 14 then .int .i64 a.x else if jz = 20 then .int .i64 qx else if jz = 21 then .int .i64 x else v jz), rfl, ⟨(fun h => hR.st (upd_false h)), hR.s1.k, hR.w1.o, hR.w3.o, hR.w5.o, hR.w7.o, (fun _ j hj => upd_on (hw j hj)), hR.w10.o, hR.w12.o, hR.w14.o, hR.w16.o, hR.w17.o, hR.w19.o, hR.w21.o, hR.w23.o, hR.w25.o, hR.w26.o, hR.w27.o, hR.w28.o, hR.f0.k, (fun _ => rfl), hR.f2.k, hR.f3.k, hR.f4.k, hR.f5.k, hR.f6.k, (fun _ => rfl), (fun _ => rfl), hR.f9.k, hR.f10.k, hR.f11.k, hR.f12.k, hR.f13.k, hR.f14.k, hR.f15.k, hR.f16.k, hR.f17.k, hR.f18.k, hR.f19.k, hR.f20.k, hR.f21.k, hR.f22.k, hR.f23.k, hR.f24.k, hR.f25.k, hR.f26.k, hR.f27.k⟩⟩
    refine EachOf.cons [] rfl (by kernel_rfl) ?_ ?_
    · rintro L A W ⟨v, rfl, hR⟩ hi hw K hK
      have hk : L 28 = false := hR.w28.not hi rfl
      go_simp
      refine hK.out _ _ ?_
      exact ⟨(fun jz => if jz = 22 then .pointer (some ⟨b4, 1, none⟩) else v jz), rfl, ⟨(fun h => hR.st (upd_false h)), hR.s1.k, hR.w1.o, hR.w3.o, hR.w5.o, hR.w7.o, hR.w8.o, hR.w10.o, hR.w12.o, hR.w14.o, hR.w16.o, hR.w17.o, hR.w19.o, hR.w21.o, hR.w23.o, hR.w25.o, hR.w26.o, hR.w27.o, hR.w28.o, hR.f0.k, hR.f1.k, hR.f2.k, hR.f3.k, hR.f4.k, hR.f5.k, hR.f6.k, hR.f7.k, hR.f8.k, (fun _ => rfl), hR.f10.k, hR.f11.k, hR.f12.k, hR.f13.k, hR.f14.k, hR.f15.k, hR.f16.k, hR.f17.k, hR.f18.k, hR.f19.k, hR.f20.k, hR.f21.k, hR.f22.k, hR.f23.k, hR.f24.k, hR.f25.k, hR.f26.k, hR.f27.k⟩⟩
    refine EachOf.cons [9] rfl (by kernel_rfl) ?_ ?_
    · rintro L A W ⟨v, rfl, hR⟩ hi hw K hK
      have hk : L 28 = false := hR.w28.not hi rfl
      have e9 := hR.f9 (hw 9 (by simp))
      simp only [e9]
      clear e9
      have q0 := ((hR.st hk).cell (p := ⟨b4, 1, none⟩) LA1.out.2).trans LA1.out.1
      go_simp
      refine hK.out _ _ ?_
      exact ⟨(fun jz => if jz = 22 then .pointer (some ⟨b4, 1, none⟩) else if jz = 23 then .int .i64 a.y else v jz), rfl, ⟨(fun h => hR.st (upd_false h)), hR.s1.k, hR.w1.o, hR.w3.o, hR.w5.o, hR.w7.o, hR.w8.o, (fun _ j hj => upd_on (hw j hj)), hR.w12.o, hR.w14.o, hR.w16.o, hR.w17.o, hR.w19.o, hR.w21.o, hR.w23.o, hR.w25.o, hR.w26.o, hR.w27.o, hR.w28.o, hR.f0.k, hR.f1.k, hR.f2.k, hR.f3.k, hR.f4.k, hR.f5.k, hR.f6.k, hR.f7.k, hR.f8.k, (fun _ => rfl), (fun _ => rfl), hR.f11.k, hR.f12.k, hR.f13.k, hR.f14.k, hR.f15.k, hR.f16.k, hR.f17.k, hR.f18.k, hR.f19.k, hR.f20.k, hR.f21.k, hR.f22.k, hR.f23.k, hR.f24.k, hR.f25.k, hR.f26.k, hR.f27.k⟩⟩
    refine EachOf.cons [] rfl (by kernel_rfl) ?_ ?_
    · rintro L A W ⟨v, rfl, hR⟩ hi hw K hK
      have hk : L 28 = false := hR.w28.not hi rfl
      go_simp
      refine hK.out _ _ ?_
      exact ⟨(fun jz => if jz = 24 then .pointer (some ⟨b9, 1, none⟩) else v jz), rfl, ⟨(fun h => hR.st (upd_false h)), hR.s1.k, hR.w1.o, hR.w3.o, hR.w5.o, hR.w7.o, hR.w8.o, hR.w10.o, hR.w12.o, hR.w14.o, hR.w16.o, hR.w17.o, hR.w19.o, hR.w21.o, hR.w23.o, hR.w25.o, hR.w26.o, hR.w27.o, hR.w28.o, hR.f0.k, hR.f1.k, hR.f2.k, hR.f3.k, hR.f4.k, hR.f5.k, hR.f6.k, hR.f7.k, hR.f8.k, hR.f9.k, hR.f10.k, (fun _ => rfl), hR.f12.k, hR.f13.k, hR.f14.k, hR.f15.k, hR.f16.k, hR.f17.k, hR.f18.k, hR.f19.k, hR.f20.k, hR.f21.k, hR.f22.k, hR.f23.k, hR.f24.k, hR.f25.k, hR.f26.k, hR.f27.k⟩⟩
    refine EachOf.cons [11] rfl (by kernel_rfl) ?_ ?_
    · rintro L A W ⟨v, rfl, hR⟩ hi hw K hK
      have hk : L 28 = false := hR.w28.not hi rfl
      have e11 := hR.f11 (hw 11 (by simp))
      simp only [e11]
      clear e11
      have q0 := ((hR.st hk).cell (p := ⟨b9, 1, none⟩) LD1.out.2).trans LD1.out.1
      go_simp
      refine hK.out _ _ ?_
      exact ⟨(fun jz => if jz = 24 then .pointer (some ⟨b9, 1, none⟩) else if jz = 25 then .int .i64 d.y else v jz), rfl, ⟨(fun h => hR.st (upd_false h)), hR.s1.k, hR.w1.o, hR.w3.o, hR.w5.o, hR.w7.o, hR.w8.o, hR.w10.o, (fun _ j hj => upd_on (hw j hj)), hR.w14.o, hR.w16.o, hR.w17.o, hR.w19.o, hR.w21.o, hR.w23.o, hR.w25.o, hR.w26.o, hR.w27.o, hR.w28.o, hR.f0.k, hR.f1.k, hR.f2.k, hR.f3.k, hR.f4.k, hR.f5.k, hR.f6.k, hR.f7.k, hR.f8.k, hR.f9.k, hR.f10.k, (fun _ => rfl), (fun _ => rfl), hR.f13.k, hR.f14.k, hR.f15.k, hR.f16.k, hR.f17.k, hR.f18.k, hR.f19.k, hR.f20.k, hR.f21.k, hR.f22.k, hR.f23.k, hR.f24.k, hR.f25.k, hR.f26.k, hR.f27.k⟩⟩
    refine EachOf.cons [] rfl (by kernel_rfl) ?_ ?_
    · rintro L A W ⟨v, rfl, hR⟩ hi hw K hK
      have hk : L 28 = false := hR.w28.not hi rfl
      go_simp
      refine hK.out _ _ ?_
      exact ⟨(fun jz => if jz = 26 then .int .i64 num else v jz), rfl, ⟨(fun h => hR.st (upd_false h)), hR.s1.k, hR.w1.o, hR.w3.o, hR.w5.o, hR.w7.o, hR.w8.o, hR.w10.o, hR.w12.o, hR.w14.o, hR.w16.o, hR.w17.o, hR.w19.o, hR.w21.o, hR.w23.o, hR.w25.o, hR.w26.o, hR.w27.o, hR.w28.o, hR.f0.k, hR.f1.k, hR.f2.k, hR.f3.k, hR.f4.k, hR.f5.k, hR.f6.k, hR.f7.k, hR.f8.k, hR.f9.k, hR.f10.k, hR.f11.k, hR.f12.k, (fun _ => rfl), hR.f14.k, hR.f15.k, hR.f16.k, hR.f17.k, hR.f18.k, hR.f19.k, hR.f20.k, hR.f21.k, hR.f22.k, hR.f23.k, hR.f24.k, hR.f25.k, hR.f26.k, hR.f27.k⟩⟩
    refine EachOf.cons [12, 13] rfl (by kernel_rfl) ?_ ?_
    · rintro L A W ⟨v, rfl, hR⟩ hi hw K hK
      have hk : L 28 = false := hR.w28.not hi rfl
      have e12 := hR.f12 (hw 12 (by simp))
      have e13 := hR.f13 (hw 13 (by simp))
      simp only [e12, e13]
      clear e12 e13
      go_simp
      refine hK.out _ _ ?_
      exact ⟨(fun jz => if jz = 25 then .int .i64 d.y else if jz = 26 then .int .i64 num else if jz = 27 then .int .i64 my else v jz), rfl, ⟨(fun h => hR.st (upd_false h)), hR.s1.k, hR.w1.o, hR.w3.o, hR.w5.o, hR.w7.o, hR.w8.o, hR.w10.o, hR.w12.o, (fun _ j hj => upd_on (hw j hj)), hR.w16.o, hR.w17.o, hR.w19.o, hR.w21.o, hR.w23.o, hR.w25.o, hR.w26.o, hR.w27.o, hR.w28.o, hR.f0.k, hR.f1.k, hR.f2.k, hR.f3.k, hR.f4.k, hR.f5.k, hR.f6.k, hR.f7.k, hR.f8.k, hR.f9.k, hR.f10.k, hR.f11.k, (fun _ => rfl), (fun _ => rfl), (fun _ => rfl), hR.f15.k, hR.f16.k, hR.f17.k, hR.f18.k, hR.f19.k, hR.f20.k, hR.f21.k, hR.f22.k, hR.f23.k, hR.f24.k, hR.f25.k, hR.f26.k, hR.f27.k⟩⟩
    refine EachOf.cons [] rfl (by kernel_rfl) ?_ ?_
    · rintro L A W ⟨v, rfl, hR⟩ hi hw K hK
      have hk : L 28 = false := hR.w28.not hi rfl
      go_simp
      refine hK.out _ _ ?_
      exact ⟨(fun jz => if jz = 28 then .int .i64 den else v jz), rfl, ⟨(fun h => hR.st (upd_false h)), hR.s1.k, hR.w1.o, hR.w3.o, hR.w5.o, hR.w7.o, hR.w8.o, hR.w10.o, hR.w12.o, hR.w14.o, hR.w16.o, hR.w17.o, hR.w19.o, hR.w21.o, hR.w23.o, hR.w25.o, hR.w26.o, hR.w27.o, hR.w28.o, hR.f0.k, hR.f1.k, hR.f2.k, hR.f3.k, hR.f4.k, hR.f5.k, hR.f6.k, hR.f7.k, hR.f8.k, hR.f9.k, hR.f10.k, hR.f11.k, hR.f12.k, hR.f13.k, hR.f14.k, (fun _ => rfl), hR.f16.k, hR.f17.k, hR.f18.k, hR.f19.k, hR.f20.k, hR.f21.k, hR.f22.k, hR.f23.k, hR.f24.k, hR.f25.k, hR.f26.k, hR.f27.k⟩⟩
    refine EachOf.cons [14, 15] rfl (by kernel_rfl) ?_ ?_
    · rintro L A W ⟨v, rfl, hR⟩ hi hw K hK
      have hk : L 28 = false := hR.w28.not hi rfl
      have e14 := hR.f14 (hw 14 (by simp))
      have e15 := hR.f15 (hw 15 (by simp))
      simp only [e14, e15]
      clear e14 e15
      go_simp
      go_at_call 61
      (with_reducible refine ((CY _).out).mono ?_)
      rintro e w2 ⟨rfl, rfl⟩
      go_simp
      refine hK.out _ _ ?_
      exact ⟨(fun jz => if jz = 27 then .int .i64 my else if jz = 28 then .int .i64 den else if jz = 29 then .int .i64 qy else v jz), rfl, ⟨(fun h => hR.st (upd_false h)), hR.s1.k, hR.w1.o, hR.w3.o, hR.w5.o, hR.w7.o, hR.w8.o, hR.w10.o, hR.w12.o, hR.w14.o, (fun _ j hj => upd_on (hw j hj)), hR.w17.o, hR.w19.o, hR.w21.o, hR.w23.o, hR.w25.o, hR.w26.o, hR.w27.o, hR.w28.o, hR.f0.k, hR.f1.k, hR.f2.k, hR.f3.k, hR.f4.k, hR.f5.k, hR.f6.k, hR.f7.k, hR.f8.k, hR.f9.k, hR.f10.k, hR.f11.k, hR.f12.k, hR.f13.k, (fun _ => rfl), (fun _ => rfl), (fun _ => rfl), hR.f17.k, hR.f18.k, hR.f19.k, hR.f20.k, hR.f21.k, hR.f22.k, hR.f23.k, hR.f24.k, hR.f25.k, hR.f26.k, hR.f27.k⟩⟩
    refine EachOf.cons [10, 16] rfl (by kernel_rfl) ?_ ?_
    · rintro L A W ⟨v, rfl, hR⟩ hi hw K hK
      have hk : L 28 = false := hR.w28.not hi rfl
      have e10 := hR.f10 (hw 10 (by simp))
      have e16 := hR.f16 (hw 16 (by simp))
      simp only [e10, e16]
      clear e10 e16
      go_simp
      refine hK.out _ _ ?_
      exact ⟨(fun jz => if jz = 23 then .int .i64 a.y else if jz = 29 then .int .i64 qy else if jz = 30 then .int .i64 y else v jz), rfl, ⟨(fun h => hR.st (upd_false h)), hR.s1.k, hR.w1.o, hR.w3.o, hR.w5.o, hR.w7.o, hR.w8.o, hR.w10.o, hR.w12.o, hR.w14.o, hR.w16.o, (fun _ j hj => upd_on (hw j hj)), hR.w19.o, hR.w21.o, hR.w23.o, hR.w25.o, hR.w26.o, hR.w27.o, hR.w28.o, hR.f0.k, hR.f1.k, hR.f2.k, hR.f3.k, hR.f4.k, hR.f5.k, hR.f6.k, hR.f7.k, hR.f8.k, hR.f9.k, (fun _ => rfl), hR.f11.k, hR.f12.k, hR.f13.k, hR.f14.k, hR.f15.k, (fun _ => rfl), (fun _ => rfl), hR.f18.k, hR.f19.k, hR.f20.k, hR.f21.k, hR.f22.k, hR.f23.k, hR.f24.k, hR.f25.k, hR.f26.k, hR.f27.k⟩⟩
    refine EachOf.cons [] rfl (by kernel_rfl) ?_ ?_
    · rintro L A W ⟨v, rfl, hR⟩ hi hw K hK
      have hk : L 28 = false := hR.w28.not hi rfl
      go_simp
      refine hK.out _ _ ?_
      exact ⟨(fun jz => if jz = 31 then .pointer (some ⟨b4, 2, none⟩) else v jz), rfl, ⟨(fun h => hR.st (upd_false h)), hR.s1.k, hR.w1.o, hR.w3.o, hR.w5.o, hR.w7.o, hR.w8.o, hR.w10.o, hR.w12.o, hR.w14.o, hR.w16.o, hR.w17.o, hR.w19.o, hR.w21.o, hR.w23.o, hR.w25.o, hR.w26.o, hR.w27.o, hR.w28.o, hR.f0.k, hR.f1.k, hR.f2.k, hR.f3.k, hR.f4.k, hR.f5.k, hR.f6.k, hR.f7.k, hR.f8.k, hR.f9.k, hR.f10.k, hR.f11.k, hR.f12.k, hR.f13.k, hR.f14.k, hR.f15.k, hR.f16.k, hR.f17.k, (fun _ => rfl), hR.f19.k, hR.f20.k, hR.f21.k, hR.f22.k, hR.f23.k, hR.f24.k, hR.f25.k, hR.f26.k, hR.f27.k⟩⟩
    refine EachOf.cons [18] rfl (by kernel_rfl) ?_ ?_
    · rintro L A W ⟨v, rfl, hR⟩ hi hw K hK
      have hk : L 28 = false := hR.w28.not hi rfl
      have e18 := hR.f18 (hw 18 (by simp))
      simp only [e18]
      clear e18
      have q0 := ((hR.st hk).cell (p := ⟨b4, 2, none⟩) LA2.out.2).trans LA2.out.1
      go_simp
      refine hK.out _ _ ?_
      exact ⟨(fun jz => if jz = 31 then .pointer (some ⟨b4, 2, none⟩) else if jz = 32 then .int .i64 a.z else v jz), rfl, ⟨(fun h => hR.st (upd_false h)), hR.s1.k, hR.w1.o, hR.w3.o, hR.w5.o, hR.w7.o, hR.w8.o, hR.w10.o, hR.w12.o, hR.w14.o, hR.w16.o, hR.w17.o, (fun _ j hj => upd_on (hw j hj)), hR.w21.o, hR.w23.o, hR.w25.o, hR.w26.o, hR.w27.o, hR.w28.o, hR.f0.k, hR.f1.k, hR.f2.k, hR.f3.k, hR.f4.k, hR.f5.k, hR.f6.k, hR.f7.k, hR.f8.k, hR.f9.k, hR.f10.k, hR.f11.k, hR.f12.k, hR.f13.k, hR.f14.k, hR.f15.k, hR.f16.k, hR.f17.k, (fun _ => rfl), (fun _ => rfl), hR.f20.k, hR.f21.k, hR.f22.k, hR.f23.k, hR.f24.k, hR.f25.k, hR.f26.k, hR.f27.k⟩⟩
    refine EachOf.cons [] rfl (by kernel_rfl) ?_ ?_
    · rintro L A W ⟨v, rfl, hR⟩ hi hw K hK
      have hk : L 28 = false := hR.w28.not hi rfl
      go_simp
      refine hK.out _ _ ?_
      exact ⟨(fun jz => if jz = 33 then .pointer (some ⟨b9, 2, none⟩) else v jz), rfl, ⟨(fun h => hR.st (upd_false h)), hR.s1.k, hR.w1.o, hR.w3.o, hR.w5.o, hR.w7.o, hR.w8.o, hR.w10.o, hR.w12.o, hR.w14.o, hR.w16.o, hR.w17.o, hR.w19.o, hR.w21.o, hR.w23.o, hR.w25.o, hR.w26.o, hR.w27.o, hR.w28.o, hR.f0.k, hR.f1.k, hR.f2.k, hR.f3.k, hR.f4.k, hR.f5.k, hR.f6.k, hR.f7.k, hR.f8.k, hR.f9.k, hR.f10.k, hR.f11.k, hR.f12.k, hR.f13.k, hR.f14.k, hR.f15.k, hR.f16.k, hR.f17.k, hR.f18.k, hR.f19.k, (fun _ => rfl), hR.f21.k, hR.f22.k, hR.f23.k, hR.f24.k, hR.f25.k, hR.f26.k, hR.f27.k⟩⟩
    refine EachOf.cons [20] rfl (by kernel_rfl) ?_ ?_
    · rintro L A W ⟨v, rfl, hR⟩ hi hw K hK
      have hk : L 28 = false := hR.w28.not hi rfl
      have e20 := hR.f20 (hw 20 (by simp))
      simp only [e20]
      clear e20
      have q0 := ((hR.st hk).cell (p := ⟨b9, 2, none⟩) LD2.out.2).trans LD2.out.1
      go_simp
      refine hK.out _ _ ?_
      exact ⟨(fun jz => if jz = 33 then .pointer (some ⟨b9, 2, none⟩) else if jz = 34 then .int .i64 d.z else v jz), rfl, ⟨(fun h => hR.st (upd_false h)), hR.s1.k, hR.w1.o, hR.w3.o, hR.w5.o, hR.w7.o, hR.w8.o, hR.w10.o, hR.w12.o, hR.w14.o, hR.w16.o, hR.w17.o, hR.w19.o, (fun _ j hj => upd_on (hw j hj)), hR.w23.o, hR.w25.o, hR.w26.o, hR.w27.o, hR.w28.o, hR.f0.k, hR.f1.k, hR.f2.k, hR.f3.k, hR.f4.k, hR.f5.k, hR.f6.k, hR.f7.k, hR.f8.k, hR.f9.k, hR.f10.k, hR.f11.k, hR.f12.k, hR.f13.k, hR.f14.k, hR.f15.k, hR.f16.k, hR.f17.k, hR.f18.k, hR.f19.k, (fun _ => rfl), (fun _ => rfl), hR.f22.k, hR.f23.k, hR.f24.k, hR.f25.k, hR.f26.k, hR.f27.k⟩⟩
    refine EachOf.cons [] rfl (by kernel_rfl) ?_ ?_
    · rintro L A W ⟨v, rfl, hR⟩ hi hw K hK
      have hk : L 28 = false := hR.w28.not hi rfl
      go_simp
      refine hK.out _ _ ?_
      exact ⟨(fun jz => if jz = 35 then .int .i64 num else v jz), rfl, ⟨(fun h => hR.st (upd_false h)), hR.s1.k, hR.w1.o, hR.w3.o, hR.w5.o, hR.w7.o, hR.w8.o, hR.w10.o, hR.w12.o, hR.w14.o, hR.w16.o, hR.w17.o, hR.w19.o, hR.w21.o, hR.w23.o, hR.w25.o, hR.w26.o, hR.w27.o, hR.w28.o, hR.f0.k, hR.f1.k, hR.f2.k, hR.f3.k, hR.f4.k, hR.f5.k, hR.f6.k, hR.f7.k, hR.f8.k, hR.f9.k, hR.f10.k, hR.f11.k, hR.f12.k, hR.f13.k, hR.f14.k, hR.f15.k, hR.f16.k, hR.f17.k, hR.f18.k, hR.f19.k, hR.f20.k, hR.f21.k, (fun _ => rfl), hR.f23.k, hR.f24.k, hR.f25.k, hR.f26.k, hR.f27.k⟩⟩
    refine EachOf.cons [21, 22] rfl (by kernel_rfl) ?_ ?_
    · rintro L A W ⟨v, rfl, hR⟩ hi hw K hK
      have hk : L 28 = false := hR.w28.not hi rfl
      have e21 := hR.f21 (hw 21 (by simp))
      have e22 := hR.f22 (hw 22 (by simp))
      simp only [e21, e22]
      clear e21 e22
      go_simp
      refine hK.out _ _ ?_
      exact ⟨(fun jz => if jz = 34 then .int .i64 d.z else if jz = 35 then .int .i64 num else if jz = 36 then .int .i64 mz else v jz), rfl, ⟨(fun h => hR.st (upd_false h)), hR.s1.k, hR.w1.o, hR.w3.o, hR.w5.o, hR.w7.o, hR.w8.o, hR.w10.o, hR.w12.o, hR.w14.o, hR.w16.o, hR.w17.o, hR.w19.o, hR.w21.o, (fun _ j hj => upd_on (hw j hj)), hR.w25.o, hR.w26.o, hR.w27.o, hR.w28.o, hR.f0.k, hR.f1.k, hR.f2.k, hR.f3.k, hR.f4.k, hR.f5.k, hR.f6.k, hR.f7.k, hR.f8.k, hR.f9.k, hR.f10.k, hR.f11.k, hR.f12.k, hR.f13.k, hR.f14.k, hR.f15.k, hR.f16.k, hR.f17.k, hR.f18.k, hR.f19.k, hR.f20.k, (fun _ => rfl), (fun _ => rfl), (fun _ => rfl), hR.f24.k, hR.f25.k, hR.f26.k, hR.f27.k⟩⟩
    refine EachOf.cons [] rfl (by kernel_rfl) ?_ ?_
    · rintro L A W ⟨v, rfl, hR⟩ hi hw K hK
      have hk : L 28 = false := hR.w28.not hi rfl
      go_simp
      refine hK.out _ _ ?_
      exact ⟨(fun jz => if jz = 37 then .int .i64 den else v jz), rfl, ⟨(fun h => hR.st (upd_false h)), hR.s1.k, hR.w1.o, hR.w3.o, hR.w5.o, hR.w7.o, hR.w8.o, hR.w10.o, hR.w12.o, hR.w14.o, hR.w16.o, hR.w17.o, hR.w19.o, hR.w21.o, hR.w23.o, hR.w25.o, hR.w26.o, hR.w27.o, hR.w28.o, hR.f0.k, hR.f1.k, hR.f2.k, hR.f3.k, hR.f4.k, hR.f5.k, hR.f6.k, hR.f7.k, hR.f8.k, hR.f9.k, hR.f10.k, hR.f11.k, hR.f12.k, hR.f13.k, hR.f14.k, hR.f15.k, hR.f16.k, hR.f17.k, hR.f18.k, hR.f19.k, hR.f20.k, hR.f21.k, hR.f22.k, hR.f23.k, (fun _ => rfl), hR.f25.k, hR.f26.k, hR.f27.k⟩⟩
    refine EachOf.cons [23, 24] rfl (by kernel_rfl) ?_ ?_
    · rintro L A W ⟨v, rfl, hR⟩ hi hw K hK
      have hk : L 28 = false := hR.w28.not hi rfl
      have e23 := hR.f23 (hw 23 (by simp))
      have e24 := hR.f24 (hw 24 (by simp))
      simp only [e23, e24]
      clear e23 e24
      go_simp
      go_at_call 61
      (with_reducible refine ((CZ _).out).mono ?_)
      rintro e w2 ⟨rfl, rfl⟩
      go_simp
      refine hK.out _ _ ?_
      exact ⟨(fun jz => if jz = 36 then .int .i64 mz else if jz = 37 then .int .i64 den else if jz = 38 then .int .i64 qz else v jz), rfl, ⟨(fun h => hR.st (upd_false h)), hR.s1.k, hR.w1.o, hR.w3.o, hR.w5.o, hR.w7.o, hR.w8.o, hR.w10.o, hR.w12.o, hR.w14.o, hR.w16.o, hR.w17.o, hR.w19.o, hR.w21.o, hR.w23.o, (fun _ j hj => upd_on (hw j hj)), hR.w26.o, hR.w27.o, hR.w28.o, hR.f0.k, hR.f1.k, hR.f2.k, hR.f3.k, hR.f4.k, hR.f5.k, hR.f6.k, hR.f7.k, hR.f8.k, hR.f9.k, hR.f10.k, hR.f11.k, hR.f12.k, hR.f13.k, hR.f14.k, hR.f15.k, hR.f16.k, hR.f17.k, hR.f18.k, hR.f19.k, hR.f20.k, hR.f21.k, hR.f22.k, (fun _ => rfl), (fun _ => rfl), (fun _ => rfl), hR.f26.k, hR.f27.k⟩⟩
    refine EachOf.cons [19, 25] rfl (by kernel_rfl) ?_ ?_
    · rintro L A W ⟨v, rfl, hR⟩ hi hw K hK
      have hk : L 28 = false := hR.w28.not hi rfl
      have e19 := hR.f19 (hw 19 (by simp))
      have e25 := hR.f25 (hw 25 (by simp))
      simp only [e19, e25]
      clear e19 e25
      go_simp
      refine hK.out _ _ ?_
      exact ⟨(fun jz => if jz = 32 then .int .i64 a.z else if jz = 38 then .int .i64 qz else if jz = 39 then .int .i64 z else v jz), rfl, ⟨(fun h => hR.st (upd_false h)), hR.s1.k, hR.w1.o, hR.w3.o, hR.w5.o, hR.w7.o, hR.w8.o, hR.w10.o, hR.w12.o, hR.w14.o, hR.w16.o, hR.w17.o, hR.w19.o, hR.w21.o, hR.w23.o, hR.w25.o, (fun _ j hj => upd_on (hw j hj)), hR.w27.o, hR.w28.o, hR.f0.k, hR.f1.k, hR.f2.k, hR.f3.k, hR.f4.k, hR.f5.k, hR.f6.k, hR.f7.k, hR.f8.k, hR.f9.k, hR.f10.k, hR.f11.k, hR.f12.k, hR.f13.k, hR.f14.k, hR.f15.k, hR.f16.k, hR.f17.k, hR.f18.k, (fun _ => rfl), hR.f20.k, hR.f21.k, hR.f22.k, hR.f23.k, hR.f24.k, (fun _ => rfl), (fun _ => rfl), hR.f27.k⟩⟩
    refine EachOf.cons [8, 17, 26] rfl (by kernel_rfl) ?_ ?_
    · rintro L A W ⟨v, rfl, hR⟩ hi hw K hK
      have hk : L 28 = false := hR.w28.not hi rfl
      have e8 := hR.f8 (hw 8 (by simp))
      have e17 := hR.f17 (hw 17 (by simp))
      have e26 := hR.f26 (hw 26 (by simp))
      simp only [e8, e17, e26]
      clear e8 e17 e26
      go_simp
      refine hK.out _ _ ?_
      exact ⟨(fun jz => if jz = 21 then .int .i64 x else if jz = 30 then .int .i64 y else if jz = 39 then .int .i64 z else if jz = 40 then .agg #[.int .i64 x, .int .i64 y, .int .i64 z] else v jz), rfl, ⟨(fun h => hR.st (upd_false h)), hR.s1.k, hR.w1.o, hR.w3.o, hR.w5.o, hR.w7.o, hR.w8.o, hR.w10.o, hR.w12.o, hR.w14.o, hR.w16.o, hR.w17.o, hR.w19.o, hR.w21.o, hR.w23.o, hR.w25.o, hR.w26.o, (fun _ j hj => upd_on (hw j hj)), hR.w28.o, hR.f0.k, hR.f1.k, hR.f2.k, hR.f3.k, hR.f4.k, hR.f5.k, hR.f6.k, hR.f7.k, (fun _ => rfl), hR.f9.k, hR.f10.k, hR.f11.k, hR.f12.k, hR.f13.k, hR.f14.k, hR.f15.k, hR.f16.k, (fun _ => rfl), hR.f18.k, hR.f19.k, hR.f20.k, hR.f21.k, hR.f22.k, hR.f23.k, hR.f24.k, hR.f25.k, (fun _ => rfl), (fun _ => rfl)⟩⟩
    refine EachOf.cons [0, 1, 2, 3, 4, 5, 6, 7, 8, 9, 10, 11, 12, 13, 14, 15, 16, 17, 18, 19, 20, 21, 22, 23, 24, 25, 26, 27] rfl (by kernel_rfl) ?_ ?_
    · rintro L A W ⟨v, rfl, hR⟩ hi hw K hK
      have e27 := hR.f27 (hw 27 (by simp))
      simp only [e27]
      clear e27
      have hO5 := HO3.out.on (hR.st hi)
      have z0 := hO5.c0
      have z1 := hO5.c1
      have z2 := hO5.c2
      have y0 := hO5.f 0
      have y1 := hO5.f 1
      have y2 := hO5.f 2
      clear hO5
      go_simp
      refine hK.out _ _ ?_
      exact ⟨(fun jz => if jz = 40 then .agg #[.int .i64 x, .int .i64 y, .int .i64 z] else v jz), rfl, ⟨(fun h => by simp [upd_self] at h), (fun _ => ⟨W, hR.st hi, rfl⟩), hR.w1.o, hR.w3.o, hR.w5.o, hR.w7.o, hR.w8.o, hR.w10.o, hR.w12.o, hR.w14.o, hR.w16.o, hR.w17.o, hR.w19.o, hR.w21.o, hR.w23.o, hR.w25.o, hR.w26.o, hR.w27.o, (fun _ j hj => upd_on (hw j hj)), hR.f0.k, hR.f1.k, hR.f2.k, hR.f3.k, hR.f4.k, hR.f5.k, hR.f6.k, hR.f7.k, hR.f8.k, hR.f9.k, hR.f10.k, hR.f11.k, hR.f12.k, hR.f13.k, hR.f14.k, hR.f15.k, hR.f16.k, hR.f17.k, hR.f18.k, hR.f19.k, hR.f20.k, hR.f21.k, hR.f22.k, hR.f23.k, hR.f24.k, hR.f25.k, hR.f26.k, (fun _ => rfl)⟩⟩
    exact EachOf.nil
  rintro L A W6 ⟨va, rfl, hR⟩ hL
  obtain ⟨W4, hb4, hW0⟩ := hR.s1 (hL 28 (by simp))
  have hO4 := HO3.out.on hb4
  have l4 := hO4.lt
  have o0 := hO4.c0
  have o1 := hO4.c1
  have o2 := hO4.c2
  have HX : Hid (Below w.heap.size w W6) := by
    rw [hW0]
    exact (((below_on HB3.out hb4).setCell lo _).setCell lo _).setCell lo _
  have x0 : W6.cell? ⟨b8, 0, none⟩ = some (.int .i64 x) := by rw [hW0]; simp [go_sem, o0]
  have x1 : W6.cell? ⟨b8, 1, none⟩ = some (.int .i64 y) := by rw [hW0]; simp [go_sem, o1]
  have x2 : W6.cell? ⟨b8, 2, none⟩ = some (.int .i64 z) := by rw [hW0]; simp [go_sem, o2]
  clear hR hL hb4 hW0 hO4 o0 o1 o2 l4 LA0 LA1 LA2 LD0 LD1 LD2 CX CY CZ wx wy wz sx sy sz
  go_wp2_with fail
  (try simp only [Exit.inBlock, Exit.then])
  refine bodyPost_ret (by simp [results, Try.results30, go_sem, x0, x1, x2]; try rfl) rfl ?_
  exact ⟨rfl, HX.out⟩
end Go.Proofs.Ytabpnkpedcgcpaa
