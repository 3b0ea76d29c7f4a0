/- Layer 9: errors of lists; Flat. -/
import Derived.Test.YtcghjjfpjiacfaaDoorVF4
namespace Go.Proofs.YtcghjjfpjiacfaaDoor
open Go.ChangeShapes Go.WideShapes Go.ChangeAt Go.RowKit Go.Joins Go.Deep Go.Shelf
set_option linter.unusedVariables false

/-- The error of a list. -/
def erL (n : Nat) (f : Nat → Pt) : Int := if ¬ allV n f then 1 else if 20 < n then 4 else 0
set_option maxHeartbeats 4000000 in
theorem errorOf_any (ra : Option Addr) (n rc : Nat) (f : Nat → Pt) (w : World) (hp : PtR w ra n f) (hn : n ≤ 9223372036854775807) :
    Calls Tryd.prog 42 #[.slice ra n rc] w fun e w' => e = .returned (.int .i64 (erL n f)) ∧ Below w.heap.size w w' := by
  have CV := areV_any ra n rc f w hp hn
  by_cases hv : allV n f
  · rw [decide_eq_true hv] at CV
    have C := Lib.hid CV
    by_cases h2 : 20 < n
    · have he : Hid (erL n f = 4) := by show erL n f = 4; unfold erL; rw [if_neg (fun h => h hv), if_pos h2]
      have d : decide ((20 : Int) < (n : Int)) = true := decide_eq_true (by omega)
      clear CV hp hv
      go_enter Tryd.func42, Tryd.ntmps42
      go_wp2_with (go_at_call 80; (with_reducible refine ((C.out).mono ?_)); rintro e w2 ⟨rfl, hb⟩)
      go_ret
      exact ⟨by rw [he.out]; rfl, hb⟩
    · have he : Hid (erL n f = 0) := by show erL n f = 0; unfold erL; rw [if_neg (fun h => h hv), if_neg h2]
      have d : decide ((20 : Int) < (n : Int)) = false := decide_eq_false (by omega)
      clear CV hp hv
      go_enter Tryd.func42, Tryd.ntmps42
      go_wp2_with (go_at_call 80; (with_reducible refine ((C.out).mono ?_)); rintro e w2 ⟨rfl, hb⟩)
      go_ret
      exact ⟨by rw [he.out]; rfl, hb⟩
  · rw [decide_eq_false hv] at CV
    have C := Lib.hid CV
    have he : Hid (erL n f = 1) := by show erL n f = 1; unfold erL; rw [if_pos hv]
    clear CV hp hv
    go_enter Tryd.func42, Tryd.ntmps42
    go_wp2_with (go_at_call 80; (with_reducible refine ((C.out).mono ?_)); rintro e w2 ⟨rfl, hb⟩)
    go_ret
    exact ⟨by rw [he.out]; rfl, hb⟩
structure Vf1R (nb lb sg o n rc b3 : Nat) (p r q u : Pt) (t : Bool) (Wc : World) (L : Nat → Bool) (v : Nat → Value) (W : World) : Prop where
  st : Below Wc.heap.size Wc W
  w2 : Had L 2 (∀ j ∈ [1], L j = true)
  w3 : Had L 3 (∀ j ∈ [2], L j = true)
  w5 : Had L 5 (∀ j ∈ [3, 4], L j = true)
  w6 : Had L 6 (∀ j ∈ [0, 5], L j = true)
  w7 : Had L 7 (∀ j ∈ [6], L j = true)
  w8 : Had L 8 (∀ j ∈ [7], L j = true)
  f0 : Had L 0 (v 5 = .agg #[.int .i64 r.x, .int .i64 r.y, .int .i64 r.z])
  f1 : Had L 1 (v 6 = .slice (some ⟨sg, o, none⟩) (n) (rc))
  f2 : Had L 2 (v 7 = .pointer (some ⟨sg, o, none⟩))
  f3 : Had L 3 (v 8 = .agg #[.int .i64 q.x, .int .i64 q.y, .int .i64 q.z])
  f4 : Had L 4 (v 9 = .agg #[.int .i64 p.x, .int .i64 p.y, .int .i64 p.z])
  f5 : Had L 5 (v 10 = .agg #[.int .i64 u.x, .int .i64 u.y, .int .i64 u.z])
  f6 : Had L 6 (v 11 = .bool t)
  f7 : Had L 7 (v 12 = .bool (!t))
  f8 : Had L 8 (v 4 = .bool (!t))
set_option maxRecDepth 100000 in
set_option maxHeartbeats 8000000 in
theorem flat1_any (p r q : Pt) (nb lb sg o n rc : Nat) (w : World) (hr : B3 w nb r.x r.y r.z) (hl : lb < w.heap.size ∧ w.cell? ⟨lb, 0, none⟩ = some (.slice (some ⟨sg, o, none⟩) n rc)) (hg : sg < w.heap.size) (hc : w.cell? ⟨sg, o, none⟩ = some (.int .i64 q.x) ∧ w.cell? ⟨sg, o + 1, none⟩ = some (.int .i64 q.y) ∧ w.cell? ⟨sg, o + 2, none⟩ = some (.int .i64 q.z)) (hq : q.ok) (hp : p.ok) (hrl : lim3 r 8796093022208) (h0 : 0 < n) :
    Calls Tryd.prog 45 #[.agg #[.int .i64 p.x, .int .i64 p.y, .int .i64 p.z], .pointer (some ⟨nb, 0, none⟩), .pointer (some ⟨lb, 0, none⟩)] w fun e w' => e = .returned (.bool (!decide (r.dot (p.sub q) = 0))) ∧ Below w.heap.size w w' := by
  have CU := fun W => Lib.hid (diffS_any q p W hq hp)
  have lu := sub_lim hp hq
  obtain ⟨u, hu⟩ : ∃ u, p.sub q = u := ⟨_, rfl⟩
  rw [hu] at CU lu
  rw [hu]
  have CP := fun W => Lib.hid (perp_any r u W hrl lu)
  obtain ⟨t, ht⟩ : ∃ t, decide (r.dot u = 0) = t := ⟨_, rfl⟩
  rw [ht] at CP
  rw [ht]
  obtain ⟨w1, hw1⟩ : ∃ W, W = w.alloc (Obj.cells #[.int .i64 p.x, .int .i64 p.y, .int .i64 p.z] 23) := ⟨_, rfl⟩
  obtain ⟨b3, hb3⟩ : ∃ x, x = w.heap.size := ⟨_, rfl⟩
  have bl := below_alloc w (Obj.cells #[.int .i64 p.x, .int .i64 p.y, .int .i64 p.z] 23)
  have hB := B3.new w p.x p.y p.z 23
  rw [← hw1] at bl hB
  rw [← hb3] at hB
  have hr1 := hr.on bl
  have LR0 := Lib.hid (And.intro hr1.c0 hr1.lt)
  have LR1 := Lib.hid (And.intro hr1.c1 hr1.lt)
  have LR2 := Lib.hid (And.intro hr1.c2 hr1.lt)
  have LL := Lib.hid (And.intro ((bl.cell (p := ⟨lb, 0, none⟩) hl.1).trans hl.2) (Nat.lt_of_lt_of_le hl.1 bl.size))
  have LQ0 := Lib.hid (And.intro ((bl.cell (p := ⟨sg, o, none⟩) hg).trans hc.1) (Nat.lt_of_lt_of_le hg bl.size))
  have LQ1 := Lib.hid (And.intro ((bl.cell (p := ⟨sg, o + 1, none⟩) hg).trans hc.2.1) (Nat.lt_of_lt_of_le hg bl.size))
  have LQ2 := Lib.hid (And.intro ((bl.cell (p := ⟨sg, o + 2, none⟩) hg).trans hc.2.2) (Nat.lt_of_lt_of_le hg bl.size))
  have LP0 := Lib.hid (And.intro hB.c0 hB.lt)
  have LP1 := Lib.hid (And.intro hB.c1 hB.lt)
  have LP2 := Lib.hid (And.intro hB.c2 hB.lt)
  have HB := Lib.hid bl
  have HN : Hid (w1 = w.alloc (Obj.cells #[.int .i64 p.x, .int .i64 p.y, .int .i64 p.z] 23) ∧ b3 = w.heap.size) := ⟨hw1, hb3⟩
  have lz : (0 : Int) < (n : Int) := by omega
  clear hw1 hb3 bl hB hr1 hr hl hg hc hq hp hrl lu hu ht
  go_enter Tryd.func45, Tryd.ntmps45
  go_upto_region 1 with fail
  rw [← HN.out.1, ← HN.out.2]
  clear HN
  refine wp_region_each (fun L A W => ∃ (v : Nat → Value), A = ⟨#[_, _, _, _, v 4, v 5, v 6, v 7, v 8, v 9, v 10, v 11, v 12], []⟩ ∧ Vf1R nb lb sg o n rc b3 p r q u t w1 L v W) (by kernel_rfl) (by kernel_rfl) ⟨fun jz => if jz = 5 then undef else if jz = 6 then undef else if jz = 7 then undef else if jz = 8 then undef else if jz = 9 then undef else if jz = 10 then undef else if jz = 11 then undef else if jz = 12 then undef else if jz = 4 then .bool false else undef, rfl, ⟨Below.drew (Below.refl _ _), Had.none, Had.none, Had.none, Had.none, Had.none, Had.none, Had.none, Had.none, Had.none, Had.none, Had.none, Had.none, Had.none, Had.none, Had.none⟩⟩ (rs := [0, 1, 2, 3, 4, 5, 6, 7, 8]) (by kernel_rfl) ?_ ?_
  · refine EachOf.cons [] rfl (by kernel_rfl) ?_ ?_
    · rintro L A W ⟨v, rfl, hR⟩ hi hw K hK
      have q0 := (hR.st.cell (p := ⟨nb, 0, none⟩) LR0.out.2).trans LR0.out.1
      have q1 := (hR.st.cell (p := ⟨nb, 1, none⟩) LR1.out.2).trans LR1.out.1
      have q2 := (hR.st.cell (p := ⟨nb, 2, none⟩) LR2.out.2).trans LR2.out.1
      go_simp
      refine hK.out _ _ ?_
      exact ⟨(fun jz => if jz = 5 then .agg #[.int .i64 r.x, .int .i64 r.y, .int .i64 r.z] else v jz), rfl, ⟨hR.st, hR.w2.o, hR.w3.o, hR.w5.o, hR.w6.o, hR.w7.o, hR.w8.o, (fun _ => rfl), hR.f1.k, hR.f2.k, hR.f3.k, hR.f4.k, hR.f5.k, hR.f6.k, hR.f7.k, hR.f8.k⟩⟩
    refine EachOf.cons [] rfl (by kernel_rfl) ?_ ?_
    · rintro L A W ⟨v, rfl, hR⟩ hi hw K hK
      have q0 := (hR.st.cell (p := ⟨lb, 0, none⟩) LL.out.2).trans LL.out.1
      go_simp
      refine hK.out _ _ ?_
      exact ⟨(fun jz => if jz = 6 then .slice (some ⟨sg, o, none⟩) (n) (rc) else v jz), rfl, ⟨hR.st, hR.w2.o, hR.w3.o, hR.w5.o, hR.w6.o, hR.w7.o, hR.w8.o, hR.f0.k, (fun _ => rfl), hR.f2.k, hR.f3.k, hR.f4.k, hR.f5.k, hR.f6.k, hR.f7.k, hR.f8.k⟩⟩
    refine EachOf.cons [1] rfl (by kernel_rfl) ?_ ?_
    · rintro L A W ⟨v, rfl, hR⟩ hi hw K hK
      have e1 := hR.f1 (hw 1 (by simp))
      simp only [e1]
      clear e1
      go_simp
      refine hK.out _ _ ?_
      exact ⟨(fun jz => if jz = 6 then .slice (some ⟨sg, o, none⟩) (n) (rc) else if jz = 7 then .pointer (some ⟨sg, o, none⟩) else v jz), rfl, ⟨hR.st, (fun _ j hj => upd_on (hw j hj)), hR.w3.o, hR.w5.o, hR.w6.o, hR.w7.o, hR.w8.o, hR.f0.k, (fun _ => rfl), (fun _ => rfl), hR.f3.k, hR.f4.k, hR.f5.k, hR.f6.k, hR.f7.k, hR.f8.k⟩⟩
    refine EachOf.cons [2] rfl (by kernel_rfl) ?_ ?_
    · rintro L A W ⟨v, rfl, hR⟩ hi hw K hK
      have e2 := hR.f2 (hw 2 (by simp))
      simp only [e2]
      clear e2
      have q0 := (hR.st.cell (p := ⟨sg, o, none⟩) LQ0.out.2).trans LQ0.out.1
      have q1 := (hR.st.cell (p := ⟨sg, o + 1, none⟩) LQ1.out.2).trans LQ1.out.1
      have q2 := (hR.st.cell (p := ⟨sg, o + 2, none⟩) LQ2.out.2).trans LQ2.out.1
      go_simp
      refine hK.out _ _ ?_
      exact ⟨(fun jz => if jz = 7 then .pointer (some ⟨sg, o, none⟩) else if jz = 8 then .agg #[.int .i64 q.x, .int .i64 q.y, .int .i64 q.z] else v jz), rfl, ⟨hR.st, hR.w2.o, (fun _ j hj => upd_on (hw j hj)), hR.w5.o, hR.w6.o, hR.w7.o, hR.w8.o, hR.f0.k, hR.f1.k, (fun _ => rfl), (fun _ => rfl), hR.f4.k, hR.f5.k, hR.f6.k, hR.f7.k, hR.f8.k⟩⟩
    refine EachOf.cons [] rfl (by kernel_rfl) ?_ ?_
    · rintro L A W ⟨v, rfl, hR⟩ hi hw K hK
      have q0 := (hR.st.cell (p := ⟨b3, 0, none⟩) LP0.out.2).trans LP0.out.1
      have q1 := (hR.st.cell (p := ⟨b3, 1, none⟩) LP1.out.2).trans LP1.out.1
      have q2 := (hR.st.cell (p := ⟨b3, 2, none⟩) LP2.out.2).trans LP2.out.1
      go_simp
      refine hK.out _ _ ?_
      exact ⟨(fun jz => if jz = 9 then .agg #[.int .i64 p.x, .int .i64 p.y, .int .i64 p.z] else v jz), rfl, ⟨hR.st, hR.w2.o, hR.w3.o, hR.w5.o, hR.w6.o, hR.w7.o, hR.w8.o, hR.f0.k, hR.f1.k, hR.f2.k, hR.f3.k, (fun _ => rfl), hR.f5.k, hR.f6.k, hR.f7.k, hR.f8.k⟩⟩
    refine EachOf.cons [3, 4] rfl (by kernel_rfl) ?_ ?_
    · rintro L A W ⟨v, rfl, hR⟩ hi hw K hK
      have e3 := hR.f3 (hw 3 (by simp))
      have e4 := hR.f4 (hw 4 (by simp))
      simp only [e3, e4]
      clear e3 e4
      go_simp
      go_at_call 47
      (with_reducible refine ((CU _).out).mono ?_)
      rintro e w2 ⟨rfl, hb⟩
      go_simp
      refine hK.out _ _ ?_
      exact ⟨(fun jz => if jz = 8 then .agg #[.int .i64 q.x, .int .i64 q.y, .int .i64 q.z] else if jz = 9 then .agg #[.int .i64 p.x, .int .i64 p.y, .int .i64 p.z] else if jz = 10 then .agg #[.int .i64 u.x, .int .i64 u.y, .int .i64 u.z] else v jz), rfl, ⟨below_on hR.st hb, hR.w2.o, hR.w3.o, (fun _ j hj => upd_on (hw j hj)), hR.w6.o, hR.w7.o, hR.w8.o, hR.f0.k, hR.f1.k, hR.f2.k, (fun _ => rfl), (fun _ => rfl), (fun _ => rfl), hR.f6.k, hR.f7.k, hR.f8.k⟩⟩
    refine EachOf.cons [0, 5] rfl (by kernel_rfl) ?_ ?_
    · rintro L A W ⟨v, rfl, hR⟩ hi hw K hK
      have e0 := hR.f0 (hw 0 (by simp))
      have e5 := hR.f5 (hw 5 (by simp))
      simp only [e0, e5]
      clear e0 e5
      go_simp
      go_at_call 46
      (with_reducible refine ((CP _).out).mono ?_)
      rintro e w2 ⟨rfl, hb⟩
      go_simp
      refine hK.out _ _ ?_
      exact ⟨(fun jz => if jz = 5 then .agg #[.int .i64 r.x, .int .i64 r.y, .int .i64 r.z] else if jz = 10 then .agg #[.int .i64 u.x, .int .i64 u.y, .int .i64 u.z] else if jz = 11 then .bool t else v jz), rfl, ⟨below_on hR.st hb, hR.w2.o, hR.w3.o, hR.w5.o, (fun _ j hj => upd_on (hw j hj)), hR.w7.o, hR.w8.o, (fun _ => rfl), hR.f1.k, hR.f2.k, hR.f3.k, hR.f4.k, (fun _ => rfl), (fun _ => rfl), hR.f7.k, hR.f8.k⟩⟩
    refine EachOf.cons [6] rfl (by kernel_rfl) ?_ ?_
    · rintro L A W ⟨v, rfl, hR⟩ hi hw K hK
      have e6 := hR.f6 (hw 6 (by simp))
      simp only [e6]
      clear e6
      go_simp
      refine hK.out _ _ ?_
      exact ⟨(fun jz => if jz = 11 then .bool t else if jz = 12 then .bool (!t) else v jz), rfl, ⟨hR.st, hR.w2.o, hR.w3.o, hR.w5.o, hR.w6.o, (fun _ j hj => upd_on (hw j hj)), hR.w8.o, hR.f0.k, hR.f1.k, hR.f2.k, hR.f3.k, hR.f4.k, hR.f5.k, (fun _ => rfl), (fun _ => rfl), hR.f8.k⟩⟩
    refine EachOf.cons [7] rfl (by kernel_rfl) ?_ ?_
    · rintro L A W ⟨v, rfl, hR⟩ hi hw K hK
      have e7 := hR.f7 (hw 7 (by simp))
      simp only [e7]
      clear e7
      go_simp
      refine hK.out _ _ ?_
      exact ⟨(fun jz => if jz = 12 then .bool (!t) else if jz = 4 then .bool (!t) else v jz), rfl, ⟨hR.st, hR.w2.o, hR.w3.o, hR.w5.o, hR.w6.o, hR.w7.o, (fun _ j hj => upd_on (hw j hj)), hR.f0.k, hR.f1.k, hR.f2.k, hR.f3.k, hR.f4.k, hR.f5.k, hR.f6.k, (fun _ => rfl), (fun _ => rfl)⟩⟩
    exact EachOf.nil
  rintro L A W6 ⟨vs, rfl, hR⟩ hL
  have e8 := hR.f8 (hL 8 (by simp))
  simp only [e8]
  have HE := Lib.hid (below_on HB.out hR.st)
  clear hR hL e8 LR0 LR1 LR2 LL LQ0 LQ1 LQ2 LP0 LP1 LP2 CU CP HB
  go_wp2_with fail
  go_ret
  exact ⟨rfl, HE.out⟩
set_option maxRecDepth 100000 in
set_option maxHeartbeats 8000000 in
theorem normal0_any (ra : Option Addr) (rc : Nat) (w : World) :
    Calls Tryd.prog 43 #[.slice ra 0 rc] w fun e w' => e = .returned (.agg #[.int .i64 0, .int .i64 0, .int .i64 0]) ∧ Below w.heap.size w w' := by
  obtain ⟨w1, hw1⟩ : ∃ W, W = w.alloc (Obj.cells #[.int .i64 0, .int .i64 0, .int .i64 0] 79) := ⟨_, rfl⟩
  obtain ⟨b2, hb2⟩ : ∃ x, x = w.heap.size := ⟨_, rfl⟩
  have bl := below_alloc w (Obj.cells #[.int .i64 0, .int .i64 0, .int .i64 0] 79)
  have hO : B3 w1 b2 0 0 0 := by rw [hw1, hb2]; exact B3.new _ _ _ _ _
  rw [← hw1] at bl
  have lo : w.heap.size ≤ b2 := by omega
  have HN : Hid (b2 = w.heap.size ∧ w1 = w.alloc (Obj.cells #[.int .i64 0, .int .i64 0, .int .i64 0] 79)) := ⟨hb2, hw1⟩
  have HO := Lib.hid hO
  have HB := Lib.hid bl
  clear hO bl hw1 hb2
  go_enter Tryd.func43, Tryd.ntmps43
  go_upto_region 1 with fail
  rw [← HN.out.2, ← HN.out.1]
  clear HN
  go_wp2_with fail
  go_loopg [10] 1 (fun mm s10 wx => s10 = .int .i64 0 ∧ mm = 1 ∧ wx = w1)
  case atStart => exact ⟨rfl, rfl, rfl⟩
  case round =>
    obtain ⟨rfl, rfl, rfl⟩ := hrel
    have q0 := HO.out.c0
    have q1 := HO.out.c1
    have q2 := HO.out.c2
    have f0 := HO.out.f 0
    have f1 := HO.out.f 1
    have f2 := HO.out.f 2
    have ql := HO.out.lt
    have HE := Lib.hid (fun v0 v1 v2 => ((HB.out.setCell lo (p := ⟨b2, 0, none⟩) v0).setCell lo (p := ⟨b2, 1, none⟩) v1).setCell lo (p := ⟨b2, 2, none⟩) v2)
    clear HO HB
    go_wp2_with fail
    refine bodyPost_ret (by simp [results, Tryd.results43, go_sem, q0, q1, q2]; try rfl) rfl ?_
    exact ⟨rfl, HE.out _ _ _⟩
/-- What Flat returns. -/
def FlO (n : Nat) (f : Nat → Pt) (v : Bool) (e : Int) : Prop := (¬ allV n f ∧ v = false ∧ e = 1) ∨ (allV n f ∧ 20 < n ∧ v = false ∧ e = 4) ∨ (allV n f ∧ n ≤ 20 ∧ (v = true ↔ FlatQ n f) ∧ e = 0)
theorem flO_ex (n : Nat) (f : Nat → Pt) : ∃ v e, FlO n f v e := by
  by_cases h1 : allV n f
  · by_cases h2 : 20 < n
    · exact ⟨false, 4, .inr (.inl ⟨h1, h2, rfl, rfl⟩)⟩
    · rcases Classical.em (FlatQ n f) with h | h
      · exact ⟨true, 0, .inr (.inr ⟨h1, by omega, ⟨fun _ => h, fun _ => rfl⟩, rfl⟩)⟩
      · exact ⟨false, 0, .inr (.inr ⟨h1, by omega, ⟨fun q => (by cases q), fun q => absurd q h⟩, rfl⟩)⟩
  · exact ⟨false, 1, .inl ⟨h1, rfl, rfl⟩⟩
structure FtS (w W : World) (b1 : Nat) (ra : Option Addr) (n rc : Nat) (f : Nat → Pt) : Prop where
  st : Below w.heap.size w W
  lt : b1 < W.heap.size
  c : W.cell? ⟨b1, 0, none⟩ = some (.slice ra n rc)
  l : PtR W ra n f
  p : PR W
theorem FtS.on {w W W2 : World} {b1 : Nat} {ra : Option Addr} {n rc : Nat} {f : Nat → Pt} (h : FtS w W b1 ra n rc f) (hb : Below W.heap.size W W2) : FtS w W2 b1 ra n rc f :=
  ⟨below_on h.st hb, Nat.lt_of_lt_of_le h.lt hb.size, (hb.cell (p := ⟨b1, 0, none⟩) h.lt).trans h.c, h.l.on hb, h.p.on hb⟩
theorem normal_all (ra : Option Addr) (n rc : Nat) (f : Nat → Pt) (w : World) (hp : PR w) (hl : PtR w ra n f) (hv : allV n f) (hn : n ≤ 20) (hrc : n ≤ rc) (hrc2 : rc ≤ 9223372036854775807) :
    Calls Tryd.prog 43 #[.slice ra n rc] w fun e w' => (∃ r : Pt, e = .returned (.agg #[.int .i64 r.x, .int .i64 r.y, .int .i64 r.z]) ∧ NrmQ n f r) ∧ Below w.heap.size w w' := by
  by_cases h0 : 0 < n
  · obtain ⟨sg, o, rfl, hg, hc⟩ := hl h0
    exact normal_any sg o n rc f w hp hg hc hv hn hrc hrc2 h0
  · have e0 : n = 0 := by omega
    subst e0
    refine (normal0_any ra rc w).mono ?_
    rintro e w' ⟨rfl, hb⟩
    exact ⟨⟨⟨0, 0, 0⟩, rfl, .inl ⟨⟨rfl, rfl, rfl⟩, fun i j h => by omega⟩⟩, hb⟩
set_option maxRecDepth 100000 in
set_option maxHeartbeats 16000000 in
theorem flat_any (ra : Option Addr) (n rc : Nat) (f : Nat → Pt) (w : World) (hp : PR w) (hl : PtR w ra n f) (hrc : n ≤ rc) (hrc2 : rc ≤ 9223372036854775807) (v : Bool) (e : Int) (h : FlO n f v e) :
    Calls Tryd.prog 10 #[.slice ra n rc] w fun r w' => r = .returned (.tuple #[.bool v, .int .i64 e]) ∧ Below w.heap.size w w' := by
  obtain ⟨w1, hw1⟩ : ∃ W, W = w.alloc (Obj.cells #[.slice ra n rc] 24) := ⟨_, rfl⟩
  obtain ⟨b1, hb1⟩ : ∃ x, x = w.heap.size := ⟨_, rfl⟩
  have bl := below_alloc w (Obj.cells #[.slice ra n rc] 24)
  have hc1 : (w.alloc (Obj.cells #[.slice ra n rc] 24)).cell? ⟨w.heap.size, 0, none⟩ = some (.slice ra n rc) := by simp [go_sem]
  have hlt1 : w.heap.size < (w.alloc (Obj.cells #[.slice ra n rc] 24)).heap.size := by simp
  rw [← hw1] at bl hc1 hlt1
  rw [← hb1] at hc1 hlt1
  have HS : Hid (FtS w w1 b1 ra n rc f) := ⟨bl, hlt1, hc1, hl.on bl, hp.on bl⟩
  have CE0 := errorOf_any ra n rc f w1 (hl.on bl) (by omega)
  have HN : Hid (b1 = w.heap.size ∧ w1 = w.alloc (Obj.cells #[.slice ra n rc] 24)) := ⟨hb1, hw1⟩
  clear bl hlt1 hw1 hb1 hp hl
  rcases h with ⟨h1, rfl, rfl⟩ | ⟨h1, h2, rfl, rfl⟩ | ⟨h1, h2, h3, rfl⟩
  · rw [show erL n f = 1 by unfold erL; rw [if_pos h1]] at CE0
    have CE := Lib.hid CE0
    clear CE0 h1
    go_enter Tryd.func10, Tryd.ntmps10
    go_upto_region 1 with fail
    rw [← HN.out.2, ← HN.out.1]
    clear HN
    go_wp2_with (go_at_call 42; (with_reducible refine ((CE.out).mono ?_)); rintro r w2 ⟨rfl, hb2⟩)
    go_ret2
    exact ⟨rfl, below_on HS.out.st hb2⟩
  · rw [show erL n f = 4 by unfold erL; rw [if_neg (fun h => h h1), if_pos h2]] at CE0
    have CE := Lib.hid CE0
    clear CE0 h1 h2
    go_enter Tryd.func10, Tryd.ntmps10
    go_upto_region 1 with fail
    rw [← HN.out.2, ← HN.out.1]
    clear HN
    go_wp2_with (go_at_call 42; (with_reducible refine ((CE.out).mono ?_)); rintro r w2 ⟨rfl, hb2⟩)
    go_ret2
    exact ⟨rfl, below_on HS.out.st hb2⟩
  · rw [show erL n f = 0 by unfold erL; rw [if_neg (fun h => h h1), if_neg (by omega)]] at CE0
    have CE := Lib.hid CE0
    have HV := Lib.hid h1
    have H2 := Lib.hid h2
    have H3 := Lib.hid h3
    have eg : ∀ args w, (callFunc 45 args).run Tryd.prog w = .ok (.enter 45 args) w := enters_of Tryd.func45 (by kernel_rfl) rfl
    have HEG := Lib.hid eg
    have HRC := Lib.hid (And.intro hrc hrc2)
    clear CE0 h1 h2 h3 eg hrc hrc2
    go_enter Tryd.func10, Tryd.ntmps10
    go_upto_region 1 with fail
    rw [← HN.out.2, ← HN.out.1]
    clear HN
    go_upto_region 4 with (go_at_call 42; (with_reducible refine ((CE.out).mono ?_)); rintro r w2 ⟨rfl, hb2⟩; have HS2 := Lib.hid (HS.out.on hb2); clear hb2 HS CE hc1)
    have c1 := HS2.out.c
    have CN := Lib.hid (normal_all ra n rc f w2 HS2.out.p HS2.out.l HV.out H2.out HRC.out.1 HRC.out.2)
    go_wp2_with fail
    (with_reducible refine ((CN.out).mono ?_))
    rintro r w3 ⟨⟨nr, rfl, hnr⟩, hb3⟩
    have HS3 := Lib.hid (HS2.out.on hb3)
    have HNR := Lib.hid hnr
    clear hb3 HS2 CN c1 hnr
    go_upto_region 5 with fail
    have bl := below_alloc w3 (Obj.cells #[.int .i64 nr.x, .int .i64 nr.y, .int .i64 nr.z] 79)
    have HS4 := Lib.hid (HS3.out.on bl)
    have HB5 := Lib.hid (B3.new w3 nr.x nr.y nr.z 79)
    obtain ⟨w4, hw4⟩ : ∃ W, W = w3.alloc (Obj.cells #[.int .i64 nr.x, .int .i64 nr.y, .int .i64 nr.z] 79) := ⟨_, rfl⟩
    obtain ⟨b5, hb5⟩ : ∃ x, x = w3.heap.size := ⟨_, rfl⟩
    rw [← hw4] at HS4 HB5
    rw [← hb5] at HB5
    rw [← hw4, ← hb5]
    clear hw4 hb5 bl HS3
    have c1 := HS4.out.c
    have CC : Hid (Calls Tryd.prog 44 #[.slice ra n rc, .func (.func 45) #[] #[.pointer (some ⟨b5, 0, none⟩), .pointer (some ⟨b1, 0, none⟩)]] w4 fun e w' => e = .returned (.bool (decide (∃ i, i < n ∧ (!decide (nr.dot ((f i).sub (f 0)) = 0)) = true))) ∧ Below w4.heap.size w4 w') := by
      refine contP_any 45 #[.pointer (some ⟨b5, 0, none⟩), .pointer (some ⟨b1, 0, none⟩)] ra n rc f (fun i => !decide (nr.dot ((f i).sub (f 0)) = 0)) w4 HS4.out.l (by have := H2.out; omega) HEG.out (fun i hi W hb => ?_)
      have h0 : 0 < n := by omega
      obtain ⟨sg, o, e1, hg, hc⟩ := (HS4.out.l.on hb) h0
      have hc0 := hc 0 h0
      rw [Nat.zero_mul, Nat.add_zero] at hc0
      have hcl := (hb.cell (p := ⟨b1, 0, none⟩) HS4.out.lt).trans HS4.out.c
      rw [e1] at hcl
      exact flat1_any (f i) nr (f 0) b5 b1 sg o n rc W (HB5.out.on hb) ⟨Nat.lt_of_lt_of_le HS4.out.lt hb.size, hcl⟩ hg hc0 (HV.out 0 h0) (HV.out i hi) (nrm_lim HNR.out HV.out) h0
    have hres : (!decide (∃ i, i < n ∧ (!decide (nr.dot ((f i).sub (f 0)) = 0)) = true)) = v := by
      have hf := nrm_flat n f nr HNR.out
      by_cases hq : FlatQ n f
      · rw [H3.out.2 hq, decide_eq_false]
        · rfl
        · rintro ⟨i, hi, hx⟩
          have := hf.2 hq i hi
          simp [this] at hx
      · have hv : v = false := by cases h : v; · rfl
                                  · exact absurd (H3.out.1 h) hq
        rw [hv, decide_eq_true]
        · rfl
        · refine Decidable.byContradiction fun hn => hq (hf.1 fun k hk => Decidable.byContradiction fun hx => hn ⟨k, hk, by simp [hx]⟩)
    have HRES := Lib.hid hres
    obtain ⟨t, ht⟩ : ∃ t, decide (∃ i, i < n ∧ (!decide (nr.dot ((f i).sub (f 0)) = 0)) = true) = t := ⟨_, rfl⟩
    rw [ht] at CC HRES
    clear hres ht
    go_wp2_with fail
    (with_reducible refine ((CC.out).mono ?_))
    rintro r w5 ⟨rfl, hb5⟩
    have HE := Lib.hid (below_on HS4.out.st hb5)
    clear hb5 CC c1
    go_wp2_with fail
    go_ret2
    exact ⟨by first | rfl | (rw [HRES.out]; rfl), HE.out⟩
end Go.Proofs.YtcghjjfpjiacfaaDoor
