/- Layer 9: points between. -/
import Derived.Test.YtabpnkpedcgcpaaDoorVW5
namespace Go.Proofs.YtabpnkpedcgcpaaDoor
open Go.ChangeShapes Go.WideShapes Go.ChangeAt Go.RowKit Go.Joins Go.Deep Go.Shelf
set_option linter.unusedVariables false

/-- A coordinate between two. -/
def btI (f t num den : Int) : Int := f + num * (t - f) / den
def btP (a b : Pt) (num den : Int) : Pt := ⟨btI a.x b.x num den, btI a.y b.y num den, btI a.z b.z num den⟩
theorem bt_bd {f t num den : Int} (f0 : -1048576 ≤ f) (f1 : f ≤ 1048576) (t0 : -1048576 ≤ t) (t1 : t ≤ 1048576) (n0 : 0 ≤ num) (n1 : num ≤ den) (d0 : 1 ≤ den) (d1 : den ≤ 1000) :
    -2097152000 ≤ num * (t - f) ∧ num * (t - f) ≤ 2097152000 ∧ -2097152000 ≤ num * (t - f) / den ∧ num * (t - f) / den ≤ 2097152000 := by
  have h : (num * (t - f)).natAbs ≤ 1000 * 2097152 := by rw [Int.natAbs_mul]; exact Nat.mul_le_mul (by omega) (by omega)
  obtain ⟨m, hm⟩ : ∃ m, num * (t - f) = m := ⟨_, rfl⟩
  rw [hm] at h
  rw [hm]
  have h2 := fl_div m den (by omega)
  have h3 := fl_bd m den
  have h4 := Int.mul_ediv_self_le (x := m) (k := den) (by omega)
  have h5 := Int.lt_mul_ediv_self_add (x := m) (k := den) (by omega)
  refine ⟨by omega, by omega, ?_, ?_⟩
  · refine (Int.le_ediv_iff_mul_le (by omega)).2 ?_
    omega
  · rw [h2]; split <;> omega
set_option maxRecDepth 100000 in
set_option maxHeartbeats 4000000 in
theorem btw1_any (f t num den : Int) (bn bd : Nat) (w : World) (hn : w.cell? ⟨bn, 0, none⟩ = some (.int .i64 num)) (hd : w.cell? ⟨bd, 0, none⟩ = some (.int .i64 den)) (f0 : -1048576 ≤ f) (f1 : f ≤ 1048576) (t0 : -1048576 ≤ t) (t1 : t ≤ 1048576) (n0 : 0 ≤ num) (n1 : num ≤ den) (d0 : 1 ≤ den) (d1 : den ≤ 1000) :
    Calls Tryd.prog 39 #[.int .i64 f, .int .i64 t, .pointer (some ⟨bn, 0, none⟩), .pointer (some ⟨bd, 0, none⟩)] w fun e w' => e = .returned (.int .i64 (btI f t num den)) ∧ w = w' := by
  have bdz := bt_bd f0 f1 t0 t1 n0 n1 d0 d1
  have hb : btI f t num den = f + num * (t - f) / den := rfl
  have C := fun W => Lib.hid (floor_any (num * (t - f)) den W (by omega) (by omega) (by omega) d1)
  obtain ⟨m, hm⟩ : ∃ m, num * (t - f) = m := ⟨_, rfl⟩
  rw [hm] at C bdz hb
  obtain ⟨x, hx⟩ : ∃ x, m / den = x := ⟨_, rfl⟩
  rw [hx] at C bdz hb
  obtain ⟨r, hr⟩ : ∃ r, btI f t num den = r := ⟨_, rfl⟩
  rw [hr] at hb ⊢
  have w0 : IntKind.i64.wrap (t - f) = t - f := IntWalk.i64_in _ (by omega)
  have w1 : IntKind.i64.wrap (num * (t - f)) = m := by rw [hm]; exact IntWalk.i64_in _ (by omega)
  have w2 : IntKind.i64.wrap (f + x) = r := by rw [hb]; exact IntWalk.i64_in _ (by omega)
  clear hm hx hr hb bdz f0 f1 t0 t1 n0 n1 d0 d1
  go_enter Tryd.func39, Tryd.ntmps39
  go_wp2_with (go_at_call 40; (with_reducible refine ((C _).out.mono ?_)); rintro e w2 ⟨rfl, rfl⟩)
  go_ret
  exact ⟨rfl, rfl⟩
theorem five_boxes (w : World) (a b : Pt) (n d : Int) (t1 t2 t3 t4 t5 : TypeId) (W : World) (h : W = ((((w.alloc (Obj.cells #[.int .i64 a.x, .int .i64 a.y, .int .i64 a.z] t1)).alloc (Obj.cells #[.int .i64 b.x, .int .i64 b.y, .int .i64 b.z] t2)).alloc (Obj.cells #[.int .i64 n] t3)).alloc (Obj.cells #[.int .i64 d] t4)).alloc (Obj.cells #[.int .i64 0, .int .i64 0, .int .i64 0] t5)) :
    Below w.heap.size w W ∧ B3 W w.heap.size a.x a.y a.z ∧ B3 W (w.heap.size + 1) b.x b.y b.z ∧ (w.heap.size + 2 < W.heap.size ∧ W.cell? ⟨w.heap.size + 2, 0, none⟩ = some (.int .i64 n)) ∧ (w.heap.size + 3 < W.heap.size ∧ W.cell? ⟨w.heap.size + 3, 0, none⟩ = some (.int .i64 d)) ∧ B3 W (w.heap.size + 4) 0 0 0 := by
  obtain ⟨h1, h2, h3⟩ := two_boxes w a b t1 t2 _ rfl
  obtain ⟨w2, hw2⟩ : ∃ W, W = (w.alloc (Obj.cells #[.int .i64 a.x, .int .i64 a.y, .int .i64 a.z] t1)).alloc (Obj.cells #[.int .i64 b.x, .int .i64 b.y, .int .i64 b.z] t2) := ⟨_, rfl⟩
  rw [← hw2] at h h1 h2 h3
  have hs : w2.heap.size = w.heap.size + 2 := by rw [hw2, World.size_alloc, World.size_alloc]
  clear hw2
  have e1 : (w2.alloc (Obj.cells #[.int .i64 n] t3)).cell? ⟨w.heap.size + 2, 0, none⟩ = some (.int .i64 n) := by rw [← hs]; simp [go_sem]
  obtain ⟨w3, hw3⟩ : ∃ W, W = w2.alloc (Obj.cells #[.int .i64 n] t3) := ⟨_, rfl⟩
  have b3 : Below w2.heap.size w2 w3 := by rw [hw3]; exact below_alloc _ _
  have hs3 : w3.heap.size = w.heap.size + 3 := by rw [hw3, World.size_alloc, hs]
  rw [← hw3] at h e1
  clear hw3
  have e2 : (w3.alloc (Obj.cells #[.int .i64 d] t4)).cell? ⟨w.heap.size + 3, 0, none⟩ = some (.int .i64 d) := by rw [← hs3]; simp [go_sem]
  obtain ⟨w4, hw4⟩ : ∃ W, W = w3.alloc (Obj.cells #[.int .i64 d] t4) := ⟨_, rfl⟩
  have b4 : Below w3.heap.size w3 w4 := by rw [hw4]; exact below_alloc _ _
  have hs4 : w4.heap.size = w.heap.size + 4 := by rw [hw4, World.size_alloc, hs3]
  rw [← hw4] at h e2
  clear hw4
  have b5 : Below w4.heap.size w4 W := by rw [h]; exact below_alloc _ _
  have hs5 : W.heap.size = w.heap.size + 5 := by rw [h, World.size_alloc, hs4]
  refine ⟨below_on (below_on (below_on h1 b3) b4) b5, ((h2.on b3).on b4).on b5, ((h3.on b3).on b4).on b5, ⟨by omega, ?_⟩, ⟨by omega, ?_⟩, ?_⟩
  · rw [b5.cell (p := ⟨w.heap.size + 2, 0, none⟩) (show w.heap.size + 2 < w4.heap.size by omega), b4.cell (p := ⟨w.heap.size + 2, 0, none⟩) (show w.heap.size + 2 < w3.heap.size by omega)]
    exact e1
  · rw [b5.cell (p := ⟨w.heap.size + 3, 0, none⟩) (show w.heap.size + 3 < w4.heap.size by omega)]
    exact e2
  · have := B3.new w4 0 0 0 t5
    rw [← h, hs4] at this
    exact this

structure VbtR (ba bb bn bd bo : Nat) (a b : Pt) (x y z : Int) (Wc : World) (L : Nat → Bool) (v : Nat → Value) (W : World) : Prop where
  st : L 19 = false → Below Wc.heap.size Wc W
  s1 : Had L 19 (∃ W2, Below Wc.heap.size Wc W2 ∧ W = ((W2.setCell ⟨bo, 0, none⟩ (.int .i64 x)).setCell ⟨bo, 1, none⟩ (.int .i64 y)).setCell ⟨bo, 2, none⟩ (.int .i64 z))
  w2 : Had L 2 (∀ j ∈ [1], L j = true)
  w4 : Had L 4 (∀ j ∈ [3], L j = true)
  w5 : Had L 5 (∀ j ∈ [0, 2, 4], L j = true)
  w8 : Had L 8 (∀ j ∈ [7], L j = true)
  w10 : Had L 10 (∀ j ∈ [9], L j = true)
  w11 : Had L 11 (∀ j ∈ [6, 8, 10], L j = true)
  w14 : Had L 14 (∀ j ∈ [13], L j = true)
  w16 : Had L 16 (∀ j ∈ [15], L j = true)
  w17 : Had L 17 (∀ j ∈ [12, 14, 16], L j = true)
  w18 : Had L 18 (∀ j ∈ [5, 11, 17], L j = true)
  w19 : Had L 19 (∀ j ∈ [0, 1, 2, 3, 4, 5, 6, 7, 8, 9, 10, 11, 12, 13, 14, 15, 16, 17, 18], L j = true)
  f0 : Had L 0 (v 36 = .func (.func 39) #[] #[.pointer (some ⟨bn, 0, none⟩), .pointer (some ⟨bd, 0, none⟩)])
  f1 : Had L 1 (v 37 = .pointer (some ⟨ba, 0, none⟩))
  f2 : Had L 2 (v 38 = .int .i64 a.x)
  f3 : Had L 3 (v 39 = .pointer (some ⟨bb, 0, none⟩))
  f4 : Had L 4 (v 40 = .int .i64 b.x)
  f5 : Had L 5 (v 41 = .int .i64 x)
  f6 : Had L 6 (v 42 = .func (.func 39) #[] #[.pointer (some ⟨bn, 0, none⟩), .pointer (some ⟨bd, 0, none⟩)])
  f7 : Had L 7 (v 43 = .pointer (some ⟨ba, 1, none⟩))
  f8 : Had L 8 (v 44 = .int .i64 a.y)
  f9 : Had L 9 (v 45 = .pointer (some ⟨bb, 1, none⟩))
  f10 : Had L 10 (v 46 = .int .i64 b.y)
  f11 : Had L 11 (v 47 = .int .i64 y)
  f12 : Had L 12 (v 48 = .func (.func 39) #[] #[.pointer (some ⟨bn, 0, none⟩), .pointer (some ⟨bd, 0, none⟩)])
  f13 : Had L 13 (v 49 = .pointer (some ⟨ba, 2, none⟩))
  f14 : Had L 14 (v 50 = .int .i64 a.z)
  f15 : Had L 15 (v 51 = .pointer (some ⟨bb, 2, none⟩))
  f16 : Had L 16 (v 52 = .int .i64 b.z)
  f17 : Had L 17 (v 53 = .int .i64 z)
  f18 : Had L 18 (v 54 = .agg #[.int .i64 x, .int .i64 y, .int .i64 z])
  f20 : Had L 20 (v 9 = .int .i64 0)
/-- What Between returns. -/
def btT (a b : Pt) (num den : Int) : Pt × Int := if a.ok ∧ b.ok then (if den < 1 ∨ 1000 < den ∨ num < 0 ∨ den < num then (⟨0, 0, 0⟩, 2) else (btP a b num den, 0)) else (⟨0, 0, 0⟩, 1)
set_option maxRecDepth 100000 in
set_option maxHeartbeats 16000000 in
theorem between_any (a b : Pt) (num den : Int) (w : World) (r : Pt) (e : Int) (h : btT a b num den = (r, e)) (n0 : -9223372036854775808 ≤ num) (n1 : num ≤ 9223372036854775807) (d0 : -9223372036854775808 ≤ den) (d1 : den ≤ 9223372036854775807) :
    Calls Tryd.prog 18 #[.agg #[.int .i64 a.x, .int .i64 a.y, .int .i64 a.z], .agg #[.int .i64 b.x, .int .i64 b.y, .int .i64 b.z], .int .i64 num, .int .i64 den] w fun x w' => x = .returned (.tuple #[.agg #[.int .i64 r.x, .int .i64 r.y, .int .i64 r.z], .int .i64 e]) ∧ Below w.heap.size w w' := by
  obtain ⟨w1, hw1⟩ : ∃ W, W = ((((w.alloc (Obj.cells #[.int .i64 a.x, .int .i64 a.y, .int .i64 a.z] 23)).alloc (Obj.cells #[.int .i64 b.x, .int .i64 b.y, .int .i64 b.z] 23)).alloc (Obj.cells #[.int .i64 num] 3)).alloc (Obj.cells #[.int .i64 den] 3)).alloc (Obj.cells #[.int .i64 0, .int .i64 0, .int .i64 0] 23) := ⟨_, rfl⟩
  obtain ⟨hb1, hA, hB, hN, hD, hO⟩ := five_boxes w a b num den _ _ _ _ _ w1 hw1
  obtain ⟨w2, hw2⟩ : ∃ W, W = w1.alloc (Obj.cells #[.int .i64 a.x, .int .i64 a.y, .int .i64 a.z, .int .i64 b.x, .int .i64 b.y, .int .i64 b.z] 23) := ⟨_, rfl⟩
  obtain ⟨g, hg⟩ : ∃ x, x = w1.heap.size := ⟨_, rfl⟩
  have hb2 : Below w1.heap.size w1 w2 := by rw [hw2]; exact below_alloc _ _
  have CV := areV_any (some ⟨g, 0, none⟩) 2 2 (fun i => if i = 0 then a else b) w2 (by rw [hw2, hg]; exact PtR.two _ _ _ _) (by omega)
  obtain ⟨ba, hba⟩ : ∃ x, x = w.heap.size := ⟨_, rfl⟩
  obtain ⟨bb, hbb⟩ : ∃ x, x = w.heap.size + 1 := ⟨_, rfl⟩
  obtain ⟨bn, hbn⟩ : ∃ x, x = w.heap.size + 2 := ⟨_, rfl⟩
  obtain ⟨bd, hbd⟩ : ∃ x, x = w.heap.size + 3 := ⟨_, rfl⟩
  obtain ⟨bo, hbo⟩ : ∃ x, x = w.heap.size + 4 := ⟨_, rfl⟩
  have lo : w.heap.size ≤ bo := by omega
  have HS : Hid (ba = w.heap.size ∧ bb = w.heap.size + 1 ∧ bn = w.heap.size + 1 + 1 ∧ bd = w.heap.size + 1 + 1 + 1 ∧ bo = w.heap.size + 1 + 1 + 1 + 1 ∧ w1 = ((((w.alloc (Obj.cells #[.int .i64 a.x, .int .i64 a.y, .int .i64 a.z] 23)).alloc (Obj.cells #[.int .i64 b.x, .int .i64 b.y, .int .i64 b.z] 23)).alloc (Obj.cells #[.int .i64 num] 3)).alloc (Obj.cells #[.int .i64 den] 3)).alloc (Obj.cells #[.int .i64 0, .int .i64 0, .int .i64 0] 23)) := ⟨hba, hbb, hbn, hbd, hbo, hw1⟩
  rw [← hba] at hA
  rw [← hbb] at hB
  rw [← hbn] at hN
  rw [← hbd] at hD
  rw [← hbo] at hO
  have HB2 := Lib.hid (below_on hb1 hb2)
  have HA := Lib.hid (hA.on hb2)
  have HBb := Lib.hid (hB.on hb2)
  have HO := Lib.hid (hO.on hb2)
  have HNn : Hid (bn < w2.heap.size ∧ w2.cell? ⟨bn, 0, none⟩ = some (.int .i64 num)) := ⟨Nat.lt_of_lt_of_le hN.1 hb2.size, (hb2.cell (p := ⟨bn, 0, none⟩) hN.1).trans hN.2⟩
  have HDd : Hid (bd < w2.heap.size ∧ w2.cell? ⟨bd, 0, none⟩ = some (.int .i64 den)) := ⟨Nat.lt_of_lt_of_le hD.1 hb2.size, (hb2.cell (p := ⟨bd, 0, none⟩) hD.1).trans hD.2⟩
  have a0 := hA.c0
  have a1 := hA.c1
  have a2 := hA.c2
  have b0 := hB.c0
  have b1 := hB.c1
  have b2 := hB.c2
  have HW : Hid (w2 = w1.alloc (Obj.cells #[.int .i64 a.x, .int .i64 a.y, .int .i64 a.z, .int .i64 b.x, .int .i64 b.y, .int .i64 b.z] 23) ∧ g = w1.heap.size) := ⟨hw2, hg⟩
  clear hA hB hN hD hO hb1 hb2 hw2 hg hba hbb hbn hbd hbo hw1
  by_cases ok : a.ok ∧ b.ok
  · have hd : decide (allV 2 (fun i => if i = 0 then a else b)) = true := decide_eq_true ((allV2 a b).2 ok)
    rw [hd] at CV
    have C := Lib.hid CV
    unfold btT at h
    rw [if_pos ok] at h
    by_cases bad : den < 1 ∨ 1000 < den ∨ num < 0 ∨ den < num
    · rw [if_pos bad] at h
      injection h with h1 h2
      subst h1
      subst h2
      have HBad := Lib.hid bad
      clear ok hd CV bad
      go_enter Tryd.func18, Tryd.ntmps18
      go_upto_region 1 with fail
      rw [← HS.out.2.2.2.2.2, ← HS.out.2.2.2.2.1, ← HS.out.2.2.2.1, ← HS.out.2.2.1, ← HS.out.2.1, ← HS.out.1]
      go_wp2_with fail
      rw [← HW.out.1, ← HW.out.2]
      (with_reducible refine ((C.out).mono ?_))
      rintro r w3 ⟨rfl, hb3⟩
      have HB3 := Lib.hid (below_on HB2.out hb3)
      have hO3 := HO.out.on hb3
      have n3 := (hb3.cell (p := ⟨bn, 0, none⟩) HNn.out.1).trans HNn.out.2
      have d3 := (hb3.cell (p := ⟨bd, 0, none⟩) HDd.out.1).trans HDd.out.2
      clear hb3 a0 a1 a2 b0 b1 b2 HA HBb HB2 HW HO HNn HDd C HS
      have o0 := hO3.c0
      have o1 := hO3.c1
      have o2 := hO3.c2
      have f0 := hO3.f 0
      have f1 := hO3.f 1
      have f2 := hO3.f 2
      clear hO3
      have hbad := HBad.out
      have k1 : decide (den < 1) = true ∨ (decide (den < 1) = false ∧ (decide (1000 < den) = true ∨ (decide (1000 < den) = false ∧ (decide (num < 0) = true ∨ (decide (num < 0) = false ∧ decide (den < num) = true))))) := by
        by_cases z1 : den < 1
        · exact .inl (decide_eq_true z1)
        by_cases z2 : 1000 < den
        · exact .inr ⟨decide_eq_false z1, .inl (decide_eq_true z2)⟩
        by_cases z3 : num < 0
        · exact .inr ⟨decide_eq_false z1, .inr ⟨decide_eq_false z2, .inl (decide_eq_true z3)⟩⟩
        · exact .inr ⟨decide_eq_false z1, .inr ⟨decide_eq_false z2, .inr ⟨decide_eq_false z3, decide_eq_true (by omega)⟩⟩⟩
      clear hbad HBad
      rcases k1 with k1 | ⟨k1, k2 | ⟨k2, k3 | ⟨k3, k4⟩⟩⟩
      all_goals
        go_wp2_with fail
        refine bodyPost_ret (by simp [results, Tryd.results18, go_sem, o0, o1, o2]; try rfl) rfl ?_
        exact ⟨rfl, ((HB3.out.setCell lo _).setCell lo _).setCell lo _⟩
    · rw [if_neg bad] at h
      injection h with h1 h2
      subst h2
      have k1 : decide (den < 1) = false := decide_eq_false (by omega)
      have k2 : decide (1000 < den) = false := decide_eq_false (by omega)
      have k3 : decide (num < 0) = false := decide_eq_false (by omega)
      have k4 : decide (den < num) = false := decide_eq_false (by omega)
      obtain ⟨⟨ax0, ax1⟩, ⟨ay0, ay1⟩, az0, az1⟩ := ok.1
      obtain ⟨⟨bx0, bx1⟩, ⟨by0, by1⟩, bz0, bz1⟩ := ok.2
      obtain ⟨x, hx⟩ : ∃ x, btI a.x b.x num den = x := ⟨_, rfl⟩
      obtain ⟨y, hy⟩ : ∃ x, btI a.y b.y num den = x := ⟨_, rfl⟩
      obtain ⟨z, hz⟩ : ∃ x, btI a.z b.z num den = x := ⟨_, rfl⟩
      have hr : r = ⟨x, y, z⟩ := by rw [← h1, ← hx, ← hy, ← hz]; rfl
      have HK : Hid (∀ W, Below w2.heap.size w2 W → (Calls Tryd.prog 39 #[.int .i64 a.x, .int .i64 b.x, .pointer (some ⟨bn, 0, none⟩), .pointer (some ⟨bd, 0, none⟩)] W fun e w' => e = .returned (.int .i64 x) ∧ W = w') ∧ (Calls Tryd.prog 39 #[.int .i64 a.y, .int .i64 b.y, .pointer (some ⟨bn, 0, none⟩), .pointer (some ⟨bd, 0, none⟩)] W fun e w' => e = .returned (.int .i64 y) ∧ W = w') ∧ (Calls Tryd.prog 39 #[.int .i64 a.z, .int .i64 b.z, .pointer (some ⟨bn, 0, none⟩), .pointer (some ⟨bd, 0, none⟩)] W fun e w' => e = .returned (.int .i64 z) ∧ W = w')) := fun W hb => by
        have c1 := (hb.cell (p := ⟨bn, 0, none⟩) HNn.out.1).trans HNn.out.2
        have c2 := (hb.cell (p := ⟨bd, 0, none⟩) HDd.out.1).trans HDd.out.2
        rw [← hx, ← hy, ← hz]
        exact ⟨btw1_any _ _ _ _ _ _ _ c1 c2 (by omega) (by omega) (by omega) (by omega) (by omega) (by omega) (by omega) (by omega), btw1_any _ _ _ _ _ _ _ c1 c2 (by omega) (by omega) (by omega) (by omega) (by omega) (by omega) (by omega) (by omega), btw1_any _ _ _ _ _ _ _ c1 c2 (by omega) (by omega) (by omega) (by omega) (by omega) (by omega) (by omega) (by omega)⟩
      have eg : ∀ args w, (callFunc 39 args).run Tryd.prog w = .ok (.enter 39 args) w := enters_of Tryd.func39 (by kernel_rfl) rfl
      rw [hr]
      clear ok hd CV bad hx hy hz hr h1 ax0 ax1 ay0 ay1 az0 az1 bx0 bx1 by0 by1 bz0 bz1 n0 n1 d0 d1
      go_enter Tryd.func18, Tryd.ntmps18
      go_upto_region 1 with fail
      rw [← HS.out.2.2.2.2.2, ← HS.out.2.2.2.2.1, ← HS.out.2.2.2.1, ← HS.out.2.2.1, ← HS.out.2.1, ← HS.out.1]
      go_wp2_with fail
      rw [← HW.out.1, ← HW.out.2]
      (with_reducible refine ((C.out).mono ?_))
      rintro r w3 ⟨rfl, hb3⟩
      have HB3 := Lib.hid (below_on HB2.out hb3)
      have HO3 := Lib.hid (HO.out.on hb3)
      have n3 := (hb3.cell (p := ⟨bn, 0, none⟩) HNn.out.1).trans HNn.out.2
      have d3 := (hb3.cell (p := ⟨bd, 0, none⟩) HDd.out.1).trans HDd.out.2
      have HA3 := HA.out.on hb3
      have HBb3 := HBb.out.on hb3
      have K3 : Hid (∀ W, Below w3.heap.size w3 W → _) := fun W hW => HK.out W (below_on hb3 hW)
      have LA0 := Lib.hid (And.intro HA3.c0 HA3.lt)
      have LA1 := Lib.hid (And.intro HA3.c1 HA3.lt)
      have LA2 := Lib.hid (And.intro HA3.c2 HA3.lt)
      have LB0 := Lib.hid (And.intro HBb3.c0 HBb3.lt)
      have LB1 := Lib.hid (And.intro HBb3.c1 HBb3.lt)
      have LB2 := Lib.hid (And.intro HBb3.c2 HBb3.lt)
      clear hb3 a0 a1 a2 b0 b1 b2 HA HBb HB2 HW HO HNn HDd C HS HA3 HBb3 HK
      go_upto_region 6 with fail
      refine wp_region_each (fun L A W => ∃ (v : Nat → Value), A = ⟨#[_, _, _, _, _, _, _, _, _, v 9, _, _, _, _, _, _, _, _, _, _, _, _, _, _, _, _, _, _, _, _, _, _, _, _, _, _, v 36, v 37, v 38, v 39, v 40, v 41, v 42, v 43, v 44, v 45, v 46, v 47, v 48, v 49, v 50, v 51, v 52, v 53, v 54], []⟩ ∧ VbtR ba bb bn bd bo a b x y z w3 L v W) (by kernel_rfl) (by kernel_rfl) ⟨fun jz => if jz = 36 then undef else if jz = 37 then undef else if jz = 38 then undef else if jz = 39 then undef else if jz = 40 then undef else if jz = 41 then undef else if jz = 42 then undef else if jz = 43 then undef else if jz = 44 then undef else if jz = 45 then undef else if jz = 46 then undef else if jz = 47 then undef else if jz = 48 then undef else if jz = 49 then undef else if jz = 50 then undef else if jz = 51 then undef else if jz = 52 then undef else if jz = 53 then undef else if jz = 54 then undef else if jz = 9 then .int .i64 0 else undef, rfl, ⟨(fun _ => Below.drew (Below.refl _ _)), Had.none, Had.none, Had.none, Had.none, Had.none, Had.none, Had.none, Had.none, Had.none, Had.none, Had.none, Had.none, Had.none, Had.none, Had.none, Had.none, Had.none, Had.none, Had.none, Had.none, Had.none, Had.none, Had.none, Had.none, Had.none, Had.none, Had.none, Had.none, Had.none, Had.none, Had.none, Had.none⟩⟩ (rs := [0, 1, 2, 3, 4, 5, 6, 7, 8, 9, 10, 11, 12, 13, 14, 15, 16, 17, 18, 19, 20]) (by kernel_rfl) ?_ ?_
      · refine EachOf.cons [] rfl (by kernel_rfl) ?_ ?_
        · rintro L A W ⟨v, rfl, hR⟩ hi hw K hK
          have hk : L 19 = false := hR.w19.not hi rfl
          go_simp
          refine hK.out _ _ ?_
          exact ⟨(fun jz => if jz = 36 then .func (.func 39) #[] #[.pointer (some ⟨bn, 0, none⟩), .pointer (some ⟨bd, 0, none⟩)] else v jz), rfl, ⟨(fun h => hR.st (upd_false h)), hR.s1.k, hR.w2.o, hR.w4.o, hR.w5.o, hR.w8.o, hR.w10.o, hR.w11.o, hR.w14.o, hR.w16.o, hR.w17.o, hR.w18.o, hR.w19.o, (fun _ => rfl), hR.f1.k, hR.f2.k, hR.f3.k, hR.f4.k, hR.f5.k, hR.f6.k, hR.f7.k, hR.f8.k, hR.f9.k, hR.f10.k, hR.f11.k, hR.f12.k, hR.f13.k, hR.f14.k, hR.f15.k, hR.f16.k, hR.f17.k, hR.f18.k, hR.f20.k⟩⟩
        refine EachOf.cons [] rfl (by kernel_rfl) ?_ ?_
        · rintro L A W ⟨v, rfl, hR⟩ hi hw K hK
          have hk : L 19 = false := hR.w19.not hi rfl
          go_simp
          refine hK.out _ _ ?_
          exact ⟨(fun jz => if jz = 37 then .pointer (some ⟨ba, 0, none⟩) else v jz), rfl, ⟨(fun h => hR.st (upd_false h)), hR.s1.k, hR.w2.o, hR.w4.o, hR.w5.o, hR.w8.o, hR.w10.o, hR.w11.o, hR.w14.o, hR.w16.o, hR.w17.o, hR.w18.o, hR.w19.o, hR.f0.k, (fun _ => rfl), hR.f2.k, hR.f3.k, hR.f4.k, hR.f5.k, hR.f6.k, hR.f7.k, hR.f8.k, hR.f9.k, hR.f10.k, hR.f11.k, hR.f12.k, hR.f13.k, hR.f14.k, hR.f15.k, hR.f16.k, hR.f17.k, hR.f18.k, hR.f20.k⟩⟩
        refine EachOf.cons [1] rfl (by kernel_rfl) ?_ ?_
        · rintro L A W ⟨v, rfl, hR⟩ hi hw K hK
          have hk : L 19 = false := hR.w19.not hi rfl
          have e1 := hR.f1 (hw 1 (by simp))
          simp only [e1]
          clear e1
          have q0 := ((hR.st hk).cell (p := ⟨ba, 0, none⟩) LA0.out.2).trans LA0.out.1
          go_simp
          refine hK.out _ _ ?_
          exact ⟨(fun jz => if jz = 37 then .pointer (some ⟨ba, 0, none⟩) else if jz = 38 then .int .i64 a.x else v jz), rfl, ⟨(fun h => hR.st (upd_false h)), hR.s1.k, (fun _ j hj => upd_on (hw j hj)), hR.w4.o, hR.w5.o, hR.w8.o, hR.w10.o, hR.w11.o, hR.w14.o, hR.w16.o, hR.w17.o, hR.w18.o, hR.w19.o, hR.f0.k, (fun _ => rfl), (fun _ => rfl), hR.f3.k, hR.f4.k, hR.f5.k, hR.f6.k, hR.f7.k, hR.f8.k, hR.f9.k, hR.f10.k, hR.f11.k, hR.f12.k, hR.f13.k, hR.f14.k, hR.f15.k, hR.f16.k, hR.f17.k, hR.f18.k, hR.f20.k⟩⟩
        refine EachOf.cons [] rfl (by kernel_rfl) ?_ ?_
        · rintro L A W ⟨v, rfl, hR⟩ hi hw K hK
          have hk : L 19 = false := hR.w19.not hi rfl
          go_simp
          refine hK.out _ _ ?_
          exact ⟨(fun jz => if jz = 39 then .pointer (some ⟨bb, 0, none⟩) else v jz), rfl, ⟨(fun h => hR.st (upd_false h)), hR.s1.k, hR.w2.o, hR.w4.o, hR.w5.o, hR.w8.o, hR.w10.o, hR.w11.o, hR.w14.o, hR.w16.o, hR.w17.o, hR.w18.o, hR.w19.o, hR.f0.k, hR.f1.k, hR.f2.k, (fun _ => rfl), hR.f4.k, hR.f5.k, hR.f6.k, hR.f7.k, hR.f8.k, hR.f9.k, hR.f10.k, hR.f11.k, hR.f12.k, hR.f13.k, hR.f14.k, hR.f15.k, hR.f16.k, hR.f17.k, hR.f18.k, hR.f20.k⟩⟩
        refine EachOf.cons [3] rfl (by kernel_rfl) ?_ ?_
        · rintro L A W ⟨v, rfl, hR⟩ hi hw K hK
          have hk : L 19 = false := hR.w19.not hi rfl
          have e3 := hR.f3 (hw 3 (by simp))
          simp only [e3]
          clear e3
          have q0 := ((hR.st hk).cell (p := ⟨bb, 0, none⟩) LB0.out.2).trans LB0.out.1
          go_simp
          refine hK.out _ _ ?_
          exact ⟨(fun jz => if jz = 39 then .pointer (some ⟨bb, 0, none⟩) else if jz = 40 then .int .i64 b.x else v jz), rfl, ⟨(fun h => hR.st (upd_false h)), hR.s1.k, hR.w2.o, (fun _ j hj => upd_on (hw j hj)), hR.w5.o, hR.w8.o, hR.w10.o, hR.w11.o, hR.w14.o, hR.w16.o, hR.w17.o, hR.w18.o, hR.w19.o, hR.f0.k, hR.f1.k, hR.f2.k, (fun _ => rfl), (fun _ => rfl), hR.f5.k, hR.f6.k, hR.f7.k, hR.f8.k, hR.f9.k, hR.f10.k, hR.f11.k, hR.f12.k, hR.f13.k, hR.f14.k, hR.f15.k, hR.f16.k, hR.f17.k, hR.f18.k, hR.f20.k⟩⟩
        refine EachOf.cons [0, 2, 4] rfl (by kernel_rfl) ?_ ?_
        · rintro L A W ⟨v, rfl, hR⟩ hi hw K hK
          have hk : L 19 = false := hR.w19.not hi rfl
          have e0 := hR.f0 (hw 0 (by simp))
          have e2 := hR.f2 (hw 2 (by simp))
          have e4 := hR.f4 (hw 4 (by simp))
          simp only [e0, e2, e4]
          clear e0 e2 e4
          go_simp
          go_at_call 39
          (with_reducible refine ((K3.out _ (hR.st hk)).1).mono ?_)
          rintro e w2 ⟨rfl, rfl⟩
          go_simp
          refine hK.out _ _ ?_
          exact ⟨(fun jz => if jz = 36 then .func (.func 39) #[] #[.pointer (some ⟨bn, 0, none⟩), .pointer (some ⟨bd, 0, none⟩)] else if jz = 38 then .int .i64 a.x else if jz = 40 then .int .i64 b.x else if jz = 41 then .int .i64 x else v jz), rfl, ⟨(fun h => hR.st (upd_false h)), hR.s1.k, hR.w2.o, hR.w4.o, (fun _ j hj => upd_on (hw j hj)), hR.w8.o, hR.w10.o, hR.w11.o, hR.w14.o, hR.w16.o, hR.w17.o, hR.w18.o, hR.w19.o, (fun _ => rfl), hR.f1.k, (fun _ => rfl), hR.f3.k, (fun _ => rfl), (fun _ => rfl), hR.f6.k, hR.f7.k, hR.f8.k, hR.f9.k, hR.f10.k, hR.f11.k, hR.f12.k, hR.f13.k, hR.f14.k, hR.f15.k, hR.f16.k, hR.f17.k, hR.f18.k, hR.f20.k⟩⟩
        refine EachOf.cons [] rfl (by kernel_rfl) ?_ ?_
        · rintro L A W ⟨v, rfl, hR⟩ hi hw K hK
          have hk : L 19 = false := hR.w19.not hi rfl
          go_simp
          refine hK.out _ _ ?_
          exact ⟨(fun jz => if jz = 42 then .func (.func 39) #[] #[.pointer (some ⟨bn, 0, none⟩), .pointer (some ⟨bd, 0, none⟩)] else v jz), rfl, ⟨(fun h => hR.st (upd_false h)), hR.s1.k, hR.w2.o, hR.w4.o, hR.w5.o, hR.w8.o, hR.w10.o, hR.w11.o, hR.w14.o, hR.w16.o, hR.w17.o, hR.w18.o, hR.w19.o, hR.f0.k, hR.f1.k, hR.f2.k, hR.f3.k, hR.f4.k, hR.f5.k, (fun _ => rfl), hR.f7.k, hR.f8.k, hR.f9.k, hR.f10.k, hR.f11.k, hR.f12.k, hR.f13.k, hR.f14.k, hR.f15.k, hR.f16.k, hR.f17.k, hR.f18.k, hR.f20.k⟩⟩
        refine EachOf.cons [] rfl (by kernel_rfl) ?_ ?_
        · rintro L A W ⟨v, rfl, hR⟩ hi hw K hK
          have hk : L 19 = false := hR.w19.not hi rfl
          go_simp
          refine hK.out _ _ ?_
          exact ⟨(fun jz => if jz = 43 then .pointer (some ⟨ba, 1, none⟩) else v jz), rfl, ⟨(fun h => hR.st (upd_false h)), hR.s1.k, hR.w2.o, hR.w4.o, hR.w5.o, hR.w8.o, hR.w10.o, hR.w11.o, hR.w14.o, hR.w16.o, hR.w17.o, hR.w18.o, hR.w19.o, hR.f0.k, hR.f1.k, hR.f2.k, hR.f3.k, hR.f4.k, hR.f5.k, hR.f6.k, (fun _ => rfl), hR.f8.k, hR.f9.k, hR.f10.k, hR.f11.k, hR.f12.k, hR.f13.k, hR.f14.k, hR.f15.k, hR.f16.k, hR.f17.k, hR.f18.k, hR.f20.k⟩⟩
        refine EachOf.cons [7] rfl (by kernel_rfl) ?_ ?_
        · rintro L A W ⟨v, rfl, hR⟩ hi hw K hK
          have hk : L 19 = false := hR.w19.not hi rfl
          have e7 := hR.f7 (hw 7 (by simp))
          simp only [e7]
          clear e7
          have q0 := ((hR.st hk).cell (p := ⟨ba, 1, none⟩) LA1.out.2).trans LA1.out.1
          go_simp
          refine hK.out _ _ ?_
          exact ⟨(fun jz => if jz = 43 then .pointer (some ⟨ba, 1, none⟩) else if jz = 44 then .int .i64 a.y else v jz), rfl, ⟨(fun h => hR.st (upd_false h)), hR.s1.k, hR.w2.o, hR.w4.o, hR.w5.o, (fun _ j hj => upd_on (hw j hj)), hR.w10.o, hR.w11.o, hR.w14.o, hR.w16.o, hR.w17.o, hR.w18.o, hR.w19.o, hR.f0.k, hR.f1.k, hR.f2.k, hR.f3.k, hR.f4.k, hR.f5.k, hR.f6.k, (fun _ => rfl), (fun _ => rfl), hR.f9.k, hR.f10.k, hR.f11.k, hR.f12.k, hR.f13.k, hR.f14.k, hR.f15.k, hR.f16.k, hR.f17.k, hR.f18.k, hR.f20.k⟩⟩
        refine EachOf.cons [] rfl (by kernel_rfl) ?_ ?_
        · rintro L A W ⟨v, rfl, hR⟩ hi hw K hK
          have hk : L 19 = false := hR.w19.not hi rfl
          go_simp
          refine hK.out _ _ ?_
          exact ⟨(fun jz => if jz = 45 then .pointer (some ⟨bb, 1, none⟩) else v jz), rfl, ⟨(fun h => hR.st (upd_false h)), hR.s1.k, hR.w2.o, hR.w4.o, hR.w5.o, hR.w8.o, hR.w10.o, hR.w11.o, hR.w14.o, hR.w16.o, hR.w17.o, hR.w18.o, hR.w19.o, hR.f0.k, hR.f1.k, hR.f2.k, hR.f3.k, hR.f4.k, hR.f5.k, hR.f6.k, hR.f7.k, hR.f8.k, (fun _ => rfl), hR.f10.k, hR.f11.k, hR.f12.k, hR.f13.k, hR.f14.k, hR.f15.k, hR.f16.k, hR.f17.k, hR.f18.k, hR.f20.k⟩⟩
        refine EachOf.cons [9] rfl (by kernel_rfl) ?_ ?_
        · rintro L A W ⟨v, rfl, hR⟩ hi hw K hK
          have hk : L 19 = false := hR.w19.not hi rfl
          have e9 := hR.f9 (hw 9 (by simp))
          simp only [e9]
          clear e9
          have q0 := ((hR.st hk).cell (p := ⟨bb, 1, none⟩) LB1.out.2).trans LB1.out.1
          go_simp
          refine hK.out _ _ ?_
          exact ⟨(fun jz => if jz = 45 then .pointer (some ⟨bb, 1, none⟩) else if jz = 46 then .int .i64 b.y else v jz), rfl, ⟨(fun h => hR.st (upd_false h)), hR.s1.k, hR.w2.o, hR.w4.o, hR.w5.o, hR.w8.o, (fun _ j hj => upd_on (hw j hj)), hR.w11.o, hR.w14.o, hR.w16.o, hR.w17.o, hR.w18.o, hR.w19.o, hR.f0.k, hR.f1.k, hR.f2.k, hR.f3.k, hR.f4.k, hR.f5.k, hR.f6.k, hR.f7.k, hR.f8.k, (fun _ => rfl), (fun _ => rfl), hR.f11.k, hR.f12.k, hR.f13.k, hR.f14.k, hR.f15.k, hR.f16.k, hR.f17.k, hR.f18.k, hR.f20.k⟩⟩
        refine EachOf.cons [6, 8, 10] rfl (by kernel_rfl) ?_ ?_
        · rintro L A W ⟨v, rfl, hR⟩ hi hw K hK
          have hk : L 19 = false := hR.w19.not hi rfl
          have e6 := hR.f6 (hw 6 (by simp))
          have e8 := hR.f8 (hw 8 (by simp))
          have e10 := hR.f10 (hw 10 (by simp))
          simp only [e6, e8, e10]
          clear e6 e8 e10
          go_simp
          go_at_call 39
          (with_reducible refine ((K3.out _ (hR.st hk)).2.1).mono ?_)
          rintro e w2 ⟨rfl, rfl⟩
          go_simp
          refine hK.out _ _ ?_
          exact ⟨(fun jz => if jz = 42 then .func (.func 39) #[] #[.pointer (some ⟨bn, 0, none⟩), .pointer (some ⟨bd, 0, none⟩)] else if jz = 44 then .int .i64 a.y else if jz = 46 then .int .i64 b.y else if jz = 47 then .int .i64 y else v jz), rfl, ⟨(fun h => hR.st (upd_false h)), hR.s1.k, hR.w2.o, hR.w4.o, hR.w5.o, hR.w8.o, hR.w10.o, (fun _ j hj => upd_on (hw j hj)), hR.w14.o, hR.w16.o, hR.w17.o, hR.w18.o, hR.w19.o, hR.f0.k, hR.f1.k, hR.f2.k, hR.f3.k, hR.f4.k, hR.f5.k, (fun _ => rfl), hR.f7.k, (fun _ => rfl), hR.f9.k, (fun _ => rfl), (fun _ => rfl), hR.f12.k, hR.f13.k, hR.f14.k, hR.f15.k, hR.f16.k, hR.f17.k, hR.f18.k, hR.f20.k⟩⟩
        refine EachOf.cons [] rfl (by kernel_rfl) ?_ ?_
        · rintro L A W ⟨v, rfl, hR⟩ hi hw K hK
          have hk : L 19 = false := hR.w19.not hi rfl
          go_simp
          refine hK.out _ _ ?_
          exact ⟨(fun jz => if jz = 48 then .func (.func 39) #[] #[.pointer (some ⟨bn, 0, none⟩), .pointer (some ⟨bd, 0, none⟩)] else v jz), rfl, ⟨(fun h => hR.st (upd_false h)), hR.s1.k, hR.w2.o, hR.w4.o, hR.w5.o, hR.w8.o, hR.w10.o, hR.w11.o, hR.w14.o, hR.w16.o, hR.w17.o, hR.w18.o, hR.w19.o, hR.f0.k, hR.f1.k, hR.f2.k, hR.f3.k, hR.f4.k, hR.f5.k, hR.f6.k, hR.f7.k, hR.f8.k, hR.f9.k, hR.f10.k, hR.f11.k, (fun _ => rfl), hR.f13.k, hR.f14.k, hR.f15.k, hR.f16.k, hR.f17.k, hR.f18.k, hR.f20.k⟩⟩
        refine EachOf.cons [] rfl (by kernel_rfl) ?_ ?_
        · rintro L A W ⟨v, rfl, hR⟩ hi hw K hK
          have hk : L 19 = false := hR.w19.not hi rfl
          go_simp
          refine hK.out _ _ ?_
          exact ⟨(fun jz => if jz = 49 then .pointer (some ⟨ba, 2, none⟩) else v jz), rfl, ⟨(fun h => hR.st (upd_false h)), hR.s1.k, hR.w2.o, hR.w4.o, hR.w5.o, hR.w8.o, hR.w10.o, hR.w11.o, hR.w14.o, hR.w16.o, hR.w17.o, hR.w18.o, hR.w19.o, hR.f0.k, hR.f1.k, hR.f2.k, hR.f3.k, hR.f4.k, hR.f5.k, hR.f6.k, hR.f7.k, hR.f8.k, hR.f9.k, hR.f10.k, hR.f11.k, hR.f12.k, (fun _ => rfl), hR.f14.k, hR.f15.k, hR.f16.k, hR.f17.k, hR.f18.k, hR.f20.k⟩⟩
        refine EachOf.cons [13] rfl (by kernel_rfl) ?_ ?_
        · rintro L A W ⟨v, rfl, hR⟩ hi hw K hK
          have hk : L 19 = false := hR.w19.not hi rfl
          have e13 := hR.f13 (hw 13 (by simp))
          simp only [e13]
          clear e13
          have q0 := ((hR.st hk).cell (p := ⟨ba, 2, none⟩) LA2.out.2).trans LA2.out.1
          go_simp
          refine hK.out _ _ ?_
          exact ⟨(fun jz => if jz = 49 then .pointer (some ⟨ba, 2, none⟩) else if jz = 50 then .int .i64 a.z else v jz), rfl, ⟨(fun h => hR.st (upd_false h)), hR.s1.k, hR.w2.o, hR.w4.o, hR.w5.o, hR.w8.o, hR.w10.o, hR.w11.o, (fun _ j hj => upd_on (hw j hj)), hR.w16.o, hR.w17.o, hR.w18.o, hR.w19.o, hR.f0.k, hR.f1.k, hR.f2.k, hR.f3.k, hR.f4.k, hR.f5.k, hR.f6.k, hR.f7.k, hR.f8.k, hR.f9.k, hR.f10.k, hR.f11.k, hR.f12.k, (fun _ => rfl), (fun _ => rfl), hR.f15.k, hR.f16.k, hR.f17.k, hR.f18.k, hR.f20.k⟩⟩
        refine EachOf.cons [] rfl (by kernel_rfl) ?_ ?_
        · rintro L A W ⟨v, rfl, hR⟩ hi hw K hK
          have hk : L 19 = false := hR.w19.not hi rfl
          go_simp
          refine hK.out _ _ ?_
          exact ⟨(fun jz => if jz = 51 then .pointer (some ⟨bb, 2, none⟩) else v jz), rfl, ⟨(fun h => hR.st (upd_false h)), hR.s1.k, hR.w2.o, hR.w4.o, hR.w5.o, hR.w8.o, hR.w10.o, hR.w11.o, hR.w14.o, hR.w16.o, hR.w17.o, hR.w18.o, hR.w19.o, hR.f0.k, hR.f1.k, hR.f2.k, hR.f3.k, hR.f4.k, hR.f5.k, hR.f6.k, hR.f7.k, hR.f8.k, hR.f9.k, hR.f10.k, hR.f11.k, hR.f12.k, hR.f13.k, hR.f14.k, (fun _ => rfl), hR.f16.k, hR.f17.k, hR.f18.k, hR.f20.k⟩⟩
        refine EachOf.cons [15] rfl (by kernel_rfl) ?_ ?_
        · rintro L A W ⟨v, rfl, hR⟩ hi hw K hK
          have hk : L 19 = false := hR.w19.not hi rfl
          have e15 := hR.f15 (hw 15 (by simp))
          simp only [e15]
          clear e15
          have q0 := ((hR.st hk).cell (p := ⟨bb, 2, none⟩) LB2.out.2).trans LB2.out.1
          go_simp
          refine hK.out _ _ ?_
          exact ⟨(fun jz => if jz = 51 then .pointer (some ⟨bb, 2, none⟩) else if jz = 52 then .int .i64 b.z else v jz), rfl, ⟨(fun h => hR.st (upd_false h)), hR.s1.k, hR.w2.o, hR.w4.o, hR.w5.o, hR.w8.o, hR.w10.o, hR.w11.o, hR.w14.o, (fun _ j hj => upd_on (hw j hj)), hR.w17.o, hR.w18.o, hR.w19.o, hR.f0.k, hR.f1.k, hR.f2.k, hR.f3.k, hR.f4.k, hR.f5.k, hR.f6.k, hR.f7.k, hR.f8.k, hR.f9.k, hR.f10.k, hR.f11.k, hR.f12.k, hR.f13.k, hR.f14.k, (fun _ => rfl), (fun _ => rfl), hR.f17.k, hR.f18.k, hR.f20.k⟩⟩
        refine EachOf.cons [12, 14, 16] rfl (by kernel_rfl) ?_ ?_
        · rintro L A W ⟨v, rfl, hR⟩ hi hw K hK
          have hk : L 19 = false := hR.w19.not hi rfl
          have e12 := hR.f12 (hw 12 (by simp))
          have e14 := hR.f14 (hw 14 (by simp))
          have e16 := hR.f16 (hw 16 (by simp))
          simp only [e12, e14, e16]
          clear e12 e14 e16
          go_simp
          go_at_call 39
          (with_reducible refine ((K3.out _ (hR.st hk)).2.2).mono ?_)
          rintro e w2 ⟨rfl, rfl⟩
          go_simp
          refine hK.out _ _ ?_
          exact ⟨(fun jz => if jz = 48 then .func (.func 39) #[] #[.pointer (some ⟨bn, 0, none⟩), .pointer (some ⟨bd, 0, none⟩)] else if jz = 50 then .int .i64 a.z else if jz = 52 then .int .i64 b.z else if jz = 53 then .int .i64 z else v jz), rfl, ⟨(fun h => hR.st (upd_false h)), hR.s1.k, hR.w2.o, hR.w4.o, hR.w5.o, hR.w8.o, hR.w10.o, hR.w11.o, hR.w14.o, hR.w16.o, (fun _ j hj => upd_on (hw j hj)), hR.w18.o, hR.w19.o, hR.f0.k, hR.f1.k, hR.f2.k, hR.f3.k, hR.f4.k, hR.f5.k, hR.f6.k, hR.f7.k, hR.f8.k, hR.f9.k, hR.f10.k, hR.f11.k, (fun _ => rfl), hR.f13.k, (fun _ => rfl), hR.f15.k, (fun _ => rfl), (fun _ => rfl), hR.f18.k, hR.f20.k⟩⟩
        refine EachOf.cons [5, 11, 17] rfl (by kernel_rfl) ?_ ?_
        · rintro L A W ⟨v, rfl, hR⟩ hi hw K hK
          have hk : L 19 = false := hR.w19.not hi rfl
          have e5 := hR.f5 (hw 5 (by simp))
          have e11 := hR.f11 (hw 11 (by simp))
          have e17 := hR.f17 (hw 17 (by simp))
          simp only [e5, e11, e17]
          clear e5 e11 e17
          go_simp
          refine hK.out _ _ ?_
          exact ⟨(fun jz => if jz = 41 then .int .i64 x else if jz = 47 then .int .i64 y else if jz = 53 then .int .i64 z else if jz = 54 then .agg #[.int .i64 x, .int .i64 y, .int .i64 z] else v jz), rfl, ⟨(fun h => hR.st (upd_false h)), hR.s1.k, hR.w2.o, hR.w4.o, hR.w5.o, hR.w8.o, hR.w10.o, hR.w11.o, hR.w14.o, hR.w16.o, hR.w17.o, (fun _ j hj => upd_on (hw j hj)), hR.w19.o, hR.f0.k, hR.f1.k, hR.f2.k, hR.f3.k, hR.f4.k, (fun _ => rfl), hR.f6.k, hR.f7.k, hR.f8.k, hR.f9.k, hR.f10.k, (fun _ => rfl), hR.f12.k, hR.f13.k, hR.f14.k, hR.f15.k, hR.f16.k, (fun _ => rfl), (fun _ => rfl), hR.f20.k⟩⟩
        refine EachOf.cons [0, 1, 2, 3, 4, 5, 6, 7, 8, 9, 10, 11, 12, 13, 14, 15, 16, 17, 18] rfl (by kernel_rfl) ?_ ?_
        · rintro L A W ⟨v, rfl, hR⟩ hi hw K hK
          have e18 := hR.f18 (hw 18 (by simp))
          simp only [e18]
          clear e18
          have hO5 := HO3.out.on (hR.st hi)
          have z0 := hO5.c0
          have z1 := hO5.c1
          have z2 := hO5.c2
          have y0 := hO5.f 0
          have y1 := hO5.f 1
          have y2 := hO5.f 2
          clear hO5
          go_simp
          refine hK.out _ _ ?_
          exact ⟨(fun jz => if jz = 54 then .agg #[.int .i64 x, .int .i64 y, .int .i64 z] else v jz), rfl, ⟨(fun h => by simp [upd_self] at h), (fun _ => ⟨W, hR.st hi, rfl⟩), hR.w2.o, hR.w4.o, hR.w5.o, hR.w8.o, hR.w10.o, hR.w11.o, hR.w14.o, hR.w16.o, hR.w17.o, hR.w18.o, (fun _ j hj => upd_on (hw j hj)), hR.f0.k, hR.f1.k, hR.f2.k, hR.f3.k, hR.f4.k, hR.f5.k, hR.f6.k, hR.f7.k, hR.f8.k, hR.f9.k, hR.f10.k, hR.f11.k, hR.f12.k, hR.f13.k, hR.f14.k, hR.f15.k, hR.f16.k, hR.f17.k, (fun _ => rfl), hR.f20.k⟩⟩
        refine EachOf.cons [] rfl (by kernel_rfl) ?_ ?_
        · rintro L A W ⟨v, rfl, hR⟩ hi hw K hK
          go_simp
          refine hK.out _ _ ?_
          exact ⟨(fun jz => if jz = 9 then .int .i64 0 else v jz), rfl, ⟨(fun h => hR.st (upd_false h)), hR.s1.k, hR.w2.o, hR.w4.o, hR.w5.o, hR.w8.o, hR.w10.o, hR.w11.o, hR.w14.o, hR.w16.o, hR.w17.o, hR.w18.o, hR.w19.o, hR.f0.k, hR.f1.k, hR.f2.k, hR.f3.k, hR.f4.k, hR.f5.k, hR.f6.k, hR.f7.k, hR.f8.k, hR.f9.k, hR.f10.k, hR.f11.k, hR.f12.k, hR.f13.k, hR.f14.k, hR.f15.k, hR.f16.k, hR.f17.k, hR.f18.k, (fun _ => rfl)⟩⟩
        exact EachOf.nil
      rintro L A W6 ⟨v, rfl, hR⟩ hL
      obtain ⟨W4, hb4, hW0⟩ := hR.s1 (hL 19 (by simp))
      have e20 := hR.f20 (hL 20 (by simp))
      simp only [e20]
      have hO4 := HO3.out.on hb4
      have l4 := hO4.lt
      have o0 := hO4.c0
      have o1 := hO4.c1
      have o2 := hO4.c2
      have HX : Hid (Below w.heap.size w W6) := by
        rw [hW0]
        exact (((below_on HB3.out hb4).setCell lo _).setCell lo _).setCell lo _
      have x0 : W6.cell? ⟨bo, 0, none⟩ = some (.int .i64 x) := by rw [hW0]; simp [go_sem, o0]
      have x1 : W6.cell? ⟨bo, 1, none⟩ = some (.int .i64 y) := by rw [hW0]; simp [go_sem, o1]
      have x2 : W6.cell? ⟨bo, 2, none⟩ = some (.int .i64 z) := by rw [hW0]; simp [go_sem, o2]
      clear e20 hR hL hb4 hW0 hO4 o0 o1 o2 l4 LA0 LA1 LA2 LB0 LB1 LB2 K3 n3 d3
      go_wp2_with fail
      (try simp only [Exit.inBlock, Exit.then])
      refine bodyPost_ret (by simp [results, Tryd.results18, go_sem, x0, x1, x2]; try rfl) rfl ?_
      exact ⟨rfl, HX.out⟩
  · have hd : decide (allV 2 (fun i => if i = 0 then a else b)) = false := decide_eq_false fun hh => ok ((allV2 a b).1 hh)
    rw [hd] at CV
    have C := Lib.hid CV
    unfold btT at h
    rw [if_neg ok] at h
    injection h with h1 h2
    subst h1
    subst h2
    clear ok hd CV
    go_enter Tryd.func18, Tryd.ntmps18
    go_upto_region 1 with fail
    rw [← HS.out.2.2.2.2.2, ← HS.out.2.2.2.2.1, ← HS.out.2.2.2.1, ← HS.out.2.2.1, ← HS.out.2.1, ← HS.out.1]
    go_wp2_with fail
    rw [← HW.out.1, ← HW.out.2]
    (with_reducible refine ((C.out).mono ?_))
    rintro r w3 ⟨rfl, hb3⟩
    have HB3 := Lib.hid (below_on HB2.out hb3)
    have hO3 := HO.out.on hb3
    clear hb3 a0 a1 a2 b0 b1 b2 HA HBb HB2 HW HO HNn HDd C HS
    have o0 := hO3.c0
    have o1 := hO3.c1
    have o2 := hO3.c2
    have f0 := hO3.f 0
    have f1 := hO3.f 1
    have f2 := hO3.f 2
    clear hO3
    go_wp2_with fail
    refine bodyPost_ret (by simp [results, Tryd.results18, go_sem, o0, o1, o2]; try rfl) rfl ?_
    exact ⟨rfl, ((HB3.out.setCell lo _).setCell lo _).setCell lo _⟩
end Go.Proofs.YtabpnkpedcgcpaaDoor
