/- Layer 9: cross products, what is perpendicular. -/
import Derived.Test.YtcghjjfpjiacfaaDoorVF1
namespace Go.Proofs.YtcghjjfpjiacfaaDoor
open Go.ChangeShapes Go.WideShapes Go.ChangeAt Go.RowKit Go.Joins Go.Deep Go.Shelf
set_option linter.unusedVariables false

/-- The table of the other axes, as it lies. -/
def PR (W : World) : Prop := 0 < W.heap.size ∧ W.cell? ⟨0, 0, none⟩ = some (.int .i64 1) ∧ W.cell? ⟨0, 1, none⟩ = some (.int .i64 2) ∧ W.cell? ⟨0, 2, none⟩ = some (.int .i64 2) ∧ W.cell? ⟨0, 3, none⟩ = some (.int .i64 0) ∧ W.cell? ⟨0, 4, none⟩ = some (.int .i64 0) ∧ W.cell? ⟨0, 5, none⟩ = some (.int .i64 1)
theorem PR.on {W W2 : World} (h : PR W) (hb : Below W.heap.size W W2) : PR W2 :=
  ⟨Nat.lt_of_lt_of_le h.1 hb.size, (hb.cell (p := ⟨0, 0, none⟩) h.1).trans h.2.1, (hb.cell (p := ⟨0, 1, none⟩) h.1).trans h.2.2.1, (hb.cell (p := ⟨0, 2, none⟩) h.1).trans h.2.2.2.1, (hb.cell (p := ⟨0, 3, none⟩) h.1).trans h.2.2.2.2.1, (hb.cell (p := ⟨0, 4, none⟩) h.1).trans h.2.2.2.2.2.1, (hb.cell (p := ⟨0, 5, none⟩) h.1).trans h.2.2.2.2.2.2⟩
def Pt.at (p : Pt) (i : Nat) : Int := if i = 0 then p.x else if i = 1 then p.y else p.z
/-- A block of three numbers, by their places. -/
structure F3 (W : World) (b : Nat) (f : Nat → Int) : Prop where
  lt : b < W.heap.size
  c : ∀ k, k < 3 → W.cell? ⟨b, k, none⟩ = some (.int .i64 (f k))
  f : ∀ k, W.frozen? ⟨b, k, none⟩ = false
theorem F3.on {W W2 : World} {b : Nat} {f : Nat → Int} (h : F3 W b f) (hb : Below W.heap.size W W2) : F3 W2 b f :=
  ⟨Nat.lt_of_lt_of_le h.lt hb.size, fun k hk => (hb.cell (p := ⟨b, k, none⟩) h.lt).trans (h.c k hk), fun k => (hb.frozen (p := ⟨b, k, none⟩) h.lt).trans (h.f k)⟩
theorem F3.far {W : World} {b : Nat} {f : Nat → Int} (h : F3 W b f) {c : Nat} (hc : c ≠ b) (i : Nat) (v : Value) : F3 (W.setCell ⟨c, i, none⟩ v) b f :=
  ⟨by simpa using h.lt, fun k hk => by
    rw [World.cell?_setCell_other _ _ _ _ (by intro e; exact hc (congrArg Addr.block e))]
    exact h.c k hk, fun k => by simpa using h.f k⟩
theorem F3.set {W : World} {b : Nat} {f f2 : Nat → Int} (h : F3 W b f) (i : Nat) (hi : i < 3) (v : Int) (e1 : f2 i = v) (e2 : ∀ k, k < 3 → k ≠ i → f2 k = f k) : F3 (W.setCell ⟨b, i, none⟩ (.int .i64 v)) b f2 :=
  ⟨by simpa using h.lt, fun k hk => by
    by_cases e : k = i
    · subst e
      rw [e1]
      exact World.cell?_setCell_same' _ _ _ (by rw [h.c k hk]; rfl)
    · rw [e2 k hk e, World.cell?_setCell_other _ _ _ _ (adr_ne (b := b) (i := i) (j := k) (fun q => e q.symm))]
      exact h.c k hk, fun k => by simpa using h.f k⟩
theorem B3.f3 {W : World} {b : Nat} (p : Pt) (h : B3 W b p.x p.y p.z) : F3 W b p.at := ⟨h.lt, fun k hk => by
  have : k = 0 ∨ k = 1 ∨ k = 2 := by omega
  rcases this with rfl | rfl | rfl
  · exact h.c0
  · exact h.c1
  · exact h.c2, h.f⟩
theorem F3.b3 {W : World} {b : Nat} {f : Nat → Int} (h : F3 W b f) : B3 W b (f 0) (f 1) (f 2) := ⟨h.lt, h.c 0 (by omega), h.c 1 (by omega), h.c 2 (by omega), h.f⟩
/-- The other two axes. -/
def ax0 (i : Nat) : Nat := if i = 0 then 1 else if i = 1 then 2 else 0
def ax1 (i : Nat) : Nat := if i = 0 then 2 else if i = 1 then 0 else 1
theorem crs_at (a b : Pt) (i : Nat) (hi : i < 3) : a.at (ax0 i) * b.at (ax1 i) - a.at (ax1 i) * b.at (ax0 i) = (a.crs b).at i := by
  have : i = 0 ∨ i = 1 ∨ i = 2 := by omega
  rcases this with rfl | rfl | rfl <;> rfl
def lim3 (p : Pt) (m : Int) : Prop := ∀ k, k < 3 → -m ≤ p.at k ∧ p.at k ≤ m
theorem crs_lim {a b : Pt} (ha : lim3 a 2097152) (hb : lim3 b 2097152) : lim3 (a.crs b) 8796093022208 := fun k hk => by
  have l0 : ax0 k < 3 := by unfold ax0; split <;> (try split) <;> omega
  have l1 : ax1 k < 3 := by unfold ax1; split <;> (try split) <;> omega
  rw [← crs_at a b k hk]
  have h1 := tn_bd (ha _ l0).1 (ha _ l0).2 (hb _ l1).1 (hb _ l1).2
  have h2 := tn_bd (ha _ l1).1 (ha _ l1).2 (hb _ l0).1 (hb _ l0).2
  omega
theorem sub_lim {a b : Pt} (ha : a.ok) (hb : b.ok) : lim3 (a.sub b) 2097152 := fun k hk => by
  obtain ⟨h1, h2, h3⟩ := sub_bd ha hb
  have : k = 0 ∨ k = 1 ∨ k = 2 := by omega
  rcases this with rfl | rfl | rfl
  · exact h1
  · exact h2
  · exact h3
structure CrS (w W : World) (b2 b3 b4 b5 : Nat) (a b : Pt) (f : Nat → Int) : Prop where
  st : Below w.heap.size w W
  A : F3 W b2 a.at
  B : F3 W b3 b.at
  O : F3 W b4 (fun _ => 0)
  C : F3 W b5 f
  l4 : w.heap.size ≤ b4
  l5 : w.heap.size ≤ b5
  n2 : b5 ≠ b2
  n3 : b5 ≠ b3
  n4 : b5 ≠ b4
theorem CrS.on {w W W2 : World} {b2 b3 b4 b5 : Nat} {a b : Pt} {f : Nat → Int} (h : CrS w W b2 b3 b4 b5 a b f) (hb : Below W.heap.size W W2) : CrS w W2 b2 b3 b4 b5 a b f := ⟨below_on h.st hb, h.A.on hb, h.B.on hb, h.O.on hb, h.C.on hb, h.l4, h.l5, h.n2, h.n3, h.n4⟩
theorem CrS.set {w W : World} {b2 b3 b4 b5 : Nat} {a b : Pt} {f f2 : Nat → Int} (h : CrS w W b2 b3 b4 b5 a b f) (i : Nat) (hi : i < 3) (v : Int) (e1 : f2 i = v) (e2 : ∀ k, k < 3 → k ≠ i → f2 k = f k) : CrS w (W.setCell ⟨b5, i, none⟩ (.int .i64 v)) b2 b3 b4 b5 a b f2 :=
  ⟨h.st.setCell h.l5 _, h.A.far h.n2 _ _, h.B.far h.n3 _ _, h.O.far h.n4 _ _, h.C.set i hi v e1 e2, h.l4, h.l5, h.n2, h.n3, h.n4⟩
structure VcrR (b2 b3 b5 b7 i p0 p1 : Nat) (x0 x1 y0 y1 m1 m2 r : Int) (Wc : World) (L : Nat → Bool) (v : Nat → Value) (W : World) : Prop where
  st : L 21 = false → Below Wc.heap.size Wc W
  s1 : Had L 21 (∃ W2, Below Wc.heap.size Wc W2 ∧ W = W2.setCell ⟨b5, i, none⟩ (.int .i64 r))
  w2 : Had L 2 (∀ j ∈ [1], L j = true)
  w3 : Had L 3 (∀ j ∈ [2], L j = true)
  w4 : Had L 4 (∀ j ∈ [3], L j = true)
  w6 : Had L 6 (∀ j ∈ [5], L j = true)
  w7 : Had L 7 (∀ j ∈ [6], L j = true)
  w8 : Had L 8 (∀ j ∈ [7], L j = true)
  w9 : Had L 9 (∀ j ∈ [4, 8], L j = true)
  w11 : Had L 11 (∀ j ∈ [10], L j = true)
  w12 : Had L 12 (∀ j ∈ [11], L j = true)
  w13 : Had L 13 (∀ j ∈ [12], L j = true)
  w15 : Had L 15 (∀ j ∈ [14], L j = true)
  w16 : Had L 16 (∀ j ∈ [15], L j = true)
  w17 : Had L 17 (∀ j ∈ [16], L j = true)
  w18 : Had L 18 (∀ j ∈ [13, 17], L j = true)
  w19 : Had L 19 (∀ j ∈ [9, 18], L j = true)
  w20 : Had L 20 (∀ j ∈ [0], L j = true)
  w21 : Had L 21 (∀ j ∈ [0, 1, 2, 3, 4, 5, 6, 7, 8, 9, 10, 11, 12, 13, 14, 15, 16, 17, 18, 19, 20], L j = true)
  f0 : Had L 0 (v 13 = .int .i64 (i : Int))
  f1 : Had L 1 (v 14 = .pointer (some ⟨b7, 0, none⟩))
  f2 : Had L 2 (v 15 = .int .i64 (p0 : Int))
  f3 : Had L 3 (v 16 = .pointer (some ⟨b2, p0, none⟩))
  f4 : Had L 4 (v 17 = .int .i64 x0)
  f5 : Had L 5 (v 18 = .pointer (some ⟨b7, 1, none⟩))
  f6 : Had L 6 (v 19 = .int .i64 (p1 : Int))
  f7 : Had L 7 (v 20 = .pointer (some ⟨b3, p1, none⟩))
  f8 : Had L 8 (v 21 = .int .i64 y1)
  f9 : Had L 9 (v 22 = .int .i64 m1)
  f10 : Had L 10 (v 23 = .pointer (some ⟨b7, 1, none⟩))
  f11 : Had L 11 (v 24 = .int .i64 (p1 : Int))
  f12 : Had L 12 (v 25 = .pointer (some ⟨b2, p1, none⟩))
  f13 : Had L 13 (v 26 = .int .i64 x1)
  f14 : Had L 14 (v 27 = .pointer (some ⟨b7, 0, none⟩))
  f15 : Had L 15 (v 28 = .int .i64 (p0 : Int))
  f16 : Had L 16 (v 29 = .pointer (some ⟨b3, p0, none⟩))
  f17 : Had L 17 (v 30 = .int .i64 y0)
  f18 : Had L 18 (v 31 = .int .i64 m2)
  f19 : Had L 19 (v 32 = .int .i64 r)
  f20 : Had L 20 (v 33 = .pointer (some ⟨b5, i, none⟩))
set_option maxRecDepth 100000 in
set_option maxHeartbeats 16000000 in
theorem cross_any (a b : Pt) (w : World) (hp : PR w) (ha : lim3 a 2097152) (hb : lim3 b 2097152) : Calls Tryd.prog 82 #[.agg #[.int .i64 a.x, .int .i64 a.y, .int .i64 a.z], .agg #[.int .i64 b.x, .int .i64 b.y, .int .i64 b.z]] w fun e w' => e = .returned (.agg #[.int .i64 (a.crs b).x, .int .i64 (a.crs b).y, .int .i64 (a.crs b).z]) ∧ Below w.heap.size w w' := by
  obtain ⟨w1, hw1⟩ : ∃ W, W = ((w.alloc (Obj.cells #[.int .i64 a.x, .int .i64 a.y, .int .i64 a.z] 79)).alloc (Obj.cells #[.int .i64 b.x, .int .i64 b.y, .int .i64 b.z] 79)).alloc (Obj.cells #[.int .i64 0, .int .i64 0, .int .i64 0] 79) := ⟨_, rfl⟩
  obtain ⟨hb1, hA, hB, hO⟩ := three_boxes w a b ⟨0, 0, 0⟩ _ _ _ w1 hw1
  obtain ⟨w2, hw2⟩ : ∃ W, W = w1.alloc (Obj.cells #[.int .i64 0, .int .i64 0, .int .i64 0] 79) := ⟨_, rfl⟩
  have hb2 : Below w1.heap.size w1 w2 := by rw [hw2]; exact below_alloc _ _
  obtain ⟨b2, hb2'⟩ : ∃ x, x = w.heap.size := ⟨_, rfl⟩
  obtain ⟨b3, hb3'⟩ : ∃ x, x = w.heap.size + 1 := ⟨_, rfl⟩
  obtain ⟨b4, hb4'⟩ : ∃ x, x = w.heap.size + 1 + 1 := ⟨_, rfl⟩
  obtain ⟨b5, hb5'⟩ : ∃ x, x = w1.heap.size := ⟨_, rfl⟩
  have hs1 : w1.heap.size = w.heap.size + 3 := by rw [hw1]; simp
  have hC : B3 w2 b5 0 0 0 := by rw [hw2, hb5']; exact B3.new _ _ _ _ _
  have HN : Hid (b2 = w.heap.size ∧ b3 = w.heap.size + 1 ∧ b4 = w.heap.size + 1 + 1 ∧ b5 = w1.heap.size ∧ w1 = ((w.alloc (Obj.cells #[.int .i64 a.x, .int .i64 a.y, .int .i64 a.z] 79)).alloc (Obj.cells #[.int .i64 b.x, .int .i64 b.y, .int .i64 b.z] 79)).alloc (Obj.cells #[.int .i64 0, .int .i64 0, .int .i64 0] 79) ∧ w2 = w1.alloc (Obj.cells #[.int .i64 0, .int .i64 0, .int .i64 0] 79)) := ⟨hb2', hb3', hb4', hb5', hw1, hw2⟩
  rw [← hb2'] at hA
  rw [← hb3'] at hB
  rw [← hb4'] at hO
  have HS : Hid (CrS w w2 b2 b3 b4 b5 a b (fun k => if k < 0 then (a.crs b).at k else 0)) := ⟨below_on hb1 hb2, (hA.f3 a).on hb2, (hB.f3 b).on hb2, ((hO.f3 ⟨0, 0, 0⟩).on hb2) |> fun h => ⟨h.lt, fun k hk => by
      have := h.c k hk
      rw [show Pt.at ⟨0, 0, 0⟩ k = 0 by unfold Pt.at; split <;> (try split) <;> rfl] at this
      exact this, h.f⟩, ((hC.f3 ⟨0, 0, 0⟩)) |> fun h => ⟨h.lt, fun k hk => by
      have := h.c k hk
      rw [show Pt.at ⟨0, 0, 0⟩ k = 0 by unfold Pt.at; split <;> (try split) <;> rfl] at this
      simpa using this, h.f⟩, by omega, by omega, by omega, by omega, by omega⟩
  have hp2 := (hp.on hb1).on hb2
  have g0 := hp2.2.1
  have g1 := hp2.2.2.1
  have g2 := hp2.2.2.2.1
  have g3 := hp2.2.2.2.2.1
  have g4 := hp2.2.2.2.2.2.1
  have g5 := hp2.2.2.2.2.2.2
  have HA := Lib.hid ha
  have HB := Lib.hid hb
  clear hA hB hO hC hb1 hb2 hb2' hb3' hb4' hb5' hw1 hw2 hs1 hp2 ha hb
  go_enter Tryd.func82, Tryd.ntmps82
  go_upto_region 1 with fail
  rw [← HN.out.2.2.2.2.1, ← HN.out.2.2.1, ← HN.out.2.1, ← HN.out.1]
  go_upto_region 2 with fail
  rw [← HN.out.2.2.2.2.2, ← HN.out.2.2.2.1]
  clear HN
  go_wp2_with fail
  clear g0 g1 g2 g3 g4 g5
  go_loopg [9] 3 (fun mm s9 wx => ∃ i : Nat, s9 = .int .i64 (i : Int) ∧ mm = 3 - i ∧ i ≤ 3 ∧ Hid (CrS w wx b2 b3 b4 b5 a b (fun k => if k < i then (a.crs b).at k else 0)))
  case atStart => exact ⟨0, rfl, rfl, by omega, HS⟩
  case round =>
    clear HS
    obtain ⟨i, rfl, rfl, hi, HS⟩ := hrel
    rename World => W1
    by_cases hlt : i < 3
    · have wi : IntKind.i64.wrap ((i : Int) + 1) = ((i + 1 : Nat) : Int) := by rw [IntWalk.i64_in _ (by omega)]; omega
      have li : (i : Int) < 3 := by omega
      have ix : ∀ w, (Instr.index 126 (.agg #[.int .i64 1, .int .i64 2, .int .i64 2, .int .i64 0, .int .i64 0, .int .i64 1]) (.int .i64 (i : Int))).run Tryd.prog w = .ok (.agg #[.int .i64 ((ax0 i : Nat) : Int), .int .i64 ((ax1 i : Nat) : Int)]) w := by
        have : i = 0 ∨ i = 1 ∨ i = 2 := by omega
        rcases this with rfl | rfl | rfl <;> exact fun _ => by kernel_rfl
      have o0 : ax0 i < 3 := by unfold ax0; split <;> (try split) <;> omega
      have o1 : ax1 i < 3 := by unfold ax1; split <;> (try split) <;> omega
      have hcr := crs_at a b i hlt
      have e0 := HA.out _ o0
      have e1 := HA.out _ o1
      have e2 := HB.out _ o0
      have e3 := HB.out _ o1
      obtain ⟨r, hr⟩ : ∃ r, (a.crs b).at i = r := ⟨_, rfl⟩
      have HR := Lib.hid hr
      rw [hr] at hcr
      clear hr
      have CA0 := HS.out.A.c _ o0
      have CA1 := HS.out.A.c _ o1
      have CB0 := HS.out.B.c _ o0
      have CB1 := HS.out.B.c _ o1
      obtain ⟨x0, hx0⟩ : ∃ x, a.at (ax0 i) = x := ⟨_, rfl⟩
      obtain ⟨x1, hx1⟩ : ∃ x, a.at (ax1 i) = x := ⟨_, rfl⟩
      obtain ⟨y0, hy0⟩ : ∃ x, b.at (ax0 i) = x := ⟨_, rfl⟩
      obtain ⟨y1, hy1⟩ : ∃ x, b.at (ax1 i) = x := ⟨_, rfl⟩
      rw [hx0] at CA0 e0 hcr
      rw [hx1] at CA1 e1 hcr
      rw [hy0] at CB0 e2 hcr
      rw [hy1] at CB1 e3 hcr
      obtain ⟨p0, hp0⟩ : ∃ p, ax0 i = p := ⟨_, rfl⟩
      obtain ⟨p1, hp1⟩ : ∃ p, ax1 i = p := ⟨_, rfl⟩
      rw [hp0] at ix CA0 CB0 o0
      rw [hp1] at ix CA1 CB1 o1
      have t1 := tn_bd e0.1 e0.2 e3.1 e3.2
      have t2 := tn_bd e1.1 e1.2 e2.1 e2.2
      obtain ⟨m1, hm1⟩ : ∃ m, x0 * y1 = m := ⟨_, rfl⟩
      obtain ⟨m2, hm2⟩ : ∃ m, x1 * y0 = m := ⟨_, rfl⟩
      rw [hm1] at t1 hcr
      rw [hm2] at t2 hcr
      have wm1 : IntKind.i64.wrap (x0 * y1) = m1 := by rw [hm1]; exact IntWalk.i64_in _ (by omega)
      have wm2 : IntKind.i64.wrap (x1 * y0) = m2 := by rw [hm2]; exact IntWalk.i64_in _ (by omega)
      have wr : IntKind.i64.wrap (m1 - m2) = r := by rw [hcr]; exact IntWalk.i64_in _ (by omega)
      have LA0 := Lib.hid (And.intro CA0 HS.out.A.lt)
      have LA1 := Lib.hid (And.intro CA1 HS.out.A.lt)
      have LB0 := Lib.hid (And.intro CB0 HS.out.B.lt)
      have LB1 := Lib.hid (And.intro CB1 HS.out.B.lt)
      clear CA0 CA1 CB0 CB1 e0 e1 e2 e3 hx0 hx1 hy0 hy1 hp0 hp1 t1 t2 hm1 hm2 hcr
      have lp0 : (p0 : Int) < 3 := by omega
      have lp1 : (p1 : Int) < 3 := by omega
      go_upto_region 5 with fail
      have bl := below_alloc W1 (Obj.cells #[.int .i64 (p0 : Int), .int .i64 (p1 : Int)] 125)
      have hO7 := OB.new W1 (.int .i64 (p0 : Int)) (.int .i64 (p1 : Int)) 125
      have HS2 := Lib.hid (HS.out.on bl)
      have MA0 := Lib.hid (And.intro ((bl.cell (p := ⟨b2, p0, none⟩) LA0.out.2).trans LA0.out.1) (Nat.lt_of_lt_of_le LA0.out.2 bl.size))
      have MA1 := Lib.hid (And.intro ((bl.cell (p := ⟨b2, p1, none⟩) LA1.out.2).trans LA1.out.1) (Nat.lt_of_lt_of_le LA1.out.2 bl.size))
      have MB0 := Lib.hid (And.intro ((bl.cell (p := ⟨b3, p0, none⟩) LB0.out.2).trans LB0.out.1) (Nat.lt_of_lt_of_le LB0.out.2 bl.size))
      have MB1 := Lib.hid (And.intro ((bl.cell (p := ⟨b3, p1, none⟩) LB1.out.2).trans LB1.out.1) (Nat.lt_of_lt_of_le LB1.out.2 bl.size))
      obtain ⟨W2, hW2⟩ : ∃ W, W = W1.alloc (Obj.cells #[.int .i64 (p0 : Int), .int .i64 (p1 : Int)] 125) := ⟨_, rfl⟩
      obtain ⟨b7, hb7⟩ : ∃ x, x = W1.heap.size := ⟨_, rfl⟩
      rw [← hW2] at hO7 HS2 MA0 MA1 MB0 MB1
      rw [← hb7] at hO7
      rw [← hW2, ← hb7]
      have MP0 := Lib.hid (And.intro hO7.c0 hO7.lt)
      have MP1 := Lib.hid (And.intro hO7.c1 hO7.lt)
      clear LA0 LA1 LB0 LB1 bl hO7 hW2 hb7 HS ix
      refine wp_region_each (fun L A W => ∃ (v : Nat → Value), A = ⟨#[_, _, _, _, _, _, _, _, _, _, _, _, _, v 13, v 14, v 15, v 16, v 17, v 18, v 19, v 20, v 21, v 22, v 23, v 24, v 25, v 26, v 27, v 28, v 29, v 30, v 31, v 32, v 33, _, _], []⟩ ∧ VcrR b2 b3 b5 b7 i p0 p1 x0 x1 y0 y1 m1 m2 r W2 L v W) (by kernel_rfl) (by kernel_rfl) ⟨fun jz => if jz = 13 then u13 else if jz = 14 then u14 else if jz = 15 then u15 else if jz = 16 then u16 else if jz = 17 then u17 else if jz = 18 then u18 else if jz = 19 then u19 else if jz = 20 then u20 else if jz = 21 then u21 else if jz = 22 then u22 else if jz = 23 then u23 else if jz = 24 then u24 else if jz = 25 then u25 else if jz = 26 then u26 else if jz = 27 then u27 else if jz = 28 then u28 else if jz = 29 then u29 else if jz = 30 then u30 else if jz = 31 then u31 else if jz = 32 then u32 else if jz = 33 then u33 else undef, rfl, ⟨(fun _ => Below.drew (Below.refl _ _)), Had.none, Had.none, Had.none, Had.none, Had.none, Had.none, Had.none, Had.none, Had.none, Had.none, Had.none, Had.none, Had.none, Had.none, Had.none, Had.none, Had.none, Had.none, Had.none, Had.none, Had.none, Had.none, Had.none, Had.none, Had.none, Had.none, Had.none, Had.none, Had.none, Had.none, Had.none, Had.none, Had.none, Had.none, Had.none, Had.none, Had.none, Had.none, Had.none⟩⟩ (rs := [0, 1, 2, 3, 4, 5, 6, 7, 8, 9, 10, 11, 12, 13, 14, 15, 16, 17, 18, 19, 20, 21]) (by kernel_rfl) ?_ ?_
      · refine EachOf.cons [] rfl (by kernel_rfl) ?_ ?_
        · rintro L A W ⟨v, rfl, hR⟩ hi hw K hK
          have hk : L 21 = false := hR.w21.not hi rfl
          go_simp
          refine hK.out _ _ ?_
          exact ⟨(fun jz => if jz = 13 then .int .i64 (i : Int) else v jz), rfl, ⟨(fun h => hR.st (upd_false h)), hR.s1.k, hR.w2.o, hR.w3.o, hR.w4.o, hR.w6.o, hR.w7.o, hR.w8.o, hR.w9.o, hR.w11.o, hR.w12.o, hR.w13.o, hR.w15.o, hR.w16.o, hR.w17.o, hR.w18.o, hR.w19.o, hR.w20.o, hR.w21.o, (fun _ => rfl), hR.f1.k, hR.f2.k, hR.f3.k, hR.f4.k, hR.f5.k, hR.f6.k, hR.f7.k, hR.f8.k, hR.f9.k, hR.f10.k, hR.f11.k, hR.f12.k, hR.f13.k, hR.f14.k, hR.f15.k, hR.f16.k, hR.f17.k, hR.f18.k, hR.f19.k, hR.f20.k⟩⟩
        refine EachOf.cons [] rfl (by kernel_rfl) ?_ ?_
        · rintro L A W ⟨v, rfl, hR⟩ hi hw K hK
          have hk : L 21 = false := hR.w21.not hi rfl
          go_simp
          refine hK.out _ _ ?_
          exact ⟨(fun jz => if jz = 14 then .pointer (some ⟨b7, 0, none⟩) else v jz), rfl, ⟨(fun h => hR.st (upd_false h)), hR.s1.k, hR.w2.o, hR.w3.o, hR.w4.o, hR.w6.o, hR.w7.o, hR.w8.o, hR.w9.o, hR.w11.o, hR.w12.o, hR.w13.o, hR.w15.o, hR.w16.o, hR.w17.o, hR.w18.o, hR.w19.o, hR.w20.o, hR.w21.o, hR.f0.k, (fun _ => rfl), hR.f2.k, hR.f3.k, hR.f4.k, hR.f5.k, hR.f6.k, hR.f7.k, hR.f8.k, hR.f9.k, hR.f10.k, hR.f11.k, hR.f12.k, hR.f13.k, hR.f14.k, hR.f15.k, hR.f16.k, hR.f17.k, hR.f18.k, hR.f19.k, hR.f20.k⟩⟩
        refine EachOf.cons [1] rfl (by kernel_rfl) ?_ ?_
        · rintro L A W ⟨v, rfl, hR⟩ hi hw K hK
          have hk : L 21 = false := hR.w21.not hi rfl
          have e1 := hR.f1 (hw 1 (by simp))
          simp only [e1]
          clear e1
          have q0 := ((hR.st hk).cell (p := ⟨b7, 0, none⟩) MP0.out.2).trans MP0.out.1
          go_simp
          refine hK.out _ _ ?_
          exact ⟨(fun jz => if jz = 14 then .pointer (some ⟨b7, 0, none⟩) else if jz = 15 then .int .i64 (p0 : Int) else v jz), rfl, ⟨(fun h => hR.st (upd_false h)), hR.s1.k, (fun _ j hj => upd_on (hw j hj)), hR.w3.o, hR.w4.o, hR.w6.o, hR.w7.o, hR.w8.o, hR.w9.o, hR.w11.o, hR.w12.o, hR.w13.o, hR.w15.o, hR.w16.o, hR.w17.o, hR.w18.o, hR.w19.o, hR.w20.o, hR.w21.o, hR.f0.k, (fun _ => rfl), (fun _ => rfl), hR.f3.k, hR.f4.k, hR.f5.k, hR.f6.k, hR.f7.k, hR.f8.k, hR.f9.k, hR.f10.k, hR.f11.k, hR.f12.k, hR.f13.k, hR.f14.k, hR.f15.k, hR.f16.k, hR.f17.k, hR.f18.k, hR.f19.k, hR.f20.k⟩⟩
        refine EachOf.cons [2] rfl (by kernel_rfl) ?_ ?_
        · rintro L A W ⟨v, rfl, hR⟩ hi hw K hK
          have hk : L 21 = false := hR.w21.not hi rfl
          have e2 := hR.f2 (hw 2 (by simp))
          simp only [e2]
          clear e2
          go_simp
          refine hK.out _ _ ?_
          exact ⟨(fun jz => if jz = 15 then .int .i64 (p0 : Int) else if jz = 16 then .pointer (some ⟨b2, p0, none⟩) else v jz), rfl, ⟨(fun h => hR.st (upd_false h)), hR.s1.k, hR.w2.o, (fun _ j hj => upd_on (hw j hj)), hR.w4.o, hR.w6.o, hR.w7.o, hR.w8.o, hR.w9.o, hR.w11.o, hR.w12.o, hR.w13.o, hR.w15.o, hR.w16.o, hR.w17.o, hR.w18.o, hR.w19.o, hR.w20.o, hR.w21.o, hR.f0.k, hR.f1.k, (fun _ => rfl), (fun _ => rfl), hR.f4.k, hR.f5.k, hR.f6.k, hR.f7.k, hR.f8.k, hR.f9.k, hR.f10.k, hR.f11.k, hR.f12.k, hR.f13.k, hR.f14.k, hR.f15.k, hR.f16.k, hR.f17.k, hR.f18.k, hR.f19.k, hR.f20.k⟩⟩
        refine EachOf.cons [3] rfl (by kernel_rfl) ?_ ?_
        · rintro L A W ⟨v, rfl, hR⟩ hi hw K hK
          have hk : L 21 = false := hR.w21.not hi rfl
          have e3 := hR.f3 (hw 3 (by simp))
          simp only [e3]
          clear e3
          have q0 := ((hR.st hk).cell (p := ⟨b2, p0, none⟩) MA0.out.2).trans MA0.out.1
          go_simp
          refine hK.out _ _ ?_
          exact ⟨(fun jz => if jz = 16 then .pointer (some ⟨b2, p0, none⟩) else if jz = 17 then .int .i64 x0 else v jz), rfl, ⟨(fun h => hR.st (upd_false h)), hR.s1.k, hR.w2.o, hR.w3.o, (fun _ j hj => upd_on (hw j hj)), hR.w6.o, hR.w7.o, hR.w8.o, hR.w9.o, hR.w11.o, hR.w12.o, hR.w13.o, hR.w15.o, hR.w16.o, hR.w17.o, hR.w18.o, hR.w19.o, hR.w20.o, hR.w21.o, hR.f0.k, hR.f1.k, hR.f2.k, (fun _ => rfl), (fun _ => rfl), hR.f5.k, hR.f6.k, hR.f7.k, hR.f8.k, hR.f9.k, hR.f10.k, hR.f11.k, hR.f12.k, hR.f13.k, hR.f14.k, hR.f15.k, hR.f16.k, hR.f17.k, hR.f18.k, hR.f19.k, hR.f20.k⟩⟩
        refine EachOf.cons [] rfl (by kernel_rfl) ?_ ?_
        · rintro L A W ⟨v, rfl, hR⟩ hi hw K hK
          have hk : L 21 = false := hR.w21.not hi rfl
          go_simp
          refine hK.out _ _ ?_
          exact ⟨(fun jz => if jz = 18 then .pointer (some ⟨b7, 1, none⟩) else v jz), rfl, ⟨(fun h => hR.st (upd_false h)), hR.s1.k, hR.w2.o, hR.w3.o, hR.w4.o, hR.w6.o, hR.w7.o, hR.w8.o, hR.w9.o, hR.w11.o, hR.w12.o, hR.w13.o, hR.w15.o, hR.w16.o, hR.w17.o, hR.w18.o, hR.w19.o, hR.w20.o, hR.w21.o, hR.f0.k, hR.f1.k, hR.f2.k, hR.f3.k, hR.f4.k, (fun _ => rfl), hR.f6.k, hR.f7.k, hR.f8.k, hR.f9.k, hR.f10.k, hR.f11.k, hR.f12.k, hR.f13.k, hR.f14.k, hR.f15.k, hR.f16.k, hR.f17.k, hR.f18.k, hR.f19.k, hR.f20.k⟩⟩
        refine EachOf.cons [5] rfl (by kernel_rfl) ?_ ?_
        · rintro L A W ⟨v, rfl, hR⟩ hi hw K hK
          have hk : L 21 = false := hR.w21.not hi rfl
          have e5 := hR.f5 (hw 5 (by simp))
          simp only [e5]
          clear e5
          have q0 := ((hR.st hk).cell (p := ⟨b7, 1, none⟩) MP1.out.2).trans MP1.out.1
          go_simp
          refine hK.out _ _ ?_
          exact ⟨(fun jz => if jz = 18 then .pointer (some ⟨b7, 1, none⟩) else if jz = 19 then .int .i64 (p1 : Int) else v jz), rfl, ⟨(fun h => hR.st (upd_false h)), hR.s1.k, hR.w2.o, hR.w3.o, hR.w4.o, (fun _ j hj => upd_on (hw j hj)), hR.w7.o, hR.w8.o, hR.w9.o, hR.w11.o, hR.w12.o, hR.w13.o, hR.w15.o, hR.w16.o, hR.w17.o, hR.w18.o, hR.w19.o, hR.w20.o, hR.w21.o, hR.f0.k, hR.f1.k, hR.f2.k, hR.f3.k, hR.f4.k, (fun _ => rfl), (fun _ => rfl), hR.f7.k, hR.f8.k, hR.f9.k, hR.f10.k, hR.f11.k, hR.f12.k, hR.f13.k, hR.f14.k, hR.f15.k, hR.f16.k, hR.f17.k, hR.f18.k, hR.f19.k, hR.f20.k⟩⟩
        refine EachOf.cons [6] rfl (by kernel_rfl) ?_ ?_
        · rintro L A W ⟨v, rfl, hR⟩ hi hw K hK
          have hk : L 21 = false := hR.w21.not hi rfl
          have e6 := hR.f6 (hw 6 (by simp))
          simp only [e6]
          clear e6
          go_simp
          refine hK.out _ _ ?_
          exact ⟨(fun jz => if jz = 19 then .int .i64 (p1 : Int) else if jz = 20 then .pointer (some ⟨b3, p1, none⟩) else v jz), rfl, ⟨(fun h => hR.st (upd_false h)), hR.s1.k, hR.w2.o, hR.w3.o, hR.w4.o, hR.w6.o, (fun _ j hj => upd_on (hw j hj)), hR.w8.o, hR.w9.o, hR.w11.o, hR.w12.o, hR.w13.o, hR.w15.o, hR.w16.o, hR.w17.o, hR.w18.o, hR.w19.o, hR.w20.o, hR.w21.o, hR.f0.k, hR.f1.k, hR.f2.k, hR.f3.k, hR.f4.k, hR.f5.k, (fun _ => rfl), (fun _ => rfl), hR.f8.k, hR.f9.k, hR.f10.k, hR.f11.k, hR.f12.k, hR.f13.k, hR.f14.k, hR.f15.k, hR.f16.k, hR.f17.k, hR.f18.k, hR.f19.k, hR.f20.k⟩⟩
        refine EachOf.cons [7] rfl (by kernel_rfl) ?_ ?_
        · rintro L A W ⟨v, rfl, hR⟩ hi hw K hK
          have hk : L 21 = false := hR.w21.not hi rfl
          have e7 := hR.f7 (hw 7 (by simp))
          simp only [e7]
          clear e7
          have q0 := ((hR.st hk).cell (p := ⟨b3, p1, none⟩) MB1.out.2).trans MB1.out.1
          go_simp
          refine hK.out _ _ ?_
          exact ⟨(fun jz => if jz = 20 then .pointer (some ⟨b3, p1, none⟩) else if jz = 21 then .int .i64 y1 else v jz), rfl, ⟨(fun h => hR.st (upd_false h)), hR.s1.k, hR.w2.o, hR.w3.o, hR.w4.o, hR.w6.o, hR.w7.o, (fun _ j hj => upd_on (hw j hj)), hR.w9.o, hR.w11.o, hR.w12.o, hR.w13.o, hR.w15.o, hR.w16.o, hR.w17.o, hR.w18.o, hR.w19.o, hR.w20.o, hR.w21.o, hR.f0.k, hR.f1.k, hR.f2.k, hR.f3.k, hR.f4.k, hR.f5.k, hR.f6.k, (fun _ => rfl), (fun _ => rfl), hR.f9.k, hR.f10.k, hR.f11.k, hR.f12.k, hR.f13.k, hR.f14.k, hR.f15.k, hR.f16.k, hR.f17.k, hR.f18.k, hR.f19.k, hR.f20.k⟩⟩
        refine EachOf.cons [4, 8] rfl (by kernel_rfl) ?_ ?_
        · rintro L A W ⟨v, rfl, hR⟩ hi hw K hK
          have hk : L 21 = false := hR.w21.not hi rfl
          have e4 := hR.f4 (hw 4 (by simp))
          have e8 := hR.f8 (hw 8 (by simp))
          simp only [e4, e8]
          clear e4 e8
          go_simp
          refine hK.out _ _ ?_
          exact ⟨(fun jz => if jz = 17 then .int .i64 x0 else if jz = 21 then .int .i64 y1 else if jz = 22 then .int .i64 m1 else v jz), rfl, ⟨(fun h => hR.st (upd_false h)), hR.s1.k, hR.w2.o, hR.w3.o, hR.w4.o, hR.w6.o, hR.w7.o, hR.w8.o, (fun _ j hj => upd_on (hw j hj)), hR.w11.o, hR.w12.o, hR.w13.o, hR.w15.o, hR.w16.o, hR.w17.o, hR.w18.o, hR.w19.o, hR.w20.o, hR.w21.o, hR.f0.k, hR.f1.k, hR.f2.k, hR.f3.k, (fun _ => rfl), hR.f5.k, hR.f6.k, hR.f7.k, (fun _ => rfl), (fun _ => rfl), hR.f10.k, hR.f11.k, hR.f12.k, hR.f13.k, hR.f14.k, hR.f15.k, hR.f16.k, hR.f17.k, hR.f18.k, hR.f19.k, hR.f20.k⟩⟩
        refine EachOf.cons [] rfl (by kernel_rfl) ?_ ?_
        · rintro L A W ⟨v, rfl, hR⟩ hi hw K hK
          have hk : L 21 = false := hR.w21.not hi rfl
          go_simp
          refine hK.out _ _ ?_
          exact ⟨(fun jz => if jz = 23 then .pointer (some ⟨b7, 1, none⟩) else v jz), rfl, ⟨(fun h => hR.st (upd_false h)), hR.s1.k, hR.w2.o, hR.w3.o, hR.w4.o, hR.w6.o, hR.w7.o, hR.w8.o, hR.w9.o, hR.w11.o, hR.w12.o, hR.w13.o, hR.w15.o, hR.w16.o, hR.w17.o, hR.w18.o, hR.w19.o, hR.w20.o, hR.w21.o, hR.f0.k, hR.f1.k, hR.f2.k, hR.f3.k, hR.f4.k, hR.f5.k, hR.f6.k, hR.f7.k, hR.f8.k, hR.f9.k, (fun _ => rfl), hR.f11.k, hR.f12.k, hR.f13.k, hR.f14.k, hR.f15.k, hR.f16.k, hR.f17.k, hR.f18.k, hR.f19.k, hR.f20.k⟩⟩
        refine EachOf.cons [10] rfl (by kernel_rfl) ?_ ?_
        · rintro L A W ⟨v, rfl, hR⟩ hi hw K hK
          have hk : L 21 = false := hR.w21.not hi rfl
          have e10 := hR.f10 (hw 10 (by simp))
          simp only [e10]
          clear e10
          have q0 := ((hR.st hk).cell (p := ⟨b7, 1, none⟩) MP1.out.2).trans MP1.out.1
          go_simp
          refine hK.out _ _ ?_
          exact ⟨(fun jz => if jz = 23 then .pointer (some ⟨b7, 1, none⟩) else if jz = 24 then .int .i64 (p1 : Int) else v jz), rfl, ⟨(fun h => hR.st (upd_false h)), hR.s1.k, hR.w2.o, hR.w3.o, hR.w4.o, hR.w6.o, hR.w7.o, hR.w8.o, hR.w9.o, (fun _ j hj => upd_on (hw j hj)), hR.w12.o, hR.w13.o, hR.w15.o, hR.w16.o, hR.w17.o, hR.w18.o, hR.w19.o, hR.w20.o, hR.w21.o, hR.f0.k, hR.f1.k, hR.f2.k, hR.f3.k, hR.f4.k, hR.f5.k, hR.f6.k, hR.f7.k, hR.f8.k, hR.f9.k, (fun _ => rfl), (fun _ => rfl), hR.f12.k, hR.f13.k, hR.f14.k, hR.f15.k, hR.f16.k, hR.f17.k, hR.f18.k, hR.f19.k, hR.f20.k⟩⟩
        refine EachOf.cons [11] rfl (by kernel_rfl) ?_ ?_
        · rintro L A W ⟨v, rfl, hR⟩ hi hw K hK
          have hk : L 21 = false := hR.w21.not hi rfl
          have e11 := hR.f11 (hw 11 (by simp))
          simp only [e11]
          clear e11
          go_simp
          refine hK.out _ _ ?_
          exact ⟨(fun jz => if jz = 24 then .int .i64 (p1 : Int) else if jz = 25 then .pointer (some ⟨b2, p1, none⟩) else v jz), rfl, ⟨(fun h => hR.st (upd_false h)), hR.s1.k, hR.w2.o, hR.w3.o, hR.w4.o, hR.w6.o, hR.w7.o, hR.w8.o, hR.w9.o, hR.w11.o, (fun _ j hj => upd_on (hw j hj)), hR.w13.o, hR.w15.o, hR.w16.o, hR.w17.o, hR.w18.o, hR.w19.o, hR.w20.o, hR.w21.o, hR.f0.k, hR.f1.k, hR.f2.k, hR.f3.k, hR.f4.k, hR.f5.k, hR.f6.k, hR.f7.k, hR.f8.k, hR.f9.k, hR.f10.k, (fun _ => rfl), (fun _ => rfl), hR.f13.k, hR.f14.k, hR.f15.k, hR.f16.k, hR.f17.k, hR.f18.k, hR.f19.k, hR.f20.k⟩⟩
        refine EachOf.cons [12] rfl (by kernel_rfl) ?_ ?_
        · rintro L A W ⟨v, rfl, hR⟩ hi hw K hK
          have hk : L 21 = false := hR.w21.not hi rfl
          have e12 := hR.f12 (hw 12 (by simp))
          simp only [e12]
          clear e12
          have q0 := ((hR.st hk).cell (p := ⟨b2, p1, none⟩) MA1.out.2).trans MA1.out.1
          go_simp
          refine hK.out _ _ ?_
          exact ⟨(fun jz => if jz = 25 then .pointer (some ⟨b2, p1, none⟩) else if jz = 26 then .int .i64 x1 else v jz), rfl, ⟨(fun h => hR.st (upd_false h)), hR.s1.k, hR.w2.o, hR.w3.o, hR.w4.o, hR.w6.o, hR.w7.o, hR.w8.o, hR.w9.o, hR.w11.o, hR.w12.o, (fun _ j hj => upd_on (hw j hj)), hR.w15.o, hR.w16.o, hR.w17.o, hR.w18.o, hR.w19.o, hR.w20.o, hR.w21.o, hR.f0.k, hR.f1.k, hR.f2.k, hR.f3.k, hR.f4.k, hR.f5.k, hR.f6.k, hR.f7.k, hR.f8.k, hR.f9.k, hR.f10.k, hR.f11.k, (fun _ => rfl), (fun _ => rfl), hR.f14.k, hR.f15.k, hR.f16.k, hR.f17.k, hR.f18.k, hR.f19.k, hR.f20.k⟩⟩
        refine EachOf.cons [] rfl (by kernel_rfl) ?_ ?_
        · rintro L A W ⟨v, rfl, hR⟩ hi hw K hK
          have hk : L 21 = false := hR.w21.not hi rfl
          go_simp
          refine hK.out _ _ ?_
          exact ⟨(fun jz => if jz = 27 then .pointer (some ⟨b7, 0, none⟩) else v jz), rfl, ⟨(fun h => hR.st (upd_false h)), hR.s1.k, hR.w2.o, hR.w3.o, hR.w4.o, hR.w6.o, hR.w7.o, hR.w8.o, hR.w9.o, hR.w11.o, hR.w12.o, hR.w13.o, hR.w15.o, hR.w16.o, hR.w17.o, hR.w18.o, hR.w19.o, hR.w20.o, hR.w21.o, hR.f0.k, hR.f1.k, hR.f2.k, hR.f3.k, hR.f4.k, hR.f5.k, hR.f6.k, hR.f7.k, hR.f8.k, hR.f9.k, hR.f10.k, hR.f11.k, hR.f12.k, hR.f13.k, (fun _ => rfl), hR.f15.k, hR.f16.k, hR.f17.k, hR.f18.k, hR.f19.k, hR.f20.k⟩⟩
        refine EachOf.cons [14] rfl (by kernel_rfl) ?_ ?_
        · rintro L A W ⟨v, rfl, hR⟩ hi hw K hK
          have hk : L 21 = false := hR.w21.not hi rfl
          have e14 := hR.f14 (hw 14 (by simp))
          simp only [e14]
          clear e14
          have q0 := ((hR.st hk).cell (p := ⟨b7, 0, none⟩) MP0.out.2).trans MP0.out.1
          go_simp
          refine hK.out _ _ ?_
          exact ⟨(fun jz => if jz = 27 then .pointer (some ⟨b7, 0, none⟩) else if jz = 28 then .int .i64 (p0 : Int) else v jz), rfl, ⟨(fun h => hR.st (upd_false h)), hR.s1.k, hR.w2.o, hR.w3.o, hR.w4.o, hR.w6.o, hR.w7.o, hR.w8.o, hR.w9.o, hR.w11.o, hR.w12.o, hR.w13.o, (fun _ j hj => upd_on (hw j hj)), hR.w16.o, hR.w17.o, hR.w18.o, hR.w19.o, hR.w20.o, hR.w21.o, hR.f0.k, hR.f1.k, hR.f2.k, hR.f3.k, hR.f4.k, hR.f5.k, hR.f6.k, hR.f7.k, hR.f8.k, hR.f9.k, hR.f10.k, hR.f11.k, hR.f12.k, hR.f13.k, (fun _ => rfl), (fun _ => rfl), hR.f16.k, hR.f17.k, hR.f18.k, hR.f19.k, hR.f20.k⟩⟩
        refine EachOf.cons [15] rfl (by kernel_rfl) ?_ ?_
        · rintro L A W ⟨v, rfl, hR⟩ hi hw K hK
          have hk : L 21 = false := hR.w21.not hi rfl
          have e15 := hR.f15 (hw 15 (by simp))
          simp only [e15]
          clear e15
          go_simp
          refine hK.out _ _ ?_
          exact ⟨(fun jz => if jz = 28 then .int .i64 (p0 : Int) else if jz = 29 then .pointer (some ⟨b3, p0, none⟩) else v jz), rfl, ⟨(fun h => hR.st (upd_false h)), hR.s1.k, hR.w2.o, hR.w3.o, hR.w4.o, hR.w6.o, hR.w7.o, hR.w8.o, hR.w9.o, hR.w11.o, hR.w12.o, hR.w13.o, hR.w15.o, (fun _ j hj => upd_on (hw j hj)), hR.w17.o, hR.w18.o, hR.w19.o, hR.w20.o, hR.w21.o, hR.f0.k, hR.f1.k, hR.f2.k, hR.f3.k, hR.f4.k, hR.f5.k, hR.f6.k, hR.f7.k, hR.f8.k, hR.f9.k, hR.f10.k, hR.f11.k, hR.f12.k, hR.f13.k, hR.f14.k, (fun _ => rfl), (fun _ => rfl), hR.f17.k, hR.f18.k, hR.f19.k, hR.f20.k⟩⟩
        refine EachOf.cons [16] rfl (by kernel_rfl) ?_ ?_
        · rintro L A W ⟨v, rfl, hR⟩ hi hw K hK
          have hk : L 21 = false := hR.w21.not hi rfl
          have e16 := hR.f16 (hw 16 (by simp))
          simp only [e16]
          clear e16
          have q0 := ((hR.st hk).cell (p := ⟨b3, p0, none⟩) MB0.out.2).trans MB0.out.1
          go_simp
          refine hK.out _ _ ?_
          exact ⟨(fun jz => if jz = 29 then .pointer (some ⟨b3, p0, none⟩) else if jz = 30 then .int .i64 y0 else v jz), rfl, ⟨(fun h => hR.st (upd_false h)), hR.s1.k, hR.w2.o, hR.w3.o, hR.w4.o, hR.w6.o, hR.w7.o, hR.w8.o, hR.w9.o, hR.w11.o, hR.w12.o, hR.w13.o, hR.w15.o, hR.w16.o, (fun _ j hj => upd_on (hw j hj)), hR.w18.o, hR.w19.o, hR.w20.o, hR.w21.o, hR.f0.k, hR.f1.k, hR.f2.k, hR.f3.k, hR.f4.k, hR.f5.k, hR.f6.k, hR.f7.k, hR.f8.k, hR.f9.k, hR.f10.k, hR.f11.k, hR.f12.k, hR.f13.k, hR.f14.k, hR.f15.k, (fun _ => rfl), (fun _ => rfl), hR.f18.k, hR.f19.k, hR.f20.k⟩⟩
        refine EachOf.cons [13, 17] rfl (by kernel_rfl) ?_ ?_
        · rintro L A W ⟨v, rfl, hR⟩ hi hw K hK
          have hk : L 21 = false := hR.w21.not hi rfl
          have e13 := hR.f13 (hw 13 (by simp))
          have e17 := hR.f17 (hw 17 (by simp))
          simp only [e13, e17]
          clear e13 e17
          go_simp
          refine hK.out _ _ ?_
          exact ⟨(fun jz => if jz = 26 then .int .i64 x1 else if jz = 30 then .int .i64 y0 else if jz = 31 then .int .i64 m2 else v jz), rfl, ⟨(fun h => hR.st (upd_false h)), hR.s1.k, hR.w2.o, hR.w3.o, hR.w4.o, hR.w6.o, hR.w7.o, hR.w8.o, hR.w9.o, hR.w11.o, hR.w12.o, hR.w13.o, hR.w15.o, hR.w16.o, hR.w17.o, (fun _ j hj => upd_on (hw j hj)), hR.w19.o, hR.w20.o, hR.w21.o, hR.f0.k, hR.f1.k, hR.f2.k, hR.f3.k, hR.f4.k, hR.f5.k, hR.f6.k, hR.f7.k, hR.f8.k, hR.f9.k, hR.f10.k, hR.f11.k, hR.f12.k, (fun _ => rfl), hR.f14.k, hR.f15.k, hR.f16.k, (fun _ => rfl), (fun _ => rfl), hR.f19.k, hR.f20.k⟩⟩
        refine EachOf.cons [9, 18] rfl (by kernel_rfl) ?_ ?_
        · rintro L A W ⟨v, rfl, hR⟩ hi hw K hK
          have hk : L 21 = false := hR.w21.not hi rfl
          have e9 := hR.f9 (hw 9 (by simp))
          have e18 := hR.f18 (hw 18 (by simp))
          simp only [e9, e18]
          clear e9 e18
          go_simp
          refine hK.out _ _ ?_
          exact ⟨(fun jz => if jz = 22 then .int .i64 m1 else if jz = 31 then .int .i64 m2 else if jz = 32 then .int .i64 r else v jz), rfl, ⟨(fun h => hR.st (upd_false h)), hR.s1.k, hR.w2.o, hR.w3.o, hR.w4.o, hR.w6.o, hR.w7.o, hR.w8.o, hR.w9.o, hR.w11.o, hR.w12.o, hR.w13.o, hR.w15.o, hR.w16.o, hR.w17.o, hR.w18.o, (fun _ j hj => upd_on (hw j hj)), hR.w20.o, hR.w21.o, hR.f0.k, hR.f1.k, hR.f2.k, hR.f3.k, hR.f4.k, hR.f5.k, hR.f6.k, hR.f7.k, hR.f8.k, (fun _ => rfl), hR.f10.k, hR.f11.k, hR.f12.k, hR.f13.k, hR.f14.k, hR.f15.k, hR.f16.k, hR.f17.k, (fun _ => rfl), (fun _ => rfl), hR.f20.k⟩⟩
        refine EachOf.cons [0] rfl (by kernel_rfl) ?_ ?_
        · rintro L A W ⟨v, rfl, hR⟩ hi hw K hK
          have hk : L 21 = false := hR.w21.not hi rfl
          have e0 := hR.f0 (hw 0 (by simp))
          simp only [e0]
          clear e0
          go_simp
          refine hK.out _ _ ?_
          exact ⟨(fun jz => if jz = 13 then .int .i64 (i : Int) else if jz = 33 then .pointer (some ⟨b5, i, none⟩) else v jz), rfl, ⟨(fun h => hR.st (upd_false h)), hR.s1.k, hR.w2.o, hR.w3.o, hR.w4.o, hR.w6.o, hR.w7.o, hR.w8.o, hR.w9.o, hR.w11.o, hR.w12.o, hR.w13.o, hR.w15.o, hR.w16.o, hR.w17.o, hR.w18.o, hR.w19.o, (fun _ j hj => upd_on (hw j hj)), hR.w21.o, (fun _ => rfl), hR.f1.k, hR.f2.k, hR.f3.k, hR.f4.k, hR.f5.k, hR.f6.k, hR.f7.k, hR.f8.k, hR.f9.k, hR.f10.k, hR.f11.k, hR.f12.k, hR.f13.k, hR.f14.k, hR.f15.k, hR.f16.k, hR.f17.k, hR.f18.k, hR.f19.k, (fun _ => rfl)⟩⟩
        refine EachOf.cons [0, 1, 2, 3, 4, 5, 6, 7, 8, 9, 10, 11, 12, 13, 14, 15, 16, 17, 18, 19, 20] rfl (by kernel_rfl) ?_ ?_
        · rintro L A W ⟨v, rfl, hR⟩ hi hw K hK
          have e20 := hR.f20 (hw 20 (by simp))
          have e19 := hR.f19 (hw 19 (by simp))
          simp only [e20, e19]
          clear e20 e19
          have hC5 := HS2.out.C.on (hR.st hi)
          have z0 := hC5.c i hlt
          have y0 := hC5.f i
          have yl := hC5.lt
          clear hC5
          go_simp
          refine hK.out _ _ ?_
          exact ⟨(fun jz => if jz = 33 then .pointer (some ⟨b5, i, none⟩) else if jz = 32 then .int .i64 r else v jz), rfl, ⟨(fun h => by simp [upd_self] at h), (fun _ => ⟨W, hR.st hi, rfl⟩), hR.w2.o, hR.w3.o, hR.w4.o, hR.w6.o, hR.w7.o, hR.w8.o, hR.w9.o, hR.w11.o, hR.w12.o, hR.w13.o, hR.w15.o, hR.w16.o, hR.w17.o, hR.w18.o, hR.w19.o, hR.w20.o, (fun _ j hj => upd_on (hw j hj)), hR.f0.k, hR.f1.k, hR.f2.k, hR.f3.k, hR.f4.k, hR.f5.k, hR.f6.k, hR.f7.k, hR.f8.k, hR.f9.k, hR.f10.k, hR.f11.k, hR.f12.k, hR.f13.k, hR.f14.k, hR.f15.k, hR.f16.k, hR.f17.k, hR.f18.k, (fun _ => rfl), (fun _ => rfl)⟩⟩
        exact EachOf.nil
      rintro L A W6 ⟨vs, rfl, hR⟩ hL
      obtain ⟨W4, hb4, hW0⟩ := hR.s1 (hL 21 (by simp))
      have HS6 : Hid (CrS w W6 b2 b3 b4 b5 a b (fun k => if k < i + 1 then (a.crs b).at k else 0)) := by
        rw [hW0]
        refine (HS2.out.on hb4).set i hlt r (by show (if i < i + 1 then _ else _) = r; rw [if_pos (by omega)]; exact HR.out) (fun k hk hne => ?_)
        show (if k < i + 1 then _ else _) = if k < i then _ else _
        by_cases h : k < i
        · rw [if_pos (by omega), if_pos h]
        · rw [if_neg (by omega), if_neg h]
      clear hR hL hb4 hW0 HS2 MA0 MA1 MB0 MB1 MP0 MP1 wm1 wm2 wr o0 o1 lp0 lp1
      go_wp2_with fail
      go_roundg (3 - (i + 1))
      case measure => omega
      case rel => exact ⟨i + 1, rfl, rfl, by omega, HS6⟩
    · have e : i = 3 := by omega
      subst e
      have li : ¬ ((3 : Nat) : Int) < 3 := by omega
      have hC := HS.out.C.b3
      have c0 : W1.cell? ⟨b5, 0, none⟩ = some (.int .i64 (a.crs b).x) := hC.c0
      have c1 : W1.cell? ⟨b5, 1, none⟩ = some (.int .i64 (a.crs b).y) := hC.c1
      have c2 : W1.cell? ⟨b5, 2, none⟩ = some (.int .i64 (a.crs b).z) := hC.c2
      have hO := HS.out.O.b3
      have q0 := hO.c0
      have q1 := hO.c1
      have q2 := hO.c2
      have f0 := hO.f 0
      have f1 := hO.f 1
      have f2 := hO.f 2
      have l4 := HS.out.l4
      have ob := hO.lt
      have HB4 : Hid (∀ v0 v1 v2, Below w.heap.size w (((W1.setCell ⟨b4, 0, none⟩ v0).setCell ⟨b4, 1, none⟩ v1).setCell ⟨b4, 2, none⟩ v2)) := fun v0 v1 v2 => ((HS.out.st.setCell l4 _).setCell l4 _).setCell l4 _
      clear hC hO HS HA HB hi hlt
      go_wp2_with fail
      refine bodyPost_ret (by simp [results, Tryd.results82, go_sem, q0, q1, q2]; try rfl) rfl ?_
      exact ⟨rfl, HB4.out _ _ _⟩
end Go.Proofs.YtcghjjfpjiacfaaDoor
