/- Layer 9: the reference's Zero. -/
import Derived.Test.YtcghjjfpjiacfaaDoorVLs
import Derived.Test.YtcghjjfpjiacfaaDoorVRr
namespace Go.Proofs.YtcghjjfpjiacfaaDoor
open Go.ChangeShapes Go.WideShapes Go.ChangeAt Go.RowKit Go.Joins Go.Deep Go.Shelf
set_option linter.unusedVariables false

structure ZrS (w W : World) (b5 b6 b7 : Nat) (x d : Pt) (P N : Int) : Prop where
  st : Below w.heap.size w W
  A : F3 W b5 x.at
  B : F3 W b6 d.at
  l7 : w.heap.size ≤ b7
  lt : b7 < W.heap.size
  c0 : W.cell? ⟨b7, 0, none⟩ = some (.int .u64 (hiW P))
  c1 : W.cell? ⟨b7, 1, none⟩ = some (.int .u64 (loW P))
  c2 : W.cell? ⟨b7, 2, none⟩ = some (.int .u64 (hiW N))
  c3 : W.cell? ⟨b7, 3, none⟩ = some (.int .u64 (loW N))
  fr : ∀ k, W.frozen? ⟨b7, k, none⟩ = false
  n5 : b7 ≠ b5
  n6 : b7 ≠ b6
theorem ZrS.on {w W W2 : World} {b5 b6 b7 : Nat} {x d : Pt} {P N : Int} (h : ZrS w W b5 b6 b7 x d P N) (hb : Below W.heap.size W W2) : ZrS w W2 b5 b6 b7 x d P N :=
  ⟨below_on h.st hb, h.A.on hb, h.B.on hb, h.l7, Nat.lt_of_lt_of_le h.lt hb.size, (hb.cell (p := ⟨b7, 0, none⟩) h.lt).trans h.c0, (hb.cell (p := ⟨b7, 1, none⟩) h.lt).trans h.c1, (hb.cell (p := ⟨b7, 2, none⟩) h.lt).trans h.c2, (hb.cell (p := ⟨b7, 3, none⟩) h.lt).trans h.c3, fun k => (hb.frozen (p := ⟨b7, k, none⟩) h.lt).trans (h.fr k), h.n5, h.n6⟩
theorem ZrS.set0 {w W : World} {b5 b6 b7 : Nat} {x d : Pt} {P N : Int} (h : ZrS w W b5 b6 b7 x d P N) (Q : Int) : ZrS w ((W.setCell ⟨b7, 0, none⟩ (.int .u64 (hiW Q))).setCell ⟨b7, 1, none⟩ (.int .u64 (loW Q))) b5 b6 b7 x d Q N where
  st := (h.st.setCell h.l7 _).setCell h.l7 _
  A := (h.A.far h.n5 _ _).far h.n5 _ _
  B := (h.B.far h.n6 _ _).far h.n6 _ _
  l7 := h.l7
  lt := by simpa using h.lt
  c0 := by rw [World.cell?_setCell_other _ _ _ _ (adr_ne (by decide))]; exact World.cell?_setCell_same' _ _ _ (by rw [h.c0]; rfl)
  c1 := World.cell?_setCell_same' _ _ _ (by rw [World.cell?_setCell_other _ _ _ _ (adr_ne (by decide)), h.c1]; rfl)
  c2 := by rw [World.cell?_setCell_other _ _ _ _ (adr_ne (by decide)), World.cell?_setCell_other _ _ _ _ (adr_ne (by decide))]; exact h.c2
  c3 := by rw [World.cell?_setCell_other _ _ _ _ (adr_ne (by decide)), World.cell?_setCell_other _ _ _ _ (adr_ne (by decide))]; exact h.c3
  fr := fun k => by simpa using h.fr k
  n5 := h.n5
  n6 := h.n6
theorem ZrS.set2 {w W : World} {b5 b6 b7 : Nat} {x d : Pt} {P N : Int} (h : ZrS w W b5 b6 b7 x d P N) (Q : Int) : ZrS w ((W.setCell ⟨b7, 2, none⟩ (.int .u64 (hiW Q))).setCell ⟨b7, 3, none⟩ (.int .u64 (loW Q))) b5 b6 b7 x d P Q where
  st := (h.st.setCell h.l7 _).setCell h.l7 _
  A := (h.A.far h.n5 _ _).far h.n5 _ _
  B := (h.B.far h.n6 _ _).far h.n6 _ _
  l7 := h.l7
  lt := by simpa using h.lt
  c0 := by rw [World.cell?_setCell_other _ _ _ _ (adr_ne (by decide)), World.cell?_setCell_other _ _ _ _ (adr_ne (by decide))]; exact h.c0
  c1 := by rw [World.cell?_setCell_other _ _ _ _ (adr_ne (by decide)), World.cell?_setCell_other _ _ _ _ (adr_ne (by decide))]; exact h.c1
  c2 := by rw [World.cell?_setCell_other _ _ _ _ (adr_ne (by decide))]; exact World.cell?_setCell_same' _ _ _ (by rw [h.c2]; rfl)
  c3 := World.cell?_setCell_same' _ _ _ (by rw [World.cell?_setCell_other _ _ _ _ (adr_ne (by decide)), h.c3]; rfl)
  fr := fun k => by simpa using h.fr k
  n5 := h.n5
  n6 := h.n6
theorem hl_eq {P N : Int} (p0 : 0 ≤ P) (p1 : P < 340282366920938463463374607431768211456) (n0 : 0 ≤ N) (n1 : N < 340282366920938463463374607431768211456) (a : hiW P = hiW N) (b : loW P = loW N) : P = N := by
  unfold hiW at a
  unfold loW at b
  omega
theorem cb_f3 {W : World} {b : Nat} {p : Pt} (h : CB W b [.int .i64 p.x, .int .i64 p.y, .int .i64 p.z]) : F3 W b p.at :=
  ⟨h.lt, fun k hk => by
    have : k = 0 ∨ k = 1 ∨ k = 2 := by omega
    rcases this with rfl | rfl | rfl
    · exact h.cell 0 _ rfl
    · exact h.cell 1 _ rfl
    · exact h.cell 2 _ rfl, h.fz⟩
theorem sg_next (x d : Pt) (s : Bool) (i : Nat) : sgS x d s (i + 1) = sgS x d s i + (if (decide (x.at i < 0) == decide (d.at i < 0)) = s then ((x.at i).natAbs : Int) * ((d.at i).natAbs : Int) else 0) := rfl
structure Vz1R (b2 b3 : Nat) (x d : Pt) (Wc : World) (L : Nat → Bool) (v : Nat → Value) (g : Nat → Nat) (W : World) : Prop where
  st : Below Wc.heap.size Wc W
  b6 : Had L 6 (Wc.heap.size ≤ g 6 ∧ g 6 < W.heap.size)
  z6 : Had L 6 (CB W (g 6) [.int .i64 x.x, .int .i64 x.y, .int .i64 x.z])
  b13 : Had L 13 (Wc.heap.size ≤ g 13 ∧ g 13 < W.heap.size)
  z13 : Had L 13 (CB W (g 13) [.int .i64 d.x, .int .i64 d.y, .int .i64 d.z])
  b15 : Had L 15 (Wc.heap.size ≤ g 15 ∧ g 15 < W.heap.size)
  z15 : Had L 15 (L 18 = false → CB W (g 15) [.int .u64 0, .int .u64 0, .int .u64 0, .int .u64 0])
  y18 : Had L 18 (CB W (g 15) [.int .u64 0, .int .u64 0, .int .u64 0, .int .u64 0])
  n6x13 : Had2 L 6 13 (g 6 ≠ g 13)
  n6x15 : Had2 L 6 15 (g 6 ≠ g 15)
  n13x15 : Had2 L 13 15 (g 13 ≠ g 15)
  w1 : Had L 1 (∀ j ∈ [0], L j = true)
  w3 : Had L 3 (∀ j ∈ [2], L j = true)
  w5 : Had L 5 (∀ j ∈ [4], L j = true)
  w6 : Had L 6 (∀ j ∈ [1, 3, 5], L j = true)
  w8 : Had L 8 (∀ j ∈ [7], L j = true)
  w10 : Had L 10 (∀ j ∈ [9], L j = true)
  w12 : Had L 12 (∀ j ∈ [11], L j = true)
  w13 : Had L 13 (∀ j ∈ [8, 10, 12], L j = true)
  w16 : Had L 16 (∀ j ∈ [6], L j = true)
  w17 : Had L 17 (∀ j ∈ [13], L j = true)
  w18 : Had L 18 (∀ j ∈ [0, 1, 2, 3, 4, 5, 6, 7, 8, 9, 10, 11, 12, 13, 14, 15, 16, 17], L j = true)
  f0 : Had L 0 (v 10 = .pointer (some ⟨b2, 0, none⟩))
  f1 : Had L 1 (v 11 = .int .i64 x.x)
  f2 : Had L 2 (v 12 = .pointer (some ⟨b2, 1, none⟩))
  f3 : Had L 3 (v 13 = .int .i64 x.y)
  f4 : Had L 4 (v 14 = .pointer (some ⟨b2, 2, none⟩))
  f5 : Had L 5 (v 15 = .int .i64 x.z)
  f6 : Had L 6 (v 16 = .slice (some ⟨g 6, 0, none⟩) (3) (3))
  f7 : Had L 7 (v 17 = .pointer (some ⟨b3, 0, none⟩))
  f8 : Had L 8 (v 18 = .int .i64 d.x)
  f9 : Had L 9 (v 19 = .pointer (some ⟨b3, 1, none⟩))
  f10 : Had L 10 (v 20 = .int .i64 d.y)
  f11 : Had L 11 (v 21 = .pointer (some ⟨b3, 2, none⟩))
  f12 : Had L 12 (v 22 = .int .i64 d.z)
  f13 : Had L 13 (v 23 = .slice (some ⟨g 13, 0, none⟩) (3) (3))
  f14 : Had L 14 (v 24 = .agg #[.int .u64 0, .int .u64 0, .int .u64 0, .int .u64 0])
  f15 : Had L 15 (v 7 = .pointer (some ⟨g 15, 0, none⟩))
  f16 : Had L 16 (v 5 = .slice (some ⟨g 6, 0, none⟩) (3) (3))
  f17 : Had L 17 (v 6 = .slice (some ⟨g 13, 0, none⟩) (3) (3))
structure Vz5R (b5 b6 b7 i : Nat) (xi di px pd pr : Int) (Wc : World) (L : Nat → Bool) (v : Nat → Value) (g : Nat → Nat) (W : World) : Prop where
  st : Below Wc.heap.size Wc W
  b11 : Had L 11 (Wc.heap.size ≤ g 11 ∧ g 11 < W.heap.size)
  z11 : Had L 11 (L 12 = false → CB W (g 11) [.int .u64 0, .int .u64 0])
  y12 : Had L 12 (CB W (g 11) [.int .u64 (hiW pr), .int .u64 (loW pr)])
  w2 : Had L 2 (∀ j ∈ [0, 1], L j = true)
  w3 : Had L 3 (∀ j ∈ [2], L j = true)
  w4 : Had L 4 (∀ j ∈ [3], L j = true)
  w7 : Had L 7 (∀ j ∈ [5, 6], L j = true)
  w8 : Had L 8 (∀ j ∈ [7], L j = true)
  w9 : Had L 9 (∀ j ∈ [8], L j = true)
  w10 : Had L 10 (∀ j ∈ [4, 9], L j = true)
  w12 : Had L 12 (∀ j ∈ [0, 1, 2, 3, 4, 5, 6, 7, 8, 9, 10, 11], L j = true)
  f0 : Had L 0 (v 29 = .slice (some ⟨b5, 0, none⟩) (3) (3))
  f1 : Had L 1 (v 30 = .int .i64 (i : Int))
  f2 : Had L 2 (v 31 = .pointer (some ⟨b5, i, none⟩))
  f3 : Had L 3 (v 32 = .int .i64 xi)
  f4 : Had L 4 (v 33 = .int .u64 px)
  f5 : Had L 5 (v 34 = .slice (some ⟨b6, 0, none⟩) (3) (3))
  f6 : Had L 6 (v 35 = .int .i64 (i : Int))
  f7 : Had L 7 (v 36 = .pointer (some ⟨b6, i, none⟩))
  f8 : Had L 8 (v 37 = .int .i64 di)
  f9 : Had L 9 (v 38 = .int .u64 pd)
  f10 : Had L 10 (v 39 = .agg #[.int .u64 (hiW pr), .int .u64 (loW pr)])
  f11 : Had L 11 (v 9 = .pointer (some ⟨g 11, 0, none⟩))
structure Vz6R (b5 b6 b7 b9 i : Nat) (xi di : Int) (t1 t2 : Bool) (Wc : World) (L : Nat → Bool) (v : Nat → Value) (W : World) : Prop where
  st : Below Wc.heap.size Wc W
  w2 : Had L 2 (∀ j ∈ [0, 1], L j = true)
  w3 : Had L 3 (∀ j ∈ [2], L j = true)
  w4 : Had L 4 (∀ j ∈ [3], L j = true)
  w7 : Had L 7 (∀ j ∈ [5, 6], L j = true)
  w8 : Had L 8 (∀ j ∈ [7], L j = true)
  w9 : Had L 9 (∀ j ∈ [8], L j = true)
  w10 : Had L 10 (∀ j ∈ [4, 9], L j = true)
  f0 : Had L 0 (v 40 = .slice (some ⟨b5, 0, none⟩) (3) (3))
  f1 : Had L 1 (v 41 = .int .i64 (i : Int))
  f2 : Had L 2 (v 42 = .pointer (some ⟨b5, i, none⟩))
  f3 : Had L 3 (v 43 = .int .i64 xi)
  f4 : Had L 4 (v 44 = .bool t1)
  f5 : Had L 5 (v 45 = .slice (some ⟨b6, 0, none⟩) (3) (3))
  f6 : Had L 6 (v 46 = .int .i64 (i : Int))
  f7 : Had L 7 (v 47 = .pointer (some ⟨b6, i, none⟩))
  f8 : Had L 8 (v 48 = .int .i64 di)
  f9 : Had L 9 (v 49 = .bool t2)
  f10 : Had L 10 (v 50 = .bool (t1 == t2))
set_option maxRecDepth 100000 in
set_option maxHeartbeats 64000000 in
theorem rZero_any (x d : Pt) (w : World) (hx : lim3 x 8796093022208) (hd : lim3 d 2097152) : Calls Tryd.prog 52 #[.agg #[.int .i64 x.x, .int .i64 x.y, .int .i64 x.z], .agg #[.int .i64 d.x, .int .i64 d.y, .int .i64 d.z]] w fun e w' => e = .returned (.bool (decide (x.dot d = 0))) ∧ Below w.heap.size w w' := by
  obtain ⟨w1, hw1⟩ : ∃ W, W = (w.alloc (Obj.cells #[.int .i64 x.x, .int .i64 x.y, .int .i64 x.z] 23)).alloc (Obj.cells #[.int .i64 d.x, .int .i64 d.y, .int .i64 d.z] 23) := ⟨_, rfl⟩
  obtain ⟨hb1, hX, hD⟩ := two_boxes w x d _ _ w1 hw1
  obtain ⟨b2, hb2⟩ : ∃ x, x = w.heap.size := ⟨_, rfl⟩
  obtain ⟨b3, hb3⟩ : ∃ x, x = w.heap.size + 1 := ⟨_, rfl⟩
  have HN : Hid (b2 = w.heap.size ∧ b3 = w.heap.size + 1 ∧ w1 = (w.alloc (Obj.cells #[.int .i64 x.x, .int .i64 x.y, .int .i64 x.z] 23)).alloc (Obj.cells #[.int .i64 d.x, .int .i64 d.y, .int .i64 d.z] 23)) := ⟨hb2, hb3, hw1⟩
  rw [← hb2] at hX
  rw [← hb3] at hD
  have HB := Lib.hid hb1
  have LX0 := Lib.hid (And.intro hX.c0 hX.lt)
  have LX1 := Lib.hid (And.intro hX.c1 hX.lt)
  have LX2 := Lib.hid (And.intro hX.c2 hX.lt)
  have LD0 := Lib.hid (And.intro hD.c0 hD.lt)
  have LD1 := Lib.hid (And.intro hD.c1 hD.lt)
  have LD2 := Lib.hid (And.intro hD.c2 hD.lt)
  have HL := Lib.hid (And.intro hx hd)
  clear hX hD hb1 hb2 hb3 hw1 hx hd
  go_enter Tryd.func52, Tryd.ntmps52
  go_upto_region 1 with fail
  rw [← HN.out.2.2, ← HN.out.2.1, ← HN.out.1]
  clear HN
  refine wp_region_each (fun L A W => ∃ (v : Nat → Value) (g : Nat → Nat), A = ⟨#[_, _, _, _, _, v 5, v 6, v 7, _, _, v 10, v 11, v 12, v 13, v 14, v 15, v 16, v 17, v 18, v 19, v 20, v 21, v 22, v 23, v 24, _, _, _, _, _, _, _, _, _, _, _, _, _, _, _, _, _, _, _, _, _, _, _, _, _, _, _, _, _, _, _, _, _, _, _, _, _, _, _, _, _], []⟩ ∧ Vz1R b2 b3 x d w1 L v g W) (by kernel_rfl) (by kernel_rfl) ⟨fun jz => if jz = 10 then undef else if jz = 11 then undef else if jz = 12 then undef else if jz = 13 then undef else if jz = 14 then undef else if jz = 15 then undef else if jz = 16 then undef else if jz = 17 then undef else if jz = 18 then undef else if jz = 19 then undef else if jz = 20 then undef else if jz = 21 then undef else if jz = 22 then undef else if jz = 23 then undef else if jz = 24 then undef else if jz = 7 then undef else if jz = 5 then undef else if jz = 6 then undef else undef, fun _ => 0, rfl, ⟨(Below.drew (Below.refl _ _)), Had.none, Had.none, Had.none, Had.none, Had.none, Had.none, Had.none, (fun h => by cases h), (fun h => by cases h), (fun h => by cases h), Had.none, Had.none, Had.none, Had.none, Had.none, Had.none, Had.none, Had.none, Had.none, Had.none, Had.none, Had.none, Had.none, Had.none, Had.none, Had.none, Had.none, Had.none, Had.none, Had.none, Had.none, Had.none, Had.none, Had.none, Had.none, Had.none, Had.none, Had.none, Had.none⟩⟩ (rs := [0, 1, 2, 3, 4, 5, 6, 7, 8, 9, 10, 11, 12, 13, 14, 15, 16, 17, 18]) (by kernel_rfl) ?_ ?_
  · refine EachOf.cons [] rfl (by kernel_rfl) ?_ ?_
    · rintro L A W ⟨v, g, rfl, hR⟩ hi hw KK hK
      go_simp
      refine hK.out _ _ ?_
      exact ⟨(fun jz => if jz = 10 then .pointer (some ⟨b2, 0, none⟩) else v jz), g, rfl, ⟨hR.st, hR.b6.k, (fun h => hR.z6 (upd_back h rfl)), hR.b13.k, (fun h => hR.z13 (upd_back h rfl)), hR.b15.k, (fun h h2 => hR.z15 (upd_back h rfl) (upd_false h2)), (fun h => hR.y18 (upd_back h rfl)), (hR.n6x13.keep rfl rfl), (hR.n6x15.keep rfl rfl), (hR.n13x15.keep rfl rfl), hR.w1.o, hR.w3.o, hR.w5.o, hR.w6.o, hR.w8.o, hR.w10.o, hR.w12.o, hR.w13.o, hR.w16.o, hR.w17.o, hR.w18.o, (fun _ => rfl), hR.f1.k, hR.f2.k, hR.f3.k, hR.f4.k, hR.f5.k, hR.f6.k, hR.f7.k, hR.f8.k, hR.f9.k, hR.f10.k, hR.f11.k, hR.f12.k, hR.f13.k, hR.f14.k, hR.f15.k, hR.f16.k, hR.f17.k⟩⟩
    refine EachOf.cons [0] rfl (by kernel_rfl) ?_ ?_
    · rintro L A W ⟨v, g, rfl, hR⟩ hi hw KK hK
      have e0 := hR.f0 (hw 0 (by simp))
      simp only [e0]
      clear e0
      have q0 := (hR.st.cell (p := ⟨b2, 0, none⟩) LX0.out.2).trans LX0.out.1
      go_simp
      refine hK.out _ _ ?_
      exact ⟨(fun jz => if jz = 10 then .pointer (some ⟨b2, 0, none⟩) else if jz = 11 then .int .i64 x.x else v jz), g, rfl, ⟨hR.st, hR.b6.k, (fun h => hR.z6 (upd_back h rfl)), hR.b13.k, (fun h => hR.z13 (upd_back h rfl)), hR.b15.k, (fun h h2 => hR.z15 (upd_back h rfl) (upd_false h2)), (fun h => hR.y18 (upd_back h rfl)), (hR.n6x13.keep rfl rfl), (hR.n6x15.keep rfl rfl), (hR.n13x15.keep rfl rfl), (fun _ j hj => upd_on (hw j hj)), hR.w3.o, hR.w5.o, hR.w6.o, hR.w8.o, hR.w10.o, hR.w12.o, hR.w13.o, hR.w16.o, hR.w17.o, hR.w18.o, (fun _ => rfl), (fun _ => rfl), hR.f2.k, hR.f3.k, hR.f4.k, hR.f5.k, hR.f6.k, hR.f7.k, hR.f8.k, hR.f9.k, hR.f10.k, hR.f11.k, hR.f12.k, hR.f13.k, hR.f14.k, hR.f15.k, hR.f16.k, hR.f17.k⟩⟩
    refine EachOf.cons [] rfl (by kernel_rfl) ?_ ?_
    · rintro L A W ⟨v, g, rfl, hR⟩ hi hw KK hK
      go_simp
      refine hK.out _ _ ?_
      exact ⟨(fun jz => if jz = 12 then .pointer (some ⟨b2, 1, none⟩) else v jz), g, rfl, ⟨hR.st, hR.b6.k, (fun h => hR.z6 (upd_back h rfl)), hR.b13.k, (fun h => hR.z13 (upd_back h rfl)), hR.b15.k, (fun h h2 => hR.z15 (upd_back h rfl) (upd_false h2)), (fun h => hR.y18 (upd_back h rfl)), (hR.n6x13.keep rfl rfl), (hR.n6x15.keep rfl rfl), (hR.n13x15.keep rfl rfl), hR.w1.o, hR.w3.o, hR.w5.o, hR.w6.o, hR.w8.o, hR.w10.o, hR.w12.o, hR.w13.o, hR.w16.o, hR.w17.o, hR.w18.o, hR.f0.k, hR.f1.k, (fun _ => rfl), hR.f3.k, hR.f4.k, hR.f5.k, hR.f6.k, hR.f7.k, hR.f8.k, hR.f9.k, hR.f10.k, hR.f11.k, hR.f12.k, hR.f13.k, hR.f14.k, hR.f15.k, hR.f16.k, hR.f17.k⟩⟩
    refine EachOf.cons [2] rfl (by kernel_rfl) ?_ ?_
    · rintro L A W ⟨v, g, rfl, hR⟩ hi hw KK hK
      have e2 := hR.f2 (hw 2 (by simp))
      simp only [e2]
      clear e2
      have q0 := (hR.st.cell (p := ⟨b2, 1, none⟩) LX1.out.2).trans LX1.out.1
      go_simp
      refine hK.out _ _ ?_
      exact ⟨(fun jz => if jz = 12 then .pointer (some ⟨b2, 1, none⟩) else if jz = 13 then .int .i64 x.y else v jz), g, rfl, ⟨hR.st, hR.b6.k, (fun h => hR.z6 (upd_back h rfl)), hR.b13.k, (fun h => hR.z13 (upd_back h rfl)), hR.b15.k, (fun h h2 => hR.z15 (upd_back h rfl) (upd_false h2)), (fun h => hR.y18 (upd_back h rfl)), (hR.n6x13.keep rfl rfl), (hR.n6x15.keep rfl rfl), (hR.n13x15.keep rfl rfl), hR.w1.o, (fun _ j hj => upd_on (hw j hj)), hR.w5.o, hR.w6.o, hR.w8.o, hR.w10.o, hR.w12.o, hR.w13.o, hR.w16.o, hR.w17.o, hR.w18.o, hR.f0.k, hR.f1.k, (fun _ => rfl), (fun _ => rfl), hR.f4.k, hR.f5.k, hR.f6.k, hR.f7.k, hR.f8.k, hR.f9.k, hR.f10.k, hR.f11.k, hR.f12.k, hR.f13.k, hR.f14.k, hR.f15.k, hR.f16.k, hR.f17.k⟩⟩
    refine EachOf.cons [] rfl (by kernel_rfl) ?_ ?_
    · rintro L A W ⟨v, g, rfl, hR⟩ hi hw KK hK
      go_simp
      refine hK.out _ _ ?_
      exact ⟨(fun jz => if jz = 14 then .pointer (some ⟨b2, 2, none⟩) else v jz), g, rfl, ⟨hR.st, hR.b6.k, (fun h => hR.z6 (upd_back h rfl)), hR.b13.k, (fun h => hR.z13 (upd_back h rfl)), hR.b15.k, (fun h h2 => hR.z15 (upd_back h rfl) (upd_false h2)), (fun h => hR.y18 (upd_back h rfl)), (hR.n6x13.keep rfl rfl), (hR.n6x15.keep rfl rfl), (hR.n13x15.keep rfl rfl), hR.w1.o, hR.w3.o, hR.w5.o, hR.w6.o, hR.w8.o, hR.w10.o, hR.w12.o, hR.w13.o, hR.w16.o, hR.w17.o, hR.w18.o, hR.f0.k, hR.f1.k, hR.f2.k, hR.f3.k, (fun _ => rfl), hR.f5.k, hR.f6.k, hR.f7.k, hR.f8.k, hR.f9.k, hR.f10.k, hR.f11.k, hR.f12.k, hR.f13.k, hR.f14.k, hR.f15.k, hR.f16.k, hR.f17.k⟩⟩
    refine EachOf.cons [4] rfl (by kernel_rfl) ?_ ?_
    · rintro L A W ⟨v, g, rfl, hR⟩ hi hw KK hK
      have e4 := hR.f4 (hw 4 (by simp))
      simp only [e4]
      clear e4
      have q0 := (hR.st.cell (p := ⟨b2, 2, none⟩) LX2.out.2).trans LX2.out.1
      go_simp
      refine hK.out _ _ ?_
      exact ⟨(fun jz => if jz = 14 then .pointer (some ⟨b2, 2, none⟩) else if jz = 15 then .int .i64 x.z else v jz), g, rfl, ⟨hR.st, hR.b6.k, (fun h => hR.z6 (upd_back h rfl)), hR.b13.k, (fun h => hR.z13 (upd_back h rfl)), hR.b15.k, (fun h h2 => hR.z15 (upd_back h rfl) (upd_false h2)), (fun h => hR.y18 (upd_back h rfl)), (hR.n6x13.keep rfl rfl), (hR.n6x15.keep rfl rfl), (hR.n13x15.keep rfl rfl), hR.w1.o, hR.w3.o, (fun _ j hj => upd_on (hw j hj)), hR.w6.o, hR.w8.o, hR.w10.o, hR.w12.o, hR.w13.o, hR.w16.o, hR.w17.o, hR.w18.o, hR.f0.k, hR.f1.k, hR.f2.k, hR.f3.k, (fun _ => rfl), (fun _ => rfl), hR.f6.k, hR.f7.k, hR.f8.k, hR.f9.k, hR.f10.k, hR.f11.k, hR.f12.k, hR.f13.k, hR.f14.k, hR.f15.k, hR.f16.k, hR.f17.k⟩⟩
    refine EachOf.cons [1, 3, 5] rfl (by kernel_rfl) ?_ ?_
    · rintro L A W ⟨v, g, rfl, hR⟩ hi hw KK hK
      have e1 := hR.f1 (hw 1 (by simp))
      have e3 := hR.f3 (hw 3 (by simp))
      have e5 := hR.f5 (hw 5 (by simp))
      simp only [e1, e3, e5]
      clear e1 e3 e5
      have hz : w1.heap.size ≤ W.heap.size := hR.st.size
      go_simp
      refine hK.out _ _ ?_
      have hb : Below W.heap.size W (W.alloc (Obj.cells #[Value.int .i64 x.x, Value.int .i64 x.y, Value.int .i64 x.z] 3)) := (Below.refl _ _).alloc (Nat.le_refl _) _
      have hnew : CB (W.alloc (Obj.cells #[Value.int .i64 x.x, Value.int .i64 x.y, Value.int .i64 x.z] 3)) W.heap.size [.int .i64 x.x, .int .i64 x.y, .int .i64 x.z] := cb_new _ _ _
      exact ⟨(fun jz => if jz = 11 then .int .i64 x.x else if jz = 13 then .int .i64 x.y else if jz = 15 then .int .i64 x.z else if jz = 16 then .slice (some ⟨W.heap.size, 0, none⟩) 3 3 else v jz), (fun jz => if jz = 6 then W.heap.size else g jz), rfl, ⟨below_on hR.st hb, (fun _ => ⟨hz, by simp⟩), (fun _ => hnew), (fun h => ⟨(hR.b13 (upd_back h rfl)).1, Nat.lt_of_lt_of_le (hR.b13 (upd_back h rfl)).2 hb.size⟩), (fun h => (hR.z13 (upd_back h rfl)).on hb), (fun h => ⟨(hR.b15 (upd_back h rfl)).1, Nat.lt_of_lt_of_le (hR.b15 (upd_back h rfl)).2 hb.size⟩), (fun h h2 => (hR.z15 (upd_back h rfl) (upd_false h2)).on hb), (fun h => (hR.y18 (upd_back h rfl)).on hb), (fun _ h => (Nat.ne_of_lt (hR.b13 (upd_back h rfl)).2).symm), (fun _ h => (Nat.ne_of_lt (hR.b15 (upd_back h rfl)).2).symm), (hR.n13x15.keep rfl rfl), hR.w1.o, hR.w3.o, hR.w5.o, (fun _ j hj => upd_on (hw j hj)), hR.w8.o, hR.w10.o, hR.w12.o, hR.w13.o, hR.w16.o, hR.w17.o, hR.w18.o, hR.f0.k, (fun _ => rfl), hR.f2.k, (fun _ => rfl), hR.f4.k, (fun _ => rfl), (fun _ => rfl), hR.f7.k, hR.f8.k, hR.f9.k, hR.f10.k, hR.f11.k, hR.f12.k, hR.f13.k, hR.f14.k, hR.f15.k, (fun h => absurd (hR.w16 (upd_back h rfl) 6 (by simp)) (by simp [hi])), hR.f17.k⟩⟩
    refine EachOf.cons [] rfl (by kernel_rfl) ?_ ?_
    · rintro L A W ⟨v, g, rfl, hR⟩ hi hw KK hK
      go_simp
      refine hK.out _ _ ?_
      exact ⟨(fun jz => if jz = 17 then .pointer (some ⟨b3, 0, none⟩) else v jz), g, rfl, ⟨hR.st, hR.b6.k, (fun h => hR.z6 (upd_back h rfl)), hR.b13.k, (fun h => hR.z13 (upd_back h rfl)), hR.b15.k, (fun h h2 => hR.z15 (upd_back h rfl) (upd_false h2)), (fun h => hR.y18 (upd_back h rfl)), (hR.n6x13.keep rfl rfl), (hR.n6x15.keep rfl rfl), (hR.n13x15.keep rfl rfl), hR.w1.o, hR.w3.o, hR.w5.o, hR.w6.o, hR.w8.o, hR.w10.o, hR.w12.o, hR.w13.o, hR.w16.o, hR.w17.o, hR.w18.o, hR.f0.k, hR.f1.k, hR.f2.k, hR.f3.k, hR.f4.k, hR.f5.k, hR.f6.k, (fun _ => rfl), hR.f8.k, hR.f9.k, hR.f10.k, hR.f11.k, hR.f12.k, hR.f13.k, hR.f14.k, hR.f15.k, hR.f16.k, hR.f17.k⟩⟩
    refine EachOf.cons [7] rfl (by kernel_rfl) ?_ ?_
    · rintro L A W ⟨v, g, rfl, hR⟩ hi hw KK hK
      have e7 := hR.f7 (hw 7 (by simp))
      simp only [e7]
      clear e7
      have q0 := (hR.st.cell (p := ⟨b3, 0, none⟩) LD0.out.2).trans LD0.out.1
      go_simp
      refine hK.out _ _ ?_
      exact ⟨(fun jz => if jz = 17 then .pointer (some ⟨b3, 0, none⟩) else if jz = 18 then .int .i64 d.x else v jz), g, rfl, ⟨hR.st, hR.b6.k, (fun h => hR.z6 (upd_back h rfl)), hR.b13.k, (fun h => hR.z13 (upd_back h rfl)), hR.b15.k, (fun h h2 => hR.z15 (upd_back h rfl) (upd_false h2)), (fun h => hR.y18 (upd_back h rfl)), (hR.n6x13.keep rfl rfl), (hR.n6x15.keep rfl rfl), (hR.n13x15.keep rfl rfl), hR.w1.o, hR.w3.o, hR.w5.o, hR.w6.o, (fun _ j hj => upd_on (hw j hj)), hR.w10.o, hR.w12.o, hR.w13.o, hR.w16.o, hR.w17.o, hR.w18.o, hR.f0.k, hR.f1.k, hR.f2.k, hR.f3.k, hR.f4.k, hR.f5.k, hR.f6.k, (fun _ => rfl), (fun _ => rfl), hR.f9.k, hR.f10.k, hR.f11.k, hR.f12.k, hR.f13.k, hR.f14.k, hR.f15.k, hR.f16.k, hR.f17.k⟩⟩
    refine EachOf.cons [] rfl (by kernel_rfl) ?_ ?_
    · rintro L A W ⟨v, g, rfl, hR⟩ hi hw KK hK
      go_simp
      refine hK.out _ _ ?_
      exact ⟨(fun jz => if jz = 19 then .pointer (some ⟨b3, 1, none⟩) else v jz), g, rfl, ⟨hR.st, hR.b6.k, (fun h => hR.z6 (upd_back h rfl)), hR.b13.k, (fun h => hR.z13 (upd_back h rfl)), hR.b15.k, (fun h h2 => hR.z15 (upd_back h rfl) (upd_false h2)), (fun h => hR.y18 (upd_back h rfl)), (hR.n6x13.keep rfl rfl), (hR.n6x15.keep rfl rfl), (hR.n13x15.keep rfl rfl), hR.w1.o, hR.w3.o, hR.w5.o, hR.w6.o, hR.w8.o, hR.w10.o, hR.w12.o, hR.w13.o, hR.w16.o, hR.w17.o, hR.w18.o, hR.f0.k, hR.f1.k, hR.f2.k, hR.f3.k, hR.f4.k, hR.f5.k, hR.f6.k, hR.f7.k, hR.f8.k, (fun _ => rfl), hR.f10.k, hR.f11.k, hR.f12.k, hR.f13.k, hR.f14.k, hR.f15.k, hR.f16.k, hR.f17.k⟩⟩
    refine EachOf.cons [9] rfl (by kernel_rfl) ?_ ?_
    · rintro L A W ⟨v, g, rfl, hR⟩ hi hw KK hK
      have e9 := hR.f9 (hw 9 (by simp))
      simp only [e9]
      clear e9
      have q0 := (hR.st.cell (p := ⟨b3, 1, none⟩) LD1.out.2).trans LD1.out.1
      go_simp
      refine hK.out _ _ ?_
      exact ⟨(fun jz => if jz = 19 then .pointer (some ⟨b3, 1, none⟩) else if jz = 20 then .int .i64 d.y else v jz), g, rfl, ⟨hR.st, hR.b6.k, (fun h => hR.z6 (upd_back h rfl)), hR.b13.k, (fun h => hR.z13 (upd_back h rfl)), hR.b15.k, (fun h h2 => hR.z15 (upd_back h rfl) (upd_false h2)), (fun h => hR.y18 (upd_back h rfl)), (hR.n6x13.keep rfl rfl), (hR.n6x15.keep rfl rfl), (hR.n13x15.keep rfl rfl), hR.w1.o, hR.w3.o, hR.w5.o, hR.w6.o, hR.w8.o, (fun _ j hj => upd_on (hw j hj)), hR.w12.o, hR.w13.o, hR.w16.o, hR.w17.o, hR.w18.o, hR.f0.k, hR.f1.k, hR.f2.k, hR.f3.k, hR.f4.k, hR.f5.k, hR.f6.k, hR.f7.k, hR.f8.k, (fun _ => rfl), (fun _ => rfl), hR.f11.k, hR.f12.k, hR.f13.k, hR.f14.k, hR.f15.k, hR.f16.k, hR.f17.k⟩⟩
    refine EachOf.cons [] rfl (by kernel_rfl) ?_ ?_
    · rintro L A W ⟨v, g, rfl, hR⟩ hi hw KK hK
      go_simp
      refine hK.out _ _ ?_
      exact ⟨(fun jz => if jz = 21 then .pointer (some ⟨b3, 2, none⟩) else v jz), g, rfl, ⟨hR.st, hR.b6.k, (fun h => hR.z6 (upd_back h rfl)), hR.b13.k, (fun h => hR.z13 (upd_back h rfl)), hR.b15.k, (fun h h2 => hR.z15 (upd_back h rfl) (upd_false h2)), (fun h => hR.y18 (upd_back h rfl)), (hR.n6x13.keep rfl rfl), (hR.n6x15.keep rfl rfl), (hR.n13x15.keep rfl rfl), hR.w1.o, hR.w3.o, hR.w5.o, hR.w6.o, hR.w8.o, hR.w10.o, hR.w12.o, hR.w13.o, hR.w16.o, hR.w17.o, hR.w18.o, hR.f0.k, hR.f1.k, hR.f2.k, hR.f3.k, hR.f4.k, hR.f5.k, hR.f6.k, hR.f7.k, hR.f8.k, hR.f9.k, hR.f10.k, (fun _ => rfl), hR.f12.k, hR.f13.k, hR.f14.k, hR.f15.k, hR.f16.k, hR.f17.k⟩⟩
    refine EachOf.cons [11] rfl (by kernel_rfl) ?_ ?_
    · rintro L A W ⟨v, g, rfl, hR⟩ hi hw KK hK
      have e11 := hR.f11 (hw 11 (by simp))
      simp only [e11]
      clear e11
      have q0 := (hR.st.cell (p := ⟨b3, 2, none⟩) LD2.out.2).trans LD2.out.1
      go_simp
      refine hK.out _ _ ?_
      exact ⟨(fun jz => if jz = 21 then .pointer (some ⟨b3, 2, none⟩) else if jz = 22 then .int .i64 d.z else v jz), g, rfl, ⟨hR.st, hR.b6.k, (fun h => hR.z6 (upd_back h rfl)), hR.b13.k, (fun h => hR.z13 (upd_back h rfl)), hR.b15.k, (fun h h2 => hR.z15 (upd_back h rfl) (upd_false h2)), (fun h => hR.y18 (upd_back h rfl)), (hR.n6x13.keep rfl rfl), (hR.n6x15.keep rfl rfl), (hR.n13x15.keep rfl rfl), hR.w1.o, hR.w3.o, hR.w5.o, hR.w6.o, hR.w8.o, hR.w10.o, (fun _ j hj => upd_on (hw j hj)), hR.w13.o, hR.w16.o, hR.w17.o, hR.w18.o, hR.f0.k, hR.f1.k, hR.f2.k, hR.f3.k, hR.f4.k, hR.f5.k, hR.f6.k, hR.f7.k, hR.f8.k, hR.f9.k, hR.f10.k, (fun _ => rfl), (fun _ => rfl), hR.f13.k, hR.f14.k, hR.f15.k, hR.f16.k, hR.f17.k⟩⟩
    refine EachOf.cons [8, 10, 12] rfl (by kernel_rfl) ?_ ?_
    · rintro L A W ⟨v, g, rfl, hR⟩ hi hw KK hK
      have e8 := hR.f8 (hw 8 (by simp))
      have e10 := hR.f10 (hw 10 (by simp))
      have e12 := hR.f12 (hw 12 (by simp))
      simp only [e8, e10, e12]
      clear e8 e10 e12
      have hz : w1.heap.size ≤ W.heap.size := hR.st.size
      go_simp
      refine hK.out _ _ ?_
      have hb : Below W.heap.size W (W.alloc (Obj.cells #[Value.int .i64 d.x, Value.int .i64 d.y, Value.int .i64 d.z] 3)) := (Below.refl _ _).alloc (Nat.le_refl _) _
      have hnew : CB (W.alloc (Obj.cells #[Value.int .i64 d.x, Value.int .i64 d.y, Value.int .i64 d.z] 3)) W.heap.size [.int .i64 d.x, .int .i64 d.y, .int .i64 d.z] := cb_new _ _ _
      exact ⟨(fun jz => if jz = 18 then .int .i64 d.x else if jz = 20 then .int .i64 d.y else if jz = 22 then .int .i64 d.z else if jz = 23 then .slice (some ⟨W.heap.size, 0, none⟩) 3 3 else v jz), (fun jz => if jz = 13 then W.heap.size else g jz), rfl, ⟨below_on hR.st hb, (fun h => ⟨(hR.b6 (upd_back h rfl)).1, Nat.lt_of_lt_of_le (hR.b6 (upd_back h rfl)).2 hb.size⟩), (fun h => (hR.z6 (upd_back h rfl)).on hb), (fun _ => ⟨hz, by simp⟩), (fun _ => hnew), (fun h => ⟨(hR.b15 (upd_back h rfl)).1, Nat.lt_of_lt_of_le (hR.b15 (upd_back h rfl)).2 hb.size⟩), (fun h h2 => (hR.z15 (upd_back h rfl) (upd_false h2)).on hb), (fun h => (hR.y18 (upd_back h rfl)).on hb), (fun h _ => Nat.ne_of_lt (hR.b6 (upd_back h rfl)).2), (hR.n6x15.keep rfl rfl), (fun _ h => (Nat.ne_of_lt (hR.b15 (upd_back h rfl)).2).symm), hR.w1.o, hR.w3.o, hR.w5.o, hR.w6.o, hR.w8.o, hR.w10.o, hR.w12.o, (fun _ j hj => upd_on (hw j hj)), hR.w16.o, hR.w17.o, hR.w18.o, hR.f0.k, hR.f1.k, hR.f2.k, hR.f3.k, hR.f4.k, hR.f5.k, hR.f6.k, hR.f7.k, (fun _ => rfl), hR.f9.k, (fun _ => rfl), hR.f11.k, (fun _ => rfl), (fun _ => rfl), hR.f14.k, hR.f15.k, hR.f16.k, (fun h => absurd (hR.w17 (upd_back h rfl) 13 (by simp)) (by simp [hi]))⟩⟩
    refine EachOf.cons [] rfl (by kernel_rfl) ?_ ?_
    · rintro L A W ⟨v, g, rfl, hR⟩ hi hw KK hK
      go_simp
      refine hK.out _ _ ?_
      exact ⟨(fun jz => if jz = 24 then .agg #[.int .u64 0, .int .u64 0, .int .u64 0, .int .u64 0] else v jz), g, rfl, ⟨hR.st, hR.b6.k, (fun h => hR.z6 (upd_back h rfl)), hR.b13.k, (fun h => hR.z13 (upd_back h rfl)), hR.b15.k, (fun h h2 => hR.z15 (upd_back h rfl) (upd_false h2)), (fun h => hR.y18 (upd_back h rfl)), (hR.n6x13.keep rfl rfl), (hR.n6x15.keep rfl rfl), (hR.n13x15.keep rfl rfl), hR.w1.o, hR.w3.o, hR.w5.o, hR.w6.o, hR.w8.o, hR.w10.o, hR.w12.o, hR.w13.o, hR.w16.o, hR.w17.o, hR.w18.o, hR.f0.k, hR.f1.k, hR.f2.k, hR.f3.k, hR.f4.k, hR.f5.k, hR.f6.k, hR.f7.k, hR.f8.k, hR.f9.k, hR.f10.k, hR.f11.k, hR.f12.k, hR.f13.k, (fun _ => rfl), hR.f15.k, hR.f16.k, hR.f17.k⟩⟩
    refine EachOf.cons [] rfl (by kernel_rfl) ?_ ?_
    · rintro L A W ⟨v, g, rfl, hR⟩ hi hw KK hK
      have hz : w1.heap.size ≤ W.heap.size := hR.st.size
      go_simp
      refine hK.out _ _ ?_
      have hb : Below W.heap.size W (W.alloc (Obj.cells #[Value.int .u64 0, Value.int .u64 0, Value.int .u64 0, Value.int .u64 0] 130)) := (Below.refl _ _).alloc (Nat.le_refl _) _
      have hnew : CB (W.alloc (Obj.cells #[Value.int .u64 0, Value.int .u64 0, Value.int .u64 0, Value.int .u64 0] 130)) W.heap.size [.int .u64 0, .int .u64 0, .int .u64 0, .int .u64 0] := cb_new _ _ _
      exact ⟨(fun jz => if jz = 7 then .pointer (some ⟨W.heap.size, 0, none⟩) else v jz), (fun jz => if jz = 15 then W.heap.size else g jz), rfl, ⟨below_on hR.st hb, (fun h => ⟨(hR.b6 (upd_back h rfl)).1, Nat.lt_of_lt_of_le (hR.b6 (upd_back h rfl)).2 hb.size⟩), (fun h => (hR.z6 (upd_back h rfl)).on hb), (fun h => ⟨(hR.b13 (upd_back h rfl)).1, Nat.lt_of_lt_of_le (hR.b13 (upd_back h rfl)).2 hb.size⟩), (fun h => (hR.z13 (upd_back h rfl)).on hb), (fun _ => ⟨hz, by simp⟩), (fun _ _ => hnew), (fun h => absurd (hR.w18 (upd_back h rfl) 15 (by simp)) (by simp [hi])), (hR.n6x13.keep rfl rfl), (fun h _ => Nat.ne_of_lt (hR.b6 (upd_back h rfl)).2), (fun h _ => Nat.ne_of_lt (hR.b13 (upd_back h rfl)).2), hR.w1.o, hR.w3.o, hR.w5.o, hR.w6.o, hR.w8.o, hR.w10.o, hR.w12.o, hR.w13.o, hR.w16.o, hR.w17.o, hR.w18.o, hR.f0.k, hR.f1.k, hR.f2.k, hR.f3.k, hR.f4.k, hR.f5.k, hR.f6.k, hR.f7.k, hR.f8.k, hR.f9.k, hR.f10.k, hR.f11.k, hR.f12.k, hR.f13.k, hR.f14.k, (fun _ => rfl), hR.f16.k, hR.f17.k⟩⟩
    refine EachOf.cons [6] rfl (by kernel_rfl) ?_ ?_
    · rintro L A W ⟨v, g, rfl, hR⟩ hi hw KK hK
      have e6 := hR.f6 (hw 6 (by simp))
      simp only [e6]
      clear e6
      go_simp
      refine hK.out _ _ ?_
      exact ⟨(fun jz => if jz = 16 then .slice (some ⟨g 6, 0, none⟩) (3) (3) else if jz = 5 then .slice (some ⟨g 6, 0, none⟩) (3) (3) else v jz), g, rfl, ⟨hR.st, hR.b6.k, (fun h => hR.z6 (upd_back h rfl)), hR.b13.k, (fun h => hR.z13 (upd_back h rfl)), hR.b15.k, (fun h h2 => hR.z15 (upd_back h rfl) (upd_false h2)), (fun h => hR.y18 (upd_back h rfl)), (hR.n6x13.keep rfl rfl), (hR.n6x15.keep rfl rfl), (hR.n13x15.keep rfl rfl), hR.w1.o, hR.w3.o, hR.w5.o, hR.w6.o, hR.w8.o, hR.w10.o, hR.w12.o, hR.w13.o, (fun _ j hj => upd_on (hw j hj)), hR.w17.o, hR.w18.o, hR.f0.k, hR.f1.k, hR.f2.k, hR.f3.k, hR.f4.k, hR.f5.k, (fun _ => rfl), hR.f7.k, hR.f8.k, hR.f9.k, hR.f10.k, hR.f11.k, hR.f12.k, hR.f13.k, hR.f14.k, hR.f15.k, (fun _ => rfl), hR.f17.k⟩⟩
    refine EachOf.cons [13] rfl (by kernel_rfl) ?_ ?_
    · rintro L A W ⟨v, g, rfl, hR⟩ hi hw KK hK
      have e13 := hR.f13 (hw 13 (by simp))
      simp only [e13]
      clear e13
      go_simp
      refine hK.out _ _ ?_
      exact ⟨(fun jz => if jz = 23 then .slice (some ⟨g 13, 0, none⟩) (3) (3) else if jz = 6 then .slice (some ⟨g 13, 0, none⟩) (3) (3) else v jz), g, rfl, ⟨hR.st, hR.b6.k, (fun h => hR.z6 (upd_back h rfl)), hR.b13.k, (fun h => hR.z13 (upd_back h rfl)), hR.b15.k, (fun h h2 => hR.z15 (upd_back h rfl) (upd_false h2)), (fun h => hR.y18 (upd_back h rfl)), (hR.n6x13.keep rfl rfl), (hR.n6x15.keep rfl rfl), (hR.n13x15.keep rfl rfl), hR.w1.o, hR.w3.o, hR.w5.o, hR.w6.o, hR.w8.o, hR.w10.o, hR.w12.o, hR.w13.o, hR.w16.o, (fun _ j hj => upd_on (hw j hj)), hR.w18.o, hR.f0.k, hR.f1.k, hR.f2.k, hR.f3.k, hR.f4.k, hR.f5.k, hR.f6.k, hR.f7.k, hR.f8.k, hR.f9.k, hR.f10.k, hR.f11.k, hR.f12.k, (fun _ => rfl), hR.f14.k, hR.f15.k, hR.f16.k, (fun _ => rfl)⟩⟩
    refine EachOf.cons [0, 1, 2, 3, 4, 5, 6, 7, 8, 9, 10, 11, 12, 13, 14, 15, 16, 17] rfl (by kernel_rfl) ?_ ?_
    · rintro L A W ⟨v, g, rfl, hR⟩ hi hw KK hK
      have e15 := hR.f15 (hw 15 (by simp))
      have e14 := hR.f14 (hw 14 (by simp))
      simp only [e15, e14]
      clear e15 e14
      have hzz := hR.z15 (hw 15 (by simp)) hi
      have hbb := hR.b15 (hw 15 (by simp))
      have q0 := hzz.cell 0 _ rfl
      have y0 := hzz.fz 0
      have q1 := hzz.cell 1 _ rfl
      have y1 := hzz.fz 1
      have q2 := hzz.cell 2 _ rfl
      have y2 := hzz.fz 2
      have q3 := hzz.cell 3 _ rfl
      have y3 := hzz.fz 3
      have ql := hzz.lt
      go_simp
      refine hK.out _ _ ?_
      exact ⟨(fun jz => if jz = 7 then .pointer (some ⟨g 15, 0, none⟩) else if jz = 24 then .agg #[.int .u64 0, .int .u64 0, .int .u64 0, .int .u64 0] else v jz), g, rfl, ⟨(stL_below hbb.1 [.int .u64 0, .int .u64 0, .int .u64 0, .int .u64 0] W 0 hR.st), (fun h => ⟨(hR.b6 (upd_back h rfl)).1, Nat.lt_of_lt_of_eq (hR.b6 (upd_back h rfl)).2 (stL_size (b := g 15) [.int .u64 0, .int .u64 0, .int .u64 0, .int .u64 0] W 0).symm⟩), (fun h => stL_far (fun q => hR.n6x15 (upd_back h rfl) (hw 15 (by simp)) q.symm) [.int .u64 0, .int .u64 0, .int .u64 0, .int .u64 0] W 0 (hR.z6 (upd_back h rfl))), (fun h => ⟨(hR.b13 (upd_back h rfl)).1, Nat.lt_of_lt_of_eq (hR.b13 (upd_back h rfl)).2 (stL_size (b := g 15) [.int .u64 0, .int .u64 0, .int .u64 0, .int .u64 0] W 0).symm⟩), (fun h => stL_far (fun q => hR.n13x15 (upd_back h rfl) (hw 15 (by simp)) q.symm) [.int .u64 0, .int .u64 0, .int .u64 0, .int .u64 0] W 0 (hR.z13 (upd_back h rfl))), (fun h => ⟨(hR.b15 (upd_back h rfl)).1, Nat.lt_of_lt_of_eq (hR.b15 (upd_back h rfl)).2 (stL_size (b := g 15) [.int .u64 0, .int .u64 0, .int .u64 0, .int .u64 0] W 0).symm⟩), (fun _ h => by simp [upd_self] at h), (fun _ => CB.fill (vs := [.int .u64 0, .int .u64 0, .int .u64 0, .int .u64 0]) hzz rfl), (hR.n6x13.keep rfl rfl), (hR.n6x15.keep rfl rfl), (hR.n13x15.keep rfl rfl), hR.w1.o, hR.w3.o, hR.w5.o, hR.w6.o, hR.w8.o, hR.w10.o, hR.w12.o, hR.w13.o, hR.w16.o, hR.w17.o, (fun _ j hj => upd_on (hw j hj)), hR.f0.k, hR.f1.k, hR.f2.k, hR.f3.k, hR.f4.k, hR.f5.k, hR.f6.k, hR.f7.k, hR.f8.k, hR.f9.k, hR.f10.k, hR.f11.k, hR.f12.k, hR.f13.k, (fun _ => rfl), (fun _ => rfl), hR.f16.k, hR.f17.k⟩⟩
    exact EachOf.nil
  rintro L A W2 ⟨vs, gg, rfl, hR⟩ hL
  have e16 := hR.f16 (hL 16 (by simp))
  have e17 := hR.f17 (hL 17 (by simp))
  have e15 := hR.f15 (hL 15 (by simp))
  simp only [e15, e16, e17]
  have A6 := hR.b6 (hL 6 (by simp))
  have A13 := hR.b13 (hL 13 (by simp))
  have A15 := hR.b15 (hL 15 (by simp))
  have D6 := hR.z6 (hL 6 (by simp))
  have D13 := hR.z13 (hL 13 (by simp))
  have D18 := hR.y18 (hL 18 (by simp))
  have N1 := hR.n6x15 (hL 6 (by simp)) (hL 15 (by simp))
  have N2 := hR.n13x15 (hL 13 (by simp)) (hL 15 (by simp))
  have hsz : w.heap.size ≤ w1.heap.size := HB.out.size
  have HS : Hid (ZrS w W2 (gg 6) (gg 13) (gg 15) x d 0 0) := ⟨below_on HB.out hR.st, cb_f3 D6, cb_f3 D13, Nat.le_trans hsz A15.1, A15.2, D18.cell 0 _ rfl, D18.cell 1 _ rfl, D18.cell 2 _ rfl, D18.cell 3 _ rfl, D18.fz, fun q => N1 q.symm, fun q => N2 q.symm⟩
  generalize gg 6 = b5 at *
  generalize gg 13 = b6 at *
  generalize gg 15 = b7 at *
  clear e15 e16 e17 hR hL A6 A13 A15 D6 D13 D18 N1 N2 LX0 LX1 LX2 LD0 LD1 LD2 HB hsz
  go_wp2_with fail
  go_loopg [8] 3 (fun mm s8 wx => ∃ i : Nat, s8 = .int .i64 (i : Int) ∧ mm = 3 - i ∧ i ≤ 3 ∧ Hid (ZrS w wx b5 b6 b7 x d (sgS x d true i) (sgS x d false i)))
  case atStart => exact ⟨0, rfl, rfl, by omega, HS⟩
  case round =>
    clear HS
    obtain ⟨i, rfl, rfl, hi, HS⟩ := hrel
    rename World => W1
    by_cases hlt : i < 3
    · have wi : IntKind.i64.wrap ((i : Int) + 1) = ((i + 1 : Nat) : Int) := by rw [IntWalk.i64_in _ (by omega)]; omega
      have li : (i : Int) < 3 := by omega
      have CA := HS.out.A.c i hlt
      have CB := HS.out.B.c i hlt
      have xb := HL.out.1 i hlt
      have db := HL.out.2 i hlt
      have HP := fun s => sg_next x d s i
      obtain ⟨xi, hxi⟩ : ∃ z, x.at i = z := ⟨_, rfl⟩
      obtain ⟨di, hdi⟩ : ∃ z, d.at i = z := ⟨_, rfl⟩
      rw [hxi] at CA xb HP
      rw [hdi] at CB db HP
      have CSa := fun W => Lib.hid (refSize_any xi W (by omega) (by omega))
      have CSb := fun W => Lib.hid (refSize_any di W (by omega) (by omega))
      have CM := fun W => Lib.hid (refMul_any (xi.natAbs : Int) (di.natAbs : Int) W (by omega) (by omega) (by omega) (by omega))
      obtain ⟨px, hpx⟩ : ∃ z, (xi.natAbs : Int) = z := ⟨_, rfl⟩
      obtain ⟨pd, hpd⟩ : ∃ z, (di.natAbs : Int) = z := ⟨_, rfl⟩
      obtain ⟨pr, hpr⟩ : ∃ z, px * pd = z := ⟨_, rfl⟩
      rw [hpx] at CSa CM HP
      rw [hpd] at CSb CM HP
      rw [hpr] at CM HP
      obtain ⟨t1, ht1⟩ : ∃ z, decide (xi < 0) = z := ⟨_, rfl⟩
      obtain ⟨t2, ht2⟩ : ∃ z, decide (di < 0) = z := ⟨_, rfl⟩
      rw [ht1, ht2] at HP
      have HPH := Lib.hid HP
      have LA := Lib.hid (And.intro CA HS.out.A.lt)
      have LB := Lib.hid (And.intro CB HS.out.B.lt)
      have HT := Lib.hid (And.intro ht1 ht2)
      clear HP CA CB xb db hxi hdi hpx hpd hpr ht1 ht2
      go_upto_region 5 with fail
      refine wp_region_each (fun L A W => ∃ (v : Nat → Value) (g : Nat → Nat), A = ⟨#[_, _, _, _, _, _, _, _, _, v 9, _, _, _, _, _, _, _, _, _, _, _, _, _, _, _, _, _, _, _, v 29, v 30, v 31, v 32, v 33, v 34, v 35, v 36, v 37, v 38, v 39, _, _, _, _, _, _, _, _, _, _, _, _, _, _, _, _, _, _, _, _, _, _, _, _, _, _], []⟩ ∧ Vz5R b5 b6 b7 i xi di px pd pr W1 L v g W) (by kernel_rfl) (by kernel_rfl) ⟨fun jz => if jz = 29 then u29 else if jz = 30 then u30 else if jz = 31 then u31 else if jz = 32 then u32 else if jz = 33 then u33 else if jz = 34 then u34 else if jz = 35 then u35 else if jz = 36 then u36 else if jz = 37 then u37 else if jz = 38 then u38 else if jz = 39 then u39 else if jz = 9 then u9 else undef, fun _ => 0, rfl, ⟨(Below.drew (Below.refl _ _)), Had.none, Had.none, Had.none, Had.none, Had.none, Had.none, Had.none, Had.none, Had.none, Had.none, Had.none, Had.none, Had.none, Had.none, Had.none, Had.none, Had.none, Had.none, Had.none, Had.none, Had.none, Had.none, Had.none⟩⟩ (rs := [0, 1, 2, 3, 4, 5, 6, 7, 8, 9, 10, 11, 12]) (by kernel_rfl) ?_ ?_
      · refine EachOf.cons [] rfl (by kernel_rfl) ?_ ?_
        · rintro L A W ⟨v, g, rfl, hR⟩ hi hw KK hK
          go_simp
          refine hK.out _ _ ?_
          exact ⟨(fun jz => if jz = 29 then .slice (some ⟨b5, 0, none⟩) (3) (3) else v jz), g, rfl, ⟨hR.st, hR.b11.k, (fun h h2 => hR.z11 (upd_back h rfl) (upd_false h2)), (fun h => hR.y12 (upd_back h rfl)), hR.w2.o, hR.w3.o, hR.w4.o, hR.w7.o, hR.w8.o, hR.w9.o, hR.w10.o, hR.w12.o, (fun _ => rfl), hR.f1.k, hR.f2.k, hR.f3.k, hR.f4.k, hR.f5.k, hR.f6.k, hR.f7.k, hR.f8.k, hR.f9.k, hR.f10.k, hR.f11.k⟩⟩
        refine EachOf.cons [] rfl (by kernel_rfl) ?_ ?_
        · rintro L A W ⟨v, g, rfl, hR⟩ hi hw KK hK
          go_simp
          refine hK.out _ _ ?_
          exact ⟨(fun jz => if jz = 30 then .int .i64 (i : Int) else v jz), g, rfl, ⟨hR.st, hR.b11.k, (fun h h2 => hR.z11 (upd_back h rfl) (upd_false h2)), (fun h => hR.y12 (upd_back h rfl)), hR.w2.o, hR.w3.o, hR.w4.o, hR.w7.o, hR.w8.o, hR.w9.o, hR.w10.o, hR.w12.o, hR.f0.k, (fun _ => rfl), hR.f2.k, hR.f3.k, hR.f4.k, hR.f5.k, hR.f6.k, hR.f7.k, hR.f8.k, hR.f9.k, hR.f10.k, hR.f11.k⟩⟩
        refine EachOf.cons [0, 1] rfl (by kernel_rfl) ?_ ?_
        · rintro L A W ⟨v, g, rfl, hR⟩ hi hw KK hK
          have e0 := hR.f0 (hw 0 (by simp))
          have e1 := hR.f1 (hw 1 (by simp))
          simp only [e0, e1]
          clear e0 e1
          go_simp
          refine hK.out _ _ ?_
          exact ⟨(fun jz => if jz = 29 then .slice (some ⟨b5, 0, none⟩) (3) (3) else if jz = 30 then .int .i64 (i : Int) else if jz = 31 then .pointer (some ⟨b5, i, none⟩) else v jz), g, rfl, ⟨hR.st, hR.b11.k, (fun h h2 => hR.z11 (upd_back h rfl) (upd_false h2)), (fun h => hR.y12 (upd_back h rfl)), (fun _ j hj => upd_on (hw j hj)), hR.w3.o, hR.w4.o, hR.w7.o, hR.w8.o, hR.w9.o, hR.w10.o, hR.w12.o, (fun _ => rfl), (fun _ => rfl), (fun _ => rfl), hR.f3.k, hR.f4.k, hR.f5.k, hR.f6.k, hR.f7.k, hR.f8.k, hR.f9.k, hR.f10.k, hR.f11.k⟩⟩
        refine EachOf.cons [2] rfl (by kernel_rfl) ?_ ?_
        · rintro L A W ⟨v, g, rfl, hR⟩ hi hw KK hK
          have e2 := hR.f2 (hw 2 (by simp))
          simp only [e2]
          clear e2
          have q0 := (hR.st.cell (p := ⟨b5, i, none⟩) LA.out.2).trans LA.out.1
          go_simp
          refine hK.out _ _ ?_
          exact ⟨(fun jz => if jz = 31 then .pointer (some ⟨b5, i, none⟩) else if jz = 32 then .int .i64 xi else v jz), g, rfl, ⟨hR.st, hR.b11.k, (fun h h2 => hR.z11 (upd_back h rfl) (upd_false h2)), (fun h => hR.y12 (upd_back h rfl)), hR.w2.o, (fun _ j hj => upd_on (hw j hj)), hR.w4.o, hR.w7.o, hR.w8.o, hR.w9.o, hR.w10.o, hR.w12.o, hR.f0.k, hR.f1.k, (fun _ => rfl), (fun _ => rfl), hR.f4.k, hR.f5.k, hR.f6.k, hR.f7.k, hR.f8.k, hR.f9.k, hR.f10.k, hR.f11.k⟩⟩
        refine EachOf.cons [3] rfl (by kernel_rfl) ?_ ?_
        · rintro L A W ⟨v, g, rfl, hR⟩ hi hw KK hK
          have e3 := hR.f3 (hw 3 (by simp))
          simp only [e3]
          clear e3
          go_simp
          go_at_call 90
          (with_reducible refine ((CSa _).out).mono ?_)
          rintro e w2 ⟨rfl, rfl⟩
          go_simp
          refine hK.out _ _ ?_
          exact ⟨(fun jz => if jz = 32 then .int .i64 xi else if jz = 33 then .int .u64 px else v jz), g, rfl, ⟨hR.st, hR.b11.k, (fun h h2 => hR.z11 (upd_back h rfl) (upd_false h2)), (fun h => hR.y12 (upd_back h rfl)), hR.w2.o, hR.w3.o, (fun _ j hj => upd_on (hw j hj)), hR.w7.o, hR.w8.o, hR.w9.o, hR.w10.o, hR.w12.o, hR.f0.k, hR.f1.k, hR.f2.k, (fun _ => rfl), (fun _ => rfl), hR.f5.k, hR.f6.k, hR.f7.k, hR.f8.k, hR.f9.k, hR.f10.k, hR.f11.k⟩⟩
        refine EachOf.cons [] rfl (by kernel_rfl) ?_ ?_
        · rintro L A W ⟨v, g, rfl, hR⟩ hi hw KK hK
          go_simp
          refine hK.out _ _ ?_
          exact ⟨(fun jz => if jz = 34 then .slice (some ⟨b6, 0, none⟩) (3) (3) else v jz), g, rfl, ⟨hR.st, hR.b11.k, (fun h h2 => hR.z11 (upd_back h rfl) (upd_false h2)), (fun h => hR.y12 (upd_back h rfl)), hR.w2.o, hR.w3.o, hR.w4.o, hR.w7.o, hR.w8.o, hR.w9.o, hR.w10.o, hR.w12.o, hR.f0.k, hR.f1.k, hR.f2.k, hR.f3.k, hR.f4.k, (fun _ => rfl), hR.f6.k, hR.f7.k, hR.f8.k, hR.f9.k, hR.f10.k, hR.f11.k⟩⟩
        refine EachOf.cons [] rfl (by kernel_rfl) ?_ ?_
        · rintro L A W ⟨v, g, rfl, hR⟩ hi hw KK hK
          go_simp
          refine hK.out _ _ ?_
          exact ⟨(fun jz => if jz = 35 then .int .i64 (i : Int) else v jz), g, rfl, ⟨hR.st, hR.b11.k, (fun h h2 => hR.z11 (upd_back h rfl) (upd_false h2)), (fun h => hR.y12 (upd_back h rfl)), hR.w2.o, hR.w3.o, hR.w4.o, hR.w7.o, hR.w8.o, hR.w9.o, hR.w10.o, hR.w12.o, hR.f0.k, hR.f1.k, hR.f2.k, hR.f3.k, hR.f4.k, hR.f5.k, (fun _ => rfl), hR.f7.k, hR.f8.k, hR.f9.k, hR.f10.k, hR.f11.k⟩⟩
        refine EachOf.cons [5, 6] rfl (by kernel_rfl) ?_ ?_
        · rintro L A W ⟨v, g, rfl, hR⟩ hi hw KK hK
          have e5 := hR.f5 (hw 5 (by simp))
          have e6 := hR.f6 (hw 6 (by simp))
          simp only [e5, e6]
          clear e5 e6
          go_simp
          refine hK.out _ _ ?_
          exact ⟨(fun jz => if jz = 34 then .slice (some ⟨b6, 0, none⟩) (3) (3) else if jz = 35 then .int .i64 (i : Int) else if jz = 36 then .pointer (some ⟨b6, i, none⟩) else v jz), g, rfl, ⟨hR.st, hR.b11.k, (fun h h2 => hR.z11 (upd_back h rfl) (upd_false h2)), (fun h => hR.y12 (upd_back h rfl)), hR.w2.o, hR.w3.o, hR.w4.o, (fun _ j hj => upd_on (hw j hj)), hR.w8.o, hR.w9.o, hR.w10.o, hR.w12.o, hR.f0.k, hR.f1.k, hR.f2.k, hR.f3.k, hR.f4.k, (fun _ => rfl), (fun _ => rfl), (fun _ => rfl), hR.f8.k, hR.f9.k, hR.f10.k, hR.f11.k⟩⟩
        refine EachOf.cons [7] rfl (by kernel_rfl) ?_ ?_
        · rintro L A W ⟨v, g, rfl, hR⟩ hi hw KK hK
          have e7 := hR.f7 (hw 7 (by simp))
          simp only [e7]
          clear e7
          have q0 := (hR.st.cell (p := ⟨b6, i, none⟩) LB.out.2).trans LB.out.1
          go_simp
          refine hK.out _ _ ?_
          exact ⟨(fun jz => if jz = 36 then .pointer (some ⟨b6, i, none⟩) else if jz = 37 then .int .i64 di else v jz), g, rfl, ⟨hR.st, hR.b11.k, (fun h h2 => hR.z11 (upd_back h rfl) (upd_false h2)), (fun h => hR.y12 (upd_back h rfl)), hR.w2.o, hR.w3.o, hR.w4.o, hR.w7.o, (fun _ j hj => upd_on (hw j hj)), hR.w9.o, hR.w10.o, hR.w12.o, hR.f0.k, hR.f1.k, hR.f2.k, hR.f3.k, hR.f4.k, hR.f5.k, hR.f6.k, (fun _ => rfl), (fun _ => rfl), hR.f9.k, hR.f10.k, hR.f11.k⟩⟩
        refine EachOf.cons [8] rfl (by kernel_rfl) ?_ ?_
        · rintro L A W ⟨v, g, rfl, hR⟩ hi hw KK hK
          have e8 := hR.f8 (hw 8 (by simp))
          simp only [e8]
          clear e8
          go_simp
          go_at_call 90
          (with_reducible refine ((CSb _).out).mono ?_)
          rintro e w2 ⟨rfl, rfl⟩
          go_simp
          refine hK.out _ _ ?_
          exact ⟨(fun jz => if jz = 37 then .int .i64 di else if jz = 38 then .int .u64 pd else v jz), g, rfl, ⟨hR.st, hR.b11.k, (fun h h2 => hR.z11 (upd_back h rfl) (upd_false h2)), (fun h => hR.y12 (upd_back h rfl)), hR.w2.o, hR.w3.o, hR.w4.o, hR.w7.o, hR.w8.o, (fun _ j hj => upd_on (hw j hj)), hR.w10.o, hR.w12.o, hR.f0.k, hR.f1.k, hR.f2.k, hR.f3.k, hR.f4.k, hR.f5.k, hR.f6.k, hR.f7.k, (fun _ => rfl), (fun _ => rfl), hR.f10.k, hR.f11.k⟩⟩
        refine EachOf.cons [4, 9] rfl (by kernel_rfl) ?_ ?_
        · rintro L A W ⟨v, g, rfl, hR⟩ hi hw KK hK
          have e4 := hR.f4 (hw 4 (by simp))
          have e9 := hR.f9 (hw 9 (by simp))
          simp only [e4, e9]
          clear e4 e9
          go_simp
          go_at_call 89
          (with_reducible refine ((CM _).out).mono ?_)
          rintro e w2 ⟨rfl, hb⟩
          go_simp
          refine hK.out _ _ ?_
          exact ⟨(fun jz => if jz = 33 then .int .u64 px else if jz = 38 then .int .u64 pd else if jz = 39 then .agg #[.int .u64 (hiW pr), .int .u64 (loW pr)] else v jz), g, rfl, ⟨below_on hR.st hb, (fun h => ⟨(hR.b11 (upd_back h rfl)).1, Nat.lt_of_lt_of_le (hR.b11 (upd_back h rfl)).2 hb.size⟩), (fun h h2 => (hR.z11 (upd_back h rfl) (upd_false h2)).on hb), (fun h => (hR.y12 (upd_back h rfl)).on hb), hR.w2.o, hR.w3.o, hR.w4.o, hR.w7.o, hR.w8.o, hR.w9.o, (fun _ j hj => upd_on (hw j hj)), hR.w12.o, hR.f0.k, hR.f1.k, hR.f2.k, hR.f3.k, (fun _ => rfl), hR.f5.k, hR.f6.k, hR.f7.k, hR.f8.k, (fun _ => rfl), (fun _ => rfl), hR.f11.k⟩⟩
        refine EachOf.cons [] rfl (by kernel_rfl) ?_ ?_
        · rintro L A W ⟨v, g, rfl, hR⟩ hi hw KK hK
          have hz : W1.heap.size ≤ W.heap.size := hR.st.size
          go_simp
          refine hK.out _ _ ?_
          have hb : Below W.heap.size W (W.alloc (Obj.cells #[Value.int .u64 0, Value.int .u64 0] 129)) := (Below.refl _ _).alloc (Nat.le_refl _) _
          have hnew : CB (W.alloc (Obj.cells #[Value.int .u64 0, Value.int .u64 0] 129)) W.heap.size [.int .u64 0, .int .u64 0] := cb_new _ _ _
          exact ⟨(fun jz => if jz = 9 then .pointer (some ⟨W.heap.size, 0, none⟩) else v jz), (fun jz => if jz = 11 then W.heap.size else g jz), rfl, ⟨below_on hR.st hb, (fun _ => ⟨hz, by simp⟩), (fun _ _ => hnew), (fun h => absurd (hR.w12 (upd_back h rfl) 11 (by simp)) (by simp [hi])), hR.w2.o, hR.w3.o, hR.w4.o, hR.w7.o, hR.w8.o, hR.w9.o, hR.w10.o, hR.w12.o, hR.f0.k, hR.f1.k, hR.f2.k, hR.f3.k, hR.f4.k, hR.f5.k, hR.f6.k, hR.f7.k, hR.f8.k, hR.f9.k, hR.f10.k, (fun _ => rfl)⟩⟩
        refine EachOf.cons [0, 1, 2, 3, 4, 5, 6, 7, 8, 9, 10, 11] rfl (by kernel_rfl) ?_ ?_
        · rintro L A W ⟨v, g, rfl, hR⟩ hi hw KK hK
          have e11 := hR.f11 (hw 11 (by simp))
          have e10 := hR.f10 (hw 10 (by simp))
          simp only [e11, e10]
          clear e11 e10
          have hzz := hR.z11 (hw 11 (by simp)) hi
          have hbb := hR.b11 (hw 11 (by simp))
          have q0 := hzz.cell 0 _ rfl
          have y0 := hzz.fz 0
          have q1 := hzz.cell 1 _ rfl
          have y1 := hzz.fz 1
          have ql := hzz.lt
          go_simp
          refine hK.out _ _ ?_
          exact ⟨(fun jz => if jz = 9 then .pointer (some ⟨g 11, 0, none⟩) else if jz = 39 then .agg #[.int .u64 (hiW pr), .int .u64 (loW pr)] else v jz), g, rfl, ⟨(stL_below hbb.1 [.int .u64 (hiW pr), .int .u64 (loW pr)] W 0 hR.st), (fun h => ⟨(hR.b11 (upd_back h rfl)).1, Nat.lt_of_lt_of_eq (hR.b11 (upd_back h rfl)).2 (stL_size (b := g 11) [.int .u64 (hiW pr), .int .u64 (loW pr)] W 0).symm⟩), (fun _ h => by simp [upd_self] at h), (fun _ => CB.fill (vs := [.int .u64 (hiW pr), .int .u64 (loW pr)]) hzz rfl), hR.w2.o, hR.w3.o, hR.w4.o, hR.w7.o, hR.w8.o, hR.w9.o, hR.w10.o, (fun _ j hj => upd_on (hw j hj)), hR.f0.k, hR.f1.k, hR.f2.k, hR.f3.k, hR.f4.k, hR.f5.k, hR.f6.k, hR.f7.k, hR.f8.k, hR.f9.k, (fun _ => rfl), (fun _ => rfl)⟩⟩
        exact EachOf.nil
      rintro L A W3 ⟨vs, gg, rfl, hR⟩ hL
      have e11 := hR.f11 (hL 11 (by simp))
      simp only [e11]
      have D := hR.y12 (hL 12 (by simp))
      have A11 := hR.b11 (hL 11 (by simp))
      have HS3 : Hid (ZrS w W3 b5 b6 b7 x d (sgS x d true i) (sgS x d false i)) := HS.out.on hR.st
      have HD : Hid (W3.cell? ⟨gg 11, 0, none⟩ = some (.int .u64 (hiW pr)) ∧ W3.cell? ⟨gg 11, 1, none⟩ = some (.int .u64 (loW pr)) ∧ gg 11 < W3.heap.size ∧ gg 11 ≠ b7) := ⟨D.cell 0 _ rfl, D.cell 1 _ rfl, A11.2, fun q => by have := HS.out.lt; have := A11.1; omega⟩
      have LA3 := Lib.hid (And.intro ((hR.st.cell (p := ⟨b5, i, none⟩) LA.out.2).trans LA.out.1) (Nat.lt_of_lt_of_le LA.out.2 hR.st.size))
      have LB3 := Lib.hid (And.intro ((hR.st.cell (p := ⟨b6, i, none⟩) LB.out.2).trans LB.out.1) (Nat.lt_of_lt_of_le LB.out.2 hR.st.size))
      generalize gg 11 = b9 at *
      clear e11 hR hL D A11 LA LB HS CSa CSb CM
      have ht1 := HT.out.1
      have ht2 := HT.out.2
      go_upto_region 6 with fail
      refine wp_region_each (fun L A W => ∃ (v : Nat → Value), A = ⟨#[_, _, _, _, _, _, _, _, _, _, _, _, _, _, _, _, _, _, _, _, _, _, _, _, _, _, _, _, _, _, _, _, _, _, _, _, _, _, _, _, v 40, v 41, v 42, v 43, v 44, v 45, v 46, v 47, v 48, v 49, v 50, _, _, _, _, _, _, _, _, _, _, _, _, _, _, _], []⟩ ∧ Vz6R b5 b6 b7 b9 i xi di t1 t2 W3 L v W) (by kernel_rfl) (by kernel_rfl) ⟨fun jz => if jz = 40 then u40 else if jz = 41 then u41 else if jz = 42 then u42 else if jz = 43 then u43 else if jz = 44 then u44 else if jz = 45 then u45 else if jz = 46 then u46 else if jz = 47 then u47 else if jz = 48 then u48 else if jz = 49 then u49 else if jz = 50 then u50 else undef, rfl, ⟨Below.drew (Below.refl _ _), Had.none, Had.none, Had.none, Had.none, Had.none, Had.none, Had.none, Had.none, Had.none, Had.none, Had.none, Had.none, Had.none, Had.none, Had.none, Had.none, Had.none, Had.none⟩⟩ (rs := [0, 1, 2, 3, 4, 5, 6, 7, 8, 9, 10]) (by kernel_rfl) ?_ ?_
      · refine EachOf.cons [] rfl (by kernel_rfl) ?_ ?_
        · rintro L A W ⟨v, rfl, hR⟩ hi hw K hK
          go_simp
          refine hK.out _ _ ?_
          exact ⟨(fun jz => if jz = 40 then .slice (some ⟨b5, 0, none⟩) (3) (3) else v jz), rfl, ⟨hR.st, hR.w2.o, hR.w3.o, hR.w4.o, hR.w7.o, hR.w8.o, hR.w9.o, hR.w10.o, (fun _ => rfl), hR.f1.k, hR.f2.k, hR.f3.k, hR.f4.k, hR.f5.k, hR.f6.k, hR.f7.k, hR.f8.k, hR.f9.k, hR.f10.k⟩⟩
        refine EachOf.cons [] rfl (by kernel_rfl) ?_ ?_
        · rintro L A W ⟨v, rfl, hR⟩ hi hw K hK
          go_simp
          refine hK.out _ _ ?_
          exact ⟨(fun jz => if jz = 41 then .int .i64 (i : Int) else v jz), rfl, ⟨hR.st, hR.w2.o, hR.w3.o, hR.w4.o, hR.w7.o, hR.w8.o, hR.w9.o, hR.w10.o, hR.f0.k, (fun _ => rfl), hR.f2.k, hR.f3.k, hR.f4.k, hR.f5.k, hR.f6.k, hR.f7.k, hR.f8.k, hR.f9.k, hR.f10.k⟩⟩
        refine EachOf.cons [0, 1] rfl (by kernel_rfl) ?_ ?_
        · rintro L A W ⟨v, rfl, hR⟩ hi hw K hK
          have e0 := hR.f0 (hw 0 (by simp))
          have e1 := hR.f1 (hw 1 (by simp))
          simp only [e0, e1]
          clear e0 e1
          go_simp
          refine hK.out _ _ ?_
          exact ⟨(fun jz => if jz = 40 then .slice (some ⟨b5, 0, none⟩) (3) (3) else if jz = 41 then .int .i64 (i : Int) else if jz = 42 then .pointer (some ⟨b5, i, none⟩) else v jz), rfl, ⟨hR.st, (fun _ j hj => upd_on (hw j hj)), hR.w3.o, hR.w4.o, hR.w7.o, hR.w8.o, hR.w9.o, hR.w10.o, (fun _ => rfl), (fun _ => rfl), (fun _ => rfl), hR.f3.k, hR.f4.k, hR.f5.k, hR.f6.k, hR.f7.k, hR.f8.k, hR.f9.k, hR.f10.k⟩⟩
        refine EachOf.cons [2] rfl (by kernel_rfl) ?_ ?_
        · rintro L A W ⟨v, rfl, hR⟩ hi hw K hK
          have e2 := hR.f2 (hw 2 (by simp))
          simp only [e2]
          clear e2
          have q0 := (hR.st.cell (p := ⟨b5, i, none⟩) LA3.out.2).trans LA3.out.1
          go_simp
          refine hK.out _ _ ?_
          exact ⟨(fun jz => if jz = 42 then .pointer (some ⟨b5, i, none⟩) else if jz = 43 then .int .i64 xi else v jz), rfl, ⟨hR.st, hR.w2.o, (fun _ j hj => upd_on (hw j hj)), hR.w4.o, hR.w7.o, hR.w8.o, hR.w9.o, hR.w10.o, hR.f0.k, hR.f1.k, (fun _ => rfl), (fun _ => rfl), hR.f4.k, hR.f5.k, hR.f6.k, hR.f7.k, hR.f8.k, hR.f9.k, hR.f10.k⟩⟩
        refine EachOf.cons [3] rfl (by kernel_rfl) ?_ ?_
        · rintro L A W ⟨v, rfl, hR⟩ hi hw K hK
          have e3 := hR.f3 (hw 3 (by simp))
          simp only [e3]
          clear e3
          go_simp
          refine hK.out _ _ ?_
          exact ⟨(fun jz => if jz = 43 then .int .i64 xi else if jz = 44 then .bool t1 else v jz), rfl, ⟨hR.st, hR.w2.o, hR.w3.o, (fun _ j hj => upd_on (hw j hj)), hR.w7.o, hR.w8.o, hR.w9.o, hR.w10.o, hR.f0.k, hR.f1.k, hR.f2.k, (fun _ => rfl), (fun _ => rfl), hR.f5.k, hR.f6.k, hR.f7.k, hR.f8.k, hR.f9.k, hR.f10.k⟩⟩
        refine EachOf.cons [] rfl (by kernel_rfl) ?_ ?_
        · rintro L A W ⟨v, rfl, hR⟩ hi hw K hK
          go_simp
          refine hK.out _ _ ?_
          exact ⟨(fun jz => if jz = 45 then .slice (some ⟨b6, 0, none⟩) (3) (3) else v jz), rfl, ⟨hR.st, hR.w2.o, hR.w3.o, hR.w4.o, hR.w7.o, hR.w8.o, hR.w9.o, hR.w10.o, hR.f0.k, hR.f1.k, hR.f2.k, hR.f3.k, hR.f4.k, (fun _ => rfl), hR.f6.k, hR.f7.k, hR.f8.k, hR.f9.k, hR.f10.k⟩⟩
        refine EachOf.cons [] rfl (by kernel_rfl) ?_ ?_
        · rintro L A W ⟨v, rfl, hR⟩ hi hw K hK
          go_simp
          refine hK.out _ _ ?_
          exact ⟨(fun jz => if jz = 46 then .int .i64 (i : Int) else v jz), rfl, ⟨hR.st, hR.w2.o, hR.w3.o, hR.w4.o, hR.w7.o, hR.w8.o, hR.w9.o, hR.w10.o, hR.f0.k, hR.f1.k, hR.f2.k, hR.f3.k, hR.f4.k, hR.f5.k, (fun _ => rfl), hR.f7.k, hR.f8.k, hR.f9.k, hR.f10.k⟩⟩
        refine EachOf.cons [5, 6] rfl (by kernel_rfl) ?_ ?_
        · rintro L A W ⟨v, rfl, hR⟩ hi hw K hK
          have e5 := hR.f5 (hw 5 (by simp))
          have e6 := hR.f6 (hw 6 (by simp))
          simp only [e5, e6]
          clear e5 e6
          go_simp
          refine hK.out _ _ ?_
          exact ⟨(fun jz => if jz = 45 then .slice (some ⟨b6, 0, none⟩) (3) (3) else if jz = 46 then .int .i64 (i : Int) else if jz = 47 then .pointer (some ⟨b6, i, none⟩) else v jz), rfl, ⟨hR.st, hR.w2.o, hR.w3.o, hR.w4.o, (fun _ j hj => upd_on (hw j hj)), hR.w8.o, hR.w9.o, hR.w10.o, hR.f0.k, hR.f1.k, hR.f2.k, hR.f3.k, hR.f4.k, (fun _ => rfl), (fun _ => rfl), (fun _ => rfl), hR.f8.k, hR.f9.k, hR.f10.k⟩⟩
        refine EachOf.cons [7] rfl (by kernel_rfl) ?_ ?_
        · rintro L A W ⟨v, rfl, hR⟩ hi hw K hK
          have e7 := hR.f7 (hw 7 (by simp))
          simp only [e7]
          clear e7
          have q0 := (hR.st.cell (p := ⟨b6, i, none⟩) LB3.out.2).trans LB3.out.1
          go_simp
          refine hK.out _ _ ?_
          exact ⟨(fun jz => if jz = 47 then .pointer (some ⟨b6, i, none⟩) else if jz = 48 then .int .i64 di else v jz), rfl, ⟨hR.st, hR.w2.o, hR.w3.o, hR.w4.o, hR.w7.o, (fun _ j hj => upd_on (hw j hj)), hR.w9.o, hR.w10.o, hR.f0.k, hR.f1.k, hR.f2.k, hR.f3.k, hR.f4.k, hR.f5.k, hR.f6.k, (fun _ => rfl), (fun _ => rfl), hR.f9.k, hR.f10.k⟩⟩
        refine EachOf.cons [8] rfl (by kernel_rfl) ?_ ?_
        · rintro L A W ⟨v, rfl, hR⟩ hi hw K hK
          have e8 := hR.f8 (hw 8 (by simp))
          simp only [e8]
          clear e8
          go_simp
          refine hK.out _ _ ?_
          exact ⟨(fun jz => if jz = 48 then .int .i64 di else if jz = 49 then .bool t2 else v jz), rfl, ⟨hR.st, hR.w2.o, hR.w3.o, hR.w4.o, hR.w7.o, hR.w8.o, (fun _ j hj => upd_on (hw j hj)), hR.w10.o, hR.f0.k, hR.f1.k, hR.f2.k, hR.f3.k, hR.f4.k, hR.f5.k, hR.f6.k, hR.f7.k, (fun _ => rfl), (fun _ => rfl), hR.f10.k⟩⟩
        refine EachOf.cons [4, 9] rfl (by kernel_rfl) ?_ ?_
        · rintro L A W ⟨v, rfl, hR⟩ hi hw K hK
          have e4 := hR.f4 (hw 4 (by simp))
          have e9 := hR.f9 (hw 9 (by simp))
          simp only [e4, e9]
          clear e4 e9
          go_simp
          refine hK.out _ _ ?_
          exact ⟨(fun jz => if jz = 44 then .bool t1 else if jz = 49 then .bool t2 else if jz = 50 then .bool (t1 == t2) else v jz), rfl, ⟨hR.st, hR.w2.o, hR.w3.o, hR.w4.o, hR.w7.o, hR.w8.o, hR.w9.o, (fun _ j hj => upd_on (hw j hj)), hR.f0.k, hR.f1.k, hR.f2.k, hR.f3.k, (fun _ => rfl), hR.f5.k, hR.f6.k, hR.f7.k, hR.f8.k, (fun _ => rfl), (fun _ => rfl)⟩⟩
        exact EachOf.nil
      rintro L A W4 ⟨vs, rfl, hR⟩ hL
      have e10 := hR.f10 (hL 10 (by simp))
      simp only [e10]
      have HS4 : Hid (ZrS w W4 b5 b6 b7 x d (sgS x d true i) (sgS x d false i)) := HS3.out.on hR.st
      have HD4 : Hid (W4.cell? ⟨b9, 0, none⟩ = some (.int .u64 (hiW pr)) ∧ W4.cell? ⟨b9, 1, none⟩ = some (.int .u64 (loW pr)) ∧ b9 < W4.heap.size ∧ b9 ≠ b7) := ⟨(hR.st.cell (p := ⟨b9, 0, none⟩) HD.out.2.2.1).trans HD.out.1, (hR.st.cell (p := ⟨b9, 1, none⟩) HD.out.2.2.1).trans HD.out.2.1, Nat.lt_of_lt_of_le HD.out.2.2.1 hR.st.size, HD.out.2.2.2⟩
      clear e10 hR hL LA3 LB3 HS3 HD ht1 ht2 HT
      have g0 := HD4.out.1
      have g1 := HD4.out.2.1
      have c0 := HS4.out.c0
      have c1 := HS4.out.c1
      have c2 := HS4.out.c2
      have c3 := HS4.out.c3
      have f0 := HS4.out.fr 0
      have f1 := HS4.out.fr 1
      have f2 := HS4.out.fr 2
      have f3 := HS4.out.fr 3
      have ltb := HS4.out.lt
      have CPt := fun W => Lib.hid (refPlus_any (sgS x d true i) pr W)
      have CPf := fun W => Lib.hid (refPlus_any (sgS x d false i) pr W)
      have hn1 := HPH.out true
      have hn2 := HPH.out false
      cases ht : (t1 == t2)
      · rw [ht] at hn1 hn2
        have H1 : Hid (sgS x d true (i + 1) = sgS x d true i ∧ sgS x d false (i + 1) = sgS x d false i + pr) := ⟨by rw [hn1]; simp, by rw [hn2]; simp⟩
        clear hn1 hn2 HPH ht
        have hl1 := ltb
        clear ltb
        go_wp2_with (go_at_call 91; (with_reducible refine ((CPf _).out.mono ?_)); rintro e w5 ⟨rfl, hb5⟩; have HS5 := Lib.hid (HS4.out.on hb5); clear c0 c1 c2 c3 f0 f1 f2 f3 g0 g1 hl1; have c2 := HS5.out.c2; have c3 := HS5.out.c3; have f2 := HS5.out.fr 2; have f3 := HS5.out.fr 3; have hl1 := HS5.out.lt)
        go_roundg (3 - (i + 1))
        case measure => omega
        case rel => exact ⟨i + 1, rfl, rfl, by omega, by rw [H1.out.1, H1.out.2]; exact HS5.out.set2 (sgS x d false i + pr)⟩
      · rw [ht] at hn1 hn2
        have H1 : Hid (sgS x d true (i + 1) = sgS x d true i + pr ∧ sgS x d false (i + 1) = sgS x d false i) := ⟨by rw [hn1]; simp, by rw [hn2]; simp⟩
        clear hn1 hn2 HPH ht
        have hl1 := ltb
        clear ltb
        go_wp2_with (go_at_call 91; (with_reducible refine ((CPt _).out.mono ?_)); rintro e w5 ⟨rfl, hb5⟩; have HS5 := Lib.hid (HS4.out.on hb5); clear c0 c1 c2 c3 f0 f1 f2 f3 g0 g1 hl1; have c0 := HS5.out.c0; have c1 := HS5.out.c1; have f0 := HS5.out.fr 0; have f1 := HS5.out.fr 1; have hl1 := HS5.out.lt)
        go_roundg (3 - (i + 1))
        case measure => omega
        case rel => exact ⟨i + 1, rfl, rfl, by omega, by rw [H1.out.1, H1.out.2]; exact HS5.out.set0 (sgS x d true i + pr)⟩
    · have e : i = 3 := by omega
      subst e
      have li : ¬ ((3 : Nat) : Int) < 3 := by omega
      have c0 := HS.out.c0
      have c1 := HS.out.c1
      have c2 := HS.out.c2
      have c3 := HS.out.c3
      have HE := Lib.hid HS.out.st
      have HZ := Lib.hid (sg_zero3 x d)
      have b1 := sg_bd HL.out.1 HL.out.2 true 3 (Nat.le_refl _)
      have b2 := sg_bd HL.out.1 HL.out.2 false 3 (Nat.le_refl _)
      obtain ⟨P, hP⟩ : ∃ z, sgS x d true 3 = z := ⟨_, rfl⟩
      obtain ⟨N, hN⟩ : ∃ z, sgS x d false 3 = z := ⟨_, rfl⟩
      rw [hP] at c0 c1 HZ b1
      rw [hN] at c2 c3 HZ b2
      have HB := Lib.hid (And.intro b1 b2)
      clear b1 b2 hP hN HS hi hlt
      have H1 : Hid (hiW P = hiW N → loW P = loW N → decide (x.dot d = 0) = true) := fun a b => decide_eq_true (HZ.out.2 (hl_eq HB.out.1.1 (by have := HB.out.1.2; omega) HB.out.2.1 (by have := HB.out.2.2; omega) a b))
      have H2 : Hid (¬ hiW P = hiW N → decide (x.dot d = 0) = false) := fun a => decide_eq_false fun q => a (by rw [HZ.out.1 q])
      have H3 : Hid (¬ loW P = loW N → decide (x.dot d = 0) = false) := fun a => decide_eq_false fun q => a (by rw [HZ.out.1 q])
      clear HZ HB
      go_wp2_with fail
      all_goals
        go_ret
        refine ⟨?_, HE.out⟩
        first
          | (rw [H1.out (by assumption) (by assumption)]; rfl)
          | (rw [H2.out (by assumption)]; rfl)
          | (rw [H3.out (by assumption)]; rfl)
theorem lists_walk (p : Pt) (ra : Option Addr) (n rc : Nat) (f : Nat → Pt) (w : World) (hp : PR w) (hi : PI p) (hl : PtR w ra n f) (ha : ∀ i, i < n → PI (f i)) (hrc : n ≤ rc) (hrc2 : rc ≤ 9223372036854775807) (hnil : ra = none → n = 0 ∧ rc = 0) :
    Calls Tryd.prog 3 #[.agg #[.int .i64 p.x, .int .i64 p.y, .int .i64 p.z], .slice ra n rc] w fun e w' => e = .returned (.bool true) ∧ Below w.heap.size w w' := lists_walk0 rZero_any p ra n rc f w hp hi hl ha hrc hrc2 hnil
end Go.Proofs.YtcghjjfpjiacfaaDoor
