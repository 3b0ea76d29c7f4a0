/- Layer 9: law PointsTurns. -/
import Derived.Test.YtabpnkpedcgcpaaDoorVG2
import Derived.Test.YtabpnkpedcgcpaaDoorVClo
namespace Go.Proofs.YtabpnkpedcgcpaaDoor
open Go.ChangeShapes Go.WideShapes Go.ChangeAt Go.RowKit Go.Joins Go.Deep Go.Shelf
set_option linter.unusedVariables false

set_option maxHeartbeats 4000000 in
theorem mov_any (p y : Pt) (b8 : Nat) (w : World) (hp : p.ok) (hy : y.ok) (hB : B3 w b8 y.x y.y y.z) : Calls Tryd.prog 16 #[.agg #[.int .i64 p.x, .int .i64 p.y, .int .i64 p.z], .pointer (some ⟨b8, 0, none⟩)] w fun e w' => e = .returned (.agg #[.int .i64 (p.mov y).x, .int .i64 (p.mov y).y, .int .i64 (p.mov y).z]) ∧ Below w.heap.size w w' := by
  obtain ⟨⟨a0, a1⟩, ⟨a2, a3⟩, a4, a5⟩ := hp
  obtain ⟨⟨b0, b1⟩, ⟨b2, b3⟩, b4, b5⟩ := hy
  obtain ⟨px, py, pz⟩ := p
  obtain ⟨yx, yy, yz⟩ := y
  unfold Pt.mov
  simp only at *
  have wx : IntKind.i64.wrap (px + yx) = px + yx := IntWalk.i64_in _ (by omega)
  have wy : IntKind.i64.wrap (py + yy) = py + yy := IntWalk.i64_in _ (by omega)
  have wz : IntKind.i64.wrap (pz + yz) = pz + yz := IntWalk.i64_in _ (by omega)
  obtain ⟨w1, hw1⟩ : ∃ W, W = (w.alloc (Obj.cells #[.int .i64 px, .int .i64 py, .int .i64 pz] 23)).alloc (Obj.cells #[.int .i64 0, .int .i64 0, .int .i64 0] 23) := ⟨_, rfl⟩
  obtain ⟨hb1, hA, hO⟩ := two_boxes w ⟨px, py, pz⟩ ⟨0, 0, 0⟩ _ _ w1 hw1
  have hB1 := hB.on hb1
  have p0 := hA.c0
  have p1 := hA.c1
  have p2 := hA.c2
  have q0 := hB1.c0
  have q1 := hB1.c1
  have q2 := hB1.c2
  have o0 := hO.c0
  have o1 := hO.c1
  have o2 := hO.c2
  have f0 := hO.f 0
  have f1 := hO.f 1
  have f2 := hO.f 2
  obtain ⟨b3', hb3'⟩ : ∃ x, x = w.heap.size + 1 := ⟨_, rfl⟩
  have HN : Hid (b3' = w.heap.size + 1 ∧ w1 = (w.alloc (Obj.cells #[.int .i64 px, .int .i64 py, .int .i64 pz] 23)).alloc (Obj.cells #[.int .i64 0, .int .i64 0, .int .i64 0] 23)) := ⟨hb3', hw1⟩
  rw [← hb3'] at o0 o1 o2 f0 f1 f2
  have lo : w.heap.size ≤ b3' := by omega
  have HB := Lib.hid hb1
  clear a0 a1 a2 a3 a4 a5 b0 b1 b2 b3 b4 b5 hA hO hB hB1 hb1 hw1 hb3'
  go_enter Tryd.func16, Tryd.ntmps16
  go_upto_region 1 with fail
  rw [← HN.out.2, ← HN.out.1]
  clear HN
  go_wp2_with fail
  refine bodyPost_ret (by simp [results, Tryd.results16, go_sem, o0, o1, o2]; try rfl) rfl ?_
  exact ⟨rfl, ((HB.out.setCell lo _).setCell lo _).setCell lo _⟩
structure TuS (w W : World) (b5 b6 b7 b8 : Nat) (a b c y : Pt) (ra : Option Addr) (n : Nat) (f : Nat → Pt) : Prop where
  t : T3S w W b5 b6 b7 a b c
  D : B3 W b8 y.x y.y y.z
  l : PtR W ra n f
  p : PR W
theorem TuS.on {w W W2 : World} {b5 b6 b7 b8 : Nat} {a b c y : Pt} {ra : Option Addr} {n : Nat} {f : Nat → Pt} (h : TuS w W b5 b6 b7 b8 a b c y ra n f) (hb : Below W.heap.size W W2) : TuS w W2 b5 b6 b7 b8 a b c y ra n f := ⟨h.t.on hb, h.D.on hb, h.l.on hb, h.p.on hb⟩
def rowP (f : Nat → Pt) : Nat → List Value
  | 0 => []
  | n + 1 => rowP f n ++ encP (f n)
theorem rowP_len (f : Nat → Pt) : ∀ n, (rowP f n).length = n * 3
  | 0 => rfl
  | n + 1 => by
    show (rowP f n ++ encP (f n)).length = _
    rw [List.length_append, rowP_len f n]
    show n * 3 + 3 = _
    omega
theorem rowP_get (f : Nat → Pt) : ∀ n k r, k < n → r < 3 → (rowP f n)[k * 3 + r]? = some (.int .i64 ((f k).at r))
  | 0, k, r, h, _ => by omega
  | n + 1, k, r, h, hr => by
    show (rowP f n ++ encP (f n))[k * 3 + r]? = _
    by_cases e : k < n
    · rw [List.getElem?_append_left (by rw [rowP_len]; omega)]
      exact rowP_get f n k r e hr
    · have e2 : k = n := by omega
      subst e2
      rw [List.getElem?_append_right (by rw [rowP_len]; omega), rowP_len, show k * 3 + r - k * 3 = r by omega]
      have : r = 0 ∨ r = 1 ∨ r = 2 := by omega
      rcases this with rfl | rfl | rfl <;> rfl
theorem own_ptr {W : World} {base n : Nat} {v : Value} {f : Nat → Pt} (h : W.ownsRow base 23 3 v n (rowP f n)) : ∃ ao cp, v = .slice ao n cp ∧ PtR W ao n f ∧ n ≤ cp ∧ cp ≤ 9223372036854775807 := by
  have h2 := h
  rcases h.2 with ⟨h1, h0⟩ | ⟨g, cap, cur, hv, hb, hg, hc, hm, _⟩
  · exact ⟨none, 0, by rw [h1, h0], fun q => by omega, by omega, by omega⟩
  · refine ⟨_, cap, hv, fun _ => ⟨g, 0, rfl, (Array.getElem?_eq_some_iff.1 hg).1, fun i hi => ?_⟩, hc, by unfold maxLen at hm; omega⟩
    have k : ∀ r, r < 3 → W.cell? ⟨g, i * 3 + r, none⟩ = some (.int .i64 ((f i).at r)) := fun r hr => by
      have := h2.cells (g := g) (by rw [hv]; rfl) (i * 3 + r) _ (rowP_get f n i r hi hr)
      rwa [show (⟨g, 0, none⟩ : Addr).add (i * 3 + r) = ⟨g, i * 3 + r, none⟩ by unfold Addr.add; split <;> simp_all] at this
    rw [Nat.zero_add]
    exact ⟨k 0 (by omega), k 1 (by omega), k 2 (by omega)⟩
theorem own_on {W W2 : World} {base n : Nat} {v : Value} {xs : List Value} {t : TypeId} {s : Nat} (h : W.ownsRow base t s v n xs) (hb : Below W.heap.size W W2) : W2.ownsRow base t s v n xs := own_only h (Only.of_below (S := fun _ => False) hb) (fun _ _ q => q)
theorem sg_neg (t : Int) : sgI (-t) = - sgI t := by
  unfold sgI
  split <;> split <;> first | omega | (split <;> omega) | (split <;> split <;> omega)
structure Vt15R (b5 b6 b7 b8 : Nat) (a b c ma mb mc : Pt) (t1 : Int) (Wc : World) (L : Nat → Bool) (v : Nat → Value) (W : World) : Prop where
  st : Below Wc.heap.size Wc W
  w2 : Had L 2 (∀ j ∈ [0, 1], L j = true)
  w5 : Had L 5 (∀ j ∈ [3, 4], L j = true)
  w8 : Had L 8 (∀ j ∈ [6, 7], L j = true)
  w9 : Had L 9 (∀ j ∈ [2, 5, 8], L j = true)
  w10 : Had L 10 (∀ j ∈ [9], L j = true)
  w11 : Had L 11 (∀ j ∈ [10], L j = true)
  w12 : Had L 12 (∀ j ∈ [10], L j = true)
  w13 : Had L 13 (∀ j ∈ [11], L j = true)
  w14 : Had L 14 (∀ j ∈ [12], L j = true)
  f0 : Had L 0 (v 109 = .func (.func 16) #[] #[.pointer (some ⟨b8, 0, none⟩)])
  f1 : Had L 1 (v 110 = .agg #[.int .i64 a.x, .int .i64 a.y, .int .i64 a.z])
  f2 : Had L 2 (v 111 = .agg #[.int .i64 ma.x, .int .i64 ma.y, .int .i64 ma.z])
  f3 : Had L 3 (v 112 = .func (.func 16) #[] #[.pointer (some ⟨b8, 0, none⟩)])
  f4 : Had L 4 (v 113 = .agg #[.int .i64 b.x, .int .i64 b.y, .int .i64 b.z])
  f5 : Had L 5 (v 114 = .agg #[.int .i64 mb.x, .int .i64 mb.y, .int .i64 mb.z])
  f6 : Had L 6 (v 115 = .func (.func 16) #[] #[.pointer (some ⟨b8, 0, none⟩)])
  f7 : Had L 7 (v 116 = .agg #[.int .i64 c.x, .int .i64 c.y, .int .i64 c.z])
  f8 : Had L 8 (v 117 = .agg #[.int .i64 mc.x, .int .i64 mc.y, .int .i64 mc.z])
  f9 : Had L 9 (v 118 = .tuple #[.int .i64 t1, .int .i64 0])
  f10 : Had L 10 (v 108 = .tuple #[.int .i64 t1, .int .i64 0])
  f11 : Had L 11 (v 119 = .int .i64 t1)
  f12 : Had L 12 (v 120 = .int .i64 0)
  f13 : Had L 13 (v 18 = .int .i64 t1)
  f14 : Had L 14 (v 19 = .int .i64 0)
structure Vt17R (b5 b6 b8 : Nat) (a b ma mb : Pt) (sq : Int) (Wc : World) (L : Nat → Bool) (v : Nat → Value) (W : World) : Prop where
  st : Below Wc.heap.size Wc W
  w2 : Had L 2 (∀ j ∈ [0, 1], L j = true)
  w5 : Had L 5 (∀ j ∈ [3, 4], L j = true)
  w6 : Had L 6 (∀ j ∈ [2, 5], L j = true)
  w7 : Had L 7 (∀ j ∈ [6], L j = true)
  w8 : Had L 8 (∀ j ∈ [7], L j = true)
  w9 : Had L 9 (∀ j ∈ [7], L j = true)
  w10 : Had L 10 (∀ j ∈ [8], L j = true)
  w11 : Had L 11 (∀ j ∈ [9], L j = true)
  f0 : Had L 0 (v 128 = .func (.func 16) #[] #[.pointer (some ⟨b8, 0, none⟩)])
  f1 : Had L 1 (v 129 = .agg #[.int .i64 a.x, .int .i64 a.y, .int .i64 a.z])
  f2 : Had L 2 (v 130 = .agg #[.int .i64 ma.x, .int .i64 ma.y, .int .i64 ma.z])
  f3 : Had L 3 (v 131 = .func (.func 16) #[] #[.pointer (some ⟨b8, 0, none⟩)])
  f4 : Had L 4 (v 132 = .agg #[.int .i64 b.x, .int .i64 b.y, .int .i64 b.z])
  f5 : Had L 5 (v 133 = .agg #[.int .i64 mb.x, .int .i64 mb.y, .int .i64 mb.z])
  f6 : Had L 6 (v 134 = .tuple #[.int .i64 sq, .int .i64 0])
  f7 : Had L 7 (v 127 = .tuple #[.int .i64 sq, .int .i64 0])
  f8 : Had L 8 (v 135 = .int .i64 sq)
  f9 : Had L 9 (v 136 = .int .i64 0)
  f10 : Had L 10 (v 22 = .int .i64 sq)
  f11 : Had L 11 (v 23 = .int .i64 0)
set_option maxRecDepth 100000 in
set_option maxHeartbeats 64000000 in
theorem turns_walk (a b c y : Pt) (ra : Option Addr) (n rc : Nat) (f : Nat → Pt) (w : World) (hp : PR w) (_ : PI a) (_ : PI b) (_ : PI c) (_ : PI y) (hl : PtR w ra n f) (_ : ∀ i, i < n → PI (f i)) (hrc : n ≤ rc) (hrc2 : rc ≤ 9223372036854775807) (hnil : ra = none → n = 0 ∧ rc = 0) :
    Calls Tryd.prog 4 #[.agg #[.int .i64 a.x, .int .i64 a.y, .int .i64 a.z], .agg #[.int .i64 b.x, .int .i64 b.y, .int .i64 b.z], .agg #[.int .i64 c.x, .int .i64 c.y, .int .i64 c.z], .agg #[.int .i64 y.x, .int .i64 y.y, .int .i64 y.z], .slice ra n rc] w fun e w' => e = .returned (.bool true) ∧ Below w.heap.size w w' := by
  have CA := fun W => Lib.hid (pawake_any W)
  obtain ⟨t1, te, ht⟩ : ∃ n e, tuT a b c = (n, e) := ⟨_, _, rfl⟩
  have CT1 := fun W => Lib.hid (pturn_any a b c W t1 te ht)
  have ht2 : tuT b c a = (t1, te) := by
    rw [← ht]; unfold tuT
    rw [tn_rot a b c]
    by_cases h1 : a.ok <;> by_cases h2 : b.ok <;> by_cases h3 : c.ok <;> simp [h1, h2, h3]
  have CT2 := fun W => Lib.hid (pturn_any b c a W t1 te ht2)
  have ht3 : tuT b a c = (-t1, te) := by
    unfold tuT at ht ⊢
    by_cases h : a.ok ∧ b.ok ∧ c.ok
    · rw [if_pos h] at ht
      rw [if_pos ⟨h.2.1, h.1, h.2.2⟩, tn_swap, sg_neg]
      injection ht with k1 k2
      rw [k1, k2]
    · rw [if_neg h] at ht
      rw [if_neg (fun q => h ⟨q.2.1, q.1, q.2.2⟩)]
      injection ht with k1 k2
      rw [← k1, ← k2]; rfl
  have CT3 := fun W => Lib.hid (pturn_any b a c W (-t1) te ht3)
  have wt : IntKind.i64.wrap (-t1) = -t1 := by
    have : -1 ≤ t1 ∧ t1 ≤ 1 := by
      unfold tuT at ht
      by_cases h : a.ok ∧ b.ok ∧ c.ok
      · rw [if_pos h] at ht
        injection ht with k1 k2
        rw [← k1]; unfold sgI; split
        · omega
        · split <;> omega
      · rw [if_neg h] at ht
        injection ht with k1 k2
        omega
    exact IntWalk.i64_in _ (by omega)
  have HT := Lib.hid ht
  obtain ⟨w1, hw1⟩ : ∃ W, W = ((w.alloc (Obj.cells #[.int .i64 a.x, .int .i64 a.y, .int .i64 a.z] 23)).alloc (Obj.cells #[.int .i64 b.x, .int .i64 b.y, .int .i64 b.z] 23)).alloc (Obj.cells #[.int .i64 c.x, .int .i64 c.y, .int .i64 c.z] 23) := ⟨_, rfl⟩
  obtain ⟨hb1, hA, hB, hC⟩ := three_boxes w a b c _ _ _ w1 hw1
  obtain ⟨w1', hw1'⟩ : ∃ W, W = w1.alloc (Obj.cells #[.int .i64 y.x, .int .i64 y.y, .int .i64 y.z] 23) := ⟨_, rfl⟩
  have hbn : Below w1.heap.size w1 w1' := by rw [hw1']; exact below_alloc _ _
  obtain ⟨b5, hb5⟩ : ∃ x, x = w.heap.size := ⟨_, rfl⟩
  obtain ⟨b6, hb6⟩ : ∃ x, x = w.heap.size + 1 := ⟨_, rfl⟩
  obtain ⟨b7, hb7⟩ : ∃ x, x = w.heap.size + 1 + 1 := ⟨_, rfl⟩
  obtain ⟨b8, hb8⟩ : ∃ x, x = w.heap.size + 1 + 1 + 1 := ⟨_, rfl⟩
  have hs1 : w1.heap.size = w.heap.size + 1 + 1 + 1 := by rw [hw1]; simp
  have hD : B3 w1' b8 y.x y.y y.z := by rw [hw1', hb8, ← hs1]; exact B3.new _ _ _ _ _
  have HN : Hid (b5 = w.heap.size ∧ b6 = w.heap.size + 1 ∧ b7 = w.heap.size + 1 + 1 ∧ b8 = w.heap.size + 1 + 1 + 1 ∧ w1' = (((w.alloc (Obj.cells #[.int .i64 a.x, .int .i64 a.y, .int .i64 a.z] 23)).alloc (Obj.cells #[.int .i64 b.x, .int .i64 b.y, .int .i64 b.z] 23)).alloc (Obj.cells #[.int .i64 c.x, .int .i64 c.y, .int .i64 c.z] 23)).alloc (Obj.cells #[.int .i64 y.x, .int .i64 y.y, .int .i64 y.z] 23)) := ⟨hb5, hb6, hb7, hb8, by rw [hw1', hw1]⟩
  rw [← hb5] at hA
  rw [← hb6] at hB
  rw [← hb7] at hC
  have HS1 : Hid (TuS w w1' b5 b6 b7 b8 a b c y ra n f) := ⟨⟨below_on hb1 hbn, hA.on hbn, hB.on hbn, hC.on hbn⟩, hD, (hl.on hb1).on hbn, (hp.on hb1).on hbn⟩
  have HRC := Lib.hid (And.intro hrc hrc2)
  have CV := fun W => Lib.hid (pVd_any y W)
  obtain ⟨ty, hty⟩ : ∃ t, vdB y = t := ⟨_, rfl⟩
  rw [hty] at CV
  have HTY : Hid (ty = true ↔ y.ok) := by show ty = true ↔ y.ok; rw [← hty]; unfold vdB; simp
  clear hA hB hC hD hb1 hbn hb5 hb6 hb7 hb8 hw1 hw1' hs1 ht ht2 ht3 hp hl hrc2 hty
  go_enter Tryd.func4, Tryd.ntmps4
  go_upto_region 1 with fail
  rw [← HN.out.2.2.2.2, ← HN.out.2.2.2.1, ← HN.out.2.2.1, ← HN.out.2.1, ← HN.out.1]
  clear HN
  go_upto_region 3 with (go_at_call 7; (with_reducible refine ((CA _).out.mono ?_)); rintro e w2 ⟨rfl, hb2⟩; have HS2 := Lib.hid (HS1.out.on hb2); clear hb2 HS1 CA)
  by_cases h12 : 12 < n
  · have d12 : decide ((12 : Int) < (n : Int)) = true := decide_eq_true (by omega)
    go_wp2_with fail
    go_ret
    exact ⟨rfl, HS2.out.t.st⟩
  have d12 : decide ((12 : Int) < (n : Int)) = false := decide_eq_false (by omega)
  have a0 := HS2.out.t.A.c0
  have a1 := HS2.out.t.A.c1
  have a2 := HS2.out.t.A.c2
  have b0 := HS2.out.t.B.c0
  have b1 := HS2.out.t.B.c1
  have b2 := HS2.out.t.B.c2
  have c0 := HS2.out.t.C.c0
  have c1 := HS2.out.t.C.c1
  have c2 := HS2.out.t.C.c2
  go_upto_region 6 with (go_at_call 14; (with_reducible refine ((CT1 _).out.mono ?_)); rintro e w3 ⟨rfl, hb3⟩; have HS3 := Lib.hid (HS2.out.on hb3); clear hb3 HS2 CT1 a0 a1 a2 b0 b1 b2 c0 c1 c2)
  have a0 := HS3.out.t.A.c0
  have a1 := HS3.out.t.A.c1
  have a2 := HS3.out.t.A.c2
  have b0 := HS3.out.t.B.c0
  have b1 := HS3.out.t.B.c1
  have b2 := HS3.out.t.B.c2
  have c0 := HS3.out.t.C.c0
  have c1 := HS3.out.t.C.c1
  have c2 := HS3.out.t.C.c2
  go_upto_region 7 with (go_at_call 14; (with_reducible refine ((CT2 _).out.mono ?_)); rintro e w4 ⟨rfl, hb4⟩; have HS4 := Lib.hid (HS3.out.on hb4); clear hb4 HS3 CT2 a0 a1 a2 b0 b1 b2 c0 c1 c2)
  have a0 := HS4.out.t.A.c0
  have a1 := HS4.out.t.A.c1
  have a2 := HS4.out.t.A.c2
  have b0 := HS4.out.t.B.c0
  have b1 := HS4.out.t.B.c1
  have b2 := HS4.out.t.B.c2
  have c0 := HS4.out.t.C.c0
  have c1 := HS4.out.t.C.c1
  have c2 := HS4.out.t.C.c2
  go_upto_region 8 with (go_at_call 14; (with_reducible refine ((CT3 _).out.mono ?_)); rintro e w5 ⟨rfl, hb5⟩; have HS5 := Lib.hid (HS4.out.on hb5); clear hb5 HS4 CT3 a0 a1 a2 b0 b1 b2 c0 c1 c2)
  go_upto_region 10 with fail
  clear wt d12
  by_cases ok : a.ok ∧ b.ok ∧ c.ok
  · have ht := HT.out
    unfold tuT at ht
    rw [if_pos ok] at ht
    injection ht with k1 k2
    subst k2
    have HK1 := Lib.hid k1
    have HOK := Lib.hid ok
    clear k1 ok HT
    have y0 := HS5.out.D.c0
    have y1 := HS5.out.D.c1
    have y2 := HS5.out.D.c2
    cases ty with
    | false =>
      go_wp2_with (go_at_call 15; (with_reducible refine ((CV _).out.mono ?_)); rintro e w6 ⟨rfl, hb6⟩; have HE := Lib.hid (below_on HS5.out.t.st hb6); clear hb6 y0 y1 y2)
      go_ret
      exact ⟨rfl, HE.out⟩
    | true =>
      have hyo := HTY.out.1 rfl
      have HYO := Lib.hid hyo
      have eg : ∀ args w, (callFunc 16 args).run Tryd.prog w = .ok (.enter 16 args) w := enters_of Tryd.func16 (by kernel_rfl) rfl
      have CM := fun (q : Pt) (hq : q.ok) (W : World) (hW : B3 W b8 y.x y.y y.z) => Lib.hid (mov_any q y b8 W hq hyo hW)
      have CVa := fun W => Lib.hid (pVd_any (a.mov y) W)
      have CVb := fun W => Lib.hid (pVd_any (b.mov y) W)
      have CVc := fun W => Lib.hid (pVd_any (c.mov y) W)
      obtain ⟨ta, hta⟩ : ∃ t, vdB (a.mov y) = t := ⟨_, rfl⟩
      obtain ⟨tb, htb⟩ : ∃ t, vdB (b.mov y) = t := ⟨_, rfl⟩
      obtain ⟨tc, htc⟩ : ∃ t, vdB (c.mov y) = t := ⟨_, rfl⟩
      rw [hta] at CVa
      rw [htb] at CVb
      rw [htc] at CVc
      have HTA : Hid (ta = true → (a.mov y).ok) := fun h => by rw [h] at hta; exact of_decide_eq_true hta
      have HTB : Hid (tb = true → (b.mov y).ok) := fun h => by rw [h] at htb; exact of_decide_eq_true htb
      have HTC : Hid (tc = true → (c.mov y).ok) := fun h => by rw [h] at htc; exact of_decide_eq_true htc
      have HMV : Hid (sgI (tnI (a.mov y) (b.mov y) (c.mov y)) = t1 ∧ sqL (a.mov y) (b.mov y) = sqL a b) := ⟨by rw [tn_mov]; exact HK1.out, sq_mov a b y⟩
      have HINM : Hid (∀ g : Nat → Pt, InQ (a.mov y) n (fun i => (g i).mov y) ↔ InQ a n g) := fun g => in_mov a y n g
      obtain ⟨ma, hma⟩ : ∃ q, a.mov y = q := ⟨_, rfl⟩
      obtain ⟨mb, hmb⟩ : ∃ q, b.mov y = q := ⟨_, rfl⟩
      obtain ⟨mc, hmc⟩ : ∃ q, c.mov y = q := ⟨_, rfl⟩
      have CMa := CM a HOK.out.1
      have CMb := CM b HOK.out.2.1
      have CMc := CM c HOK.out.2.2
      rw [hma] at CMa CVa HTA HMV HINM
      rw [hmb] at CMb CVb HTB HMV
      rw [hmc] at CMc CVc HTC HMV
      clear hta htb htc hma hmb hmc hyo
      go_upto_region 13 with (go_at_call 15; (with_reducible refine ((CV _).out.mono ?_)); rintro e w6 ⟨rfl, hb6⟩; have HS6 := Lib.hid (HS5.out.on hb6); clear hb6 HS5 CV y0 y1 y2)
      have a0 := HS6.out.t.A.c0
      have a1 := HS6.out.t.A.c1
      have a2 := HS6.out.t.A.c2
      cases ta with
      | false =>
        go_wp2_with (first
          | (go_at_call 16; (with_reducible refine ((CMa _ HS6.out.D).out.mono ?_)); rintro e w7 ⟨rfl, hb7⟩; have HS7 := Lib.hid (HS6.out.on hb7); clear hb7 HS6 a0 a1 a2)
          | (go_at_call 15; (with_reducible refine ((CVa _).out.mono ?_)); rintro e w8 ⟨rfl, hb8⟩; have HE := Lib.hid (below_on HS7.out.t.st hb8); clear hb8))
        go_ret
        exact ⟨rfl, HE.out⟩
      | true =>
        cases tb with
        | false =>
          go_wp2_with (first
            | (go_at_call 16; (with_reducible refine ((CMa _ HS6.out.D).out.mono ?_)); rintro e w7 ⟨rfl, hb7⟩; have HS7 := Lib.hid (HS6.out.on hb7); clear hb7 HS6 a0 a1 a2)
            | (go_at_call 15; (with_reducible refine ((CVa _).out.mono ?_)); rintro e w8 ⟨rfl, hb8⟩; have HS8 := Lib.hid (HS7.out.on hb8); clear hb8 HS7 CVa; have b0 := HS8.out.t.B.c0; have b1 := HS8.out.t.B.c1; have b2 := HS8.out.t.B.c2)
            | (go_at_call 16; (with_reducible refine ((CMb _ HS8.out.D).out.mono ?_)); rintro e w9 ⟨rfl, hb9⟩; have HS9 := Lib.hid (HS8.out.on hb9); clear hb9 HS8 b0 b1 b2)
            | (go_at_call 15; (with_reducible refine ((CVb _).out.mono ?_)); rintro e w10 ⟨rfl, hb10⟩; have HE := Lib.hid (below_on HS9.out.t.st hb10); clear hb10))
          go_ret
          exact ⟨rfl, HE.out⟩
        | true =>
          cases tc with
          | false =>
            go_wp2_with (first
              | (go_at_call 16; (with_reducible refine ((CMa _ HS6.out.D).out.mono ?_)); rintro e w7 ⟨rfl, hb7⟩; have HS7 := Lib.hid (HS6.out.on hb7); clear hb7 HS6 a0 a1 a2)
              | (go_at_call 15; (with_reducible refine ((CVa _).out.mono ?_)); rintro e w8 ⟨rfl, hb8⟩; have HS8 := Lib.hid (HS7.out.on hb8); clear hb8 HS7 CVa; have b0 := HS8.out.t.B.c0; have b1 := HS8.out.t.B.c1; have b2 := HS8.out.t.B.c2)
              | (go_at_call 16; (with_reducible refine ((CMb _ HS8.out.D).out.mono ?_)); rintro e w9 ⟨rfl, hb9⟩; have HS9 := Lib.hid (HS8.out.on hb9); clear hb9 HS8 b0 b1 b2)
              | (go_at_call 15; (with_reducible refine ((CVb _).out.mono ?_)); rintro e w10 ⟨rfl, hb10⟩; have HS10 := Lib.hid (HS9.out.on hb10); clear hb10 HS9 CVb; have c0 := HS10.out.t.C.c0; have c1 := HS10.out.t.C.c1; have c2 := HS10.out.t.C.c2)
              | (go_at_call 16; (with_reducible refine ((CMc _ HS10.out.D).out.mono ?_)); rintro e w11 ⟨rfl, hb11⟩; have HS11 := Lib.hid (HS10.out.on hb11); clear hb11 HS10 c0 c1 c2)
              | (go_at_call 15; (with_reducible refine ((CVc _).out.mono ?_)); rintro e w12 ⟨rfl, hb12⟩; have HE := Lib.hid (below_on HS11.out.t.st hb12); clear hb12))
            go_ret
            exact ⟨rfl, HE.out⟩
          | true =>
            have okma := HTA.out rfl
            have okmb := HTB.out rfl
            have okmc := HTC.out rfl
            have CTm := fun W => Lib.hid (pturn_any ma mb mc W t1 0 (by unfold tuT; rw [if_pos ⟨okma, okmb, okmc⟩, HMV.out.1]))
            obtain ⟨sq, hsq⟩ : ∃ x, sqL a b = x := ⟨_, rfl⟩
            have CSq := fun W => Lib.hid (square_any a b W sq 0 (by unfold sqT; rw [if_pos ⟨HOK.out.1, HOK.out.2.1⟩, hsq]))
            have CSm := fun W => Lib.hid (square_any ma mb W sq 0 (by unfold sqT; rw [if_pos ⟨okma, okmb⟩, HMV.out.2, hsq]))
            have HOA := Lib.hid okma
            clear okma okmb okmc HTA HTB HTC hsq
            go_upto_region 15 with (first
              | (go_at_call 16; (with_reducible refine ((CMa _ HS6.out.D).out.mono ?_)); rintro e w7 ⟨rfl, hb7⟩; have HS7 := Lib.hid (HS6.out.on hb7); clear hb7 HS6 a0 a1 a2)
              | (go_at_call 15; (with_reducible refine ((CVa _).out.mono ?_)); rintro e w8 ⟨rfl, hb8⟩; have HS8 := Lib.hid (HS7.out.on hb8); clear hb8 HS7 CVa; have b0 := HS8.out.t.B.c0; have b1 := HS8.out.t.B.c1; have b2 := HS8.out.t.B.c2)
              | (go_at_call 16; (with_reducible refine ((CMb _ HS8.out.D).out.mono ?_)); rintro e w9 ⟨rfl, hb9⟩; have HS9 := Lib.hid (HS8.out.on hb9); clear hb9 HS8 b0 b1 b2)
              | (go_at_call 15; (with_reducible refine ((CVb _).out.mono ?_)); rintro e w10 ⟨rfl, hb10⟩; have HS10 := Lib.hid (HS9.out.on hb10); clear hb10 HS9 CVb; have c0 := HS10.out.t.C.c0; have c1 := HS10.out.t.C.c1; have c2 := HS10.out.t.C.c2)
              | (go_at_call 16; (with_reducible refine ((CMc _ HS10.out.D).out.mono ?_)); rintro e w11 ⟨rfl, hb11⟩; have HS11 := Lib.hid (HS10.out.on hb11); clear hb11 HS10 c0 c1 c2)
              | (go_at_call 15; (with_reducible refine ((CVc _).out.mono ?_)); rintro e w12 ⟨rfl, hb12⟩; have HS12 := Lib.hid (HS11.out.on hb12); clear hb12 HS11 CVc))
            have LA0 := Lib.hid (And.intro HS12.out.t.A.c0 HS12.out.t.A.lt)
            have LA1 := Lib.hid (And.intro HS12.out.t.A.c1 HS12.out.t.A.lt)
            have LA2 := Lib.hid (And.intro HS12.out.t.A.c2 HS12.out.t.A.lt)
            have LB0 := Lib.hid (And.intro HS12.out.t.B.c0 HS12.out.t.B.lt)
            have LB1 := Lib.hid (And.intro HS12.out.t.B.c1 HS12.out.t.B.lt)
            have LB2 := Lib.hid (And.intro HS12.out.t.B.c2 HS12.out.t.B.lt)
            have LC0 := Lib.hid (And.intro HS12.out.t.C.c0 HS12.out.t.C.lt)
            have LC1 := Lib.hid (And.intro HS12.out.t.C.c1 HS12.out.t.C.lt)
            have LC2 := Lib.hid (And.intro HS12.out.t.C.c2 HS12.out.t.C.lt)
            have CMA : Hid (∀ W, Below w12.heap.size w12 W → Calls Tryd.prog 16 #[.agg #[.int .i64 a.x, .int .i64 a.y, .int .i64 a.z], .pointer (some ⟨b8, 0, none⟩)] W fun e w' => e = .returned (.agg #[.int .i64 ma.x, .int .i64 ma.y, .int .i64 ma.z]) ∧ Below W.heap.size W w') := fun W hW => (CMa W (HS12.out.D.on hW)).out
            have CMB : Hid (∀ W, Below w12.heap.size w12 W → Calls Tryd.prog 16 #[.agg #[.int .i64 b.x, .int .i64 b.y, .int .i64 b.z], .pointer (some ⟨b8, 0, none⟩)] W fun e w' => e = .returned (.agg #[.int .i64 mb.x, .int .i64 mb.y, .int .i64 mb.z]) ∧ Below W.heap.size W w') := fun W hW => (CMb W (HS12.out.D.on hW)).out
            have CMC : Hid (∀ W, Below w12.heap.size w12 W → Calls Tryd.prog 16 #[.agg #[.int .i64 c.x, .int .i64 c.y, .int .i64 c.z], .pointer (some ⟨b8, 0, none⟩)] W fun e w' => e = .returned (.agg #[.int .i64 mc.x, .int .i64 mc.y, .int .i64 mc.z]) ∧ Below W.heap.size W w') := fun W hW => (CMc W (HS12.out.D.on hW)).out
            refine wp_region_each (fun L A W => ∃ (v : Nat → Value), A = ⟨#[_, _, _, _, _, _, _, _, _, _, _, _, _, _, _, _, _, _, v 18, v 19, _, _, _, _, _, _, _, _, _, _, _, _, _, _, _, _, _, _, _, _, _, _, _, _, _, _, _, _, _, _, _, _, _, _, _, _, _, _, _, _, _, _, _, _, _, _, _, _, _, _, _, _, _, _, _, _, _, _, _, _, _, _, _, _, _, _, _, _, _, _, _, _, _, _, _, _, _, _, _, _, _, _, _, _, _, _, _, _, v 108, v 109, v 110, v 111, v 112, v 113, v 114, v 115, v 116, v 117, v 118, v 119, v 120, _, _, _, _, _, _, _, _, _, _, _, _, _, _, _, _, _, _, _, _, _, _, _, _, _, _, _, _, _, _, _, _, _, _, _, _, _, _, _, _, _, _, _, _, _, _, _, _, _, _, _, _, _, _, _, _, _, _, _, _, _, _, _, _, _, _, _, _, _, _, _, _, _, _, _, _, _, _, _, _, _, _, _, _, _, _, _, _, _, _, _, _, _, _, _, _, _, _, _, _, _, _, _, _], []⟩ ∧ Vt15R b5 b6 b7 b8 a b c ma mb mc t1 w12 L v W) (by kernel_rfl) (by kernel_rfl) ⟨fun jz => if jz = 109 then undef else if jz = 110 then undef else if jz = 111 then undef else if jz = 112 then undef else if jz = 113 then undef else if jz = 114 then undef else if jz = 115 then undef else if jz = 116 then undef else if jz = 117 then undef else if jz = 118 then undef else if jz = 108 then undef else if jz = 119 then undef else if jz = 120 then undef else if jz = 18 then undef else if jz = 19 then undef else undef, rfl, ⟨Below.drew (Below.refl _ _), Had.none, Had.none, Had.none, Had.none, Had.none, Had.none, Had.none, Had.none, Had.none, Had.none, Had.none, Had.none, Had.none, Had.none, Had.none, Had.none, Had.none, Had.none, Had.none, Had.none, Had.none, Had.none, Had.none, Had.none⟩⟩ (rs := [0, 1, 2, 3, 4, 5, 6, 7, 8, 9, 10, 11, 12, 13, 14]) (by kernel_rfl) ?_ ?_
            · refine EachOf.cons [] rfl (by kernel_rfl) ?_ ?_
              · rintro L A W ⟨v, rfl, hR⟩ hi hw K hK
                go_simp
                refine hK.out _ _ ?_
                exact ⟨(fun jz => if jz = 109 then .func (.func 16) #[] #[.pointer (some ⟨b8, 0, none⟩)] else v jz), rfl, ⟨hR.st, hR.w2.o, hR.w5.o, hR.w8.o, hR.w9.o, hR.w10.o, hR.w11.o, hR.w12.o, hR.w13.o, hR.w14.o, (fun _ => rfl), hR.f1.k, hR.f2.k, hR.f3.k, hR.f4.k, hR.f5.k, hR.f6.k, hR.f7.k, hR.f8.k, hR.f9.k, hR.f10.k, hR.f11.k, hR.f12.k, hR.f13.k, hR.f14.k⟩⟩
              refine EachOf.cons [] rfl (by kernel_rfl) ?_ ?_
              · rintro L A W ⟨v, rfl, hR⟩ hi hw K hK
                have q0 := (hR.st.cell (p := ⟨b5, 0, none⟩) LA0.out.2).trans LA0.out.1
                have q1 := (hR.st.cell (p := ⟨b5, 1, none⟩) LA1.out.2).trans LA1.out.1
                have q2 := (hR.st.cell (p := ⟨b5, 2, none⟩) LA2.out.2).trans LA2.out.1
                go_simp
                refine hK.out _ _ ?_
                exact ⟨(fun jz => if jz = 110 then .agg #[.int .i64 a.x, .int .i64 a.y, .int .i64 a.z] else v jz), rfl, ⟨hR.st, hR.w2.o, hR.w5.o, hR.w8.o, hR.w9.o, hR.w10.o, hR.w11.o, hR.w12.o, hR.w13.o, hR.w14.o, hR.f0.k, (fun _ => rfl), hR.f2.k, hR.f3.k, hR.f4.k, hR.f5.k, hR.f6.k, hR.f7.k, hR.f8.k, hR.f9.k, hR.f10.k, hR.f11.k, hR.f12.k, hR.f13.k, hR.f14.k⟩⟩
              refine EachOf.cons [0, 1] rfl (by kernel_rfl) ?_ ?_
              · rintro L A W ⟨v, rfl, hR⟩ hi hw K hK
                have e0 := hR.f0 (hw 0 (by simp))
                have e1 := hR.f1 (hw 1 (by simp))
                simp only [e0, e1]
                clear e0 e1
                go_simp
                go_at_call 16
                (with_reducible refine ((CMA.out _ hR.st)).mono ?_)
                rintro e w2 ⟨rfl, hb⟩
                go_simp
                refine hK.out _ _ ?_
                exact ⟨(fun jz => if jz = 109 then .func (.func 16) #[] #[.pointer (some ⟨b8, 0, none⟩)] else if jz = 110 then .agg #[.int .i64 a.x, .int .i64 a.y, .int .i64 a.z] else if jz = 111 then .agg #[.int .i64 ma.x, .int .i64 ma.y, .int .i64 ma.z] else v jz), rfl, ⟨below_on hR.st hb, (fun _ j hj => upd_on (hw j hj)), hR.w5.o, hR.w8.o, hR.w9.o, hR.w10.o, hR.w11.o, hR.w12.o, hR.w13.o, hR.w14.o, (fun _ => rfl), (fun _ => rfl), (fun _ => rfl), hR.f3.k, hR.f4.k, hR.f5.k, hR.f6.k, hR.f7.k, hR.f8.k, hR.f9.k, hR.f10.k, hR.f11.k, hR.f12.k, hR.f13.k, hR.f14.k⟩⟩
              refine EachOf.cons [] rfl (by kernel_rfl) ?_ ?_
              · rintro L A W ⟨v, rfl, hR⟩ hi hw K hK
                go_simp
                refine hK.out _ _ ?_
                exact ⟨(fun jz => if jz = 112 then .func (.func 16) #[] #[.pointer (some ⟨b8, 0, none⟩)] else v jz), rfl, ⟨hR.st, hR.w2.o, hR.w5.o, hR.w8.o, hR.w9.o, hR.w10.o, hR.w11.o, hR.w12.o, hR.w13.o, hR.w14.o, hR.f0.k, hR.f1.k, hR.f2.k, (fun _ => rfl), hR.f4.k, hR.f5.k, hR.f6.k, hR.f7.k, hR.f8.k, hR.f9.k, hR.f10.k, hR.f11.k, hR.f12.k, hR.f13.k, hR.f14.k⟩⟩
              refine EachOf.cons [] rfl (by kernel_rfl) ?_ ?_
              · rintro L A W ⟨v, rfl, hR⟩ hi hw K hK
                have q0 := (hR.st.cell (p := ⟨b6, 0, none⟩) LB0.out.2).trans LB0.out.1
                have q1 := (hR.st.cell (p := ⟨b6, 1, none⟩) LB1.out.2).trans LB1.out.1
                have q2 := (hR.st.cell (p := ⟨b6, 2, none⟩) LB2.out.2).trans LB2.out.1
                go_simp
                refine hK.out _ _ ?_
                exact ⟨(fun jz => if jz = 113 then .agg #[.int .i64 b.x, .int .i64 b.y, .int .i64 b.z] else v jz), rfl, ⟨hR.st, hR.w2.o, hR.w5.o, hR.w8.o, hR.w9.o, hR.w10.o, hR.w11.o, hR.w12.o, hR.w13.o, hR.w14.o, hR.f0.k, hR.f1.k, hR.f2.k, hR.f3.k, (fun _ => rfl), hR.f5.k, hR.f6.k, hR.f7.k, hR.f8.k, hR.f9.k, hR.f10.k, hR.f11.k, hR.f12.k, hR.f13.k, hR.f14.k⟩⟩
              refine EachOf.cons [3, 4] rfl (by kernel_rfl) ?_ ?_
              · rintro L A W ⟨v, rfl, hR⟩ hi hw K hK
                have e3 := hR.f3 (hw 3 (by simp))
                have e4 := hR.f4 (hw 4 (by simp))
                simp only [e3, e4]
                clear e3 e4
                go_simp
                go_at_call 16
                (with_reducible refine ((CMB.out _ hR.st)).mono ?_)
                rintro e w2 ⟨rfl, hb⟩
                go_simp
                refine hK.out _ _ ?_
                exact ⟨(fun jz => if jz = 112 then .func (.func 16) #[] #[.pointer (some ⟨b8, 0, none⟩)] else if jz = 113 then .agg #[.int .i64 b.x, .int .i64 b.y, .int .i64 b.z] else if jz = 114 then .agg #[.int .i64 mb.x, .int .i64 mb.y, .int .i64 mb.z] else v jz), rfl, ⟨below_on hR.st hb, hR.w2.o, (fun _ j hj => upd_on (hw j hj)), hR.w8.o, hR.w9.o, hR.w10.o, hR.w11.o, hR.w12.o, hR.w13.o, hR.w14.o, hR.f0.k, hR.f1.k, hR.f2.k, (fun _ => rfl), (fun _ => rfl), (fun _ => rfl), hR.f6.k, hR.f7.k, hR.f8.k, hR.f9.k, hR.f10.k, hR.f11.k, hR.f12.k, hR.f13.k, hR.f14.k⟩⟩
              refine EachOf.cons [] rfl (by kernel_rfl) ?_ ?_
              · rintro L A W ⟨v, rfl, hR⟩ hi hw K hK
                go_simp
                refine hK.out _ _ ?_
                exact ⟨(fun jz => if jz = 115 then .func (.func 16) #[] #[.pointer (some ⟨b8, 0, none⟩)] else v jz), rfl, ⟨hR.st, hR.w2.o, hR.w5.o, hR.w8.o, hR.w9.o, hR.w10.o, hR.w11.o, hR.w12.o, hR.w13.o, hR.w14.o, hR.f0.k, hR.f1.k, hR.f2.k, hR.f3.k, hR.f4.k, hR.f5.k, (fun _ => rfl), hR.f7.k, hR.f8.k, hR.f9.k, hR.f10.k, hR.f11.k, hR.f12.k, hR.f13.k, hR.f14.k⟩⟩
              refine EachOf.cons [] rfl (by kernel_rfl) ?_ ?_
              · rintro L A W ⟨v, rfl, hR⟩ hi hw K hK
                have q0 := (hR.st.cell (p := ⟨b7, 0, none⟩) LC0.out.2).trans LC0.out.1
                have q1 := (hR.st.cell (p := ⟨b7, 1, none⟩) LC1.out.2).trans LC1.out.1
                have q2 := (hR.st.cell (p := ⟨b7, 2, none⟩) LC2.out.2).trans LC2.out.1
                go_simp
                refine hK.out _ _ ?_
                exact ⟨(fun jz => if jz = 116 then .agg #[.int .i64 c.x, .int .i64 c.y, .int .i64 c.z] else v jz), rfl, ⟨hR.st, hR.w2.o, hR.w5.o, hR.w8.o, hR.w9.o, hR.w10.o, hR.w11.o, hR.w12.o, hR.w13.o, hR.w14.o, hR.f0.k, hR.f1.k, hR.f2.k, hR.f3.k, hR.f4.k, hR.f5.k, hR.f6.k, (fun _ => rfl), hR.f8.k, hR.f9.k, hR.f10.k, hR.f11.k, hR.f12.k, hR.f13.k, hR.f14.k⟩⟩
              refine EachOf.cons [6, 7] rfl (by kernel_rfl) ?_ ?_
              · rintro L A W ⟨v, rfl, hR⟩ hi hw K hK
                have e6 := hR.f6 (hw 6 (by simp))
                have e7 := hR.f7 (hw 7 (by simp))
                simp only [e6, e7]
                clear e6 e7
                go_simp
                go_at_call 16
                (with_reducible refine ((CMC.out _ hR.st)).mono ?_)
                rintro e w2 ⟨rfl, hb⟩
                go_simp
                refine hK.out _ _ ?_
                exact ⟨(fun jz => if jz = 115 then .func (.func 16) #[] #[.pointer (some ⟨b8, 0, none⟩)] else if jz = 116 then .agg #[.int .i64 c.x, .int .i64 c.y, .int .i64 c.z] else if jz = 117 then .agg #[.int .i64 mc.x, .int .i64 mc.y, .int .i64 mc.z] else v jz), rfl, ⟨below_on hR.st hb, hR.w2.o, hR.w5.o, (fun _ j hj => upd_on (hw j hj)), hR.w9.o, hR.w10.o, hR.w11.o, hR.w12.o, hR.w13.o, hR.w14.o, hR.f0.k, hR.f1.k, hR.f2.k, hR.f3.k, hR.f4.k, hR.f5.k, (fun _ => rfl), (fun _ => rfl), (fun _ => rfl), hR.f9.k, hR.f10.k, hR.f11.k, hR.f12.k, hR.f13.k, hR.f14.k⟩⟩
              refine EachOf.cons [2, 5, 8] rfl (by kernel_rfl) ?_ ?_
              · rintro L A W ⟨v, rfl, hR⟩ hi hw K hK
                have e2 := hR.f2 (hw 2 (by simp))
                have e5 := hR.f5 (hw 5 (by simp))
                have e8 := hR.f8 (hw 8 (by simp))
                simp only [e2, e5, e8]
                clear e2 e5 e8
                go_simp
                go_at_call 14
                (with_reducible refine ((CTm _).out).mono ?_)
                rintro e w2 ⟨rfl, hb⟩
                go_simp
                refine hK.out _ _ ?_
                exact ⟨(fun jz => if jz = 111 then .agg #[.int .i64 ma.x, .int .i64 ma.y, .int .i64 ma.z] else if jz = 114 then .agg #[.int .i64 mb.x, .int .i64 mb.y, .int .i64 mb.z] else if jz = 117 then .agg #[.int .i64 mc.x, .int .i64 mc.y, .int .i64 mc.z] else if jz = 118 then .tuple #[.int .i64 t1, .int .i64 0] else v jz), rfl, ⟨below_on hR.st hb, hR.w2.o, hR.w5.o, hR.w8.o, (fun _ j hj => upd_on (hw j hj)), hR.w10.o, hR.w11.o, hR.w12.o, hR.w13.o, hR.w14.o, hR.f0.k, hR.f1.k, (fun _ => rfl), hR.f3.k, hR.f4.k, (fun _ => rfl), hR.f6.k, hR.f7.k, (fun _ => rfl), (fun _ => rfl), hR.f10.k, hR.f11.k, hR.f12.k, hR.f13.k, hR.f14.k⟩⟩
              refine EachOf.cons [9] rfl (by kernel_rfl) ?_ ?_
              · rintro L A W ⟨v, rfl, hR⟩ hi hw K hK
                have e9 := hR.f9 (hw 9 (by simp))
                simp only [e9]
                clear e9
                go_simp
                refine hK.out _ _ ?_
                exact ⟨(fun jz => if jz = 118 then .tuple #[.int .i64 t1, .int .i64 0] else if jz = 108 then .tuple #[.int .i64 t1, .int .i64 0] else v jz), rfl, ⟨hR.st, hR.w2.o, hR.w5.o, hR.w8.o, hR.w9.o, (fun _ j hj => upd_on (hw j hj)), hR.w11.o, hR.w12.o, hR.w13.o, hR.w14.o, hR.f0.k, hR.f1.k, hR.f2.k, hR.f3.k, hR.f4.k, hR.f5.k, hR.f6.k, hR.f7.k, hR.f8.k, (fun _ => rfl), (fun _ => rfl), hR.f11.k, hR.f12.k, hR.f13.k, hR.f14.k⟩⟩
              refine EachOf.cons [10] rfl (by kernel_rfl) ?_ ?_
              · rintro L A W ⟨v, rfl, hR⟩ hi hw K hK
                have e10 := hR.f10 (hw 10 (by simp))
                simp only [e10]
                clear e10
                go_simp
                refine hK.out _ _ ?_
                exact ⟨(fun jz => if jz = 108 then .tuple #[.int .i64 t1, .int .i64 0] else if jz = 119 then .int .i64 t1 else v jz), rfl, ⟨hR.st, hR.w2.o, hR.w5.o, hR.w8.o, hR.w9.o, hR.w10.o, (fun _ j hj => upd_on (hw j hj)), hR.w12.o, hR.w13.o, hR.w14.o, hR.f0.k, hR.f1.k, hR.f2.k, hR.f3.k, hR.f4.k, hR.f5.k, hR.f6.k, hR.f7.k, hR.f8.k, hR.f9.k, (fun _ => rfl), (fun _ => rfl), hR.f12.k, hR.f13.k, hR.f14.k⟩⟩
              refine EachOf.cons [10] rfl (by kernel_rfl) ?_ ?_
              · rintro L A W ⟨v, rfl, hR⟩ hi hw K hK
                have e10 := hR.f10 (hw 10 (by simp))
                simp only [e10]
                clear e10
                go_simp
                refine hK.out _ _ ?_
                exact ⟨(fun jz => if jz = 108 then .tuple #[.int .i64 t1, .int .i64 0] else if jz = 120 then .int .i64 0 else v jz), rfl, ⟨hR.st, hR.w2.o, hR.w5.o, hR.w8.o, hR.w9.o, hR.w10.o, hR.w11.o, (fun _ j hj => upd_on (hw j hj)), hR.w13.o, hR.w14.o, hR.f0.k, hR.f1.k, hR.f2.k, hR.f3.k, hR.f4.k, hR.f5.k, hR.f6.k, hR.f7.k, hR.f8.k, hR.f9.k, (fun _ => rfl), hR.f11.k, (fun _ => rfl), hR.f13.k, hR.f14.k⟩⟩
              refine EachOf.cons [11] rfl (by kernel_rfl) ?_ ?_
              · rintro L A W ⟨v, rfl, hR⟩ hi hw K hK
                have e11 := hR.f11 (hw 11 (by simp))
                simp only [e11]
                clear e11
                go_simp
                refine hK.out _ _ ?_
                exact ⟨(fun jz => if jz = 119 then .int .i64 t1 else if jz = 18 then .int .i64 t1 else v jz), rfl, ⟨hR.st, hR.w2.o, hR.w5.o, hR.w8.o, hR.w9.o, hR.w10.o, hR.w11.o, hR.w12.o, (fun _ j hj => upd_on (hw j hj)), hR.w14.o, hR.f0.k, hR.f1.k, hR.f2.k, hR.f3.k, hR.f4.k, hR.f5.k, hR.f6.k, hR.f7.k, hR.f8.k, hR.f9.k, hR.f10.k, (fun _ => rfl), hR.f12.k, (fun _ => rfl), hR.f14.k⟩⟩
              refine EachOf.cons [12] rfl (by kernel_rfl) ?_ ?_
              · rintro L A W ⟨v, rfl, hR⟩ hi hw K hK
                have e12 := hR.f12 (hw 12 (by simp))
                simp only [e12]
                clear e12
                go_simp
                refine hK.out _ _ ?_
                exact ⟨(fun jz => if jz = 120 then .int .i64 0 else if jz = 19 then .int .i64 0 else v jz), rfl, ⟨hR.st, hR.w2.o, hR.w5.o, hR.w8.o, hR.w9.o, hR.w10.o, hR.w11.o, hR.w12.o, hR.w13.o, (fun _ j hj => upd_on (hw j hj)), hR.f0.k, hR.f1.k, hR.f2.k, hR.f3.k, hR.f4.k, hR.f5.k, hR.f6.k, hR.f7.k, hR.f8.k, hR.f9.k, hR.f10.k, hR.f11.k, (fun _ => rfl), hR.f13.k, (fun _ => rfl)⟩⟩
              exact EachOf.nil
            rintro L A W13 ⟨vs, rfl, hR⟩ hL
            have e13 := hR.f13 (hL 13 (by simp))
            have e14 := hR.f14 (hL 14 (by simp))
            simp only [e13, e14]
            have HS13 := Lib.hid (HS12.out.on hR.st)
            clear hR hL e13 e14 HS12 LA0 LA1 LA2 LB0 LB1 LB2 LC0 LC1 LC2 CMA CMB CMC CTm
            have a0 := HS13.out.t.A.c0
            have a1 := HS13.out.t.A.c1
            have a2 := HS13.out.t.A.c2
            have b0 := HS13.out.t.B.c0
            have b1 := HS13.out.t.B.c1
            have b2 := HS13.out.t.B.c2
            go_upto_region 17 with (go_at_call 17; (with_reducible refine ((CSq _).out.mono ?_)); rintro e w14 ⟨rfl, hb14⟩; have HS14 := Lib.hid (HS13.out.on hb14); clear hb14 HS13 CSq a0 a1 a2 b0 b1 b2)
            have LA0 := Lib.hid (And.intro HS14.out.t.A.c0 HS14.out.t.A.lt)
            have LA1 := Lib.hid (And.intro HS14.out.t.A.c1 HS14.out.t.A.lt)
            have LA2 := Lib.hid (And.intro HS14.out.t.A.c2 HS14.out.t.A.lt)
            have LB0 := Lib.hid (And.intro HS14.out.t.B.c0 HS14.out.t.B.lt)
            have LB1 := Lib.hid (And.intro HS14.out.t.B.c1 HS14.out.t.B.lt)
            have LB2 := Lib.hid (And.intro HS14.out.t.B.c2 HS14.out.t.B.lt)
            have CMA : Hid (∀ W, Below w14.heap.size w14 W → Calls Tryd.prog 16 #[.agg #[.int .i64 a.x, .int .i64 a.y, .int .i64 a.z], .pointer (some ⟨b8, 0, none⟩)] W fun e w' => e = .returned (.agg #[.int .i64 ma.x, .int .i64 ma.y, .int .i64 ma.z]) ∧ Below W.heap.size W w') := fun W hW => (CMa W (HS14.out.D.on hW)).out
            have CMB : Hid (∀ W, Below w14.heap.size w14 W → Calls Tryd.prog 16 #[.agg #[.int .i64 b.x, .int .i64 b.y, .int .i64 b.z], .pointer (some ⟨b8, 0, none⟩)] W fun e w' => e = .returned (.agg #[.int .i64 mb.x, .int .i64 mb.y, .int .i64 mb.z]) ∧ Below W.heap.size W w') := fun W hW => (CMb W (HS14.out.D.on hW)).out
            refine wp_region_each (fun L A W => ∃ (v : Nat → Value), A = ⟨#[_, _, _, _, _, _, _, _, _, _, _, _, _, _, _, _, _, _, _, _, _, _, v 22, v 23, _, _, _, _, _, _, _, _, _, _, _, _, _, _, _, _, _, _, _, _, _, _, _, _, _, _, _, _, _, _, _, _, _, _, _, _, _, _, _, _, _, _, _, _, _, _, _, _, _, _, _, _, _, _, _, _, _, _, _, _, _, _, _, _, _, _, _, _, _, _, _, _, _, _, _, _, _, _, _, _, _, _, _, _, _, _, _, _, _, _, _, _, _, _, _, _, _, _, _, _, _, _, _, v 127, v 128, v 129, v 130, v 131, v 132, v 133, v 134, v 135, v 136, _, _, _, _, _, _, _, _, _, _, _, _, _, _, _, _, _, _, _, _, _, _, _, _, _, _, _, _, _, _, _, _, _, _, _, _, _, _, _, _, _, _, _, _, _, _, _, _, _, _, _, _, _, _, _, _, _, _, _, _, _, _, _, _, _, _, _, _, _, _, _, _, _, _, _, _, _, _, _, _, _, _, _, _, _, _, _, _], []⟩ ∧ Vt17R b5 b6 b8 a b ma mb sq w14 L v W) (by kernel_rfl) (by kernel_rfl) ⟨fun jz => if jz = 128 then undef else if jz = 129 then undef else if jz = 130 then undef else if jz = 131 then undef else if jz = 132 then undef else if jz = 133 then undef else if jz = 134 then undef else if jz = 127 then undef else if jz = 135 then undef else if jz = 136 then undef else if jz = 22 then undef else if jz = 23 then undef else undef, rfl, ⟨Below.drew (Below.refl _ _), Had.none, Had.none, Had.none, Had.none, Had.none, Had.none, Had.none, Had.none, Had.none, Had.none, Had.none, Had.none, Had.none, Had.none, Had.none, Had.none, Had.none, Had.none, Had.none, Had.none⟩⟩ (rs := [0, 1, 2, 3, 4, 5, 6, 7, 8, 9, 10, 11]) (by kernel_rfl) ?_ ?_
            · refine EachOf.cons [] rfl (by kernel_rfl) ?_ ?_
              · rintro L A W ⟨v, rfl, hR⟩ hi hw K hK
                go_simp
                refine hK.out _ _ ?_
                exact ⟨(fun jz => if jz = 128 then .func (.func 16) #[] #[.pointer (some ⟨b8, 0, none⟩)] else v jz), rfl, ⟨hR.st, hR.w2.o, hR.w5.o, hR.w6.o, hR.w7.o, hR.w8.o, hR.w9.o, hR.w10.o, hR.w11.o, (fun _ => rfl), hR.f1.k, hR.f2.k, hR.f3.k, hR.f4.k, hR.f5.k, hR.f6.k, hR.f7.k, hR.f8.k, hR.f9.k, hR.f10.k, hR.f11.k⟩⟩
              refine EachOf.cons [] rfl (by kernel_rfl) ?_ ?_
              · rintro L A W ⟨v, rfl, hR⟩ hi hw K hK
                have q0 := (hR.st.cell (p := ⟨b5, 0, none⟩) LA0.out.2).trans LA0.out.1
                have q1 := (hR.st.cell (p := ⟨b5, 1, none⟩) LA1.out.2).trans LA1.out.1
                have q2 := (hR.st.cell (p := ⟨b5, 2, none⟩) LA2.out.2).trans LA2.out.1
                go_simp
                refine hK.out _ _ ?_
                exact ⟨(fun jz => if jz = 129 then .agg #[.int .i64 a.x, .int .i64 a.y, .int .i64 a.z] else v jz), rfl, ⟨hR.st, hR.w2.o, hR.w5.o, hR.w6.o, hR.w7.o, hR.w8.o, hR.w9.o, hR.w10.o, hR.w11.o, hR.f0.k, (fun _ => rfl), hR.f2.k, hR.f3.k, hR.f4.k, hR.f5.k, hR.f6.k, hR.f7.k, hR.f8.k, hR.f9.k, hR.f10.k, hR.f11.k⟩⟩
              refine EachOf.cons [0, 1] rfl (by kernel_rfl) ?_ ?_
              · rintro L A W ⟨v, rfl, hR⟩ hi hw K hK
                have e0 := hR.f0 (hw 0 (by simp))
                have e1 := hR.f1 (hw 1 (by simp))
                simp only [e0, e1]
                clear e0 e1
                go_simp
                go_at_call 16
                (with_reducible refine ((CMA.out _ hR.st)).mono ?_)
                rintro e w2 ⟨rfl, hb⟩
                go_simp
                refine hK.out _ _ ?_
                exact ⟨(fun jz => if jz = 128 then .func (.func 16) #[] #[.pointer (some ⟨b8, 0, none⟩)] else if jz = 129 then .agg #[.int .i64 a.x, .int .i64 a.y, .int .i64 a.z] else if jz = 130 then .agg #[.int .i64 ma.x, .int .i64 ma.y, .int .i64 ma.z] else v jz), rfl, ⟨below_on hR.st hb, (fun _ j hj => upd_on (hw j hj)), hR.w5.o, hR.w6.o, hR.w7.o, hR.w8.o, hR.w9.o, hR.w10.o, hR.w11.o, (fun _ => rfl), (fun _ => rfl), (fun _ => rfl), hR.f3.k, hR.f4.k, hR.f5.k, hR.f6.k, hR.f7.k, hR.f8.k, hR.f9.k, hR.f10.k, hR.f11.k⟩⟩
              refine EachOf.cons [] rfl (by kernel_rfl) ?_ ?_
              · rintro L A W ⟨v, rfl, hR⟩ hi hw K hK
                go_simp
                refine hK.out _ _ ?_
                exact ⟨(fun jz => if jz = 131 then .func (.func 16) #[] #[.pointer (some ⟨b8, 0, none⟩)] else v jz), rfl, ⟨hR.st, hR.w2.o, hR.w5.o, hR.w6.o, hR.w7.o, hR.w8.o, hR.w9.o, hR.w10.o, hR.w11.o, hR.f0.k, hR.f1.k, hR.f2.k, (fun _ => rfl), hR.f4.k, hR.f5.k, hR.f6.k, hR.f7.k, hR.f8.k, hR.f9.k, hR.f10.k, hR.f11.k⟩⟩
              refine EachOf.cons [] rfl (by kernel_rfl) ?_ ?_
              · rintro L A W ⟨v, rfl, hR⟩ hi hw K hK
                have q0 := (hR.st.cell (p := ⟨b6, 0, none⟩) LB0.out.2).trans LB0.out.1
                have q1 := (hR.st.cell (p := ⟨b6, 1, none⟩) LB1.out.2).trans LB1.out.1
                have q2 := (hR.st.cell (p := ⟨b6, 2, none⟩) LB2.out.2).trans LB2.out.1
                go_simp
                refine hK.out _ _ ?_
                exact ⟨(fun jz => if jz = 132 then .agg #[.int .i64 b.x, .int .i64 b.y, .int .i64 b.z] else v jz), rfl, ⟨hR.st, hR.w2.o, hR.w5.o, hR.w6.o, hR.w7.o, hR.w8.o, hR.w9.o, hR.w10.o, hR.w11.o, hR.f0.k, hR.f1.k, hR.f2.k, hR.f3.k, (fun _ => rfl), hR.f5.k, hR.f6.k, hR.f7.k, hR.f8.k, hR.f9.k, hR.f10.k, hR.f11.k⟩⟩
              refine EachOf.cons [3, 4] rfl (by kernel_rfl) ?_ ?_
              · rintro L A W ⟨v, rfl, hR⟩ hi hw K hK
                have e3 := hR.f3 (hw 3 (by simp))
                have e4 := hR.f4 (hw 4 (by simp))
                simp only [e3, e4]
                clear e3 e4
                go_simp
                go_at_call 16
                (with_reducible refine ((CMB.out _ hR.st)).mono ?_)
                rintro e w2 ⟨rfl, hb⟩
                go_simp
                refine hK.out _ _ ?_
                exact ⟨(fun jz => if jz = 131 then .func (.func 16) #[] #[.pointer (some ⟨b8, 0, none⟩)] else if jz = 132 then .agg #[.int .i64 b.x, .int .i64 b.y, .int .i64 b.z] else if jz = 133 then .agg #[.int .i64 mb.x, .int .i64 mb.y, .int .i64 mb.z] else v jz), rfl, ⟨below_on hR.st hb, hR.w2.o, (fun _ j hj => upd_on (hw j hj)), hR.w6.o, hR.w7.o, hR.w8.o, hR.w9.o, hR.w10.o, hR.w11.o, hR.f0.k, hR.f1.k, hR.f2.k, (fun _ => rfl), (fun _ => rfl), (fun _ => rfl), hR.f6.k, hR.f7.k, hR.f8.k, hR.f9.k, hR.f10.k, hR.f11.k⟩⟩
              refine EachOf.cons [2, 5] rfl (by kernel_rfl) ?_ ?_
              · rintro L A W ⟨v, rfl, hR⟩ hi hw K hK
                have e2 := hR.f2 (hw 2 (by simp))
                have e5 := hR.f5 (hw 5 (by simp))
                simp only [e2, e5]
                clear e2 e5
                go_simp
                go_at_call 17
                (with_reducible refine ((CSm _).out).mono ?_)
                rintro e w2 ⟨rfl, hb⟩
                go_simp
                refine hK.out _ _ ?_
                exact ⟨(fun jz => if jz = 130 then .agg #[.int .i64 ma.x, .int .i64 ma.y, .int .i64 ma.z] else if jz = 133 then .agg #[.int .i64 mb.x, .int .i64 mb.y, .int .i64 mb.z] else if jz = 134 then .tuple #[.int .i64 sq, .int .i64 0] else v jz), rfl, ⟨below_on hR.st hb, hR.w2.o, hR.w5.o, (fun _ j hj => upd_on (hw j hj)), hR.w7.o, hR.w8.o, hR.w9.o, hR.w10.o, hR.w11.o, hR.f0.k, hR.f1.k, (fun _ => rfl), hR.f3.k, hR.f4.k, (fun _ => rfl), (fun _ => rfl), hR.f7.k, hR.f8.k, hR.f9.k, hR.f10.k, hR.f11.k⟩⟩
              refine EachOf.cons [6] rfl (by kernel_rfl) ?_ ?_
              · rintro L A W ⟨v, rfl, hR⟩ hi hw K hK
                have e6 := hR.f6 (hw 6 (by simp))
                simp only [e6]
                clear e6
                go_simp
                refine hK.out _ _ ?_
                exact ⟨(fun jz => if jz = 134 then .tuple #[.int .i64 sq, .int .i64 0] else if jz = 127 then .tuple #[.int .i64 sq, .int .i64 0] else v jz), rfl, ⟨hR.st, hR.w2.o, hR.w5.o, hR.w6.o, (fun _ j hj => upd_on (hw j hj)), hR.w8.o, hR.w9.o, hR.w10.o, hR.w11.o, hR.f0.k, hR.f1.k, hR.f2.k, hR.f3.k, hR.f4.k, hR.f5.k, (fun _ => rfl), (fun _ => rfl), hR.f8.k, hR.f9.k, hR.f10.k, hR.f11.k⟩⟩
              refine EachOf.cons [7] rfl (by kernel_rfl) ?_ ?_
              · rintro L A W ⟨v, rfl, hR⟩ hi hw K hK
                have e7 := hR.f7 (hw 7 (by simp))
                simp only [e7]
                clear e7
                go_simp
                refine hK.out _ _ ?_
                exact ⟨(fun jz => if jz = 127 then .tuple #[.int .i64 sq, .int .i64 0] else if jz = 135 then .int .i64 sq else v jz), rfl, ⟨hR.st, hR.w2.o, hR.w5.o, hR.w6.o, hR.w7.o, (fun _ j hj => upd_on (hw j hj)), hR.w9.o, hR.w10.o, hR.w11.o, hR.f0.k, hR.f1.k, hR.f2.k, hR.f3.k, hR.f4.k, hR.f5.k, hR.f6.k, (fun _ => rfl), (fun _ => rfl), hR.f9.k, hR.f10.k, hR.f11.k⟩⟩
              refine EachOf.cons [7] rfl (by kernel_rfl) ?_ ?_
              · rintro L A W ⟨v, rfl, hR⟩ hi hw K hK
                have e7 := hR.f7 (hw 7 (by simp))
                simp only [e7]
                clear e7
                go_simp
                refine hK.out _ _ ?_
                exact ⟨(fun jz => if jz = 127 then .tuple #[.int .i64 sq, .int .i64 0] else if jz = 136 then .int .i64 0 else v jz), rfl, ⟨hR.st, hR.w2.o, hR.w5.o, hR.w6.o, hR.w7.o, hR.w8.o, (fun _ j hj => upd_on (hw j hj)), hR.w10.o, hR.w11.o, hR.f0.k, hR.f1.k, hR.f2.k, hR.f3.k, hR.f4.k, hR.f5.k, hR.f6.k, (fun _ => rfl), hR.f8.k, (fun _ => rfl), hR.f10.k, hR.f11.k⟩⟩
              refine EachOf.cons [8] rfl (by kernel_rfl) ?_ ?_
              · rintro L A W ⟨v, rfl, hR⟩ hi hw K hK
                have e8 := hR.f8 (hw 8 (by simp))
                simp only [e8]
                clear e8
                go_simp
                refine hK.out _ _ ?_
                exact ⟨(fun jz => if jz = 135 then .int .i64 sq else if jz = 22 then .int .i64 sq else v jz), rfl, ⟨hR.st, hR.w2.o, hR.w5.o, hR.w6.o, hR.w7.o, hR.w8.o, hR.w9.o, (fun _ j hj => upd_on (hw j hj)), hR.w11.o, hR.f0.k, hR.f1.k, hR.f2.k, hR.f3.k, hR.f4.k, hR.f5.k, hR.f6.k, hR.f7.k, (fun _ => rfl), hR.f9.k, (fun _ => rfl), hR.f11.k⟩⟩
              refine EachOf.cons [9] rfl (by kernel_rfl) ?_ ?_
              · rintro L A W ⟨v, rfl, hR⟩ hi hw K hK
                have e9 := hR.f9 (hw 9 (by simp))
                simp only [e9]
                clear e9
                go_simp
                refine hK.out _ _ ?_
                exact ⟨(fun jz => if jz = 136 then .int .i64 0 else if jz = 23 then .int .i64 0 else v jz), rfl, ⟨hR.st, hR.w2.o, hR.w5.o, hR.w6.o, hR.w7.o, hR.w8.o, hR.w9.o, hR.w10.o, (fun _ j hj => upd_on (hw j hj)), hR.f0.k, hR.f1.k, hR.f2.k, hR.f3.k, hR.f4.k, hR.f5.k, hR.f6.k, hR.f7.k, hR.f8.k, (fun _ => rfl), hR.f10.k, (fun _ => rfl)⟩⟩
              exact EachOf.nil
            rintro L A W15 ⟨vt, rfl, hR⟩ hL
            have e10 := hR.f10 (hL 10 (by simp))
            have e11 := hR.f11 (hL 11 (by simp))
            simp only [e10, e11]
            have HS15 := Lib.hid (HS14.out.on hR.st)
            clear hR hL e10 e11 HS14 LA0 LA1 LA2 LB0 LB1 LB2 CMA CMB CSm
            go_upto_region 20 with fail
            have S0 : Hid (Below W15.heap.size W15 W15 ∧ W15.ownsRow W15.heap.size 23 3 (.slice none 0 0) 0 (rowP (fun k => (f k).mov y) 0)) := ⟨Below.refl _ _, rfl, .inl ⟨rfl, rfl⟩⟩
            have S1 : Hid (∀ k, k < 0 → (f k).ok ∧ ((f k).mov y).ok) := fun k h => by omega
            clear HMV CMb CMc HTY
            go_wp2_with fail
            go_loopg [24, 159] n (fun mm s24 s159 wx => ∃ (i : Nat) (tv : Value), s24 = tv ∧ s159 = .int .i64 (i : Int) ∧ mm = n - i ∧ i ≤ n ∧ Hid (Below W15.heap.size W15 wx ∧ wx.ownsRow W15.heap.size 23 3 tv i (rowP (fun k => (f k).mov y) i)) ∧ Hid (∀ k, k < i → (f k).ok ∧ ((f k).mov y).ok))
            case atStart => exact ⟨0, _, rfl, rfl, rfl, by omega, S0, S1⟩
            case round =>
              clear S0 S1
              obtain ⟨i, tv, htv, rfl, rfl, hi, HO, HK⟩ := hrel
              have htv2 := htv.symm
              subst htv2
              clear htv
              rename World => W1
              have HS := Lib.hid (HS15.out.on HO.out.1)
              by_cases hlt : i < n
              · have wi : IntKind.i64.wrap ((i : Int) + 1) = ((i + 1 : Nat) : Int) := by rw [IntWalk.i64_in _ (by omega)]; omega
                have li : (i : Int) < (n : Int) := by omega
                obtain ⟨sg, o, e1, hg, hc⟩ := HS.out.l (by omega)
                have hci := hc i hlt
                obtain ⟨q, hq⟩ : ∃ q, f i = q := ⟨_, rfl⟩
                have HQ := Lib.hid hq
                rw [hq] at hci
                have q0 := hci.1
                have q1 := hci.2.1
                have q2 := hci.2.2
                have bl := below_alloc W1 (Obj.cells #[.int .i64 q.x, .int .i64 q.y, .int .i64 q.z] 23)
                have HW2 : Hid (Below W15.heap.size W15 (W1.alloc (Obj.cells #[.int .i64 q.x, .int .i64 q.y, .int .i64 q.z] 23)) ∧ (W1.alloc (Obj.cells #[.int .i64 q.x, .int .i64 q.y, .int .i64 q.z] 23)).ownsRow W15.heap.size 23 3 tv i (rowP (fun k => (f k).mov y) i) ∧ B3 (W1.alloc (Obj.cells #[.int .i64 q.x, .int .i64 q.y, .int .i64 q.z] 23)) W1.heap.size q.x q.y q.z) := ⟨below_on HO.out.1 bl, own_on HO.out.2 bl, B3.new _ _ _ _ _⟩
                obtain ⟨W2, hW2⟩ : ∃ W, W = W1.alloc (Obj.cells #[.int .i64 q.x, .int .i64 q.y, .int .i64 q.z] 23) := ⟨_, rfl⟩
                obtain ⟨b26, hb26⟩ : ∃ x, x = W1.heap.size := ⟨_, rfl⟩
                rw [← hW2, ← hb26] at HW2
                have HN : Hid (W2 = W1.alloc (Obj.cells #[.int .i64 q.x, .int .i64 q.y, .int .i64 q.z] 23) ∧ b26 = W1.heap.size) := ⟨hW2, hb26⟩
                have e2 := e1.symm
                clear hq hci hc hg bl hW2 hb26 HO HS e1
                subst e2
                have CVq := fun W => Lib.hid (pVd_any q W)
                have CVm := fun W => Lib.hid (pVd_any (q.mov y) W)
                obtain ⟨tq, htq⟩ : ∃ t, vdB q = t := ⟨_, rfl⟩
                obtain ⟨tm, htm⟩ : ∃ t, vdB (q.mov y) = t := ⟨_, rfl⟩
                rw [htq] at CVq
                rw [htm] at CVm
                have HTQ : Hid (tq = true → q.ok) := fun h => by rw [h] at htq; exact of_decide_eq_true htq
                have HTM : Hid (tm = true → (q.mov y).ok) := fun h => by rw [h] at htm; exact of_decide_eq_true htm
                clear htq htm
                go_upto_region 24 with fail
                rw [← HN.out.1, ← HN.out.2]
                clear HN q0 q1 q2
                have p0 := HW2.out.2.2.c0
                have p1 := HW2.out.2.2.c1
                have p2 := HW2.out.2.2.c2
                cases tq with
                | false =>
                  go_wp2_with (go_at_call 15; (with_reducible refine ((CVq _).out.mono ?_)); rintro e w3 ⟨rfl, hb3⟩; have HE := Lib.hid (HS15.out.on (below_on HW2.out.1 hb3)).t.st; clear hb3)
                  go_ret
                  exact ⟨rfl, HE.out⟩
                | true =>
                  have hqo := HTQ.out rfl
                  have HQO := Lib.hid hqo
                  go_upto_region 26 with (go_at_call 15; (with_reducible refine ((CVq _).out.mono ?_)); rintro e W3 ⟨rfl, hb3⟩; have HW3 : Hid (Below W15.heap.size W15 W3 ∧ W3.ownsRow W15.heap.size 23 3 tv i (rowP (fun k => (f k).mov y) i) ∧ B3 W3 b26 q.x q.y q.z) := ⟨below_on HW2.out.1 hb3, own_on HW2.out.2.1 hb3, HW2.out.2.2.on hb3⟩; clear hb3 HW2 p0 p1 p2 CVq)
                  have p0 := HW3.out.2.2.c0
                  have p1 := HW3.out.2.2.c1
                  have p2 := HW3.out.2.2.c2
                  have CQ := Lib.hid (CM q hqo W3 (HS15.out.on HW3.out.1).D).out
                  have HMQ : Hid ((f i).mov y = q.mov y) := by show (f i).mov y = q.mov y; rw [HQ.out]
                  obtain ⟨mq, hmq⟩ : ∃ x, q.mov y = x := ⟨_, rfl⟩
                  rw [hmq] at CQ CVm HTM HMQ
                  clear hmq hqo
                  go_upto_region 27 with (go_at_call 16; (with_reducible refine ((CQ.out).mono ?_)); rintro e W4 ⟨rfl, hb4⟩; have HW4 : Hid (Below W15.heap.size W15 W4 ∧ W4.ownsRow W15.heap.size 23 3 tv i (rowP (fun k => (f k).mov y) i)) := ⟨below_on HW3.out.1 hb4, own_on HW3.out.2.1 hb4⟩; clear hb4 HW3 p0 p1 p2 CQ)
                  have bl := below_alloc W4 (Obj.cells #[.int .i64 mq.x, .int .i64 mq.y, .int .i64 mq.z] 23)
                  have HW5 : Hid (Below W15.heap.size W15 (W4.alloc (Obj.cells #[.int .i64 mq.x, .int .i64 mq.y, .int .i64 mq.z] 23)) ∧ (W4.alloc (Obj.cells #[.int .i64 mq.x, .int .i64 mq.y, .int .i64 mq.z] 23)).ownsRow W15.heap.size 23 3 tv i (rowP (fun k => (f k).mov y) i) ∧ B3 (W4.alloc (Obj.cells #[.int .i64 mq.x, .int .i64 mq.y, .int .i64 mq.z] 23)) W4.heap.size mq.x mq.y mq.z) := ⟨below_on HW4.out.1 bl, own_on HW4.out.2 bl, B3.new _ _ _ _ _⟩
                  obtain ⟨W5, hW5⟩ : ∃ W, W = W4.alloc (Obj.cells #[.int .i64 mq.x, .int .i64 mq.y, .int .i64 mq.z] 23) := ⟨_, rfl⟩
                  obtain ⟨b27, hb27⟩ : ∃ x, x = W4.heap.size := ⟨_, rfl⟩
                  rw [← hW5, ← hb27] at HW5
                  rw [← hW5, ← hb27]
                  clear hW5 hb27 bl HW4
                  have p0 := HW5.out.2.2.c0
                  have p1 := HW5.out.2.2.c1
                  have p2 := HW5.out.2.2.c2
                  cases tm with
                  | false =>
                    go_wp2_with (go_at_call 15; (with_reducible refine ((CVm _).out.mono ?_)); rintro e w6 ⟨rfl, hb6⟩; have HE := Lib.hid (HS15.out.on (below_on HW5.out.1 hb6)).t.st; clear hb6)
                    go_ret
                    exact ⟨rfl, HE.out⟩
                  | true =>
                    have HMO := Lib.hid (HTM.out rfl)
                    go_upto_region 29 with (go_at_call 15; (with_reducible refine ((CVm _).out.mono ?_)); rintro e W6 ⟨rfl, hb6⟩; have HW6 : Hid (Below W15.heap.size W15 W6 ∧ W6.ownsRow W15.heap.size 23 3 tv i (rowP (fun k => (f k).mov y) i) ∧ B3 W6 b27 mq.x mq.y mq.z) := ⟨below_on HW5.out.1 hb6, own_on HW5.out.2.1 hb6, HW5.out.2.2.on hb6⟩; clear hb6 HW5 p0 p1 p2 CVm)
                    have p0 := HW6.out.2.2.c0
                    have p1 := HW6.out.2.2.c1
                    have p2 := HW6.out.2.2.c2
                    obtain ⟨i0, hi0, hz0, hz1, hz2⟩ := info_parts (show (Tryd.prog.info? 23).map (fun i => (i.zero, i.size, i.bytes)) = some (some (Value.agg #[.int .i64 0, .int .i64 0, .int .i64 0]), 3, 24) by kernel_rfl)
                    have bl := below_alloc W6 (Obj.cells #[.int .i64 mq.x, .int .i64 mq.y, .int .i64 mq.z] 23)
                    have HB7 := Lib.hid (below_on HW6.out.1 bl)
                    have HO7 := Lib.hid (own_on HW6.out.2.1 bl)
                    have HN7 : Hid (∀ j u, (encP mq)[j]? = some u → (W6.alloc (Obj.cells #[.int .i64 mq.x, .int .i64 mq.y, .int .i64 mq.z] 23)).cell? ((⟨W6.heap.size, 0, none⟩ : Addr).add j) = some u) := fun j u hu => by
                      have hB := B3.new W6 mq.x mq.y mq.z 23
                      have e : (⟨W6.heap.size, 0, none⟩ : Addr).add j = ⟨W6.heap.size, j, none⟩ := by unfold Addr.add; split <;> simp_all
                      rw [e]
                      match j, hu with
                      | 0, hu => simp [encP] at hu; subst hu; exact hB.c0
                      | 1, hu => simp [encP] at hu; subst hu; exact hB.c1
                      | 2, hu => simp [encP] at hu; subst hu; exact hB.c2
                    have HSZ : Hid (W15.heap.size ≤ (W6.alloc (Obj.cells #[.int .i64 mq.x, .int .i64 mq.y, .int .i64 mq.z] 23)).heap.size) := HB7.out.size
                    clear bl
                    go_wp2_with (at_builtin; refine wpList_append_own _ rfl _ _ 24 rfl W15.heap.size 23 i0 (.agg #[.int .i64 0, .int .i64 0, .int .i64 0]) 3 24 Tryd.underlying24 hi0 hz0 hz1 hz2 rfl (by decide) tv i (rowP (fun k => (f k).mov y) i) rfl HO7.out ⟨W6.heap.size, 0, none⟩ 1 1 (encP mq) rfl rfl HN7.out (by intro u hu; simp [encP] at hu; rcases hu with rfl | rfl | rfl <;> rfl) (by unfold maxLen; omega) (by omega) HSZ.out ?_)
                    intro tv2 W7 hown hgrow hnil
                    have HR : Hid (Below W15.heap.size W15 W7 ∧ W7.ownsRow W15.heap.size 23 3 tv2 (i + 1) (rowP (fun k => (f k).mov y) (i + 1))) := by
                      refine ⟨below_grown HB7.out HO7.out hgrow, ?_⟩
                      show W7.ownsRow W15.heap.size 23 3 tv2 (i + 1) (rowP (fun k => (f k).mov y) i ++ encP ((f i).mov y))
                      rw [HMQ.out]
                      exact hown
                    have HK2 : Hid (∀ k, k < i + 1 → (f k).ok ∧ ((f k).mov y).ok) := fun k h => by
                      by_cases e : k = i
                      · rw [e, HMQ.out, HQ.out]; exact ⟨HQO.out, HMO.out⟩
                      · exact HK.out k (by omega)
                    clear hown hgrow hnil HO7 HB7 HN7 HSZ HW6 p0 p1 p2 HK HMQ HQ HQO HMO HTM HTQ hi0 hz0 hz1 hz2
                    go_wp2_with fail
                    go_roundg (n - (i + 1))
                    case measure => omega
                    case rel => exact ⟨i + 1, tv2, rfl, rfl, rfl, by omega, HR, HK2⟩
              · have ei : i = n := by omega
                have li : ¬ (i : Int) < (n : Int) := by omega
                have HV : Hid (allV n f) := fun k hk => (HK.out k (by omega)).1
                have HVm : Hid (allV n (fun k => (f k).mov y)) := fun k hk => (HK.out k (by omega)).2
                obtain ⟨ao, cp, etv, hptr, hle, hmax⟩ := own_ptr HO.out.2
                have HPT := Lib.hid hptr
                have hle2 : n ≤ cp := by omega
                rw [ei] at HPT etv
                subst etv
                obtain ⟨v, hv⟩ : ∃ v, FlO n f v 0 ∧ FlO n (fun k => (f k).mov y) v 0 := by
                  rcases Classical.em (FlatQ n f) with h | h
                  · exact ⟨true, .inr (.inr ⟨HV.out, by omega, ⟨fun _ => h, fun _ => rfl⟩, rfl⟩), .inr (.inr ⟨HVm.out, by omega, ⟨fun _ => (flat_mov y n f).2 h, fun _ => rfl⟩, rfl⟩)⟩
                  · exact ⟨false, .inr (.inr ⟨HV.out, by omega, ⟨fun q => (by cases q), fun q => absurd q h⟩, rfl⟩), .inr (.inr ⟨HVm.out, by omega, ⟨fun q => (by cases q), fun q => absurd ((flat_mov y n f).1 q) h⟩, rfl⟩)⟩
                obtain ⟨u, hu⟩ : ∃ u, InO a n f u 0 ∧ InO ma n (fun k => (f k).mov y) u 0 := by
                  rcases Classical.em (InQ a n f) with h | h
                  · exact ⟨true, .inr (.inr ⟨HOK.out.1, HV.out, by omega, ⟨fun _ => h, fun _ => rfl⟩, rfl⟩), .inr (.inr ⟨HOA.out, HVm.out, by omega, ⟨fun _ => (HINM.out f).2 h, fun _ => rfl⟩, rfl⟩)⟩
                  · exact ⟨false, .inr (.inr ⟨HOK.out.1, HV.out, by omega, ⟨fun q => (by cases q), fun q => absurd q h⟩, rfl⟩), .inr (.inr ⟨HOA.out, HVm.out, by omega, ⟨fun q => (by cases q), fun q => absurd ((HINM.out f).1 q) h⟩, rfl⟩)⟩
                have C1 := Lib.hid (flat_any ra n rc f W1 HS.out.p HS.out.l HRC.out.1 HRC.out.2 v 0 hv.1)
                have HV2 := Lib.hid hv.2
                have HU := Lib.hid hu
                clear hv hu hptr hle ei HO HK HINM
                go_upto_region 32 with (go_at_call 8; (with_reducible refine ((C1.out).mono ?_)); rintro e W2 ⟨rfl, hb2⟩; have HS2 := Lib.hid (HS.out.on hb2); have HP2 := Lib.hid (HPT.out.on hb2); clear hb2 C1 HS HPT)
                have C2 := Lib.hid (flat_any ao n cp (fun k => (f k).mov y) W2 HS2.out.p HP2.out hle2 hmax v 0 HV2.out)
                go_upto_region 33 with (go_at_call 8; (with_reducible refine ((C2.out).mono ?_)); rintro e W3 ⟨rfl, hb3⟩; have HS3 := Lib.hid (HS2.out.on hb3); have HP3 := Lib.hid (HP2.out.on hb3); clear hb3 C2 HS2 HP2)
                have a0 := HS3.out.t.A.c0
                have a1 := HS3.out.t.A.c1
                have a2 := HS3.out.t.A.c2
                have C3 := Lib.hid (inside_any a ra n rc f W3 HS3.out.p HS3.out.l HRC.out.1 HRC.out.2 u 0 HU.out.1)
                go_upto_region 34 with (go_at_call 9; (with_reducible refine ((C3.out).mono ?_)); rintro e W4 ⟨rfl, hb4⟩; have HS4 := Lib.hid (HS3.out.on hb4); have HP4 := Lib.hid (HP3.out.on hb4); clear hb4 C3 HS3 HP3 a0 a1 a2)
                have a0 := HS4.out.t.A.c0
                have a1 := HS4.out.t.A.c1
                have a2 := HS4.out.t.A.c2
                have C4 := Lib.hid (CMa W4 HS4.out.D).out
                have C5 := fun (W : World) (h1 : PR W) (h2 : PtR W ao n (fun k => (f k).mov y)) => Lib.hid (inside_any ma ao n cp (fun k => (f k).mov y) W h1 h2 hle2 hmax u 0 HU.out.2)
                go_wp2_with (first
                  | (go_at_call 16; (with_reducible refine ((C4.out).mono ?_)); rintro e W5 ⟨rfl, hb5⟩; have HS5' := Lib.hid (HS4.out.on hb5); have HP5 := Lib.hid (HP4.out.on hb5); clear hb5 C4 HS4 HP4 a0 a1 a2)
                  | (go_at_call 9; (with_reducible refine ((C5 _ HS5'.out.p HP5.out).out.mono ?_)); rintro e W6 ⟨rfl, hb6⟩; have HE := Lib.hid (HS5'.out.on hb6).t.st; clear hb6 HS5' HP5 C5))
                cases v <;> cases u
                all_goals
                  go_ret
                  exact ⟨by first | rfl | simp, HE.out⟩
  · have ht := HT.out
    unfold tuT at ht
    rw [if_neg ok] at ht
    injection ht with k1 k2
    subst k2
    clear ok HT
    go_wp2_with fail
    go_ret
    exact ⟨rfl, HS5.out.t.st⟩
end Go.Proofs.YtabpnkpedcgcpaaDoor
