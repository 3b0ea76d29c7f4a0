/- Layer 9: the reference's Inside. -/
import Derived.Test.YtcghjjfpjiacfaaDoorVLr
namespace Go.Proofs.YtcghjjfpjiacfaaDoor
open Go.ChangeShapes Go.WideShapes Go.ChangeAt Go.RowKit Go.Joins Go.Deep Go.Shelf
set_option linter.unusedVariables false

structure RnS (w W : World) (b2 sg o n : Nat) (p : Pt) (f : Nat → Pt) : Prop where
  st : Below w.heap.size w W
  P : B3 W b2 p.x p.y p.z
  hg : sg < W.heap.size
  c : ∀ i, i < n → W.cell? ⟨sg, o + i * 3, none⟩ = some (.int .i64 (f i).x) ∧ W.cell? ⟨sg, o + i * 3 + 1, none⟩ = some (.int .i64 (f i).y) ∧ W.cell? ⟨sg, o + i * 3 + 2, none⟩ = some (.int .i64 (f i).z)
theorem RnS.on {w W W2 : World} {b2 sg o n : Nat} {p : Pt} {f : Nat → Pt} (h : RnS w W b2 sg o n p f) (hb : Below W.heap.size W W2) : RnS w W2 b2 sg o n p f :=
  ⟨below_on h.st hb, h.P.on hb, Nat.lt_of_lt_of_le h.hg hb.size, fun i hi => ⟨(hb.cell (p := ⟨sg, o + i * 3, none⟩) h.hg).trans (h.c i hi).1, (hb.cell (p := ⟨sg, o + i * 3 + 1, none⟩) h.hg).trans (h.c i hi).2.1, (hb.cell (p := ⟨sg, o + i * 3 + 2, none⟩) h.hg).trans (h.c i hi).2.2⟩⟩
theorem tr_sg (p a b d : Pt) : trS p a b d ↔ sgI (tnI a b p) ≠ 0 ∧ sgI (tnI a b p) = sgI (tnI b d p) ∧ sgI (tnI b d p) = sgI (tnI d a p) := by
  unfold trS
  generalize tnI a b p = x
  generalize tnI b d p = y
  generalize tnI d a p = z
  unfold sgI
  constructor
  · rintro (⟨h1, h2, h3⟩ | ⟨h1, h2, h3⟩)
    · rw [if_neg (show ¬ x < 0 by omega), if_neg (show ¬ y < 0 by omega), if_neg (show ¬ z < 0 by omega), if_pos h1, if_pos h2, if_pos h3]; omega
    · rw [if_pos h1, if_pos h2, if_pos h3]; omega
  · rintro ⟨h1, h2, h3⟩
    by_cases x1 : 0 < x <;> by_cases x2 : x < 0 <;> by_cases y1 : 0 < y <;> by_cases y2 : y < 0 <;> by_cases z1 : 0 < z <;> by_cases z2 : z < 0 <;> simp [x1, x2, y1, y2, z1, z2] at h1 h2 h3 ⊢
/-- What the reference looks for at two places. -/
def AtQ (p : Pt) (n : Nat) (f : Nat → Pt) (i k : Nat) : Prop := onS p (f i) (f k) ∨ ∃ j, k < j ∧ j < n ∧ trS p (f i) (f k) (f j)
structure Vi7R (sg o n rc b2 i k : Nat) (p a b : Pt) (t : Bool) (Wc : World) (L : Nat → Bool) (v : Nat → Value) (W : World) : Prop where
  st : Below Wc.heap.size Wc W
  w3 : Had L 3 (∀ j ∈ [1, 2], L j = true)
  w4 : Had L 4 (∀ j ∈ [3], L j = true)
  w7 : Had L 7 (∀ j ∈ [5, 6], L j = true)
  w8 : Had L 8 (∀ j ∈ [7], L j = true)
  w9 : Had L 9 (∀ j ∈ [0, 4, 8], L j = true)
  f0 : Had L 0 (v 24 = .agg #[.int .i64 p.x, .int .i64 p.y, .int .i64 p.z])
  f1 : Had L 1 (v 25 = .slice (some ⟨sg, o, none⟩) (n) (rc))
  f2 : Had L 2 (v 26 = .int .i64 (i : Int))
  f3 : Had L 3 (v 27 = .pointer (some ⟨sg, o + i * 3, none⟩))
  f4 : Had L 4 (v 28 = .agg #[.int .i64 a.x, .int .i64 a.y, .int .i64 a.z])
  f5 : Had L 5 (v 29 = .slice (some ⟨sg, o, none⟩) (n) (rc))
  f6 : Had L 6 (v 30 = .int .i64 (k : Int))
  f7 : Had L 7 (v 31 = .pointer (some ⟨sg, o + k * 3, none⟩))
  f8 : Had L 8 (v 32 = .agg #[.int .i64 b.x, .int .i64 b.y, .int .i64 b.z])
  f9 : Had L 9 (v 33 = .bool t)
structure Vi12R (sg o n rc b2 i k m : Nat) (p a b d : Pt) (x y z : Int) (Wc : World) (L : Nat → Bool) (v : Nat → Value) (W : World) : Prop where
  st : Below Wc.heap.size Wc W
  w2 : Had L 2 (∀ j ∈ [0, 1], L j = true)
  w3 : Had L 3 (∀ j ∈ [2], L j = true)
  w6 : Had L 6 (∀ j ∈ [4, 5], L j = true)
  w7 : Had L 7 (∀ j ∈ [6], L j = true)
  w9 : Had L 9 (∀ j ∈ [3, 7, 8], L j = true)
  w12 : Had L 12 (∀ j ∈ [10, 11], L j = true)
  w13 : Had L 13 (∀ j ∈ [12], L j = true)
  w16 : Had L 16 (∀ j ∈ [14, 15], L j = true)
  w17 : Had L 17 (∀ j ∈ [16], L j = true)
  w19 : Had L 19 (∀ j ∈ [13, 17, 18], L j = true)
  w22 : Had L 22 (∀ j ∈ [20, 21], L j = true)
  w23 : Had L 23 (∀ j ∈ [22], L j = true)
  w26 : Had L 26 (∀ j ∈ [24, 25], L j = true)
  w27 : Had L 27 (∀ j ∈ [26], L j = true)
  w29 : Had L 29 (∀ j ∈ [23, 27, 28], L j = true)
  w30 : Had L 30 (∀ j ∈ [9], L j = true)
  w31 : Had L 31 (∀ j ∈ [19], L j = true)
  w32 : Had L 32 (∀ j ∈ [29], L j = true)
  f0 : Had L 0 (v 42 = .slice (some ⟨sg, o, none⟩) (n) (rc))
  f1 : Had L 1 (v 43 = .int .i64 (i : Int))
  f2 : Had L 2 (v 44 = .pointer (some ⟨sg, o + i * 3, none⟩))
  f3 : Had L 3 (v 45 = .agg #[.int .i64 a.x, .int .i64 a.y, .int .i64 a.z])
  f4 : Had L 4 (v 46 = .slice (some ⟨sg, o, none⟩) (n) (rc))
  f5 : Had L 5 (v 47 = .int .i64 (k : Int))
  f6 : Had L 6 (v 48 = .pointer (some ⟨sg, o + k * 3, none⟩))
  f7 : Had L 7 (v 49 = .agg #[.int .i64 b.x, .int .i64 b.y, .int .i64 b.z])
  f8 : Had L 8 (v 50 = .agg #[.int .i64 p.x, .int .i64 p.y, .int .i64 p.z])
  f9 : Had L 9 (v 51 = .int .i64 x)
  f10 : Had L 10 (v 52 = .slice (some ⟨sg, o, none⟩) (n) (rc))
  f11 : Had L 11 (v 53 = .int .i64 (k : Int))
  f12 : Had L 12 (v 54 = .pointer (some ⟨sg, o + k * 3, none⟩))
  f13 : Had L 13 (v 55 = .agg #[.int .i64 b.x, .int .i64 b.y, .int .i64 b.z])
  f14 : Had L 14 (v 56 = .slice (some ⟨sg, o, none⟩) (n) (rc))
  f15 : Had L 15 (v 57 = .int .i64 (m : Int))
  f16 : Had L 16 (v 58 = .pointer (some ⟨sg, o + m * 3, none⟩))
  f17 : Had L 17 (v 59 = .agg #[.int .i64 d.x, .int .i64 d.y, .int .i64 d.z])
  f18 : Had L 18 (v 60 = .agg #[.int .i64 p.x, .int .i64 p.y, .int .i64 p.z])
  f19 : Had L 19 (v 61 = .int .i64 y)
  f20 : Had L 20 (v 62 = .slice (some ⟨sg, o, none⟩) (n) (rc))
  f21 : Had L 21 (v 63 = .int .i64 (m : Int))
  f22 : Had L 22 (v 64 = .pointer (some ⟨sg, o + m * 3, none⟩))
  f23 : Had L 23 (v 65 = .agg #[.int .i64 d.x, .int .i64 d.y, .int .i64 d.z])
  f24 : Had L 24 (v 66 = .slice (some ⟨sg, o, none⟩) (n) (rc))
  f25 : Had L 25 (v 67 = .int .i64 (i : Int))
  f26 : Had L 26 (v 68 = .pointer (some ⟨sg, o + i * 3, none⟩))
  f27 : Had L 27 (v 69 = .agg #[.int .i64 a.x, .int .i64 a.y, .int .i64 a.z])
  f28 : Had L 28 (v 70 = .agg #[.int .i64 p.x, .int .i64 p.y, .int .i64 p.z])
  f29 : Had L 29 (v 71 = .int .i64 z)
  f30 : Had L 30 (v 8 = .int .i64 x)
  f31 : Had L 31 (v 9 = .int .i64 y)
  f32 : Had L 32 (v 10 = .int .i64 z)
set_option maxRecDepth 100000 in
set_option maxHeartbeats 64000000 in
theorem rIns_any (p : Pt) (ra : Option Addr) (n rc : Nat) (f : Nat → Pt) (w : World) (hp : p.ok) (hl : PtR w ra n f) (hall : allV n f) (hrc : n ≤ rc) (hrc2 : rc ≤ 9223372036854775807) (v : Bool) (hv : v = true ↔ InQ p n f) :
    Calls Tryd.prog 15 #[.agg #[.int .i64 p.x, .int .i64 p.y, .int .i64 p.z], .slice ra n rc] w fun e w' => e = .returned (.bool v) ∧ Below w.heap.size w w' := by
  rw [← in_ref] at hv
  have HV : Hid (v = true ↔ ∃ i k, i ≤ k ∧ k < n ∧ AtQ p n f i k) := hv
  have HA := Lib.hid hall
  have HP := Lib.hid hp
  obtain ⟨w1, hw1⟩ : ∃ W, W = w.alloc (Obj.cells #[.int .i64 p.x, .int .i64 p.y, .int .i64 p.z] 23) := ⟨_, rfl⟩
  obtain ⟨b2, hb2⟩ : ∃ x, x = w.heap.size := ⟨_, rfl⟩
  have hb1 : Below w.heap.size w w1 := by rw [hw1]; exact below_alloc _ _
  have hP : B3 w1 b2 p.x p.y p.z := by rw [hw1, hb2]; exact B3.new _ _ _ _ _
  have HN : Hid (w1 = w.alloc (Obj.cells #[.int .i64 p.x, .int .i64 p.y, .int .i64 p.z] 23) ∧ b2 = w.heap.size) := ⟨hw1, hb2⟩
  have HB := Lib.hid hb1
  by_cases h0 : 0 < n
  · obtain ⟨sg, o, rfl, hg, hc⟩ := hl h0
    have HS : Hid (RnS w w1 b2 sg o n p f) := ⟨hb1, hP, Nat.lt_of_lt_of_le hg hb1.size, fun i hi => ⟨(hb1.cell (p := ⟨sg, o + i * 3, none⟩) hg).trans (hc i hi).1, (hb1.cell (p := ⟨sg, o + i * 3 + 1, none⟩) hg).trans (hc i hi).2.1, (hb1.cell (p := ⟨sg, o + i * 3 + 2, none⟩) hg).trans (hc i hi).2.2⟩⟩
    clear hl hg hc hv hall hp hw1 hb2 hb1 hP HB
    go_enter Tryd.func15, Tryd.ntmps15
    go_upto_region 1 with fail
    rw [← HN.out.1, ← HN.out.2]
    clear HN
    go_wp2_with fail
    go_loopg [5] n (fun mm s5 wx => ∃ i : Nat, s5 = .int .i64 (i : Int) ∧ mm = n - i ∧ i ≤ n ∧ Hid (RnS w wx b2 sg o n p f) ∧ Hid (∀ i2 k, i2 < i → i2 ≤ k → k < n → ¬ AtQ p n f i2 k))
    case atStart => exact ⟨0, rfl, rfl, by omega, HS, fun i2 k h => by omega⟩
    case round =>
      clear HS
      obtain ⟨i, rfl, rfl, hin, HS, HZ⟩ := hrel
      rename World => W1
      by_cases hlt : i < n
      · have wi : IntKind.i64.wrap ((i : Int) + 1) = ((i + 1 : Nat) : Int) := by rw [IntWalk.i64_in _ (by omega)]; omega
        have li : (i : Int) < (n : Int) := by omega
        obtain ⟨a, ha⟩ : ∃ a, f i = a := ⟨_, rfl⟩
        have HAi := Lib.hid ha
        clear ha
        go_upto_region 4 with fail
        go_wp2_with fail
        go_loopg [6] (n - i) (fun mm s6 wx => ∃ k : Nat, s6 = .int .i64 (k : Int) ∧ mm = n - k ∧ i ≤ k ∧ k ≤ n ∧ Hid (RnS w wx b2 sg o n p f) ∧ Hid (∀ k2, i ≤ k2 → k2 < k → ¬ AtQ p n f i k2))
        case atStart => exact ⟨i, rfl, rfl, by omega, by omega, HS, fun k2 h => by omega⟩
        case round =>
          clear HS
          obtain ⟨k, rfl, rfl, hik, hkn, HS, HY⟩ := hrel
          rename World => W2
          by_cases hkt : k < n
          · have wk : IntKind.i64.wrap ((k : Int) + 1) = ((k + 1 : Nat) : Int) := by rw [IntWalk.i64_in _ (by omega)]; omega
            have lk : (k : Int) < (n : Int) := by omega
            obtain ⟨b, hb⟩ : ∃ b, f k = b := ⟨_, rfl⟩
            have HBk := Lib.hid hb
            have ca := HS.out.c i hlt
            have cb := HS.out.c k hkt
            rw [HAi.out] at ca
            rw [hb] at cb
            have LP0 := Lib.hid (And.intro HS.out.P.c0 HS.out.P.lt)
            have LP1 := Lib.hid (And.intro HS.out.P.c1 HS.out.P.lt)
            have LP2 := Lib.hid (And.intro HS.out.P.c2 HS.out.P.lt)
            have LA0 := Lib.hid (And.intro ca.1 HS.out.hg)
            have LA1 := Lib.hid (And.intro ca.2.1 HS.out.hg)
            have LA2 := Lib.hid (And.intro ca.2.2 HS.out.hg)
            have LB0 := Lib.hid (And.intro cb.1 HS.out.hg)
            have LB1 := Lib.hid (And.intro cb.2.1 HS.out.hg)
            have LB2 := Lib.hid (And.intro cb.2.2 HS.out.hg)
            have hoa : a.ok := by rw [← HAi.out]; exact HA.out i hlt
            have hob : b.ok := by rw [← hb]; exact HA.out k hkt
            have HAB := Lib.hid (And.intro hoa hob)
            obtain ⟨t, ht⟩ : ∃ t : Bool, (t = true ↔ onS p a b) := by
              by_cases h : onS p a b
              · exact ⟨true, by simp [h]⟩
              · exact ⟨false, by simp [h]⟩
            have CO := fun W => Lib.hid (rOn_any p a b W HP.out hoa hob t ht)
            have HT := Lib.hid ht
            clear hb ca cb hoa hob ht
            go_upto_region 7 with fail
            refine wp_region_each (fun L A W => ∃ (v : Nat → Value), A = ⟨#[_, _, _, _, _, _, _, _, _, _, _, _, _, _, _, _, _, _, _, _, _, _, _, _, v 24, v 25, v 26, v 27, v 28, v 29, v 30, v 31, v 32, v 33, _, _, _, _, _, _, _, _, _, _, _, _, _, _, _, _, _, _, _, _, _, _, _, _, _, _, _, _, _, _, _, _, _, _, _, _, _, _, _, _, _, _, _, _, _, _, _, _, _, _], []⟩ ∧ Vi7R sg o n rc b2 i k p a b t W2 L v W) (by kernel_rfl) (by kernel_rfl) ⟨fun jz => if jz = 24 then u24 else if jz = 25 then u25 else if jz = 26 then u26 else if jz = 27 then u27 else if jz = 28 then u28 else if jz = 29 then u29 else if jz = 30 then u30 else if jz = 31 then u31 else if jz = 32 then u32 else if jz = 33 then u33 else undef, rfl, ⟨Below.drew (Below.refl _ _), Had.none, Had.none, Had.none, Had.none, Had.none, Had.none, Had.none, Had.none, Had.none, Had.none, Had.none, Had.none, Had.none, Had.none, Had.none⟩⟩ (rs := [0, 1, 2, 3, 4, 5, 6, 7, 8, 9]) (by kernel_rfl) ?_ ?_
            · refine EachOf.cons [] rfl (by kernel_rfl) ?_ ?_
              · rintro L A W ⟨v, rfl, hR⟩ hi hw K hK
                have q0 := (hR.st.cell (p := ⟨b2, 0, none⟩) LP0.out.2).trans LP0.out.1
                have q1 := (hR.st.cell (p := ⟨b2, 1, none⟩) LP1.out.2).trans LP1.out.1
                have q2 := (hR.st.cell (p := ⟨b2, 2, none⟩) LP2.out.2).trans LP2.out.1
                go_simp
                refine hK.out _ _ ?_
                exact ⟨(fun jz => if jz = 24 then .agg #[.int .i64 p.x, .int .i64 p.y, .int .i64 p.z] else v jz), rfl, ⟨hR.st, hR.w3.o, hR.w4.o, hR.w7.o, hR.w8.o, hR.w9.o, (fun _ => rfl), hR.f1.k, hR.f2.k, hR.f3.k, hR.f4.k, hR.f5.k, hR.f6.k, hR.f7.k, hR.f8.k, hR.f9.k⟩⟩
              refine EachOf.cons [] rfl (by kernel_rfl) ?_ ?_
              · rintro L A W ⟨v, rfl, hR⟩ hi hw K hK
                go_simp
                refine hK.out _ _ ?_
                exact ⟨(fun jz => if jz = 25 then .slice (some ⟨sg, o, none⟩) (n) (rc) else v jz), rfl, ⟨hR.st, hR.w3.o, hR.w4.o, hR.w7.o, hR.w8.o, hR.w9.o, hR.f0.k, (fun _ => rfl), hR.f2.k, hR.f3.k, hR.f4.k, hR.f5.k, hR.f6.k, hR.f7.k, hR.f8.k, hR.f9.k⟩⟩
              refine EachOf.cons [] rfl (by kernel_rfl) ?_ ?_
              · rintro L A W ⟨v, rfl, hR⟩ hi hw K hK
                go_simp
                refine hK.out _ _ ?_
                exact ⟨(fun jz => if jz = 26 then .int .i64 (i : Int) else v jz), rfl, ⟨hR.st, hR.w3.o, hR.w4.o, hR.w7.o, hR.w8.o, hR.w9.o, hR.f0.k, hR.f1.k, (fun _ => rfl), hR.f3.k, hR.f4.k, hR.f5.k, hR.f6.k, hR.f7.k, hR.f8.k, hR.f9.k⟩⟩
              refine EachOf.cons [1, 2] rfl (by kernel_rfl) ?_ ?_
              · rintro L A W ⟨v, rfl, hR⟩ hi hw K hK
                have e1 := hR.f1 (hw 1 (by simp))
                have e2 := hR.f2 (hw 2 (by simp))
                simp only [e1, e2]
                clear e1 e2
                go_simp
                refine hK.out _ _ ?_
                exact ⟨(fun jz => if jz = 25 then .slice (some ⟨sg, o, none⟩) (n) (rc) else if jz = 26 then .int .i64 (i : Int) else if jz = 27 then .pointer (some ⟨sg, o + i * 3, none⟩) else v jz), rfl, ⟨hR.st, (fun _ j hj => upd_on (hw j hj)), hR.w4.o, hR.w7.o, hR.w8.o, hR.w9.o, hR.f0.k, (fun _ => rfl), (fun _ => rfl), (fun _ => rfl), hR.f4.k, hR.f5.k, hR.f6.k, hR.f7.k, hR.f8.k, hR.f9.k⟩⟩
              refine EachOf.cons [3] rfl (by kernel_rfl) ?_ ?_
              · rintro L A W ⟨v, rfl, hR⟩ hi hw K hK
                have e3 := hR.f3 (hw 3 (by simp))
                simp only [e3]
                clear e3
                have q0 := (hR.st.cell (p := ⟨sg, o + i * 3, none⟩) LA0.out.2).trans LA0.out.1
                have q1 := (hR.st.cell (p := ⟨sg, o + i * 3 + 1, none⟩) LA1.out.2).trans LA1.out.1
                have q2 := (hR.st.cell (p := ⟨sg, o + i * 3 + 2, none⟩) LA2.out.2).trans LA2.out.1
                go_simp
                refine hK.out _ _ ?_
                exact ⟨(fun jz => if jz = 27 then .pointer (some ⟨sg, o + i * 3, none⟩) else if jz = 28 then .agg #[.int .i64 a.x, .int .i64 a.y, .int .i64 a.z] else v jz), rfl, ⟨hR.st, hR.w3.o, (fun _ j hj => upd_on (hw j hj)), hR.w7.o, hR.w8.o, hR.w9.o, hR.f0.k, hR.f1.k, hR.f2.k, (fun _ => rfl), (fun _ => rfl), hR.f5.k, hR.f6.k, hR.f7.k, hR.f8.k, hR.f9.k⟩⟩
              refine EachOf.cons [] rfl (by kernel_rfl) ?_ ?_
              · rintro L A W ⟨v, rfl, hR⟩ hi hw K hK
                go_simp
                refine hK.out _ _ ?_
                exact ⟨(fun jz => if jz = 29 then .slice (some ⟨sg, o, none⟩) (n) (rc) else v jz), rfl, ⟨hR.st, hR.w3.o, hR.w4.o, hR.w7.o, hR.w8.o, hR.w9.o, hR.f0.k, hR.f1.k, hR.f2.k, hR.f3.k, hR.f4.k, (fun _ => rfl), hR.f6.k, hR.f7.k, hR.f8.k, hR.f9.k⟩⟩
              refine EachOf.cons [] rfl (by kernel_rfl) ?_ ?_
              · rintro L A W ⟨v, rfl, hR⟩ hi hw K hK
                go_simp
                refine hK.out _ _ ?_
                exact ⟨(fun jz => if jz = 30 then .int .i64 (k : Int) else v jz), rfl, ⟨hR.st, hR.w3.o, hR.w4.o, hR.w7.o, hR.w8.o, hR.w9.o, hR.f0.k, hR.f1.k, hR.f2.k, hR.f3.k, hR.f4.k, hR.f5.k, (fun _ => rfl), hR.f7.k, hR.f8.k, hR.f9.k⟩⟩
              refine EachOf.cons [5, 6] rfl (by kernel_rfl) ?_ ?_
              · rintro L A W ⟨v, rfl, hR⟩ hi hw K hK
                have e5 := hR.f5 (hw 5 (by simp))
                have e6 := hR.f6 (hw 6 (by simp))
                simp only [e5, e6]
                clear e5 e6
                go_simp
                refine hK.out _ _ ?_
                exact ⟨(fun jz => if jz = 29 then .slice (some ⟨sg, o, none⟩) (n) (rc) else if jz = 30 then .int .i64 (k : Int) else if jz = 31 then .pointer (some ⟨sg, o + k * 3, none⟩) else v jz), rfl, ⟨hR.st, hR.w3.o, hR.w4.o, (fun _ j hj => upd_on (hw j hj)), hR.w8.o, hR.w9.o, hR.f0.k, hR.f1.k, hR.f2.k, hR.f3.k, hR.f4.k, (fun _ => rfl), (fun _ => rfl), (fun _ => rfl), hR.f8.k, hR.f9.k⟩⟩
              refine EachOf.cons [7] rfl (by kernel_rfl) ?_ ?_
              · rintro L A W ⟨v, rfl, hR⟩ hi hw K hK
                have e7 := hR.f7 (hw 7 (by simp))
                simp only [e7]
                clear e7
                have q0 := (hR.st.cell (p := ⟨sg, o + k * 3, none⟩) LB0.out.2).trans LB0.out.1
                have q1 := (hR.st.cell (p := ⟨sg, o + k * 3 + 1, none⟩) LB1.out.2).trans LB1.out.1
                have q2 := (hR.st.cell (p := ⟨sg, o + k * 3 + 2, none⟩) LB2.out.2).trans LB2.out.1
                go_simp
                refine hK.out _ _ ?_
                exact ⟨(fun jz => if jz = 31 then .pointer (some ⟨sg, o + k * 3, none⟩) else if jz = 32 then .agg #[.int .i64 b.x, .int .i64 b.y, .int .i64 b.z] else v jz), rfl, ⟨hR.st, hR.w3.o, hR.w4.o, hR.w7.o, (fun _ j hj => upd_on (hw j hj)), hR.w9.o, hR.f0.k, hR.f1.k, hR.f2.k, hR.f3.k, hR.f4.k, hR.f5.k, hR.f6.k, (fun _ => rfl), (fun _ => rfl), hR.f9.k⟩⟩
              refine EachOf.cons [0, 4, 8] rfl (by kernel_rfl) ?_ ?_
              · rintro L A W ⟨v, rfl, hR⟩ hi hw K hK
                have e0 := hR.f0 (hw 0 (by simp))
                have e4 := hR.f4 (hw 4 (by simp))
                have e8 := hR.f8 (hw 8 (by simp))
                simp only [e0, e4, e8]
                clear e0 e4 e8
                go_simp
                go_at_call 54
                (with_reducible refine ((CO _).out).mono ?_)
                rintro e w2 ⟨rfl, hb⟩
                go_simp
                refine hK.out _ _ ?_
                exact ⟨(fun jz => if jz = 24 then .agg #[.int .i64 p.x, .int .i64 p.y, .int .i64 p.z] else if jz = 28 then .agg #[.int .i64 a.x, .int .i64 a.y, .int .i64 a.z] else if jz = 32 then .agg #[.int .i64 b.x, .int .i64 b.y, .int .i64 b.z] else if jz = 33 then .bool t else v jz), rfl, ⟨below_on hR.st hb, hR.w3.o, hR.w4.o, hR.w7.o, hR.w8.o, (fun _ j hj => upd_on (hw j hj)), (fun _ => rfl), hR.f1.k, hR.f2.k, hR.f3.k, (fun _ => rfl), hR.f5.k, hR.f6.k, hR.f7.k, (fun _ => rfl), (fun _ => rfl)⟩⟩
              exact EachOf.nil
            rintro L A W3 ⟨vs, rfl, hR⟩ hL
            have e9 := hR.f9 (hL 9 (by simp))
            simp only [e9]
            have HS3 := Lib.hid (HS.out.on hR.st)
            clear e9 hR hL LP0 LP1 LP2 LA0 LA1 LA2 LB0 LB1 LB2 HS CO
            cases t with
            | true =>
              have hvt : v = true := HV.out.2 ⟨i, k, hik, hkt, .inl (by rw [HAi.out, HBk.out]; exact HT.out.1 rfl)⟩
              subst hvt
              have HE := Lib.hid HS3.out.st
              clear HV HT HZ HY HS3
              go_wp2_with fail
              go_ret
              exact ⟨rfl, HE.out⟩
            | false =>
              have HT2 : Hid (¬ onS p a b) := fun h => by have := HT.out.2 h; cases this
              clear HT
              go_upto_region 9 with fail
              go_wp2_with fail
              go_loopg [7] (n - (k + 1)) (fun mm s7 wx => ∃ m : Nat, s7 = .int .i64 (m : Int) ∧ mm = n - m ∧ k + 1 ≤ m ∧ m ≤ n ∧ Hid (RnS w wx b2 sg o n p f) ∧ Hid (∀ j2, k < j2 → j2 < m → ¬ trS p a b (f j2)))
              case atStart => exact ⟨k + 1, rfl, by omega, by omega, by omega, HS3, fun j2 h1 h2 => by omega⟩
              case round =>
                clear HS3
                obtain ⟨m, rfl, rfl, hkm, hmn, HS, HX⟩ := hrel
                rename World => W4
                by_cases hmt : m < n
                · have wm : IntKind.i64.wrap ((m : Int) + 1) = ((m + 1 : Nat) : Int) := by rw [IntWalk.i64_in _ (by omega)]; omega
                  have lm : (m : Int) < (n : Int) := by omega
                  obtain ⟨d, hd⟩ : ∃ d, f m = d := ⟨_, rfl⟩
                  have HDm := Lib.hid hd
                  have ca := HS.out.c i hlt
                  have cb := HS.out.c k hkt
                  have cd := HS.out.c m hmt
                  rw [HAi.out] at ca
                  rw [HBk.out] at cb
                  rw [hd] at cd
                  have LP0 := Lib.hid (And.intro HS.out.P.c0 HS.out.P.lt)
                  have LP1 := Lib.hid (And.intro HS.out.P.c1 HS.out.P.lt)
                  have LP2 := Lib.hid (And.intro HS.out.P.c2 HS.out.P.lt)
                  have LA0 := Lib.hid (And.intro ca.1 HS.out.hg)
                  have LA1 := Lib.hid (And.intro ca.2.1 HS.out.hg)
                  have LA2 := Lib.hid (And.intro ca.2.2 HS.out.hg)
                  have LB0 := Lib.hid (And.intro cb.1 HS.out.hg)
                  have LB1 := Lib.hid (And.intro cb.2.1 HS.out.hg)
                  have LB2 := Lib.hid (And.intro cb.2.2 HS.out.hg)
                  have LD0 := Lib.hid (And.intro cd.1 HS.out.hg)
                  have LD1 := Lib.hid (And.intro cd.2.1 HS.out.hg)
                  have LD2 := Lib.hid (And.intro cd.2.2 HS.out.hg)
                  have hod : d.ok := by rw [← hd]; exact HA.out m hmt
                  have CA := fun W => Lib.hid (rTurn_any a b p W HAB.out.1 HAB.out.2 HP.out)
                  have CB := fun W => Lib.hid (rTurn_any b d p W HAB.out.2 hod HP.out)
                  have CD := fun W => Lib.hid (rTurn_any d a p W hod HAB.out.1 HP.out)
                  have htr := tr_sg p a b d
                  obtain ⟨x, hx⟩ : ∃ x, sgI (tnI a b p) = x := ⟨_, rfl⟩
                  obtain ⟨y, hy⟩ : ∃ x, sgI (tnI b d p) = x := ⟨_, rfl⟩
                  obtain ⟨z, hz⟩ : ∃ x, sgI (tnI d a p) = x := ⟨_, rfl⟩
                  rw [hx] at CA htr
                  rw [hy] at CB htr
                  rw [hz] at CD htr
                  have HTR := Lib.hid htr
                  clear hd ca cb cd hod htr hx hy hz
                  go_upto_region 12 with fail
                  refine wp_region_each (fun L A W => ∃ (v : Nat → Value), A = ⟨#[_, _, _, _, _, _, _, _, v 8, v 9, v 10, _, _, _, _, _, _, _, _, _, _, _, _, _, _, _, _, _, _, _, _, _, _, _, _, _, _, _, _, _, _, _, v 42, v 43, v 44, v 45, v 46, v 47, v 48, v 49, v 50, v 51, v 52, v 53, v 54, v 55, v 56, v 57, v 58, v 59, v 60, v 61, v 62, v 63, v 64, v 65, v 66, v 67, v 68, v 69, v 70, v 71, _, _, _, _, _, _, _, _, _, _, _, _], []⟩ ∧ Vi12R sg o n rc b2 i k m p a b d x y z W4 L v W) (by kernel_rfl) (by kernel_rfl) ⟨fun jz => if jz = 42 then u42 else if jz = 43 then u43 else if jz = 44 then u44 else if jz = 45 then u45 else if jz = 46 then u46 else if jz = 47 then u47 else if jz = 48 then u48 else if jz = 49 then u49 else if jz = 50 then u50 else if jz = 51 then u51 else if jz = 52 then u52 else if jz = 53 then u53 else if jz = 54 then u54 else if jz = 55 then u55 else if jz = 56 then u56 else if jz = 57 then u57 else if jz = 58 then u58 else if jz = 59 then u59 else if jz = 60 then u60 else if jz = 61 then u61 else if jz = 62 then u62 else if jz = 63 then u63 else if jz = 64 then u64 else if jz = 65 then u65 else if jz = 66 then u66 else if jz = 67 then u67 else if jz = 68 then u68 else if jz = 69 then u69 else if jz = 70 then u70 else if jz = 71 then u71 else if jz = 8 then u8 else if jz = 9 then u9 else if jz = 10 then u10 else undef, rfl, ⟨Below.drew (Below.refl _ _), Had.none, Had.none, Had.none, Had.none, Had.none, Had.none, Had.none, Had.none, Had.none, Had.none, Had.none, Had.none, Had.none, Had.none, Had.none, Had.none, Had.none, Had.none, Had.none, Had.none, Had.none, Had.none, Had.none, Had.none, Had.none, Had.none, Had.none, Had.none, Had.none, Had.none, Had.none, Had.none, Had.none, Had.none, Had.none, Had.none, Had.none, Had.none, Had.none, Had.none, Had.none, Had.none, Had.none, Had.none, Had.none, Had.none, Had.none, Had.none, Had.none, Had.none, Had.none⟩⟩ (rs := [0, 1, 2, 3, 4, 5, 6, 7, 8, 9, 10, 11, 12, 13, 14, 15, 16, 17, 18, 19, 20, 21, 22, 23, 24, 25, 26, 27, 28, 29, 30, 31, 32]) (by kernel_rfl) ?_ ?_
                  · refine EachOf.cons [] rfl (by kernel_rfl) ?_ ?_
                    · rintro L A W ⟨v, rfl, hR⟩ hi hw K hK
                      go_simp
                      refine hK.out _ _ ?_
                      exact ⟨(fun jz => if jz = 42 then .slice (some ⟨sg, o, none⟩) (n) (rc) else v jz), rfl, ⟨hR.st, hR.w2.o, hR.w3.o, hR.w6.o, hR.w7.o, hR.w9.o, hR.w12.o, hR.w13.o, hR.w16.o, hR.w17.o, hR.w19.o, hR.w22.o, hR.w23.o, hR.w26.o, hR.w27.o, hR.w29.o, hR.w30.o, hR.w31.o, hR.w32.o, (fun _ => rfl), hR.f1.k, hR.f2.k, hR.f3.k, hR.f4.k, hR.f5.k, hR.f6.k, hR.f7.k, hR.f8.k, hR.f9.k, hR.f10.k, hR.f11.k, hR.f12.k, hR.f13.k, hR.f14.k, hR.f15.k, hR.f16.k, hR.f17.k, hR.f18.k, hR.f19.k, hR.f20.k, hR.f21.k, hR.f22.k, hR.f23.k, hR.f24.k, hR.f25.k, hR.f26.k, hR.f27.k, hR.f28.k, hR.f29.k, hR.f30.k, hR.f31.k, hR.f32.k⟩⟩
                    refine EachOf.cons [] rfl (by kernel_rfl) ?_ ?_
                    · rintro L A W ⟨v, rfl, hR⟩ hi hw K hK
                      go_simp
                      refine hK.out _ _ ?_
                      exact ⟨(fun jz => if jz = 43 then .int .i64 (i : Int) else v jz), rfl, ⟨hR.st, hR.w2.o, hR.w3.o, hR.w6.o, hR.w7.o, hR.w9.o, hR.w12.o, hR.w13.o, hR.w16.o, hR.w17.o, hR.w19.o, hR.w22.o, hR.w23.o, hR.w26.o, hR.w27.o, hR.w29.o, hR.w30.o, hR.w31.o, hR.w32.o, hR.f0.k, (fun _ => rfl), hR.f2.k, hR.f3.k, hR.f4.k, hR.f5.k, hR.f6.k, hR.f7.k, hR.f8.k, hR.f9.k, hR.f10.k, hR.f11.k, hR.f12.k, hR.f13.k, hR.f14.k, hR.f15.k, hR.f16.k, hR.f17.k, hR.f18.k, hR.f19.k, hR.f20.k, hR.f21.k, hR.f22.k, hR.f23.k, hR.f24.k, hR.f25.k, hR.f26.k, hR.f27.k, hR.f28.k, hR.f29.k, hR.f30.k, hR.f31.k, hR.f32.k⟩⟩
                    refine EachOf.cons [0, 1] rfl (by kernel_rfl) ?_ ?_
                    · rintro L A W ⟨v, rfl, hR⟩ hi hw K hK
                      have e0 := hR.f0 (hw 0 (by simp))
                      have e1 := hR.f1 (hw 1 (by simp))
                      simp only [e0, e1]
                      clear e0 e1
                      go_simp
                      refine hK.out _ _ ?_
                      exact ⟨(fun jz => if jz = 42 then .slice (some ⟨sg, o, none⟩) (n) (rc) else if jz = 43 then .int .i64 (i : Int) else if jz = 44 then .pointer (some ⟨sg, o + i * 3, none⟩) else v jz), rfl, ⟨hR.st, (fun _ j hj => upd_on (hw j hj)), hR.w3.o, hR.w6.o, hR.w7.o, hR.w9.o, hR.w12.o, hR.w13.o, hR.w16.o, hR.w17.o, hR.w19.o, hR.w22.o, hR.w23.o, hR.w26.o, hR.w27.o, hR.w29.o, hR.w30.o, hR.w31.o, hR.w32.o, (fun _ => rfl), (fun _ => rfl), (fun _ => rfl), hR.f3.k, hR.f4.k, hR.f5.k, hR.f6.k, hR.f7.k, hR.f8.k, hR.f9.k, hR.f10.k, hR.f11.k, hR.f12.k, hR.f13.k, hR.f14.k, hR.f15.k, hR.f16.k, hR.f17.k, hR.f18.k, hR.f19.k, hR.f20.k, hR.f21.k, hR.f22.k, hR.f23.k, hR.f24.k, hR.f25.k, hR.f26.k, hR.f27.k, hR.f28.k, hR.f29.k, hR.f30.k, hR.f31.k, hR.f32.k⟩⟩
                    refine EachOf.cons [2] rfl (by kernel_rfl) ?_ ?_
                    · rintro L A W ⟨v, rfl, hR⟩ hi hw K hK
                      have e2 := hR.f2 (hw 2 (by simp))
                      simp only [e2]
                      clear e2
                      have q0 := (hR.st.cell (p := ⟨sg, o + i * 3, none⟩) LA0.out.2).trans LA0.out.1
                      have q1 := (hR.st.cell (p := ⟨sg, o + i * 3 + 1, none⟩) LA1.out.2).trans LA1.out.1
                      have q2 := (hR.st.cell (p := ⟨sg, o + i * 3 + 2, none⟩) LA2.out.2).trans LA2.out.1
                      go_simp
                      refine hK.out _ _ ?_
                      exact ⟨(fun jz => if jz = 44 then .pointer (some ⟨sg, o + i * 3, none⟩) else if jz = 45 then .agg #[.int .i64 a.x, .int .i64 a.y, .int .i64 a.z] else v jz), rfl, ⟨hR.st, hR.w2.o, (fun _ j hj => upd_on (hw j hj)), hR.w6.o, hR.w7.o, hR.w9.o, hR.w12.o, hR.w13.o, hR.w16.o, hR.w17.o, hR.w19.o, hR.w22.o, hR.w23.o, hR.w26.o, hR.w27.o, hR.w29.o, hR.w30.o, hR.w31.o, hR.w32.o, hR.f0.k, hR.f1.k, (fun _ => rfl), (fun _ => rfl), hR.f4.k, hR.f5.k, hR.f6.k, hR.f7.k, hR.f8.k, hR.f9.k, hR.f10.k, hR.f11.k, hR.f12.k, hR.f13.k, hR.f14.k, hR.f15.k, hR.f16.k, hR.f17.k, hR.f18.k, hR.f19.k, hR.f20.k, hR.f21.k, hR.f22.k, hR.f23.k, hR.f24.k, hR.f25.k, hR.f26.k, hR.f27.k, hR.f28.k, hR.f29.k, hR.f30.k, hR.f31.k, hR.f32.k⟩⟩
                    refine EachOf.cons [] rfl (by kernel_rfl) ?_ ?_
                    · rintro L A W ⟨v, rfl, hR⟩ hi hw K hK
                      go_simp
                      refine hK.out _ _ ?_
                      exact ⟨(fun jz => if jz = 46 then .slice (some ⟨sg, o, none⟩) (n) (rc) else v jz), rfl, ⟨hR.st, hR.w2.o, hR.w3.o, hR.w6.o, hR.w7.o, hR.w9.o, hR.w12.o, hR.w13.o, hR.w16.o, hR.w17.o, hR.w19.o, hR.w22.o, hR.w23.o, hR.w26.o, hR.w27.o, hR.w29.o, hR.w30.o, hR.w31.o, hR.w32.o, hR.f0.k, hR.f1.k, hR.f2.k, hR.f3.k, (fun _ => rfl), hR.f5.k, hR.f6.k, hR.f7.k, hR.f8.k, hR.f9.k, hR.f10.k, hR.f11.k, hR.f12.k, hR.f13.k, hR.f14.k, hR.f15.k, hR.f16.k, hR.f17.k, hR.f18.k, hR.f19.k, hR.f20.k, hR.f21.k, hR.f22.k, hR.f23.k, hR.f24.k, hR.f25.k, hR.f26.k, hR.f27.k, hR.f28.k, hR.f29.k, hR.f30.k, hR.f31.k, hR.f32.k⟩⟩
                    refine EachOf.cons [] rfl (by kernel_rfl) ?_ ?_
                    · rintro L A W ⟨v, rfl, hR⟩ hi hw K hK
                      go_simp
                      refine hK.out _ _ ?_
                      exact ⟨(fun jz => if jz = 47 then .int .i64 (k : Int) else v jz), rfl, ⟨hR.st, hR.w2.o, hR.w3.o, hR.w6.o, hR.w7.o, hR.w9.o, hR.w12.o, hR.w13.o, hR.w16.o, hR.w17.o, hR.w19.o, hR.w22.o, hR.w23.o, hR.w26.o, hR.w27.o, hR.w29.o, hR.w30.o, hR.w31.o, hR.w32.o, hR.f0.k, hR.f1.k, hR.f2.k, hR.f3.k, hR.f4.k, (fun _ => rfl), hR.f6.k, hR.f7.k, hR.f8.k, hR.f9.k, hR.f10.k, hR.f11.k, hR.f12.k, hR.f13.k, hR.f14.k, hR.f15.k, hR.f16.k, hR.f17.k, hR.f18.k, hR.f19.k, hR.f20.k, hR.f21.k, hR.f22.k, hR.f23.k, hR.f24.k, hR.f25.k, hR.f26.k, hR.f27.k, hR.f28.k, hR.f29.k, hR.f30.k, hR.f31.k, hR.f32.k⟩⟩
                    refine EachOf.cons [4, 5] rfl (by kernel_rfl) ?_ ?_
                    · rintro L A W ⟨v, rfl, hR⟩ hi hw K hK
                      have e4 := hR.f4 (hw 4 (by simp))
                      have e5 := hR.f5 (hw 5 (by simp))
                      simp only [e4, e5]
                      clear e4 e5
                      go_simp
                      refine hK.out _ _ ?_
                      exact ⟨(fun jz => if jz = 46 then .slice (some ⟨sg, o, none⟩) (n) (rc) else if jz = 47 then .int .i64 (k : Int) else if jz = 48 then .pointer (some ⟨sg, o + k * 3, none⟩) else v jz), rfl, ⟨hR.st, hR.w2.o, hR.w3.o, (fun _ j hj => upd_on (hw j hj)), hR.w7.o, hR.w9.o, hR.w12.o, hR.w13.o, hR.w16.o, hR.w17.o, hR.w19.o, hR.w22.o, hR.w23.o, hR.w26.o, hR.w27.o, hR.w29.o, hR.w30.o, hR.w31.o, hR.w32.o, hR.f0.k, hR.f1.k, hR.f2.k, hR.f3.k, (fun _ => rfl), (fun _ => rfl), (fun _ => rfl), hR.f7.k, hR.f8.k, hR.f9.k, hR.f10.k, hR.f11.k, hR.f12.k, hR.f13.k, hR.f14.k, hR.f15.k, hR.f16.k, hR.f17.k, hR.f18.k, hR.f19.k, hR.f20.k, hR.f21.k, hR.f22.k, hR.f23.k, hR.f24.k, hR.f25.k, hR.f26.k, hR.f27.k, hR.f28.k, hR.f29.k, hR.f30.k, hR.f31.k, hR.f32.k⟩⟩
                    refine EachOf.cons [6] rfl (by kernel_rfl) ?_ ?_
                    · rintro L A W ⟨v, rfl, hR⟩ hi hw K hK
                      have e6 := hR.f6 (hw 6 (by simp))
                      simp only [e6]
                      clear e6
                      have q0 := (hR.st.cell (p := ⟨sg, o + k * 3, none⟩) LB0.out.2).trans LB0.out.1
                      have q1 := (hR.st.cell (p := ⟨sg, o + k * 3 + 1, none⟩) LB1.out.2).trans LB1.out.1
                      have q2 := (hR.st.cell (p := ⟨sg, o + k * 3 + 2, none⟩) LB2.out.2).trans LB2.out.1
                      go_simp
                      refine hK.out _ _ ?_
                      exact ⟨(fun jz => if jz = 48 then .pointer (some ⟨sg, o + k * 3, none⟩) else if jz = 49 then .agg #[.int .i64 b.x, .int .i64 b.y, .int .i64 b.z] else v jz), rfl, ⟨hR.st, hR.w2.o, hR.w3.o, hR.w6.o, (fun _ j hj => upd_on (hw j hj)), hR.w9.o, hR.w12.o, hR.w13.o, hR.w16.o, hR.w17.o, hR.w19.o, hR.w22.o, hR.w23.o, hR.w26.o, hR.w27.o, hR.w29.o, hR.w30.o, hR.w31.o, hR.w32.o, hR.f0.k, hR.f1.k, hR.f2.k, hR.f3.k, hR.f4.k, hR.f5.k, (fun _ => rfl), (fun _ => rfl), hR.f8.k, hR.f9.k, hR.f10.k, hR.f11.k, hR.f12.k, hR.f13.k, hR.f14.k, hR.f15.k, hR.f16.k, hR.f17.k, hR.f18.k, hR.f19.k, hR.f20.k, hR.f21.k, hR.f22.k, hR.f23.k, hR.f24.k, hR.f25.k, hR.f26.k, hR.f27.k, hR.f28.k, hR.f29.k, hR.f30.k, hR.f31.k, hR.f32.k⟩⟩
                    refine EachOf.cons [] rfl (by kernel_rfl) ?_ ?_
                    · rintro L A W ⟨v, rfl, hR⟩ hi hw K hK
                      have q0 := (hR.st.cell (p := ⟨b2, 0, none⟩) LP0.out.2).trans LP0.out.1
                      have q1 := (hR.st.cell (p := ⟨b2, 1, none⟩) LP1.out.2).trans LP1.out.1
                      have q2 := (hR.st.cell (p := ⟨b2, 2, none⟩) LP2.out.2).trans LP2.out.1
                      go_simp
                      refine hK.out _ _ ?_
                      exact ⟨(fun jz => if jz = 50 then .agg #[.int .i64 p.x, .int .i64 p.y, .int .i64 p.z] else v jz), rfl, ⟨hR.st, hR.w2.o, hR.w3.o, hR.w6.o, hR.w7.o, hR.w9.o, hR.w12.o, hR.w13.o, hR.w16.o, hR.w17.o, hR.w19.o, hR.w22.o, hR.w23.o, hR.w26.o, hR.w27.o, hR.w29.o, hR.w30.o, hR.w31.o, hR.w32.o, hR.f0.k, hR.f1.k, hR.f2.k, hR.f3.k, hR.f4.k, hR.f5.k, hR.f6.k, hR.f7.k, (fun _ => rfl), hR.f9.k, hR.f10.k, hR.f11.k, hR.f12.k, hR.f13.k, hR.f14.k, hR.f15.k, hR.f16.k, hR.f17.k, hR.f18.k, hR.f19.k, hR.f20.k, hR.f21.k, hR.f22.k, hR.f23.k, hR.f24.k, hR.f25.k, hR.f26.k, hR.f27.k, hR.f28.k, hR.f29.k, hR.f30.k, hR.f31.k, hR.f32.k⟩⟩
                    refine EachOf.cons [3, 7, 8] rfl (by kernel_rfl) ?_ ?_
                    · rintro L A W ⟨v, rfl, hR⟩ hi hw K hK
                      have e3 := hR.f3 (hw 3 (by simp))
                      have e7 := hR.f7 (hw 7 (by simp))
                      have e8 := hR.f8 (hw 8 (by simp))
                      simp only [e3, e7, e8]
                      clear e3 e7 e8
                      go_simp
                      go_at_call 55
                      (with_reducible refine ((CA _).out).mono ?_)
                      rintro e w2 ⟨rfl, hb⟩
                      go_simp
                      refine hK.out _ _ ?_
                      exact ⟨(fun jz => if jz = 45 then .agg #[.int .i64 a.x, .int .i64 a.y, .int .i64 a.z] else if jz = 49 then .agg #[.int .i64 b.x, .int .i64 b.y, .int .i64 b.z] else if jz = 50 then .agg #[.int .i64 p.x, .int .i64 p.y, .int .i64 p.z] else if jz = 51 then .int .i64 x else v jz), rfl, ⟨below_on hR.st hb, hR.w2.o, hR.w3.o, hR.w6.o, hR.w7.o, (fun _ j hj => upd_on (hw j hj)), hR.w12.o, hR.w13.o, hR.w16.o, hR.w17.o, hR.w19.o, hR.w22.o, hR.w23.o, hR.w26.o, hR.w27.o, hR.w29.o, hR.w30.o, hR.w31.o, hR.w32.o, hR.f0.k, hR.f1.k, hR.f2.k, (fun _ => rfl), hR.f4.k, hR.f5.k, hR.f6.k, (fun _ => rfl), (fun _ => rfl), (fun _ => rfl), hR.f10.k, hR.f11.k, hR.f12.k, hR.f13.k, hR.f14.k, hR.f15.k, hR.f16.k, hR.f17.k, hR.f18.k, hR.f19.k, hR.f20.k, hR.f21.k, hR.f22.k, hR.f23.k, hR.f24.k, hR.f25.k, hR.f26.k, hR.f27.k, hR.f28.k, hR.f29.k, hR.f30.k, hR.f31.k, hR.f32.k⟩⟩
                    refine EachOf.cons [] rfl (by kernel_rfl) ?_ ?_
                    · rintro L A W ⟨v, rfl, hR⟩ hi hw K hK
                      go_simp
                      refine hK.out _ _ ?_
                      exact ⟨(fun jz => if jz = 52 then .slice (some ⟨sg, o, none⟩) (n) (rc) else v jz), rfl, ⟨hR.st, hR.w2.o, hR.w3.o, hR.w6.o, hR.w7.o, hR.w9.o, hR.w12.o, hR.w13.o, hR.w16.o, hR.w17.o, hR.w19.o, hR.w22.o, hR.w23.o, hR.w26.o, hR.w27.o, hR.w29.o, hR.w30.o, hR.w31.o, hR.w32.o, hR.f0.k, hR.f1.k, hR.f2.k, hR.f3.k, hR.f4.k, hR.f5.k, hR.f6.k, hR.f7.k, hR.f8.k, hR.f9.k, (fun _ => rfl), hR.f11.k, hR.f12.k, hR.f13.k, hR.f14.k, hR.f15.k, hR.f16.k, hR.f17.k, hR.f18.k, hR.f19.k, hR.f20.k, hR.f21.k, hR.f22.k, hR.f23.k, hR.f24.k, hR.f25.k, hR.f26.k, hR.f27.k, hR.f28.k, hR.f29.k, hR.f30.k, hR.f31.k, hR.f32.k⟩⟩
                    refine EachOf.cons [] rfl (by kernel_rfl) ?_ ?_
                    · rintro L A W ⟨v, rfl, hR⟩ hi hw K hK
                      go_simp
                      refine hK.out _ _ ?_
                      exact ⟨(fun jz => if jz = 53 then .int .i64 (k : Int) else v jz), rfl, ⟨hR.st, hR.w2.o, hR.w3.o, hR.w6.o, hR.w7.o, hR.w9.o, hR.w12.o, hR.w13.o, hR.w16.o, hR.w17.o, hR.w19.o, hR.w22.o, hR.w23.o, hR.w26.o, hR.w27.o, hR.w29.o, hR.w30.o, hR.w31.o, hR.w32.o, hR.f0.k, hR.f1.k, hR.f2.k, hR.f3.k, hR.f4.k, hR.f5.k, hR.f6.k, hR.f7.k, hR.f8.k, hR.f9.k, hR.f10.k, (fun _ => rfl), hR.f12.k, hR.f13.k, hR.f14.k, hR.f15.k, hR.f16.k, hR.f17.k, hR.f18.k, hR.f19.k, hR.f20.k, hR.f21.k, hR.f22.k, hR.f23.k, hR.f24.k, hR.f25.k, hR.f26.k, hR.f27.k, hR.f28.k, hR.f29.k, hR.f30.k, hR.f31.k, hR.f32.k⟩⟩
                    refine EachOf.cons [10, 11] rfl (by kernel_rfl) ?_ ?_
                    · rintro L A W ⟨v, rfl, hR⟩ hi hw K hK
                      have e10 := hR.f10 (hw 10 (by simp))
                      have e11 := hR.f11 (hw 11 (by simp))
                      simp only [e10, e11]
                      clear e10 e11
                      go_simp
                      refine hK.out _ _ ?_
                      exact ⟨(fun jz => if jz = 52 then .slice (some ⟨sg, o, none⟩) (n) (rc) else if jz = 53 then .int .i64 (k : Int) else if jz = 54 then .pointer (some ⟨sg, o + k * 3, none⟩) else v jz), rfl, ⟨hR.st, hR.w2.o, hR.w3.o, hR.w6.o, hR.w7.o, hR.w9.o, (fun _ j hj => upd_on (hw j hj)), hR.w13.o, hR.w16.o, hR.w17.o, hR.w19.o, hR.w22.o, hR.w23.o, hR.w26.o, hR.w27.o, hR.w29.o, hR.w30.o, hR.w31.o, hR.w32.o, hR.f0.k, hR.f1.k, hR.f2.k, hR.f3.k, hR.f4.k, hR.f5.k, hR.f6.k, hR.f7.k, hR.f8.k, hR.f9.k, (fun _ => rfl), (fun _ => rfl), (fun _ => rfl), hR.f13.k, hR.f14.k, hR.f15.k, hR.f16.k, hR.f17.k, hR.f18.k, hR.f19.k, hR.f20.k, hR.f21.k, hR.f22.k, hR.f23.k, hR.f24.k, hR.f25.k, hR.f26.k, hR.f27.k, hR.f28.k, hR.f29.k, hR.f30.k, hR.f31.k, hR.f32.k⟩⟩
                    refine EachOf.cons [12] rfl (by kernel_rfl) ?_ ?_
                    · rintro L A W ⟨v, rfl, hR⟩ hi hw K hK
                      have e12 := hR.f12 (hw 12 (by simp))
                      simp only [e12]
                      clear e12
                      have q0 := (hR.st.cell (p := ⟨sg, o + k * 3, none⟩) LB0.out.2).trans LB0.out.1
                      have q1 := (hR.st.cell (p := ⟨sg, o + k * 3 + 1, none⟩) LB1.out.2).trans LB1.out.1
                      have q2 := (hR.st.cell (p := ⟨sg, o + k * 3 + 2, none⟩) LB2.out.2).trans LB2.out.1
                      go_simp
                      refine hK.out _ _ ?_
                      exact ⟨(fun jz => if jz = 54 then .pointer (some ⟨sg, o + k * 3, none⟩) else if jz = 55 then .agg #[.int .i64 b.x, .int .i64 b.y, .int .i64 b.z] else v jz), rfl, ⟨hR.st, hR.w2.o, hR.w3.o, hR.w6.o, hR.w7.o, hR.w9.o, hR.w12.o, (fun _ j hj => upd_on (hw j hj)), hR.w16.o, hR.w17.o, hR.w19.o, hR.w22.o, hR.w23.o, hR.w26.o, hR.w27.o, hR.w29.o, hR.w30.o, hR.w31.o, hR.w32.o, hR.f0.k, hR.f1.k, hR.f2.k, hR.f3.k, hR.f4.k, hR.f5.k, hR.f6.k, hR.f7.k, hR.f8.k, hR.f9.k, hR.f10.k, hR.f11.k, (fun _ => rfl), (fun _ => rfl), hR.f14.k, hR.f15.k, hR.f16.k, hR.f17.k, hR.f18.k, hR.f19.k, hR.f20.k, hR.f21.k, hR.f22.k, hR.f23.k, hR.f24.k, hR.f25.k, hR.f26.k, hR.f27.k, hR.f28.k, hR.f29.k, hR.f30.k, hR.f31.k, hR.f32.k⟩⟩
                    refine EachOf.cons [] rfl (by kernel_rfl) ?_ ?_
                    · rintro L A W ⟨v, rfl, hR⟩ hi hw K hK
                      go_simp
                      refine hK.out _ _ ?_
                      exact ⟨(fun jz => if jz = 56 then .slice (some ⟨sg, o, none⟩) (n) (rc) else v jz), rfl, ⟨hR.st, hR.w2.o, hR.w3.o, hR.w6.o, hR.w7.o, hR.w9.o, hR.w12.o, hR.w13.o, hR.w16.o, hR.w17.o, hR.w19.o, hR.w22.o, hR.w23.o, hR.w26.o, hR.w27.o, hR.w29.o, hR.w30.o, hR.w31.o, hR.w32.o, hR.f0.k, hR.f1.k, hR.f2.k, hR.f3.k, hR.f4.k, hR.f5.k, hR.f6.k, hR.f7.k, hR.f8.k, hR.f9.k, hR.f10.k, hR.f11.k, hR.f12.k, hR.f13.k, (fun _ => rfl), hR.f15.k, hR.f16.k, hR.f17.k, hR.f18.k, hR.f19.k, hR.f20.k, hR.f21.k, hR.f22.k, hR.f23.k, hR.f24.k, hR.f25.k, hR.f26.k, hR.f27.k, hR.f28.k, hR.f29.k, hR.f30.k, hR.f31.k, hR.f32.k⟩⟩
                    refine EachOf.cons [] rfl (by kernel_rfl) ?_ ?_
                    · rintro L A W ⟨v, rfl, hR⟩ hi hw K hK
                      go_simp
                      refine hK.out _ _ ?_
                      exact ⟨(fun jz => if jz = 57 then .int .i64 (m : Int) else v jz), rfl, ⟨hR.st, hR.w2.o, hR.w3.o, hR.w6.o, hR.w7.o, hR.w9.o, hR.w12.o, hR.w13.o, hR.w16.o, hR.w17.o, hR.w19.o, hR.w22.o, hR.w23.o, hR.w26.o, hR.w27.o, hR.w29.o, hR.w30.o, hR.w31.o, hR.w32.o, hR.f0.k, hR.f1.k, hR.f2.k, hR.f3.k, hR.f4.k, hR.f5.k, hR.f6.k, hR.f7.k, hR.f8.k, hR.f9.k, hR.f10.k, hR.f11.k, hR.f12.k, hR.f13.k, hR.f14.k, (fun _ => rfl), hR.f16.k, hR.f17.k, hR.f18.k, hR.f19.k, hR.f20.k, hR.f21.k, hR.f22.k, hR.f23.k, hR.f24.k, hR.f25.k, hR.f26.k, hR.f27.k, hR.f28.k, hR.f29.k, hR.f30.k, hR.f31.k, hR.f32.k⟩⟩
                    refine EachOf.cons [14, 15] rfl (by kernel_rfl) ?_ ?_
                    · rintro L A W ⟨v, rfl, hR⟩ hi hw K hK
                      have e14 := hR.f14 (hw 14 (by simp))
                      have e15 := hR.f15 (hw 15 (by simp))
                      simp only [e14, e15]
                      clear e14 e15
                      go_simp
                      refine hK.out _ _ ?_
                      exact ⟨(fun jz => if jz = 56 then .slice (some ⟨sg, o, none⟩) (n) (rc) else if jz = 57 then .int .i64 (m : Int) else if jz = 58 then .pointer (some ⟨sg, o + m * 3, none⟩) else v jz), rfl, ⟨hR.st, hR.w2.o, hR.w3.o, hR.w6.o, hR.w7.o, hR.w9.o, hR.w12.o, hR.w13.o, (fun _ j hj => upd_on (hw j hj)), hR.w17.o, hR.w19.o, hR.w22.o, hR.w23.o, hR.w26.o, hR.w27.o, hR.w29.o, hR.w30.o, hR.w31.o, hR.w32.o, hR.f0.k, hR.f1.k, hR.f2.k, hR.f3.k, hR.f4.k, hR.f5.k, hR.f6.k, hR.f7.k, hR.f8.k, hR.f9.k, hR.f10.k, hR.f11.k, hR.f12.k, hR.f13.k, (fun _ => rfl), (fun _ => rfl), (fun _ => rfl), hR.f17.k, hR.f18.k, hR.f19.k, hR.f20.k, hR.f21.k, hR.f22.k, hR.f23.k, hR.f24.k, hR.f25.k, hR.f26.k, hR.f27.k, hR.f28.k, hR.f29.k, hR.f30.k, hR.f31.k, hR.f32.k⟩⟩
                    refine EachOf.cons [16] rfl (by kernel_rfl) ?_ ?_
                    · rintro L A W ⟨v, rfl, hR⟩ hi hw K hK
                      have e16 := hR.f16 (hw 16 (by simp))
                      simp only [e16]
                      clear e16
                      have q0 := (hR.st.cell (p := ⟨sg, o + m * 3, none⟩) LD0.out.2).trans LD0.out.1
                      have q1 := (hR.st.cell (p := ⟨sg, o + m * 3 + 1, none⟩) LD1.out.2).trans LD1.out.1
                      have q2 := (hR.st.cell (p := ⟨sg, o + m * 3 + 2, none⟩) LD2.out.2).trans LD2.out.1
                      go_simp
                      refine hK.out _ _ ?_
                      exact ⟨(fun jz => if jz = 58 then .pointer (some ⟨sg, o + m * 3, none⟩) else if jz = 59 then .agg #[.int .i64 d.x, .int .i64 d.y, .int .i64 d.z] else v jz), rfl, ⟨hR.st, hR.w2.o, hR.w3.o, hR.w6.o, hR.w7.o, hR.w9.o, hR.w12.o, hR.w13.o, hR.w16.o, (fun _ j hj => upd_on (hw j hj)), hR.w19.o, hR.w22.o, hR.w23.o, hR.w26.o, hR.w27.o, hR.w29.o, hR.w30.o, hR.w31.o, hR.w32.o, hR.f0.k, hR.f1.k, hR.f2.k, hR.f3.k, hR.f4.k, hR.f5.k, hR.f6.k, hR.f7.k, hR.f8.k, hR.f9.k, hR.f10.k, hR.f11.k, hR.f12.k, hR.f13.k, hR.f14.k, hR.f15.k, (fun _ => rfl), (fun _ => rfl), hR.f18.k, hR.f19.k, hR.f20.k, hR.f21.k, hR.f22.k, hR.f23.k, hR.f24.k, hR.f25.k, hR.f26.k, hR.f27.k, hR.f28.k, hR.f29.k, hR.f30.k, hR.f31.k, hR.f32.k⟩⟩
                    refine EachOf.cons [] rfl (by kernel_rfl) ?_ ?_
                    · rintro L A W ⟨v, rfl, hR⟩ hi hw K hK
                      have q0 := (hR.st.cell (p := ⟨b2, 0, none⟩) LP0.out.2).trans LP0.out.1
                      have q1 := (hR.st.cell (p := ⟨b2, 1, none⟩) LP1.out.2).trans LP1.out.1
                      have q2 := (hR.st.cell (p := ⟨b2, 2, none⟩) LP2.out.2).trans LP2.out.1
                      go_simp
                      refine hK.out _ _ ?_
                      exact ⟨(fun jz => if jz = 60 then .agg #[.int .i64 p.x, .int .i64 p.y, .int .i64 p.z] else v jz), rfl, ⟨hR.st, hR.w2.o, hR.w3.o, hR.w6.o, hR.w7.o, hR.w9.o, hR.w12.o, hR.w13.o, hR.w16.o, hR.w17.o, hR.w19.o, hR.w22.o, hR.w23.o, hR.w26.o, hR.w27.o, hR.w29.o, hR.w30.o, hR.w31.o, hR.w32.o, hR.f0.k, hR.f1.k, hR.f2.k, hR.f3.k, hR.f4.k, hR.f5.k, hR.f6.k, hR.f7.k, hR.f8.k, hR.f9.k, hR.f10.k, hR.f11.k, hR.f12.k, hR.f13.k, hR.f14.k, hR.f15.k, hR.f16.k, hR.f17.k, (fun _ => rfl), hR.f19.k, hR.f20.k, hR.f21.k, hR.f22.k, hR.f23.k, hR.f24.k, hR.f25.k, hR.f26.k, hR.f27.k, hR.f28.k, hR.f29.k, hR.f30.k, hR.f31.k, hR.f32.k⟩⟩
                    refine EachOf.cons [13, 17, 18] rfl (by kernel_rfl) ?_ ?_
                    · rintro L A W ⟨v, rfl, hR⟩ hi hw K hK
                      have e13 := hR.f13 (hw 13 (by simp))
                      have e17 := hR.f17 (hw 17 (by simp))
                      have e18 := hR.f18 (hw 18 (by simp))
                      simp only [e13, e17, e18]
                      clear e13 e17 e18
                      go_simp
                      go_at_call 55
                      (with_reducible refine ((CB _).out).mono ?_)
                      rintro e w2 ⟨rfl, hb⟩
                      go_simp
                      refine hK.out _ _ ?_
                      exact ⟨(fun jz => if jz = 55 then .agg #[.int .i64 b.x, .int .i64 b.y, .int .i64 b.z] else if jz = 59 then .agg #[.int .i64 d.x, .int .i64 d.y, .int .i64 d.z] else if jz = 60 then .agg #[.int .i64 p.x, .int .i64 p.y, .int .i64 p.z] else if jz = 61 then .int .i64 y else v jz), rfl, ⟨below_on hR.st hb, hR.w2.o, hR.w3.o, hR.w6.o, hR.w7.o, hR.w9.o, hR.w12.o, hR.w13.o, hR.w16.o, hR.w17.o, (fun _ j hj => upd_on (hw j hj)), hR.w22.o, hR.w23.o, hR.w26.o, hR.w27.o, hR.w29.o, hR.w30.o, hR.w31.o, hR.w32.o, hR.f0.k, hR.f1.k, hR.f2.k, hR.f3.k, hR.f4.k, hR.f5.k, hR.f6.k, hR.f7.k, hR.f8.k, hR.f9.k, hR.f10.k, hR.f11.k, hR.f12.k, (fun _ => rfl), hR.f14.k, hR.f15.k, hR.f16.k, (fun _ => rfl), (fun _ => rfl), (fun _ => rfl), hR.f20.k, hR.f21.k, hR.f22.k, hR.f23.k, hR.f24.k, hR.f25.k, hR.f26.k, hR.f27.k, hR.f28.k, hR.f29.k, hR.f30.k, hR.f31.k, hR.f32.k⟩⟩
                    refine EachOf.cons [] rfl (by kernel_rfl) ?_ ?_
                    · rintro L A W ⟨v, rfl, hR⟩ hi hw K hK
                      go_simp
                      refine hK.out _ _ ?_
                      exact ⟨(fun jz => if jz = 62 then .slice (some ⟨sg, o, none⟩) (n) (rc) else v jz), rfl, ⟨hR.st, hR.w2.o, hR.w3.o, hR.w6.o, hR.w7.o, hR.w9.o, hR.w12.o, hR.w13.o, hR.w16.o, hR.w17.o, hR.w19.o, hR.w22.o, hR.w23.o, hR.w26.o, hR.w27.o, hR.w29.o, hR.w30.o, hR.w31.o, hR.w32.o, hR.f0.k, hR.f1.k, hR.f2.k, hR.f3.k, hR.f4.k, hR.f5.k, hR.f6.k, hR.f7.k, hR.f8.k, hR.f9.k, hR.f10.k, hR.f11.k, hR.f12.k, hR.f13.k, hR.f14.k, hR.f15.k, hR.f16.k, hR.f17.k, hR.f18.k, hR.f19.k, (fun _ => rfl), hR.f21.k, hR.f22.k, hR.f23.k, hR.f24.k, hR.f25.k, hR.f26.k, hR.f27.k, hR.f28.k, hR.f29.k, hR.f30.k, hR.f31.k, hR.f32.k⟩⟩
                    refine EachOf.cons [] rfl (by kernel_rfl) ?_ ?_
                    · rintro L A W ⟨v, rfl, hR⟩ hi hw K hK
                      go_simp
                      refine hK.out _ _ ?_
                      exact ⟨(fun jz => if jz = 63 then .int .i64 (m : Int) else v jz), rfl, ⟨hR.st, hR.w2.o, hR.w3.o, hR.w6.o, hR.w7.o, hR.w9.o, hR.w12.o, hR.w13.o, hR.w16.o, hR.w17.o, hR.w19.o, hR.w22.o, hR.w23.o, hR.w26.o, hR.w27.o, hR.w29.o, hR.w30.o, hR.w31.o, hR.w32.o, hR.f0.k, hR.f1.k, hR.f2.k, hR.f3.k, hR.f4.k, hR.f5.k, hR.f6.k, hR.f7.k, hR.f8.k, hR.f9.k, hR.f10.k, hR.f11.k, hR.f12.k, hR.f13.k, hR.f14.k, hR.f15.k, hR.f16.k, hR.f17.k, hR.f18.k, hR.f19.k, hR.f20.k, (fun _ => rfl), hR.f22.k, hR.f23.k, hR.f24.k, hR.f25.k, hR.f26.k, hR.f27.k, hR.f28.k, hR.f29.k, hR.f30.k, hR.f31.k, hR.f32.k⟩⟩
                    refine EachOf.cons [20, 21] rfl (by kernel_rfl) ?_ ?_
                    · rintro L A W ⟨v, rfl, hR⟩ hi hw K hK
                      have e20 := hR.f20 (hw 20 (by simp))
                      have e21 := hR.f21 (hw 21 (by simp))
                      simp only [e20, e21]
                      clear e20 e21
                      go_simp
                      refine hK.out _ _ ?_
                      exact ⟨(fun jz => if jz = 62 then .slice (some ⟨sg, o, none⟩) (n) (rc) else if jz = 63 then .int .i64 (m : Int) else if jz = 64 then .pointer (some ⟨sg, o + m * 3, none⟩) else v jz), rfl, ⟨hR.st, hR.w2.o, hR.w3.o, hR.w6.o, hR.w7.o, hR.w9.o, hR.w12.o, hR.w13.o, hR.w16.o, hR.w17.o, hR.w19.o, (fun _ j hj => upd_on (hw j hj)), hR.w23.o, hR.w26.o, hR.w27.o, hR.w29.o, hR.w30.o, hR.w31.o, hR.w32.o, hR.f0.k, hR.f1.k, hR.f2.k, hR.f3.k, hR.f4.k, hR.f5.k, hR.f6.k, hR.f7.k, hR.f8.k, hR.f9.k, hR.f10.k, hR.f11.k, hR.f12.k, hR.f13.k, hR.f14.k, hR.f15.k, hR.f16.k, hR.f17.k, hR.f18.k, hR.f19.k, (fun _ => rfl), (fun _ => rfl), (fun _ => rfl), hR.f23.k, hR.f24.k, hR.f25.k, hR.f26.k, hR.f27.k, hR.f28.k, hR.f29.k, hR.f30.k, hR.f31.k, hR.f32.k⟩⟩
                    refine EachOf.cons [22] rfl (by kernel_rfl) ?_ ?_
                    · rintro L A W ⟨v, rfl, hR⟩ hi hw K hK
                      have e22 := hR.f22 (hw 22 (by simp))
                      simp only [e22]
                      clear e22
                      have q0 := (hR.st.cell (p := ⟨sg, o + m * 3, none⟩) LD0.out.2).trans LD0.out.1
                      have q1 := (hR.st.cell (p := ⟨sg, o + m * 3 + 1, none⟩) LD1.out.2).trans LD1.out.1
                      have q2 := (hR.st.cell (p := ⟨sg, o + m * 3 + 2, none⟩) LD2.out.2).trans LD2.out.1
                      go_simp
                      refine hK.out _ _ ?_
                      exact ⟨(fun jz => if jz = 64 then .pointer (some ⟨sg, o + m * 3, none⟩) else if jz = 65 then .agg #[.int .i64 d.x, .int .i64 d.y, .int .i64 d.z] else v jz), rfl, ⟨hR.st, hR.w2.o, hR.w3.o, hR.w6.o, hR.w7.o, hR.w9.o, hR.w12.o, hR.w13.o, hR.w16.o, hR.w17.o, hR.w19.o, hR.w22.o, (fun _ j hj => upd_on (hw j hj)), hR.w26.o, hR.w27.o, hR.w29.o, hR.w30.o, hR.w31.o, hR.w32.o, hR.f0.k, hR.f1.k, hR.f2.k, hR.f3.k, hR.f4.k, hR.f5.k, hR.f6.k, hR.f7.k, hR.f8.k, hR.f9.k, hR.f10.k, hR.f11.k, hR.f12.k, hR.f13.k, hR.f14.k, hR.f15.k, hR.f16.k, hR.f17.k, hR.f18.k, hR.f19.k, hR.f20.k, hR.f21.k, (fun _ => rfl), (fun _ => rfl), hR.f24.k, hR.f25.k, hR.f26.k, hR.f27.k, hR.f28.k, hR.f29.k, hR.f30.k, hR.f31.k, hR.f32.k⟩⟩
                    refine EachOf.cons [] rfl (by kernel_rfl) ?_ ?_
                    · rintro L A W ⟨v, rfl, hR⟩ hi hw K hK
                      go_simp
                      refine hK.out _ _ ?_
                      exact ⟨(fun jz => if jz = 66 then .slice (some ⟨sg, o, none⟩) (n) (rc) else v jz), rfl, ⟨hR.st, hR.w2.o, hR.w3.o, hR.w6.o, hR.w7.o, hR.w9.o, hR.w12.o, hR.w13.o, hR.w16.o, hR.w17.o, hR.w19.o, hR.w22.o, hR.w23.o, hR.w26.o, hR.w27.o, hR.w29.o, hR.w30.o, hR.w31.o, hR.w32.o, hR.f0.k, hR.f1.k, hR.f2.k, hR.f3.k, hR.f4.k, hR.f5.k, hR.f6.k, hR.f7.k, hR.f8.k, hR.f9.k, hR.f10.k, hR.f11.k, hR.f12.k, hR.f13.k, hR.f14.k, hR.f15.k, hR.f16.k, hR.f17.k, hR.f18.k, hR.f19.k, hR.f20.k, hR.f21.k, hR.f22.k, hR.f23.k, (fun _ => rfl), hR.f25.k, hR.f26.k, hR.f27.k, hR.f28.k, hR.f29.k, hR.f30.k, hR.f31.k, hR.f32.k⟩⟩
                    refine EachOf.cons [] rfl (by kernel_rfl) ?_ ?_
                    · rintro L A W ⟨v, rfl, hR⟩ hi hw K hK
                      go_simp
                      refine hK.out _ _ ?_
                      exact ⟨(fun jz => if jz = 67 then .int .i64 (i : Int) else v jz), rfl, ⟨hR.st, hR.w2.o, hR.w3.o, hR.w6.o, hR.w7.o, hR.w9.o, hR.w12.o, hR.w13.o, hR.w16.o, hR.w17.o, hR.w19.o, hR.w22.o, hR.w23.o, hR.w26.o, hR.w27.o, hR.w29.o, hR.w30.o, hR.w31.o, hR.w32.o, hR.f0.k, hR.f1.k, hR.f2.k, hR.f3.k, hR.f4.k, hR.f5.k, hR.f6.k, hR.f7.k, hR.f8.k, hR.f9.k, hR.f10.k, hR.f11.k, hR.f12.k, hR.f13.k, hR.f14.k, hR.f15.k, hR.f16.k, hR.f17.k, hR.f18.k, hR.f19.k, hR.f20.k, hR.f21.k, hR.f22.k, hR.f23.k, hR.f24.k, (fun _ => rfl), hR.f26.k, hR.f27.k, hR.f28.k, hR.f29.k, hR.f30.k, hR.f31.k, hR.f32.k⟩⟩
                    refine EachOf.cons [24, 25] rfl (by kernel_rfl) ?_ ?_
                    · rintro L A W ⟨v, rfl, hR⟩ hi hw K hK
                      have e24 := hR.f24 (hw 24 (by simp))
                      have e25 := hR.f25 (hw 25 (by simp))
                      simp only [e24, e25]
                      clear e24 e25
                      go_simp
                      refine hK.out _ _ ?_
                      exact ⟨(fun jz => if jz = 66 then .slice (some ⟨sg, o, none⟩) (n) (rc) else if jz = 67 then .int .i64 (i : Int) else if jz = 68 then .pointer (some ⟨sg, o + i * 3, none⟩) else v jz), rfl, ⟨hR.st, hR.w2.o, hR.w3.o, hR.w6.o, hR.w7.o, hR.w9.o, hR.w12.o, hR.w13.o, hR.w16.o, hR.w17.o, hR.w19.o, hR.w22.o, hR.w23.o, (fun _ j hj => upd_on (hw j hj)), hR.w27.o, hR.w29.o, hR.w30.o, hR.w31.o, hR.w32.o, hR.f0.k, hR.f1.k, hR.f2.k, hR.f3.k, hR.f4.k, hR.f5.k, hR.f6.k, hR.f7.k, hR.f8.k, hR.f9.k, hR.f10.k, hR.f11.k, hR.f12.k, hR.f13.k, hR.f14.k, hR.f15.k, hR.f16.k, hR.f17.k, hR.f18.k, hR.f19.k, hR.f20.k, hR.f21.k, hR.f22.k, hR.f23.k, (fun _ => rfl), (fun _ => rfl), (fun _ => rfl), hR.f27.k, hR.f28.k, hR.f29.k, hR.f30.k, hR.f31.k, hR.f32.k⟩⟩
                    refine EachOf.cons [26] rfl (by kernel_rfl) ?_ ?_
                    · rintro L A W ⟨v, rfl, hR⟩ hi hw K hK
                      have e26 := hR.f26 (hw 26 (by simp))
                      simp only [e26]
                      clear e26
                      have q0 := (hR.st.cell (p := ⟨sg, o + i * 3, none⟩) LA0.out.2).trans LA0.out.1
                      have q1 := (hR.st.cell (p := ⟨sg, o + i * 3 + 1, none⟩) LA1.out.2).trans LA1.out.1
                      have q2 := (hR.st.cell (p := ⟨sg, o + i * 3 + 2, none⟩) LA2.out.2).trans LA2.out.1
                      go_simp
                      refine hK.out _ _ ?_
                      exact ⟨(fun jz => if jz = 68 then .pointer (some ⟨sg, o + i * 3, none⟩) else if jz = 69 then .agg #[.int .i64 a.x, .int .i64 a.y, .int .i64 a.z] else v jz), rfl, ⟨hR.st, hR.w2.o, hR.w3.o, hR.w6.o, hR.w7.o, hR.w9.o, hR.w12.o, hR.w13.o, hR.w16.o, hR.w17.o, hR.w19.o, hR.w22.o, hR.w23.o, hR.w26.o, (fun _ j hj => upd_on (hw j hj)), hR.w29.o, hR.w30.o, hR.w31.o, hR.w32.o, hR.f0.k, hR.f1.k, hR.f2.k, hR.f3.k, hR.f4.k, hR.f5.k, hR.f6.k, hR.f7.k, hR.f8.k, hR.f9.k, hR.f10.k, hR.f11.k, hR.f12.k, hR.f13.k, hR.f14.k, hR.f15.k, hR.f16.k, hR.f17.k, hR.f18.k, hR.f19.k, hR.f20.k, hR.f21.k, hR.f22.k, hR.f23.k, hR.f24.k, hR.f25.k, (fun _ => rfl), (fun _ => rfl), hR.f28.k, hR.f29.k, hR.f30.k, hR.f31.k, hR.f32.k⟩⟩
                    refine EachOf.cons [] rfl (by kernel_rfl) ?_ ?_
                    · rintro L A W ⟨v, rfl, hR⟩ hi hw K hK
                      have q0 := (hR.st.cell (p := ⟨b2, 0, none⟩) LP0.out.2).trans LP0.out.1
                      have q1 := (hR.st.cell (p := ⟨b2, 1, none⟩) LP1.out.2).trans LP1.out.1
                      have q2 := (hR.st.cell (p := ⟨b2, 2, none⟩) LP2.out.2).trans LP2.out.1
                      go_simp
                      refine hK.out _ _ ?_
                      exact ⟨(fun jz => if jz = 70 then .agg #[.int .i64 p.x, .int .i64 p.y, .int .i64 p.z] else v jz), rfl, ⟨hR.st, hR.w2.o, hR.w3.o, hR.w6.o, hR.w7.o, hR.w9.o, hR.w12.o, hR.w13.o, hR.w16.o, hR.w17.o, hR.w19.o, hR.w22.o, hR.w23.o, hR.w26.o, hR.w27.o, hR.w29.o, hR.w30.o, hR.w31.o, hR.w32.o, hR.f0.k, hR.f1.k, hR.f2.k, hR.f3.k, hR.f4.k, hR.f5.k, hR.f6.k, hR.f7.k, hR.f8.k, hR.f9.k, hR.f10.k, hR.f11.k, hR.f12.k, hR.f13.k, hR.f14.k, hR.f15.k, hR.f16.k, hR.f17.k, hR.f18.k, hR.f19.k, hR.f20.k, hR.f21.k, hR.f22.k, hR.f23.k, hR.f24.k, hR.f25.k, hR.f26.k, hR.f27.k, (fun _ => rfl), hR.f29.k, hR.f30.k, hR.f31.k, hR.f32.k⟩⟩
                    refine EachOf.cons [23, 27, 28] rfl (by kernel_rfl) ?_ ?_
                    · rintro L A W ⟨v, rfl, hR⟩ hi hw K hK
                      have e23 := hR.f23 (hw 23 (by simp))
                      have e27 := hR.f27 (hw 27 (by simp))
                      have e28 := hR.f28 (hw 28 (by simp))
                      simp only [e23, e27, e28]
                      clear e23 e27 e28
                      go_simp
                      go_at_call 55
                      (with_reducible refine ((CD _).out).mono ?_)
                      rintro e w2 ⟨rfl, hb⟩
                      go_simp
                      refine hK.out _ _ ?_
                      exact ⟨(fun jz => if jz = 65 then .agg #[.int .i64 d.x, .int .i64 d.y, .int .i64 d.z] else if jz = 69 then .agg #[.int .i64 a.x, .int .i64 a.y, .int .i64 a.z] else if jz = 70 then .agg #[.int .i64 p.x, .int .i64 p.y, .int .i64 p.z] else if jz = 71 then .int .i64 z else v jz), rfl, ⟨below_on hR.st hb, hR.w2.o, hR.w3.o, hR.w6.o, hR.w7.o, hR.w9.o, hR.w12.o, hR.w13.o, hR.w16.o, hR.w17.o, hR.w19.o, hR.w22.o, hR.w23.o, hR.w26.o, hR.w27.o, (fun _ j hj => upd_on (hw j hj)), hR.w30.o, hR.w31.o, hR.w32.o, hR.f0.k, hR.f1.k, hR.f2.k, hR.f3.k, hR.f4.k, hR.f5.k, hR.f6.k, hR.f7.k, hR.f8.k, hR.f9.k, hR.f10.k, hR.f11.k, hR.f12.k, hR.f13.k, hR.f14.k, hR.f15.k, hR.f16.k, hR.f17.k, hR.f18.k, hR.f19.k, hR.f20.k, hR.f21.k, hR.f22.k, (fun _ => rfl), hR.f24.k, hR.f25.k, hR.f26.k, (fun _ => rfl), (fun _ => rfl), (fun _ => rfl), hR.f30.k, hR.f31.k, hR.f32.k⟩⟩
                    refine EachOf.cons [9] rfl (by kernel_rfl) ?_ ?_
                    · rintro L A W ⟨v, rfl, hR⟩ hi hw K hK
                      have e9 := hR.f9 (hw 9 (by simp))
                      simp only [e9]
                      clear e9
                      go_simp
                      refine hK.out _ _ ?_
                      exact ⟨(fun jz => if jz = 51 then .int .i64 x else if jz = 8 then .int .i64 x else v jz), rfl, ⟨hR.st, hR.w2.o, hR.w3.o, hR.w6.o, hR.w7.o, hR.w9.o, hR.w12.o, hR.w13.o, hR.w16.o, hR.w17.o, hR.w19.o, hR.w22.o, hR.w23.o, hR.w26.o, hR.w27.o, hR.w29.o, (fun _ j hj => upd_on (hw j hj)), hR.w31.o, hR.w32.o, hR.f0.k, hR.f1.k, hR.f2.k, hR.f3.k, hR.f4.k, hR.f5.k, hR.f6.k, hR.f7.k, hR.f8.k, (fun _ => rfl), hR.f10.k, hR.f11.k, hR.f12.k, hR.f13.k, hR.f14.k, hR.f15.k, hR.f16.k, hR.f17.k, hR.f18.k, hR.f19.k, hR.f20.k, hR.f21.k, hR.f22.k, hR.f23.k, hR.f24.k, hR.f25.k, hR.f26.k, hR.f27.k, hR.f28.k, hR.f29.k, (fun _ => rfl), hR.f31.k, hR.f32.k⟩⟩
                    refine EachOf.cons [19] rfl (by kernel_rfl) ?_ ?_
                    · rintro L A W ⟨v, rfl, hR⟩ hi hw K hK
                      have e19 := hR.f19 (hw 19 (by simp))
                      simp only [e19]
                      clear e19
                      go_simp
                      refine hK.out _ _ ?_
                      exact ⟨(fun jz => if jz = 61 then .int .i64 y else if jz = 9 then .int .i64 y else v jz), rfl, ⟨hR.st, hR.w2.o, hR.w3.o, hR.w6.o, hR.w7.o, hR.w9.o, hR.w12.o, hR.w13.o, hR.w16.o, hR.w17.o, hR.w19.o, hR.w22.o, hR.w23.o, hR.w26.o, hR.w27.o, hR.w29.o, hR.w30.o, (fun _ j hj => upd_on (hw j hj)), hR.w32.o, hR.f0.k, hR.f1.k, hR.f2.k, hR.f3.k, hR.f4.k, hR.f5.k, hR.f6.k, hR.f7.k, hR.f8.k, hR.f9.k, hR.f10.k, hR.f11.k, hR.f12.k, hR.f13.k, hR.f14.k, hR.f15.k, hR.f16.k, hR.f17.k, hR.f18.k, (fun _ => rfl), hR.f20.k, hR.f21.k, hR.f22.k, hR.f23.k, hR.f24.k, hR.f25.k, hR.f26.k, hR.f27.k, hR.f28.k, hR.f29.k, hR.f30.k, (fun _ => rfl), hR.f32.k⟩⟩
                    refine EachOf.cons [29] rfl (by kernel_rfl) ?_ ?_
                    · rintro L A W ⟨v, rfl, hR⟩ hi hw K hK
                      have e29 := hR.f29 (hw 29 (by simp))
                      simp only [e29]
                      clear e29
                      go_simp
                      refine hK.out _ _ ?_
                      exact ⟨(fun jz => if jz = 71 then .int .i64 z else if jz = 10 then .int .i64 z else v jz), rfl, ⟨hR.st, hR.w2.o, hR.w3.o, hR.w6.o, hR.w7.o, hR.w9.o, hR.w12.o, hR.w13.o, hR.w16.o, hR.w17.o, hR.w19.o, hR.w22.o, hR.w23.o, hR.w26.o, hR.w27.o, hR.w29.o, hR.w30.o, hR.w31.o, (fun _ j hj => upd_on (hw j hj)), hR.f0.k, hR.f1.k, hR.f2.k, hR.f3.k, hR.f4.k, hR.f5.k, hR.f6.k, hR.f7.k, hR.f8.k, hR.f9.k, hR.f10.k, hR.f11.k, hR.f12.k, hR.f13.k, hR.f14.k, hR.f15.k, hR.f16.k, hR.f17.k, hR.f18.k, hR.f19.k, hR.f20.k, hR.f21.k, hR.f22.k, hR.f23.k, hR.f24.k, hR.f25.k, hR.f26.k, hR.f27.k, hR.f28.k, (fun _ => rfl), hR.f30.k, hR.f31.k, (fun _ => rfl)⟩⟩
                    exact EachOf.nil
                  rintro L A W5 ⟨vs, rfl, hR⟩ hL
                  have e30 := hR.f30 (hL 30 (by simp))
                  have e31 := hR.f31 (hL 31 (by simp))
                  have e32 := hR.f32 (hL 32 (by simp))
                  simp only [e30, e31, e32]
                  have HS5 := Lib.hid (HS.out.on hR.st)
                  clear e30 e31 e32 hR hL LP0 LP1 LP2 LA0 LA1 LA2 LB0 LB1 LB2 LD0 LD1 LD2 HS CA CB CD
                  by_cases g : trS p a b d
                  · have h1 := HTR.out.1 g
                    have hvt : v = true := HV.out.2 ⟨i, k, hik, hkt, .inr ⟨m, by omega, hmt, by rw [HAi.out, HBk.out, HDm.out]; exact g⟩⟩
                    subst hvt
                    have d1 : (x != 0) = true := by simpa using h1.1
                    have d2 : (x == y) = true := by simpa using h1.2.1
                    have d3 : (y == z) = true := by simpa using h1.2.2
                    have HE := Lib.hid HS5.out.st
                    clear h1 g HTR HV HZ HY HX HS5 HT2
                    go_wp2_with fail
                    all_goals first
                      | (go_ret; exact ⟨rfl, HE.out⟩)
                      | (exfalso; rename_i h1 h2; have h3 : some undef = some (Value.bool _) := h1; simp [undef] at h3; done)
                      | (exfalso; rename_i h1; have h3 : some undef = some (Value.bool _) := h1; simp [undef] at h3; done)
                  · have HX2 : Hid (∀ j2, k < j2 → j2 < m + 1 → ¬ trS p a b (f j2)) := fun j2 h1 h2 => by
                      by_cases e : j2 = m
                      · rw [e, HDm.out]; exact g
                      · exact HX.out j2 h1 (by omega)
                    have HG : Hid (¬ (x ≠ 0 ∧ x = y ∧ y = z)) := fun h => g (HTR.out.2 h)
                    clear g HTR HX
                    by_cases h1 : x = 0
                    · have d1 : (x != 0) = false := by simp [h1]
                      clear h1 HG
                      have HS6 := Lib.hid HS5.out
                      clear HS5
                      go_wp2_with fail
                      all_goals first
                        | (go_roundg (n - (m + 1)); (case measure => omega); (case rel => exact ⟨m + 1, rfl, rfl, by omega, by omega, HS6, HX2⟩))
                        | (exfalso; rename_i h1 h2; have h3 : some undef = some (Value.bool _) := h1; simp [undef] at h3; done)
                        | (exfalso; rename_i h1; have h3 : some undef = some (Value.bool _) := h1; simp [undef] at h3; done)
                    · have d1 : (x != 0) = true := by simpa using h1
                      by_cases h2 : x = y
                      · have d2 : (x == y) = true := by simpa using h2
                        have d3 : (y == z) = false := by
                          have : ¬ y = z := fun h3 => HG.out ⟨h1, h2, h3⟩
                          simpa using this
                        clear h1 h2 HG
                        have HS6 := Lib.hid HS5.out
                        clear HS5
                        go_wp2_with fail
                        all_goals first
                          | (go_roundg (n - (m + 1)); (case measure => omega); (case rel => exact ⟨m + 1, rfl, rfl, by omega, by omega, HS6, HX2⟩))
                          | (exfalso; rename_i h1 h2; have h3 : some undef = some (Value.bool _) := h1; simp [undef] at h3; done)
                          | (exfalso; rename_i h1; have h3 : some undef = some (Value.bool _) := h1; simp [undef] at h3; done)
                      · have d2 : (x == y) = false := by simpa using h2
                        clear h1 h2 HG
                        have HS6 := Lib.hid HS5.out
                        clear HS5
                        go_wp2_with fail
                        all_goals first
                          | (go_roundg (n - (m + 1)); (case measure => omega); (case rel => exact ⟨m + 1, rfl, rfl, by omega, by omega, HS6, HX2⟩))
                          | (exfalso; rename_i h1 h2; have h3 : some undef = some (Value.bool _) := h1; simp [undef] at h3; done)
                          | (exfalso; rename_i h1; have h3 : some undef = some (Value.bool _) := h1; simp [undef] at h3; done)
                · have lm : ¬ (m : Int) < (n : Int) := by omega
                  have HY2 : Hid (∀ k2, i ≤ k2 → k2 < k + 1 → ¬ AtQ p n f i k2) := fun k2 h1 h2 => by
                    by_cases e : k2 = k
                    · subst e
                      rintro (h | ⟨j2, h3, h4, h5⟩)
                      · rw [HAi.out, HBk.out] at h; exact HT2.out h
                      · rw [HAi.out, HBk.out] at h5; exact HX.out j2 h3 (by omega) h5
                    · exact HY.out k2 h1 (by omega)
                  have HS6 := Lib.hid HS.out
                  clear HX HY HS HT2
                  go_wp2_with fail
                  go_roundg (n - (k + 1))
                  case measure => omega
                  case rel => exact ⟨k + 1, rfl, rfl, by omega, by omega, HS6, HY2⟩
          · have lk : ¬ (k : Int) < (n : Int) := by omega
            have HZ2 : Hid (∀ i2 k, i2 < i + 1 → i2 ≤ k → k < n → ¬ AtQ p n f i2 k) := fun i2 k2 h1 h2 h3 => by
              by_cases e : i2 = i
              · rw [e]; exact HY.out k2 (by omega) (by omega)
              · exact HZ.out i2 k2 (by omega) h2 h3
            have HS6 := Lib.hid HS.out
            clear HZ HY HS
            go_wp2_with fail
            go_roundg (n - (i + 1))
            case measure => omega
            case rel => exact ⟨i + 1, rfl, rfl, by omega, HS6, HZ2⟩
      · have li : ¬ (i : Int) < (n : Int) := by omega
        have hvf : v = false := by
          cases h : v
          · rfl
          · obtain ⟨i2, k2, h1, h2, h3⟩ := HV.out.1 h
            exact absurd h3 (HZ.out i2 k2 (by omega) h1 h2)
        subst hvf
        have HE := Lib.hid HS.out.st
        clear HV HZ HS
        go_wp2_with fail
        go_ret
        exact ⟨rfl, HE.out⟩
  · have e0 : n = 0 := by omega
    subst e0
    have hvf : v = false := by
      cases h : v
      · rfl
      · obtain ⟨i2, k2, h1, h2, h3⟩ := HV.out.1 h
        omega
    subst hvf
    clear hl hv hall hp hw1 hb2 hb1 hP HV HA h0
    go_enter Tryd.func15, Tryd.ntmps15
    go_upto_region 1 with fail
    rw [← HN.out.1, ← HN.out.2]
    clear HN
    go_wp2_with fail
    go_loopg [5] 1 (fun mm s5 wx => s5 = .int .i64 0 ∧ mm = 1 ∧ wx = w1)
    case atStart => exact ⟨rfl, rfl, rfl⟩
    case round =>
      obtain ⟨rfl, rfl, rfl⟩ := hrel
      go_wp2_with fail
      go_ret
      exact ⟨rfl, HB.out⟩
end Go.Proofs.YtcghjjfpjiacfaaDoor
