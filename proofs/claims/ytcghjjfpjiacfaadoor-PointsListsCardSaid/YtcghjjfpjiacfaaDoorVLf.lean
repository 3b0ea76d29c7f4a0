/- Layer 9: the reference's Flat (Zero's contract is a hypothesis). -/
import Derived.Test.YtcghjjfpjiacfaaDoorVLr
namespace Go.Proofs.YtcghjjfpjiacfaaDoor
open Go.ChangeShapes Go.WideShapes Go.ChangeAt Go.RowKit Go.Joins Go.Deep Go.Shelf
set_option linter.unusedVariables false

structure Vf7R (sg o n rc i k : Nat) (a b p u pv c : Pt) (Wc : World) (L : Nat → Bool) (v : Nat → Value) (g : Nat → Nat) (W : World) : Prop where
  st : Below Wc.heap.size Wc W
  b17 : Had L 17 (Wc.heap.size ≤ g 17 ∧ g 17 < W.heap.size)
  z17 : Had L 17 (L 18 = false → CB W (g 17) [.int .i64 0, .int .i64 0, .int .i64 0])
  y18 : Had L 18 (CB W (g 17) [.int .i64 c.x, .int .i64 c.y, .int .i64 c.z])
  w2 : Had L 2 (∀ j ∈ [0, 1], L j = true)
  w3 : Had L 3 (∀ j ∈ [2], L j = true)
  w5 : Had L 5 (∀ j ∈ [4], L j = true)
  w6 : Had L 6 (∀ j ∈ [5], L j = true)
  w7 : Had L 7 (∀ j ∈ [3, 6], L j = true)
  w10 : Had L 10 (∀ j ∈ [8, 9], L j = true)
  w11 : Had L 11 (∀ j ∈ [10], L j = true)
  w13 : Had L 13 (∀ j ∈ [12], L j = true)
  w14 : Had L 14 (∀ j ∈ [13], L j = true)
  w15 : Had L 15 (∀ j ∈ [11, 14], L j = true)
  w16 : Had L 16 (∀ j ∈ [7, 15], L j = true)
  w18 : Had L 18 (∀ j ∈ [0, 1, 2, 3, 4, 5, 6, 7, 8, 9, 10, 11, 12, 13, 14, 15, 16, 17], L j = true)
  f0 : Had L 0 (v 21 = .slice (some ⟨sg, o, none⟩) (n) (rc))
  f1 : Had L 1 (v 22 = .int .i64 (i : Int))
  f2 : Had L 2 (v 23 = .pointer (some ⟨sg, o + i * 3, none⟩))
  f3 : Had L 3 (v 24 = .agg #[.int .i64 a.x, .int .i64 a.y, .int .i64 a.z])
  f4 : Had L 4 (v 25 = .slice (some ⟨sg, o, none⟩) (n) (rc))
  f5 : Had L 5 (v 26 = .pointer (some ⟨sg, o, none⟩))
  f6 : Had L 6 (v 27 = .agg #[.int .i64 p.x, .int .i64 p.y, .int .i64 p.z])
  f7 : Had L 7 (v 28 = .agg #[.int .i64 u.x, .int .i64 u.y, .int .i64 u.z])
  f8 : Had L 8 (v 29 = .slice (some ⟨sg, o, none⟩) (n) (rc))
  f9 : Had L 9 (v 30 = .int .i64 (k : Int))
  f10 : Had L 10 (v 31 = .pointer (some ⟨sg, o + k * 3, none⟩))
  f11 : Had L 11 (v 32 = .agg #[.int .i64 b.x, .int .i64 b.y, .int .i64 b.z])
  f12 : Had L 12 (v 33 = .slice (some ⟨sg, o, none⟩) (n) (rc))
  f13 : Had L 13 (v 34 = .pointer (some ⟨sg, o, none⟩))
  f14 : Had L 14 (v 35 = .agg #[.int .i64 p.x, .int .i64 p.y, .int .i64 p.z])
  f15 : Had L 15 (v 36 = .agg #[.int .i64 pv.x, .int .i64 pv.y, .int .i64 pv.z])
  f16 : Had L 16 (v 37 = .agg #[.int .i64 c.x, .int .i64 c.y, .int .i64 c.z])
  f17 : Had L 17 (v 5 = .pointer (some ⟨g 17, 0, none⟩))
structure Vf11R (sg o n rc b5 m : Nat) (p d q c : Pt) (t : Bool) (Wc : World) (L : Nat → Bool) (v : Nat → Value) (W : World) : Prop where
  st : Below Wc.heap.size Wc W
  w3 : Had L 3 (∀ j ∈ [1, 2], L j = true)
  w4 : Had L 4 (∀ j ∈ [3], L j = true)
  w6 : Had L 6 (∀ j ∈ [5], L j = true)
  w7 : Had L 7 (∀ j ∈ [6], L j = true)
  w8 : Had L 8 (∀ j ∈ [4, 7], L j = true)
  w9 : Had L 9 (∀ j ∈ [0, 8], L j = true)
  w10 : Had L 10 (∀ j ∈ [9], L j = true)
  f0 : Had L 0 (v 46 = .agg #[.int .i64 c.x, .int .i64 c.y, .int .i64 c.z])
  f1 : Had L 1 (v 47 = .slice (some ⟨sg, o, none⟩) (n) (rc))
  f2 : Had L 2 (v 48 = .int .i64 (m : Int))
  f3 : Had L 3 (v 49 = .pointer (some ⟨sg, o + m * 3, none⟩))
  f4 : Had L 4 (v 50 = .agg #[.int .i64 d.x, .int .i64 d.y, .int .i64 d.z])
  f5 : Had L 5 (v 51 = .slice (some ⟨sg, o, none⟩) (n) (rc))
  f6 : Had L 6 (v 52 = .pointer (some ⟨sg, o, none⟩))
  f7 : Had L 7 (v 53 = .agg #[.int .i64 p.x, .int .i64 p.y, .int .i64 p.z])
  f8 : Had L 8 (v 54 = .agg #[.int .i64 q.x, .int .i64 q.y, .int .i64 q.z])
  f9 : Had L 9 (v 55 = .bool t)
  f10 : Had L 10 (v 56 = .bool (!t))
def NoD (n : Nat) (f : Nat → Pt) (i k j : Nat) : Prop := det3 ((f i).sub (f 0)) ((f k).sub (f 0)) ((f j).sub (f 0)) = 0
set_option maxRecDepth 100000 in
set_option maxHeartbeats 64000000 in
theorem rFlat_any (hzero : ∀ (x d : Pt) (W : World), lim3 x 8796093022208 → lim3 d 2097152 → Calls Tryd.prog 52 #[.agg #[.int .i64 x.x, .int .i64 x.y, .int .i64 x.z], .agg #[.int .i64 d.x, .int .i64 d.y, .int .i64 d.z]] W fun e w' => e = .returned (.bool (decide (x.dot d = 0))) ∧ Below W.heap.size W w')
    (ra : Option Addr) (n rc : Nat) (f : Nat → Pt) (w : World) (hl : PtR w ra n f) (hall : allV n f) (hrc : n ≤ rc) (hrc2 : rc ≤ 9223372036854775807) (v : Bool) (hv : v = true ↔ FlatQ n f) :
    Calls Tryd.prog 13 #[.slice ra n rc] w fun e w' => e = .returned (.bool v) ∧ Below w.heap.size w w' := by
  rw [← flat_of_ord] at hv
  have HV : Hid (v = true ↔ ∀ i k j, i < k → k < j → j < n → NoD n f i k j) := hv
  have HA := Lib.hid hall
  have HZE := Lib.hid hzero
  clear hzero hv hall
  by_cases h0 : 0 < n
  · obtain ⟨sg, o, rfl, hg, hc⟩ := hl h0
    have HS : Hid (LsS w w sg o n f) := ⟨Below.refl _ _, hg, hc⟩
    have l0 : (0 : Int) < (n : Int) := by omega
    obtain ⟨p, hp⟩ : ∃ p, f 0 = p := ⟨_, rfl⟩
    have HPo : Hid (f 0 = p ∧ p.ok) := ⟨hp, by rw [← hp]; exact HA.out 0 h0⟩
    clear hl hg hc hp
    go_enter Tryd.func13, Tryd.ntmps13
    go_wp2_with fail
    go_loopg [3] n (fun mm s3 wx => ∃ i : Nat, s3 = .int .i64 (i : Int) ∧ mm = n - i ∧ i ≤ n ∧ Hid (LsS w wx sg o n f) ∧ Hid (∀ i2 k j, i2 < i → i2 < k → k < j → j < n → NoD n f i2 k j))
    case atStart => exact ⟨0, rfl, rfl, by omega, HS, fun i2 k j h => by omega⟩
    case round =>
      clear HS
      obtain ⟨i, rfl, rfl, hin, HS, HZ⟩ := hrel
      rename World => W1
      by_cases hlt : i < n
      · have wi : IntKind.i64.wrap ((i : Int) + 1) = ((i + 1 : Nat) : Int) := by rw [IntWalk.i64_in _ (by omega)]; omega
        have li : (i : Int) < (n : Int) := by omega
        obtain ⟨a, ha⟩ : ∃ a, f i = a := ⟨_, rfl⟩
        have HAi : Hid (f i = a ∧ a.ok) := ⟨ha, by rw [← ha]; exact HA.out i hlt⟩
        clear ha
        go_upto_region 4 with fail
        go_wp2_with fail
        go_loopg [4] (n - (i + 1)) (fun mm s4 wx => ∃ k : Nat, s4 = .int .i64 (k : Int) ∧ mm = n - k ∧ i + 1 ≤ k ∧ k ≤ n ∧ Hid (LsS w wx sg o n f) ∧ Hid (∀ k2 j, i < k2 → k2 < k → k2 < j → j < n → NoD n f i k2 j))
        case atStart => exact ⟨i + 1, rfl, by omega, by omega, by omega, HS, fun k2 j h1 h2 => by omega⟩
        case round =>
          clear HS
          obtain ⟨k, rfl, rfl, hik, hkn, HS, HY⟩ := hrel
          rename World => W2
          by_cases hkt : k < n
          · have wk : IntKind.i64.wrap ((k : Int) + 1) = ((k + 1 : Nat) : Int) := by rw [IntWalk.i64_in _ (by omega)]; omega
            have lk : (k : Int) < (n : Int) := by omega
            obtain ⟨b, hb⟩ : ∃ b, f k = b := ⟨_, rfl⟩
            have HBk : Hid (f k = b ∧ b.ok) := ⟨hb, by rw [← hb]; exact HA.out k hkt⟩
            have cp := HS.out.c 0 h0
            have ca := HS.out.c i hlt
            have cb := HS.out.c k hkt
            rw [HPo.out.1, show o + 0 * 3 = o by omega] at cp
            rw [HAi.out.1] at ca
            rw [hb] at cb
            have LO0 := Lib.hid (And.intro cp.1 HS.out.hg)
            have LO1 := Lib.hid (And.intro cp.2.1 HS.out.hg)
            have LO2 := Lib.hid (And.intro cp.2.2 HS.out.hg)
            have LA0 := Lib.hid (And.intro ca.1 HS.out.hg)
            have LA1 := Lib.hid (And.intro ca.2.1 HS.out.hg)
            have LA2 := Lib.hid (And.intro ca.2.2 HS.out.hg)
            have LB0 := Lib.hid (And.intro cb.1 HS.out.hg)
            have LB1 := Lib.hid (And.intro cb.2.1 HS.out.hg)
            have LB2 := Lib.hid (And.intro cb.2.2 HS.out.hg)
            have CU := fun W => Lib.hid (rMin_any a p W HAi.out.2 HPo.out.2)
            have CV := fun W => Lib.hid (rMin_any b p W HBk.out.2 HPo.out.2)
            have CC := fun W => Lib.hid (rCross_any (a.sub p) (b.sub p) W (sub_lim HAi.out.2 HPo.out.2) (sub_lim HBk.out.2 HPo.out.2))
            obtain ⟨u, hu⟩ : ∃ u, a.sub p = u := ⟨_, rfl⟩
            obtain ⟨pv, hpv⟩ : ∃ u, b.sub p = u := ⟨_, rfl⟩
            rw [hu] at CU CC
            rw [hpv] at CV CC
            obtain ⟨c, hcc⟩ : ∃ c, u.crs pv = c := ⟨_, rfl⟩
            rw [hcc] at CC
            have HC : Hid (((f i).sub (f 0)).crs ((f k).sub (f 0)) = c ∧ lim3 c 8796093022208) := by
              refine ⟨by rw [HAi.out.1, HBk.out.1, HPo.out.1, hu, hpv, hcc], ?_⟩
              rw [← hcc, ← hu, ← hpv]
              exact crs_lim (sub_lim HAi.out.2 HPo.out.2) (sub_lim HBk.out.2 HPo.out.2)
            clear hb cp ca cb hu hpv hcc
            go_upto_region 7 with fail
            refine wp_region_each (fun L A W => ∃ (v : Nat → Value) (g : Nat → Nat), A = ⟨#[_, _, _, _, _, v 5, _, _, _, _, _, _, _, _, _, _, _, _, _, _, _, v 21, v 22, v 23, v 24, v 25, v 26, v 27, v 28, v 29, v 30, v 31, v 32, v 33, v 34, v 35, v 36, v 37, _, _, _, _, _, _, _, _, _, _, _, _, _, _, _, _, _, _, _], []⟩ ∧ Vf7R sg o n rc i k a b p u pv c W2 L v g W) (by kernel_rfl) (by kernel_rfl) ⟨fun jz => if jz = 21 then u21 else if jz = 22 then u22 else if jz = 23 then u23 else if jz = 24 then u24 else if jz = 25 then u25 else if jz = 26 then u26 else if jz = 27 then u27 else if jz = 28 then u28 else if jz = 29 then u29 else if jz = 30 then u30 else if jz = 31 then u31 else if jz = 32 then u32 else if jz = 33 then u33 else if jz = 34 then u34 else if jz = 35 then u35 else if jz = 36 then u36 else if jz = 37 then u37 else if jz = 5 then u5 else undef, fun _ => 0, rfl, ⟨(Below.drew (Below.refl _ _)), Had.none, Had.none, Had.none, Had.none, Had.none, Had.none, Had.none, Had.none, Had.none, Had.none, Had.none, Had.none, Had.none, Had.none, Had.none, Had.none, Had.none, Had.none, Had.none, Had.none, Had.none, Had.none, Had.none, Had.none, Had.none, Had.none, Had.none, Had.none, Had.none, Had.none, Had.none, Had.none, Had.none⟩⟩ (rs := [0, 1, 2, 3, 4, 5, 6, 7, 8, 9, 10, 11, 12, 13, 14, 15, 16, 17, 18]) (by kernel_rfl) ?_ ?_
            · refine EachOf.cons [] rfl (by kernel_rfl) ?_ ?_
              · rintro L A W ⟨v, g, rfl, hR⟩ hi hw KK hK
                go_simp
                refine hK.out _ _ ?_
                exact ⟨(fun jz => if jz = 21 then .slice (some ⟨sg, o, none⟩) (n) (rc) else v jz), g, rfl, ⟨hR.st, hR.b17.k, (fun h h2 => hR.z17 (upd_back h rfl) (upd_false h2)), (fun h => hR.y18 (upd_back h rfl)), hR.w2.o, hR.w3.o, hR.w5.o, hR.w6.o, hR.w7.o, hR.w10.o, hR.w11.o, hR.w13.o, hR.w14.o, hR.w15.o, hR.w16.o, hR.w18.o, (fun _ => rfl), hR.f1.k, hR.f2.k, hR.f3.k, hR.f4.k, hR.f5.k, hR.f6.k, hR.f7.k, hR.f8.k, hR.f9.k, hR.f10.k, hR.f11.k, hR.f12.k, hR.f13.k, hR.f14.k, hR.f15.k, hR.f16.k, hR.f17.k⟩⟩
              refine EachOf.cons [] rfl (by kernel_rfl) ?_ ?_
              · rintro L A W ⟨v, g, rfl, hR⟩ hi hw KK hK
                go_simp
                refine hK.out _ _ ?_
                exact ⟨(fun jz => if jz = 22 then .int .i64 (i : Int) else v jz), g, rfl, ⟨hR.st, hR.b17.k, (fun h h2 => hR.z17 (upd_back h rfl) (upd_false h2)), (fun h => hR.y18 (upd_back h rfl)), hR.w2.o, hR.w3.o, hR.w5.o, hR.w6.o, hR.w7.o, hR.w10.o, hR.w11.o, hR.w13.o, hR.w14.o, hR.w15.o, hR.w16.o, hR.w18.o, hR.f0.k, (fun _ => rfl), hR.f2.k, hR.f3.k, hR.f4.k, hR.f5.k, hR.f6.k, hR.f7.k, hR.f8.k, hR.f9.k, hR.f10.k, hR.f11.k, hR.f12.k, hR.f13.k, hR.f14.k, hR.f15.k, hR.f16.k, hR.f17.k⟩⟩
              refine EachOf.cons [0, 1] rfl (by kernel_rfl) ?_ ?_
              · rintro L A W ⟨v, g, rfl, hR⟩ hi hw KK hK
                have e0 := hR.f0 (hw 0 (by simp))
                have e1 := hR.f1 (hw 1 (by simp))
                simp only [e0, e1]
                clear e0 e1
                go_simp
                refine hK.out _ _ ?_
                exact ⟨(fun jz => if jz = 21 then .slice (some ⟨sg, o, none⟩) (n) (rc) else if jz = 22 then .int .i64 (i : Int) else if jz = 23 then .pointer (some ⟨sg, o + i * 3, none⟩) else v jz), g, rfl, ⟨hR.st, hR.b17.k, (fun h h2 => hR.z17 (upd_back h rfl) (upd_false h2)), (fun h => hR.y18 (upd_back h rfl)), (fun _ j hj => upd_on (hw j hj)), hR.w3.o, hR.w5.o, hR.w6.o, hR.w7.o, hR.w10.o, hR.w11.o, hR.w13.o, hR.w14.o, hR.w15.o, hR.w16.o, hR.w18.o, (fun _ => rfl), (fun _ => rfl), (fun _ => rfl), hR.f3.k, hR.f4.k, hR.f5.k, hR.f6.k, hR.f7.k, hR.f8.k, hR.f9.k, hR.f10.k, hR.f11.k, hR.f12.k, hR.f13.k, hR.f14.k, hR.f15.k, hR.f16.k, hR.f17.k⟩⟩
              refine EachOf.cons [2] rfl (by kernel_rfl) ?_ ?_
              · rintro L A W ⟨v, g, rfl, hR⟩ hi hw KK hK
                have e2 := hR.f2 (hw 2 (by simp))
                simp only [e2]
                clear e2
                have q0 := (hR.st.cell (p := ⟨sg, o + i * 3, none⟩) LA0.out.2).trans LA0.out.1
                have q1 := (hR.st.cell (p := ⟨sg, o + i * 3 + 1, none⟩) LA1.out.2).trans LA1.out.1
                have q2 := (hR.st.cell (p := ⟨sg, o + i * 3 + 2, none⟩) LA2.out.2).trans LA2.out.1
                go_simp
                refine hK.out _ _ ?_
                exact ⟨(fun jz => if jz = 23 then .pointer (some ⟨sg, o + i * 3, none⟩) else if jz = 24 then .agg #[.int .i64 a.x, .int .i64 a.y, .int .i64 a.z] else v jz), g, rfl, ⟨hR.st, hR.b17.k, (fun h h2 => hR.z17 (upd_back h rfl) (upd_false h2)), (fun h => hR.y18 (upd_back h rfl)), hR.w2.o, (fun _ j hj => upd_on (hw j hj)), hR.w5.o, hR.w6.o, hR.w7.o, hR.w10.o, hR.w11.o, hR.w13.o, hR.w14.o, hR.w15.o, hR.w16.o, hR.w18.o, hR.f0.k, hR.f1.k, (fun _ => rfl), (fun _ => rfl), hR.f4.k, hR.f5.k, hR.f6.k, hR.f7.k, hR.f8.k, hR.f9.k, hR.f10.k, hR.f11.k, hR.f12.k, hR.f13.k, hR.f14.k, hR.f15.k, hR.f16.k, hR.f17.k⟩⟩
              refine EachOf.cons [] rfl (by kernel_rfl) ?_ ?_
              · rintro L A W ⟨v, g, rfl, hR⟩ hi hw KK hK
                go_simp
                refine hK.out _ _ ?_
                exact ⟨(fun jz => if jz = 25 then .slice (some ⟨sg, o, none⟩) (n) (rc) else v jz), g, rfl, ⟨hR.st, hR.b17.k, (fun h h2 => hR.z17 (upd_back h rfl) (upd_false h2)), (fun h => hR.y18 (upd_back h rfl)), hR.w2.o, hR.w3.o, hR.w5.o, hR.w6.o, hR.w7.o, hR.w10.o, hR.w11.o, hR.w13.o, hR.w14.o, hR.w15.o, hR.w16.o, hR.w18.o, hR.f0.k, hR.f1.k, hR.f2.k, hR.f3.k, (fun _ => rfl), hR.f5.k, hR.f6.k, hR.f7.k, hR.f8.k, hR.f9.k, hR.f10.k, hR.f11.k, hR.f12.k, hR.f13.k, hR.f14.k, hR.f15.k, hR.f16.k, hR.f17.k⟩⟩
              refine EachOf.cons [4] rfl (by kernel_rfl) ?_ ?_
              · rintro L A W ⟨v, g, rfl, hR⟩ hi hw KK hK
                have e4 := hR.f4 (hw 4 (by simp))
                simp only [e4]
                clear e4
                go_simp
                refine hK.out _ _ ?_
                exact ⟨(fun jz => if jz = 25 then .slice (some ⟨sg, o, none⟩) (n) (rc) else if jz = 26 then .pointer (some ⟨sg, o, none⟩) else v jz), g, rfl, ⟨hR.st, hR.b17.k, (fun h h2 => hR.z17 (upd_back h rfl) (upd_false h2)), (fun h => hR.y18 (upd_back h rfl)), hR.w2.o, hR.w3.o, (fun _ j hj => upd_on (hw j hj)), hR.w6.o, hR.w7.o, hR.w10.o, hR.w11.o, hR.w13.o, hR.w14.o, hR.w15.o, hR.w16.o, hR.w18.o, hR.f0.k, hR.f1.k, hR.f2.k, hR.f3.k, (fun _ => rfl), (fun _ => rfl), hR.f6.k, hR.f7.k, hR.f8.k, hR.f9.k, hR.f10.k, hR.f11.k, hR.f12.k, hR.f13.k, hR.f14.k, hR.f15.k, hR.f16.k, hR.f17.k⟩⟩
              refine EachOf.cons [5] rfl (by kernel_rfl) ?_ ?_
              · rintro L A W ⟨v, g, rfl, hR⟩ hi hw KK hK
                have e5 := hR.f5 (hw 5 (by simp))
                simp only [e5]
                clear e5
                have q0 := (hR.st.cell (p := ⟨sg, o, none⟩) LO0.out.2).trans LO0.out.1
                have q1 := (hR.st.cell (p := ⟨sg, o + 1, none⟩) LO1.out.2).trans LO1.out.1
                have q2 := (hR.st.cell (p := ⟨sg, o + 2, none⟩) LO2.out.2).trans LO2.out.1
                go_simp
                refine hK.out _ _ ?_
                exact ⟨(fun jz => if jz = 26 then .pointer (some ⟨sg, o, none⟩) else if jz = 27 then .agg #[.int .i64 p.x, .int .i64 p.y, .int .i64 p.z] else v jz), g, rfl, ⟨hR.st, hR.b17.k, (fun h h2 => hR.z17 (upd_back h rfl) (upd_false h2)), (fun h => hR.y18 (upd_back h rfl)), hR.w2.o, hR.w3.o, hR.w5.o, (fun _ j hj => upd_on (hw j hj)), hR.w7.o, hR.w10.o, hR.w11.o, hR.w13.o, hR.w14.o, hR.w15.o, hR.w16.o, hR.w18.o, hR.f0.k, hR.f1.k, hR.f2.k, hR.f3.k, hR.f4.k, (fun _ => rfl), (fun _ => rfl), hR.f7.k, hR.f8.k, hR.f9.k, hR.f10.k, hR.f11.k, hR.f12.k, hR.f13.k, hR.f14.k, hR.f15.k, hR.f16.k, hR.f17.k⟩⟩
              refine EachOf.cons [3, 6] rfl (by kernel_rfl) ?_ ?_
              · rintro L A W ⟨v, g, rfl, hR⟩ hi hw KK hK
                have e3 := hR.f3 (hw 3 (by simp))
                have e6 := hR.f6 (hw 6 (by simp))
                simp only [e3, e6]
                clear e3 e6
                go_simp
                go_at_call 51
                (with_reducible refine ((CU _).out).mono ?_)
                rintro e w2 ⟨rfl, hb⟩
                go_simp
                refine hK.out _ _ ?_
                exact ⟨(fun jz => if jz = 24 then .agg #[.int .i64 a.x, .int .i64 a.y, .int .i64 a.z] else if jz = 27 then .agg #[.int .i64 p.x, .int .i64 p.y, .int .i64 p.z] else if jz = 28 then .agg #[.int .i64 u.x, .int .i64 u.y, .int .i64 u.z] else v jz), g, rfl, ⟨below_on hR.st hb, (fun h => ⟨(hR.b17 (upd_back h rfl)).1, Nat.lt_of_lt_of_le (hR.b17 (upd_back h rfl)).2 hb.size⟩), (fun h h2 => (hR.z17 (upd_back h rfl) (upd_false h2)).on hb), (fun h => (hR.y18 (upd_back h rfl)).on hb), hR.w2.o, hR.w3.o, hR.w5.o, hR.w6.o, (fun _ j hj => upd_on (hw j hj)), hR.w10.o, hR.w11.o, hR.w13.o, hR.w14.o, hR.w15.o, hR.w16.o, hR.w18.o, hR.f0.k, hR.f1.k, hR.f2.k, (fun _ => rfl), hR.f4.k, hR.f5.k, (fun _ => rfl), (fun _ => rfl), hR.f8.k, hR.f9.k, hR.f10.k, hR.f11.k, hR.f12.k, hR.f13.k, hR.f14.k, hR.f15.k, hR.f16.k, hR.f17.k⟩⟩
              refine EachOf.cons [] rfl (by kernel_rfl) ?_ ?_
              · rintro L A W ⟨v, g, rfl, hR⟩ hi hw KK hK
                go_simp
                refine hK.out _ _ ?_
                exact ⟨(fun jz => if jz = 29 then .slice (some ⟨sg, o, none⟩) (n) (rc) else v jz), g, rfl, ⟨hR.st, hR.b17.k, (fun h h2 => hR.z17 (upd_back h rfl) (upd_false h2)), (fun h => hR.y18 (upd_back h rfl)), hR.w2.o, hR.w3.o, hR.w5.o, hR.w6.o, hR.w7.o, hR.w10.o, hR.w11.o, hR.w13.o, hR.w14.o, hR.w15.o, hR.w16.o, hR.w18.o, hR.f0.k, hR.f1.k, hR.f2.k, hR.f3.k, hR.f4.k, hR.f5.k, hR.f6.k, hR.f7.k, (fun _ => rfl), hR.f9.k, hR.f10.k, hR.f11.k, hR.f12.k, hR.f13.k, hR.f14.k, hR.f15.k, hR.f16.k, hR.f17.k⟩⟩
              refine EachOf.cons [] rfl (by kernel_rfl) ?_ ?_
              · rintro L A W ⟨v, g, rfl, hR⟩ hi hw KK hK
                go_simp
                refine hK.out _ _ ?_
                exact ⟨(fun jz => if jz = 30 then .int .i64 (k : Int) else v jz), g, rfl, ⟨hR.st, hR.b17.k, (fun h h2 => hR.z17 (upd_back h rfl) (upd_false h2)), (fun h => hR.y18 (upd_back h rfl)), hR.w2.o, hR.w3.o, hR.w5.o, hR.w6.o, hR.w7.o, hR.w10.o, hR.w11.o, hR.w13.o, hR.w14.o, hR.w15.o, hR.w16.o, hR.w18.o, hR.f0.k, hR.f1.k, hR.f2.k, hR.f3.k, hR.f4.k, hR.f5.k, hR.f6.k, hR.f7.k, hR.f8.k, (fun _ => rfl), hR.f10.k, hR.f11.k, hR.f12.k, hR.f13.k, hR.f14.k, hR.f15.k, hR.f16.k, hR.f17.k⟩⟩
              refine EachOf.cons [8, 9] rfl (by kernel_rfl) ?_ ?_
              · rintro L A W ⟨v, g, rfl, hR⟩ hi hw KK hK
                have e8 := hR.f8 (hw 8 (by simp))
                have e9 := hR.f9 (hw 9 (by simp))
                simp only [e8, e9]
                clear e8 e9
                go_simp
                refine hK.out _ _ ?_
                exact ⟨(fun jz => if jz = 29 then .slice (some ⟨sg, o, none⟩) (n) (rc) else if jz = 30 then .int .i64 (k : Int) else if jz = 31 then .pointer (some ⟨sg, o + k * 3, none⟩) else v jz), g, rfl, ⟨hR.st, hR.b17.k, (fun h h2 => hR.z17 (upd_back h rfl) (upd_false h2)), (fun h => hR.y18 (upd_back h rfl)), hR.w2.o, hR.w3.o, hR.w5.o, hR.w6.o, hR.w7.o, (fun _ j hj => upd_on (hw j hj)), hR.w11.o, hR.w13.o, hR.w14.o, hR.w15.o, hR.w16.o, hR.w18.o, hR.f0.k, hR.f1.k, hR.f2.k, hR.f3.k, hR.f4.k, hR.f5.k, hR.f6.k, hR.f7.k, (fun _ => rfl), (fun _ => rfl), (fun _ => rfl), hR.f11.k, hR.f12.k, hR.f13.k, hR.f14.k, hR.f15.k, hR.f16.k, hR.f17.k⟩⟩
              refine EachOf.cons [10] rfl (by kernel_rfl) ?_ ?_
              · rintro L A W ⟨v, g, rfl, hR⟩ hi hw KK hK
                have e10 := hR.f10 (hw 10 (by simp))
                simp only [e10]
                clear e10
                have q0 := (hR.st.cell (p := ⟨sg, o + k * 3, none⟩) LB0.out.2).trans LB0.out.1
                have q1 := (hR.st.cell (p := ⟨sg, o + k * 3 + 1, none⟩) LB1.out.2).trans LB1.out.1
                have q2 := (hR.st.cell (p := ⟨sg, o + k * 3 + 2, none⟩) LB2.out.2).trans LB2.out.1
                go_simp
                refine hK.out _ _ ?_
                exact ⟨(fun jz => if jz = 31 then .pointer (some ⟨sg, o + k * 3, none⟩) else if jz = 32 then .agg #[.int .i64 b.x, .int .i64 b.y, .int .i64 b.z] else v jz), g, rfl, ⟨hR.st, hR.b17.k, (fun h h2 => hR.z17 (upd_back h rfl) (upd_false h2)), (fun h => hR.y18 (upd_back h rfl)), hR.w2.o, hR.w3.o, hR.w5.o, hR.w6.o, hR.w7.o, hR.w10.o, (fun _ j hj => upd_on (hw j hj)), hR.w13.o, hR.w14.o, hR.w15.o, hR.w16.o, hR.w18.o, hR.f0.k, hR.f1.k, hR.f2.k, hR.f3.k, hR.f4.k, hR.f5.k, hR.f6.k, hR.f7.k, hR.f8.k, hR.f9.k, (fun _ => rfl), (fun _ => rfl), hR.f12.k, hR.f13.k, hR.f14.k, hR.f15.k, hR.f16.k, hR.f17.k⟩⟩
              refine EachOf.cons [] rfl (by kernel_rfl) ?_ ?_
              · rintro L A W ⟨v, g, rfl, hR⟩ hi hw KK hK
                go_simp
                refine hK.out _ _ ?_
                exact ⟨(fun jz => if jz = 33 then .slice (some ⟨sg, o, none⟩) (n) (rc) else v jz), g, rfl, ⟨hR.st, hR.b17.k, (fun h h2 => hR.z17 (upd_back h rfl) (upd_false h2)), (fun h => hR.y18 (upd_back h rfl)), hR.w2.o, hR.w3.o, hR.w5.o, hR.w6.o, hR.w7.o, hR.w10.o, hR.w11.o, hR.w13.o, hR.w14.o, hR.w15.o, hR.w16.o, hR.w18.o, hR.f0.k, hR.f1.k, hR.f2.k, hR.f3.k, hR.f4.k, hR.f5.k, hR.f6.k, hR.f7.k, hR.f8.k, hR.f9.k, hR.f10.k, hR.f11.k, (fun _ => rfl), hR.f13.k, hR.f14.k, hR.f15.k, hR.f16.k, hR.f17.k⟩⟩
              refine EachOf.cons [12] rfl (by kernel_rfl) ?_ ?_
              · rintro L A W ⟨v, g, rfl, hR⟩ hi hw KK hK
                have e12 := hR.f12 (hw 12 (by simp))
                simp only [e12]
                clear e12
                go_simp
                refine hK.out _ _ ?_
                exact ⟨(fun jz => if jz = 33 then .slice (some ⟨sg, o, none⟩) (n) (rc) else if jz = 34 then .pointer (some ⟨sg, o, none⟩) else v jz), g, rfl, ⟨hR.st, hR.b17.k, (fun h h2 => hR.z17 (upd_back h rfl) (upd_false h2)), (fun h => hR.y18 (upd_back h rfl)), hR.w2.o, hR.w3.o, hR.w5.o, hR.w6.o, hR.w7.o, hR.w10.o, hR.w11.o, (fun _ j hj => upd_on (hw j hj)), hR.w14.o, hR.w15.o, hR.w16.o, hR.w18.o, hR.f0.k, hR.f1.k, hR.f2.k, hR.f3.k, hR.f4.k, hR.f5.k, hR.f6.k, hR.f7.k, hR.f8.k, hR.f9.k, hR.f10.k, hR.f11.k, (fun _ => rfl), (fun _ => rfl), hR.f14.k, hR.f15.k, hR.f16.k, hR.f17.k⟩⟩
              refine EachOf.cons [13] rfl (by kernel_rfl) ?_ ?_
              · rintro L A W ⟨v, g, rfl, hR⟩ hi hw KK hK
                have e13 := hR.f13 (hw 13 (by simp))
                simp only [e13]
                clear e13
                have q0 := (hR.st.cell (p := ⟨sg, o, none⟩) LO0.out.2).trans LO0.out.1
                have q1 := (hR.st.cell (p := ⟨sg, o + 1, none⟩) LO1.out.2).trans LO1.out.1
                have q2 := (hR.st.cell (p := ⟨sg, o + 2, none⟩) LO2.out.2).trans LO2.out.1
                go_simp
                refine hK.out _ _ ?_
                exact ⟨(fun jz => if jz = 34 then .pointer (some ⟨sg, o, none⟩) else if jz = 35 then .agg #[.int .i64 p.x, .int .i64 p.y, .int .i64 p.z] else v jz), g, rfl, ⟨hR.st, hR.b17.k, (fun h h2 => hR.z17 (upd_back h rfl) (upd_false h2)), (fun h => hR.y18 (upd_back h rfl)), hR.w2.o, hR.w3.o, hR.w5.o, hR.w6.o, hR.w7.o, hR.w10.o, hR.w11.o, hR.w13.o, (fun _ j hj => upd_on (hw j hj)), hR.w15.o, hR.w16.o, hR.w18.o, hR.f0.k, hR.f1.k, hR.f2.k, hR.f3.k, hR.f4.k, hR.f5.k, hR.f6.k, hR.f7.k, hR.f8.k, hR.f9.k, hR.f10.k, hR.f11.k, hR.f12.k, (fun _ => rfl), (fun _ => rfl), hR.f15.k, hR.f16.k, hR.f17.k⟩⟩
              refine EachOf.cons [11, 14] rfl (by kernel_rfl) ?_ ?_
              · rintro L A W ⟨v, g, rfl, hR⟩ hi hw KK hK
                have e11 := hR.f11 (hw 11 (by simp))
                have e14 := hR.f14 (hw 14 (by simp))
                simp only [e11, e14]
                clear e11 e14
                go_simp
                go_at_call 51
                (with_reducible refine ((CV _).out).mono ?_)
                rintro e w2 ⟨rfl, hb⟩
                go_simp
                refine hK.out _ _ ?_
                exact ⟨(fun jz => if jz = 32 then .agg #[.int .i64 b.x, .int .i64 b.y, .int .i64 b.z] else if jz = 35 then .agg #[.int .i64 p.x, .int .i64 p.y, .int .i64 p.z] else if jz = 36 then .agg #[.int .i64 pv.x, .int .i64 pv.y, .int .i64 pv.z] else v jz), g, rfl, ⟨below_on hR.st hb, (fun h => ⟨(hR.b17 (upd_back h rfl)).1, Nat.lt_of_lt_of_le (hR.b17 (upd_back h rfl)).2 hb.size⟩), (fun h h2 => (hR.z17 (upd_back h rfl) (upd_false h2)).on hb), (fun h => (hR.y18 (upd_back h rfl)).on hb), hR.w2.o, hR.w3.o, hR.w5.o, hR.w6.o, hR.w7.o, hR.w10.o, hR.w11.o, hR.w13.o, hR.w14.o, (fun _ j hj => upd_on (hw j hj)), hR.w16.o, hR.w18.o, hR.f0.k, hR.f1.k, hR.f2.k, hR.f3.k, hR.f4.k, hR.f5.k, hR.f6.k, hR.f7.k, hR.f8.k, hR.f9.k, hR.f10.k, (fun _ => rfl), hR.f12.k, hR.f13.k, (fun _ => rfl), (fun _ => rfl), hR.f16.k, hR.f17.k⟩⟩
              refine EachOf.cons [7, 15] rfl (by kernel_rfl) ?_ ?_
              · rintro L A W ⟨v, g, rfl, hR⟩ hi hw KK hK
                have e7 := hR.f7 (hw 7 (by simp))
                have e15 := hR.f15 (hw 15 (by simp))
                simp only [e7, e15]
                clear e7 e15
                go_simp
                go_at_call 50
                (with_reducible refine ((CC _).out).mono ?_)
                rintro e w2 ⟨rfl, hb⟩
                go_simp
                refine hK.out _ _ ?_
                exact ⟨(fun jz => if jz = 28 then .agg #[.int .i64 u.x, .int .i64 u.y, .int .i64 u.z] else if jz = 36 then .agg #[.int .i64 pv.x, .int .i64 pv.y, .int .i64 pv.z] else if jz = 37 then .agg #[.int .i64 c.x, .int .i64 c.y, .int .i64 c.z] else v jz), g, rfl, ⟨below_on hR.st hb, (fun h => ⟨(hR.b17 (upd_back h rfl)).1, Nat.lt_of_lt_of_le (hR.b17 (upd_back h rfl)).2 hb.size⟩), (fun h h2 => (hR.z17 (upd_back h rfl) (upd_false h2)).on hb), (fun h => (hR.y18 (upd_back h rfl)).on hb), hR.w2.o, hR.w3.o, hR.w5.o, hR.w6.o, hR.w7.o, hR.w10.o, hR.w11.o, hR.w13.o, hR.w14.o, hR.w15.o, (fun _ j hj => upd_on (hw j hj)), hR.w18.o, hR.f0.k, hR.f1.k, hR.f2.k, hR.f3.k, hR.f4.k, hR.f5.k, hR.f6.k, (fun _ => rfl), hR.f8.k, hR.f9.k, hR.f10.k, hR.f11.k, hR.f12.k, hR.f13.k, hR.f14.k, (fun _ => rfl), (fun _ => rfl), hR.f17.k⟩⟩
              refine EachOf.cons [] rfl (by kernel_rfl) ?_ ?_
              · rintro L A W ⟨v, g, rfl, hR⟩ hi hw KK hK
                have hz : W2.heap.size ≤ W.heap.size := hR.st.size
                go_simp
                refine hK.out _ _ ?_
                have hb : Below W.heap.size W (W.alloc (Obj.cells #[Value.int .i64 0, Value.int .i64 0, Value.int .i64 0] 23)) := (Below.refl _ _).alloc (Nat.le_refl _) _
                have hnew : CB (W.alloc (Obj.cells #[Value.int .i64 0, Value.int .i64 0, Value.int .i64 0] 23)) W.heap.size [.int .i64 0, .int .i64 0, .int .i64 0] := cb_new _ _ _
                exact ⟨(fun jz => if jz = 5 then .pointer (some ⟨W.heap.size, 0, none⟩) else v jz), (fun jz => if jz = 17 then W.heap.size else g jz), rfl, ⟨below_on hR.st hb, (fun _ => ⟨hz, by simp⟩), (fun _ _ => hnew), (fun h => absurd (hR.w18 (upd_back h rfl) 17 (by simp)) (by simp [hi])), hR.w2.o, hR.w3.o, hR.w5.o, hR.w6.o, hR.w7.o, hR.w10.o, hR.w11.o, hR.w13.o, hR.w14.o, hR.w15.o, hR.w16.o, hR.w18.o, hR.f0.k, hR.f1.k, hR.f2.k, hR.f3.k, hR.f4.k, hR.f5.k, hR.f6.k, hR.f7.k, hR.f8.k, hR.f9.k, hR.f10.k, hR.f11.k, hR.f12.k, hR.f13.k, hR.f14.k, hR.f15.k, hR.f16.k, (fun _ => rfl)⟩⟩
              refine EachOf.cons [0, 1, 2, 3, 4, 5, 6, 7, 8, 9, 10, 11, 12, 13, 14, 15, 16, 17] rfl (by kernel_rfl) ?_ ?_
              · rintro L A W ⟨v, g, rfl, hR⟩ hi hw KK hK
                have e17 := hR.f17 (hw 17 (by simp))
                have e16 := hR.f16 (hw 16 (by simp))
                simp only [e17, e16]
                clear e17 e16
                have hzz := hR.z17 (hw 17 (by simp)) hi
                have hbb := hR.b17 (hw 17 (by simp))
                have q0 := hzz.cell 0 _ rfl
                have y0 := hzz.fz 0
                have q1 := hzz.cell 1 _ rfl
                have y1 := hzz.fz 1
                have q2 := hzz.cell 2 _ rfl
                have y2 := hzz.fz 2
                have ql := hzz.lt
                go_simp
                refine hK.out _ _ ?_
                exact ⟨(fun jz => if jz = 5 then .pointer (some ⟨g 17, 0, none⟩) else if jz = 37 then .agg #[.int .i64 c.x, .int .i64 c.y, .int .i64 c.z] else v jz), g, rfl, ⟨(stL_below hbb.1 [.int .i64 c.x, .int .i64 c.y, .int .i64 c.z] W 0 hR.st), (fun h => ⟨(hR.b17 (upd_back h rfl)).1, Nat.lt_of_lt_of_eq (hR.b17 (upd_back h rfl)).2 (stL_size (b := g 17) [.int .i64 c.x, .int .i64 c.y, .int .i64 c.z] W 0).symm⟩), (fun _ h => by simp [upd_self] at h), (fun _ => CB.fill (vs := [.int .i64 c.x, .int .i64 c.y, .int .i64 c.z]) hzz rfl), hR.w2.o, hR.w3.o, hR.w5.o, hR.w6.o, hR.w7.o, hR.w10.o, hR.w11.o, hR.w13.o, hR.w14.o, hR.w15.o, hR.w16.o, (fun _ j hj => upd_on (hw j hj)), hR.f0.k, hR.f1.k, hR.f2.k, hR.f3.k, hR.f4.k, hR.f5.k, hR.f6.k, hR.f7.k, hR.f8.k, hR.f9.k, hR.f10.k, hR.f11.k, hR.f12.k, hR.f13.k, hR.f14.k, hR.f15.k, (fun _ => rfl), (fun _ => rfl)⟩⟩
              exact EachOf.nil
            rintro L A W3 ⟨vs, gg, rfl, hR⟩ hL
            have e17 := hR.f17 (hL 17 (by simp))
            simp only [e17]
            have D := (hR.y18 (hL 18 (by simp))).b3
            have HS3 : Hid (LsS w W3 sg o n f ∧ B3 W3 (gg 17) c.x c.y c.z) := ⟨HS.out.on hR.st, D⟩
            generalize gg 17 = b5 at *
            clear e17 hR hL D LO0 LO1 LO2 LA0 LA1 LA2 LB0 LB1 LB2 HS CU CV CC
            go_upto_region 8 with fail
            go_wp2_with fail
            go_loopg [6] (n - (k + 1)) (fun mm s6 wx => ∃ m : Nat, s6 = .int .i64 (m : Int) ∧ mm = n - m ∧ k + 1 ≤ m ∧ m ≤ n ∧ Hid (LsS w wx sg o n f ∧ B3 wx b5 c.x c.y c.z) ∧ Hid (∀ j2, k < j2 → j2 < m → NoD n f i k j2))
            case atStart => exact ⟨k + 1, rfl, by omega, by omega, by omega, HS3, fun j2 h1 h2 => by omega⟩
            case round =>
              clear HS3
              obtain ⟨m, rfl, rfl, hkm, hmn, HS, HX⟩ := hrel
              rename World => W4
              by_cases hmt : m < n
              · have wm : IntKind.i64.wrap ((m : Int) + 1) = ((m + 1 : Nat) : Int) := by rw [IntWalk.i64_in _ (by omega)]; omega
                have lm : (m : Int) < (n : Int) := by omega
                obtain ⟨d, hd⟩ : ∃ d, f m = d := ⟨_, rfl⟩
                have hod : d.ok := by rw [← hd]; exact HA.out m hmt
                have cp := HS.out.1.c 0 h0
                have cd := HS.out.1.c m hmt
                rw [HPo.out.1, show o + 0 * 3 = o by omega] at cp
                rw [hd] at cd
                have LO0 := Lib.hid (And.intro cp.1 HS.out.1.hg)
                have LO1 := Lib.hid (And.intro cp.2.1 HS.out.1.hg)
                have LO2 := Lib.hid (And.intro cp.2.2 HS.out.1.hg)
                have LD0 := Lib.hid (And.intro cd.1 HS.out.1.hg)
                have LD1 := Lib.hid (And.intro cd.2.1 HS.out.1.hg)
                have LD2 := Lib.hid (And.intro cd.2.2 HS.out.1.hg)
                have LC0 := Lib.hid (And.intro HS.out.2.c0 HS.out.2.lt)
                have LC1 := Lib.hid (And.intro HS.out.2.c1 HS.out.2.lt)
                have LC2 := Lib.hid (And.intro HS.out.2.c2 HS.out.2.lt)
                have CU := fun W => Lib.hid (rMin_any d p W hod HPo.out.2)
                have CZ := fun W => Lib.hid (HZE.out c (d.sub p) W HC.out.2 (sub_lim hod HPo.out.2))
                obtain ⟨q, hq⟩ : ∃ u, d.sub p = u := ⟨_, rfl⟩
                have HND : Hid (NoD n f i k m ↔ c.dot q = 0) := by show (((f i).sub (f 0)).crs ((f k).sub (f 0))).dot ((f m).sub (f 0)) = 0 ↔ _; rw [HC.out.1, hd, HPo.out.1, hq]
                rw [hq] at CU CZ
                obtain ⟨t, ht⟩ : ∃ t, decide (c.dot q = 0) = t := ⟨_, rfl⟩
                have HT : Hid (t = true ↔ c.dot q = 0) := by show t = true ↔ _; rw [← ht]; exact decide_eq_true_iff
                rw [ht] at CZ
                clear hd hod cp cd hq ht
                go_upto_region 11 with fail
                refine wp_region_each (fun L A W => ∃ (v : Nat → Value), A = ⟨#[_, _, _, _, _, _, _, _, _, _, _, _, _, _, _, _, _, _, _, _, _, _, _, _, _, _, _, _, _, _, _, _, _, _, _, _, _, _, _, _, _, _, _, _, _, _, v 46, v 47, v 48, v 49, v 50, v 51, v 52, v 53, v 54, v 55, v 56], []⟩ ∧ Vf11R sg o n rc b5 m p d q c t W4 L v W) (by kernel_rfl) (by kernel_rfl) ⟨fun jz => if jz = 46 then u46 else if jz = 47 then u47 else if jz = 48 then u48 else if jz = 49 then u49 else if jz = 50 then u50 else if jz = 51 then u51 else if jz = 52 then u52 else if jz = 53 then u53 else if jz = 54 then u54 else if jz = 55 then u55 else if jz = 56 then u56 else undef, rfl, ⟨Below.drew (Below.refl _ _), Had.none, Had.none, Had.none, Had.none, Had.none, Had.none, Had.none, Had.none, Had.none, Had.none, Had.none, Had.none, Had.none, Had.none, Had.none, Had.none, Had.none, Had.none⟩⟩ (rs := [0, 1, 2, 3, 4, 5, 6, 7, 8, 9, 10]) (by kernel_rfl) ?_ ?_
                · refine EachOf.cons [] rfl (by kernel_rfl) ?_ ?_
                  · rintro L A W ⟨v, rfl, hR⟩ hi hw K hK
                    have q0 := (hR.st.cell (p := ⟨b5, 0, none⟩) LC0.out.2).trans LC0.out.1
                    have q1 := (hR.st.cell (p := ⟨b5, 1, none⟩) LC1.out.2).trans LC1.out.1
                    have q2 := (hR.st.cell (p := ⟨b5, 2, none⟩) LC2.out.2).trans LC2.out.1
                    go_simp
                    refine hK.out _ _ ?_
                    exact ⟨(fun jz => if jz = 46 then .agg #[.int .i64 c.x, .int .i64 c.y, .int .i64 c.z] else v jz), rfl, ⟨hR.st, hR.w3.o, hR.w4.o, hR.w6.o, hR.w7.o, hR.w8.o, hR.w9.o, hR.w10.o, (fun _ => rfl), hR.f1.k, hR.f2.k, hR.f3.k, hR.f4.k, hR.f5.k, hR.f6.k, hR.f7.k, hR.f8.k, hR.f9.k, hR.f10.k⟩⟩
                  refine EachOf.cons [] rfl (by kernel_rfl) ?_ ?_
                  · rintro L A W ⟨v, rfl, hR⟩ hi hw K hK
                    go_simp
                    refine hK.out _ _ ?_
                    exact ⟨(fun jz => if jz = 47 then .slice (some ⟨sg, o, none⟩) (n) (rc) else v jz), rfl, ⟨hR.st, hR.w3.o, hR.w4.o, hR.w6.o, hR.w7.o, hR.w8.o, hR.w9.o, hR.w10.o, hR.f0.k, (fun _ => rfl), hR.f2.k, hR.f3.k, hR.f4.k, hR.f5.k, hR.f6.k, hR.f7.k, hR.f8.k, hR.f9.k, hR.f10.k⟩⟩
                  refine EachOf.cons [] rfl (by kernel_rfl) ?_ ?_
                  · rintro L A W ⟨v, rfl, hR⟩ hi hw K hK
                    go_simp
                    refine hK.out _ _ ?_
                    exact ⟨(fun jz => if jz = 48 then .int .i64 (m : Int) else v jz), rfl, ⟨hR.st, hR.w3.o, hR.w4.o, hR.w6.o, hR.w7.o, hR.w8.o, hR.w9.o, hR.w10.o, hR.f0.k, hR.f1.k, (fun _ => rfl), hR.f3.k, hR.f4.k, hR.f5.k, hR.f6.k, hR.f7.k, hR.f8.k, hR.f9.k, hR.f10.k⟩⟩
                  refine EachOf.cons [1, 2] rfl (by kernel_rfl) ?_ ?_
                  · rintro L A W ⟨v, rfl, hR⟩ hi hw K hK
                    have e1 := hR.f1 (hw 1 (by simp))
                    have e2 := hR.f2 (hw 2 (by simp))
                    simp only [e1, e2]
                    clear e1 e2
                    go_simp
                    refine hK.out _ _ ?_
                    exact ⟨(fun jz => if jz = 47 then .slice (some ⟨sg, o, none⟩) (n) (rc) else if jz = 48 then .int .i64 (m : Int) else if jz = 49 then .pointer (some ⟨sg, o + m * 3, none⟩) else v jz), rfl, ⟨hR.st, (fun _ j hj => upd_on (hw j hj)), hR.w4.o, hR.w6.o, hR.w7.o, hR.w8.o, hR.w9.o, hR.w10.o, hR.f0.k, (fun _ => rfl), (fun _ => rfl), (fun _ => rfl), hR.f4.k, hR.f5.k, hR.f6.k, hR.f7.k, hR.f8.k, hR.f9.k, hR.f10.k⟩⟩
                  refine EachOf.cons [3] rfl (by kernel_rfl) ?_ ?_
                  · rintro L A W ⟨v, rfl, hR⟩ hi hw K hK
                    have e3 := hR.f3 (hw 3 (by simp))
                    simp only [e3]
                    clear e3
                    have q0 := (hR.st.cell (p := ⟨sg, o + m * 3, none⟩) LD0.out.2).trans LD0.out.1
                    have q1 := (hR.st.cell (p := ⟨sg, o + m * 3 + 1, none⟩) LD1.out.2).trans LD1.out.1
                    have q2 := (hR.st.cell (p := ⟨sg, o + m * 3 + 2, none⟩) LD2.out.2).trans LD2.out.1
                    go_simp
                    refine hK.out _ _ ?_
                    exact ⟨(fun jz => if jz = 49 then .pointer (some ⟨sg, o + m * 3, none⟩) else if jz = 50 then .agg #[.int .i64 d.x, .int .i64 d.y, .int .i64 d.z] else v jz), rfl, ⟨hR.st, hR.w3.o, (fun _ j hj => upd_on (hw j hj)), hR.w6.o, hR.w7.o, hR.w8.o, hR.w9.o, hR.w10.o, hR.f0.k, hR.f1.k, hR.f2.k, (fun _ => rfl), (fun _ => rfl), hR.f5.k, hR.f6.k, hR.f7.k, hR.f8.k, hR.f9.k, hR.f10.k⟩⟩
                  refine EachOf.cons [] rfl (by kernel_rfl) ?_ ?_
                  · rintro L A W ⟨v, rfl, hR⟩ hi hw K hK
                    go_simp
                    refine hK.out _ _ ?_
                    exact ⟨(fun jz => if jz = 51 then .slice (some ⟨sg, o, none⟩) (n) (rc) else v jz), rfl, ⟨hR.st, hR.w3.o, hR.w4.o, hR.w6.o, hR.w7.o, hR.w8.o, hR.w9.o, hR.w10.o, hR.f0.k, hR.f1.k, hR.f2.k, hR.f3.k, hR.f4.k, (fun _ => rfl), hR.f6.k, hR.f7.k, hR.f8.k, hR.f9.k, hR.f10.k⟩⟩
                  refine EachOf.cons [5] rfl (by kernel_rfl) ?_ ?_
                  · rintro L A W ⟨v, rfl, hR⟩ hi hw K hK
                    have e5 := hR.f5 (hw 5 (by simp))
                    simp only [e5]
                    clear e5
                    go_simp
                    refine hK.out _ _ ?_
                    exact ⟨(fun jz => if jz = 51 then .slice (some ⟨sg, o, none⟩) (n) (rc) else if jz = 52 then .pointer (some ⟨sg, o, none⟩) else v jz), rfl, ⟨hR.st, hR.w3.o, hR.w4.o, (fun _ j hj => upd_on (hw j hj)), hR.w7.o, hR.w8.o, hR.w9.o, hR.w10.o, hR.f0.k, hR.f1.k, hR.f2.k, hR.f3.k, hR.f4.k, (fun _ => rfl), (fun _ => rfl), hR.f7.k, hR.f8.k, hR.f9.k, hR.f10.k⟩⟩
                  refine EachOf.cons [6] rfl (by kernel_rfl) ?_ ?_
                  · rintro L A W ⟨v, rfl, hR⟩ hi hw K hK
                    have e6 := hR.f6 (hw 6 (by simp))
                    simp only [e6]
                    clear e6
                    have q0 := (hR.st.cell (p := ⟨sg, o, none⟩) LO0.out.2).trans LO0.out.1
                    have q1 := (hR.st.cell (p := ⟨sg, o + 1, none⟩) LO1.out.2).trans LO1.out.1
                    have q2 := (hR.st.cell (p := ⟨sg, o + 2, none⟩) LO2.out.2).trans LO2.out.1
                    go_simp
                    refine hK.out _ _ ?_
                    exact ⟨(fun jz => if jz = 52 then .pointer (some ⟨sg, o, none⟩) else if jz = 53 then .agg #[.int .i64 p.x, .int .i64 p.y, .int .i64 p.z] else v jz), rfl, ⟨hR.st, hR.w3.o, hR.w4.o, hR.w6.o, (fun _ j hj => upd_on (hw j hj)), hR.w8.o, hR.w9.o, hR.w10.o, hR.f0.k, hR.f1.k, hR.f2.k, hR.f3.k, hR.f4.k, hR.f5.k, (fun _ => rfl), (fun _ => rfl), hR.f8.k, hR.f9.k, hR.f10.k⟩⟩
                  refine EachOf.cons [4, 7] rfl (by kernel_rfl) ?_ ?_
                  · rintro L A W ⟨v, rfl, hR⟩ hi hw K hK
                    have e4 := hR.f4 (hw 4 (by simp))
                    have e7 := hR.f7 (hw 7 (by simp))
                    simp only [e4, e7]
                    clear e4 e7
                    go_simp
                    go_at_call 51
                    (with_reducible refine ((CU _).out).mono ?_)
                    rintro e w2 ⟨rfl, hb⟩
                    go_simp
                    refine hK.out _ _ ?_
                    exact ⟨(fun jz => if jz = 50 then .agg #[.int .i64 d.x, .int .i64 d.y, .int .i64 d.z] else if jz = 53 then .agg #[.int .i64 p.x, .int .i64 p.y, .int .i64 p.z] else if jz = 54 then .agg #[.int .i64 q.x, .int .i64 q.y, .int .i64 q.z] else v jz), rfl, ⟨below_on hR.st hb, hR.w3.o, hR.w4.o, hR.w6.o, hR.w7.o, (fun _ j hj => upd_on (hw j hj)), hR.w9.o, hR.w10.o, hR.f0.k, hR.f1.k, hR.f2.k, hR.f3.k, (fun _ => rfl), hR.f5.k, hR.f6.k, (fun _ => rfl), (fun _ => rfl), hR.f9.k, hR.f10.k⟩⟩
                  refine EachOf.cons [0, 8] rfl (by kernel_rfl) ?_ ?_
                  · rintro L A W ⟨v, rfl, hR⟩ hi hw K hK
                    have e0 := hR.f0 (hw 0 (by simp))
                    have e8 := hR.f8 (hw 8 (by simp))
                    simp only [e0, e8]
                    clear e0 e8
                    go_simp
                    go_at_call 52
                    (with_reducible refine ((CZ _).out).mono ?_)
                    rintro e w2 ⟨rfl, hb⟩
                    go_simp
                    refine hK.out _ _ ?_
                    exact ⟨(fun jz => if jz = 46 then .agg #[.int .i64 c.x, .int .i64 c.y, .int .i64 c.z] else if jz = 54 then .agg #[.int .i64 q.x, .int .i64 q.y, .int .i64 q.z] else if jz = 55 then .bool t else v jz), rfl, ⟨below_on hR.st hb, hR.w3.o, hR.w4.o, hR.w6.o, hR.w7.o, hR.w8.o, (fun _ j hj => upd_on (hw j hj)), hR.w10.o, (fun _ => rfl), hR.f1.k, hR.f2.k, hR.f3.k, hR.f4.k, hR.f5.k, hR.f6.k, hR.f7.k, (fun _ => rfl), (fun _ => rfl), hR.f10.k⟩⟩
                  refine EachOf.cons [9] rfl (by kernel_rfl) ?_ ?_
                  · rintro L A W ⟨v, rfl, hR⟩ hi hw K hK
                    have e9 := hR.f9 (hw 9 (by simp))
                    simp only [e9]
                    clear e9
                    go_simp
                    refine hK.out _ _ ?_
                    exact ⟨(fun jz => if jz = 55 then .bool t else if jz = 56 then .bool (!t) else v jz), rfl, ⟨hR.st, hR.w3.o, hR.w4.o, hR.w6.o, hR.w7.o, hR.w8.o, hR.w9.o, (fun _ j hj => upd_on (hw j hj)), hR.f0.k, hR.f1.k, hR.f2.k, hR.f3.k, hR.f4.k, hR.f5.k, hR.f6.k, hR.f7.k, hR.f8.k, (fun _ => rfl), (fun _ => rfl)⟩⟩
                  exact EachOf.nil
                rintro L A W5 ⟨vs, rfl, hR⟩ hL
                have e10 := hR.f10 (hL 10 (by simp))
                simp only [e10]
                have HS5 : Hid (LsS w W5 sg o n f ∧ B3 W5 b5 c.x c.y c.z) := ⟨HS.out.1.on hR.st, HS.out.2.on hR.st⟩
                clear e10 hR hL LO0 LO1 LO2 LD0 LD1 LD2 LC0 LC1 LC2 HS CU CZ
                cases t with
                | false =>
                  have hvf : v = false := by
                    cases h : v
                    · rfl
                    · have h2 := HT.out.2 (HND.out.1 (HV.out.1 h i k m (by omega) (by omega) hmt))
                      cases h2
                  subst hvf
                  have HE := Lib.hid HS5.out.1.st
                  clear HV HT HND HZ HY HX HS5
                  go_wp2_with fail
                  go_ret
                  exact ⟨rfl, HE.out⟩
                | true =>
                  have HX2 : Hid (∀ j2, k < j2 → j2 < m + 1 → NoD n f i k j2) := fun j2 h1 h2 => by
                    by_cases e : j2 = m
                    · rw [e]; exact HND.out.2 (HT.out.1 rfl)
                    · exact HX.out j2 h1 (by omega)
                  have HS6 := Lib.hid HS5.out
                  clear HT HND HX HS5
                  go_wp2_with fail
                  go_roundg (n - (m + 1))
                  case measure => omega
                  case rel => exact ⟨m + 1, rfl, rfl, by omega, by omega, HS6, HX2⟩
              · have lm : ¬ (m : Int) < (n : Int) := by omega
                have HY2 : Hid (∀ k2 j, i < k2 → k2 < k + 1 → k2 < j → j < n → NoD n f i k2 j) := fun k2 j2 h1 h2 h3 h4 => by
                  by_cases e : k2 = k
                  · rw [e]; exact HX.out j2 (by omega) (by omega)
                  · exact HY.out k2 j2 h1 (by omega) h3 h4
                have HS6 := Lib.hid HS.out.1
                clear HX HY HS HC
                go_wp2_with fail
                go_roundg (n - (k + 1))
                case measure => omega
                case rel => exact ⟨k + 1, rfl, rfl, by omega, by omega, HS6, HY2⟩
          · have lk : ¬ (k : Int) < (n : Int) := by omega
            have HZ2 : Hid (∀ i2 k j, i2 < i + 1 → i2 < k → k < j → j < n → NoD n f i2 k j) := fun i2 k2 j2 h1 h2 h3 h4 => by
              by_cases e : i2 = i
              · rw [e]; exact HY.out k2 j2 (by omega) (by omega) h3 h4
              · exact HZ.out i2 k2 j2 (by omega) h2 h3 h4
            have HS6 := Lib.hid HS.out
            clear HZ HY HS
            go_wp2_with fail
            go_roundg (n - (i + 1))
            case measure => omega
            case rel => exact ⟨i + 1, rfl, rfl, by omega, HS6, HZ2⟩
      · have li : ¬ (i : Int) < (n : Int) := by omega
        have hvt : v = true := HV.out.2 (fun i2 k2 j2 h1 h2 h3 => HZ.out i2 k2 j2 (by omega) h1 h2 h3)
        subst hvt
        have HE := Lib.hid HS.out.st
        clear HV HZ HS
        go_wp2_with fail
        go_ret
        exact ⟨rfl, HE.out⟩
  · have e0 : n = 0 := by omega
    subst e0
    have hvt : v = true := HV.out.2 (fun i2 k2 j2 h1 h2 h3 => by omega)
    subst hvt
    clear hl HV HA HZE h0
    go_enter Tryd.func13, Tryd.ntmps13
    go_wp2_with fail
    go_loopg [3] 1 (fun mm s3 wx => s3 = .int .i64 0 ∧ mm = 1 ∧ wx = w)
    case atStart => exact ⟨rfl, rfl, rfl⟩
    case round =>
      obtain ⟨rfl, rfl, rfl⟩ := hrel
      go_wp2_with fail
      go_ret
      exact ⟨rfl, Below.refl _ _⟩
end Go.Proofs.YtcghjjfpjiacfaaDoor
