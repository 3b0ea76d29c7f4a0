/- Layer 10's law ReevingForms. -/
import Derived.Test.YtcghjjfpjiacfaaDoorKF3
namespace Go.Proofs.YtcghjjfpjiacfaaDoor
open Go.ChangeShapes Go.WideShapes Go.ChangeAt Go.RowKit Go.Joins Go.Deep Go.Shelf
set_option linter.unusedVariables false

theorem SameS.refl (s : Sys) : SameS s s := ⟨⟨rfl, fun _ _ => ⟨rfl, rfl⟩⟩, rfl, fun _ _ => ⟨rfl, rfl, rfl, fun _ _ => ⟨rfl, rfl, rfl, rfl⟩⟩⟩
structure KlfR (s t : Sys) (x2 x3 : Nat) (tv ts : Bool) (Wc : World) (L : Nat → Bool) (v : Nat → Value) (W : World) : Prop where
  st : Below Wc.heap.size Wc W
  w1 : Had L 1 (∀ j ∈ [0], L j = true)
  w3 : Had L 3 (∀ j ∈ [2], L j = true)
  w4 : Had L 4 (∀ j ∈ [1, 3], L j = true)
  w5 : Had L 5 (∀ j ∈ [4], L j = true)
  w6 : Had L 6 (∀ j ∈ [5], L j = true)
  w7 : Had L 7 (∀ j ∈ [5], L j = true)
  w8 : Had L 8 (∀ j ∈ [5, 6, 7], L j = true)
  w9 : Had L 9 (∀ j ∈ [5], L j = true)
  w10 : Had L 10 (∀ j ∈ [5], L j = true)
  w11 : Had L 11 (∀ j ∈ [5, 9, 10], L j = true)
  w12 : Had L 12 (∀ j ∈ [5, 8, 11], L j = true)
  w13 : Had L 13 (∀ j ∈ [5, 12], L j = true)
  w14 : Had L 14 (∀ j ∈ [13], L j = true)
  w15 : Had L 15 (∀ j ∈ [14], L j = true)
  w16 : Had L 16 (∀ j ∈ [14], L j = true)
  w17 : Had L 17 (∀ j ∈ [14, 15, 16], L j = true)
  w18 : Had L 18 (∀ j ∈ [14, 17], L j = true)
  w19 : Had L 19 (∀ j ∈ [18], L j = true)
  f0 : Had L 0 (v 15 = .agg #[.slice s.ba s.nb s.bc, .slice s.ra s.nr s.rc])
  f1 : Had L 1 (v 16 = .bool tv)
  f2 : Had L 2 (v 17 = .agg #[.slice s.ba s.nb s.bc, .slice s.ra s.nr s.rc])
  f3 : Had L 3 (v 18 = .bool tv)
  f4 : Had L 4 (v 19 = .bool true)
  f5 : Had L 5 (v 20 = .bool true)
  f6 : Had L 6 (v 21 = .agg #[.slice s.ba s.nb s.bc, .slice s.ra s.nr s.rc])
  f7 : Had L 7 (v 22 = .agg #[.slice t.ba t.nb t.bc, .slice t.ra t.nr t.rc])
  f8 : Had L 8 (v 23 = .bool ts)
  f9 : Had L 9 (v 24 = .agg #[.slice s.ba s.nb s.bc, .slice s.ra s.nr s.rc])
  f10 : Had L 10 (v 25 = .agg #[.slice t.ba t.nb t.bc, .slice t.ra t.nr t.rc])
  f11 : Had L 11 (v 26 = .bool ts)
  f12 : Had L 12 (v 27 = .bool true)
  f13 : Had L 13 (v 28 = .bool true)
  f14 : Had L 14 (v 29 = .bool true)
  f15 : Had L 15 (v 30 = .agg #[.slice s.ba s.nb s.bc, .slice s.ra s.nr s.rc])
  f16 : Had L 16 (v 31 = .agg #[.slice s.ba s.nb s.bc, .slice s.ra s.nr s.rc])
  f17 : Had L 17 (v 32 = .bool true)
  f18 : Had L 18 (v 33 = .bool true)
  f19 : Had L 19 (v 4 = .bool true)
set_option maxRecDepth 100000 in
set_option maxHeartbeats 16000000 in
theorem forms_walk (s t : Sys) (w : World) (hT : Pow10 w.heap.size w) (hs : s.At w) (hrg : SysRg s) (ht : t.At w) (htg : SysRg t) :
    Calls Tryd.prog 4 #[.agg #[.slice s.ba s.nb s.bc, .slice s.ra s.nr s.rc], .agg #[.slice t.ba t.nb t.bc, .slice t.ra t.nr t.rc]] w fun e w' => e = .returned (.bool true) ∧ Below w.heap.size w w' := by
  obtain ⟨w1, hw1⟩ : ∃ W, W = (w.alloc (Obj.cells #[Value.slice s.ba s.nb s.bc, .slice s.ra s.nr s.rc] 36)).alloc (Obj.cells #[Value.slice t.ba t.nb t.bc, .slice t.ra t.nr t.rc] 36) := ⟨_, rfl⟩
  obtain ⟨x2, hx2⟩ : ∃ x, x = w.heap.size := ⟨_, rfl⟩
  obtain ⟨x3, hx3⟩ : ∃ x, x = w.heap.size + 1 := ⟨_, rfl⟩
  have hB0 : Below (w.alloc (Obj.cells #[Value.slice s.ba s.nb s.bc, .slice s.ra s.nr s.rc] 36)).heap.size (w.alloc (Obj.cells #[Value.slice s.ba s.nb s.bc, .slice s.ra s.nr s.rc] 36)) w1 := by rw [hw1]; exact (Below.refl _ _).alloc (Nat.le_refl _) _
  have hC2 : C2 w1 x2 (Value.slice s.ba s.nb s.bc) (.slice s.ra s.nr s.rc) := by rw [hx2]; exact (C2.new w _ _ _).on hB0
  have hC3 : C2 w1 x3 (Value.slice t.ba t.nb t.bc) (.slice t.ra t.nr t.rc) := by
    rw [hw1, hx3, show w.heap.size + 1 = (w.alloc (Obj.cells #[Value.slice s.ba s.nb s.bc, .slice s.ra s.nr s.rc] 36)).heap.size by simp]
    exact C2.new _ _ _ _
  have hB : Below w.heap.size w w1 := below_on ((Below.refl _ _).alloc (Nat.le_refl _) _) hB0
  have HB := Lib.hid hB
  have HA := Lib.hid hC2
  have HC := Lib.hid hC3
  have HD : Hid (x2 = w.heap.size ∧ x3 = w.heap.size + 1 ∧ w1 = (w.alloc (Obj.cells #[Value.slice s.ba s.nb s.bc, .slice s.ra s.nr s.rc] 36)).alloc (Obj.cells #[Value.slice t.ba t.nb t.bc, .slice t.ra t.nr t.rc] 36)) := ⟨hx2, hx3, hw1⟩
  have HS := Lib.hid (hs.on hB)
  have HZ := Lib.hid (ht.on hB)
  have HR := Lib.hid (And.intro hrg htg)
  have c0 := hC2.c0
  have c1 := hC2.c1
  have d0 := hC3.c0
  have d1 := hC3.c1
  have CA := Lib.hid (kawake_any w1 w.heap.size hB.size (kpow_on hT hB))
  obtain ⟨t1, ht1⟩ := kbool_of (SysSm s)
  obtain ⟨t2, ht2⟩ := kbool_of (SysSm t)
  have CS : Hid (∀ W, Below w1.heap.size w1 W → Calls Tryd.prog 17 #[.agg #[.slice s.ba s.nb s.bc, .slice s.ra s.nr s.rc]] W fun e w' => e = .returned (.bool t1) ∧ Below W.heap.size W w') := fun W hW => rSmall_any s W (HS.out.on hW) t1 ht1
  have CT : Hid (∀ W, Below w1.heap.size w1 W → Calls Tryd.prog 17 #[.agg #[.slice t.ba t.nb t.bc, .slice t.ra t.nr t.rc]] W fun e w' => e = .returned (.bool t2) ∧ Below W.heap.size W w') := fun W hW => rSmall_any t W (HZ.out.on hW) t2 ht2
  have HM := Lib.hid (And.intro ht1 ht2)
  clear hs hrg ht htg hT ht1 ht2
  clear hx2 hx3 hw1 hB0 hC2 hC3 hB
  cases t1
  · clear HM CT
    go_enter Tryd.func4, Tryd.ntmps4
    go_upto_region 1 with fail
    rw [← HD.out.2.2, ← HD.out.2.1, ← HD.out.1]
    clear HD
    go_wp2_with (first
      | (go_at_call 16; (with_reducible refine (CA.out.mono ?_)); rintro e y1 ⟨rfl, hb⟩; have A1 := Lib.hid (hb); clear c0 c1 d0 d1; have c0 := (HA.out.on A1.out).c0; have c1 := (HA.out.on A1.out).c1; have d0 := (HC.out.on A1.out).c0; have d1 := (HC.out.on A1.out).c1; clear hb)
      | (go_at_call 17; (with_reducible refine ((CS.out _ A1.out).mono ?_)); rintro e y2 ⟨rfl, hb⟩; have A2 := Lib.hid (below_on A1.out hb); clear c0 c1 d0 d1; have c0 := (HA.out.on A2.out).c0; have c1 := (HA.out.on A2.out).c1; have d0 := (HC.out.on A2.out).c0; have d1 := (HC.out.on A2.out).c1; clear hb))
    go_ret
    exact ⟨rfl, below_on HB.out A2.out⟩
  · cases t2
    · clear HM
      go_enter Tryd.func4, Tryd.ntmps4
      go_upto_region 1 with fail
      rw [← HD.out.2.2, ← HD.out.2.1, ← HD.out.1]
      clear HD
      go_wp2_with (first
        | (go_at_call 16; (with_reducible refine (CA.out.mono ?_)); rintro e y1 ⟨rfl, hb⟩; have A1 := Lib.hid (hb); clear c0 c1 d0 d1; have c0 := (HA.out.on A1.out).c0; have c1 := (HA.out.on A1.out).c1; have d0 := (HC.out.on A1.out).c0; have d1 := (HC.out.on A1.out).c1; clear hb)
        | (go_at_call 17; (with_reducible refine ((CS.out _ A1.out).mono ?_)); rintro e y2 ⟨rfl, hb⟩; have A2 := Lib.hid (below_on A1.out hb); clear c0 c1 d0 d1; have c0 := (HA.out.on A2.out).c0; have c1 := (HA.out.on A2.out).c1; have d0 := (HC.out.on A2.out).c0; have d1 := (HC.out.on A2.out).c1; clear hb)
        | (go_at_call 17; (with_reducible refine ((CT.out _ A2.out).mono ?_)); rintro e y3 ⟨rfl, hb⟩; have A3 := Lib.hid (below_on A2.out hb); clear c0 c1 d0 d1; have c0 := (HA.out.on A3.out).c0; have c1 := (HA.out.on A3.out).c1; have d0 := (HC.out.on A3.out).c0; have d1 := (HC.out.on A3.out).c1; clear hb))
      go_ret
      exact ⟨rfl, below_on HB.out A3.out⟩
    · have hsm := HM.out.1.1 rfl
      have htm := HM.out.2.1 rfl
      obtain ⟨tv, htv⟩ := kbool_of (SysOk s)
      obtain ⟨ts, hts⟩ := kbool_of (SameS s t)
      have CV : Hid (∀ W, Below w1.heap.size w1 W → Calls Tryd.prog 18 #[.agg #[.slice s.ba s.nb s.bc, .slice s.ra s.nr s.rc]] W fun e w' => e = .returned (.bool tv) ∧ Below W.heap.size W w') := fun W hW => kValid_any s W (HS.out.on hW) hsm HR.out.1 tv htv
      have DV : Hid (∀ W, Below w1.heap.size w1 W → Calls Tryd.prog 19 #[.agg #[.slice s.ba s.nb s.bc, .slice s.ra s.nr s.rc]] W fun e w' => e = .returned (.bool tv) ∧ Below W.heap.size W w') := fun W hW => rValid_any s W (HS.out.on hW) hsm HR.out.1 tv htv
      have CQ : Hid (∀ W, Below w1.heap.size w1 W → Calls Tryd.prog 20 #[.agg #[.slice s.ba s.nb s.bc, .slice s.ra s.nr s.rc], .agg #[.slice t.ba t.nb t.bc, .slice t.ra t.nr t.rc]] W fun e w' => e = .returned (.bool ts) ∧ Below W.heap.size W w') := fun W hW => kSame_any s t W (HS.out.on hW) (HZ.out.on hW) hsm htm ts hts
      have DQ : Hid (∀ W, Below w1.heap.size w1 W → Calls Tryd.prog 21 #[.agg #[.slice s.ba s.nb s.bc, .slice s.ra s.nr s.rc], .agg #[.slice t.ba t.nb t.bc, .slice t.ra t.nr t.rc]] W fun e w' => e = .returned (.bool ts) ∧ Below W.heap.size W w') := fun W hW => rSame_any s t W (HS.out.on hW) (HZ.out.on hW) hsm htm ts hts
      have CI : Hid (∀ W, Below w1.heap.size w1 W → Calls Tryd.prog 20 #[.agg #[.slice s.ba s.nb s.bc, .slice s.ra s.nr s.rc], .agg #[.slice s.ba s.nb s.bc, .slice s.ra s.nr s.rc]] W fun e w' => e = .returned (.bool true) ∧ Below W.heap.size W w') := fun W hW => kSame_any s s W (HS.out.on hW) (HS.out.on hW) hsm hsm true ⟨fun _ => SameS.refl s, fun _ => rfl⟩
      clear HM hsm htm htv hts
      go_enter Tryd.func4, Tryd.ntmps4
      go_upto_region 1 with fail
      rw [← HD.out.2.2, ← HD.out.2.1, ← HD.out.1]
      clear HD
      go_upto_region 5 with (first
        | (go_at_call 16; (with_reducible refine (CA.out.mono ?_)); rintro e y1 ⟨rfl, hb⟩; have A1 := Lib.hid (hb); clear c0 c1 d0 d1; have c0 := (HA.out.on A1.out).c0; have c1 := (HA.out.on A1.out).c1; have d0 := (HC.out.on A1.out).c0; have d1 := (HC.out.on A1.out).c1; clear hb)
        | (go_at_call 17; (with_reducible refine ((CS.out _ A1.out).mono ?_)); rintro e y2 ⟨rfl, hb⟩; have A2 := Lib.hid (below_on A1.out hb); clear c0 c1 d0 d1; have c0 := (HA.out.on A2.out).c0; have c1 := (HA.out.on A2.out).c1; have d0 := (HC.out.on A2.out).c0; have d1 := (HC.out.on A2.out).c1; clear hb)
        | (go_at_call 17; (with_reducible refine ((CT.out _ A2.out).mono ?_)); rintro e y3 ⟨rfl, hb⟩; have A3 := Lib.hid (below_on A2.out hb); clear c0 c1 d0 d1; have c0 := (HA.out.on A3.out).c0; have c1 := (HA.out.on A3.out).c1; have d0 := (HC.out.on A3.out).c0; have d1 := (HC.out.on A3.out).c1; clear hb))
      have LS0 := Lib.hid (And.intro c0 (HA.out.on A3.out).lt)
      have LS1 := Lib.hid (And.intro c1 (HA.out.on A3.out).lt)
      have LT0 := Lib.hid (And.intro d0 (HC.out.on A3.out).lt)
      have LT1 := Lib.hid (And.intro d1 (HC.out.on A3.out).lt)
      clear c0 c1 d0 d1 CS CT CA
      refine wp_region_each (fun L A W => ∃ (v : Nat → Value), A = ⟨#[_, _, _, _, v 4, _, _, _, _, _, _, _, _, _, _, v 15, v 16, v 17, v 18, v 19, v 20, v 21, v 22, v 23, v 24, v 25, v 26, v 27, v 28, v 29, v 30, v 31, v 32, v 33], []⟩ ∧ KlfR s t x2 x3 tv ts y3 L v W) (by kernel_rfl) (by kernel_rfl) ⟨fun jz => if jz = 15 then undef else if jz = 16 then undef else if jz = 17 then undef else if jz = 18 then undef else if jz = 19 then undef else if jz = 20 then undef else if jz = 21 then undef else if jz = 22 then undef else if jz = 23 then undef else if jz = 24 then undef else if jz = 25 then undef else if jz = 26 then undef else if jz = 27 then undef else if jz = 28 then undef else if jz = 29 then undef else if jz = 30 then undef else if jz = 31 then undef else if jz = 32 then undef else if jz = 33 then undef else if jz = 4 then .bool false else undef, rfl, ⟨Below.drew (Below.refl _ _), Had.none, Had.none, Had.none, Had.none, Had.none, Had.none, Had.none, Had.none, Had.none, Had.none, Had.none, Had.none, Had.none, Had.none, Had.none, Had.none, Had.none, Had.none, Had.none, Had.none, Had.none, Had.none, Had.none, Had.none, Had.none, Had.none, Had.none, Had.none, Had.none, Had.none, Had.none, Had.none, Had.none, Had.none, Had.none, Had.none, Had.none, Had.none⟩⟩ (rs := [0, 1, 2, 3, 4, 5, 6, 7, 8, 9, 10, 11, 12, 13, 14, 15, 16, 17, 18, 19]) (by kernel_rfl) ?_ ?_
      · refine EachOf.cons [] rfl (by kernel_rfl) ?_ ?_
        · rintro L A W ⟨v, rfl, hR⟩ hi hw K hK
          have q0 := (hR.st.cell (p := ⟨x2, 0, none⟩) LS0.out.2).trans LS0.out.1
          have q1 := (hR.st.cell (p := ⟨x2, 1, none⟩) LS1.out.2).trans LS1.out.1
          go_simp
          refine hK.out _ _ ?_
          exact ⟨(fun jz => if jz = 15 then .agg #[.slice s.ba s.nb s.bc, .slice s.ra s.nr s.rc] else v jz), rfl, ⟨hR.st, hR.w1.o, hR.w3.o, hR.w4.o, hR.w5.o, hR.w6.o, hR.w7.o, hR.w8.o, hR.w9.o, hR.w10.o, hR.w11.o, hR.w12.o, hR.w13.o, hR.w14.o, hR.w15.o, hR.w16.o, hR.w17.o, hR.w18.o, hR.w19.o, (fun _ => rfl), hR.f1.k, hR.f2.k, hR.f3.k, hR.f4.k, hR.f5.k, hR.f6.k, hR.f7.k, hR.f8.k, hR.f9.k, hR.f10.k, hR.f11.k, hR.f12.k, hR.f13.k, hR.f14.k, hR.f15.k, hR.f16.k, hR.f17.k, hR.f18.k, hR.f19.k⟩⟩
        refine EachOf.cons [0] rfl (by kernel_rfl) ?_ ?_
        · rintro L A W ⟨v, rfl, hR⟩ hi hw K hK
          have e0 := hR.f0 (hw 0 (by simp))
          simp only [e0]
          clear e0
          go_simp
          go_at_call 18
          (with_reducible refine ((Lib.hid (CV.out W (below_on A3.out hR.st))).out).mono ?_)
          rintro e w2 ⟨rfl, hb⟩
          go_simp
          refine hK.out _ _ ?_
          exact ⟨(fun jz => if jz = 15 then .agg #[.slice s.ba s.nb s.bc, .slice s.ra s.nr s.rc] else if jz = 16 then .bool tv else v jz), rfl, ⟨below_on hR.st hb, (fun _ j hj => upd_on (hw j hj)), hR.w3.o, hR.w4.o, hR.w5.o, hR.w6.o, hR.w7.o, hR.w8.o, hR.w9.o, hR.w10.o, hR.w11.o, hR.w12.o, hR.w13.o, hR.w14.o, hR.w15.o, hR.w16.o, hR.w17.o, hR.w18.o, hR.w19.o, (fun _ => rfl), (fun _ => rfl), hR.f2.k, hR.f3.k, hR.f4.k, hR.f5.k, hR.f6.k, hR.f7.k, hR.f8.k, hR.f9.k, hR.f10.k, hR.f11.k, hR.f12.k, hR.f13.k, hR.f14.k, hR.f15.k, hR.f16.k, hR.f17.k, hR.f18.k, hR.f19.k⟩⟩
        refine EachOf.cons [] rfl (by kernel_rfl) ?_ ?_
        · rintro L A W ⟨v, rfl, hR⟩ hi hw K hK
          have q0 := (hR.st.cell (p := ⟨x2, 0, none⟩) LS0.out.2).trans LS0.out.1
          have q1 := (hR.st.cell (p := ⟨x2, 1, none⟩) LS1.out.2).trans LS1.out.1
          go_simp
          refine hK.out _ _ ?_
          exact ⟨(fun jz => if jz = 17 then .agg #[.slice s.ba s.nb s.bc, .slice s.ra s.nr s.rc] else v jz), rfl, ⟨hR.st, hR.w1.o, hR.w3.o, hR.w4.o, hR.w5.o, hR.w6.o, hR.w7.o, hR.w8.o, hR.w9.o, hR.w10.o, hR.w11.o, hR.w12.o, hR.w13.o, hR.w14.o, hR.w15.o, hR.w16.o, hR.w17.o, hR.w18.o, hR.w19.o, hR.f0.k, hR.f1.k, (fun _ => rfl), hR.f3.k, hR.f4.k, hR.f5.k, hR.f6.k, hR.f7.k, hR.f8.k, hR.f9.k, hR.f10.k, hR.f11.k, hR.f12.k, hR.f13.k, hR.f14.k, hR.f15.k, hR.f16.k, hR.f17.k, hR.f18.k, hR.f19.k⟩⟩
        refine EachOf.cons [2] rfl (by kernel_rfl) ?_ ?_
        · rintro L A W ⟨v, rfl, hR⟩ hi hw K hK
          have e2 := hR.f2 (hw 2 (by simp))
          simp only [e2]
          clear e2
          go_simp
          go_at_call 19
          (with_reducible refine ((Lib.hid (DV.out W (below_on A3.out hR.st))).out).mono ?_)
          rintro e w2 ⟨rfl, hb⟩
          go_simp
          refine hK.out _ _ ?_
          exact ⟨(fun jz => if jz = 17 then .agg #[.slice s.ba s.nb s.bc, .slice s.ra s.nr s.rc] else if jz = 18 then .bool tv else v jz), rfl, ⟨below_on hR.st hb, hR.w1.o, (fun _ j hj => upd_on (hw j hj)), hR.w4.o, hR.w5.o, hR.w6.o, hR.w7.o, hR.w8.o, hR.w9.o, hR.w10.o, hR.w11.o, hR.w12.o, hR.w13.o, hR.w14.o, hR.w15.o, hR.w16.o, hR.w17.o, hR.w18.o, hR.w19.o, hR.f0.k, hR.f1.k, (fun _ => rfl), (fun _ => rfl), hR.f4.k, hR.f5.k, hR.f6.k, hR.f7.k, hR.f8.k, hR.f9.k, hR.f10.k, hR.f11.k, hR.f12.k, hR.f13.k, hR.f14.k, hR.f15.k, hR.f16.k, hR.f17.k, hR.f18.k, hR.f19.k⟩⟩
        refine EachOf.cons [1, 3] rfl (by kernel_rfl) ?_ ?_
        · rintro L A W ⟨v, rfl, hR⟩ hi hw K hK
          have e1 := hR.f1 (hw 1 (by simp))
          have e3 := hR.f3 (hw 3 (by simp))
          simp only [e1, e3]
          clear e1 e3
          go_simp
          refine hK.out _ _ ?_
          exact ⟨(fun jz => if jz = 16 then .bool tv else if jz = 18 then .bool tv else if jz = 19 then .bool true else v jz), rfl, ⟨hR.st, hR.w1.o, hR.w3.o, (fun _ j hj => upd_on (hw j hj)), hR.w5.o, hR.w6.o, hR.w7.o, hR.w8.o, hR.w9.o, hR.w10.o, hR.w11.o, hR.w12.o, hR.w13.o, hR.w14.o, hR.w15.o, hR.w16.o, hR.w17.o, hR.w18.o, hR.w19.o, hR.f0.k, (fun _ => rfl), hR.f2.k, (fun _ => rfl), (fun _ => rfl), hR.f5.k, hR.f6.k, hR.f7.k, hR.f8.k, hR.f9.k, hR.f10.k, hR.f11.k, hR.f12.k, hR.f13.k, hR.f14.k, hR.f15.k, hR.f16.k, hR.f17.k, hR.f18.k, hR.f19.k⟩⟩
        refine EachOf.cons [4] rfl (by kernel_rfl) ?_ ?_
        · rintro L A W ⟨v, rfl, hR⟩ hi hw K hK
          have e4 := hR.f4 (hw 4 (by simp))
          simp only [e4]
          clear e4
          go_simp
          refine hK.out _ _ ?_
          exact ⟨(fun jz => if jz = 19 then .bool true else if jz = 20 then .bool true else v jz), rfl, ⟨hR.st, hR.w1.o, hR.w3.o, hR.w4.o, (fun _ j hj => upd_on (hw j hj)), hR.w6.o, hR.w7.o, hR.w8.o, hR.w9.o, hR.w10.o, hR.w11.o, hR.w12.o, hR.w13.o, hR.w14.o, hR.w15.o, hR.w16.o, hR.w17.o, hR.w18.o, hR.w19.o, hR.f0.k, hR.f1.k, hR.f2.k, hR.f3.k, (fun _ => rfl), (fun _ => rfl), hR.f6.k, hR.f7.k, hR.f8.k, hR.f9.k, hR.f10.k, hR.f11.k, hR.f12.k, hR.f13.k, hR.f14.k, hR.f15.k, hR.f16.k, hR.f17.k, hR.f18.k, hR.f19.k⟩⟩
        refine EachOf.cons [5] rfl (by kernel_rfl) ?_ ?_
        · rintro L A W ⟨v, rfl, hR⟩ hi hw K hK
          have e5 := hR.f5 (hw 5 (by simp))
          simp only [e5]
          clear e5
          have q0 := (hR.st.cell (p := ⟨x2, 0, none⟩) LS0.out.2).trans LS0.out.1
          have q1 := (hR.st.cell (p := ⟨x2, 1, none⟩) LS1.out.2).trans LS1.out.1
          go_simp
          refine hK.out _ _ ?_
          exact ⟨(fun jz => if jz = 20 then .bool true else if jz = 21 then .agg #[.slice s.ba s.nb s.bc, .slice s.ra s.nr s.rc] else v jz), rfl, ⟨hR.st, hR.w1.o, hR.w3.o, hR.w4.o, hR.w5.o, (fun _ j hj => upd_on (hw j hj)), hR.w7.o, hR.w8.o, hR.w9.o, hR.w10.o, hR.w11.o, hR.w12.o, hR.w13.o, hR.w14.o, hR.w15.o, hR.w16.o, hR.w17.o, hR.w18.o, hR.w19.o, hR.f0.k, hR.f1.k, hR.f2.k, hR.f3.k, hR.f4.k, (fun _ => rfl), (fun _ => rfl), hR.f7.k, hR.f8.k, hR.f9.k, hR.f10.k, hR.f11.k, hR.f12.k, hR.f13.k, hR.f14.k, hR.f15.k, hR.f16.k, hR.f17.k, hR.f18.k, hR.f19.k⟩⟩
        refine EachOf.cons [5] rfl (by kernel_rfl) ?_ ?_
        · rintro L A W ⟨v, rfl, hR⟩ hi hw K hK
          have e5 := hR.f5 (hw 5 (by simp))
          simp only [e5]
          clear e5
          have q0 := (hR.st.cell (p := ⟨x3, 0, none⟩) LT0.out.2).trans LT0.out.1
          have q1 := (hR.st.cell (p := ⟨x3, 1, none⟩) LT1.out.2).trans LT1.out.1
          go_simp
          refine hK.out _ _ ?_
          exact ⟨(fun jz => if jz = 20 then .bool true else if jz = 22 then .agg #[.slice t.ba t.nb t.bc, .slice t.ra t.nr t.rc] else v jz), rfl, ⟨hR.st, hR.w1.o, hR.w3.o, hR.w4.o, hR.w5.o, hR.w6.o, (fun _ j hj => upd_on (hw j hj)), hR.w8.o, hR.w9.o, hR.w10.o, hR.w11.o, hR.w12.o, hR.w13.o, hR.w14.o, hR.w15.o, hR.w16.o, hR.w17.o, hR.w18.o, hR.w19.o, hR.f0.k, hR.f1.k, hR.f2.k, hR.f3.k, hR.f4.k, (fun _ => rfl), hR.f6.k, (fun _ => rfl), hR.f8.k, hR.f9.k, hR.f10.k, hR.f11.k, hR.f12.k, hR.f13.k, hR.f14.k, hR.f15.k, hR.f16.k, hR.f17.k, hR.f18.k, hR.f19.k⟩⟩
        refine EachOf.cons [5, 6, 7] rfl (by kernel_rfl) ?_ ?_
        · rintro L A W ⟨v, rfl, hR⟩ hi hw K hK
          have e6 := hR.f6 (hw 6 (by simp))
          have e7 := hR.f7 (hw 7 (by simp))
          have e5 := hR.f5 (hw 5 (by simp))
          simp only [e6, e7, e5]
          clear e6 e7 e5
          go_simp
          go_at_call 20
          (with_reducible refine ((Lib.hid (CQ.out W (below_on A3.out hR.st))).out).mono ?_)
          rintro e w2 ⟨rfl, hb⟩
          go_simp
          refine hK.out _ _ ?_
          exact ⟨(fun jz => if jz = 21 then .agg #[.slice s.ba s.nb s.bc, .slice s.ra s.nr s.rc] else if jz = 22 then .agg #[.slice t.ba t.nb t.bc, .slice t.ra t.nr t.rc] else if jz = 20 then .bool true else if jz = 23 then .bool ts else v jz), rfl, ⟨below_on hR.st hb, hR.w1.o, hR.w3.o, hR.w4.o, hR.w5.o, hR.w6.o, hR.w7.o, (fun _ j hj => upd_on (hw j hj)), hR.w9.o, hR.w10.o, hR.w11.o, hR.w12.o, hR.w13.o, hR.w14.o, hR.w15.o, hR.w16.o, hR.w17.o, hR.w18.o, hR.w19.o, hR.f0.k, hR.f1.k, hR.f2.k, hR.f3.k, hR.f4.k, (fun _ => rfl), (fun _ => rfl), (fun _ => rfl), (fun _ => rfl), hR.f9.k, hR.f10.k, hR.f11.k, hR.f12.k, hR.f13.k, hR.f14.k, hR.f15.k, hR.f16.k, hR.f17.k, hR.f18.k, hR.f19.k⟩⟩
        refine EachOf.cons [5] rfl (by kernel_rfl) ?_ ?_
        · rintro L A W ⟨v, rfl, hR⟩ hi hw K hK
          have e5 := hR.f5 (hw 5 (by simp))
          simp only [e5]
          clear e5
          have q0 := (hR.st.cell (p := ⟨x2, 0, none⟩) LS0.out.2).trans LS0.out.1
          have q1 := (hR.st.cell (p := ⟨x2, 1, none⟩) LS1.out.2).trans LS1.out.1
          go_simp
          refine hK.out _ _ ?_
          exact ⟨(fun jz => if jz = 20 then .bool true else if jz = 24 then .agg #[.slice s.ba s.nb s.bc, .slice s.ra s.nr s.rc] else v jz), rfl, ⟨hR.st, hR.w1.o, hR.w3.o, hR.w4.o, hR.w5.o, hR.w6.o, hR.w7.o, hR.w8.o, (fun _ j hj => upd_on (hw j hj)), hR.w10.o, hR.w11.o, hR.w12.o, hR.w13.o, hR.w14.o, hR.w15.o, hR.w16.o, hR.w17.o, hR.w18.o, hR.w19.o, hR.f0.k, hR.f1.k, hR.f2.k, hR.f3.k, hR.f4.k, (fun _ => rfl), hR.f6.k, hR.f7.k, hR.f8.k, (fun _ => rfl), hR.f10.k, hR.f11.k, hR.f12.k, hR.f13.k, hR.f14.k, hR.f15.k, hR.f16.k, hR.f17.k, hR.f18.k, hR.f19.k⟩⟩
        refine EachOf.cons [5] rfl (by kernel_rfl) ?_ ?_
        · rintro L A W ⟨v, rfl, hR⟩ hi hw K hK
          have e5 := hR.f5 (hw 5 (by simp))
          simp only [e5]
          clear e5
          have q0 := (hR.st.cell (p := ⟨x3, 0, none⟩) LT0.out.2).trans LT0.out.1
          have q1 := (hR.st.cell (p := ⟨x3, 1, none⟩) LT1.out.2).trans LT1.out.1
          go_simp
          refine hK.out _ _ ?_
          exact ⟨(fun jz => if jz = 20 then .bool true else if jz = 25 then .agg #[.slice t.ba t.nb t.bc, .slice t.ra t.nr t.rc] else v jz), rfl, ⟨hR.st, hR.w1.o, hR.w3.o, hR.w4.o, hR.w5.o, hR.w6.o, hR.w7.o, hR.w8.o, hR.w9.o, (fun _ j hj => upd_on (hw j hj)), hR.w11.o, hR.w12.o, hR.w13.o, hR.w14.o, hR.w15.o, hR.w16.o, hR.w17.o, hR.w18.o, hR.w19.o, hR.f0.k, hR.f1.k, hR.f2.k, hR.f3.k, hR.f4.k, (fun _ => rfl), hR.f6.k, hR.f7.k, hR.f8.k, hR.f9.k, (fun _ => rfl), hR.f11.k, hR.f12.k, hR.f13.k, hR.f14.k, hR.f15.k, hR.f16.k, hR.f17.k, hR.f18.k, hR.f19.k⟩⟩
        refine EachOf.cons [5, 9, 10] rfl (by kernel_rfl) ?_ ?_
        · rintro L A W ⟨v, rfl, hR⟩ hi hw K hK
          have e9 := hR.f9 (hw 9 (by simp))
          have e10 := hR.f10 (hw 10 (by simp))
          have e5 := hR.f5 (hw 5 (by simp))
          simp only [e9, e10, e5]
          clear e9 e10 e5
          go_simp
          go_at_call 21
          (with_reducible refine ((Lib.hid (DQ.out W (below_on A3.out hR.st))).out).mono ?_)
          rintro e w2 ⟨rfl, hb⟩
          go_simp
          refine hK.out _ _ ?_
          exact ⟨(fun jz => if jz = 24 then .agg #[.slice s.ba s.nb s.bc, .slice s.ra s.nr s.rc] else if jz = 25 then .agg #[.slice t.ba t.nb t.bc, .slice t.ra t.nr t.rc] else if jz = 20 then .bool true else if jz = 26 then .bool ts else v jz), rfl, ⟨below_on hR.st hb, hR.w1.o, hR.w3.o, hR.w4.o, hR.w5.o, hR.w6.o, hR.w7.o, hR.w8.o, hR.w9.o, hR.w10.o, (fun _ j hj => upd_on (hw j hj)), hR.w12.o, hR.w13.o, hR.w14.o, hR.w15.o, hR.w16.o, hR.w17.o, hR.w18.o, hR.w19.o, hR.f0.k, hR.f1.k, hR.f2.k, hR.f3.k, hR.f4.k, (fun _ => rfl), hR.f6.k, hR.f7.k, hR.f8.k, (fun _ => rfl), (fun _ => rfl), (fun _ => rfl), hR.f12.k, hR.f13.k, hR.f14.k, hR.f15.k, hR.f16.k, hR.f17.k, hR.f18.k, hR.f19.k⟩⟩
        refine EachOf.cons [5, 8, 11] rfl (by kernel_rfl) ?_ ?_
        · rintro L A W ⟨v, rfl, hR⟩ hi hw K hK
          have e8 := hR.f8 (hw 8 (by simp))
          have e11 := hR.f11 (hw 11 (by simp))
          have e5 := hR.f5 (hw 5 (by simp))
          simp only [e8, e11, e5]
          clear e8 e11 e5
          go_simp
          refine hK.out _ _ ?_
          exact ⟨(fun jz => if jz = 23 then .bool ts else if jz = 26 then .bool ts else if jz = 20 then .bool true else if jz = 27 then .bool true else v jz), rfl, ⟨hR.st, hR.w1.o, hR.w3.o, hR.w4.o, hR.w5.o, hR.w6.o, hR.w7.o, hR.w8.o, hR.w9.o, hR.w10.o, hR.w11.o, (fun _ j hj => upd_on (hw j hj)), hR.w13.o, hR.w14.o, hR.w15.o, hR.w16.o, hR.w17.o, hR.w18.o, hR.w19.o, hR.f0.k, hR.f1.k, hR.f2.k, hR.f3.k, hR.f4.k, (fun _ => rfl), hR.f6.k, hR.f7.k, (fun _ => rfl), hR.f9.k, hR.f10.k, (fun _ => rfl), (fun _ => rfl), hR.f13.k, hR.f14.k, hR.f15.k, hR.f16.k, hR.f17.k, hR.f18.k, hR.f19.k⟩⟩
        refine EachOf.cons [5, 12] rfl (by kernel_rfl) ?_ ?_
        · rintro L A W ⟨v, rfl, hR⟩ hi hw K hK
          have e5 := hR.f5 (hw 5 (by simp))
          have e12 := hR.f12 (hw 12 (by simp))
          simp only [e5, e12]
          clear e5 e12
          go_simp
          refine hK.out _ _ ?_
          exact ⟨(fun jz => if jz = 20 then .bool true else if jz = 27 then .bool true else if jz = 28 then .bool true else v jz), rfl, ⟨hR.st, hR.w1.o, hR.w3.o, hR.w4.o, hR.w5.o, hR.w6.o, hR.w7.o, hR.w8.o, hR.w9.o, hR.w10.o, hR.w11.o, hR.w12.o, (fun _ j hj => upd_on (hw j hj)), hR.w14.o, hR.w15.o, hR.w16.o, hR.w17.o, hR.w18.o, hR.w19.o, hR.f0.k, hR.f1.k, hR.f2.k, hR.f3.k, hR.f4.k, (fun _ => rfl), hR.f6.k, hR.f7.k, hR.f8.k, hR.f9.k, hR.f10.k, hR.f11.k, (fun _ => rfl), (fun _ => rfl), hR.f14.k, hR.f15.k, hR.f16.k, hR.f17.k, hR.f18.k, hR.f19.k⟩⟩
        refine EachOf.cons [13] rfl (by kernel_rfl) ?_ ?_
        · rintro L A W ⟨v, rfl, hR⟩ hi hw K hK
          have e13 := hR.f13 (hw 13 (by simp))
          simp only [e13]
          clear e13
          go_simp
          refine hK.out _ _ ?_
          exact ⟨(fun jz => if jz = 28 then .bool true else if jz = 29 then .bool true else v jz), rfl, ⟨hR.st, hR.w1.o, hR.w3.o, hR.w4.o, hR.w5.o, hR.w6.o, hR.w7.o, hR.w8.o, hR.w9.o, hR.w10.o, hR.w11.o, hR.w12.o, hR.w13.o, (fun _ j hj => upd_on (hw j hj)), hR.w15.o, hR.w16.o, hR.w17.o, hR.w18.o, hR.w19.o, hR.f0.k, hR.f1.k, hR.f2.k, hR.f3.k, hR.f4.k, hR.f5.k, hR.f6.k, hR.f7.k, hR.f8.k, hR.f9.k, hR.f10.k, hR.f11.k, hR.f12.k, (fun _ => rfl), (fun _ => rfl), hR.f15.k, hR.f16.k, hR.f17.k, hR.f18.k, hR.f19.k⟩⟩
        refine EachOf.cons [14] rfl (by kernel_rfl) ?_ ?_
        · rintro L A W ⟨v, rfl, hR⟩ hi hw K hK
          have e14 := hR.f14 (hw 14 (by simp))
          simp only [e14]
          clear e14
          have q0 := (hR.st.cell (p := ⟨x2, 0, none⟩) LS0.out.2).trans LS0.out.1
          have q1 := (hR.st.cell (p := ⟨x2, 1, none⟩) LS1.out.2).trans LS1.out.1
          go_simp
          refine hK.out _ _ ?_
          exact ⟨(fun jz => if jz = 29 then .bool true else if jz = 30 then .agg #[.slice s.ba s.nb s.bc, .slice s.ra s.nr s.rc] else v jz), rfl, ⟨hR.st, hR.w1.o, hR.w3.o, hR.w4.o, hR.w5.o, hR.w6.o, hR.w7.o, hR.w8.o, hR.w9.o, hR.w10.o, hR.w11.o, hR.w12.o, hR.w13.o, hR.w14.o, (fun _ j hj => upd_on (hw j hj)), hR.w16.o, hR.w17.o, hR.w18.o, hR.w19.o, hR.f0.k, hR.f1.k, hR.f2.k, hR.f3.k, hR.f4.k, hR.f5.k, hR.f6.k, hR.f7.k, hR.f8.k, hR.f9.k, hR.f10.k, hR.f11.k, hR.f12.k, hR.f13.k, (fun _ => rfl), (fun _ => rfl), hR.f16.k, hR.f17.k, hR.f18.k, hR.f19.k⟩⟩
        refine EachOf.cons [14] rfl (by kernel_rfl) ?_ ?_
        · rintro L A W ⟨v, rfl, hR⟩ hi hw K hK
          have e14 := hR.f14 (hw 14 (by simp))
          simp only [e14]
          clear e14
          have q0 := (hR.st.cell (p := ⟨x2, 0, none⟩) LS0.out.2).trans LS0.out.1
          have q1 := (hR.st.cell (p := ⟨x2, 1, none⟩) LS1.out.2).trans LS1.out.1
          go_simp
          refine hK.out _ _ ?_
          exact ⟨(fun jz => if jz = 29 then .bool true else if jz = 31 then .agg #[.slice s.ba s.nb s.bc, .slice s.ra s.nr s.rc] else v jz), rfl, ⟨hR.st, hR.w1.o, hR.w3.o, hR.w4.o, hR.w5.o, hR.w6.o, hR.w7.o, hR.w8.o, hR.w9.o, hR.w10.o, hR.w11.o, hR.w12.o, hR.w13.o, hR.w14.o, hR.w15.o, (fun _ j hj => upd_on (hw j hj)), hR.w17.o, hR.w18.o, hR.w19.o, hR.f0.k, hR.f1.k, hR.f2.k, hR.f3.k, hR.f4.k, hR.f5.k, hR.f6.k, hR.f7.k, hR.f8.k, hR.f9.k, hR.f10.k, hR.f11.k, hR.f12.k, hR.f13.k, (fun _ => rfl), hR.f15.k, (fun _ => rfl), hR.f17.k, hR.f18.k, hR.f19.k⟩⟩
        refine EachOf.cons [14, 15, 16] rfl (by kernel_rfl) ?_ ?_
        · rintro L A W ⟨v, rfl, hR⟩ hi hw K hK
          have e15 := hR.f15 (hw 15 (by simp))
          have e16 := hR.f16 (hw 16 (by simp))
          have e14 := hR.f14 (hw 14 (by simp))
          simp only [e15, e16, e14]
          clear e15 e16 e14
          go_simp
          go_at_call 20
          (with_reducible refine ((Lib.hid (CI.out W (below_on A3.out hR.st))).out).mono ?_)
          rintro e w2 ⟨rfl, hb⟩
          go_simp
          refine hK.out _ _ ?_
          exact ⟨(fun jz => if jz = 30 then .agg #[.slice s.ba s.nb s.bc, .slice s.ra s.nr s.rc] else if jz = 31 then .agg #[.slice s.ba s.nb s.bc, .slice s.ra s.nr s.rc] else if jz = 29 then .bool true else if jz = 32 then .bool true else v jz), rfl, ⟨below_on hR.st hb, hR.w1.o, hR.w3.o, hR.w4.o, hR.w5.o, hR.w6.o, hR.w7.o, hR.w8.o, hR.w9.o, hR.w10.o, hR.w11.o, hR.w12.o, hR.w13.o, hR.w14.o, hR.w15.o, hR.w16.o, (fun _ j hj => upd_on (hw j hj)), hR.w18.o, hR.w19.o, hR.f0.k, hR.f1.k, hR.f2.k, hR.f3.k, hR.f4.k, hR.f5.k, hR.f6.k, hR.f7.k, hR.f8.k, hR.f9.k, hR.f10.k, hR.f11.k, hR.f12.k, hR.f13.k, (fun _ => rfl), (fun _ => rfl), (fun _ => rfl), (fun _ => rfl), hR.f18.k, hR.f19.k⟩⟩
        refine EachOf.cons [14, 17] rfl (by kernel_rfl) ?_ ?_
        · rintro L A W ⟨v, rfl, hR⟩ hi hw K hK
          have e14 := hR.f14 (hw 14 (by simp))
          have e17 := hR.f17 (hw 17 (by simp))
          simp only [e14, e17]
          clear e14 e17
          go_simp
          refine hK.out _ _ ?_
          exact ⟨(fun jz => if jz = 29 then .bool true else if jz = 32 then .bool true else if jz = 33 then .bool true else v jz), rfl, ⟨hR.st, hR.w1.o, hR.w3.o, hR.w4.o, hR.w5.o, hR.w6.o, hR.w7.o, hR.w8.o, hR.w9.o, hR.w10.o, hR.w11.o, hR.w12.o, hR.w13.o, hR.w14.o, hR.w15.o, hR.w16.o, hR.w17.o, (fun _ j hj => upd_on (hw j hj)), hR.w19.o, hR.f0.k, hR.f1.k, hR.f2.k, hR.f3.k, hR.f4.k, hR.f5.k, hR.f6.k, hR.f7.k, hR.f8.k, hR.f9.k, hR.f10.k, hR.f11.k, hR.f12.k, hR.f13.k, (fun _ => rfl), hR.f15.k, hR.f16.k, (fun _ => rfl), (fun _ => rfl), hR.f19.k⟩⟩
        refine EachOf.cons [18] rfl (by kernel_rfl) ?_ ?_
        · rintro L A W ⟨v, rfl, hR⟩ hi hw K hK
          have e18 := hR.f18 (hw 18 (by simp))
          simp only [e18]
          clear e18
          go_simp
          refine hK.out _ _ ?_
          exact ⟨(fun jz => if jz = 33 then .bool true else if jz = 4 then .bool true else v jz), rfl, ⟨hR.st, hR.w1.o, hR.w3.o, hR.w4.o, hR.w5.o, hR.w6.o, hR.w7.o, hR.w8.o, hR.w9.o, hR.w10.o, hR.w11.o, hR.w12.o, hR.w13.o, hR.w14.o, hR.w15.o, hR.w16.o, hR.w17.o, hR.w18.o, (fun _ j hj => upd_on (hw j hj)), hR.f0.k, hR.f1.k, hR.f2.k, hR.f3.k, hR.f4.k, hR.f5.k, hR.f6.k, hR.f7.k, hR.f8.k, hR.f9.k, hR.f10.k, hR.f11.k, hR.f12.k, hR.f13.k, hR.f14.k, hR.f15.k, hR.f16.k, hR.f17.k, (fun _ => rfl), (fun _ => rfl)⟩⟩
        exact EachOf.nil
      rintro L A W3 ⟨vs, rfl, hR⟩ hL
      have e19 := hR.f19 (hL 19 (by simp))
      simp only [e19]
      have S3 := Lib.hid (below_on HB.out (below_on A3.out hR.st))
      clear e19 hR hL LS0 LS1 LT0 LT1 CV DV CQ DQ CI
      go_wp2_with fail
      go_ret
      exact ⟨rfl, S3.out⟩
end Go.Proofs.YtcghjjfpjiacfaaDoor
