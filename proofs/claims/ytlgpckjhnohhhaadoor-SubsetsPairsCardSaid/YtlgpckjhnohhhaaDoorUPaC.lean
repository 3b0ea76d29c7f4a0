/- Layer 7, SubsetsPairs: the closures, no number is nearer. -/
import Derived.Test.YtlgpckjhnohhhaaDoorUPaM
namespace Go.Proofs.YtlgpckjhnohhhaaDoor
open Go.ChangeShapes Go.WideShapes Go.ChangeAt Go.RowKit Go.Joins Go.Deep Go.Shelf
set_option linter.unusedVariables false

theorem far1_any (sb : Nat) (s a : Int) (w : World) (hs : w.cell? ⟨sb, 0, none⟩ = some (.int .i64 s)) (a0 : -2305843009213693952 ≤ a) (a1 : a ≤ 2305843009213693952) (s0 : -2305843009213693952 ≤ s) (s1 : s ≤ 2305843009213693952) :
    Calls Tryd.prog 34 #[.int .i64 a, .pointer (some ⟨sb, 0, none⟩)] w fun e w' => e = .returned (.int .i64 (dis a s)) ∧ w = w' := by
  have k1 : IntKind.i64.wrap (a - s) = a - s := IntWalk.i64_in _ (by omega)
  have k2 : IntKind.i64.wrap (s - a) = s - a := IntWalk.i64_in _ (by omega)
  clear a0 a1 s0 s1
  go_enter Tryd.func34, Tryd.ntmps34
  go_wp2_with fail
  go_ret
  exact ⟨rfl, rfl⟩
structure PacR (fb xb sb : Nat) (k x d1 d2 : Int) (bl : Bool) (Wc : World) (L : Nat → Bool) (v : Nat → Value) (W : World) : Prop where
  st : Below Wc.heap.size Wc W
  w2 : Had L 2 (∀ j ∈ [0, 1], L j = true)
  w5 : Had L 5 (∀ j ∈ [3, 4], L j = true)
  w6 : Had L 6 (∀ j ∈ [2, 5], L j = true)
  w7 : Had L 7 (∀ j ∈ [6], L j = true)
  w8 : Had L 8 (∀ j ∈ [7], L j = true)
  w9 : Had L 9 (∀ j ∈ [7], L j = true)
  w10 : Had L 10 (∀ j ∈ [7, 8, 9], L j = true)
  w11 : Had L 11 (∀ j ∈ [7], L j = true)
  w12 : Had L 12 (∀ j ∈ [7], L j = true)
  w13 : Had L 13 (∀ j ∈ [7, 11, 12], L j = true)
  w14 : Had L 14 (∀ j ∈ [7, 10, 13], L j = true)
  w15 : Had L 15 (∀ j ∈ [7, 14], L j = true)
  w16 : Had L 16 (∀ j ∈ [15], L j = true)
  w17 : Had L 17 (∀ j ∈ [15], L j = true)
  w18 : Had L 18 (∀ j ∈ [15, 16, 17], L j = true)
  w19 : Had L 19 (∀ j ∈ [7, 15, 18], L j = true)
  w20 : Had L 20 (∀ j ∈ [7, 19], L j = true)
  w21 : Had L 21 (∀ j ∈ [20], L j = true)
  f0 : Had L 0 (v 5 = (.func (.func 34) #[] #[.pointer (some ⟨sb, 0, none⟩)]))
  f1 : Had L 1 (v 6 = .int .i64 k)
  f2 : Had L 2 (v 7 = (.int .i64 d1))
  f3 : Had L 3 (v 8 = (.func (.func 34) #[] #[.pointer (some ⟨sb, 0, none⟩)]))
  f4 : Had L 4 (v 9 = .int .i64 x)
  f5 : Had L 5 (v 10 = (.int .i64 d2))
  f6 : Had L 6 (v 11 = .bool false)
  f7 : Had L 7 (v 12 = .bool false)
  f8 : Had L 8 (v 13 = (.func (.func 34) #[] #[.pointer (some ⟨sb, 0, none⟩)]))
  f9 : Had L 9 (v 14 = .int .i64 k)
  f10 : Had L 10 (v 15 = (.int .i64 d1))
  f11 : Had L 11 (v 16 = (.func (.func 34) #[] #[.pointer (some ⟨sb, 0, none⟩)]))
  f12 : Had L 12 (v 17 = .int .i64 x)
  f13 : Had L 13 (v 18 = (.int .i64 d2))
  f14 : Had L 14 (v 19 = .bool true)
  f15 : Had L 15 (v 20 = .bool true)
  f16 : Had L 16 (v 21 = .int .i64 k)
  f17 : Had L 17 (v 22 = .int .i64 x)
  f18 : Had L 18 (v 23 = .bool false)
  f19 : Had L 19 (v 24 = .bool false)
  f20 : Had L 20 (v 25 = .bool false)
  f21 : Had L 21 (v 4 = .bool false)
structure PadR (fb xb sb : Nat) (k x d1 d2 : Int) (bl : Bool) (Wc : World) (L : Nat → Bool) (v : Nat → Value) (W : World) : Prop where
  st : Below Wc.heap.size Wc W
  w2 : Had L 2 (∀ j ∈ [0, 1], L j = true)
  w5 : Had L 5 (∀ j ∈ [3, 4], L j = true)
  w6 : Had L 6 (∀ j ∈ [2, 5], L j = true)
  w7 : Had L 7 (∀ j ∈ [6], L j = true)
  w8 : Had L 8 (∀ j ∈ [7], L j = true)
  w9 : Had L 9 (∀ j ∈ [7], L j = true)
  w10 : Had L 10 (∀ j ∈ [7, 8, 9], L j = true)
  w11 : Had L 11 (∀ j ∈ [7], L j = true)
  w12 : Had L 12 (∀ j ∈ [7], L j = true)
  w13 : Had L 13 (∀ j ∈ [7, 11, 12], L j = true)
  w14 : Had L 14 (∀ j ∈ [7, 10, 13], L j = true)
  w15 : Had L 15 (∀ j ∈ [7, 14], L j = true)
  w16 : Had L 16 (∀ j ∈ [15], L j = true)
  w17 : Had L 17 (∀ j ∈ [15], L j = true)
  w18 : Had L 18 (∀ j ∈ [15, 16, 17], L j = true)
  w19 : Had L 19 (∀ j ∈ [7, 15, 18], L j = true)
  w20 : Had L 20 (∀ j ∈ [7, 19], L j = true)
  w21 : Had L 21 (∀ j ∈ [20], L j = true)
  f0 : Had L 0 (v 5 = (.func (.func 34) #[] #[.pointer (some ⟨sb, 0, none⟩)]))
  f1 : Had L 1 (v 6 = .int .i64 k)
  f2 : Had L 2 (v 7 = (.int .i64 d1))
  f3 : Had L 3 (v 8 = (.func (.func 34) #[] #[.pointer (some ⟨sb, 0, none⟩)]))
  f4 : Had L 4 (v 9 = .int .i64 x)
  f5 : Had L 5 (v 10 = (.int .i64 d2))
  f6 : Had L 6 (v 11 = .bool false)
  f7 : Had L 7 (v 12 = .bool false)
  f8 : Had L 8 (v 13 = (.func (.func 34) #[] #[.pointer (some ⟨sb, 0, none⟩)]))
  f9 : Had L 9 (v 14 = .int .i64 k)
  f10 : Had L 10 (v 15 = (.int .i64 d1))
  f11 : Had L 11 (v 16 = (.func (.func 34) #[] #[.pointer (some ⟨sb, 0, none⟩)]))
  f12 : Had L 12 (v 17 = .int .i64 x)
  f13 : Had L 13 (v 18 = (.int .i64 d2))
  f14 : Had L 14 (v 19 = .bool false)
  f15 : Had L 15 (v 20 = .bool false)
  f16 : Had L 16 (v 21 = undef)
  f17 : Had L 17 (v 22 = undef)
  f18 : Had L 18 (v 23 = undef)
  f19 : Had L 19 (v 24 = .bool false)
  f20 : Had L 20 (v 25 = .bool false)
  f21 : Had L 21 (v 4 = .bool false)
set_option maxRecDepth 100000 in
set_option maxHeartbeats 16000000 in
/-- No number of the list is nearer. -/
theorem near2_any (fb xb sb : Nat) (s x k : Int) (w : World) (hs : Hid (w.cell? ⟨sb, 0, none⟩ = some (.int .i64 s) ∧ sb < w.heap.size)) (hx : Hid (w.cell? ⟨xb, 0, none⟩ = some (.int .i64 x) ∧ xb < w.heap.size)) (hf : Hid (w.cell? ⟨fb, 0, none⟩ = some (.func (.func 34) #[] #[.pointer (some ⟨sb, 0, none⟩)]) ∧ fb < w.heap.size))
    (s0 : -2305843009213693952 ≤ s ∧ s ≤ 2305843009213693952) (x0 : -2305843009213693952 ≤ x ∧ x ≤ 2305843009213693952) (k0 : -2305843009213693952 ≤ k ∧ k ≤ 2305843009213693952) (hk : dis x s < dis k s ∨ dis x s = dis k s ∧ x ≤ k) :
    Calls Tryd.prog 36 #[.int .i64 k, .pointer (some ⟨fb, 0, none⟩), .pointer (some ⟨xb, 0, none⟩)] w fun e w' => e = .returned (.bool false) ∧ Below w.heap.size w w' := by
  have CK := Lib.hid (fun (W : World) (h : Below w.heap.size w W) => far1_any sb s k W ((h.cell (p := ⟨sb, 0, none⟩) hs.out.2).trans hs.out.1) k0.1 k0.2 s0.1 s0.2)
  have CX := Lib.hid (fun (W : World) (h : Below w.heap.size w W) => far1_any sb s x W ((h.cell (p := ⟨sb, 0, none⟩) hs.out.2).trans hs.out.1) x0.1 x0.2 s0.1 s0.2)
  have H1 := Lib.hid s0
  have H2 := Lib.hid x0
  have H3 := Lib.hid k0
  generalize dis k s = d1 at *
  generalize dis x s = d2 at *
  clear s0 x0 k0
  by_cases he : d1 = d2
  · have q0 : decide (d1 < d2) = false := decide_eq_false (by omega)
    have q1 : (d1 == d2) = true := by simp [he]
    have q2 : decide (k < x) = false := decide_eq_false (by omega)
    clear hk he
    go_enter Tryd.func36, Tryd.ntmps36
    go_upto_region 1 with fail
    refine wp_region_each (fun L A W => ∃ (v : Nat → Value), A = ⟨#[_, _, _, _, v 4, v 5, v 6, v 7, v 8, v 9, v 10, v 11, v 12, v 13, v 14, v 15, v 16, v 17, v 18, v 19, v 20, v 21, v 22, v 23, v 24, v 25], []⟩ ∧ PacR fb xb sb k x d1 d2 true w L v W) (by kernel_rfl) (by kernel_rfl) ⟨fun jz => if jz = 5 then undef else if jz = 6 then undef else if jz = 7 then undef else if jz = 8 then undef else if jz = 9 then undef else if jz = 10 then undef else if jz = 11 then undef else if jz = 12 then undef else if jz = 13 then undef else if jz = 14 then undef else if jz = 15 then undef else if jz = 16 then undef else if jz = 17 then undef else if jz = 18 then undef else if jz = 19 then undef else if jz = 20 then undef else if jz = 21 then undef else if jz = 22 then undef else if jz = 23 then undef else if jz = 24 then undef else if jz = 25 then undef else if jz = 4 then .bool false else undef, rfl, ⟨Below.drew (Below.refl _ _), Had.none, Had.none, Had.none, Had.none, Had.none, Had.none, Had.none, Had.none, Had.none, Had.none, Had.none, Had.none, Had.none, Had.none, Had.none, Had.none, Had.none, Had.none, Had.none, Had.none, Had.none, Had.none, Had.none, Had.none, Had.none, Had.none, Had.none, Had.none, Had.none, Had.none, Had.none, Had.none, Had.none, Had.none, Had.none, Had.none, Had.none, Had.none, Had.none, Had.none⟩⟩ (rs := [0, 1, 2, 3, 4, 5, 6, 7, 8, 9, 10, 11, 12, 13, 14, 15, 16, 17, 18, 19, 20, 21]) (by kernel_rfl) ?_ ?_
    · refine EachOf.cons [] rfl (by kernel_rfl) ?_ ?_
      · rintro L A W ⟨v, rfl, hR⟩ hi hw K hK
        have q0 := (hR.st.cell (p := ⟨fb, 0, none⟩) hf.out.2).trans hf.out.1
        go_simp
        refine hK.out _ _ ?_
        exact ⟨(fun jz => if jz = 5 then (.func (.func 34) #[] #[.pointer (some ⟨sb, 0, none⟩)]) else v jz), rfl, ⟨hR.st, hR.w2.o, hR.w5.o, hR.w6.o, hR.w7.o, hR.w8.o, hR.w9.o, hR.w10.o, hR.w11.o, hR.w12.o, hR.w13.o, hR.w14.o, hR.w15.o, hR.w16.o, hR.w17.o, hR.w18.o, hR.w19.o, hR.w20.o, hR.w21.o, (fun _ => rfl), hR.f1.k, hR.f2.k, hR.f3.k, hR.f4.k, hR.f5.k, hR.f6.k, hR.f7.k, hR.f8.k, hR.f9.k, hR.f10.k, hR.f11.k, hR.f12.k, hR.f13.k, hR.f14.k, hR.f15.k, hR.f16.k, hR.f17.k, hR.f18.k, hR.f19.k, hR.f20.k, hR.f21.k⟩⟩
      refine EachOf.cons [] rfl (by kernel_rfl) ?_ ?_
      · rintro L A W ⟨v, rfl, hR⟩ hi hw K hK
        go_simp
        refine hK.out _ _ ?_
        exact ⟨(fun jz => if jz = 6 then .int .i64 k else v jz), rfl, ⟨hR.st, hR.w2.o, hR.w5.o, hR.w6.o, hR.w7.o, hR.w8.o, hR.w9.o, hR.w10.o, hR.w11.o, hR.w12.o, hR.w13.o, hR.w14.o, hR.w15.o, hR.w16.o, hR.w17.o, hR.w18.o, hR.w19.o, hR.w20.o, hR.w21.o, hR.f0.k, (fun _ => rfl), hR.f2.k, hR.f3.k, hR.f4.k, hR.f5.k, hR.f6.k, hR.f7.k, hR.f8.k, hR.f9.k, hR.f10.k, hR.f11.k, hR.f12.k, hR.f13.k, hR.f14.k, hR.f15.k, hR.f16.k, hR.f17.k, hR.f18.k, hR.f19.k, hR.f20.k, hR.f21.k⟩⟩
      refine EachOf.cons [0, 1] rfl (by kernel_rfl) ?_ ?_
      · rintro L A W ⟨v, rfl, hR⟩ hi hw K hK
        have e0 := hR.f0 (hw 0 (by simp))
        have e1 := hR.f1 (hw 1 (by simp))
        simp only [e0, e1]
        clear e0 e1
        go_simp
        go_at_call 34
        (with_reducible refine (CK.out _ hR.st).mono ?_)
        rintro e w2 ⟨rfl, rfl⟩
        go_simp
        refine hK.out _ _ ?_
        exact ⟨(fun jz => if jz = 5 then (.func (.func 34) #[] #[.pointer (some ⟨sb, 0, none⟩)]) else if jz = 6 then .int .i64 k else if jz = 7 then (.int .i64 d1) else v jz), rfl, ⟨hR.st, (fun _ j hj => upd_on (hw j hj)), hR.w5.o, hR.w6.o, hR.w7.o, hR.w8.o, hR.w9.o, hR.w10.o, hR.w11.o, hR.w12.o, hR.w13.o, hR.w14.o, hR.w15.o, hR.w16.o, hR.w17.o, hR.w18.o, hR.w19.o, hR.w20.o, hR.w21.o, (fun _ => rfl), (fun _ => rfl), (fun _ => rfl), hR.f3.k, hR.f4.k, hR.f5.k, hR.f6.k, hR.f7.k, hR.f8.k, hR.f9.k, hR.f10.k, hR.f11.k, hR.f12.k, hR.f13.k, hR.f14.k, hR.f15.k, hR.f16.k, hR.f17.k, hR.f18.k, hR.f19.k, hR.f20.k, hR.f21.k⟩⟩
      refine EachOf.cons [] rfl (by kernel_rfl) ?_ ?_
      · rintro L A W ⟨v, rfl, hR⟩ hi hw K hK
        have q0 := (hR.st.cell (p := ⟨fb, 0, none⟩) hf.out.2).trans hf.out.1
        go_simp
        refine hK.out _ _ ?_
        exact ⟨(fun jz => if jz = 8 then (.func (.func 34) #[] #[.pointer (some ⟨sb, 0, none⟩)]) else v jz), rfl, ⟨hR.st, hR.w2.o, hR.w5.o, hR.w6.o, hR.w7.o, hR.w8.o, hR.w9.o, hR.w10.o, hR.w11.o, hR.w12.o, hR.w13.o, hR.w14.o, hR.w15.o, hR.w16.o, hR.w17.o, hR.w18.o, hR.w19.o, hR.w20.o, hR.w21.o, hR.f0.k, hR.f1.k, hR.f2.k, (fun _ => rfl), hR.f4.k, hR.f5.k, hR.f6.k, hR.f7.k, hR.f8.k, hR.f9.k, hR.f10.k, hR.f11.k, hR.f12.k, hR.f13.k, hR.f14.k, hR.f15.k, hR.f16.k, hR.f17.k, hR.f18.k, hR.f19.k, hR.f20.k, hR.f21.k⟩⟩
      refine EachOf.cons [] rfl (by kernel_rfl) ?_ ?_
      · rintro L A W ⟨v, rfl, hR⟩ hi hw K hK
        have q0 := (hR.st.cell (p := ⟨xb, 0, none⟩) hx.out.2).trans hx.out.1
        go_simp
        refine hK.out _ _ ?_
        exact ⟨(fun jz => if jz = 9 then .int .i64 x else v jz), rfl, ⟨hR.st, hR.w2.o, hR.w5.o, hR.w6.o, hR.w7.o, hR.w8.o, hR.w9.o, hR.w10.o, hR.w11.o, hR.w12.o, hR.w13.o, hR.w14.o, hR.w15.o, hR.w16.o, hR.w17.o, hR.w18.o, hR.w19.o, hR.w20.o, hR.w21.o, hR.f0.k, hR.f1.k, hR.f2.k, hR.f3.k, (fun _ => rfl), hR.f5.k, hR.f6.k, hR.f7.k, hR.f8.k, hR.f9.k, hR.f10.k, hR.f11.k, hR.f12.k, hR.f13.k, hR.f14.k, hR.f15.k, hR.f16.k, hR.f17.k, hR.f18.k, hR.f19.k, hR.f20.k, hR.f21.k⟩⟩
      refine EachOf.cons [3, 4] rfl (by kernel_rfl) ?_ ?_
      · rintro L A W ⟨v, rfl, hR⟩ hi hw K hK
        have e3 := hR.f3 (hw 3 (by simp))
        have e4 := hR.f4 (hw 4 (by simp))
        simp only [e3, e4]
        clear e3 e4
        go_simp
        go_at_call 34
        (with_reducible refine (CX.out _ hR.st).mono ?_)
        rintro e w2 ⟨rfl, rfl⟩
        go_simp
        refine hK.out _ _ ?_
        exact ⟨(fun jz => if jz = 8 then (.func (.func 34) #[] #[.pointer (some ⟨sb, 0, none⟩)]) else if jz = 9 then .int .i64 x else if jz = 10 then (.int .i64 d2) else v jz), rfl, ⟨hR.st, hR.w2.o, (fun _ j hj => upd_on (hw j hj)), hR.w6.o, hR.w7.o, hR.w8.o, hR.w9.o, hR.w10.o, hR.w11.o, hR.w12.o, hR.w13.o, hR.w14.o, hR.w15.o, hR.w16.o, hR.w17.o, hR.w18.o, hR.w19.o, hR.w20.o, hR.w21.o, hR.f0.k, hR.f1.k, hR.f2.k, (fun _ => rfl), (fun _ => rfl), (fun _ => rfl), hR.f6.k, hR.f7.k, hR.f8.k, hR.f9.k, hR.f10.k, hR.f11.k, hR.f12.k, hR.f13.k, hR.f14.k, hR.f15.k, hR.f16.k, hR.f17.k, hR.f18.k, hR.f19.k, hR.f20.k, hR.f21.k⟩⟩
      refine EachOf.cons [2, 5] rfl (by kernel_rfl) ?_ ?_
      · rintro L A W ⟨v, rfl, hR⟩ hi hw K hK
        have e2 := hR.f2 (hw 2 (by simp))
        have e5 := hR.f5 (hw 5 (by simp))
        simp only [e2, e5]
        clear e2 e5
        go_simp
        refine hK.out _ _ ?_
        exact ⟨(fun jz => if jz = 7 then (.int .i64 d1) else if jz = 10 then (.int .i64 d2) else if jz = 11 then .bool false else v jz), rfl, ⟨hR.st, hR.w2.o, hR.w5.o, (fun _ j hj => upd_on (hw j hj)), hR.w7.o, hR.w8.o, hR.w9.o, hR.w10.o, hR.w11.o, hR.w12.o, hR.w13.o, hR.w14.o, hR.w15.o, hR.w16.o, hR.w17.o, hR.w18.o, hR.w19.o, hR.w20.o, hR.w21.o, hR.f0.k, hR.f1.k, (fun _ => rfl), hR.f3.k, hR.f4.k, (fun _ => rfl), (fun _ => rfl), hR.f7.k, hR.f8.k, hR.f9.k, hR.f10.k, hR.f11.k, hR.f12.k, hR.f13.k, hR.f14.k, hR.f15.k, hR.f16.k, hR.f17.k, hR.f18.k, hR.f19.k, hR.f20.k, hR.f21.k⟩⟩
      refine EachOf.cons [6] rfl (by kernel_rfl) ?_ ?_
      · rintro L A W ⟨v, rfl, hR⟩ hi hw K hK
        have e6 := hR.f6 (hw 6 (by simp))
        simp only [e6]
        clear e6
        go_simp
        refine hK.out _ _ ?_
        exact ⟨(fun jz => if jz = 11 then .bool false else if jz = 12 then .bool false else v jz), rfl, ⟨hR.st, hR.w2.o, hR.w5.o, hR.w6.o, (fun _ j hj => upd_on (hw j hj)), hR.w8.o, hR.w9.o, hR.w10.o, hR.w11.o, hR.w12.o, hR.w13.o, hR.w14.o, hR.w15.o, hR.w16.o, hR.w17.o, hR.w18.o, hR.w19.o, hR.w20.o, hR.w21.o, hR.f0.k, hR.f1.k, hR.f2.k, hR.f3.k, hR.f4.k, hR.f5.k, (fun _ => rfl), (fun _ => rfl), hR.f8.k, hR.f9.k, hR.f10.k, hR.f11.k, hR.f12.k, hR.f13.k, hR.f14.k, hR.f15.k, hR.f16.k, hR.f17.k, hR.f18.k, hR.f19.k, hR.f20.k, hR.f21.k⟩⟩
      refine EachOf.cons [7] rfl (by kernel_rfl) ?_ ?_
      · rintro L A W ⟨v, rfl, hR⟩ hi hw K hK
        have e7 := hR.f7 (hw 7 (by simp))
        simp only [e7]
        clear e7
        have q0 := (hR.st.cell (p := ⟨fb, 0, none⟩) hf.out.2).trans hf.out.1
        go_simp
        refine hK.out _ _ ?_
        exact ⟨(fun jz => if jz = 12 then .bool false else if jz = 13 then (.func (.func 34) #[] #[.pointer (some ⟨sb, 0, none⟩)]) else v jz), rfl, ⟨hR.st, hR.w2.o, hR.w5.o, hR.w6.o, hR.w7.o, (fun _ j hj => upd_on (hw j hj)), hR.w9.o, hR.w10.o, hR.w11.o, hR.w12.o, hR.w13.o, hR.w14.o, hR.w15.o, hR.w16.o, hR.w17.o, hR.w18.o, hR.w19.o, hR.w20.o, hR.w21.o, hR.f0.k, hR.f1.k, hR.f2.k, hR.f3.k, hR.f4.k, hR.f5.k, hR.f6.k, (fun _ => rfl), (fun _ => rfl), hR.f9.k, hR.f10.k, hR.f11.k, hR.f12.k, hR.f13.k, hR.f14.k, hR.f15.k, hR.f16.k, hR.f17.k, hR.f18.k, hR.f19.k, hR.f20.k, hR.f21.k⟩⟩
      refine EachOf.cons [7] rfl (by kernel_rfl) ?_ ?_
      · rintro L A W ⟨v, rfl, hR⟩ hi hw K hK
        have e7 := hR.f7 (hw 7 (by simp))
        simp only [e7]
        clear e7
        go_simp
        refine hK.out _ _ ?_
        exact ⟨(fun jz => if jz = 12 then .bool false else if jz = 14 then .int .i64 k else v jz), rfl, ⟨hR.st, hR.w2.o, hR.w5.o, hR.w6.o, hR.w7.o, hR.w8.o, (fun _ j hj => upd_on (hw j hj)), hR.w10.o, hR.w11.o, hR.w12.o, hR.w13.o, hR.w14.o, hR.w15.o, hR.w16.o, hR.w17.o, hR.w18.o, hR.w19.o, hR.w20.o, hR.w21.o, hR.f0.k, hR.f1.k, hR.f2.k, hR.f3.k, hR.f4.k, hR.f5.k, hR.f6.k, (fun _ => rfl), hR.f8.k, (fun _ => rfl), hR.f10.k, hR.f11.k, hR.f12.k, hR.f13.k, hR.f14.k, hR.f15.k, hR.f16.k, hR.f17.k, hR.f18.k, hR.f19.k, hR.f20.k, hR.f21.k⟩⟩
      refine EachOf.cons [7, 8, 9] rfl (by kernel_rfl) ?_ ?_
      · rintro L A W ⟨v, rfl, hR⟩ hi hw K hK
        have e8 := hR.f8 (hw 8 (by simp))
        have e9 := hR.f9 (hw 9 (by simp))
        have e7 := hR.f7 (hw 7 (by simp))
        simp only [e8, e9, e7]
        clear e8 e9 e7
        go_simp
        go_at_call 34
        (with_reducible refine (CK.out _ hR.st).mono ?_)
        rintro e w2 ⟨rfl, rfl⟩
        go_simp
        refine hK.out _ _ ?_
        exact ⟨(fun jz => if jz = 13 then (.func (.func 34) #[] #[.pointer (some ⟨sb, 0, none⟩)]) else if jz = 14 then .int .i64 k else if jz = 12 then .bool false else if jz = 15 then (.int .i64 d1) else v jz), rfl, ⟨hR.st, hR.w2.o, hR.w5.o, hR.w6.o, hR.w7.o, hR.w8.o, hR.w9.o, (fun _ j hj => upd_on (hw j hj)), hR.w11.o, hR.w12.o, hR.w13.o, hR.w14.o, hR.w15.o, hR.w16.o, hR.w17.o, hR.w18.o, hR.w19.o, hR.w20.o, hR.w21.o, hR.f0.k, hR.f1.k, hR.f2.k, hR.f3.k, hR.f4.k, hR.f5.k, hR.f6.k, (fun _ => rfl), (fun _ => rfl), (fun _ => rfl), (fun _ => rfl), hR.f11.k, hR.f12.k, hR.f13.k, hR.f14.k, hR.f15.k, hR.f16.k, hR.f17.k, hR.f18.k, hR.f19.k, hR.f20.k, hR.f21.k⟩⟩
      refine EachOf.cons [7] rfl (by kernel_rfl) ?_ ?_
      · rintro L A W ⟨v, rfl, hR⟩ hi hw K hK
        have e7 := hR.f7 (hw 7 (by simp))
        simp only [e7]
        clear e7
        have q0 := (hR.st.cell (p := ⟨fb, 0, none⟩) hf.out.2).trans hf.out.1
        go_simp
        refine hK.out _ _ ?_
        exact ⟨(fun jz => if jz = 12 then .bool false else if jz = 16 then (.func (.func 34) #[] #[.pointer (some ⟨sb, 0, none⟩)]) else v jz), rfl, ⟨hR.st, hR.w2.o, hR.w5.o, hR.w6.o, hR.w7.o, hR.w8.o, hR.w9.o, hR.w10.o, (fun _ j hj => upd_on (hw j hj)), hR.w12.o, hR.w13.o, hR.w14.o, hR.w15.o, hR.w16.o, hR.w17.o, hR.w18.o, hR.w19.o, hR.w20.o, hR.w21.o, hR.f0.k, hR.f1.k, hR.f2.k, hR.f3.k, hR.f4.k, hR.f5.k, hR.f6.k, (fun _ => rfl), hR.f8.k, hR.f9.k, hR.f10.k, (fun _ => rfl), hR.f12.k, hR.f13.k, hR.f14.k, hR.f15.k, hR.f16.k, hR.f17.k, hR.f18.k, hR.f19.k, hR.f20.k, hR.f21.k⟩⟩
      refine EachOf.cons [7] rfl (by kernel_rfl) ?_ ?_
      · rintro L A W ⟨v, rfl, hR⟩ hi hw K hK
        have e7 := hR.f7 (hw 7 (by simp))
        simp only [e7]
        clear e7
        have q0 := (hR.st.cell (p := ⟨xb, 0, none⟩) hx.out.2).trans hx.out.1
        go_simp
        refine hK.out _ _ ?_
        exact ⟨(fun jz => if jz = 12 then .bool false else if jz = 17 then .int .i64 x else v jz), rfl, ⟨hR.st, hR.w2.o, hR.w5.o, hR.w6.o, hR.w7.o, hR.w8.o, hR.w9.o, hR.w10.o, hR.w11.o, (fun _ j hj => upd_on (hw j hj)), hR.w13.o, hR.w14.o, hR.w15.o, hR.w16.o, hR.w17.o, hR.w18.o, hR.w19.o, hR.w20.o, hR.w21.o, hR.f0.k, hR.f1.k, hR.f2.k, hR.f3.k, hR.f4.k, hR.f5.k, hR.f6.k, (fun _ => rfl), hR.f8.k, hR.f9.k, hR.f10.k, hR.f11.k, (fun _ => rfl), hR.f13.k, hR.f14.k, hR.f15.k, hR.f16.k, hR.f17.k, hR.f18.k, hR.f19.k, hR.f20.k, hR.f21.k⟩⟩
      refine EachOf.cons [7, 11, 12] rfl (by kernel_rfl) ?_ ?_
      · rintro L A W ⟨v, rfl, hR⟩ hi hw K hK
        have e11 := hR.f11 (hw 11 (by simp))
        have e12 := hR.f12 (hw 12 (by simp))
        have e7 := hR.f7 (hw 7 (by simp))
        simp only [e11, e12, e7]
        clear e11 e12 e7
        go_simp
        go_at_call 34
        (with_reducible refine (CX.out _ hR.st).mono ?_)
        rintro e w2 ⟨rfl, rfl⟩
        go_simp
        refine hK.out _ _ ?_
        exact ⟨(fun jz => if jz = 16 then (.func (.func 34) #[] #[.pointer (some ⟨sb, 0, none⟩)]) else if jz = 17 then .int .i64 x else if jz = 12 then .bool false else if jz = 18 then (.int .i64 d2) else v jz), rfl, ⟨hR.st, hR.w2.o, hR.w5.o, hR.w6.o, hR.w7.o, hR.w8.o, hR.w9.o, hR.w10.o, hR.w11.o, hR.w12.o, (fun _ j hj => upd_on (hw j hj)), hR.w14.o, hR.w15.o, hR.w16.o, hR.w17.o, hR.w18.o, hR.w19.o, hR.w20.o, hR.w21.o, hR.f0.k, hR.f1.k, hR.f2.k, hR.f3.k, hR.f4.k, hR.f5.k, hR.f6.k, (fun _ => rfl), hR.f8.k, hR.f9.k, hR.f10.k, (fun _ => rfl), (fun _ => rfl), (fun _ => rfl), hR.f14.k, hR.f15.k, hR.f16.k, hR.f17.k, hR.f18.k, hR.f19.k, hR.f20.k, hR.f21.k⟩⟩
      refine EachOf.cons [7, 10, 13] rfl (by kernel_rfl) ?_ ?_
      · rintro L A W ⟨v, rfl, hR⟩ hi hw K hK
        have e10 := hR.f10 (hw 10 (by simp))
        have e13 := hR.f13 (hw 13 (by simp))
        have e7 := hR.f7 (hw 7 (by simp))
        simp only [e10, e13, e7]
        clear e10 e13 e7
        go_simp
        refine hK.out _ _ ?_
        exact ⟨(fun jz => if jz = 15 then (.int .i64 d1) else if jz = 18 then (.int .i64 d2) else if jz = 12 then .bool false else if jz = 19 then .bool true else v jz), rfl, ⟨hR.st, hR.w2.o, hR.w5.o, hR.w6.o, hR.w7.o, hR.w8.o, hR.w9.o, hR.w10.o, hR.w11.o, hR.w12.o, hR.w13.o, (fun _ j hj => upd_on (hw j hj)), hR.w15.o, hR.w16.o, hR.w17.o, hR.w18.o, hR.w19.o, hR.w20.o, hR.w21.o, hR.f0.k, hR.f1.k, hR.f2.k, hR.f3.k, hR.f4.k, hR.f5.k, hR.f6.k, (fun _ => rfl), hR.f8.k, hR.f9.k, (fun _ => rfl), hR.f11.k, hR.f12.k, (fun _ => rfl), (fun _ => rfl), hR.f15.k, hR.f16.k, hR.f17.k, hR.f18.k, hR.f19.k, hR.f20.k, hR.f21.k⟩⟩
      refine EachOf.cons [7, 14] rfl (by kernel_rfl) ?_ ?_
      · rintro L A W ⟨v, rfl, hR⟩ hi hw K hK
        have e14 := hR.f14 (hw 14 (by simp))
        have e7 := hR.f7 (hw 7 (by simp))
        simp only [e14, e7]
        clear e14 e7
        go_simp
        refine hK.out _ _ ?_
        exact ⟨(fun jz => if jz = 19 then .bool true else if jz = 12 then .bool false else if jz = 20 then .bool true else v jz), rfl, ⟨hR.st, hR.w2.o, hR.w5.o, hR.w6.o, hR.w7.o, hR.w8.o, hR.w9.o, hR.w10.o, hR.w11.o, hR.w12.o, hR.w13.o, hR.w14.o, (fun _ j hj => upd_on (hw j hj)), hR.w16.o, hR.w17.o, hR.w18.o, hR.w19.o, hR.w20.o, hR.w21.o, hR.f0.k, hR.f1.k, hR.f2.k, hR.f3.k, hR.f4.k, hR.f5.k, hR.f6.k, (fun _ => rfl), hR.f8.k, hR.f9.k, hR.f10.k, hR.f11.k, hR.f12.k, hR.f13.k, (fun _ => rfl), (fun _ => rfl), hR.f16.k, hR.f17.k, hR.f18.k, hR.f19.k, hR.f20.k, hR.f21.k⟩⟩
      refine EachOf.cons [15] rfl (by kernel_rfl) ?_ ?_
      · rintro L A W ⟨v, rfl, hR⟩ hi hw K hK
        have e15 := hR.f15 (hw 15 (by simp))
        simp only [e15]
        clear e15
        go_simp
        refine hK.out _ _ ?_
        exact ⟨(fun jz => if jz = 20 then .bool true else if jz = 21 then .int .i64 k else v jz), rfl, ⟨hR.st, hR.w2.o, hR.w5.o, hR.w6.o, hR.w7.o, hR.w8.o, hR.w9.o, hR.w10.o, hR.w11.o, hR.w12.o, hR.w13.o, hR.w14.o, hR.w15.o, (fun _ j hj => upd_on (hw j hj)), hR.w17.o, hR.w18.o, hR.w19.o, hR.w20.o, hR.w21.o, hR.f0.k, hR.f1.k, hR.f2.k, hR.f3.k, hR.f4.k, hR.f5.k, hR.f6.k, hR.f7.k, hR.f8.k, hR.f9.k, hR.f10.k, hR.f11.k, hR.f12.k, hR.f13.k, hR.f14.k, (fun _ => rfl), (fun _ => rfl), hR.f17.k, hR.f18.k, hR.f19.k, hR.f20.k, hR.f21.k⟩⟩
      refine EachOf.cons [15] rfl (by kernel_rfl) ?_ ?_
      · rintro L A W ⟨v, rfl, hR⟩ hi hw K hK
        have e15 := hR.f15 (hw 15 (by simp))
        simp only [e15]
        clear e15
        have q0 := (hR.st.cell (p := ⟨xb, 0, none⟩) hx.out.2).trans hx.out.1
        go_simp
        refine hK.out _ _ ?_
        exact ⟨(fun jz => if jz = 20 then .bool true else if jz = 22 then .int .i64 x else v jz), rfl, ⟨hR.st, hR.w2.o, hR.w5.o, hR.w6.o, hR.w7.o, hR.w8.o, hR.w9.o, hR.w10.o, hR.w11.o, hR.w12.o, hR.w13.o, hR.w14.o, hR.w15.o, hR.w16.o, (fun _ j hj => upd_on (hw j hj)), hR.w18.o, hR.w19.o, hR.w20.o, hR.w21.o, hR.f0.k, hR.f1.k, hR.f2.k, hR.f3.k, hR.f4.k, hR.f5.k, hR.f6.k, hR.f7.k, hR.f8.k, hR.f9.k, hR.f10.k, hR.f11.k, hR.f12.k, hR.f13.k, hR.f14.k, (fun _ => rfl), hR.f16.k, (fun _ => rfl), hR.f18.k, hR.f19.k, hR.f20.k, hR.f21.k⟩⟩
      refine EachOf.cons [15, 16, 17] rfl (by kernel_rfl) ?_ ?_
      · rintro L A W ⟨v, rfl, hR⟩ hi hw K hK
        have e16 := hR.f16 (hw 16 (by simp))
        have e17 := hR.f17 (hw 17 (by simp))
        have e15 := hR.f15 (hw 15 (by simp))
        simp only [e16, e17, e15]
        clear e16 e17 e15
        go_simp
        refine hK.out _ _ ?_
        exact ⟨(fun jz => if jz = 21 then .int .i64 k else if jz = 22 then .int .i64 x else if jz = 20 then .bool true else if jz = 23 then .bool false else v jz), rfl, ⟨hR.st, hR.w2.o, hR.w5.o, hR.w6.o, hR.w7.o, hR.w8.o, hR.w9.o, hR.w10.o, hR.w11.o, hR.w12.o, hR.w13.o, hR.w14.o, hR.w15.o, hR.w16.o, hR.w17.o, (fun _ j hj => upd_on (hw j hj)), hR.w19.o, hR.w20.o, hR.w21.o, hR.f0.k, hR.f1.k, hR.f2.k, hR.f3.k, hR.f4.k, hR.f5.k, hR.f6.k, hR.f7.k, hR.f8.k, hR.f9.k, hR.f10.k, hR.f11.k, hR.f12.k, hR.f13.k, hR.f14.k, (fun _ => rfl), (fun _ => rfl), (fun _ => rfl), (fun _ => rfl), hR.f19.k, hR.f20.k, hR.f21.k⟩⟩
      refine EachOf.cons [7, 15, 18] rfl (by kernel_rfl) ?_ ?_
      · rintro L A W ⟨v, rfl, hR⟩ hi hw K hK
        have e15 := hR.f15 (hw 15 (by simp))
        have e18 := hR.f18 (hw 18 (by simp))
        have e7 := hR.f7 (hw 7 (by simp))
        simp only [e15, e18, e7]
        clear e15 e18 e7
        go_simp
        refine hK.out _ _ ?_
        exact ⟨(fun jz => if jz = 20 then .bool true else if jz = 23 then .bool false else if jz = 12 then .bool false else if jz = 24 then .bool false else v jz), rfl, ⟨hR.st, hR.w2.o, hR.w5.o, hR.w6.o, hR.w7.o, hR.w8.o, hR.w9.o, hR.w10.o, hR.w11.o, hR.w12.o, hR.w13.o, hR.w14.o, hR.w15.o, hR.w16.o, hR.w17.o, hR.w18.o, (fun _ j hj => upd_on (hw j hj)), hR.w20.o, hR.w21.o, hR.f0.k, hR.f1.k, hR.f2.k, hR.f3.k, hR.f4.k, hR.f5.k, hR.f6.k, (fun _ => rfl), hR.f8.k, hR.f9.k, hR.f10.k, hR.f11.k, hR.f12.k, hR.f13.k, hR.f14.k, (fun _ => rfl), hR.f16.k, hR.f17.k, (fun _ => rfl), (fun _ => rfl), hR.f20.k, hR.f21.k⟩⟩
      refine EachOf.cons [7, 19] rfl (by kernel_rfl) ?_ ?_
      · rintro L A W ⟨v, rfl, hR⟩ hi hw K hK
        have e7 := hR.f7 (hw 7 (by simp))
        have e19 := hR.f19 (hw 19 (by simp))
        simp only [e7, e19]
        clear e7 e19
        go_simp
        refine hK.out _ _ ?_
        exact ⟨(fun jz => if jz = 12 then .bool false else if jz = 24 then .bool false else if jz = 25 then .bool false else v jz), rfl, ⟨hR.st, hR.w2.o, hR.w5.o, hR.w6.o, hR.w7.o, hR.w8.o, hR.w9.o, hR.w10.o, hR.w11.o, hR.w12.o, hR.w13.o, hR.w14.o, hR.w15.o, hR.w16.o, hR.w17.o, hR.w18.o, hR.w19.o, (fun _ j hj => upd_on (hw j hj)), hR.w21.o, hR.f0.k, hR.f1.k, hR.f2.k, hR.f3.k, hR.f4.k, hR.f5.k, hR.f6.k, (fun _ => rfl), hR.f8.k, hR.f9.k, hR.f10.k, hR.f11.k, hR.f12.k, hR.f13.k, hR.f14.k, hR.f15.k, hR.f16.k, hR.f17.k, hR.f18.k, (fun _ => rfl), (fun _ => rfl), hR.f21.k⟩⟩
      refine EachOf.cons [20] rfl (by kernel_rfl) ?_ ?_
      · rintro L A W ⟨v, rfl, hR⟩ hi hw K hK
        have e20 := hR.f20 (hw 20 (by simp))
        simp only [e20]
        clear e20
        go_simp
        refine hK.out _ _ ?_
        exact ⟨(fun jz => if jz = 25 then .bool false else if jz = 4 then .bool false else v jz), rfl, ⟨hR.st, hR.w2.o, hR.w5.o, hR.w6.o, hR.w7.o, hR.w8.o, hR.w9.o, hR.w10.o, hR.w11.o, hR.w12.o, hR.w13.o, hR.w14.o, hR.w15.o, hR.w16.o, hR.w17.o, hR.w18.o, hR.w19.o, hR.w20.o, (fun _ j hj => upd_on (hw j hj)), hR.f0.k, hR.f1.k, hR.f2.k, hR.f3.k, hR.f4.k, hR.f5.k, hR.f6.k, hR.f7.k, hR.f8.k, hR.f9.k, hR.f10.k, hR.f11.k, hR.f12.k, hR.f13.k, hR.f14.k, hR.f15.k, hR.f16.k, hR.f17.k, hR.f18.k, hR.f19.k, (fun _ => rfl), (fun _ => rfl)⟩⟩
      exact EachOf.nil
    · rintro L A W ⟨v, rfl, hR⟩ hall
      have hst := Lib.hid hR.st
      have e21 := hR.f21 (hall 21 (by simp))
      simp only [e21]
      clear hR e21 hall
      go_wp2_with fail
      go_ret
      exact ⟨rfl, hst.out⟩
  · have q0 : decide (d1 < d2) = false := decide_eq_false (by omega)
    have q1 : (d1 == d2) = false := by simp [he]
    clear hk he
    go_enter Tryd.func36, Tryd.ntmps36
    go_upto_region 1 with fail
    refine wp_region_each (fun L A W => ∃ (v : Nat → Value), A = ⟨#[_, _, _, _, v 4, v 5, v 6, v 7, v 8, v 9, v 10, v 11, v 12, v 13, v 14, v 15, v 16, v 17, v 18, v 19, v 20, v 21, v 22, v 23, v 24, v 25], []⟩ ∧ PadR fb xb sb k x d1 d2 false w L v W) (by kernel_rfl) (by kernel_rfl) ⟨fun jz => if jz = 5 then undef else if jz = 6 then undef else if jz = 7 then undef else if jz = 8 then undef else if jz = 9 then undef else if jz = 10 then undef else if jz = 11 then undef else if jz = 12 then undef else if jz = 13 then undef else if jz = 14 then undef else if jz = 15 then undef else if jz = 16 then undef else if jz = 17 then undef else if jz = 18 then undef else if jz = 19 then undef else if jz = 20 then undef else if jz = 21 then undef else if jz = 22 then undef else if jz = 23 then undef else if jz = 24 then undef else if jz = 25 then undef else if jz = 4 then .bool false else undef, rfl, ⟨Below.drew (Below.refl _ _), Had.none, Had.none, Had.none, Had.none, Had.none, Had.none, Had.none, Had.none, Had.none, Had.none, Had.none, Had.none, Had.none, Had.none, Had.none, Had.none, Had.none, Had.none, Had.none, Had.none, Had.none, Had.none, Had.none, Had.none, Had.none, Had.none, Had.none, Had.none, Had.none, Had.none, Had.none, Had.none, Had.none, Had.none, Had.none, Had.none, Had.none, Had.none, Had.none, Had.none⟩⟩ (rs := [0, 1, 2, 3, 4, 5, 6, 7, 8, 9, 10, 11, 12, 13, 14, 15, 16, 17, 18, 19, 20, 21]) (by kernel_rfl) ?_ ?_
    · refine EachOf.cons [] rfl (by kernel_rfl) ?_ ?_
      · rintro L A W ⟨v, rfl, hR⟩ hi hw K hK
        have q0 := (hR.st.cell (p := ⟨fb, 0, none⟩) hf.out.2).trans hf.out.1
        go_simp
        refine hK.out _ _ ?_
        exact ⟨(fun jz => if jz = 5 then (.func (.func 34) #[] #[.pointer (some ⟨sb, 0, none⟩)]) else v jz), rfl, ⟨hR.st, hR.w2.o, hR.w5.o, hR.w6.o, hR.w7.o, hR.w8.o, hR.w9.o, hR.w10.o, hR.w11.o, hR.w12.o, hR.w13.o, hR.w14.o, hR.w15.o, hR.w16.o, hR.w17.o, hR.w18.o, hR.w19.o, hR.w20.o, hR.w21.o, (fun _ => rfl), hR.f1.k, hR.f2.k, hR.f3.k, hR.f4.k, hR.f5.k, hR.f6.k, hR.f7.k, hR.f8.k, hR.f9.k, hR.f10.k, hR.f11.k, hR.f12.k, hR.f13.k, hR.f14.k, hR.f15.k, hR.f16.k, hR.f17.k, hR.f18.k, hR.f19.k, hR.f20.k, hR.f21.k⟩⟩
      refine EachOf.cons [] rfl (by kernel_rfl) ?_ ?_
      · rintro L A W ⟨v, rfl, hR⟩ hi hw K hK
        go_simp
        refine hK.out _ _ ?_
        exact ⟨(fun jz => if jz = 6 then .int .i64 k else v jz), rfl, ⟨hR.st, hR.w2.o, hR.w5.o, hR.w6.o, hR.w7.o, hR.w8.o, hR.w9.o, hR.w10.o, hR.w11.o, hR.w12.o, hR.w13.o, hR.w14.o, hR.w15.o, hR.w16.o, hR.w17.o, hR.w18.o, hR.w19.o, hR.w20.o, hR.w21.o, hR.f0.k, (fun _ => rfl), hR.f2.k, hR.f3.k, hR.f4.k, hR.f5.k, hR.f6.k, hR.f7.k, hR.f8.k, hR.f9.k, hR.f10.k, hR.f11.k, hR.f12.k, hR.f13.k, hR.f14.k, hR.f15.k, hR.f16.k, hR.f17.k, hR.f18.k, hR.f19.k, hR.f20.k, hR.f21.k⟩⟩
      refine EachOf.cons [0, 1] rfl (by kernel_rfl) ?_ ?_
      · rintro L A W ⟨v, rfl, hR⟩ hi hw K hK
        have e0 := hR.f0 (hw 0 (by simp))
        have e1 := hR.f1 (hw 1 (by simp))
        simp only [e0, e1]
        clear e0 e1
        go_simp
        go_at_call 34
        (with_reducible refine (CK.out _ hR.st).mono ?_)
        rintro e w2 ⟨rfl, rfl⟩
        go_simp
        refine hK.out _ _ ?_
        exact ⟨(fun jz => if jz = 5 then (.func (.func 34) #[] #[.pointer (some ⟨sb, 0, none⟩)]) else if jz = 6 then .int .i64 k else if jz = 7 then (.int .i64 d1) else v jz), rfl, ⟨hR.st, (fun _ j hj => upd_on (hw j hj)), hR.w5.o, hR.w6.o, hR.w7.o, hR.w8.o, hR.w9.o, hR.w10.o, hR.w11.o, hR.w12.o, hR.w13.o, hR.w14.o, hR.w15.o, hR.w16.o, hR.w17.o, hR.w18.o, hR.w19.o, hR.w20.o, hR.w21.o, (fun _ => rfl), (fun _ => rfl), (fun _ => rfl), hR.f3.k, hR.f4.k, hR.f5.k, hR.f6.k, hR.f7.k, hR.f8.k, hR.f9.k, hR.f10.k, hR.f11.k, hR.f12.k, hR.f13.k, hR.f14.k, hR.f15.k, hR.f16.k, hR.f17.k, hR.f18.k, hR.f19.k, hR.f20.k, hR.f21.k⟩⟩
      refine EachOf.cons [] rfl (by kernel_rfl) ?_ ?_
      · rintro L A W ⟨v, rfl, hR⟩ hi hw K hK
        have q0 := (hR.st.cell (p := ⟨fb, 0, none⟩) hf.out.2).trans hf.out.1
        go_simp
        refine hK.out _ _ ?_
        exact ⟨(fun jz => if jz = 8 then (.func (.func 34) #[] #[.pointer (some ⟨sb, 0, none⟩)]) else v jz), rfl, ⟨hR.st, hR.w2.o, hR.w5.o, hR.w6.o, hR.w7.o, hR.w8.o, hR.w9.o, hR.w10.o, hR.w11.o, hR.w12.o, hR.w13.o, hR.w14.o, hR.w15.o, hR.w16.o, hR.w17.o, hR.w18.o, hR.w19.o, hR.w20.o, hR.w21.o, hR.f0.k, hR.f1.k, hR.f2.k, (fun _ => rfl), hR.f4.k, hR.f5.k, hR.f6.k, hR.f7.k, hR.f8.k, hR.f9.k, hR.f10.k, hR.f11.k, hR.f12.k, hR.f13.k, hR.f14.k, hR.f15.k, hR.f16.k, hR.f17.k, hR.f18.k, hR.f19.k, hR.f20.k, hR.f21.k⟩⟩
      refine EachOf.cons [] rfl (by kernel_rfl) ?_ ?_
      · rintro L A W ⟨v, rfl, hR⟩ hi hw K hK
        have q0 := (hR.st.cell (p := ⟨xb, 0, none⟩) hx.out.2).trans hx.out.1
        go_simp
        refine hK.out _ _ ?_
        exact ⟨(fun jz => if jz = 9 then .int .i64 x else v jz), rfl, ⟨hR.st, hR.w2.o, hR.w5.o, hR.w6.o, hR.w7.o, hR.w8.o, hR.w9.o, hR.w10.o, hR.w11.o, hR.w12.o, hR.w13.o, hR.w14.o, hR.w15.o, hR.w16.o, hR.w17.o, hR.w18.o, hR.w19.o, hR.w20.o, hR.w21.o, hR.f0.k, hR.f1.k, hR.f2.k, hR.f3.k, (fun _ => rfl), hR.f5.k, hR.f6.k, hR.f7.k, hR.f8.k, hR.f9.k, hR.f10.k, hR.f11.k, hR.f12.k, hR.f13.k, hR.f14.k, hR.f15.k, hR.f16.k, hR.f17.k, hR.f18.k, hR.f19.k, hR.f20.k, hR.f21.k⟩⟩
      refine EachOf.cons [3, 4] rfl (by kernel_rfl) ?_ ?_
      · rintro L A W ⟨v, rfl, hR⟩ hi hw K hK
        have e3 := hR.f3 (hw 3 (by simp))
        have e4 := hR.f4 (hw 4 (by simp))
        simp only [e3, e4]
        clear e3 e4
        go_simp
        go_at_call 34
        (with_reducible refine (CX.out _ hR.st).mono ?_)
        rintro e w2 ⟨rfl, rfl⟩
        go_simp
        refine hK.out _ _ ?_
        exact ⟨(fun jz => if jz = 8 then (.func (.func 34) #[] #[.pointer (some ⟨sb, 0, none⟩)]) else if jz = 9 then .int .i64 x else if jz = 10 then (.int .i64 d2) else v jz), rfl, ⟨hR.st, hR.w2.o, (fun _ j hj => upd_on (hw j hj)), hR.w6.o, hR.w7.o, hR.w8.o, hR.w9.o, hR.w10.o, hR.w11.o, hR.w12.o, hR.w13.o, hR.w14.o, hR.w15.o, hR.w16.o, hR.w17.o, hR.w18.o, hR.w19.o, hR.w20.o, hR.w21.o, hR.f0.k, hR.f1.k, hR.f2.k, (fun _ => rfl), (fun _ => rfl), (fun _ => rfl), hR.f6.k, hR.f7.k, hR.f8.k, hR.f9.k, hR.f10.k, hR.f11.k, hR.f12.k, hR.f13.k, hR.f14.k, hR.f15.k, hR.f16.k, hR.f17.k, hR.f18.k, hR.f19.k, hR.f20.k, hR.f21.k⟩⟩
      refine EachOf.cons [2, 5] rfl (by kernel_rfl) ?_ ?_
      · rintro L A W ⟨v, rfl, hR⟩ hi hw K hK
        have e2 := hR.f2 (hw 2 (by simp))
        have e5 := hR.f5 (hw 5 (by simp))
        simp only [e2, e5]
        clear e2 e5
        go_simp
        refine hK.out _ _ ?_
        exact ⟨(fun jz => if jz = 7 then (.int .i64 d1) else if jz = 10 then (.int .i64 d2) else if jz = 11 then .bool false else v jz), rfl, ⟨hR.st, hR.w2.o, hR.w5.o, (fun _ j hj => upd_on (hw j hj)), hR.w7.o, hR.w8.o, hR.w9.o, hR.w10.o, hR.w11.o, hR.w12.o, hR.w13.o, hR.w14.o, hR.w15.o, hR.w16.o, hR.w17.o, hR.w18.o, hR.w19.o, hR.w20.o, hR.w21.o, hR.f0.k, hR.f1.k, (fun _ => rfl), hR.f3.k, hR.f4.k, (fun _ => rfl), (fun _ => rfl), hR.f7.k, hR.f8.k, hR.f9.k, hR.f10.k, hR.f11.k, hR.f12.k, hR.f13.k, hR.f14.k, hR.f15.k, hR.f16.k, hR.f17.k, hR.f18.k, hR.f19.k, hR.f20.k, hR.f21.k⟩⟩
      refine EachOf.cons [6] rfl (by kernel_rfl) ?_ ?_
      · rintro L A W ⟨v, rfl, hR⟩ hi hw K hK
        have e6 := hR.f6 (hw 6 (by simp))
        simp only [e6]
        clear e6
        go_simp
        refine hK.out _ _ ?_
        exact ⟨(fun jz => if jz = 11 then .bool false else if jz = 12 then .bool false else v jz), rfl, ⟨hR.st, hR.w2.o, hR.w5.o, hR.w6.o, (fun _ j hj => upd_on (hw j hj)), hR.w8.o, hR.w9.o, hR.w10.o, hR.w11.o, hR.w12.o, hR.w13.o, hR.w14.o, hR.w15.o, hR.w16.o, hR.w17.o, hR.w18.o, hR.w19.o, hR.w20.o, hR.w21.o, hR.f0.k, hR.f1.k, hR.f2.k, hR.f3.k, hR.f4.k, hR.f5.k, (fun _ => rfl), (fun _ => rfl), hR.f8.k, hR.f9.k, hR.f10.k, hR.f11.k, hR.f12.k, hR.f13.k, hR.f14.k, hR.f15.k, hR.f16.k, hR.f17.k, hR.f18.k, hR.f19.k, hR.f20.k, hR.f21.k⟩⟩
      refine EachOf.cons [7] rfl (by kernel_rfl) ?_ ?_
      · rintro L A W ⟨v, rfl, hR⟩ hi hw K hK
        have e7 := hR.f7 (hw 7 (by simp))
        simp only [e7]
        clear e7
        have q0 := (hR.st.cell (p := ⟨fb, 0, none⟩) hf.out.2).trans hf.out.1
        go_simp
        refine hK.out _ _ ?_
        exact ⟨(fun jz => if jz = 12 then .bool false else if jz = 13 then (.func (.func 34) #[] #[.pointer (some ⟨sb, 0, none⟩)]) else v jz), rfl, ⟨hR.st, hR.w2.o, hR.w5.o, hR.w6.o, hR.w7.o, (fun _ j hj => upd_on (hw j hj)), hR.w9.o, hR.w10.o, hR.w11.o, hR.w12.o, hR.w13.o, hR.w14.o, hR.w15.o, hR.w16.o, hR.w17.o, hR.w18.o, hR.w19.o, hR.w20.o, hR.w21.o, hR.f0.k, hR.f1.k, hR.f2.k, hR.f3.k, hR.f4.k, hR.f5.k, hR.f6.k, (fun _ => rfl), (fun _ => rfl), hR.f9.k, hR.f10.k, hR.f11.k, hR.f12.k, hR.f13.k, hR.f14.k, hR.f15.k, hR.f16.k, hR.f17.k, hR.f18.k, hR.f19.k, hR.f20.k, hR.f21.k⟩⟩
      refine EachOf.cons [7] rfl (by kernel_rfl) ?_ ?_
      · rintro L A W ⟨v, rfl, hR⟩ hi hw K hK
        have e7 := hR.f7 (hw 7 (by simp))
        simp only [e7]
        clear e7
        go_simp
        refine hK.out _ _ ?_
        exact ⟨(fun jz => if jz = 12 then .bool false else if jz = 14 then .int .i64 k else v jz), rfl, ⟨hR.st, hR.w2.o, hR.w5.o, hR.w6.o, hR.w7.o, hR.w8.o, (fun _ j hj => upd_on (hw j hj)), hR.w10.o, hR.w11.o, hR.w12.o, hR.w13.o, hR.w14.o, hR.w15.o, hR.w16.o, hR.w17.o, hR.w18.o, hR.w19.o, hR.w20.o, hR.w21.o, hR.f0.k, hR.f1.k, hR.f2.k, hR.f3.k, hR.f4.k, hR.f5.k, hR.f6.k, (fun _ => rfl), hR.f8.k, (fun _ => rfl), hR.f10.k, hR.f11.k, hR.f12.k, hR.f13.k, hR.f14.k, hR.f15.k, hR.f16.k, hR.f17.k, hR.f18.k, hR.f19.k, hR.f20.k, hR.f21.k⟩⟩
      refine EachOf.cons [7, 8, 9] rfl (by kernel_rfl) ?_ ?_
      · rintro L A W ⟨v, rfl, hR⟩ hi hw K hK
        have e8 := hR.f8 (hw 8 (by simp))
        have e9 := hR.f9 (hw 9 (by simp))
        have e7 := hR.f7 (hw 7 (by simp))
        simp only [e8, e9, e7]
        clear e8 e9 e7
        go_simp
        go_at_call 34
        (with_reducible refine (CK.out _ hR.st).mono ?_)
        rintro e w2 ⟨rfl, rfl⟩
        go_simp
        refine hK.out _ _ ?_
        exact ⟨(fun jz => if jz = 13 then (.func (.func 34) #[] #[.pointer (some ⟨sb, 0, none⟩)]) else if jz = 14 then .int .i64 k else if jz = 12 then .bool false else if jz = 15 then (.int .i64 d1) else v jz), rfl, ⟨hR.st, hR.w2.o, hR.w5.o, hR.w6.o, hR.w7.o, hR.w8.o, hR.w9.o, (fun _ j hj => upd_on (hw j hj)), hR.w11.o, hR.w12.o, hR.w13.o, hR.w14.o, hR.w15.o, hR.w16.o, hR.w17.o, hR.w18.o, hR.w19.o, hR.w20.o, hR.w21.o, hR.f0.k, hR.f1.k, hR.f2.k, hR.f3.k, hR.f4.k, hR.f5.k, hR.f6.k, (fun _ => rfl), (fun _ => rfl), (fun _ => rfl), (fun _ => rfl), hR.f11.k, hR.f12.k, hR.f13.k, hR.f14.k, hR.f15.k, hR.f16.k, hR.f17.k, hR.f18.k, hR.f19.k, hR.f20.k, hR.f21.k⟩⟩
      refine EachOf.cons [7] rfl (by kernel_rfl) ?_ ?_
      · rintro L A W ⟨v, rfl, hR⟩ hi hw K hK
        have e7 := hR.f7 (hw 7 (by simp))
        simp only [e7]
        clear e7
        have q0 := (hR.st.cell (p := ⟨fb, 0, none⟩) hf.out.2).trans hf.out.1
        go_simp
        refine hK.out _ _ ?_
        exact ⟨(fun jz => if jz = 12 then .bool false else if jz = 16 then (.func (.func 34) #[] #[.pointer (some ⟨sb, 0, none⟩)]) else v jz), rfl, ⟨hR.st, hR.w2.o, hR.w5.o, hR.w6.o, hR.w7.o, hR.w8.o, hR.w9.o, hR.w10.o, (fun _ j hj => upd_on (hw j hj)), hR.w12.o, hR.w13.o, hR.w14.o, hR.w15.o, hR.w16.o, hR.w17.o, hR.w18.o, hR.w19.o, hR.w20.o, hR.w21.o, hR.f0.k, hR.f1.k, hR.f2.k, hR.f3.k, hR.f4.k, hR.f5.k, hR.f6.k, (fun _ => rfl), hR.f8.k, hR.f9.k, hR.f10.k, (fun _ => rfl), hR.f12.k, hR.f13.k, hR.f14.k, hR.f15.k, hR.f16.k, hR.f17.k, hR.f18.k, hR.f19.k, hR.f20.k, hR.f21.k⟩⟩
      refine EachOf.cons [7] rfl (by kernel_rfl) ?_ ?_
      · rintro L A W ⟨v, rfl, hR⟩ hi hw K hK
        have e7 := hR.f7 (hw 7 (by simp))
        simp only [e7]
        clear e7
        have q0 := (hR.st.cell (p := ⟨xb, 0, none⟩) hx.out.2).trans hx.out.1
        go_simp
        refine hK.out _ _ ?_
        exact ⟨(fun jz => if jz = 12 then .bool false else if jz = 17 then .int .i64 x else v jz), rfl, ⟨hR.st, hR.w2.o, hR.w5.o, hR.w6.o, hR.w7.o, hR.w8.o, hR.w9.o, hR.w10.o, hR.w11.o, (fun _ j hj => upd_on (hw j hj)), hR.w13.o, hR.w14.o, hR.w15.o, hR.w16.o, hR.w17.o, hR.w18.o, hR.w19.o, hR.w20.o, hR.w21.o, hR.f0.k, hR.f1.k, hR.f2.k, hR.f3.k, hR.f4.k, hR.f5.k, hR.f6.k, (fun _ => rfl), hR.f8.k, hR.f9.k, hR.f10.k, hR.f11.k, (fun _ => rfl), hR.f13.k, hR.f14.k, hR.f15.k, hR.f16.k, hR.f17.k, hR.f18.k, hR.f19.k, hR.f20.k, hR.f21.k⟩⟩
      refine EachOf.cons [7, 11, 12] rfl (by kernel_rfl) ?_ ?_
      · rintro L A W ⟨v, rfl, hR⟩ hi hw K hK
        have e11 := hR.f11 (hw 11 (by simp))
        have e12 := hR.f12 (hw 12 (by simp))
        have e7 := hR.f7 (hw 7 (by simp))
        simp only [e11, e12, e7]
        clear e11 e12 e7
        go_simp
        go_at_call 34
        (with_reducible refine (CX.out _ hR.st).mono ?_)
        rintro e w2 ⟨rfl, rfl⟩
        go_simp
        refine hK.out _ _ ?_
        exact ⟨(fun jz => if jz = 16 then (.func (.func 34) #[] #[.pointer (some ⟨sb, 0, none⟩)]) else if jz = 17 then .int .i64 x else if jz = 12 then .bool false else if jz = 18 then (.int .i64 d2) else v jz), rfl, ⟨hR.st, hR.w2.o, hR.w5.o, hR.w6.o, hR.w7.o, hR.w8.o, hR.w9.o, hR.w10.o, hR.w11.o, hR.w12.o, (fun _ j hj => upd_on (hw j hj)), hR.w14.o, hR.w15.o, hR.w16.o, hR.w17.o, hR.w18.o, hR.w19.o, hR.w20.o, hR.w21.o, hR.f0.k, hR.f1.k, hR.f2.k, hR.f3.k, hR.f4.k, hR.f5.k, hR.f6.k, (fun _ => rfl), hR.f8.k, hR.f9.k, hR.f10.k, (fun _ => rfl), (fun _ => rfl), (fun _ => rfl), hR.f14.k, hR.f15.k, hR.f16.k, hR.f17.k, hR.f18.k, hR.f19.k, hR.f20.k, hR.f21.k⟩⟩
      refine EachOf.cons [7, 10, 13] rfl (by kernel_rfl) ?_ ?_
      · rintro L A W ⟨v, rfl, hR⟩ hi hw K hK
        have e10 := hR.f10 (hw 10 (by simp))
        have e13 := hR.f13 (hw 13 (by simp))
        have e7 := hR.f7 (hw 7 (by simp))
        simp only [e10, e13, e7]
        clear e10 e13 e7
        go_simp
        refine hK.out _ _ ?_
        exact ⟨(fun jz => if jz = 15 then (.int .i64 d1) else if jz = 18 then (.int .i64 d2) else if jz = 12 then .bool false else if jz = 19 then .bool false else v jz), rfl, ⟨hR.st, hR.w2.o, hR.w5.o, hR.w6.o, hR.w7.o, hR.w8.o, hR.w9.o, hR.w10.o, hR.w11.o, hR.w12.o, hR.w13.o, (fun _ j hj => upd_on (hw j hj)), hR.w15.o, hR.w16.o, hR.w17.o, hR.w18.o, hR.w19.o, hR.w20.o, hR.w21.o, hR.f0.k, hR.f1.k, hR.f2.k, hR.f3.k, hR.f4.k, hR.f5.k, hR.f6.k, (fun _ => rfl), hR.f8.k, hR.f9.k, (fun _ => rfl), hR.f11.k, hR.f12.k, (fun _ => rfl), (fun _ => rfl), hR.f15.k, hR.f16.k, hR.f17.k, hR.f18.k, hR.f19.k, hR.f20.k, hR.f21.k⟩⟩
      refine EachOf.cons [7, 14] rfl (by kernel_rfl) ?_ ?_
      · rintro L A W ⟨v, rfl, hR⟩ hi hw K hK
        have e14 := hR.f14 (hw 14 (by simp))
        have e7 := hR.f7 (hw 7 (by simp))
        simp only [e14, e7]
        clear e14 e7
        go_simp
        refine hK.out _ _ ?_
        exact ⟨(fun jz => if jz = 19 then .bool false else if jz = 12 then .bool false else if jz = 20 then .bool false else v jz), rfl, ⟨hR.st, hR.w2.o, hR.w5.o, hR.w6.o, hR.w7.o, hR.w8.o, hR.w9.o, hR.w10.o, hR.w11.o, hR.w12.o, hR.w13.o, hR.w14.o, (fun _ j hj => upd_on (hw j hj)), hR.w16.o, hR.w17.o, hR.w18.o, hR.w19.o, hR.w20.o, hR.w21.o, hR.f0.k, hR.f1.k, hR.f2.k, hR.f3.k, hR.f4.k, hR.f5.k, hR.f6.k, (fun _ => rfl), hR.f8.k, hR.f9.k, hR.f10.k, hR.f11.k, hR.f12.k, hR.f13.k, (fun _ => rfl), (fun _ => rfl), hR.f16.k, hR.f17.k, hR.f18.k, hR.f19.k, hR.f20.k, hR.f21.k⟩⟩
      refine EachOf.cons [15] rfl (by kernel_rfl) ?_ ?_
      · rintro L A W ⟨v, rfl, hR⟩ hi hw K hK
        have e15 := hR.f15 (hw 15 (by simp))
        simp only [e15]
        clear e15
        go_simp
        refine hK.out _ _ ?_
        exact ⟨(fun jz => if jz = 20 then .bool false else if jz = 21 then undef else v jz), rfl, ⟨hR.st, hR.w2.o, hR.w5.o, hR.w6.o, hR.w7.o, hR.w8.o, hR.w9.o, hR.w10.o, hR.w11.o, hR.w12.o, hR.w13.o, hR.w14.o, hR.w15.o, (fun _ j hj => upd_on (hw j hj)), hR.w17.o, hR.w18.o, hR.w19.o, hR.w20.o, hR.w21.o, hR.f0.k, hR.f1.k, hR.f2.k, hR.f3.k, hR.f4.k, hR.f5.k, hR.f6.k, hR.f7.k, hR.f8.k, hR.f9.k, hR.f10.k, hR.f11.k, hR.f12.k, hR.f13.k, hR.f14.k, (fun _ => rfl), (fun _ => rfl), hR.f17.k, hR.f18.k, hR.f19.k, hR.f20.k, hR.f21.k⟩⟩
      refine EachOf.cons [15] rfl (by kernel_rfl) ?_ ?_
      · rintro L A W ⟨v, rfl, hR⟩ hi hw K hK
        have e15 := hR.f15 (hw 15 (by simp))
        simp only [e15]
        clear e15
        go_simp
        refine hK.out _ _ ?_
        exact ⟨(fun jz => if jz = 20 then .bool false else if jz = 22 then undef else v jz), rfl, ⟨hR.st, hR.w2.o, hR.w5.o, hR.w6.o, hR.w7.o, hR.w8.o, hR.w9.o, hR.w10.o, hR.w11.o, hR.w12.o, hR.w13.o, hR.w14.o, hR.w15.o, hR.w16.o, (fun _ j hj => upd_on (hw j hj)), hR.w18.o, hR.w19.o, hR.w20.o, hR.w21.o, hR.f0.k, hR.f1.k, hR.f2.k, hR.f3.k, hR.f4.k, hR.f5.k, hR.f6.k, hR.f7.k, hR.f8.k, hR.f9.k, hR.f10.k, hR.f11.k, hR.f12.k, hR.f13.k, hR.f14.k, (fun _ => rfl), hR.f16.k, (fun _ => rfl), hR.f18.k, hR.f19.k, hR.f20.k, hR.f21.k⟩⟩
      refine EachOf.cons [15, 16, 17] rfl (by kernel_rfl) ?_ ?_
      · rintro L A W ⟨v, rfl, hR⟩ hi hw K hK
        have e16 := hR.f16 (hw 16 (by simp))
        have e17 := hR.f17 (hw 17 (by simp))
        have e15 := hR.f15 (hw 15 (by simp))
        simp only [e16, e17, e15]
        clear e16 e17 e15
        go_simp
        refine hK.out _ _ ?_
        exact ⟨(fun jz => if jz = 21 then undef else if jz = 22 then undef else if jz = 20 then .bool false else if jz = 23 then undef else v jz), rfl, ⟨hR.st, hR.w2.o, hR.w5.o, hR.w6.o, hR.w7.o, hR.w8.o, hR.w9.o, hR.w10.o, hR.w11.o, hR.w12.o, hR.w13.o, hR.w14.o, hR.w15.o, hR.w16.o, hR.w17.o, (fun _ j hj => upd_on (hw j hj)), hR.w19.o, hR.w20.o, hR.w21.o, hR.f0.k, hR.f1.k, hR.f2.k, hR.f3.k, hR.f4.k, hR.f5.k, hR.f6.k, hR.f7.k, hR.f8.k, hR.f9.k, hR.f10.k, hR.f11.k, hR.f12.k, hR.f13.k, hR.f14.k, (fun _ => rfl), (fun _ => rfl), (fun _ => rfl), (fun _ => rfl), hR.f19.k, hR.f20.k, hR.f21.k⟩⟩
      refine EachOf.cons [7, 15, 18] rfl (by kernel_rfl) ?_ ?_
      · rintro L A W ⟨v, rfl, hR⟩ hi hw K hK
        have e15 := hR.f15 (hw 15 (by simp))
        have e18 := hR.f18 (hw 18 (by simp))
        have e7 := hR.f7 (hw 7 (by simp))
        simp only [e15, e18, e7]
        clear e15 e18 e7
        go_simp
        refine hK.out _ _ ?_
        exact ⟨(fun jz => if jz = 20 then .bool false else if jz = 23 then undef else if jz = 12 then .bool false else if jz = 24 then .bool false else v jz), rfl, ⟨hR.st, hR.w2.o, hR.w5.o, hR.w6.o, hR.w7.o, hR.w8.o, hR.w9.o, hR.w10.o, hR.w11.o, hR.w12.o, hR.w13.o, hR.w14.o, hR.w15.o, hR.w16.o, hR.w17.o, hR.w18.o, (fun _ j hj => upd_on (hw j hj)), hR.w20.o, hR.w21.o, hR.f0.k, hR.f1.k, hR.f2.k, hR.f3.k, hR.f4.k, hR.f5.k, hR.f6.k, (fun _ => rfl), hR.f8.k, hR.f9.k, hR.f10.k, hR.f11.k, hR.f12.k, hR.f13.k, hR.f14.k, (fun _ => rfl), hR.f16.k, hR.f17.k, (fun _ => rfl), (fun _ => rfl), hR.f20.k, hR.f21.k⟩⟩
      refine EachOf.cons [7, 19] rfl (by kernel_rfl) ?_ ?_
      · rintro L A W ⟨v, rfl, hR⟩ hi hw K hK
        have e7 := hR.f7 (hw 7 (by simp))
        have e19 := hR.f19 (hw 19 (by simp))
        simp only [e7, e19]
        clear e7 e19
        go_simp
        refine hK.out _ _ ?_
        exact ⟨(fun jz => if jz = 12 then .bool false else if jz = 24 then .bool false else if jz = 25 then .bool false else v jz), rfl, ⟨hR.st, hR.w2.o, hR.w5.o, hR.w6.o, hR.w7.o, hR.w8.o, hR.w9.o, hR.w10.o, hR.w11.o, hR.w12.o, hR.w13.o, hR.w14.o, hR.w15.o, hR.w16.o, hR.w17.o, hR.w18.o, hR.w19.o, (fun _ j hj => upd_on (hw j hj)), hR.w21.o, hR.f0.k, hR.f1.k, hR.f2.k, hR.f3.k, hR.f4.k, hR.f5.k, hR.f6.k, (fun _ => rfl), hR.f8.k, hR.f9.k, hR.f10.k, hR.f11.k, hR.f12.k, hR.f13.k, hR.f14.k, hR.f15.k, hR.f16.k, hR.f17.k, hR.f18.k, (fun _ => rfl), (fun _ => rfl), hR.f21.k⟩⟩
      refine EachOf.cons [20] rfl (by kernel_rfl) ?_ ?_
      · rintro L A W ⟨v, rfl, hR⟩ hi hw K hK
        have e20 := hR.f20 (hw 20 (by simp))
        simp only [e20]
        clear e20
        go_simp
        refine hK.out _ _ ?_
        exact ⟨(fun jz => if jz = 25 then .bool false else if jz = 4 then .bool false else v jz), rfl, ⟨hR.st, hR.w2.o, hR.w5.o, hR.w6.o, hR.w7.o, hR.w8.o, hR.w9.o, hR.w10.o, hR.w11.o, hR.w12.o, hR.w13.o, hR.w14.o, hR.w15.o, hR.w16.o, hR.w17.o, hR.w18.o, hR.w19.o, hR.w20.o, (fun _ j hj => upd_on (hw j hj)), hR.f0.k, hR.f1.k, hR.f2.k, hR.f3.k, hR.f4.k, hR.f5.k, hR.f6.k, hR.f7.k, hR.f8.k, hR.f9.k, hR.f10.k, hR.f11.k, hR.f12.k, hR.f13.k, hR.f14.k, hR.f15.k, hR.f16.k, hR.f17.k, hR.f18.k, hR.f19.k, (fun _ => rfl), (fun _ => rfl)⟩⟩
      exact EachOf.nil
    · rintro L A W ⟨v, rfl, hR⟩ hall
      have hst := Lib.hid hR.st
      have e21 := hR.f21 (hall 21 (by simp))
      simp only [e21]
      clear hR e21 hall
      go_wp2_with fail
      go_ret
      exact ⟨rfl, hst.out⟩
theorem noNear_any (ra : Option Addr) (c : Nat) (zs : List Int) (fb xb : Nat) (w : World) (hz : ZRow w ra zs) (hn : zs.length ≤ 4096)
    (hF : Hid (∀ W, Below w.heap.size w W → ∀ j, j < zs.length → Calls Tryd.prog 36 #[.int .i64 (nth zs j), .pointer (some ⟨fb, 0, none⟩), .pointer (some ⟨xb, 0, none⟩)] W fun e w' => e = .returned (.bool false) ∧ Below W.heap.size W w')) :
    Calls Tryd.prog 35 #[.slice ra zs.length c, .func (.func 36) #[] #[.pointer (some ⟨fb, 0, none⟩), .pointer (some ⟨xb, 0, none⟩)]] w fun e w' => e = .returned (.bool false) ∧ Below w.heap.size w w' := by
  have CI : Calls Tryd.prog 62 #[.slice ra zs.length c, .func (.func 36) #[] #[.pointer (some ⟨fb, 0, none⟩), .pointer (some ⟨xb, 0, none⟩)]] w fun e w' => e = .returned (.int .i64 (-1)) ∧ Below w.heap.size w w' := by
    have HZ := Lib.hid hz
    have S0 : Hid (Below w.heap.size w w) := Below.refl _ _
    clear hz
    go_enter Tryd.func62, Tryd.ntmps62
    go_wp2_with fail
    go_loopg [8] zs.length (fun g s8 wx => ∃ i : Nat, s8 = .int .i64 i ∧ g = zs.length - i ∧ i ≤ zs.length ∧ Hid (Below w.heap.size w wx))
    case atStart => exact ⟨0, rfl, rfl, Nat.zero_le _, S0⟩
    case round =>
      clear S0
      obtain ⟨i, rfl, rfl, hi, S⟩ := hrel
      rename World => W1
      by_cases hlt : i < zs.length
      · have wi : IntKind.i64.wrap ((i : Int) + 1) = ((i + 1 : Nat) : Int) := by rw [IntWalk.i64_in _ (by omega)]; omega
        have li : (i : Int) < (zs.length : Int) := by omega
        obtain ⟨zg, zo, rfl, hzl, hzc⟩ := (HZ.out.on S.out) (by omega)
        have p1 := hzc i hlt
        have K := Lib.hid (hF.out W1 S.out i hlt)
        generalize nth zs i = y at *
        clear hzc HZ hF
        go_wp2_with (go_at_call 36; (with_reducible refine ((K.out).mono ?_)); rintro e w2 ⟨rfl, hb2⟩)
        go_roundg (zs.length - (i + 1))
        case measure => omega
        case rel => exact ⟨i + 1, rfl, rfl, by omega, below_on S.out hb2⟩
      · have li : ¬ (i : Int) < (zs.length : Int) := by omega
        go_wp2_with fail
        go_ret
        exact ⟨rfl, S.out⟩
  have C := Lib.hid CI
  clear hz CI hF
  generalize zs.length = N at *
  go_enter Tryd.func35, Tryd.ntmps35
  go_wp2_with (go_at_call 62; (with_reducible refine ((C.out).mono ?_)); rintro e w2 ⟨rfl, hb⟩)
  go_ret
  exact ⟨rfl, hb⟩
/-- The sum of the first i of the numbers that are named. -/
def preS (f : Nat → Int) (l : List Nat) (i : Nat) : Int := ((l.take i).map f).sum
theorem preS_zero (f : Nat → Int) (l : List Nat) : preS f l 0 = 0 := rfl
theorem preS_succ {f : Nat → Int} {l : List Nat} {i : Nat} (h : i < l.length) : preS f l (i + 1) = preS f l i + f (l.getD i 0) := by
  unfold preS
  rw [List.take_succ_eq_append_getElem h, List.map_append, List.sum_append, List.getD_eq_getElem?_getD, List.getElem?_eq_getElem h]
  simp
theorem preS_all (p : Nat → Bool) (f : Nat → Int) (n : Nat) : preS f (ixs p n) (ixs p n).length = smS p f n := by
  unfold preS
  rw [List.take_length]
  induction n with
  | zero => rfl
  | succ n ih =>
    unfold ixs at ih ⊢
    rw [List.range_succ, List.filter_append, List.map_append, List.sum_append, ih, smS]
    cases h : p n <;> simp [h]
theorem preS_bd {f : Nat → Int} {l : List Nat} {n : Nat} (hl : ∀ k ∈ l, k < n) (hf : ∀ i, i < n → -1125899906842624 ≤ f i ∧ f i ≤ 1125899906842624) : ∀ i, i ≤ l.length → -(i * 1125899906842624) ≤ preS f l i ∧ preS f l i ≤ i * 1125899906842624
  | 0, _ => by rw [preS_zero]; omega
  | i + 1, h => by
    have q := preS_bd hl hf i (by omega)
    rw [preS_succ (by omega)]
    have := hf (l.getD i 0) (hl _ (by rw [List.getD_eq_getElem?_getD, List.getElem?_eq_getElem (by omega)]; exact List.getElem_mem _))
    omega
theorem ixs_lt (p : Nat → Bool) (n : Nat) : ∀ k ∈ ixs p n, k < n := fun k hk => by
  unfold ixs at hk
  exact List.mem_range.1 (List.mem_filter.1 hk).1
theorem ixs_up (p : Nat → Bool) (n : Nat) (i : Nat) (h : i + 1 < (ixs p n).length) : (ixs p n).getD i 0 < (ixs p n).getD (i + 1) 0 := by
  have a : (ixs p n).Pairwise (· < ·) := List.Pairwise.filter _ List.pairwise_lt_range
  rw [List.getD_eq_getElem?_getD, List.getElem?_eq_getElem (by omega), List.getD_eq_getElem?_getD, List.getElem?_eq_getElem h]
  exact (List.pairwise_iff_getElem.1 a) i (i + 1) (by omega) h (by omega)
end Go.Proofs.YtlgpckjhnohhhaaDoor
