/- Layer 10's reference: right holds. -/
import Derived.Test.YtcghjjfpjiacfaaDoorKR1
namespace Go.Proofs.YtcghjjfpjiacfaaDoor
open Go.ChangeShapes Go.WideShapes Go.ChangeAt Go.RowKit Go.Joins Go.Deep Go.Shelf
set_option linter.unusedVariables false

structure KhaR (b4 : Nat) (u d : Int) (t nt : Bool) (Wc : World) (L : Nat → Bool) (v : Nat → Value) (W : World) : Prop where
  st : Below Wc.heap.size Wc W
  w1 : Had L 1 (∀ j ∈ [0], L j = true)
  w2 : Had L 2 (∀ j ∈ [1], L j = true)
  w3 : Had L 3 (∀ j ∈ [1, 2], L j = true)
  w4 : Had L 4 (∀ j ∈ [1], L j = true)
  w5 : Had L 5 (∀ j ∈ [1, 3, 4], L j = true)
  w6 : Had L 6 (∀ j ∈ [1, 5], L j = true)
  w7 : Had L 7 (∀ j ∈ [6], L j = true)
  w8 : Had L 8 (∀ j ∈ [7], L j = true)
  w9 : Had L 9 (∀ j ∈ [7, 8], L j = true)
  w10 : Had L 10 (∀ j ∈ [7, 9], L j = true)
  w11 : Had L 11 (∀ j ∈ [7, 10], L j = true)
  w12 : Had L 12 (∀ j ∈ [7, 11], L j = true)
  f0 : Had L 0 (v 7 = .bool false)
  f1 : Had L 1 (v 8 = .bool false)
  f2 : Had L 2 (v 9 = undef)
  f3 : Had L 3 (v 10 = undef)
  f4 : Had L 4 (v 11 = undef)
  f5 : Had L 5 (v 12 = undef)
  f6 : Had L 6 (v 13 = .bool false)
  f7 : Had L 7 (v 14 = .bool false)
  f8 : Had L 8 (v 15 = .pointer (some ⟨b4, 2, none⟩))
  f9 : Had L 9 (v 16 = .agg #[.int .i64 u, .int .i64 d])
  f10 : Had L 10 (v 17 = .bool t)
  f11 : Had L 11 (v 18 = .bool nt)
  f12 : Had L 12 (v 19 = .bool nt)
structure KhbR (b4 : Nat) (Wc : World) (L : Nat → Bool) (v : Nat → Value) (W : World) : Prop where
  st : Below Wc.heap.size Wc W
  w1 : Had L 1 (∀ j ∈ [0], L j = true)
  w2 : Had L 2 (∀ j ∈ [1], L j = true)
  w3 : Had L 3 (∀ j ∈ [1, 2], L j = true)
  w4 : Had L 4 (∀ j ∈ [1], L j = true)
  w5 : Had L 5 (∀ j ∈ [1, 3, 4], L j = true)
  w6 : Had L 6 (∀ j ∈ [1, 5], L j = true)
  w7 : Had L 7 (∀ j ∈ [6], L j = true)
  w8 : Had L 8 (∀ j ∈ [7], L j = true)
  w9 : Had L 9 (∀ j ∈ [7, 8], L j = true)
  w10 : Had L 10 (∀ j ∈ [7, 9], L j = true)
  w11 : Had L 11 (∀ j ∈ [7, 10], L j = true)
  w12 : Had L 12 (∀ j ∈ [7, 11], L j = true)
  f0 : Had L 0 (v 7 = .bool true)
  f1 : Had L 1 (v 8 = .bool true)
  f2 : Had L 2 (v 9 = .pointer (some ⟨b4, 2, none⟩))
  f3 : Had L 3 (v 10 = .agg #[.int .i64 1, .int .i64 1])
  f4 : Had L 4 (v 11 = .agg #[.int .i64 1, .int .i64 1])
  f5 : Had L 5 (v 12 = .bool false)
  f6 : Had L 6 (v 13 = .bool false)
  f7 : Had L 7 (v 14 = .bool false)
  f8 : Had L 8 (v 15 = .pointer (some ⟨b4, 2, none⟩))
  f9 : Had L 9 (v 16 = .agg #[.int .i64 1, .int .i64 1])
  f10 : Had L 10 (v 17 = .bool true)
  f11 : Had L 11 (v 18 = .bool false)
  f12 : Had L 12 (v 19 = .bool false)
structure KhcR (b4 : Nat) (d : Int) (Wc : World) (L : Nat → Bool) (v : Nat → Value) (W : World) : Prop where
  st : Below Wc.heap.size Wc W
  w1 : Had L 1 (∀ j ∈ [0], L j = true)
  w2 : Had L 2 (∀ j ∈ [1], L j = true)
  w3 : Had L 3 (∀ j ∈ [1, 2], L j = true)
  w4 : Had L 4 (∀ j ∈ [1], L j = true)
  w5 : Had L 5 (∀ j ∈ [1, 3, 4], L j = true)
  w6 : Had L 6 (∀ j ∈ [1, 5], L j = true)
  w7 : Had L 7 (∀ j ∈ [6], L j = true)
  w8 : Had L 8 (∀ j ∈ [7], L j = true)
  w9 : Had L 9 (∀ j ∈ [7, 8], L j = true)
  w10 : Had L 10 (∀ j ∈ [7, 9], L j = true)
  w11 : Had L 11 (∀ j ∈ [7, 10], L j = true)
  w12 : Had L 12 (∀ j ∈ [7, 11], L j = true)
  f0 : Had L 0 (v 7 = .bool true)
  f1 : Had L 1 (v 8 = .bool true)
  f2 : Had L 2 (v 9 = .pointer (some ⟨b4, 2, none⟩))
  f3 : Had L 3 (v 10 = .agg #[.int .i64 1, .int .i64 d])
  f4 : Had L 4 (v 11 = .agg #[.int .i64 1, .int .i64 1])
  f5 : Had L 5 (v 12 = .bool true)
  f6 : Had L 6 (v 13 = .bool true)
  f7 : Had L 7 (v 14 = .bool true)
  f8 : Had L 8 (v 15 = undef)
  f9 : Had L 9 (v 16 = undef)
  f10 : Had L 10 (v 17 = undef)
  f11 : Had L 11 (v 18 = undef)
  f12 : Had L 12 (v 19 = .bool true)
structure KhdR (b4 : Nat) (u d : Int) (Wc : World) (L : Nat → Bool) (v : Nat → Value) (W : World) : Prop where
  st : Below Wc.heap.size Wc W
  w1 : Had L 1 (∀ j ∈ [0], L j = true)
  w2 : Had L 2 (∀ j ∈ [1], L j = true)
  w3 : Had L 3 (∀ j ∈ [1, 2], L j = true)
  w4 : Had L 4 (∀ j ∈ [1], L j = true)
  w5 : Had L 5 (∀ j ∈ [1, 3, 4], L j = true)
  w6 : Had L 6 (∀ j ∈ [1, 5], L j = true)
  w7 : Had L 7 (∀ j ∈ [6], L j = true)
  w8 : Had L 8 (∀ j ∈ [7], L j = true)
  w9 : Had L 9 (∀ j ∈ [7, 8], L j = true)
  w10 : Had L 10 (∀ j ∈ [7, 9], L j = true)
  w11 : Had L 11 (∀ j ∈ [7, 10], L j = true)
  w12 : Had L 12 (∀ j ∈ [7, 11], L j = true)
  f0 : Had L 0 (v 7 = .bool true)
  f1 : Had L 1 (v 8 = .bool true)
  f2 : Had L 2 (v 9 = .pointer (some ⟨b4, 2, none⟩))
  f3 : Had L 3 (v 10 = .agg #[.int .i64 u, .int .i64 d])
  f4 : Had L 4 (v 11 = .agg #[.int .i64 1, .int .i64 1])
  f5 : Had L 5 (v 12 = .bool true)
  f6 : Had L 6 (v 13 = .bool true)
  f7 : Had L 7 (v 14 = .bool true)
  f8 : Had L 8 (v 15 = undef)
  f9 : Had L 9 (v 16 = undef)
  f10 : Had L 10 (v 17 = undef)
  f11 : Had L 11 (v 18 = undef)
  f12 : Had L 12 (v 19 = .bool true)
theorem kOf1_any (w : World) : Calls Tryd.prog 120 #[.int .i64 1] w fun e w' => e = .returned (.agg #[.int .i64 1, .int .i64 1]) ∧ Below w.heap.size w w' := by
  go_enter Tryd.func120, Tryd.ntmps120
  go_wp2
  go_returns
  exact ⟨rfl, by go_grown⟩
theorem losS_1 : losS 1 1 = true := by decide
set_option maxRecDepth 100000 in
set_option maxHeartbeats 16000000 in
theorem rhold_any (ba : Option Addr) (nb bc : Nat) (bn : Nat → ByteArray) (bw : Nat → Int) (ra : Option Addr) (nr rc : Nat) (x : ByteArray) (p u d : Int) (e : Bool) (w : World) (hl : BlkR w ba nb bn bw) (hn : nb ≤ 1000) (hu : i64r u) (hd : i64r d) (v : Bool) (hv : hldB (knB bn nb x) ⟨x, p, u, d⟩ e = v) :
    Calls Tryd.prog 102 #[.agg #[.slice ba nb bc, .slice ra nr rc], .agg #[.string x, .int .i64 p, .int .i64 u, .int .i64 d], .bool e] w fun e w' => e = .returned (.bool v) ∧ Below w.heap.size w w' := by
  obtain ⟨w1, hw1⟩ : ∃ W, W = (w.alloc (Obj.cells #[Value.slice ba nb bc, .slice ra nr rc] 36)).alloc (Obj.cells #[Value.string x, .int .i64 p, .int .i64 u, .int .i64 d] 64) := ⟨_, rfl⟩
  obtain ⟨b3, hb3⟩ : ∃ x, x = w.heap.size := ⟨_, rfl⟩
  obtain ⟨b4, hb4⟩ : ∃ x, x = w.heap.size + 1 := ⟨_, rfl⟩
  have hB0 : Below (w.alloc (Obj.cells #[Value.slice ba nb bc, .slice ra nr rc] 36)).heap.size (w.alloc (Obj.cells #[Value.slice ba nb bc, .slice ra nr rc] 36)) w1 := by rw [hw1]; exact (Below.refl _ _).alloc (Nat.le_refl _) _
  have hS : C2 w1 b3 (.slice ba nb bc) (.slice ra nr rc) := by rw [hb3]; exact (C2.new w _ _ _).on hB0
  have hC : C4 w1 b4 (.string x) (.int .i64 p) (.int .i64 u) (.int .i64 d) := by
    rw [hw1, hb4, show w.heap.size + 1 = (w.alloc (Obj.cells #[Value.slice ba nb bc, .slice ra nr rc] 36)).heap.size by simp]
    exact C4.new _ _ _ _ _ _
  have hB : Below w.heap.size w w1 := below_on ((Below.refl _ _).alloc (Nat.le_refl _) _) hB0
  have HB := Lib.hid hB
  have HL := Lib.hid (hl.on hB)
  have HCS := Lib.hid (And.intro hS hC)
  have HD : Hid (b3 = w.heap.size ∧ b4 = w.heap.size + 1 ∧ w1 = (w.alloc (Obj.cells #[Value.slice ba nb bc, .slice ra nr rc] 36)).alloc (Obj.cells #[Value.string x, .int .i64 p, .int .i64 u, .int .i64 d] 64)) := ⟨hb3, hb4, hw1⟩
  have CF : Hid (∀ W, Below w1.heap.size w1 W → Calls Tryd.prog 31 #[.agg #[.slice ba nb bc, .slice ra nr rc], .string x] W fun e w' => e = .returned (.int .i64 (fbI bn x nb)) ∧ Below W.heap.size W w') := fun W hW => fBlock_any ba nb bc bn bw ra nr rc (fun _ => ⟨ByteArray.empty, none, 0, 0, fun _ => ⟨ByteArray.empty, 0, 0, 0⟩, false⟩) x W (HL.out.on hW) hn _ rfl
  have CR : Hid (∀ W, Calls Tryd.prog 121 #[.agg #[.int .i64 u, .int .i64 d]] W fun e w' => e = .returned (.bool (losS u d)) ∧ Below W.heap.size W w') := fun W => rightLoss_any u d W hu hd _ rfl
  have CO := fun W => Lib.hid (kOf1_any W)
  have hfn := fbI_neg (f := bn) (n := nb) (x := x)
  obtain ⟨kn, hkn⟩ : ∃ k, knB bn nb x = k := ⟨_, rfl⟩
  obtain ⟨fb, hfb⟩ : ∃ z, fbI bn x nb = z := ⟨_, rfl⟩
  rw [hkn] at hv hfn
  rw [hfb] at hfn CF
  have HF := Lib.hid hfn
  have LU := Lib.hid (And.intro hC.c2 hC.lt)
  have LD := Lib.hid (And.intro hC.c3 hC.lt)
  clear hb3 hb4 hw1 hB0 hS hC hB hl hu hd hkn hfb hfn
  cases e
  · obtain ⟨t, ht⟩ : ∃ t, losS u d = t := ⟨_, rfl⟩
    have hv2 : v = (plB kn ⟨x, p, u, d⟩ false && t) := by rw [← hv, ← ht]; rfl
    obtain ⟨nt, hnt⟩ : ∃ z, (!t) = z := ⟨_, rfl⟩
    rw [ht] at CR
    clear hv ht
    go_enter Tryd.func102, Tryd.ntmps102
    go_upto_region 1 with fail
    rw [← HD.out.2.2, ← HD.out.2.1, ← HD.out.1]
    clear HD
    refine wp_region_each (fun L A W => ∃ (v : Nat → Value), A = ⟨#[_, _, _, _, _, _, _, v 7, v 8, v 9, v 10, v 11, v 12, v 13, v 14, v 15, v 16, v 17, v 18, v 19, _, _, _, _, _, _, _, _, _, _, _, _, _, _, _, _, _, _, _, _, _, _, _, _, _, _, _, _, _, _, _, _, _], []⟩ ∧ KhaR b4 u d t nt w1 L v W) (by kernel_rfl) (by kernel_rfl) ⟨fun jz => if jz = 7 then undef else if jz = 8 then undef else if jz = 9 then undef else if jz = 10 then undef else if jz = 11 then undef else if jz = 12 then undef else if jz = 13 then undef else if jz = 14 then undef else if jz = 15 then undef else if jz = 16 then undef else if jz = 17 then undef else if jz = 18 then undef else if jz = 19 then undef else undef, rfl, ⟨Below.drew (Below.refl _ _), Had.none, Had.none, Had.none, Had.none, Had.none, Had.none, Had.none, Had.none, Had.none, Had.none, Had.none, Had.none, Had.none, Had.none, Had.none, Had.none, Had.none, Had.none, Had.none, Had.none, Had.none, Had.none, Had.none, Had.none, Had.none⟩⟩ (rs := [0, 1, 2, 3, 4, 5, 6, 7, 8, 9, 10, 11, 12]) (by kernel_rfl) ?_ ?_
    · refine EachOf.cons [] rfl (by kernel_rfl) ?_ ?_
      · rintro L A W ⟨v, rfl, hR⟩ hi hw K hK
        go_simp
        refine hK.out _ _ ?_
        exact ⟨(fun jz => if jz = 7 then .bool false else v jz), rfl, ⟨hR.st, hR.w1.o, hR.w2.o, hR.w3.o, hR.w4.o, hR.w5.o, hR.w6.o, hR.w7.o, hR.w8.o, hR.w9.o, hR.w10.o, hR.w11.o, hR.w12.o, (fun _ => rfl), hR.f1.k, hR.f2.k, hR.f3.k, hR.f4.k, hR.f5.k, hR.f6.k, hR.f7.k, hR.f8.k, hR.f9.k, hR.f10.k, hR.f11.k, hR.f12.k⟩⟩
      refine EachOf.cons [0] rfl (by kernel_rfl) ?_ ?_
      · rintro L A W ⟨v, rfl, hR⟩ hi hw K hK
        have e0 := hR.f0 (hw 0 (by simp))
        simp only [e0]
        clear e0
        go_simp
        refine hK.out _ _ ?_
        exact ⟨(fun jz => if jz = 7 then .bool false else if jz = 8 then .bool false else v jz), rfl, ⟨hR.st, (fun _ j hj => upd_on (hw j hj)), hR.w2.o, hR.w3.o, hR.w4.o, hR.w5.o, hR.w6.o, hR.w7.o, hR.w8.o, hR.w9.o, hR.w10.o, hR.w11.o, hR.w12.o, (fun _ => rfl), (fun _ => rfl), hR.f2.k, hR.f3.k, hR.f4.k, hR.f5.k, hR.f6.k, hR.f7.k, hR.f8.k, hR.f9.k, hR.f10.k, hR.f11.k, hR.f12.k⟩⟩
      refine EachOf.cons [1] rfl (by kernel_rfl) ?_ ?_
      · rintro L A W ⟨v, rfl, hR⟩ hi hw K hK
        have e1 := hR.f1 (hw 1 (by simp))
        simp only [e1]
        clear e1
        go_simp
        refine hK.out _ _ ?_
        exact ⟨(fun jz => if jz = 8 then .bool false else if jz = 9 then undef else v jz), rfl, ⟨hR.st, hR.w1.o, (fun _ j hj => upd_on (hw j hj)), hR.w3.o, hR.w4.o, hR.w5.o, hR.w6.o, hR.w7.o, hR.w8.o, hR.w9.o, hR.w10.o, hR.w11.o, hR.w12.o, hR.f0.k, (fun _ => rfl), (fun _ => rfl), hR.f3.k, hR.f4.k, hR.f5.k, hR.f6.k, hR.f7.k, hR.f8.k, hR.f9.k, hR.f10.k, hR.f11.k, hR.f12.k⟩⟩
      refine EachOf.cons [1, 2] rfl (by kernel_rfl) ?_ ?_
      · rintro L A W ⟨v, rfl, hR⟩ hi hw K hK
        have e2 := hR.f2 (hw 2 (by simp))
        have e1 := hR.f1 (hw 1 (by simp))
        simp only [e2, e1]
        clear e2 e1
        go_simp
        refine hK.out _ _ ?_
        exact ⟨(fun jz => if jz = 9 then undef else if jz = 8 then .bool false else if jz = 10 then undef else v jz), rfl, ⟨hR.st, hR.w1.o, hR.w2.o, (fun _ j hj => upd_on (hw j hj)), hR.w4.o, hR.w5.o, hR.w6.o, hR.w7.o, hR.w8.o, hR.w9.o, hR.w10.o, hR.w11.o, hR.w12.o, hR.f0.k, (fun _ => rfl), (fun _ => rfl), (fun _ => rfl), hR.f4.k, hR.f5.k, hR.f6.k, hR.f7.k, hR.f8.k, hR.f9.k, hR.f10.k, hR.f11.k, hR.f12.k⟩⟩
      refine EachOf.cons [1] rfl (by kernel_rfl) ?_ ?_
      · rintro L A W ⟨v, rfl, hR⟩ hi hw K hK
        have e1 := hR.f1 (hw 1 (by simp))
        simp only [e1]
        clear e1
        go_simp
        refine hK.out _ _ ?_
        exact ⟨(fun jz => if jz = 8 then .bool false else if jz = 11 then undef else v jz), rfl, ⟨hR.st, hR.w1.o, hR.w2.o, hR.w3.o, (fun _ j hj => upd_on (hw j hj)), hR.w5.o, hR.w6.o, hR.w7.o, hR.w8.o, hR.w9.o, hR.w10.o, hR.w11.o, hR.w12.o, hR.f0.k, (fun _ => rfl), hR.f2.k, hR.f3.k, (fun _ => rfl), hR.f5.k, hR.f6.k, hR.f7.k, hR.f8.k, hR.f9.k, hR.f10.k, hR.f11.k, hR.f12.k⟩⟩
      refine EachOf.cons [1, 3, 4] rfl (by kernel_rfl) ?_ ?_
      · rintro L A W ⟨v, rfl, hR⟩ hi hw K hK
        have e3 := hR.f3 (hw 3 (by simp))
        have e4 := hR.f4 (hw 4 (by simp))
        have e1 := hR.f1 (hw 1 (by simp))
        simp only [e3, e4, e1]
        clear e3 e4 e1
        go_simp
        refine hK.out _ _ ?_
        exact ⟨(fun jz => if jz = 10 then undef else if jz = 11 then undef else if jz = 8 then .bool false else if jz = 12 then undef else v jz), rfl, ⟨hR.st, hR.w1.o, hR.w2.o, hR.w3.o, hR.w4.o, (fun _ j hj => upd_on (hw j hj)), hR.w6.o, hR.w7.o, hR.w8.o, hR.w9.o, hR.w10.o, hR.w11.o, hR.w12.o, hR.f0.k, (fun _ => rfl), hR.f2.k, (fun _ => rfl), (fun _ => rfl), (fun _ => rfl), hR.f6.k, hR.f7.k, hR.f8.k, hR.f9.k, hR.f10.k, hR.f11.k, hR.f12.k⟩⟩
      refine EachOf.cons [1, 5] rfl (by kernel_rfl) ?_ ?_
      · rintro L A W ⟨v, rfl, hR⟩ hi hw K hK
        have e1 := hR.f1 (hw 1 (by simp))
        have e5 := hR.f5 (hw 5 (by simp))
        simp only [e1, e5]
        clear e1 e5
        go_simp
        refine hK.out _ _ ?_
        exact ⟨(fun jz => if jz = 8 then .bool false else if jz = 12 then undef else if jz = 13 then .bool false else v jz), rfl, ⟨hR.st, hR.w1.o, hR.w2.o, hR.w3.o, hR.w4.o, hR.w5.o, (fun _ j hj => upd_on (hw j hj)), hR.w7.o, hR.w8.o, hR.w9.o, hR.w10.o, hR.w11.o, hR.w12.o, hR.f0.k, (fun _ => rfl), hR.f2.k, hR.f3.k, hR.f4.k, (fun _ => rfl), (fun _ => rfl), hR.f7.k, hR.f8.k, hR.f9.k, hR.f10.k, hR.f11.k, hR.f12.k⟩⟩
      refine EachOf.cons [6] rfl (by kernel_rfl) ?_ ?_
      · rintro L A W ⟨v, rfl, hR⟩ hi hw K hK
        have e6 := hR.f6 (hw 6 (by simp))
        simp only [e6]
        clear e6
        go_simp
        refine hK.out _ _ ?_
        exact ⟨(fun jz => if jz = 13 then .bool false else if jz = 14 then .bool false else v jz), rfl, ⟨hR.st, hR.w1.o, hR.w2.o, hR.w3.o, hR.w4.o, hR.w5.o, hR.w6.o, (fun _ j hj => upd_on (hw j hj)), hR.w8.o, hR.w9.o, hR.w10.o, hR.w11.o, hR.w12.o, hR.f0.k, hR.f1.k, hR.f2.k, hR.f3.k, hR.f4.k, hR.f5.k, (fun _ => rfl), (fun _ => rfl), hR.f8.k, hR.f9.k, hR.f10.k, hR.f11.k, hR.f12.k⟩⟩
      refine EachOf.cons [7] rfl (by kernel_rfl) ?_ ?_
      · rintro L A W ⟨v, rfl, hR⟩ hi hw K hK
        have e7 := hR.f7 (hw 7 (by simp))
        simp only [e7]
        clear e7
        go_simp
        refine hK.out _ _ ?_
        exact ⟨(fun jz => if jz = 14 then .bool false else if jz = 15 then .pointer (some ⟨b4, 2, none⟩) else v jz), rfl, ⟨hR.st, hR.w1.o, hR.w2.o, hR.w3.o, hR.w4.o, hR.w5.o, hR.w6.o, hR.w7.o, (fun _ j hj => upd_on (hw j hj)), hR.w9.o, hR.w10.o, hR.w11.o, hR.w12.o, hR.f0.k, hR.f1.k, hR.f2.k, hR.f3.k, hR.f4.k, hR.f5.k, hR.f6.k, (fun _ => rfl), (fun _ => rfl), hR.f9.k, hR.f10.k, hR.f11.k, hR.f12.k⟩⟩
      refine EachOf.cons [7, 8] rfl (by kernel_rfl) ?_ ?_
      · rintro L A W ⟨v, rfl, hR⟩ hi hw K hK
        have e8 := hR.f8 (hw 8 (by simp))
        have e7 := hR.f7 (hw 7 (by simp))
        simp only [e8, e7]
        clear e8 e7
        have q0 := (hR.st.cell (p := ⟨b4, 2, none⟩) LU.out.2).trans LU.out.1
        have q1 := (hR.st.cell (p := ⟨b4, 3, none⟩) LD.out.2).trans LD.out.1
        go_simp
        refine hK.out _ _ ?_
        exact ⟨(fun jz => if jz = 15 then .pointer (some ⟨b4, 2, none⟩) else if jz = 14 then .bool false else if jz = 16 then .agg #[.int .i64 u, .int .i64 d] else v jz), rfl, ⟨hR.st, hR.w1.o, hR.w2.o, hR.w3.o, hR.w4.o, hR.w5.o, hR.w6.o, hR.w7.o, hR.w8.o, (fun _ j hj => upd_on (hw j hj)), hR.w10.o, hR.w11.o, hR.w12.o, hR.f0.k, hR.f1.k, hR.f2.k, hR.f3.k, hR.f4.k, hR.f5.k, hR.f6.k, (fun _ => rfl), (fun _ => rfl), (fun _ => rfl), hR.f10.k, hR.f11.k, hR.f12.k⟩⟩
      refine EachOf.cons [7, 9] rfl (by kernel_rfl) ?_ ?_
      · rintro L A W ⟨v, rfl, hR⟩ hi hw K hK
        have e9 := hR.f9 (hw 9 (by simp))
        have e7 := hR.f7 (hw 7 (by simp))
        simp only [e9, e7]
        clear e9 e7
        go_simp
        go_at_call 121
        (with_reducible refine ((Lib.hid (CR.out W)).out).mono ?_)
        rintro e w2 ⟨rfl, hb⟩
        go_simp
        refine hK.out _ _ ?_
        exact ⟨(fun jz => if jz = 16 then .agg #[.int .i64 u, .int .i64 d] else if jz = 14 then .bool false else if jz = 17 then .bool t else v jz), rfl, ⟨below_on hR.st hb, hR.w1.o, hR.w2.o, hR.w3.o, hR.w4.o, hR.w5.o, hR.w6.o, hR.w7.o, hR.w8.o, hR.w9.o, (fun _ j hj => upd_on (hw j hj)), hR.w11.o, hR.w12.o, hR.f0.k, hR.f1.k, hR.f2.k, hR.f3.k, hR.f4.k, hR.f5.k, hR.f6.k, (fun _ => rfl), hR.f8.k, (fun _ => rfl), (fun _ => rfl), hR.f11.k, hR.f12.k⟩⟩
      refine EachOf.cons [7, 10] rfl (by kernel_rfl) ?_ ?_
      · rintro L A W ⟨v, rfl, hR⟩ hi hw K hK
        have e10 := hR.f10 (hw 10 (by simp))
        have e7 := hR.f7 (hw 7 (by simp))
        simp only [e10, e7]
        clear e10 e7
        go_simp
        refine hK.out _ _ ?_
        exact ⟨(fun jz => if jz = 17 then .bool t else if jz = 14 then .bool false else if jz = 18 then .bool nt else v jz), rfl, ⟨hR.st, hR.w1.o, hR.w2.o, hR.w3.o, hR.w4.o, hR.w5.o, hR.w6.o, hR.w7.o, hR.w8.o, hR.w9.o, hR.w10.o, (fun _ j hj => upd_on (hw j hj)), hR.w12.o, hR.f0.k, hR.f1.k, hR.f2.k, hR.f3.k, hR.f4.k, hR.f5.k, hR.f6.k, (fun _ => rfl), hR.f8.k, hR.f9.k, (fun _ => rfl), (fun _ => rfl), hR.f12.k⟩⟩
      refine EachOf.cons [7, 11] rfl (by kernel_rfl) ?_ ?_
      · rintro L A W ⟨v, rfl, hR⟩ hi hw K hK
        have e7 := hR.f7 (hw 7 (by simp))
        have e11 := hR.f11 (hw 11 (by simp))
        simp only [e7, e11]
        clear e7 e11
        go_simp
        refine hK.out _ _ ?_
        exact ⟨(fun jz => if jz = 14 then .bool false else if jz = 18 then .bool nt else if jz = 19 then .bool nt else v jz), rfl, ⟨hR.st, hR.w1.o, hR.w2.o, hR.w3.o, hR.w4.o, hR.w5.o, hR.w6.o, hR.w7.o, hR.w8.o, hR.w9.o, hR.w10.o, hR.w11.o, (fun _ j hj => upd_on (hw j hj)), hR.f0.k, hR.f1.k, hR.f2.k, hR.f3.k, hR.f4.k, hR.f5.k, hR.f6.k, (fun _ => rfl), hR.f8.k, hR.f9.k, hR.f10.k, (fun _ => rfl), (fun _ => rfl)⟩⟩
      exact EachOf.nil
    rintro L A W3 ⟨vs, rfl, hR⟩ hL
    have e12 := hR.f12 (hL 12 (by simp))
    simp only [e12]
    have HW := Lib.hid hR.st
    clear e12 hR hL LU LD CO
    cases t
    · obtain rfl : v = false := by rw [hv2]; simp
      obtain rfl : nt = true := hnt.symm
      clear hv2 hnt
      go_wp2_with fail
      go_ret
      exact ⟨rfl, below_on HB.out HW.out⟩
    · rw [Bool.and_true] at hv2
      obtain rfl : nt = false := hnt.symm
      clear hnt
      have c0 := (HCS.out.2.on HW.out).c0
      have c1 := (HCS.out.2.on HW.out).c1
      have s0 := (HCS.out.1.on HW.out).c0
      have s1 := (HCS.out.1.on HW.out).c1
      unfold plB at hv2
      simp only at hv2
      by_cases h0 : x = ByteArray.empty
      · rw [if_pos h0] at hv2
        subst h0
        subst hv2
        go_wp2_with fail
        go_ret
        exact ⟨rfl, below_on HB.out HW.out⟩
      · rw [if_neg h0] at hv2
        have h1 := str_ne h0
        cases kn
        · rw [Bool.false_and] at hv2
          subst hv2
          have hfb := HF.out.2 rfl
          clear HF
          go_wp2_with (go_at_call 31; (with_reducible refine ((CF.out _ HW.out).mono ?_)); rintro e w5 ⟨rfl, hb5⟩; have H5 := Lib.hid (below_on HB.out (below_on HW.out hb5)); clear hb5)
          go_ret
          exact ⟨rfl, H5.out⟩
        · replace hv2 : v = pulS p := by rw [hv2]; rfl
          have hfb : ¬ fb < 0 := fun q => by have := HF.out.1 q; cases this
          clear HF
          by_cases q1 : p = 2
          · subst q1
            obtain rfl : v = true := by rw [hv2]; rfl
            clear hv2
            go_wp2_with (go_at_call 31; (with_reducible refine ((CF.out _ HW.out).mono ?_)); rintro e w5 ⟨rfl, hb5⟩; have H5 := Lib.hid (below_on HB.out (below_on HW.out hb5)); clear c1; have c1 := (HCS.out.2.on (below_on HW.out hb5)).c1; clear hb5)
            go_ret
            exact ⟨rfl, H5.out⟩
          · have r1 : (p == 2) = false := by simp [q1]
            by_cases q2 : p = 0
            · subst q2
              obtain rfl : v = true := by rw [hv2]; rfl
              clear hv2
              go_wp2_with (go_at_call 31; (with_reducible refine ((CF.out _ HW.out).mono ?_)); rintro e w5 ⟨rfl, hb5⟩; have H5 := Lib.hid (below_on HB.out (below_on HW.out hb5)); clear c1; have c1 := (HCS.out.2.on (below_on HW.out hb5)).c1; clear hb5)
              go_ret
              exact ⟨rfl, H5.out⟩
            · have r2 : (p == 0) = false := by simp [q2]
              by_cases q3 : p = -2
              · subst q3
                obtain rfl : v = true := by rw [hv2]; rfl
                clear hv2
                go_wp2_with (go_at_call 31; (with_reducible refine ((CF.out _ HW.out).mono ?_)); rintro e w5 ⟨rfl, hb5⟩; have H5 := Lib.hid (below_on HB.out (below_on HW.out hb5)); clear c1; have c1 := (HCS.out.2.on (below_on HW.out hb5)).c1; clear hb5)
                go_ret
                exact ⟨rfl, H5.out⟩
              · have r3 : (p == -2) = false := by simp [q3]
                obtain rfl : v = false := by rw [hv2]; unfold pulS; rw [r1, r2, r3]; rfl
                clear hv2
                go_wp2_with (go_at_call 31; (with_reducible refine ((CF.out _ HW.out).mono ?_)); rintro e w5 ⟨rfl, hb5⟩; have H5 := Lib.hid (below_on HB.out (below_on HW.out hb5)); clear c1; have c1 := (HCS.out.2.on (below_on HW.out hb5)).c1; clear hb5)
                go_ret
                exact ⟨rfl, H5.out⟩
  · have hv2 : v = (plB kn ⟨x, p, u, d⟩ true && (u == 1 && d == 1)) := by rw [← hv]; rfl
    clear hv
    by_cases h1 : u = 1
    · by_cases h2 : d = 1
      · subst h1
        subst h2
        replace hv2 : v = plB kn ⟨x, p, 1, 1⟩ true := by rw [hv2]; simp
        rw [losS_1] at CR
        go_enter Tryd.func102, Tryd.ntmps102
        go_upto_region 1 with fail
        rw [← HD.out.2.2, ← HD.out.2.1, ← HD.out.1]
        clear HD
        refine wp_region_each (fun L A W => ∃ (v : Nat → Value), A = ⟨#[_, _, _, _, _, _, _, v 7, v 8, v 9, v 10, v 11, v 12, v 13, v 14, v 15, v 16, v 17, v 18, v 19, _, _, _, _, _, _, _, _, _, _, _, _, _, _, _, _, _, _, _, _, _, _, _, _, _, _, _, _, _, _, _, _, _], []⟩ ∧ KhbR b4 w1 L v W) (by kernel_rfl) (by kernel_rfl) ⟨fun jz => if jz = 7 then undef else if jz = 8 then undef else if jz = 9 then undef else if jz = 10 then undef else if jz = 11 then undef else if jz = 12 then undef else if jz = 13 then undef else if jz = 14 then undef else if jz = 15 then undef else if jz = 16 then undef else if jz = 17 then undef else if jz = 18 then undef else if jz = 19 then undef else undef, rfl, ⟨Below.drew (Below.refl _ _), Had.none, Had.none, Had.none, Had.none, Had.none, Had.none, Had.none, Had.none, Had.none, Had.none, Had.none, Had.none, Had.none, Had.none, Had.none, Had.none, Had.none, Had.none, Had.none, Had.none, Had.none, Had.none, Had.none, Had.none, Had.none⟩⟩ (rs := [0, 1, 2, 3, 4, 5, 6, 7, 8, 9, 10, 11, 12]) (by kernel_rfl) ?_ ?_
        · refine EachOf.cons [] rfl (by kernel_rfl) ?_ ?_
          · rintro L A W ⟨v, rfl, hR⟩ hi hw K hK
            go_simp
            refine hK.out _ _ ?_
            exact ⟨(fun jz => if jz = 7 then .bool true else v jz), rfl, ⟨hR.st, hR.w1.o, hR.w2.o, hR.w3.o, hR.w4.o, hR.w5.o, hR.w6.o, hR.w7.o, hR.w8.o, hR.w9.o, hR.w10.o, hR.w11.o, hR.w12.o, (fun _ => rfl), hR.f1.k, hR.f2.k, hR.f3.k, hR.f4.k, hR.f5.k, hR.f6.k, hR.f7.k, hR.f8.k, hR.f9.k, hR.f10.k, hR.f11.k, hR.f12.k⟩⟩
          refine EachOf.cons [0] rfl (by kernel_rfl) ?_ ?_
          · rintro L A W ⟨v, rfl, hR⟩ hi hw K hK
            have e0 := hR.f0 (hw 0 (by simp))
            simp only [e0]
            clear e0
            go_simp
            refine hK.out _ _ ?_
            exact ⟨(fun jz => if jz = 7 then .bool true else if jz = 8 then .bool true else v jz), rfl, ⟨hR.st, (fun _ j hj => upd_on (hw j hj)), hR.w2.o, hR.w3.o, hR.w4.o, hR.w5.o, hR.w6.o, hR.w7.o, hR.w8.o, hR.w9.o, hR.w10.o, hR.w11.o, hR.w12.o, (fun _ => rfl), (fun _ => rfl), hR.f2.k, hR.f3.k, hR.f4.k, hR.f5.k, hR.f6.k, hR.f7.k, hR.f8.k, hR.f9.k, hR.f10.k, hR.f11.k, hR.f12.k⟩⟩
          refine EachOf.cons [1] rfl (by kernel_rfl) ?_ ?_
          · rintro L A W ⟨v, rfl, hR⟩ hi hw K hK
            have e1 := hR.f1 (hw 1 (by simp))
            simp only [e1]
            clear e1
            go_simp
            refine hK.out _ _ ?_
            exact ⟨(fun jz => if jz = 8 then .bool true else if jz = 9 then .pointer (some ⟨b4, 2, none⟩) else v jz), rfl, ⟨hR.st, hR.w1.o, (fun _ j hj => upd_on (hw j hj)), hR.w3.o, hR.w4.o, hR.w5.o, hR.w6.o, hR.w7.o, hR.w8.o, hR.w9.o, hR.w10.o, hR.w11.o, hR.w12.o, hR.f0.k, (fun _ => rfl), (fun _ => rfl), hR.f3.k, hR.f4.k, hR.f5.k, hR.f6.k, hR.f7.k, hR.f8.k, hR.f9.k, hR.f10.k, hR.f11.k, hR.f12.k⟩⟩
          refine EachOf.cons [1, 2] rfl (by kernel_rfl) ?_ ?_
          · rintro L A W ⟨v, rfl, hR⟩ hi hw K hK
            have e2 := hR.f2 (hw 2 (by simp))
            have e1 := hR.f1 (hw 1 (by simp))
            simp only [e2, e1]
            clear e2 e1
            have q0 := (hR.st.cell (p := ⟨b4, 2, none⟩) LU.out.2).trans LU.out.1
            have q1 := (hR.st.cell (p := ⟨b4, 3, none⟩) LD.out.2).trans LD.out.1
            go_simp
            refine hK.out _ _ ?_
            exact ⟨(fun jz => if jz = 9 then .pointer (some ⟨b4, 2, none⟩) else if jz = 8 then .bool true else if jz = 10 then .agg #[.int .i64 1, .int .i64 1] else v jz), rfl, ⟨hR.st, hR.w1.o, hR.w2.o, (fun _ j hj => upd_on (hw j hj)), hR.w4.o, hR.w5.o, hR.w6.o, hR.w7.o, hR.w8.o, hR.w9.o, hR.w10.o, hR.w11.o, hR.w12.o, hR.f0.k, (fun _ => rfl), (fun _ => rfl), (fun _ => rfl), hR.f4.k, hR.f5.k, hR.f6.k, hR.f7.k, hR.f8.k, hR.f9.k, hR.f10.k, hR.f11.k, hR.f12.k⟩⟩
          refine EachOf.cons [1] rfl (by kernel_rfl) ?_ ?_
          · rintro L A W ⟨v, rfl, hR⟩ hi hw K hK
            have e1 := hR.f1 (hw 1 (by simp))
            simp only [e1]
            clear e1
            go_simp
            go_at_call 120
            (with_reducible refine ((CO _).out).mono ?_)
            rintro e w2 ⟨rfl, hb⟩
            go_simp
            refine hK.out _ _ ?_
            exact ⟨(fun jz => if jz = 8 then .bool true else if jz = 11 then .agg #[.int .i64 1, .int .i64 1] else v jz), rfl, ⟨below_on hR.st hb, hR.w1.o, hR.w2.o, hR.w3.o, (fun _ j hj => upd_on (hw j hj)), hR.w5.o, hR.w6.o, hR.w7.o, hR.w8.o, hR.w9.o, hR.w10.o, hR.w11.o, hR.w12.o, hR.f0.k, (fun _ => rfl), hR.f2.k, hR.f3.k, (fun _ => rfl), hR.f5.k, hR.f6.k, hR.f7.k, hR.f8.k, hR.f9.k, hR.f10.k, hR.f11.k, hR.f12.k⟩⟩
          refine EachOf.cons [1, 3, 4] rfl (by kernel_rfl) ?_ ?_
          · rintro L A W ⟨v, rfl, hR⟩ hi hw K hK
            have e3 := hR.f3 (hw 3 (by simp))
            have e4 := hR.f4 (hw 4 (by simp))
            have e1 := hR.f1 (hw 1 (by simp))
            simp only [e3, e4, e1]
            clear e3 e4 e1
            go_simp
            refine hK.out _ _ ?_
            exact ⟨(fun jz => if jz = 10 then .agg #[.int .i64 1, .int .i64 1] else if jz = 11 then .agg #[.int .i64 1, .int .i64 1] else if jz = 8 then .bool true else if jz = 12 then .bool false else v jz), rfl, ⟨hR.st, hR.w1.o, hR.w2.o, hR.w3.o, hR.w4.o, (fun _ j hj => upd_on (hw j hj)), hR.w6.o, hR.w7.o, hR.w8.o, hR.w9.o, hR.w10.o, hR.w11.o, hR.w12.o, hR.f0.k, (fun _ => rfl), hR.f2.k, (fun _ => rfl), (fun _ => rfl), (fun _ => rfl), hR.f6.k, hR.f7.k, hR.f8.k, hR.f9.k, hR.f10.k, hR.f11.k, hR.f12.k⟩⟩
          refine EachOf.cons [1, 5] rfl (by kernel_rfl) ?_ ?_
          · rintro L A W ⟨v, rfl, hR⟩ hi hw K hK
            have e1 := hR.f1 (hw 1 (by simp))
            have e5 := hR.f5 (hw 5 (by simp))
            simp only [e1, e5]
            clear e1 e5
            go_simp
            refine hK.out _ _ ?_
            exact ⟨(fun jz => if jz = 8 then .bool true else if jz = 12 then .bool false else if jz = 13 then .bool false else v jz), rfl, ⟨hR.st, hR.w1.o, hR.w2.o, hR.w3.o, hR.w4.o, hR.w5.o, (fun _ j hj => upd_on (hw j hj)), hR.w7.o, hR.w8.o, hR.w9.o, hR.w10.o, hR.w11.o, hR.w12.o, hR.f0.k, (fun _ => rfl), hR.f2.k, hR.f3.k, hR.f4.k, (fun _ => rfl), (fun _ => rfl), hR.f7.k, hR.f8.k, hR.f9.k, hR.f10.k, hR.f11.k, hR.f12.k⟩⟩
          refine EachOf.cons [6] rfl (by kernel_rfl) ?_ ?_
          · rintro L A W ⟨v, rfl, hR⟩ hi hw K hK
            have e6 := hR.f6 (hw 6 (by simp))
            simp only [e6]
            clear e6
            go_simp
            refine hK.out _ _ ?_
            exact ⟨(fun jz => if jz = 13 then .bool false else if jz = 14 then .bool false else v jz), rfl, ⟨hR.st, hR.w1.o, hR.w2.o, hR.w3.o, hR.w4.o, hR.w5.o, hR.w6.o, (fun _ j hj => upd_on (hw j hj)), hR.w8.o, hR.w9.o, hR.w10.o, hR.w11.o, hR.w12.o, hR.f0.k, hR.f1.k, hR.f2.k, hR.f3.k, hR.f4.k, hR.f5.k, (fun _ => rfl), (fun _ => rfl), hR.f8.k, hR.f9.k, hR.f10.k, hR.f11.k, hR.f12.k⟩⟩
          refine EachOf.cons [7] rfl (by kernel_rfl) ?_ ?_
          · rintro L A W ⟨v, rfl, hR⟩ hi hw K hK
            have e7 := hR.f7 (hw 7 (by simp))
            simp only [e7]
            clear e7
            go_simp
            refine hK.out _ _ ?_
            exact ⟨(fun jz => if jz = 14 then .bool false else if jz = 15 then .pointer (some ⟨b4, 2, none⟩) else v jz), rfl, ⟨hR.st, hR.w1.o, hR.w2.o, hR.w3.o, hR.w4.o, hR.w5.o, hR.w6.o, hR.w7.o, (fun _ j hj => upd_on (hw j hj)), hR.w9.o, hR.w10.o, hR.w11.o, hR.w12.o, hR.f0.k, hR.f1.k, hR.f2.k, hR.f3.k, hR.f4.k, hR.f5.k, hR.f6.k, (fun _ => rfl), (fun _ => rfl), hR.f9.k, hR.f10.k, hR.f11.k, hR.f12.k⟩⟩
          refine EachOf.cons [7, 8] rfl (by kernel_rfl) ?_ ?_
          · rintro L A W ⟨v, rfl, hR⟩ hi hw K hK
            have e8 := hR.f8 (hw 8 (by simp))
            have e7 := hR.f7 (hw 7 (by simp))
            simp only [e8, e7]
            clear e8 e7
            have q0 := (hR.st.cell (p := ⟨b4, 2, none⟩) LU.out.2).trans LU.out.1
            have q1 := (hR.st.cell (p := ⟨b4, 3, none⟩) LD.out.2).trans LD.out.1
            go_simp
            refine hK.out _ _ ?_
            exact ⟨(fun jz => if jz = 15 then .pointer (some ⟨b4, 2, none⟩) else if jz = 14 then .bool false else if jz = 16 then .agg #[.int .i64 1, .int .i64 1] else v jz), rfl, ⟨hR.st, hR.w1.o, hR.w2.o, hR.w3.o, hR.w4.o, hR.w5.o, hR.w6.o, hR.w7.o, hR.w8.o, (fun _ j hj => upd_on (hw j hj)), hR.w10.o, hR.w11.o, hR.w12.o, hR.f0.k, hR.f1.k, hR.f2.k, hR.f3.k, hR.f4.k, hR.f5.k, hR.f6.k, (fun _ => rfl), (fun _ => rfl), (fun _ => rfl), hR.f10.k, hR.f11.k, hR.f12.k⟩⟩
          refine EachOf.cons [7, 9] rfl (by kernel_rfl) ?_ ?_
          · rintro L A W ⟨v, rfl, hR⟩ hi hw K hK
            have e9 := hR.f9 (hw 9 (by simp))
            have e7 := hR.f7 (hw 7 (by simp))
            simp only [e9, e7]
            clear e9 e7
            go_simp
            go_at_call 121
            (with_reducible refine ((Lib.hid (CR.out W)).out).mono ?_)
            rintro e w2 ⟨rfl, hb⟩
            go_simp
            refine hK.out _ _ ?_
            exact ⟨(fun jz => if jz = 16 then .agg #[.int .i64 1, .int .i64 1] else if jz = 14 then .bool false else if jz = 17 then .bool true else v jz), rfl, ⟨below_on hR.st hb, hR.w1.o, hR.w2.o, hR.w3.o, hR.w4.o, hR.w5.o, hR.w6.o, hR.w7.o, hR.w8.o, hR.w9.o, (fun _ j hj => upd_on (hw j hj)), hR.w11.o, hR.w12.o, hR.f0.k, hR.f1.k, hR.f2.k, hR.f3.k, hR.f4.k, hR.f5.k, hR.f6.k, (fun _ => rfl), hR.f8.k, (fun _ => rfl), (fun _ => rfl), hR.f11.k, hR.f12.k⟩⟩
          refine EachOf.cons [7, 10] rfl (by kernel_rfl) ?_ ?_
          · rintro L A W ⟨v, rfl, hR⟩ hi hw K hK
            have e10 := hR.f10 (hw 10 (by simp))
            have e7 := hR.f7 (hw 7 (by simp))
            simp only [e10, e7]
            clear e10 e7
            go_simp
            refine hK.out _ _ ?_
            exact ⟨(fun jz => if jz = 17 then .bool true else if jz = 14 then .bool false else if jz = 18 then .bool false else v jz), rfl, ⟨hR.st, hR.w1.o, hR.w2.o, hR.w3.o, hR.w4.o, hR.w5.o, hR.w6.o, hR.w7.o, hR.w8.o, hR.w9.o, hR.w10.o, (fun _ j hj => upd_on (hw j hj)), hR.w12.o, hR.f0.k, hR.f1.k, hR.f2.k, hR.f3.k, hR.f4.k, hR.f5.k, hR.f6.k, (fun _ => rfl), hR.f8.k, hR.f9.k, (fun _ => rfl), (fun _ => rfl), hR.f12.k⟩⟩
          refine EachOf.cons [7, 11] rfl (by kernel_rfl) ?_ ?_
          · rintro L A W ⟨v, rfl, hR⟩ hi hw K hK
            have e7 := hR.f7 (hw 7 (by simp))
            have e11 := hR.f11 (hw 11 (by simp))
            simp only [e7, e11]
            clear e7 e11
            go_simp
            refine hK.out _ _ ?_
            exact ⟨(fun jz => if jz = 14 then .bool false else if jz = 18 then .bool false else if jz = 19 then .bool false else v jz), rfl, ⟨hR.st, hR.w1.o, hR.w2.o, hR.w3.o, hR.w4.o, hR.w5.o, hR.w6.o, hR.w7.o, hR.w8.o, hR.w9.o, hR.w10.o, hR.w11.o, (fun _ j hj => upd_on (hw j hj)), hR.f0.k, hR.f1.k, hR.f2.k, hR.f3.k, hR.f4.k, hR.f5.k, hR.f6.k, (fun _ => rfl), hR.f8.k, hR.f9.k, hR.f10.k, (fun _ => rfl), (fun _ => rfl)⟩⟩
          exact EachOf.nil
        rintro L A W3 ⟨vs, rfl, hR⟩ hL
        have e12 := hR.f12 (hL 12 (by simp))
        simp only [e12]
        have HW := Lib.hid hR.st
        clear e12 hR hL LU LD CO
        have c0 := (HCS.out.2.on HW.out).c0
        have c1 := (HCS.out.2.on HW.out).c1
        have s0 := (HCS.out.1.on HW.out).c0
        have s1 := (HCS.out.1.on HW.out).c1
        unfold plB at hv2
        simp only at hv2
        by_cases h0 : x = ByteArray.empty
        · rw [if_pos h0] at hv2
          subst h0
          subst hv2
          go_wp2_with fail
          go_ret
          exact ⟨rfl, below_on HB.out HW.out⟩
        · rw [if_neg h0] at hv2
          have h1 := str_ne h0
          cases kn
          · rw [Bool.false_and] at hv2
            subst hv2
            have hfb := HF.out.2 rfl
            clear HF
            go_wp2_with (go_at_call 31; (with_reducible refine ((CF.out _ HW.out).mono ?_)); rintro e w5 ⟨rfl, hb5⟩; have H5 := Lib.hid (below_on HB.out (below_on HW.out hb5)); clear hb5)
            go_ret
            exact ⟨rfl, H5.out⟩
          · replace hv2 : v = pulE p := by rw [hv2]; rfl
            have hfb : ¬ fb < 0 := fun q => by have := HF.out.1 q; cases this
            clear HF
            by_cases q1 : p = 1
            · subst q1
              obtain rfl : v = true := by rw [hv2]; rfl
              clear hv2
              go_wp2_with (go_at_call 31; (with_reducible refine ((CF.out _ HW.out).mono ?_)); rintro e w5 ⟨rfl, hb5⟩; have H5 := Lib.hid (below_on HB.out (below_on HW.out hb5)); clear c1; have c1 := (HCS.out.2.on (below_on HW.out hb5)).c1; clear hb5)
              go_ret
              exact ⟨rfl, H5.out⟩
            · have r1 : (p == 1) = false := by simp [q1]
              by_cases q2 : p = -1
              · subst q2
                obtain rfl : v = true := by rw [hv2]; rfl
                clear hv2
                go_wp2_with (go_at_call 31; (with_reducible refine ((CF.out _ HW.out).mono ?_)); rintro e w5 ⟨rfl, hb5⟩; have H5 := Lib.hid (below_on HB.out (below_on HW.out hb5)); clear c1; have c1 := (HCS.out.2.on (below_on HW.out hb5)).c1; clear hb5)
                go_ret
                exact ⟨rfl, H5.out⟩
              · have r2 : (p == -1) = false := by simp [q2]
                obtain rfl : v = false := by rw [hv2]; unfold pulE; rw [r1, r2]; rfl
                clear hv2
                go_wp2_with (go_at_call 31; (with_reducible refine ((CF.out _ HW.out).mono ?_)); rintro e w5 ⟨rfl, hb5⟩; have H5 := Lib.hid (below_on HB.out (below_on HW.out hb5)); clear c1; have c1 := (HCS.out.2.on (below_on HW.out hb5)).c1; clear hb5)
                go_ret
                exact ⟨rfl, H5.out⟩
      · subst h1
        obtain rfl : v = false := by rw [hv2]; simp [h2]
        clear hv2
        go_enter Tryd.func102, Tryd.ntmps102
        go_upto_region 1 with fail
        rw [← HD.out.2.2, ← HD.out.2.1, ← HD.out.1]
        clear HD
        refine wp_region_each (fun L A W => ∃ (v : Nat → Value), A = ⟨#[_, _, _, _, _, _, _, v 7, v 8, v 9, v 10, v 11, v 12, v 13, v 14, v 15, v 16, v 17, v 18, v 19, _, _, _, _, _, _, _, _, _, _, _, _, _, _, _, _, _, _, _, _, _, _, _, _, _, _, _, _, _, _, _, _, _], []⟩ ∧ KhcR b4 d w1 L v W) (by kernel_rfl) (by kernel_rfl) ⟨fun jz => if jz = 7 then undef else if jz = 8 then undef else if jz = 9 then undef else if jz = 10 then undef else if jz = 11 then undef else if jz = 12 then undef else if jz = 13 then undef else if jz = 14 then undef else if jz = 15 then undef else if jz = 16 then undef else if jz = 17 then undef else if jz = 18 then undef else if jz = 19 then undef else undef, rfl, ⟨Below.drew (Below.refl _ _), Had.none, Had.none, Had.none, Had.none, Had.none, Had.none, Had.none, Had.none, Had.none, Had.none, Had.none, Had.none, Had.none, Had.none, Had.none, Had.none, Had.none, Had.none, Had.none, Had.none, Had.none, Had.none, Had.none, Had.none, Had.none⟩⟩ (rs := [0, 1, 2, 3, 4, 5, 6, 7, 8, 9, 10, 11, 12]) (by kernel_rfl) ?_ ?_
        · refine EachOf.cons [] rfl (by kernel_rfl) ?_ ?_
          · rintro L A W ⟨v, rfl, hR⟩ hi hw K hK
            go_simp
            refine hK.out _ _ ?_
            exact ⟨(fun jz => if jz = 7 then .bool true else v jz), rfl, ⟨hR.st, hR.w1.o, hR.w2.o, hR.w3.o, hR.w4.o, hR.w5.o, hR.w6.o, hR.w7.o, hR.w8.o, hR.w9.o, hR.w10.o, hR.w11.o, hR.w12.o, (fun _ => rfl), hR.f1.k, hR.f2.k, hR.f3.k, hR.f4.k, hR.f5.k, hR.f6.k, hR.f7.k, hR.f8.k, hR.f9.k, hR.f10.k, hR.f11.k, hR.f12.k⟩⟩
          refine EachOf.cons [0] rfl (by kernel_rfl) ?_ ?_
          · rintro L A W ⟨v, rfl, hR⟩ hi hw K hK
            have e0 := hR.f0 (hw 0 (by simp))
            simp only [e0]
            clear e0
            go_simp
            refine hK.out _ _ ?_
            exact ⟨(fun jz => if jz = 7 then .bool true else if jz = 8 then .bool true else v jz), rfl, ⟨hR.st, (fun _ j hj => upd_on (hw j hj)), hR.w2.o, hR.w3.o, hR.w4.o, hR.w5.o, hR.w6.o, hR.w7.o, hR.w8.o, hR.w9.o, hR.w10.o, hR.w11.o, hR.w12.o, (fun _ => rfl), (fun _ => rfl), hR.f2.k, hR.f3.k, hR.f4.k, hR.f5.k, hR.f6.k, hR.f7.k, hR.f8.k, hR.f9.k, hR.f10.k, hR.f11.k, hR.f12.k⟩⟩
          refine EachOf.cons [1] rfl (by kernel_rfl) ?_ ?_
          · rintro L A W ⟨v, rfl, hR⟩ hi hw K hK
            have e1 := hR.f1 (hw 1 (by simp))
            simp only [e1]
            clear e1
            go_simp
            refine hK.out _ _ ?_
            exact ⟨(fun jz => if jz = 8 then .bool true else if jz = 9 then .pointer (some ⟨b4, 2, none⟩) else v jz), rfl, ⟨hR.st, hR.w1.o, (fun _ j hj => upd_on (hw j hj)), hR.w3.o, hR.w4.o, hR.w5.o, hR.w6.o, hR.w7.o, hR.w8.o, hR.w9.o, hR.w10.o, hR.w11.o, hR.w12.o, hR.f0.k, (fun _ => rfl), (fun _ => rfl), hR.f3.k, hR.f4.k, hR.f5.k, hR.f6.k, hR.f7.k, hR.f8.k, hR.f9.k, hR.f10.k, hR.f11.k, hR.f12.k⟩⟩
          refine EachOf.cons [1, 2] rfl (by kernel_rfl) ?_ ?_
          · rintro L A W ⟨v, rfl, hR⟩ hi hw K hK
            have e2 := hR.f2 (hw 2 (by simp))
            have e1 := hR.f1 (hw 1 (by simp))
            simp only [e2, e1]
            clear e2 e1
            have q0 := (hR.st.cell (p := ⟨b4, 2, none⟩) LU.out.2).trans LU.out.1
            have q1 := (hR.st.cell (p := ⟨b4, 3, none⟩) LD.out.2).trans LD.out.1
            go_simp
            refine hK.out _ _ ?_
            exact ⟨(fun jz => if jz = 9 then .pointer (some ⟨b4, 2, none⟩) else if jz = 8 then .bool true else if jz = 10 then .agg #[.int .i64 1, .int .i64 d] else v jz), rfl, ⟨hR.st, hR.w1.o, hR.w2.o, (fun _ j hj => upd_on (hw j hj)), hR.w4.o, hR.w5.o, hR.w6.o, hR.w7.o, hR.w8.o, hR.w9.o, hR.w10.o, hR.w11.o, hR.w12.o, hR.f0.k, (fun _ => rfl), (fun _ => rfl), (fun _ => rfl), hR.f4.k, hR.f5.k, hR.f6.k, hR.f7.k, hR.f8.k, hR.f9.k, hR.f10.k, hR.f11.k, hR.f12.k⟩⟩
          refine EachOf.cons [1] rfl (by kernel_rfl) ?_ ?_
          · rintro L A W ⟨v, rfl, hR⟩ hi hw K hK
            have e1 := hR.f1 (hw 1 (by simp))
            simp only [e1]
            clear e1
            go_simp
            go_at_call 120
            (with_reducible refine ((CO _).out).mono ?_)
            rintro e w2 ⟨rfl, hb⟩
            go_simp
            refine hK.out _ _ ?_
            exact ⟨(fun jz => if jz = 8 then .bool true else if jz = 11 then .agg #[.int .i64 1, .int .i64 1] else v jz), rfl, ⟨below_on hR.st hb, hR.w1.o, hR.w2.o, hR.w3.o, (fun _ j hj => upd_on (hw j hj)), hR.w5.o, hR.w6.o, hR.w7.o, hR.w8.o, hR.w9.o, hR.w10.o, hR.w11.o, hR.w12.o, hR.f0.k, (fun _ => rfl), hR.f2.k, hR.f3.k, (fun _ => rfl), hR.f5.k, hR.f6.k, hR.f7.k, hR.f8.k, hR.f9.k, hR.f10.k, hR.f11.k, hR.f12.k⟩⟩
          refine EachOf.cons [1, 3, 4] rfl (by kernel_rfl) ?_ ?_
          · rintro L A W ⟨v, rfl, hR⟩ hi hw K hK
            have e3 := hR.f3 (hw 3 (by simp))
            have e4 := hR.f4 (hw 4 (by simp))
            have e1 := hR.f1 (hw 1 (by simp))
            simp only [e3, e4, e1]
            clear e3 e4 e1
            go_simp
            refine hK.out _ _ ?_
            exact ⟨(fun jz => if jz = 10 then .agg #[.int .i64 1, .int .i64 d] else if jz = 11 then .agg #[.int .i64 1, .int .i64 1] else if jz = 8 then .bool true else if jz = 12 then .bool true else v jz), rfl, ⟨hR.st, hR.w1.o, hR.w2.o, hR.w3.o, hR.w4.o, (fun _ j hj => upd_on (hw j hj)), hR.w6.o, hR.w7.o, hR.w8.o, hR.w9.o, hR.w10.o, hR.w11.o, hR.w12.o, hR.f0.k, (fun _ => rfl), hR.f2.k, (fun _ => rfl), (fun _ => rfl), (fun _ => rfl), hR.f6.k, hR.f7.k, hR.f8.k, hR.f9.k, hR.f10.k, hR.f11.k, hR.f12.k⟩⟩
          refine EachOf.cons [1, 5] rfl (by kernel_rfl) ?_ ?_
          · rintro L A W ⟨v, rfl, hR⟩ hi hw K hK
            have e1 := hR.f1 (hw 1 (by simp))
            have e5 := hR.f5 (hw 5 (by simp))
            simp only [e1, e5]
            clear e1 e5
            go_simp
            refine hK.out _ _ ?_
            exact ⟨(fun jz => if jz = 8 then .bool true else if jz = 12 then .bool true else if jz = 13 then .bool true else v jz), rfl, ⟨hR.st, hR.w1.o, hR.w2.o, hR.w3.o, hR.w4.o, hR.w5.o, (fun _ j hj => upd_on (hw j hj)), hR.w7.o, hR.w8.o, hR.w9.o, hR.w10.o, hR.w11.o, hR.w12.o, hR.f0.k, (fun _ => rfl), hR.f2.k, hR.f3.k, hR.f4.k, (fun _ => rfl), (fun _ => rfl), hR.f7.k, hR.f8.k, hR.f9.k, hR.f10.k, hR.f11.k, hR.f12.k⟩⟩
          refine EachOf.cons [6] rfl (by kernel_rfl) ?_ ?_
          · rintro L A W ⟨v, rfl, hR⟩ hi hw K hK
            have e6 := hR.f6 (hw 6 (by simp))
            simp only [e6]
            clear e6
            go_simp
            refine hK.out _ _ ?_
            exact ⟨(fun jz => if jz = 13 then .bool true else if jz = 14 then .bool true else v jz), rfl, ⟨hR.st, hR.w1.o, hR.w2.o, hR.w3.o, hR.w4.o, hR.w5.o, hR.w6.o, (fun _ j hj => upd_on (hw j hj)), hR.w8.o, hR.w9.o, hR.w10.o, hR.w11.o, hR.w12.o, hR.f0.k, hR.f1.k, hR.f2.k, hR.f3.k, hR.f4.k, hR.f5.k, (fun _ => rfl), (fun _ => rfl), hR.f8.k, hR.f9.k, hR.f10.k, hR.f11.k, hR.f12.k⟩⟩
          refine EachOf.cons [7] rfl (by kernel_rfl) ?_ ?_
          · rintro L A W ⟨v, rfl, hR⟩ hi hw K hK
            have e7 := hR.f7 (hw 7 (by simp))
            simp only [e7]
            clear e7
            go_simp
            refine hK.out _ _ ?_
            exact ⟨(fun jz => if jz = 14 then .bool true else if jz = 15 then undef else v jz), rfl, ⟨hR.st, hR.w1.o, hR.w2.o, hR.w3.o, hR.w4.o, hR.w5.o, hR.w6.o, hR.w7.o, (fun _ j hj => upd_on (hw j hj)), hR.w9.o, hR.w10.o, hR.w11.o, hR.w12.o, hR.f0.k, hR.f1.k, hR.f2.k, hR.f3.k, hR.f4.k, hR.f5.k, hR.f6.k, (fun _ => rfl), (fun _ => rfl), hR.f9.k, hR.f10.k, hR.f11.k, hR.f12.k⟩⟩
          refine EachOf.cons [7, 8] rfl (by kernel_rfl) ?_ ?_
          · rintro L A W ⟨v, rfl, hR⟩ hi hw K hK
            have e8 := hR.f8 (hw 8 (by simp))
            have e7 := hR.f7 (hw 7 (by simp))
            simp only [e8, e7]
            clear e8 e7
            go_simp
            refine hK.out _ _ ?_
            exact ⟨(fun jz => if jz = 15 then undef else if jz = 14 then .bool true else if jz = 16 then undef else v jz), rfl, ⟨hR.st, hR.w1.o, hR.w2.o, hR.w3.o, hR.w4.o, hR.w5.o, hR.w6.o, hR.w7.o, hR.w8.o, (fun _ j hj => upd_on (hw j hj)), hR.w10.o, hR.w11.o, hR.w12.o, hR.f0.k, hR.f1.k, hR.f2.k, hR.f3.k, hR.f4.k, hR.f5.k, hR.f6.k, (fun _ => rfl), (fun _ => rfl), (fun _ => rfl), hR.f10.k, hR.f11.k, hR.f12.k⟩⟩
          refine EachOf.cons [7, 9] rfl (by kernel_rfl) ?_ ?_
          · rintro L A W ⟨v, rfl, hR⟩ hi hw K hK
            have e9 := hR.f9 (hw 9 (by simp))
            have e7 := hR.f7 (hw 7 (by simp))
            simp only [e9, e7]
            clear e9 e7
            go_simp
            refine hK.out _ _ ?_
            exact ⟨(fun jz => if jz = 16 then undef else if jz = 14 then .bool true else if jz = 17 then undef else v jz), rfl, ⟨hR.st, hR.w1.o, hR.w2.o, hR.w3.o, hR.w4.o, hR.w5.o, hR.w6.o, hR.w7.o, hR.w8.o, hR.w9.o, (fun _ j hj => upd_on (hw j hj)), hR.w11.o, hR.w12.o, hR.f0.k, hR.f1.k, hR.f2.k, hR.f3.k, hR.f4.k, hR.f5.k, hR.f6.k, (fun _ => rfl), hR.f8.k, (fun _ => rfl), (fun _ => rfl), hR.f11.k, hR.f12.k⟩⟩
          refine EachOf.cons [7, 10] rfl (by kernel_rfl) ?_ ?_
          · rintro L A W ⟨v, rfl, hR⟩ hi hw K hK
            have e10 := hR.f10 (hw 10 (by simp))
            have e7 := hR.f7 (hw 7 (by simp))
            simp only [e10, e7]
            clear e10 e7
            go_simp
            refine hK.out _ _ ?_
            exact ⟨(fun jz => if jz = 17 then undef else if jz = 14 then .bool true else if jz = 18 then undef else v jz), rfl, ⟨hR.st, hR.w1.o, hR.w2.o, hR.w3.o, hR.w4.o, hR.w5.o, hR.w6.o, hR.w7.o, hR.w8.o, hR.w9.o, hR.w10.o, (fun _ j hj => upd_on (hw j hj)), hR.w12.o, hR.f0.k, hR.f1.k, hR.f2.k, hR.f3.k, hR.f4.k, hR.f5.k, hR.f6.k, (fun _ => rfl), hR.f8.k, hR.f9.k, (fun _ => rfl), (fun _ => rfl), hR.f12.k⟩⟩
          refine EachOf.cons [7, 11] rfl (by kernel_rfl) ?_ ?_
          · rintro L A W ⟨v, rfl, hR⟩ hi hw K hK
            have e7 := hR.f7 (hw 7 (by simp))
            have e11 := hR.f11 (hw 11 (by simp))
            simp only [e7, e11]
            clear e7 e11
            go_simp
            refine hK.out _ _ ?_
            exact ⟨(fun jz => if jz = 14 then .bool true else if jz = 18 then undef else if jz = 19 then .bool true else v jz), rfl, ⟨hR.st, hR.w1.o, hR.w2.o, hR.w3.o, hR.w4.o, hR.w5.o, hR.w6.o, hR.w7.o, hR.w8.o, hR.w9.o, hR.w10.o, hR.w11.o, (fun _ j hj => upd_on (hw j hj)), hR.f0.k, hR.f1.k, hR.f2.k, hR.f3.k, hR.f4.k, hR.f5.k, hR.f6.k, (fun _ => rfl), hR.f8.k, hR.f9.k, hR.f10.k, (fun _ => rfl), (fun _ => rfl)⟩⟩
          exact EachOf.nil
        rintro L A W3 ⟨vs, rfl, hR⟩ hL
        have e12 := hR.f12 (hL 12 (by simp))
        simp only [e12]
        have HW := Lib.hid hR.st
        clear e12 hR hL LU LD CO
        go_wp2_with fail
        go_ret
        exact ⟨rfl, below_on HB.out HW.out⟩
    · obtain rfl : v = false := by rw [hv2]; simp [h1]
      clear hv2
      go_enter Tryd.func102, Tryd.ntmps102
      go_upto_region 1 with fail
      rw [← HD.out.2.2, ← HD.out.2.1, ← HD.out.1]
      clear HD
      refine wp_region_each (fun L A W => ∃ (v : Nat → Value), A = ⟨#[_, _, _, _, _, _, _, v 7, v 8, v 9, v 10, v 11, v 12, v 13, v 14, v 15, v 16, v 17, v 18, v 19, _, _, _, _, _, _, _, _, _, _, _, _, _, _, _, _, _, _, _, _, _, _, _, _, _, _, _, _, _, _, _, _, _], []⟩ ∧ KhdR b4 u d w1 L v W) (by kernel_rfl) (by kernel_rfl) ⟨fun jz => if jz = 7 then undef else if jz = 8 then undef else if jz = 9 then undef else if jz = 10 then undef else if jz = 11 then undef else if jz = 12 then undef else if jz = 13 then undef else if jz = 14 then undef else if jz = 15 then undef else if jz = 16 then undef else if jz = 17 then undef else if jz = 18 then undef else if jz = 19 then undef else undef, rfl, ⟨Below.drew (Below.refl _ _), Had.none, Had.none, Had.none, Had.none, Had.none, Had.none, Had.none, Had.none, Had.none, Had.none, Had.none, Had.none, Had.none, Had.none, Had.none, Had.none, Had.none, Had.none, Had.none, Had.none, Had.none, Had.none, Had.none, Had.none, Had.none⟩⟩ (rs := [0, 1, 2, 3, 4, 5, 6, 7, 8, 9, 10, 11, 12]) (by kernel_rfl) ?_ ?_
      · refine EachOf.cons [] rfl (by kernel_rfl) ?_ ?_
        · rintro L A W ⟨v, rfl, hR⟩ hi hw K hK
          go_simp
          refine hK.out _ _ ?_
          exact ⟨(fun jz => if jz = 7 then .bool true else v jz), rfl, ⟨hR.st, hR.w1.o, hR.w2.o, hR.w3.o, hR.w4.o, hR.w5.o, hR.w6.o, hR.w7.o, hR.w8.o, hR.w9.o, hR.w10.o, hR.w11.o, hR.w12.o, (fun _ => rfl), hR.f1.k, hR.f2.k, hR.f3.k, hR.f4.k, hR.f5.k, hR.f6.k, hR.f7.k, hR.f8.k, hR.f9.k, hR.f10.k, hR.f11.k, hR.f12.k⟩⟩
        refine EachOf.cons [0] rfl (by kernel_rfl) ?_ ?_
        · rintro L A W ⟨v, rfl, hR⟩ hi hw K hK
          have e0 := hR.f0 (hw 0 (by simp))
          simp only [e0]
          clear e0
          go_simp
          refine hK.out _ _ ?_
          exact ⟨(fun jz => if jz = 7 then .bool true else if jz = 8 then .bool true else v jz), rfl, ⟨hR.st, (fun _ j hj => upd_on (hw j hj)), hR.w2.o, hR.w3.o, hR.w4.o, hR.w5.o, hR.w6.o, hR.w7.o, hR.w8.o, hR.w9.o, hR.w10.o, hR.w11.o, hR.w12.o, (fun _ => rfl), (fun _ => rfl), hR.f2.k, hR.f3.k, hR.f4.k, hR.f5.k, hR.f6.k, hR.f7.k, hR.f8.k, hR.f9.k, hR.f10.k, hR.f11.k, hR.f12.k⟩⟩
        refine EachOf.cons [1] rfl (by kernel_rfl) ?_ ?_
        · rintro L A W ⟨v, rfl, hR⟩ hi hw K hK
          have e1 := hR.f1 (hw 1 (by simp))
          simp only [e1]
          clear e1
          go_simp
          refine hK.out _ _ ?_
          exact ⟨(fun jz => if jz = 8 then .bool true else if jz = 9 then .pointer (some ⟨b4, 2, none⟩) else v jz), rfl, ⟨hR.st, hR.w1.o, (fun _ j hj => upd_on (hw j hj)), hR.w3.o, hR.w4.o, hR.w5.o, hR.w6.o, hR.w7.o, hR.w8.o, hR.w9.o, hR.w10.o, hR.w11.o, hR.w12.o, hR.f0.k, (fun _ => rfl), (fun _ => rfl), hR.f3.k, hR.f4.k, hR.f5.k, hR.f6.k, hR.f7.k, hR.f8.k, hR.f9.k, hR.f10.k, hR.f11.k, hR.f12.k⟩⟩
        refine EachOf.cons [1, 2] rfl (by kernel_rfl) ?_ ?_
        · rintro L A W ⟨v, rfl, hR⟩ hi hw K hK
          have e2 := hR.f2 (hw 2 (by simp))
          have e1 := hR.f1 (hw 1 (by simp))
          simp only [e2, e1]
          clear e2 e1
          have q0 := (hR.st.cell (p := ⟨b4, 2, none⟩) LU.out.2).trans LU.out.1
          have q1 := (hR.st.cell (p := ⟨b4, 3, none⟩) LD.out.2).trans LD.out.1
          go_simp
          refine hK.out _ _ ?_
          exact ⟨(fun jz => if jz = 9 then .pointer (some ⟨b4, 2, none⟩) else if jz = 8 then .bool true else if jz = 10 then .agg #[.int .i64 u, .int .i64 d] else v jz), rfl, ⟨hR.st, hR.w1.o, hR.w2.o, (fun _ j hj => upd_on (hw j hj)), hR.w4.o, hR.w5.o, hR.w6.o, hR.w7.o, hR.w8.o, hR.w9.o, hR.w10.o, hR.w11.o, hR.w12.o, hR.f0.k, (fun _ => rfl), (fun _ => rfl), (fun _ => rfl), hR.f4.k, hR.f5.k, hR.f6.k, hR.f7.k, hR.f8.k, hR.f9.k, hR.f10.k, hR.f11.k, hR.f12.k⟩⟩
        refine EachOf.cons [1] rfl (by kernel_rfl) ?_ ?_
        · rintro L A W ⟨v, rfl, hR⟩ hi hw K hK
          have e1 := hR.f1 (hw 1 (by simp))
          simp only [e1]
          clear e1
          go_simp
          go_at_call 120
          (with_reducible refine ((CO _).out).mono ?_)
          rintro e w2 ⟨rfl, hb⟩
          go_simp
          refine hK.out _ _ ?_
          exact ⟨(fun jz => if jz = 8 then .bool true else if jz = 11 then .agg #[.int .i64 1, .int .i64 1] else v jz), rfl, ⟨below_on hR.st hb, hR.w1.o, hR.w2.o, hR.w3.o, (fun _ j hj => upd_on (hw j hj)), hR.w5.o, hR.w6.o, hR.w7.o, hR.w8.o, hR.w9.o, hR.w10.o, hR.w11.o, hR.w12.o, hR.f0.k, (fun _ => rfl), hR.f2.k, hR.f3.k, (fun _ => rfl), hR.f5.k, hR.f6.k, hR.f7.k, hR.f8.k, hR.f9.k, hR.f10.k, hR.f11.k, hR.f12.k⟩⟩
        refine EachOf.cons [1, 3, 4] rfl (by kernel_rfl) ?_ ?_
        · rintro L A W ⟨v, rfl, hR⟩ hi hw K hK
          have e3 := hR.f3 (hw 3 (by simp))
          have e4 := hR.f4 (hw 4 (by simp))
          have e1 := hR.f1 (hw 1 (by simp))
          simp only [e3, e4, e1]
          clear e3 e4 e1
          go_simp
          refine hK.out _ _ ?_
          exact ⟨(fun jz => if jz = 10 then .agg #[.int .i64 u, .int .i64 d] else if jz = 11 then .agg #[.int .i64 1, .int .i64 1] else if jz = 8 then .bool true else if jz = 12 then .bool true else v jz), rfl, ⟨hR.st, hR.w1.o, hR.w2.o, hR.w3.o, hR.w4.o, (fun _ j hj => upd_on (hw j hj)), hR.w6.o, hR.w7.o, hR.w8.o, hR.w9.o, hR.w10.o, hR.w11.o, hR.w12.o, hR.f0.k, (fun _ => rfl), hR.f2.k, (fun _ => rfl), (fun _ => rfl), (fun _ => rfl), hR.f6.k, hR.f7.k, hR.f8.k, hR.f9.k, hR.f10.k, hR.f11.k, hR.f12.k⟩⟩
        refine EachOf.cons [1, 5] rfl (by kernel_rfl) ?_ ?_
        · rintro L A W ⟨v, rfl, hR⟩ hi hw K hK
          have e1 := hR.f1 (hw 1 (by simp))
          have e5 := hR.f5 (hw 5 (by simp))
          simp only [e1, e5]
          clear e1 e5
          go_simp
          refine hK.out _ _ ?_
          exact ⟨(fun jz => if jz = 8 then .bool true else if jz = 12 then .bool true else if jz = 13 then .bool true else v jz), rfl, ⟨hR.st, hR.w1.o, hR.w2.o, hR.w3.o, hR.w4.o, hR.w5.o, (fun _ j hj => upd_on (hw j hj)), hR.w7.o, hR.w8.o, hR.w9.o, hR.w10.o, hR.w11.o, hR.w12.o, hR.f0.k, (fun _ => rfl), hR.f2.k, hR.f3.k, hR.f4.k, (fun _ => rfl), (fun _ => rfl), hR.f7.k, hR.f8.k, hR.f9.k, hR.f10.k, hR.f11.k, hR.f12.k⟩⟩
        refine EachOf.cons [6] rfl (by kernel_rfl) ?_ ?_
        · rintro L A W ⟨v, rfl, hR⟩ hi hw K hK
          have e6 := hR.f6 (hw 6 (by simp))
          simp only [e6]
          clear e6
          go_simp
          refine hK.out _ _ ?_
          exact ⟨(fun jz => if jz = 13 then .bool true else if jz = 14 then .bool true else v jz), rfl, ⟨hR.st, hR.w1.o, hR.w2.o, hR.w3.o, hR.w4.o, hR.w5.o, hR.w6.o, (fun _ j hj => upd_on (hw j hj)), hR.w8.o, hR.w9.o, hR.w10.o, hR.w11.o, hR.w12.o, hR.f0.k, hR.f1.k, hR.f2.k, hR.f3.k, hR.f4.k, hR.f5.k, (fun _ => rfl), (fun _ => rfl), hR.f8.k, hR.f9.k, hR.f10.k, hR.f11.k, hR.f12.k⟩⟩
        refine EachOf.cons [7] rfl (by kernel_rfl) ?_ ?_
        · rintro L A W ⟨v, rfl, hR⟩ hi hw K hK
          have e7 := hR.f7 (hw 7 (by simp))
          simp only [e7]
          clear e7
          go_simp
          refine hK.out _ _ ?_
          exact ⟨(fun jz => if jz = 14 then .bool true else if jz = 15 then undef else v jz), rfl, ⟨hR.st, hR.w1.o, hR.w2.o, hR.w3.o, hR.w4.o, hR.w5.o, hR.w6.o, hR.w7.o, (fun _ j hj => upd_on (hw j hj)), hR.w9.o, hR.w10.o, hR.w11.o, hR.w12.o, hR.f0.k, hR.f1.k, hR.f2.k, hR.f3.k, hR.f4.k, hR.f5.k, hR.f6.k, (fun _ => rfl), (fun _ => rfl), hR.f9.k, hR.f10.k, hR.f11.k, hR.f12.k⟩⟩
        refine EachOf.cons [7, 8] rfl (by kernel_rfl) ?_ ?_
        · rintro L A W ⟨v, rfl, hR⟩ hi hw K hK
          have e8 := hR.f8 (hw 8 (by simp))
          have e7 := hR.f7 (hw 7 (by simp))
          simp only [e8, e7]
          clear e8 e7
          go_simp
          refine hK.out _ _ ?_
          exact ⟨(fun jz => if jz = 15 then undef else if jz = 14 then .bool true else if jz = 16 then undef else v jz), rfl, ⟨hR.st, hR.w1.o, hR.w2.o, hR.w3.o, hR.w4.o, hR.w5.o, hR.w6.o, hR.w7.o, hR.w8.o, (fun _ j hj => upd_on (hw j hj)), hR.w10.o, hR.w11.o, hR.w12.o, hR.f0.k, hR.f1.k, hR.f2.k, hR.f3.k, hR.f4.k, hR.f5.k, hR.f6.k, (fun _ => rfl), (fun _ => rfl), (fun _ => rfl), hR.f10.k, hR.f11.k, hR.f12.k⟩⟩
        refine EachOf.cons [7, 9] rfl (by kernel_rfl) ?_ ?_
        · rintro L A W ⟨v, rfl, hR⟩ hi hw K hK
          have e9 := hR.f9 (hw 9 (by simp))
          have e7 := hR.f7 (hw 7 (by simp))
          simp only [e9, e7]
          clear e9 e7
          go_simp
          refine hK.out _ _ ?_
          exact ⟨(fun jz => if jz = 16 then undef else if jz = 14 then .bool true else if jz = 17 then undef else v jz), rfl, ⟨hR.st, hR.w1.o, hR.w2.o, hR.w3.o, hR.w4.o, hR.w5.o, hR.w6.o, hR.w7.o, hR.w8.o, hR.w9.o, (fun _ j hj => upd_on (hw j hj)), hR.w11.o, hR.w12.o, hR.f0.k, hR.f1.k, hR.f2.k, hR.f3.k, hR.f4.k, hR.f5.k, hR.f6.k, (fun _ => rfl), hR.f8.k, (fun _ => rfl), (fun _ => rfl), hR.f11.k, hR.f12.k⟩⟩
        refine EachOf.cons [7, 10] rfl (by kernel_rfl) ?_ ?_
        · rintro L A W ⟨v, rfl, hR⟩ hi hw K hK
          have e10 := hR.f10 (hw 10 (by simp))
          have e7 := hR.f7 (hw 7 (by simp))
          simp only [e10, e7]
          clear e10 e7
          go_simp
          refine hK.out _ _ ?_
          exact ⟨(fun jz => if jz = 17 then undef else if jz = 14 then .bool true else if jz = 18 then undef else v jz), rfl, ⟨hR.st, hR.w1.o, hR.w2.o, hR.w3.o, hR.w4.o, hR.w5.o, hR.w6.o, hR.w7.o, hR.w8.o, hR.w9.o, hR.w10.o, (fun _ j hj => upd_on (hw j hj)), hR.w12.o, hR.f0.k, hR.f1.k, hR.f2.k, hR.f3.k, hR.f4.k, hR.f5.k, hR.f6.k, (fun _ => rfl), hR.f8.k, hR.f9.k, (fun _ => rfl), (fun _ => rfl), hR.f12.k⟩⟩
        refine EachOf.cons [7, 11] rfl (by kernel_rfl) ?_ ?_
        · rintro L A W ⟨v, rfl, hR⟩ hi hw K hK
          have e7 := hR.f7 (hw 7 (by simp))
          have e11 := hR.f11 (hw 11 (by simp))
          simp only [e7, e11]
          clear e7 e11
          go_simp
          refine hK.out _ _ ?_
          exact ⟨(fun jz => if jz = 14 then .bool true else if jz = 18 then undef else if jz = 19 then .bool true else v jz), rfl, ⟨hR.st, hR.w1.o, hR.w2.o, hR.w3.o, hR.w4.o, hR.w5.o, hR.w6.o, hR.w7.o, hR.w8.o, hR.w9.o, hR.w10.o, hR.w11.o, (fun _ j hj => upd_on (hw j hj)), hR.f0.k, hR.f1.k, hR.f2.k, hR.f3.k, hR.f4.k, hR.f5.k, hR.f6.k, (fun _ => rfl), hR.f8.k, hR.f9.k, hR.f10.k, (fun _ => rfl), (fun _ => rfl)⟩⟩
        exact EachOf.nil
      rintro L A W3 ⟨vs, rfl, hR⟩ hL
      have e12 := hR.f12 (hL 12 (by simp))
      simp only [e12]
      have HW := Lib.hid hR.st
      clear e12 hR hL LU LD CO
      go_wp2_with fail
      go_ret
      exact ⟨rfl, below_on HB.out HW.out⟩
end Go.Proofs.YtcghjjfpjiacfaaDoor
