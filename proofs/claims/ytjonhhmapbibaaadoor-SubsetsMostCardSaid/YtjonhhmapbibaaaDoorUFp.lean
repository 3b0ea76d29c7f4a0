/- Layer 7: firstPart. -/
import Derived.Test.YtjonhhmapbibaaaDoorUMost
namespace Go.Proofs.YtjonhhmapbibaaaDoor
open Go.ChangeShapes Go.WideShapes Go.ChangeAt Go.RowKit Go.Joins Go.Deep Go.Shelf
set_option linter.unusedVariables false

/-- The numbers of one that are not of another one. -/
def anb (a b : Nat) : Nat := a &&& (18446744073709551615 - b)
theorem anb_le (a b : Nat) : anb a b ≤ a := Nat.and_le_left
/-- A part that may be taken. -/
def FpC (F m : Nat → Int) (left q : Nat) : Prop := F q = 0 ∧ m (anb left q) = m left - 1

structure FpaR (left g M cp b cb p c : Nat) (x y z : Int) (bl : Bool) (Wc : World) (L : Nat → Bool) (v : Nat → Value) (W : World) : Prop where
  st : Below Wc.heap.size Wc W
  w2 : Had L 2 (∀ j ∈ [0, 1], L j = true)
  w3 : Had L 3 (∀ j ∈ [2], L j = true)
  w4 : Had L 4 (∀ j ∈ [3], L j = true)
  w5 : Had L 5 (∀ j ∈ [4], L j = true)
  w6 : Had L 6 (∀ j ∈ [5], L j = true)
  w7 : Had L 7 (∀ j ∈ [5], L j = true)
  w8 : Had L 8 (∀ j ∈ [5], L j = true)
  w9 : Had L 9 (∀ j ∈ [5, 7, 8], L j = true)
  w10 : Had L 10 (∀ j ∈ [5, 6, 9], L j = true)
  w11 : Had L 11 (∀ j ∈ [5, 10], L j = true)
  w12 : Had L 12 (∀ j ∈ [5], L j = true)
  w13 : Had L 13 (∀ j ∈ [5], L j = true)
  w14 : Had L 14 (∀ j ∈ [5, 12, 13], L j = true)
  w15 : Had L 15 (∀ j ∈ [5, 14], L j = true)
  w16 : Had L 16 (∀ j ∈ [5, 15], L j = true)
  w17 : Had L 17 (∀ j ∈ [5, 11, 16], L j = true)
  w18 : Had L 18 (∀ j ∈ [5, 17], L j = true)
  f0 : Had L 0 (v 9 = .slice (some ⟨g, 0, none⟩) (M) (cp))
  f1 : Had L 1 (v 10 = .int .u64 (p : Int))
  f2 : Had L 2 (v 11 = .pointer (some ⟨g, p, none⟩))
  f3 : Had L 3 (v 12 = .int .i64 0)
  f4 : Had L 4 (v 13 = .bool false)
  f5 : Had L 5 (v 14 = .bool false)
  f6 : Had L 6 (v 15 = .slice (some ⟨b, 0, none⟩) (M) (cb))
  f7 : Had L 7 (v 16 = .int .u64 (left : Int))
  f8 : Had L 8 (v 17 = .int .u64 (p : Int))
  f9 : Had L 9 (v 18 = .int .u64 (c : Int))
  f10 : Had L 10 (v 19 = .pointer (some ⟨b, c, none⟩))
  f11 : Had L 11 (v 20 = .int .i64 y)
  f12 : Had L 12 (v 21 = .slice (some ⟨b, 0, none⟩) (M) (cb))
  f13 : Had L 13 (v 22 = .int .u64 (left : Int))
  f14 : Had L 14 (v 23 = .pointer (some ⟨b, left, none⟩))
  f15 : Had L 15 (v 24 = .int .i64 z)
  f16 : Had L 16 (v 25 = .int .i64 (z - 1))
  f17 : Had L 17 (v 26 = .bool bl)
  f18 : Had L 18 (v 27 = .bool bl)
structure FpbR (left g M cp b cb p c : Nat) (x y z : Int) (bl : Bool) (Wc : World) (L : Nat → Bool) (v : Nat → Value) (W : World) : Prop where
  st : Below Wc.heap.size Wc W
  w2 : Had L 2 (∀ j ∈ [0, 1], L j = true)
  w3 : Had L 3 (∀ j ∈ [2], L j = true)
  w4 : Had L 4 (∀ j ∈ [3], L j = true)
  w5 : Had L 5 (∀ j ∈ [4], L j = true)
  w6 : Had L 6 (∀ j ∈ [5], L j = true)
  w7 : Had L 7 (∀ j ∈ [5], L j = true)
  w8 : Had L 8 (∀ j ∈ [5], L j = true)
  w9 : Had L 9 (∀ j ∈ [5, 7, 8], L j = true)
  w10 : Had L 10 (∀ j ∈ [5, 6, 9], L j = true)
  w11 : Had L 11 (∀ j ∈ [5, 10], L j = true)
  w12 : Had L 12 (∀ j ∈ [5], L j = true)
  w13 : Had L 13 (∀ j ∈ [5], L j = true)
  w14 : Had L 14 (∀ j ∈ [5, 12, 13], L j = true)
  w15 : Had L 15 (∀ j ∈ [5, 14], L j = true)
  w16 : Had L 16 (∀ j ∈ [5, 15], L j = true)
  w17 : Had L 17 (∀ j ∈ [5, 11, 16], L j = true)
  w18 : Had L 18 (∀ j ∈ [5, 17], L j = true)
  f0 : Had L 0 (v 9 = .slice (some ⟨g, 0, none⟩) (M) (cp))
  f1 : Had L 1 (v 10 = .int .u64 (p : Int))
  f2 : Had L 2 (v 11 = .pointer (some ⟨g, p, none⟩))
  f3 : Had L 3 (v 12 = .int .i64 x)
  f4 : Had L 4 (v 13 = .bool true)
  f5 : Had L 5 (v 14 = .bool true)
  f6 : Had L 6 (v 15 = undef)
  f7 : Had L 7 (v 16 = undef)
  f8 : Had L 8 (v 17 = undef)
  f9 : Had L 9 (v 18 = undef)
  f10 : Had L 10 (v 19 = undef)
  f11 : Had L 11 (v 20 = undef)
  f12 : Had L 12 (v 21 = undef)
  f13 : Had L 13 (v 22 = undef)
  f14 : Had L 14 (v 23 = undef)
  f15 : Had L 15 (v 24 = undef)
  f16 : Had L 16 (v 25 = undef)
  f17 : Had L 17 (v 26 = undef)
  f18 : Had L 18 (v 27 = .bool true)
set_option maxRecDepth 100000 in
set_option maxHeartbeats 16000000 in
theorem firstPart_any (lo lo2 M g cp b cb left : Nat) (F m : Nat → Int) (w : World) (hr : NRow lo M w g cp F) (hm : NRow lo2 M w b cb m) (hM : M ≤ 65536) (hl : left < M) (hmb : ∀ j, j < M → 0 ≤ m j ∧ m j ≤ 65536) (hex : ∃ q, q &&& left = q ∧ FpC F m left q) :
    Calls Tryd.prog 24 #[.int .u64 (left : Int), .slice (some ⟨g, 0, none⟩) M cp, .slice (some ⟨b, 0, none⟩) M cb] w fun e w' => Below w.heap.size w w' ∧ ∃ p : Nat, e = .returned (.int .u64 (p : Int)) ∧ p &&& left = p ∧ FpC F m left p ∧ ∀ q, q &&& left = q → FpC F m left q → q ≤ p := by
  have HR := Lib.hid hr
  have HM := Lib.hid hm
  have HMB := Lib.hid hmb
  have HEX := Lib.hid hex
  have S0 : Hid (Below w.heap.size w w ∧ left &&& left = left ∧ ∀ q, q &&& left = q → FpC F m left q → q ≤ left) := ⟨Below.refl _ _, Nat.and_self _, fun q h _ => by rw [← h]; exact Nat.and_le_right⟩
  clear hr hm hmb hex
  go_enter Tryd.func24, Tryd.ntmps24
  go_wp2_with fail
  go_loopg [7] (2 * left) (fun g' s7 wx => ∃ p : Nat, s7 = .int .u64 p ∧ g' = 2 * p ∧ p ≤ left ∧ Hid (Below w.heap.size w wx ∧ p &&& left = p ∧ ∀ q, q &&& left = q → FpC F m left q → q ≤ p))
  case atStart => exact ⟨left, rfl, rfl, Nat.le_refl _, S0⟩
  case round =>
    clear S0
    obtain ⟨p, rfl, rfl, hp, S⟩ := hrel
    rename World => W1
    obtain ⟨x, hx⟩ : ∃ x, x = F p := ⟨_, rfl⟩
    have LX : Hid (W1.cell? ⟨g, p, none⟩ = some (.int .i64 x) ∧ g < W1.heap.size) := ⟨by rw [hx]; exact (HR.out.on S.out.1).cell p (by omega), (HR.out.on S.out.1).hb⟩
    have hpM : p < M := by omega
    obtain ⟨c, hc⟩ : ∃ c, c = anb left p := ⟨_, rfl⟩
    have hcl : c ≤ left := by rw [hc]; exact anb_le _ _
    have hcM : c < M := by omega
    obtain ⟨y, hy⟩ : ∃ y, y = m c := ⟨_, rfl⟩
    obtain ⟨z, hz⟩ : ∃ z, z = m left := ⟨_, rfl⟩
    have hzb := HMB.out left hl
    rw [← hz] at hzb
    have HC : Hid (FpC F m left p ↔ x = 0 ∧ y = z - 1) := by
      show _ ↔ _
      unfold FpC
      rw [← hc, ← hx, ← hy, ← hz]
    have LY : Hid (W1.cell? ⟨b, c, none⟩ = some (.int .i64 y) ∧ b < W1.heap.size) := ⟨by rw [hy]; exact (HM.out.on S.out.1).cell c hcM, (HM.out.on S.out.1).hb⟩
    have LZ : Hid (W1.cell? ⟨b, left, none⟩ = some (.int .i64 z) ∧ b < W1.heap.size) := ⟨by rw [hz]; exact (HM.out.on S.out.1).cell left hl, (HM.out.on S.out.1).hb⟩
    have kb : bits .andNot .u64 (left : Int) (p : Int) = (c : Int) := by rw [u64_andNot_nat _ _ (by omega) (by omega), hc]; rfl
    have kz : IntKind.i64.wrap (z - 1) = z - 1 := IntWalk.i64_in _ (by omega)
    obtain ⟨p2, hp2⟩ : ∃ x, x = (p - 1) &&& left := ⟨_, rfl⟩
    have go : ¬ FpC F m left p → 0 < p ∧ p2 < p ∧ p2 &&& left = p2 ∧ ∀ q, q &&& left = q → FpC F m left q → q ≤ p2 := fun hn => by
      obtain ⟨q0, h1, h2⟩ := HEX.out
      have h3 := S.out.2.2 q0 h1 h2
      have h4 : q0 ≠ p := fun e => hn (by rw [← e]; exact h2)
      refine ⟨by omega, ?_, ?_, fun q h5 h6 => ?_⟩
      · rw [hp2]; exact Nat.lt_of_le_of_lt Nat.and_le_left (by omega)
      · rw [hp2, Nat.and_assoc, Nat.and_self]
      · have h7 := S.out.2.2 q h5 h6
        have h8 : q ≠ p := fun e => hn (by rw [← e]; exact h6)
        rw [hp2]
        exact prev_sub p q left S.out.2.1 h5 (by omega)
    have HGO := Lib.hid go
    have HP2 := Lib.hid hp2
    have HB := Lib.hid S.out.1
    have HS := Lib.hid S.out.2
    clear S go hx hc hy hz hp2
    by_cases hx0 : x = 0
    · subst hx0
      by_cases hyz : y = z - 1
      · have hq : (y != z - 1) = false := by simp [hyz]
        have HF : Hid (FpC F m left p) := HC.out.2 ⟨rfl, hyz⟩
        clear HC hyz
        go_upto_region 2 with fail
        refine wp_region_each (fun L A W => ∃ (v : Nat → Value), A = ⟨#[_, _, _, _, _, _, _, _, _, v 9, v 10, v 11, v 12, v 13, v 14, v 15, v 16, v 17, v 18, v 19, v 20, v 21, v 22, v 23, v 24, v 25, v 26, v 27, _, _, _, _, _], []⟩ ∧ FpaR left g M cp b cb p c 0 y z false W1 L v W) (by kernel_rfl) (by kernel_rfl) ⟨fun jz => if jz = 9 then u9 else if jz = 10 then u10 else if jz = 11 then u11 else if jz = 12 then u12 else if jz = 13 then u13 else if jz = 14 then u14 else if jz = 15 then u15 else if jz = 16 then u16 else if jz = 17 then u17 else if jz = 18 then u18 else if jz = 19 then u19 else if jz = 20 then u20 else if jz = 21 then u21 else if jz = 22 then u22 else if jz = 23 then u23 else if jz = 24 then u24 else if jz = 25 then u25 else if jz = 26 then u26 else if jz = 27 then u27 else undef, rfl, ⟨Below.drew (Below.refl _ _), Had.none, Had.none, Had.none, Had.none, Had.none, Had.none, Had.none, Had.none, Had.none, Had.none, Had.none, Had.none, Had.none, Had.none, Had.none, Had.none, Had.none, Had.none, Had.none, Had.none, Had.none, Had.none, Had.none, Had.none, Had.none, Had.none, Had.none, Had.none, Had.none, Had.none, Had.none, Had.none, Had.none, Had.none, Had.none, Had.none⟩⟩ (rs := [0, 1, 2, 3, 4, 5, 6, 7, 8, 9, 10, 11, 12, 13, 14, 15, 16, 17, 18]) (by kernel_rfl) ?_ ?_
        · refine EachOf.cons [] rfl (by kernel_rfl) ?_ ?_
          · rintro L A W ⟨v, rfl, hR⟩ hi hw K hK
            go_simp
            refine hK.out _ _ ?_
            exact ⟨(fun jz => if jz = 9 then .slice (some ⟨g, 0, none⟩) (M) (cp) else v jz), rfl, ⟨hR.st, hR.w2.o, hR.w3.o, hR.w4.o, hR.w5.o, hR.w6.o, hR.w7.o, hR.w8.o, hR.w9.o, hR.w10.o, hR.w11.o, hR.w12.o, hR.w13.o, hR.w14.o, hR.w15.o, hR.w16.o, hR.w17.o, hR.w18.o, (fun _ => rfl), hR.f1.k, hR.f2.k, hR.f3.k, hR.f4.k, hR.f5.k, hR.f6.k, hR.f7.k, hR.f8.k, hR.f9.k, hR.f10.k, hR.f11.k, hR.f12.k, hR.f13.k, hR.f14.k, hR.f15.k, hR.f16.k, hR.f17.k, hR.f18.k⟩⟩
          refine EachOf.cons [] rfl (by kernel_rfl) ?_ ?_
          · rintro L A W ⟨v, rfl, hR⟩ hi hw K hK
            go_simp
            refine hK.out _ _ ?_
            exact ⟨(fun jz => if jz = 10 then .int .u64 (p : Int) else v jz), rfl, ⟨hR.st, hR.w2.o, hR.w3.o, hR.w4.o, hR.w5.o, hR.w6.o, hR.w7.o, hR.w8.o, hR.w9.o, hR.w10.o, hR.w11.o, hR.w12.o, hR.w13.o, hR.w14.o, hR.w15.o, hR.w16.o, hR.w17.o, hR.w18.o, hR.f0.k, (fun _ => rfl), hR.f2.k, hR.f3.k, hR.f4.k, hR.f5.k, hR.f6.k, hR.f7.k, hR.f8.k, hR.f9.k, hR.f10.k, hR.f11.k, hR.f12.k, hR.f13.k, hR.f14.k, hR.f15.k, hR.f16.k, hR.f17.k, hR.f18.k⟩⟩
          refine EachOf.cons [0, 1] rfl (by kernel_rfl) ?_ ?_
          · rintro L A W ⟨v, rfl, hR⟩ hi hw K hK
            have e0 := hR.f0 (hw 0 (by simp))
            have e1 := hR.f1 (hw 1 (by simp))
            simp only [e0, e1]
            clear e0 e1
            go_simp
            refine hK.out _ _ ?_
            exact ⟨(fun jz => if jz = 9 then .slice (some ⟨g, 0, none⟩) (M) (cp) else if jz = 10 then .int .u64 (p : Int) else if jz = 11 then .pointer (some ⟨g, p, none⟩) else v jz), rfl, ⟨hR.st, (fun _ j hj => upd_on (hw j hj)), hR.w3.o, hR.w4.o, hR.w5.o, hR.w6.o, hR.w7.o, hR.w8.o, hR.w9.o, hR.w10.o, hR.w11.o, hR.w12.o, hR.w13.o, hR.w14.o, hR.w15.o, hR.w16.o, hR.w17.o, hR.w18.o, (fun _ => rfl), (fun _ => rfl), (fun _ => rfl), hR.f3.k, hR.f4.k, hR.f5.k, hR.f6.k, hR.f7.k, hR.f8.k, hR.f9.k, hR.f10.k, hR.f11.k, hR.f12.k, hR.f13.k, hR.f14.k, hR.f15.k, hR.f16.k, hR.f17.k, hR.f18.k⟩⟩
          refine EachOf.cons [2] rfl (by kernel_rfl) ?_ ?_
          · rintro L A W ⟨v, rfl, hR⟩ hi hw K hK
            have e2 := hR.f2 (hw 2 (by simp))
            simp only [e2]
            clear e2
            have q0 := (hR.st.cell (p := ⟨g, p, none⟩) LX.out.2).trans LX.out.1
            go_simp
            refine hK.out _ _ ?_
            exact ⟨(fun jz => if jz = 11 then .pointer (some ⟨g, p, none⟩) else if jz = 12 then .int .i64 0 else v jz), rfl, ⟨hR.st, hR.w2.o, (fun _ j hj => upd_on (hw j hj)), hR.w4.o, hR.w5.o, hR.w6.o, hR.w7.o, hR.w8.o, hR.w9.o, hR.w10.o, hR.w11.o, hR.w12.o, hR.w13.o, hR.w14.o, hR.w15.o, hR.w16.o, hR.w17.o, hR.w18.o, hR.f0.k, hR.f1.k, (fun _ => rfl), (fun _ => rfl), hR.f4.k, hR.f5.k, hR.f6.k, hR.f7.k, hR.f8.k, hR.f9.k, hR.f10.k, hR.f11.k, hR.f12.k, hR.f13.k, hR.f14.k, hR.f15.k, hR.f16.k, hR.f17.k, hR.f18.k⟩⟩
          refine EachOf.cons [3] rfl (by kernel_rfl) ?_ ?_
          · rintro L A W ⟨v, rfl, hR⟩ hi hw K hK
            have e3 := hR.f3 (hw 3 (by simp))
            simp only [e3]
            clear e3
            go_simp
            refine hK.out _ _ ?_
            exact ⟨(fun jz => if jz = 12 then .int .i64 0 else if jz = 13 then .bool false else v jz), rfl, ⟨hR.st, hR.w2.o, hR.w3.o, (fun _ j hj => upd_on (hw j hj)), hR.w5.o, hR.w6.o, hR.w7.o, hR.w8.o, hR.w9.o, hR.w10.o, hR.w11.o, hR.w12.o, hR.w13.o, hR.w14.o, hR.w15.o, hR.w16.o, hR.w17.o, hR.w18.o, hR.f0.k, hR.f1.k, hR.f2.k, (fun _ => rfl), (fun _ => rfl), hR.f5.k, hR.f6.k, hR.f7.k, hR.f8.k, hR.f9.k, hR.f10.k, hR.f11.k, hR.f12.k, hR.f13.k, hR.f14.k, hR.f15.k, hR.f16.k, hR.f17.k, hR.f18.k⟩⟩
          refine EachOf.cons [4] rfl (by kernel_rfl) ?_ ?_
          · rintro L A W ⟨v, rfl, hR⟩ hi hw K hK
            have e4 := hR.f4 (hw 4 (by simp))
            simp only [e4]
            clear e4
            go_simp
            refine hK.out _ _ ?_
            exact ⟨(fun jz => if jz = 13 then .bool false else if jz = 14 then .bool false else v jz), rfl, ⟨hR.st, hR.w2.o, hR.w3.o, hR.w4.o, (fun _ j hj => upd_on (hw j hj)), hR.w6.o, hR.w7.o, hR.w8.o, hR.w9.o, hR.w10.o, hR.w11.o, hR.w12.o, hR.w13.o, hR.w14.o, hR.w15.o, hR.w16.o, hR.w17.o, hR.w18.o, hR.f0.k, hR.f1.k, hR.f2.k, hR.f3.k, (fun _ => rfl), (fun _ => rfl), hR.f6.k, hR.f7.k, hR.f8.k, hR.f9.k, hR.f10.k, hR.f11.k, hR.f12.k, hR.f13.k, hR.f14.k, hR.f15.k, hR.f16.k, hR.f17.k, hR.f18.k⟩⟩
          refine EachOf.cons [5] rfl (by kernel_rfl) ?_ ?_
          · rintro L A W ⟨v, rfl, hR⟩ hi hw K hK
            have e5 := hR.f5 (hw 5 (by simp))
            simp only [e5]
            clear e5
            go_simp
            refine hK.out _ _ ?_
            exact ⟨(fun jz => if jz = 14 then .bool false else if jz = 15 then .slice (some ⟨b, 0, none⟩) (M) (cb) else v jz), rfl, ⟨hR.st, hR.w2.o, hR.w3.o, hR.w4.o, hR.w5.o, (fun _ j hj => upd_on (hw j hj)), hR.w7.o, hR.w8.o, hR.w9.o, hR.w10.o, hR.w11.o, hR.w12.o, hR.w13.o, hR.w14.o, hR.w15.o, hR.w16.o, hR.w17.o, hR.w18.o, hR.f0.k, hR.f1.k, hR.f2.k, hR.f3.k, hR.f4.k, (fun _ => rfl), (fun _ => rfl), hR.f7.k, hR.f8.k, hR.f9.k, hR.f10.k, hR.f11.k, hR.f12.k, hR.f13.k, hR.f14.k, hR.f15.k, hR.f16.k, hR.f17.k, hR.f18.k⟩⟩
          refine EachOf.cons [5] rfl (by kernel_rfl) ?_ ?_
          · rintro L A W ⟨v, rfl, hR⟩ hi hw K hK
            have e5 := hR.f5 (hw 5 (by simp))
            simp only [e5]
            clear e5
            go_simp
            refine hK.out _ _ ?_
            exact ⟨(fun jz => if jz = 14 then .bool false else if jz = 16 then .int .u64 (left : Int) else v jz), rfl, ⟨hR.st, hR.w2.o, hR.w3.o, hR.w4.o, hR.w5.o, hR.w6.o, (fun _ j hj => upd_on (hw j hj)), hR.w8.o, hR.w9.o, hR.w10.o, hR.w11.o, hR.w12.o, hR.w13.o, hR.w14.o, hR.w15.o, hR.w16.o, hR.w17.o, hR.w18.o, hR.f0.k, hR.f1.k, hR.f2.k, hR.f3.k, hR.f4.k, (fun _ => rfl), hR.f6.k, (fun _ => rfl), hR.f8.k, hR.f9.k, hR.f10.k, hR.f11.k, hR.f12.k, hR.f13.k, hR.f14.k, hR.f15.k, hR.f16.k, hR.f17.k, hR.f18.k⟩⟩
          refine EachOf.cons [5] rfl (by kernel_rfl) ?_ ?_
          · rintro L A W ⟨v, rfl, hR⟩ hi hw K hK
            have e5 := hR.f5 (hw 5 (by simp))
            simp only [e5]
            clear e5
            go_simp
            refine hK.out _ _ ?_
            exact ⟨(fun jz => if jz = 14 then .bool false else if jz = 17 then .int .u64 (p : Int) else v jz), rfl, ⟨hR.st, hR.w2.o, hR.w3.o, hR.w4.o, hR.w5.o, hR.w6.o, hR.w7.o, (fun _ j hj => upd_on (hw j hj)), hR.w9.o, hR.w10.o, hR.w11.o, hR.w12.o, hR.w13.o, hR.w14.o, hR.w15.o, hR.w16.o, hR.w17.o, hR.w18.o, hR.f0.k, hR.f1.k, hR.f2.k, hR.f3.k, hR.f4.k, (fun _ => rfl), hR.f6.k, hR.f7.k, (fun _ => rfl), hR.f9.k, hR.f10.k, hR.f11.k, hR.f12.k, hR.f13.k, hR.f14.k, hR.f15.k, hR.f16.k, hR.f17.k, hR.f18.k⟩⟩
          refine EachOf.cons [5, 7, 8] rfl (by kernel_rfl) ?_ ?_
          · rintro L A W ⟨v, rfl, hR⟩ hi hw K hK
            have e7 := hR.f7 (hw 7 (by simp))
            have e8 := hR.f8 (hw 8 (by simp))
            have e5 := hR.f5 (hw 5 (by simp))
            simp only [e7, e8, e5]
            clear e7 e8 e5
            go_simp
            refine hK.out _ _ ?_
            exact ⟨(fun jz => if jz = 16 then .int .u64 (left : Int) else if jz = 17 then .int .u64 (p : Int) else if jz = 14 then .bool false else if jz = 18 then .int .u64 (c : Int) else v jz), rfl, ⟨hR.st, hR.w2.o, hR.w3.o, hR.w4.o, hR.w5.o, hR.w6.o, hR.w7.o, hR.w8.o, (fun _ j hj => upd_on (hw j hj)), hR.w10.o, hR.w11.o, hR.w12.o, hR.w13.o, hR.w14.o, hR.w15.o, hR.w16.o, hR.w17.o, hR.w18.o, hR.f0.k, hR.f1.k, hR.f2.k, hR.f3.k, hR.f4.k, (fun _ => rfl), hR.f6.k, (fun _ => rfl), (fun _ => rfl), (fun _ => rfl), hR.f10.k, hR.f11.k, hR.f12.k, hR.f13.k, hR.f14.k, hR.f15.k, hR.f16.k, hR.f17.k, hR.f18.k⟩⟩
          refine EachOf.cons [5, 6, 9] rfl (by kernel_rfl) ?_ ?_
          · rintro L A W ⟨v, rfl, hR⟩ hi hw K hK
            have e6 := hR.f6 (hw 6 (by simp))
            have e9 := hR.f9 (hw 9 (by simp))
            have e5 := hR.f5 (hw 5 (by simp))
            simp only [e6, e9, e5]
            clear e6 e9 e5
            go_simp
            refine hK.out _ _ ?_
            exact ⟨(fun jz => if jz = 15 then .slice (some ⟨b, 0, none⟩) (M) (cb) else if jz = 18 then .int .u64 (c : Int) else if jz = 14 then .bool false else if jz = 19 then .pointer (some ⟨b, c, none⟩) else v jz), rfl, ⟨hR.st, hR.w2.o, hR.w3.o, hR.w4.o, hR.w5.o, hR.w6.o, hR.w7.o, hR.w8.o, hR.w9.o, (fun _ j hj => upd_on (hw j hj)), hR.w11.o, hR.w12.o, hR.w13.o, hR.w14.o, hR.w15.o, hR.w16.o, hR.w17.o, hR.w18.o, hR.f0.k, hR.f1.k, hR.f2.k, hR.f3.k, hR.f4.k, (fun _ => rfl), (fun _ => rfl), hR.f7.k, hR.f8.k, (fun _ => rfl), (fun _ => rfl), hR.f11.k, hR.f12.k, hR.f13.k, hR.f14.k, hR.f15.k, hR.f16.k, hR.f17.k, hR.f18.k⟩⟩
          refine EachOf.cons [5, 10] rfl (by kernel_rfl) ?_ ?_
          · rintro L A W ⟨v, rfl, hR⟩ hi hw K hK
            have e10 := hR.f10 (hw 10 (by simp))
            have e5 := hR.f5 (hw 5 (by simp))
            simp only [e10, e5]
            clear e10 e5
            have q0 := (hR.st.cell (p := ⟨b, c, none⟩) LY.out.2).trans LY.out.1
            go_simp
            refine hK.out _ _ ?_
            exact ⟨(fun jz => if jz = 19 then .pointer (some ⟨b, c, none⟩) else if jz = 14 then .bool false else if jz = 20 then .int .i64 y else v jz), rfl, ⟨hR.st, hR.w2.o, hR.w3.o, hR.w4.o, hR.w5.o, hR.w6.o, hR.w7.o, hR.w8.o, hR.w9.o, hR.w10.o, (fun _ j hj => upd_on (hw j hj)), hR.w12.o, hR.w13.o, hR.w14.o, hR.w15.o, hR.w16.o, hR.w17.o, hR.w18.o, hR.f0.k, hR.f1.k, hR.f2.k, hR.f3.k, hR.f4.k, (fun _ => rfl), hR.f6.k, hR.f7.k, hR.f8.k, hR.f9.k, (fun _ => rfl), (fun _ => rfl), hR.f12.k, hR.f13.k, hR.f14.k, hR.f15.k, hR.f16.k, hR.f17.k, hR.f18.k⟩⟩
          refine EachOf.cons [5] rfl (by kernel_rfl) ?_ ?_
          · rintro L A W ⟨v, rfl, hR⟩ hi hw K hK
            have e5 := hR.f5 (hw 5 (by simp))
            simp only [e5]
            clear e5
            go_simp
            refine hK.out _ _ ?_
            exact ⟨(fun jz => if jz = 14 then .bool false else if jz = 21 then .slice (some ⟨b, 0, none⟩) (M) (cb) else v jz), rfl, ⟨hR.st, hR.w2.o, hR.w3.o, hR.w4.o, hR.w5.o, hR.w6.o, hR.w7.o, hR.w8.o, hR.w9.o, hR.w10.o, hR.w11.o, (fun _ j hj => upd_on (hw j hj)), hR.w13.o, hR.w14.o, hR.w15.o, hR.w16.o, hR.w17.o, hR.w18.o, hR.f0.k, hR.f1.k, hR.f2.k, hR.f3.k, hR.f4.k, (fun _ => rfl), hR.f6.k, hR.f7.k, hR.f8.k, hR.f9.k, hR.f10.k, hR.f11.k, (fun _ => rfl), hR.f13.k, hR.f14.k, hR.f15.k, hR.f16.k, hR.f17.k, hR.f18.k⟩⟩
          refine EachOf.cons [5] rfl (by kernel_rfl) ?_ ?_
          · rintro L A W ⟨v, rfl, hR⟩ hi hw K hK
            have e5 := hR.f5 (hw 5 (by simp))
            simp only [e5]
            clear e5
            go_simp
            refine hK.out _ _ ?_
            exact ⟨(fun jz => if jz = 14 then .bool false else if jz = 22 then .int .u64 (left : Int) else v jz), rfl, ⟨hR.st, hR.w2.o, hR.w3.o, hR.w4.o, hR.w5.o, hR.w6.o, hR.w7.o, hR.w8.o, hR.w9.o, hR.w10.o, hR.w11.o, hR.w12.o, (fun _ j hj => upd_on (hw j hj)), hR.w14.o, hR.w15.o, hR.w16.o, hR.w17.o, hR.w18.o, hR.f0.k, hR.f1.k, hR.f2.k, hR.f3.k, hR.f4.k, (fun _ => rfl), hR.f6.k, hR.f7.k, hR.f8.k, hR.f9.k, hR.f10.k, hR.f11.k, hR.f12.k, (fun _ => rfl), hR.f14.k, hR.f15.k, hR.f16.k, hR.f17.k, hR.f18.k⟩⟩
          refine EachOf.cons [5, 12, 13] rfl (by kernel_rfl) ?_ ?_
          · rintro L A W ⟨v, rfl, hR⟩ hi hw K hK
            have e12 := hR.f12 (hw 12 (by simp))
            have e13 := hR.f13 (hw 13 (by simp))
            have e5 := hR.f5 (hw 5 (by simp))
            simp only [e12, e13, e5]
            clear e12 e13 e5
            go_simp
            refine hK.out _ _ ?_
            exact ⟨(fun jz => if jz = 21 then .slice (some ⟨b, 0, none⟩) (M) (cb) else if jz = 22 then .int .u64 (left : Int) else if jz = 14 then .bool false else if jz = 23 then .pointer (some ⟨b, left, none⟩) else v jz), rfl, ⟨hR.st, hR.w2.o, hR.w3.o, hR.w4.o, hR.w5.o, hR.w6.o, hR.w7.o, hR.w8.o, hR.w9.o, hR.w10.o, hR.w11.o, hR.w12.o, hR.w13.o, (fun _ j hj => upd_on (hw j hj)), hR.w15.o, hR.w16.o, hR.w17.o, hR.w18.o, hR.f0.k, hR.f1.k, hR.f2.k, hR.f3.k, hR.f4.k, (fun _ => rfl), hR.f6.k, hR.f7.k, hR.f8.k, hR.f9.k, hR.f10.k, hR.f11.k, (fun _ => rfl), (fun _ => rfl), (fun _ => rfl), hR.f15.k, hR.f16.k, hR.f17.k, hR.f18.k⟩⟩
          refine EachOf.cons [5, 14] rfl (by kernel_rfl) ?_ ?_
          · rintro L A W ⟨v, rfl, hR⟩ hi hw K hK
            have e14 := hR.f14 (hw 14 (by simp))
            have e5 := hR.f5 (hw 5 (by simp))
            simp only [e14, e5]
            clear e14 e5
            have q0 := (hR.st.cell (p := ⟨b, left, none⟩) LZ.out.2).trans LZ.out.1
            go_simp
            refine hK.out _ _ ?_
            exact ⟨(fun jz => if jz = 23 then .pointer (some ⟨b, left, none⟩) else if jz = 14 then .bool false else if jz = 24 then .int .i64 z else v jz), rfl, ⟨hR.st, hR.w2.o, hR.w3.o, hR.w4.o, hR.w5.o, hR.w6.o, hR.w7.o, hR.w8.o, hR.w9.o, hR.w10.o, hR.w11.o, hR.w12.o, hR.w13.o, hR.w14.o, (fun _ j hj => upd_on (hw j hj)), hR.w16.o, hR.w17.o, hR.w18.o, hR.f0.k, hR.f1.k, hR.f2.k, hR.f3.k, hR.f4.k, (fun _ => rfl), hR.f6.k, hR.f7.k, hR.f8.k, hR.f9.k, hR.f10.k, hR.f11.k, hR.f12.k, hR.f13.k, (fun _ => rfl), (fun _ => rfl), hR.f16.k, hR.f17.k, hR.f18.k⟩⟩
          refine EachOf.cons [5, 15] rfl (by kernel_rfl) ?_ ?_
          · rintro L A W ⟨v, rfl, hR⟩ hi hw K hK
            have e15 := hR.f15 (hw 15 (by simp))
            have e5 := hR.f5 (hw 5 (by simp))
            simp only [e15, e5]
            clear e15 e5
            go_simp
            refine hK.out _ _ ?_
            exact ⟨(fun jz => if jz = 24 then .int .i64 z else if jz = 14 then .bool false else if jz = 25 then .int .i64 (z - 1) else v jz), rfl, ⟨hR.st, hR.w2.o, hR.w3.o, hR.w4.o, hR.w5.o, hR.w6.o, hR.w7.o, hR.w8.o, hR.w9.o, hR.w10.o, hR.w11.o, hR.w12.o, hR.w13.o, hR.w14.o, hR.w15.o, (fun _ j hj => upd_on (hw j hj)), hR.w17.o, hR.w18.o, hR.f0.k, hR.f1.k, hR.f2.k, hR.f3.k, hR.f4.k, (fun _ => rfl), hR.f6.k, hR.f7.k, hR.f8.k, hR.f9.k, hR.f10.k, hR.f11.k, hR.f12.k, hR.f13.k, hR.f14.k, (fun _ => rfl), (fun _ => rfl), hR.f17.k, hR.f18.k⟩⟩
          refine EachOf.cons [5, 11, 16] rfl (by kernel_rfl) ?_ ?_
          · rintro L A W ⟨v, rfl, hR⟩ hi hw K hK
            have e11 := hR.f11 (hw 11 (by simp))
            have e16 := hR.f16 (hw 16 (by simp))
            have e5 := hR.f5 (hw 5 (by simp))
            simp only [e11, e16, e5]
            clear e11 e16 e5
            go_simp
            refine hK.out _ _ ?_
            exact ⟨(fun jz => if jz = 20 then .int .i64 y else if jz = 25 then .int .i64 (z - 1) else if jz = 14 then .bool false else if jz = 26 then .bool false else v jz), rfl, ⟨hR.st, hR.w2.o, hR.w3.o, hR.w4.o, hR.w5.o, hR.w6.o, hR.w7.o, hR.w8.o, hR.w9.o, hR.w10.o, hR.w11.o, hR.w12.o, hR.w13.o, hR.w14.o, hR.w15.o, hR.w16.o, (fun _ j hj => upd_on (hw j hj)), hR.w18.o, hR.f0.k, hR.f1.k, hR.f2.k, hR.f3.k, hR.f4.k, (fun _ => rfl), hR.f6.k, hR.f7.k, hR.f8.k, hR.f9.k, hR.f10.k, (fun _ => rfl), hR.f12.k, hR.f13.k, hR.f14.k, hR.f15.k, (fun _ => rfl), (fun _ => rfl), hR.f18.k⟩⟩
          refine EachOf.cons [5, 17] rfl (by kernel_rfl) ?_ ?_
          · rintro L A W ⟨v, rfl, hR⟩ hi hw K hK
            have e5 := hR.f5 (hw 5 (by simp))
            have e17 := hR.f17 (hw 17 (by simp))
            simp only [e5, e17]
            clear e5 e17
            go_simp
            refine hK.out _ _ ?_
            exact ⟨(fun jz => if jz = 14 then .bool false else if jz = 26 then .bool false else if jz = 27 then .bool false else v jz), rfl, ⟨hR.st, hR.w2.o, hR.w3.o, hR.w4.o, hR.w5.o, hR.w6.o, hR.w7.o, hR.w8.o, hR.w9.o, hR.w10.o, hR.w11.o, hR.w12.o, hR.w13.o, hR.w14.o, hR.w15.o, hR.w16.o, hR.w17.o, (fun _ j hj => upd_on (hw j hj)), hR.f0.k, hR.f1.k, hR.f2.k, hR.f3.k, hR.f4.k, (fun _ => rfl), hR.f6.k, hR.f7.k, hR.f8.k, hR.f9.k, hR.f10.k, hR.f11.k, hR.f12.k, hR.f13.k, hR.f14.k, hR.f15.k, hR.f16.k, (fun _ => rfl), (fun _ => rfl)⟩⟩
          exact EachOf.nil
        rintro L A W ⟨v, rfl, hR⟩ hL
        have hst := hR.st
        have e18 := hR.f18 (hL 18 (by simp))
        simp only [e18]
        have T := Lib.hid (below_on HB.out hst)
        clear e18 hst hR hL LX LY LZ HB
        go_wp2_with fail
        go_ret
        exact ⟨T.out, p, rfl, HS.out.1, HF.out, HS.out.2⟩
      · have hq : (y != z - 1) = true := by simpa using hyz
        obtain ⟨g1, g2, g3, g4⟩ := HGO.out (fun h => hyz (HC.out.1 h).2)
        have HT := Lib.hid (And.intro g3 g4)
        have k1 : IntKind.u64.wrap ((p : Int) - 1) = ((p - 1 : Nat) : Int) := by rw [IntWalk.u64_in _ (by omega)]; omega
        have k3 : bits .and .u64 ((p - 1 : Nat) : Int) (left : Int) = (p2 : Int) := by rw [bits_and_u64_nat _ _ (by omega) (by omega), HP2.out]
        clear HC hyz g3 g4
        go_upto_region 2 with fail
        refine wp_region_each (fun L A W => ∃ (v : Nat → Value), A = ⟨#[_, _, _, _, _, _, _, _, _, v 9, v 10, v 11, v 12, v 13, v 14, v 15, v 16, v 17, v 18, v 19, v 20, v 21, v 22, v 23, v 24, v 25, v 26, v 27, _, _, _, _, _], []⟩ ∧ FpaR left g M cp b cb p c 0 y z true W1 L v W) (by kernel_rfl) (by kernel_rfl) ⟨fun jz => if jz = 9 then u9 else if jz = 10 then u10 else if jz = 11 then u11 else if jz = 12 then u12 else if jz = 13 then u13 else if jz = 14 then u14 else if jz = 15 then u15 else if jz = 16 then u16 else if jz = 17 then u17 else if jz = 18 then u18 else if jz = 19 then u19 else if jz = 20 then u20 else if jz = 21 then u21 else if jz = 22 then u22 else if jz = 23 then u23 else if jz = 24 then u24 else if jz = 25 then u25 else if jz = 26 then u26 else if jz = 27 then u27 else undef, rfl, ⟨Below.drew (Below.refl _ _), Had.none, Had.none, Had.none, Had.none, Had.none, Had.none, Had.none, Had.none, Had.none, Had.none, Had.none, Had.none, Had.none, Had.none, Had.none, Had.none, Had.none, Had.none, Had.none, Had.none, Had.none, Had.none, Had.none, Had.none, Had.none, Had.none, Had.none, Had.none, Had.none, Had.none, Had.none, Had.none, Had.none, Had.none, Had.none, Had.none⟩⟩ (rs := [0, 1, 2, 3, 4, 5, 6, 7, 8, 9, 10, 11, 12, 13, 14, 15, 16, 17, 18]) (by kernel_rfl) ?_ ?_
        · refine EachOf.cons [] rfl (by kernel_rfl) ?_ ?_
          · rintro L A W ⟨v, rfl, hR⟩ hi hw K hK
            go_simp
            refine hK.out _ _ ?_
            exact ⟨(fun jz => if jz = 9 then .slice (some ⟨g, 0, none⟩) (M) (cp) else v jz), rfl, ⟨hR.st, hR.w2.o, hR.w3.o, hR.w4.o, hR.w5.o, hR.w6.o, hR.w7.o, hR.w8.o, hR.w9.o, hR.w10.o, hR.w11.o, hR.w12.o, hR.w13.o, hR.w14.o, hR.w15.o, hR.w16.o, hR.w17.o, hR.w18.o, (fun _ => rfl), hR.f1.k, hR.f2.k, hR.f3.k, hR.f4.k, hR.f5.k, hR.f6.k, hR.f7.k, hR.f8.k, hR.f9.k, hR.f10.k, hR.f11.k, hR.f12.k, hR.f13.k, hR.f14.k, hR.f15.k, hR.f16.k, hR.f17.k, hR.f18.k⟩⟩
          refine EachOf.cons [] rfl (by kernel_rfl) ?_ ?_
          · rintro L A W ⟨v, rfl, hR⟩ hi hw K hK
            go_simp
            refine hK.out _ _ ?_
            exact ⟨(fun jz => if jz = 10 then .int .u64 (p : Int) else v jz), rfl, ⟨hR.st, hR.w2.o, hR.w3.o, hR.w4.o, hR.w5.o, hR.w6.o, hR.w7.o, hR.w8.o, hR.w9.o, hR.w10.o, hR.w11.o, hR.w12.o, hR.w13.o, hR.w14.o, hR.w15.o, hR.w16.o, hR.w17.o, hR.w18.o, hR.f0.k, (fun _ => rfl), hR.f2.k, hR.f3.k, hR.f4.k, hR.f5.k, hR.f6.k, hR.f7.k, hR.f8.k, hR.f9.k, hR.f10.k, hR.f11.k, hR.f12.k, hR.f13.k, hR.f14.k, hR.f15.k, hR.f16.k, hR.f17.k, hR.f18.k⟩⟩
          refine EachOf.cons [0, 1] rfl (by kernel_rfl) ?_ ?_
          · rintro L A W ⟨v, rfl, hR⟩ hi hw K hK
            have e0 := hR.f0 (hw 0 (by simp))
            have e1 := hR.f1 (hw 1 (by simp))
            simp only [e0, e1]
            clear e0 e1
            go_simp
            refine hK.out _ _ ?_
            exact ⟨(fun jz => if jz = 9 then .slice (some ⟨g, 0, none⟩) (M) (cp) else if jz = 10 then .int .u64 (p : Int) else if jz = 11 then .pointer (some ⟨g, p, none⟩) else v jz), rfl, ⟨hR.st, (fun _ j hj => upd_on (hw j hj)), hR.w3.o, hR.w4.o, hR.w5.o, hR.w6.o, hR.w7.o, hR.w8.o, hR.w9.o, hR.w10.o, hR.w11.o, hR.w12.o, hR.w13.o, hR.w14.o, hR.w15.o, hR.w16.o, hR.w17.o, hR.w18.o, (fun _ => rfl), (fun _ => rfl), (fun _ => rfl), hR.f3.k, hR.f4.k, hR.f5.k, hR.f6.k, hR.f7.k, hR.f8.k, hR.f9.k, hR.f10.k, hR.f11.k, hR.f12.k, hR.f13.k, hR.f14.k, hR.f15.k, hR.f16.k, hR.f17.k, hR.f18.k⟩⟩
          refine EachOf.cons [2] rfl (by kernel_rfl) ?_ ?_
          · rintro L A W ⟨v, rfl, hR⟩ hi hw K hK
            have e2 := hR.f2 (hw 2 (by simp))
            simp only [e2]
            clear e2
            have q0 := (hR.st.cell (p := ⟨g, p, none⟩) LX.out.2).trans LX.out.1
            go_simp
            refine hK.out _ _ ?_
            exact ⟨(fun jz => if jz = 11 then .pointer (some ⟨g, p, none⟩) else if jz = 12 then .int .i64 0 else v jz), rfl, ⟨hR.st, hR.w2.o, (fun _ j hj => upd_on (hw j hj)), hR.w4.o, hR.w5.o, hR.w6.o, hR.w7.o, hR.w8.o, hR.w9.o, hR.w10.o, hR.w11.o, hR.w12.o, hR.w13.o, hR.w14.o, hR.w15.o, hR.w16.o, hR.w17.o, hR.w18.o, hR.f0.k, hR.f1.k, (fun _ => rfl), (fun _ => rfl), hR.f4.k, hR.f5.k, hR.f6.k, hR.f7.k, hR.f8.k, hR.f9.k, hR.f10.k, hR.f11.k, hR.f12.k, hR.f13.k, hR.f14.k, hR.f15.k, hR.f16.k, hR.f17.k, hR.f18.k⟩⟩
          refine EachOf.cons [3] rfl (by kernel_rfl) ?_ ?_
          · rintro L A W ⟨v, rfl, hR⟩ hi hw K hK
            have e3 := hR.f3 (hw 3 (by simp))
            simp only [e3]
            clear e3
            go_simp
            refine hK.out _ _ ?_
            exact ⟨(fun jz => if jz = 12 then .int .i64 0 else if jz = 13 then .bool false else v jz), rfl, ⟨hR.st, hR.w2.o, hR.w3.o, (fun _ j hj => upd_on (hw j hj)), hR.w5.o, hR.w6.o, hR.w7.o, hR.w8.o, hR.w9.o, hR.w10.o, hR.w11.o, hR.w12.o, hR.w13.o, hR.w14.o, hR.w15.o, hR.w16.o, hR.w17.o, hR.w18.o, hR.f0.k, hR.f1.k, hR.f2.k, (fun _ => rfl), (fun _ => rfl), hR.f5.k, hR.f6.k, hR.f7.k, hR.f8.k, hR.f9.k, hR.f10.k, hR.f11.k, hR.f12.k, hR.f13.k, hR.f14.k, hR.f15.k, hR.f16.k, hR.f17.k, hR.f18.k⟩⟩
          refine EachOf.cons [4] rfl (by kernel_rfl) ?_ ?_
          · rintro L A W ⟨v, rfl, hR⟩ hi hw K hK
            have e4 := hR.f4 (hw 4 (by simp))
            simp only [e4]
            clear e4
            go_simp
            refine hK.out _ _ ?_
            exact ⟨(fun jz => if jz = 13 then .bool false else if jz = 14 then .bool false else v jz), rfl, ⟨hR.st, hR.w2.o, hR.w3.o, hR.w4.o, (fun _ j hj => upd_on (hw j hj)), hR.w6.o, hR.w7.o, hR.w8.o, hR.w9.o, hR.w10.o, hR.w11.o, hR.w12.o, hR.w13.o, hR.w14.o, hR.w15.o, hR.w16.o, hR.w17.o, hR.w18.o, hR.f0.k, hR.f1.k, hR.f2.k, hR.f3.k, (fun _ => rfl), (fun _ => rfl), hR.f6.k, hR.f7.k, hR.f8.k, hR.f9.k, hR.f10.k, hR.f11.k, hR.f12.k, hR.f13.k, hR.f14.k, hR.f15.k, hR.f16.k, hR.f17.k, hR.f18.k⟩⟩
          refine EachOf.cons [5] rfl (by kernel_rfl) ?_ ?_
          · rintro L A W ⟨v, rfl, hR⟩ hi hw K hK
            have e5 := hR.f5 (hw 5 (by simp))
            simp only [e5]
            clear e5
            go_simp
            refine hK.out _ _ ?_
            exact ⟨(fun jz => if jz = 14 then .bool false else if jz = 15 then .slice (some ⟨b, 0, none⟩) (M) (cb) else v jz), rfl, ⟨hR.st, hR.w2.o, hR.w3.o, hR.w4.o, hR.w5.o, (fun _ j hj => upd_on (hw j hj)), hR.w7.o, hR.w8.o, hR.w9.o, hR.w10.o, hR.w11.o, hR.w12.o, hR.w13.o, hR.w14.o, hR.w15.o, hR.w16.o, hR.w17.o, hR.w18.o, hR.f0.k, hR.f1.k, hR.f2.k, hR.f3.k, hR.f4.k, (fun _ => rfl), (fun _ => rfl), hR.f7.k, hR.f8.k, hR.f9.k, hR.f10.k, hR.f11.k, hR.f12.k, hR.f13.k, hR.f14.k, hR.f15.k, hR.f16.k, hR.f17.k, hR.f18.k⟩⟩
          refine EachOf.cons [5] rfl (by kernel_rfl) ?_ ?_
          · rintro L A W ⟨v, rfl, hR⟩ hi hw K hK
            have e5 := hR.f5 (hw 5 (by simp))
            simp only [e5]
            clear e5
            go_simp
            refine hK.out _ _ ?_
            exact ⟨(fun jz => if jz = 14 then .bool false else if jz = 16 then .int .u64 (left : Int) else v jz), rfl, ⟨hR.st, hR.w2.o, hR.w3.o, hR.w4.o, hR.w5.o, hR.w6.o, (fun _ j hj => upd_on (hw j hj)), hR.w8.o, hR.w9.o, hR.w10.o, hR.w11.o, hR.w12.o, hR.w13.o, hR.w14.o, hR.w15.o, hR.w16.o, hR.w17.o, hR.w18.o, hR.f0.k, hR.f1.k, hR.f2.k, hR.f3.k, hR.f4.k, (fun _ => rfl), hR.f6.k, (fun _ => rfl), hR.f8.k, hR.f9.k, hR.f10.k, hR.f11.k, hR.f12.k, hR.f13.k, hR.f14.k, hR.f15.k, hR.f16.k, hR.f17.k, hR.f18.k⟩⟩
          refine EachOf.cons [5] rfl (by kernel_rfl) ?_ ?_
          · rintro L A W ⟨v, rfl, hR⟩ hi hw K hK
            have e5 := hR.f5 (hw 5 (by simp))
            simp only [e5]
            clear e5
            go_simp
            refine hK.out _ _ ?_
            exact ⟨(fun jz => if jz = 14 then .bool false else if jz = 17 then .int .u64 (p : Int) else v jz), rfl, ⟨hR.st, hR.w2.o, hR.w3.o, hR.w4.o, hR.w5.o, hR.w6.o, hR.w7.o, (fun _ j hj => upd_on (hw j hj)), hR.w9.o, hR.w10.o, hR.w11.o, hR.w12.o, hR.w13.o, hR.w14.o, hR.w15.o, hR.w16.o, hR.w17.o, hR.w18.o, hR.f0.k, hR.f1.k, hR.f2.k, hR.f3.k, hR.f4.k, (fun _ => rfl), hR.f6.k, hR.f7.k, (fun _ => rfl), hR.f9.k, hR.f10.k, hR.f11.k, hR.f12.k, hR.f13.k, hR.f14.k, hR.f15.k, hR.f16.k, hR.f17.k, hR.f18.k⟩⟩
          refine EachOf.cons [5, 7, 8] rfl (by kernel_rfl) ?_ ?_
          · rintro L A W ⟨v, rfl, hR⟩ hi hw K hK
            have e7 := hR.f7 (hw 7 (by simp))
            have e8 := hR.f8 (hw 8 (by simp))
            have e5 := hR.f5 (hw 5 (by simp))
            simp only [e7, e8, e5]
            clear e7 e8 e5
            go_simp
            refine hK.out _ _ ?_
            exact ⟨(fun jz => if jz = 16 then .int .u64 (left : Int) else if jz = 17 then .int .u64 (p : Int) else if jz = 14 then .bool false else if jz = 18 then .int .u64 (c : Int) else v jz), rfl, ⟨hR.st, hR.w2.o, hR.w3.o, hR.w4.o, hR.w5.o, hR.w6.o, hR.w7.o, hR.w8.o, (fun _ j hj => upd_on (hw j hj)), hR.w10.o, hR.w11.o, hR.w12.o, hR.w13.o, hR.w14.o, hR.w15.o, hR.w16.o, hR.w17.o, hR.w18.o, hR.f0.k, hR.f1.k, hR.f2.k, hR.f3.k, hR.f4.k, (fun _ => rfl), hR.f6.k, (fun _ => rfl), (fun _ => rfl), (fun _ => rfl), hR.f10.k, hR.f11.k, hR.f12.k, hR.f13.k, hR.f14.k, hR.f15.k, hR.f16.k, hR.f17.k, hR.f18.k⟩⟩
          refine EachOf.cons [5, 6, 9] rfl (by kernel_rfl) ?_ ?_
          · rintro L A W ⟨v, rfl, hR⟩ hi hw K hK
            have e6 := hR.f6 (hw 6 (by simp))
            have e9 := hR.f9 (hw 9 (by simp))
            have e5 := hR.f5 (hw 5 (by simp))
            simp only [e6, e9, e5]
            clear e6 e9 e5
            go_simp
            refine hK.out _ _ ?_
            exact ⟨(fun jz => if jz = 15 then .slice (some ⟨b, 0, none⟩) (M) (cb) else if jz = 18 then .int .u64 (c : Int) else if jz = 14 then .bool false else if jz = 19 then .pointer (some ⟨b, c, none⟩) else v jz), rfl, ⟨hR.st, hR.w2.o, hR.w3.o, hR.w4.o, hR.w5.o, hR.w6.o, hR.w7.o, hR.w8.o, hR.w9.o, (fun _ j hj => upd_on (hw j hj)), hR.w11.o, hR.w12.o, hR.w13.o, hR.w14.o, hR.w15.o, hR.w16.o, hR.w17.o, hR.w18.o, hR.f0.k, hR.f1.k, hR.f2.k, hR.f3.k, hR.f4.k, (fun _ => rfl), (fun _ => rfl), hR.f7.k, hR.f8.k, (fun _ => rfl), (fun _ => rfl), hR.f11.k, hR.f12.k, hR.f13.k, hR.f14.k, hR.f15.k, hR.f16.k, hR.f17.k, hR.f18.k⟩⟩
          refine EachOf.cons [5, 10] rfl (by kernel_rfl) ?_ ?_
          · rintro L A W ⟨v, rfl, hR⟩ hi hw K hK
            have e10 := hR.f10 (hw 10 (by simp))
            have e5 := hR.f5 (hw 5 (by simp))
            simp only [e10, e5]
            clear e10 e5
            have q0 := (hR.st.cell (p := ⟨b, c, none⟩) LY.out.2).trans LY.out.1
            go_simp
            refine hK.out _ _ ?_
            exact ⟨(fun jz => if jz = 19 then .pointer (some ⟨b, c, none⟩) else if jz = 14 then .bool false else if jz = 20 then .int .i64 y else v jz), rfl, ⟨hR.st, hR.w2.o, hR.w3.o, hR.w4.o, hR.w5.o, hR.w6.o, hR.w7.o, hR.w8.o, hR.w9.o, hR.w10.o, (fun _ j hj => upd_on (hw j hj)), hR.w12.o, hR.w13.o, hR.w14.o, hR.w15.o, hR.w16.o, hR.w17.o, hR.w18.o, hR.f0.k, hR.f1.k, hR.f2.k, hR.f3.k, hR.f4.k, (fun _ => rfl), hR.f6.k, hR.f7.k, hR.f8.k, hR.f9.k, (fun _ => rfl), (fun _ => rfl), hR.f12.k, hR.f13.k, hR.f14.k, hR.f15.k, hR.f16.k, hR.f17.k, hR.f18.k⟩⟩
          refine EachOf.cons [5] rfl (by kernel_rfl) ?_ ?_
          · rintro L A W ⟨v, rfl, hR⟩ hi hw K hK
            have e5 := hR.f5 (hw 5 (by simp))
            simp only [e5]
            clear e5
            go_simp
            refine hK.out _ _ ?_
            exact ⟨(fun jz => if jz = 14 then .bool false else if jz = 21 then .slice (some ⟨b, 0, none⟩) (M) (cb) else v jz), rfl, ⟨hR.st, hR.w2.o, hR.w3.o, hR.w4.o, hR.w5.o, hR.w6.o, hR.w7.o, hR.w8.o, hR.w9.o, hR.w10.o, hR.w11.o, (fun _ j hj => upd_on (hw j hj)), hR.w13.o, hR.w14.o, hR.w15.o, hR.w16.o, hR.w17.o, hR.w18.o, hR.f0.k, hR.f1.k, hR.f2.k, hR.f3.k, hR.f4.k, (fun _ => rfl), hR.f6.k, hR.f7.k, hR.f8.k, hR.f9.k, hR.f10.k, hR.f11.k, (fun _ => rfl), hR.f13.k, hR.f14.k, hR.f15.k, hR.f16.k, hR.f17.k, hR.f18.k⟩⟩
          refine EachOf.cons [5] rfl (by kernel_rfl) ?_ ?_
          · rintro L A W ⟨v, rfl, hR⟩ hi hw K hK
            have e5 := hR.f5 (hw 5 (by simp))
            simp only [e5]
            clear e5
            go_simp
            refine hK.out _ _ ?_
            exact ⟨(fun jz => if jz = 14 then .bool false else if jz = 22 then .int .u64 (left : Int) else v jz), rfl, ⟨hR.st, hR.w2.o, hR.w3.o, hR.w4.o, hR.w5.o, hR.w6.o, hR.w7.o, hR.w8.o, hR.w9.o, hR.w10.o, hR.w11.o, hR.w12.o, (fun _ j hj => upd_on (hw j hj)), hR.w14.o, hR.w15.o, hR.w16.o, hR.w17.o, hR.w18.o, hR.f0.k, hR.f1.k, hR.f2.k, hR.f3.k, hR.f4.k, (fun _ => rfl), hR.f6.k, hR.f7.k, hR.f8.k, hR.f9.k, hR.f10.k, hR.f11.k, hR.f12.k, (fun _ => rfl), hR.f14.k, hR.f15.k, hR.f16.k, hR.f17.k, hR.f18.k⟩⟩
          refine EachOf.cons [5, 12, 13] rfl (by kernel_rfl) ?_ ?_
          · rintro L A W ⟨v, rfl, hR⟩ hi hw K hK
            have e12 := hR.f12 (hw 12 (by simp))
            have e13 := hR.f13 (hw 13 (by simp))
            have e5 := hR.f5 (hw 5 (by simp))
            simp only [e12, e13, e5]
            clear e12 e13 e5
            go_simp
            refine hK.out _ _ ?_
            exact ⟨(fun jz => if jz = 21 then .slice (some ⟨b, 0, none⟩) (M) (cb) else if jz = 22 then .int .u64 (left : Int) else if jz = 14 then .bool false else if jz = 23 then .pointer (some ⟨b, left, none⟩) else v jz), rfl, ⟨hR.st, hR.w2.o, hR.w3.o, hR.w4.o, hR.w5.o, hR.w6.o, hR.w7.o, hR.w8.o, hR.w9.o, hR.w10.o, hR.w11.o, hR.w12.o, hR.w13.o, (fun _ j hj => upd_on (hw j hj)), hR.w15.o, hR.w16.o, hR.w17.o, hR.w18.o, hR.f0.k, hR.f1.k, hR.f2.k, hR.f3.k, hR.f4.k, (fun _ => rfl), hR.f6.k, hR.f7.k, hR.f8.k, hR.f9.k, hR.f10.k, hR.f11.k, (fun _ => rfl), (fun _ => rfl), (fun _ => rfl), hR.f15.k, hR.f16.k, hR.f17.k, hR.f18.k⟩⟩
          refine EachOf.cons [5, 14] rfl (by kernel_rfl) ?_ ?_
          · rintro L A W ⟨v, rfl, hR⟩ hi hw K hK
            have e14 := hR.f14 (hw 14 (by simp))
            have e5 := hR.f5 (hw 5 (by simp))
            simp only [e14, e5]
            clear e14 e5
            have q0 := (hR.st.cell (p := ⟨b, left, none⟩) LZ.out.2).trans LZ.out.1
            go_simp
            refine hK.out _ _ ?_
            exact ⟨(fun jz => if jz = 23 then .pointer (some ⟨b, left, none⟩) else if jz = 14 then .bool false else if jz = 24 then .int .i64 z else v jz), rfl, ⟨hR.st, hR.w2.o, hR.w3.o, hR.w4.o, hR.w5.o, hR.w6.o, hR.w7.o, hR.w8.o, hR.w9.o, hR.w10.o, hR.w11.o, hR.w12.o, hR.w13.o, hR.w14.o, (fun _ j hj => upd_on (hw j hj)), hR.w16.o, hR.w17.o, hR.w18.o, hR.f0.k, hR.f1.k, hR.f2.k, hR.f3.k, hR.f4.k, (fun _ => rfl), hR.f6.k, hR.f7.k, hR.f8.k, hR.f9.k, hR.f10.k, hR.f11.k, hR.f12.k, hR.f13.k, (fun _ => rfl), (fun _ => rfl), hR.f16.k, hR.f17.k, hR.f18.k⟩⟩
          refine EachOf.cons [5, 15] rfl (by kernel_rfl) ?_ ?_
          · rintro L A W ⟨v, rfl, hR⟩ hi hw K hK
            have e15 := hR.f15 (hw 15 (by simp))
            have e5 := hR.f5 (hw 5 (by simp))
            simp only [e15, e5]
            clear e15 e5
            go_simp
            refine hK.out _ _ ?_
            exact ⟨(fun jz => if jz = 24 then .int .i64 z else if jz = 14 then .bool false else if jz = 25 then .int .i64 (z - 1) else v jz), rfl, ⟨hR.st, hR.w2.o, hR.w3.o, hR.w4.o, hR.w5.o, hR.w6.o, hR.w7.o, hR.w8.o, hR.w9.o, hR.w10.o, hR.w11.o, hR.w12.o, hR.w13.o, hR.w14.o, hR.w15.o, (fun _ j hj => upd_on (hw j hj)), hR.w17.o, hR.w18.o, hR.f0.k, hR.f1.k, hR.f2.k, hR.f3.k, hR.f4.k, (fun _ => rfl), hR.f6.k, hR.f7.k, hR.f8.k, hR.f9.k, hR.f10.k, hR.f11.k, hR.f12.k, hR.f13.k, hR.f14.k, (fun _ => rfl), (fun _ => rfl), hR.f17.k, hR.f18.k⟩⟩
          refine EachOf.cons [5, 11, 16] rfl (by kernel_rfl) ?_ ?_
          · rintro L A W ⟨v, rfl, hR⟩ hi hw K hK
            have e11 := hR.f11 (hw 11 (by simp))
            have e16 := hR.f16 (hw 16 (by simp))
            have e5 := hR.f5 (hw 5 (by simp))
            simp only [e11, e16, e5]
            clear e11 e16 e5
            go_simp
            refine hK.out _ _ ?_
            exact ⟨(fun jz => if jz = 20 then .int .i64 y else if jz = 25 then .int .i64 (z - 1) else if jz = 14 then .bool false else if jz = 26 then .bool true else v jz), rfl, ⟨hR.st, hR.w2.o, hR.w3.o, hR.w4.o, hR.w5.o, hR.w6.o, hR.w7.o, hR.w8.o, hR.w9.o, hR.w10.o, hR.w11.o, hR.w12.o, hR.w13.o, hR.w14.o, hR.w15.o, hR.w16.o, (fun _ j hj => upd_on (hw j hj)), hR.w18.o, hR.f0.k, hR.f1.k, hR.f2.k, hR.f3.k, hR.f4.k, (fun _ => rfl), hR.f6.k, hR.f7.k, hR.f8.k, hR.f9.k, hR.f10.k, (fun _ => rfl), hR.f12.k, hR.f13.k, hR.f14.k, hR.f15.k, (fun _ => rfl), (fun _ => rfl), hR.f18.k⟩⟩
          refine EachOf.cons [5, 17] rfl (by kernel_rfl) ?_ ?_
          · rintro L A W ⟨v, rfl, hR⟩ hi hw K hK
            have e5 := hR.f5 (hw 5 (by simp))
            have e17 := hR.f17 (hw 17 (by simp))
            simp only [e5, e17]
            clear e5 e17
            go_simp
            refine hK.out _ _ ?_
            exact ⟨(fun jz => if jz = 14 then .bool false else if jz = 26 then .bool true else if jz = 27 then .bool true else v jz), rfl, ⟨hR.st, hR.w2.o, hR.w3.o, hR.w4.o, hR.w5.o, hR.w6.o, hR.w7.o, hR.w8.o, hR.w9.o, hR.w10.o, hR.w11.o, hR.w12.o, hR.w13.o, hR.w14.o, hR.w15.o, hR.w16.o, hR.w17.o, (fun _ j hj => upd_on (hw j hj)), hR.f0.k, hR.f1.k, hR.f2.k, hR.f3.k, hR.f4.k, (fun _ => rfl), hR.f6.k, hR.f7.k, hR.f8.k, hR.f9.k, hR.f10.k, hR.f11.k, hR.f12.k, hR.f13.k, hR.f14.k, hR.f15.k, hR.f16.k, (fun _ => rfl), (fun _ => rfl)⟩⟩
          exact EachOf.nil
        rintro L A W ⟨v, rfl, hR⟩ hL
        have hst := hR.st
        have e18 := hR.f18 (hL 18 (by simp))
        simp only [e18]
        have T : Hid (Below w.heap.size w W ∧ p2 &&& left = p2 ∧ ∀ q, q &&& left = q → FpC F m left q → q ≤ p2) := ⟨below_on HB.out hst, HT.out⟩
        clear e18 hst hR hL LX LY LZ HB HS
        go_wp2_with fail
        go_roundg (2 * p2)
        case measure => omega
        case rel => exact ⟨p2, rfl, rfl, by omega, T⟩
    · have hxq : (x != 0) = true := by simpa using hx0
      obtain ⟨g1, g2, g3, g4⟩ := HGO.out (fun h => hx0 (HC.out.1 h).1)
      have HT := Lib.hid (And.intro g3 g4)
      have k1 : IntKind.u64.wrap ((p : Int) - 1) = ((p - 1 : Nat) : Int) := by rw [IntWalk.u64_in _ (by omega)]; omega
      have k3 : bits .and .u64 ((p - 1 : Nat) : Int) (left : Int) = (p2 : Int) := by rw [bits_and_u64_nat _ _ (by omega) (by omega), HP2.out]
      clear HC hx0 g3 g4
      go_upto_region 2 with fail
      refine wp_region_each (fun L A W => ∃ (v : Nat → Value), A = ⟨#[_, _, _, _, _, _, _, _, _, v 9, v 10, v 11, v 12, v 13, v 14, v 15, v 16, v 17, v 18, v 19, v 20, v 21, v 22, v 23, v 24, v 25, v 26, v 27, _, _, _, _, _], []⟩ ∧ FpbR left g M cp b cb p c x y z true W1 L v W) (by kernel_rfl) (by kernel_rfl) ⟨fun jz => if jz = 9 then u9 else if jz = 10 then u10 else if jz = 11 then u11 else if jz = 12 then u12 else if jz = 13 then u13 else if jz = 14 then u14 else if jz = 15 then u15 else if jz = 16 then u16 else if jz = 17 then u17 else if jz = 18 then u18 else if jz = 19 then u19 else if jz = 20 then u20 else if jz = 21 then u21 else if jz = 22 then u22 else if jz = 23 then u23 else if jz = 24 then u24 else if jz = 25 then u25 else if jz = 26 then u26 else if jz = 27 then u27 else undef, rfl, ⟨Below.drew (Below.refl _ _), Had.none, Had.none, Had.none, Had.none, Had.none, Had.none, Had.none, Had.none, Had.none, Had.none, Had.none, Had.none, Had.none, Had.none, Had.none, Had.none, Had.none, Had.none, Had.none, Had.none, Had.none, Had.none, Had.none, Had.none, Had.none, Had.none, Had.none, Had.none, Had.none, Had.none, Had.none, Had.none, Had.none, Had.none, Had.none, Had.none⟩⟩ (rs := [0, 1, 2, 3, 4, 5, 6, 7, 8, 9, 10, 11, 12, 13, 14, 15, 16, 17, 18]) (by kernel_rfl) ?_ ?_
      · refine EachOf.cons [] rfl (by kernel_rfl) ?_ ?_
        · rintro L A W ⟨v, rfl, hR⟩ hi hw K hK
          go_simp
          refine hK.out _ _ ?_
          exact ⟨(fun jz => if jz = 9 then .slice (some ⟨g, 0, none⟩) (M) (cp) else v jz), rfl, ⟨hR.st, hR.w2.o, hR.w3.o, hR.w4.o, hR.w5.o, hR.w6.o, hR.w7.o, hR.w8.o, hR.w9.o, hR.w10.o, hR.w11.o, hR.w12.o, hR.w13.o, hR.w14.o, hR.w15.o, hR.w16.o, hR.w17.o, hR.w18.o, (fun _ => rfl), hR.f1.k, hR.f2.k, hR.f3.k, hR.f4.k, hR.f5.k, hR.f6.k, hR.f7.k, hR.f8.k, hR.f9.k, hR.f10.k, hR.f11.k, hR.f12.k, hR.f13.k, hR.f14.k, hR.f15.k, hR.f16.k, hR.f17.k, hR.f18.k⟩⟩
        refine EachOf.cons [] rfl (by kernel_rfl) ?_ ?_
        · rintro L A W ⟨v, rfl, hR⟩ hi hw K hK
          go_simp
          refine hK.out _ _ ?_
          exact ⟨(fun jz => if jz = 10 then .int .u64 (p : Int) else v jz), rfl, ⟨hR.st, hR.w2.o, hR.w3.o, hR.w4.o, hR.w5.o, hR.w6.o, hR.w7.o, hR.w8.o, hR.w9.o, hR.w10.o, hR.w11.o, hR.w12.o, hR.w13.o, hR.w14.o, hR.w15.o, hR.w16.o, hR.w17.o, hR.w18.o, hR.f0.k, (fun _ => rfl), hR.f2.k, hR.f3.k, hR.f4.k, hR.f5.k, hR.f6.k, hR.f7.k, hR.f8.k, hR.f9.k, hR.f10.k, hR.f11.k, hR.f12.k, hR.f13.k, hR.f14.k, hR.f15.k, hR.f16.k, hR.f17.k, hR.f18.k⟩⟩
        refine EachOf.cons [0, 1] rfl (by kernel_rfl) ?_ ?_
        · rintro L A W ⟨v, rfl, hR⟩ hi hw K hK
          have e0 := hR.f0 (hw 0 (by simp))
          have e1 := hR.f1 (hw 1 (by simp))
          simp only [e0, e1]
          clear e0 e1
          go_simp
          refine hK.out _ _ ?_
          exact ⟨(fun jz => if jz = 9 then .slice (some ⟨g, 0, none⟩) (M) (cp) else if jz = 10 then .int .u64 (p : Int) else if jz = 11 then .pointer (some ⟨g, p, none⟩) else v jz), rfl, ⟨hR.st, (fun _ j hj => upd_on (hw j hj)), hR.w3.o, hR.w4.o, hR.w5.o, hR.w6.o, hR.w7.o, hR.w8.o, hR.w9.o, hR.w10.o, hR.w11.o, hR.w12.o, hR.w13.o, hR.w14.o, hR.w15.o, hR.w16.o, hR.w17.o, hR.w18.o, (fun _ => rfl), (fun _ => rfl), (fun _ => rfl), hR.f3.k, hR.f4.k, hR.f5.k, hR.f6.k, hR.f7.k, hR.f8.k, hR.f9.k, hR.f10.k, hR.f11.k, hR.f12.k, hR.f13.k, hR.f14.k, hR.f15.k, hR.f16.k, hR.f17.k, hR.f18.k⟩⟩
        refine EachOf.cons [2] rfl (by kernel_rfl) ?_ ?_
        · rintro L A W ⟨v, rfl, hR⟩ hi hw K hK
          have e2 := hR.f2 (hw 2 (by simp))
          simp only [e2]
          clear e2
          have q0 := (hR.st.cell (p := ⟨g, p, none⟩) LX.out.2).trans LX.out.1
          go_simp
          refine hK.out _ _ ?_
          exact ⟨(fun jz => if jz = 11 then .pointer (some ⟨g, p, none⟩) else if jz = 12 then .int .i64 x else v jz), rfl, ⟨hR.st, hR.w2.o, (fun _ j hj => upd_on (hw j hj)), hR.w4.o, hR.w5.o, hR.w6.o, hR.w7.o, hR.w8.o, hR.w9.o, hR.w10.o, hR.w11.o, hR.w12.o, hR.w13.o, hR.w14.o, hR.w15.o, hR.w16.o, hR.w17.o, hR.w18.o, hR.f0.k, hR.f1.k, (fun _ => rfl), (fun _ => rfl), hR.f4.k, hR.f5.k, hR.f6.k, hR.f7.k, hR.f8.k, hR.f9.k, hR.f10.k, hR.f11.k, hR.f12.k, hR.f13.k, hR.f14.k, hR.f15.k, hR.f16.k, hR.f17.k, hR.f18.k⟩⟩
        refine EachOf.cons [3] rfl (by kernel_rfl) ?_ ?_
        · rintro L A W ⟨v, rfl, hR⟩ hi hw K hK
          have e3 := hR.f3 (hw 3 (by simp))
          simp only [e3]
          clear e3
          go_simp
          refine hK.out _ _ ?_
          exact ⟨(fun jz => if jz = 12 then .int .i64 x else if jz = 13 then .bool true else v jz), rfl, ⟨hR.st, hR.w2.o, hR.w3.o, (fun _ j hj => upd_on (hw j hj)), hR.w5.o, hR.w6.o, hR.w7.o, hR.w8.o, hR.w9.o, hR.w10.o, hR.w11.o, hR.w12.o, hR.w13.o, hR.w14.o, hR.w15.o, hR.w16.o, hR.w17.o, hR.w18.o, hR.f0.k, hR.f1.k, hR.f2.k, (fun _ => rfl), (fun _ => rfl), hR.f5.k, hR.f6.k, hR.f7.k, hR.f8.k, hR.f9.k, hR.f10.k, hR.f11.k, hR.f12.k, hR.f13.k, hR.f14.k, hR.f15.k, hR.f16.k, hR.f17.k, hR.f18.k⟩⟩
        refine EachOf.cons [4] rfl (by kernel_rfl) ?_ ?_
        · rintro L A W ⟨v, rfl, hR⟩ hi hw K hK
          have e4 := hR.f4 (hw 4 (by simp))
          simp only [e4]
          clear e4
          go_simp
          refine hK.out _ _ ?_
          exact ⟨(fun jz => if jz = 13 then .bool true else if jz = 14 then .bool true else v jz), rfl, ⟨hR.st, hR.w2.o, hR.w3.o, hR.w4.o, (fun _ j hj => upd_on (hw j hj)), hR.w6.o, hR.w7.o, hR.w8.o, hR.w9.o, hR.w10.o, hR.w11.o, hR.w12.o, hR.w13.o, hR.w14.o, hR.w15.o, hR.w16.o, hR.w17.o, hR.w18.o, hR.f0.k, hR.f1.k, hR.f2.k, hR.f3.k, (fun _ => rfl), (fun _ => rfl), hR.f6.k, hR.f7.k, hR.f8.k, hR.f9.k, hR.f10.k, hR.f11.k, hR.f12.k, hR.f13.k, hR.f14.k, hR.f15.k, hR.f16.k, hR.f17.k, hR.f18.k⟩⟩
        refine EachOf.cons [5] rfl (by kernel_rfl) ?_ ?_
        · rintro L A W ⟨v, rfl, hR⟩ hi hw K hK
          have e5 := hR.f5 (hw 5 (by simp))
          simp only [e5]
          clear e5
          go_simp
          refine hK.out _ _ ?_
          exact ⟨(fun jz => if jz = 14 then .bool true else if jz = 15 then undef else v jz), rfl, ⟨hR.st, hR.w2.o, hR.w3.o, hR.w4.o, hR.w5.o, (fun _ j hj => upd_on (hw j hj)), hR.w7.o, hR.w8.o, hR.w9.o, hR.w10.o, hR.w11.o, hR.w12.o, hR.w13.o, hR.w14.o, hR.w15.o, hR.w16.o, hR.w17.o, hR.w18.o, hR.f0.k, hR.f1.k, hR.f2.k, hR.f3.k, hR.f4.k, (fun _ => rfl), (fun _ => rfl), hR.f7.k, hR.f8.k, hR.f9.k, hR.f10.k, hR.f11.k, hR.f12.k, hR.f13.k, hR.f14.k, hR.f15.k, hR.f16.k, hR.f17.k, hR.f18.k⟩⟩
        refine EachOf.cons [5] rfl (by kernel_rfl) ?_ ?_
        · rintro L A W ⟨v, rfl, hR⟩ hi hw K hK
          have e5 := hR.f5 (hw 5 (by simp))
          simp only [e5]
          clear e5
          go_simp
          refine hK.out _ _ ?_
          exact ⟨(fun jz => if jz = 14 then .bool true else if jz = 16 then undef else v jz), rfl, ⟨hR.st, hR.w2.o, hR.w3.o, hR.w4.o, hR.w5.o, hR.w6.o, (fun _ j hj => upd_on (hw j hj)), hR.w8.o, hR.w9.o, hR.w10.o, hR.w11.o, hR.w12.o, hR.w13.o, hR.w14.o, hR.w15.o, hR.w16.o, hR.w17.o, hR.w18.o, hR.f0.k, hR.f1.k, hR.f2.k, hR.f3.k, hR.f4.k, (fun _ => rfl), hR.f6.k, (fun _ => rfl), hR.f8.k, hR.f9.k, hR.f10.k, hR.f11.k, hR.f12.k, hR.f13.k, hR.f14.k, hR.f15.k, hR.f16.k, hR.f17.k, hR.f18.k⟩⟩
        refine EachOf.cons [5] rfl (by kernel_rfl) ?_ ?_
        · rintro L A W ⟨v, rfl, hR⟩ hi hw K hK
          have e5 := hR.f5 (hw 5 (by simp))
          simp only [e5]
          clear e5
          go_simp
          refine hK.out _ _ ?_
          exact ⟨(fun jz => if jz = 14 then .bool true else if jz = 17 then undef else v jz), rfl, ⟨hR.st, hR.w2.o, hR.w3.o, hR.w4.o, hR.w5.o, hR.w6.o, hR.w7.o, (fun _ j hj => upd_on (hw j hj)), hR.w9.o, hR.w10.o, hR.w11.o, hR.w12.o, hR.w13.o, hR.w14.o, hR.w15.o, hR.w16.o, hR.w17.o, hR.w18.o, hR.f0.k, hR.f1.k, hR.f2.k, hR.f3.k, hR.f4.k, (fun _ => rfl), hR.f6.k, hR.f7.k, (fun _ => rfl), hR.f9.k, hR.f10.k, hR.f11.k, hR.f12.k, hR.f13.k, hR.f14.k, hR.f15.k, hR.f16.k, hR.f17.k, hR.f18.k⟩⟩
        refine EachOf.cons [5, 7, 8] rfl (by kernel_rfl) ?_ ?_
        · rintro L A W ⟨v, rfl, hR⟩ hi hw K hK
          have e7 := hR.f7 (hw 7 (by simp))
          have e8 := hR.f8 (hw 8 (by simp))
          have e5 := hR.f5 (hw 5 (by simp))
          simp only [e7, e8, e5]
          clear e7 e8 e5
          go_simp
          refine hK.out _ _ ?_
          exact ⟨(fun jz => if jz = 16 then undef else if jz = 17 then undef else if jz = 14 then .bool true else if jz = 18 then undef else v jz), rfl, ⟨hR.st, hR.w2.o, hR.w3.o, hR.w4.o, hR.w5.o, hR.w6.o, hR.w7.o, hR.w8.o, (fun _ j hj => upd_on (hw j hj)), hR.w10.o, hR.w11.o, hR.w12.o, hR.w13.o, hR.w14.o, hR.w15.o, hR.w16.o, hR.w17.o, hR.w18.o, hR.f0.k, hR.f1.k, hR.f2.k, hR.f3.k, hR.f4.k, (fun _ => rfl), hR.f6.k, (fun _ => rfl), (fun _ => rfl), (fun _ => rfl), hR.f10.k, hR.f11.k, hR.f12.k, hR.f13.k, hR.f14.k, hR.f15.k, hR.f16.k, hR.f17.k, hR.f18.k⟩⟩
        refine EachOf.cons [5, 6, 9] rfl (by kernel_rfl) ?_ ?_
        · rintro L A W ⟨v, rfl, hR⟩ hi hw K hK
          have e6 := hR.f6 (hw 6 (by simp))
          have e9 := hR.f9 (hw 9 (by simp))
          have e5 := hR.f5 (hw 5 (by simp))
          simp only [e6, e9, e5]
          clear e6 e9 e5
          go_simp
          refine hK.out _ _ ?_
          exact ⟨(fun jz => if jz = 15 then undef else if jz = 18 then undef else if jz = 14 then .bool true else if jz = 19 then undef else v jz), rfl, ⟨hR.st, hR.w2.o, hR.w3.o, hR.w4.o, hR.w5.o, hR.w6.o, hR.w7.o, hR.w8.o, hR.w9.o, (fun _ j hj => upd_on (hw j hj)), hR.w11.o, hR.w12.o, hR.w13.o, hR.w14.o, hR.w15.o, hR.w16.o, hR.w17.o, hR.w18.o, hR.f0.k, hR.f1.k, hR.f2.k, hR.f3.k, hR.f4.k, (fun _ => rfl), (fun _ => rfl), hR.f7.k, hR.f8.k, (fun _ => rfl), (fun _ => rfl), hR.f11.k, hR.f12.k, hR.f13.k, hR.f14.k, hR.f15.k, hR.f16.k, hR.f17.k, hR.f18.k⟩⟩
        refine EachOf.cons [5, 10] rfl (by kernel_rfl) ?_ ?_
        · rintro L A W ⟨v, rfl, hR⟩ hi hw K hK
          have e10 := hR.f10 (hw 10 (by simp))
          have e5 := hR.f5 (hw 5 (by simp))
          simp only [e10, e5]
          clear e10 e5
          go_simp
          refine hK.out _ _ ?_
          exact ⟨(fun jz => if jz = 19 then undef else if jz = 14 then .bool true else if jz = 20 then undef else v jz), rfl, ⟨hR.st, hR.w2.o, hR.w3.o, hR.w4.o, hR.w5.o, hR.w6.o, hR.w7.o, hR.w8.o, hR.w9.o, hR.w10.o, (fun _ j hj => upd_on (hw j hj)), hR.w12.o, hR.w13.o, hR.w14.o, hR.w15.o, hR.w16.o, hR.w17.o, hR.w18.o, hR.f0.k, hR.f1.k, hR.f2.k, hR.f3.k, hR.f4.k, (fun _ => rfl), hR.f6.k, hR.f7.k, hR.f8.k, hR.f9.k, (fun _ => rfl), (fun _ => rfl), hR.f12.k, hR.f13.k, hR.f14.k, hR.f15.k, hR.f16.k, hR.f17.k, hR.f18.k⟩⟩
        refine EachOf.cons [5] rfl (by kernel_rfl) ?_ ?_
        · rintro L A W ⟨v, rfl, hR⟩ hi hw K hK
          have e5 := hR.f5 (hw 5 (by simp))
          simp only [e5]
          clear e5
          go_simp
          refine hK.out _ _ ?_
          exact ⟨(fun jz => if jz = 14 then .bool true else if jz = 21 then undef else v jz), rfl, ⟨hR.st, hR.w2.o, hR.w3.o, hR.w4.o, hR.w5.o, hR.w6.o, hR.w7.o, hR.w8.o, hR.w9.o, hR.w10.o, hR.w11.o, (fun _ j hj => upd_on (hw j hj)), hR.w13.o, hR.w14.o, hR.w15.o, hR.w16.o, hR.w17.o, hR.w18.o, hR.f0.k, hR.f1.k, hR.f2.k, hR.f3.k, hR.f4.k, (fun _ => rfl), hR.f6.k, hR.f7.k, hR.f8.k, hR.f9.k, hR.f10.k, hR.f11.k, (fun _ => rfl), hR.f13.k, hR.f14.k, hR.f15.k, hR.f16.k, hR.f17.k, hR.f18.k⟩⟩
        refine EachOf.cons [5] rfl (by kernel_rfl) ?_ ?_
        · rintro L A W ⟨v, rfl, hR⟩ hi hw K hK
          have e5 := hR.f5 (hw 5 (by simp))
          simp only [e5]
          clear e5
          go_simp
          refine hK.out _ _ ?_
          exact ⟨(fun jz => if jz = 14 then .bool true else if jz = 22 then undef else v jz), rfl, ⟨hR.st, hR.w2.o, hR.w3.o, hR.w4.o, hR.w5.o, hR.w6.o, hR.w7.o, hR.w8.o, hR.w9.o, hR.w10.o, hR.w11.o, hR.w12.o, (fun _ j hj => upd_on (hw j hj)), hR.w14.o, hR.w15.o, hR.w16.o, hR.w17.o, hR.w18.o, hR.f0.k, hR.f1.k, hR.f2.k, hR.f3.k, hR.f4.k, (fun _ => rfl), hR.f6.k, hR.f7.k, hR.f8.k, hR.f9.k, hR.f10.k, hR.f11.k, hR.f12.k, (fun _ => rfl), hR.f14.k, hR.f15.k, hR.f16.k, hR.f17.k, hR.f18.k⟩⟩
        refine EachOf.cons [5, 12, 13] rfl (by kernel_rfl) ?_ ?_
        · rintro L A W ⟨v, rfl, hR⟩ hi hw K hK
          have e12 := hR.f12 (hw 12 (by simp))
          have e13 := hR.f13 (hw 13 (by simp))
          have e5 := hR.f5 (hw 5 (by simp))
          simp only [e12, e13, e5]
          clear e12 e13 e5
          go_simp
          refine hK.out _ _ ?_
          exact ⟨(fun jz => if jz = 21 then undef else if jz = 22 then undef else if jz = 14 then .bool true else if jz = 23 then undef else v jz), rfl, ⟨hR.st, hR.w2.o, hR.w3.o, hR.w4.o, hR.w5.o, hR.w6.o, hR.w7.o, hR.w8.o, hR.w9.o, hR.w10.o, hR.w11.o, hR.w12.o, hR.w13.o, (fun _ j hj => upd_on (hw j hj)), hR.w15.o, hR.w16.o, hR.w17.o, hR.w18.o, hR.f0.k, hR.f1.k, hR.f2.k, hR.f3.k, hR.f4.k, (fun _ => rfl), hR.f6.k, hR.f7.k, hR.f8.k, hR.f9.k, hR.f10.k, hR.f11.k, (fun _ => rfl), (fun _ => rfl), (fun _ => rfl), hR.f15.k, hR.f16.k, hR.f17.k, hR.f18.k⟩⟩
        refine EachOf.cons [5, 14] rfl (by kernel_rfl) ?_ ?_
        · rintro L A W ⟨v, rfl, hR⟩ hi hw K hK
          have e14 := hR.f14 (hw 14 (by simp))
          have e5 := hR.f5 (hw 5 (by simp))
          simp only [e14, e5]
          clear e14 e5
          go_simp
          refine hK.out _ _ ?_
          exact ⟨(fun jz => if jz = 23 then undef else if jz = 14 then .bool true else if jz = 24 then undef else v jz), rfl, ⟨hR.st, hR.w2.o, hR.w3.o, hR.w4.o, hR.w5.o, hR.w6.o, hR.w7.o, hR.w8.o, hR.w9.o, hR.w10.o, hR.w11.o, hR.w12.o, hR.w13.o, hR.w14.o, (fun _ j hj => upd_on (hw j hj)), hR.w16.o, hR.w17.o, hR.w18.o, hR.f0.k, hR.f1.k, hR.f2.k, hR.f3.k, hR.f4.k, (fun _ => rfl), hR.f6.k, hR.f7.k, hR.f8.k, hR.f9.k, hR.f10.k, hR.f11.k, hR.f12.k, hR.f13.k, (fun _ => rfl), (fun _ => rfl), hR.f16.k, hR.f17.k, hR.f18.k⟩⟩
        refine EachOf.cons [5, 15] rfl (by kernel_rfl) ?_ ?_
        · rintro L A W ⟨v, rfl, hR⟩ hi hw K hK
          have e15 := hR.f15 (hw 15 (by simp))
          have e5 := hR.f5 (hw 5 (by simp))
          simp only [e15, e5]
          clear e15 e5
          go_simp
          refine hK.out _ _ ?_
          exact ⟨(fun jz => if jz = 24 then undef else if jz = 14 then .bool true else if jz = 25 then undef else v jz), rfl, ⟨hR.st, hR.w2.o, hR.w3.o, hR.w4.o, hR.w5.o, hR.w6.o, hR.w7.o, hR.w8.o, hR.w9.o, hR.w10.o, hR.w11.o, hR.w12.o, hR.w13.o, hR.w14.o, hR.w15.o, (fun _ j hj => upd_on (hw j hj)), hR.w17.o, hR.w18.o, hR.f0.k, hR.f1.k, hR.f2.k, hR.f3.k, hR.f4.k, (fun _ => rfl), hR.f6.k, hR.f7.k, hR.f8.k, hR.f9.k, hR.f10.k, hR.f11.k, hR.f12.k, hR.f13.k, hR.f14.k, (fun _ => rfl), (fun _ => rfl), hR.f17.k, hR.f18.k⟩⟩
        refine EachOf.cons [5, 11, 16] rfl (by kernel_rfl) ?_ ?_
        · rintro L A W ⟨v, rfl, hR⟩ hi hw K hK
          have e11 := hR.f11 (hw 11 (by simp))
          have e16 := hR.f16 (hw 16 (by simp))
          have e5 := hR.f5 (hw 5 (by simp))
          simp only [e11, e16, e5]
          clear e11 e16 e5
          go_simp
          refine hK.out _ _ ?_
          exact ⟨(fun jz => if jz = 20 then undef else if jz = 25 then undef else if jz = 14 then .bool true else if jz = 26 then undef else v jz), rfl, ⟨hR.st, hR.w2.o, hR.w3.o, hR.w4.o, hR.w5.o, hR.w6.o, hR.w7.o, hR.w8.o, hR.w9.o, hR.w10.o, hR.w11.o, hR.w12.o, hR.w13.o, hR.w14.o, hR.w15.o, hR.w16.o, (fun _ j hj => upd_on (hw j hj)), hR.w18.o, hR.f0.k, hR.f1.k, hR.f2.k, hR.f3.k, hR.f4.k, (fun _ => rfl), hR.f6.k, hR.f7.k, hR.f8.k, hR.f9.k, hR.f10.k, (fun _ => rfl), hR.f12.k, hR.f13.k, hR.f14.k, hR.f15.k, (fun _ => rfl), (fun _ => rfl), hR.f18.k⟩⟩
        refine EachOf.cons [5, 17] rfl (by kernel_rfl) ?_ ?_
        · rintro L A W ⟨v, rfl, hR⟩ hi hw K hK
          have e5 := hR.f5 (hw 5 (by simp))
          have e17 := hR.f17 (hw 17 (by simp))
          simp only [e5, e17]
          clear e5 e17
          go_simp
          refine hK.out _ _ ?_
          exact ⟨(fun jz => if jz = 14 then .bool true else if jz = 26 then undef else if jz = 27 then .bool true else v jz), rfl, ⟨hR.st, hR.w2.o, hR.w3.o, hR.w4.o, hR.w5.o, hR.w6.o, hR.w7.o, hR.w8.o, hR.w9.o, hR.w10.o, hR.w11.o, hR.w12.o, hR.w13.o, hR.w14.o, hR.w15.o, hR.w16.o, hR.w17.o, (fun _ j hj => upd_on (hw j hj)), hR.f0.k, hR.f1.k, hR.f2.k, hR.f3.k, hR.f4.k, (fun _ => rfl), hR.f6.k, hR.f7.k, hR.f8.k, hR.f9.k, hR.f10.k, hR.f11.k, hR.f12.k, hR.f13.k, hR.f14.k, hR.f15.k, hR.f16.k, (fun _ => rfl), (fun _ => rfl)⟩⟩
        exact EachOf.nil
      rintro L A W ⟨v, rfl, hR⟩ hL
      have hst := hR.st
      have e18 := hR.f18 (hL 18 (by simp))
      simp only [e18]
      have T : Hid (Below w.heap.size w W ∧ p2 &&& left = p2 ∧ ∀ q, q &&& left = q → FpC F m left q → q ≤ p2) := ⟨below_on HB.out hst, HT.out⟩
      clear e18 hst hR hL LX LY LZ HB HS
      go_wp2_with fail
      go_roundg (2 * p2)
      case measure => omega
      case rel => exact ⟨p2, rfl, rfl, by omega, T⟩
end Go.Proofs.YtjonhhmapbibaaaDoor
