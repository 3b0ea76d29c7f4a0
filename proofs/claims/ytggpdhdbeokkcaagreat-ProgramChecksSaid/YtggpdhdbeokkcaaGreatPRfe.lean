/- Layer 5: the reference's Sum and sign. Layer 5: the reference's Valid and Same. Layer 5: the reference's Feasible. Layer 2's reference: All. -/
import Derived.Test.YtggpdhdbeokkcaaGreatRRfs
import Derived.Test.YtggpdhdbeokkcaaGreatPSums
namespace Go.Proofs.YtggpdhdbeokkcaaGreat
set_option linter.unusedVariables false
open Go.RowKit Go.Shelf

theorem rTim_any (an ad bn bd : Int) (w : World) (va : Vld an ad) (vb : Vld bn bd) (n d er : Int) (h : mulT an ad bn bd = (n, d, er)) :
  Calls Tryz.prog 78 #[.agg #[.int .i64 an, .int .i64 ad], .agg #[.int .i64 bn, .int .i64 bd]] w fun e w' => e = .returned (.tuple #[.agg #[.int .i64 n, .int .i64 d], .int .i64 er]) ∧ Below w.heap.size w w' := by
 rw [mul_made va vb] at h
 have b1 : (an.natAbs : Int) * (bn.natAbs : Int) ≤ 1152921504606846976 * 1152921504606846976 := Int.mul_le_mul (by have := va.n1; have := va.n2; omega) (by have := vb.n1; have := vb.n2; omega) (by omega) (by omega)
 have b2 : (ad.natAbs : Int) * (bd.natAbs : Int) ≤ 1152921504606846976 * 1152921504606846976 := Int.mul_le_mul (by have := va.d1; have := va.d2; omega) (by have := vb.d1; have := vb.d2; omega) (by omega) (by omega)
 have c1 : 0 ≤ (an.natAbs : Int) * (bn.natAbs : Int) := Int.mul_nonneg (by omega) (by omega)
 have c2 : 0 ≤ (ad.natAbs : Int) * (bd.natAbs : Int) := Int.mul_nonneg (by omega) (by omega)
 exact refTimes_any an ad bn bd w va.n1 va.n2 va.d1 va.d2 vb.n1 vb.n2 vb.d1 vb.d2 _ _ n d er rfl rfl c1 (by omega) c2 (by omega) h

structure RSuR (lg lo n lc xg xo N xc j : Nat) (fj xn xd qn qd qe : Int) (Wc : World) (L : Nat → Bool) (v : Nat → Value) (W : World) : Prop where
 st : Below Wc.heap.size Wc W
 f0 : Had L 0 (v 18 = .slice (some ⟨lg, lo, none⟩) (n) (lc))
 f1 : Had L 1 (v 19 = .int .i64 (j : Int))
 f2 : Had L 2 (v 20 = .pointer (some ⟨lg, lo + j, none⟩))
 f3 : Had L 3 (v 21 = .int .i64 fj)
 f4 : Had L 4 (v 22 = .agg #[.int .i64 fj, .int .i64 1])
 f5 : Had L 5 (v 23 = .slice (some ⟨xg, xo, none⟩) (N) (xc))
 f6 : Had L 6 (v 24 = .int .i64 (j : Int))
 f7 : Had L 7 (v 25 = .pointer (some ⟨xg, xo + j * 2, none⟩))
 f8 : Had L 8 (v 26 = .agg #[.int .i64 xn, .int .i64 xd])
 f9 : Had L 9 (v 27 = .tuple #[.agg #[.int .i64 qn, .int .i64 qd], .int .i64 qe])
 f10 : Had L 10 (v 17 = .tuple #[.agg #[.int .i64 qn, .int .i64 qd], .int .i64 qe])
 f11 : Had L 11 (v 28 = .agg #[.int .i64 qn, .int .i64 qd])
 f12 : Had L 12 (v 29 = .int .i64 qe)
 x13 : Had L 13 (∃ g, v 8 = .pointer (some ⟨g, 0, none⟩) ∧ Own Wc.heap.size W g)
 x14 : Had L 14 (∃ g, v 8 = .pointer (some ⟨g, 0, none⟩) ∧ Own Wc.heap.size W g ∧ Blk W g (.int .i64 qn) (.int .i64 qd))
 f15 : Had L 15 (v 9 = .int .i64 qe)
 w2 : Had L 2 (∀ j ∈ [0, 1], L j = true)
 w3 : Had L 3 (∀ j ∈ [2], L j = true)
 w4 : Had L 4 (∀ j ∈ [3], L j = true)
 w7 : Had L 7 (∀ j ∈ [5, 6], L j = true)
 w8 : Had L 8 (∀ j ∈ [7], L j = true)
 w9 : Had L 9 (∀ j ∈ [4, 8], L j = true)
 w10 : Had L 10 (∀ j ∈ [9], L j = true)
 w11 : Had L 11 (∀ j ∈ [10], L j = true)
 w12 : Had L 12 (∀ j ∈ [10], L j = true)
 w14 : Had L 14 (∀ j ∈ [11, 13], L j = true)
 w15 : Had L 15 (∀ j ∈ [12], L j = true)

set_option maxRecDepth 100000 in
set_option maxHeartbeats 16000000 in
theorem rpSum_any (la : Option Addr) (n lc : Nat) (f : Nat → Int) (xa : Option Addr) (N xc : Nat) (X : Nat → Int × Int) (w : World) (hl : IRow w la n f) (hx : IFr w xa N X) (hn : n ≤ N) (hN : N ≤ 1000) (hv : ∀ j, j < N → Vld (X j).1 (X j).2) (hf : ∀ j, j < n → -1073741824 ≤ f j ∧ f j ≤ 1073741824) :
  Calls Tryz.prog 38 #[.slice la n lc, .slice xa N xc] w fun e w' => Below w.heap.size w w' ∧ ∃ a d er, e = .returned (.tuple #[.agg #[.int .i64 a, .int .i64 d], .int .i64 er]) ∧ comS f X n = (a, d, er) := by
 have HL := Lib.hid hl
 have HX := Lib.hid hx
 have HV := Lib.hid hv
 have HF := Lib.hid hf
 have HO := Lib.hid (fun z (W : World) => Lib.hid (refOf_any z W))
 have hb1 : Below w.heap.size w (w.alloc (Obj.cells #[Value.int .i64 0, .int .i64 0] 27)) := (Below.refl _ _).alloc (Nat.le_refl _) _
 obtain ⟨w1, hw1⟩ : ∃ W, W = w.alloc (Obj.cells #[Value.int .i64 0, .int .i64 0] 27) := ⟨_, rfl⟩
 obtain ⟨gb, hgb⟩ : ∃ x, x = w.heap.size := ⟨_, rfl⟩
 have hG : Blk w1 gb (.int .i64 0) (.int .i64 0) ∧ Frz w1 gb := by rw [hw1, hgb]; exact ⟨Blk.new _ _ _ _, Frz.new _ _ _ _⟩
 rw [← hw1] at hb1
 have HG := Lib.hid hG
 have HB := Lib.hid hb1
 have HGL : Hid (w.heap.size ≤ gb) := by show _ ≤ _; omega
 clear hb1 hG hl hx hv hf
 go_enter Tryz.func38, Tryz.ntmps38
 go_upto_region 1 with fail
 rw [← hgb, ← hw1]
 clear hgb hw1
 go_wp2_with fail
 (with_reducible refine (((HO.out _ _).out).mono ?_))
 rintro e w2 ⟨rfl, hb2⟩
 have HG := Lib.hid (And.intro (HG.out.1.on hb2) (HG.out.2.on HG.out.1.1 hb2))
 have HB := Lib.hid (below_on HB.out hb2)
 clear hb2
 go_upto_region 2 with fail
 have hb2 : Below w2.heap.size w2 (w2.alloc (Obj.cells #[Value.int .i64 0, .int .i64 1] 27)) := (Below.refl _ _).alloc (Nat.le_refl _) _
 obtain ⟨w3, hw3⟩ : ∃ W, W = w2.alloc (Obj.cells #[Value.int .i64 0, .int .i64 1] 27) := ⟨_, rfl⟩
 obtain ⟨sb, hsb⟩ : ∃ x, x = w2.heap.size := ⟨_, rfl⟩
 rw [← hsb, ← hw3]
 rw [← hw3] at hb2
 have HSL : Hid (gb < sb ∧ w.heap.size ≤ sb) := by rw [hsb]; exact ⟨HG.out.1.1, HB.out.size⟩
 have S0 : Hid ((Blk w3 sb (.int .i64 (comS f X 0).1) (.int .i64 (comS f X 0).2.1) ∧ Frz w3 sb) ∧ Below w.heap.size w w3 ∧ (Blk w3 gb (.int .i64 0) (.int .i64 0) ∧ Frz w3 gb) ∧ (comS f X 0).2.2 = 0 ∧ Vld (comS f X 0).1 (comS f X 0).2.1) := by
  refine ⟨?_, below_on HB.out hb2, ⟨HG.out.1.on hb2, HG.out.2.on HG.out.1.1 hb2⟩, rfl, (show Vld 0 1 from ⟨by decide, by decide, by decide, by decide, by decide⟩)⟩
  rw [hw3, hsb]
  exact ⟨Blk.new _ _ _ _, Frz.new _ _ _ _⟩
 clear hw3 hsb hb2 HG HB
 go_wp2_with fail
 go_loopg [7] n (fun g s7 wx => ∃ j : Nat, s7 = .int .i64 j ∧ g = n - j ∧ j ≤ n ∧ Hid ((Blk wx sb (.int .i64 (comS f X j).1) (.int .i64 (comS f X j).2.1) ∧ Frz wx sb) ∧ Below w.heap.size w wx ∧ (Blk wx gb (.int .i64 0) (.int .i64 0) ∧ Frz wx gb) ∧ (comS f X j).2.2 = 0 ∧ Vld (comS f X j).1 (comS f X j).2.1))
 case atStart => exact ⟨0, rfl, rfl, Nat.zero_le _, S0⟩
 case round =>
  clear S0
  obtain ⟨j, rfl, rfl, hj, S⟩ := hrel
  rename World => W4
  by_cases hjl : j < n
  ·have wkj : IntKind.i64.wrap ((j : Int) + 1) = ((j + 1 : Nat) : Int) := by rw [IntWalk.i64_in _ (by omega)]; omega
   obtain ⟨lg, lo, el, hlg, hlc⟩ := (HL.out.on S.out.2.1) (by omega)
   obtain ⟨xg, xo, ex, hxg, hxc⟩ := (HX.out.on S.out.2.1) (by omega)
   have p1 := hlc j hjl
   have p2 := (hxc j (by omega)).1
   have p3 := (hxc j (by omega)).2
   have vx := HV.out j (by omega)
   have hfj := HF.out j hjl
   have hst : comS f X (j + 1) = if (comS f X j).2.2 = 0 then (if (mulT (f j) 1 (X j).1 (X j).2).2.2 = 0 then addT (comS f X j).1 (comS f X j).2.1 (mulT (f j) 1 (X j).1 (X j).2).1 (mulT (f j) 1 (X j).1 (X j).2).2.1 else mulT (f j) 1 (X j).1 (X j).2) else comS f X j := rfl
   have hend := fun (h : (comS f X (j + 1)).2.2 ≠ 0) => comS_end (n := n) h (by omega)
   have HEND := Lib.hid hend
   obtain ⟨sn, sd, se, hs⟩ : ∃ a b c, comS f X j = (a, b, c) := ⟨_, _, _, rfl⟩
   have S2 := S.out
   rw [hs] at S2 hst
   obtain ⟨sC, sB, sG, rfl, vs⟩ := S2
   simp only at sC vs hst
   rw [if_pos trivial] at hst
   have HC := Lib.hid (And.intro sC (And.intro sB sG))
   clear hs sC sB sG S hend
   obtain ⟨qn, qd, qe, hq⟩ : ∃ a b c, mulT (f j) 1 (X j).1 (X j).2 = (a, b, c) := ⟨_, _, _, rfl⟩
   rw [hq] at hst
   simp only at hst
   have CM := fun W => Lib.hid (rTim_any (f j) 1 (X j).1 (X j).2 W (vld_one hfj) vx qn qd qe hq)
   have hmo := mulT_ok (vld_one hfj) vx
   have hmc := mulT_cases (f j) 1 (X j).1 (X j).2
   rw [hq] at hmc hmo
   generalize (X j).1 = xn at *
   generalize (X j).2 = xd at *
   obtain ⟨fj, hfjd⟩ : ∃ x, f j = x := ⟨_, rfl⟩
   rw [hfjd] at p1 hfj CM hmc
   have HST := Lib.hid hst
   have HMC := Lib.hid (And.intro hmc hmo)
   have HVS := Lib.hid vs
   have LF0 : Hid (W4.cell? ⟨lg, lo + j, none⟩ = some (.int .i64 fj) ∧ lg < W4.heap.size) := ⟨p1, hlg⟩
   have LX0 : Hid (W4.cell? ⟨xg, xo + j * 2, none⟩ = some (.int .i64 xn) ∧ xg < W4.heap.size) := ⟨p2, hxg⟩
   have LX1 : Hid (W4.cell? ⟨xg, xo + j * 2 + 1, none⟩ = some (.int .i64 xd) ∧ xg < W4.heap.size) := ⟨p3, hxg⟩
   have HEL := Lib.hid (And.intro el ex)
   rw [el, ex]
   clear hst hmc vs vx hq hmo hfjd hlc hxc hlg hxg p1 p2 p3 el ex
   have l1 : (j : Int) < (N : Int) := by omega
   have l2 : (j : Int) < (n : Int) := by omega
   go_upto_region 5 with fail
   refine wp_region_each (fun L A W => ∃ (v : Nat → Value), A = ⟨#[_, _, _, _, _, _, _, _, v 8, v 9, _, _, _, _, _, _, _, v 17, v 18, v 19, v 20, v 21, v 22, v 23, v 24, v 25, v 26, v 27, v 28, v 29, _, _, _, _, _, _, _, _, _, _, _, _, _, _, _], []⟩ ∧ RSuR lg lo n lc xg xo N xc j fj xn xd qn qd qe W4 L v W) (by kernel_rfl) (by kernel_rfl) ⟨fun jz => if jz = 18 then u18 else if jz = 19 then u19 else if jz = 20 then u20 else if jz = 21 then u21 else if jz = 22 then u22 else if jz = 23 then u23 else if jz = 24 then u24 else if jz = 25 then u25 else if jz = 26 then u26 else if jz = 27 then u27 else if jz = 17 then u17 else if jz = 28 then u28 else if jz = 29 then u29 else if jz = 8 then u8 else if jz = 9 then u9 else undef, rfl, ⟨Below.drew (Below.refl _ _), Had.none, Had.none, Had.none, Had.none, Had.none, Had.none, Had.none, Had.none, Had.none, Had.none, Had.none, Had.none, Had.none, Had.none, Had.none, Had.none, Had.none, Had.none, Had.none, Had.none, Had.none, Had.none, Had.none, Had.none, Had.none, Had.none, Had.none⟩⟩ (rs := [0, 1, 2, 3, 4, 5, 6, 7, 8, 9, 10, 11, 12, 13, 14, 15]) (by kernel_rfl) ?_ ?_
   ·refine EachOf.cons [] rfl (by kernel_rfl) ?_ ?_
    ·rintro L A W ⟨v, rfl, hR⟩ hi hw K hK
     go_simp
     refine hK.out _ _ ?_
     exact ⟨(fun jz => if jz = 18 then .slice (some ⟨lg, lo, none⟩) (n) (lc) else v jz), rfl, ⟨hR.st, (fun _ => rfl), hR.f1.k, hR.f2.k, hR.f3.k, hR.f4.k, hR.f5.k, hR.f6.k, hR.f7.k, hR.f8.k, hR.f9.k, hR.f10.k, hR.f11.k, hR.f12.k, hR.x13.k, hR.x14.k, hR.f15.k, hR.w2.o, hR.w3.o, hR.w4.o, hR.w7.o, hR.w8.o, hR.w9.o, hR.w10.o, hR.w11.o, hR.w12.o, hR.w14.o, hR.w15.o⟩⟩
    refine EachOf.cons [] rfl (by kernel_rfl) ?_ ?_
    ·rintro L A W ⟨v, rfl, hR⟩ hi hw K hK
     go_simp
     refine hK.out _ _ ?_
     exact ⟨(fun jz => if jz = 19 then .int .i64 (j : Int) else v jz), rfl, ⟨hR.st, hR.f0.k, (fun _ => rfl), hR.f2.k, hR.f3.k, hR.f4.k, hR.f5.k, hR.f6.k, hR.f7.k, hR.f8.k, hR.f9.k, hR.f10.k, hR.f11.k, hR.f12.k, hR.x13.k, hR.x14.k, hR.f15.k, hR.w2.o, hR.w3.o, hR.w4.o, hR.w7.o, hR.w8.o, hR.w9.o, hR.w10.o, hR.w11.o, hR.w12.o, hR.w14.o, hR.w15.o⟩⟩
    refine EachOf.cons [0, 1] rfl (by kernel_rfl) ?_ ?_
    ·rintro L A W ⟨v, rfl, hR⟩ hi hw K hK
     have e0 := hR.f0 (hw 0 (by simp))
     have e1 := hR.f1 (hw 1 (by simp))
     simp only [e0, e1]
     clear e0 e1
     go_simp
     refine hK.out _ _ ?_
     exact ⟨(fun jz => if jz = 18 then .slice (some ⟨lg, lo, none⟩) (n) (lc) else if jz = 19 then .int .i64 (j : Int) else if jz = 20 then .pointer (some ⟨lg, lo + j, none⟩) else v jz), rfl, ⟨hR.st, (fun _ => rfl), (fun _ => rfl), (fun _ => rfl), hR.f3.k, hR.f4.k, hR.f5.k, hR.f6.k, hR.f7.k, hR.f8.k, hR.f9.k, hR.f10.k, hR.f11.k, hR.f12.k, hR.x13.k, hR.x14.k, hR.f15.k, (fun _ j hj => upd_on (hw j hj)), hR.w3.o, hR.w4.o, hR.w7.o, hR.w8.o, hR.w9.o, hR.w10.o, hR.w11.o, hR.w12.o, hR.w14.o, hR.w15.o⟩⟩
    refine EachOf.cons [2] rfl (by kernel_rfl) ?_ ?_
    ·rintro L A W ⟨v, rfl, hR⟩ hi hw K hK
     have e2 := hR.f2 (hw 2 (by simp))
     simp only [e2]
     clear e2
     have q0 := (hR.st.cell (p := ⟨lg, lo + j, none⟩) LF0.out.2).trans LF0.out.1
     go_simp
     refine hK.out _ _ ?_
     exact ⟨(fun jz => if jz = 20 then .pointer (some ⟨lg, lo + j, none⟩) else if jz = 21 then .int .i64 fj else v jz), rfl, ⟨hR.st, hR.f0.k, hR.f1.k, (fun _ => rfl), (fun _ => rfl), hR.f4.k, hR.f5.k, hR.f6.k, hR.f7.k, hR.f8.k, hR.f9.k, hR.f10.k, hR.f11.k, hR.f12.k, hR.x13.k, hR.x14.k, hR.f15.k, hR.w2.o, (fun _ j hj => upd_on (hw j hj)), hR.w4.o, hR.w7.o, hR.w8.o, hR.w9.o, hR.w10.o, hR.w11.o, hR.w12.o, hR.w14.o, hR.w15.o⟩⟩
    refine EachOf.cons [3] rfl (by kernel_rfl) ?_ ?_
    ·rintro L A W ⟨v, rfl, hR⟩ hi hw K hK
     have hk14 : L 14 = false := hR.w14.not (hR.w11.not (hR.w10.not (hR.w9.not hi rfl) rfl) rfl) rfl
     have e3 := hR.f3 (hw 3 (by simp))
     simp only [e3]
     clear e3
     go_simp
     go_at_call 77
     (with_reducible refine (((HO.out fj W)).out.mono ?_))
     rintro e w2 ⟨rfl, hb⟩
     go_simp
     refine hK.out _ _ ?_
     exact ⟨(fun jz => if jz = 21 then .int .i64 fj else if jz = 22 then .agg #[.int .i64 fj, .int .i64 1] else v jz), rfl, ⟨below_on hR.st hb, hR.f0.k, hR.f1.k, hR.f2.k, (fun _ => rfl), (fun _ => rfl), hR.f5.k, hR.f6.k, hR.f7.k, hR.f8.k, hR.f9.k, hR.f10.k, hR.f11.k, hR.f12.k, hR.x13.keepM rfl (fun h => by obtain ⟨g, e, r⟩ := h; exact ⟨g, e, r.on hb⟩), hR.x14.keepM rfl (fun h => by obtain ⟨g, e, r, u⟩ := h; exact ⟨g, e, r.on hb, u.on hb⟩), hR.f15.k, hR.w2.o, hR.w3.o, (fun _ j hj => upd_on (hw j hj)), hR.w7.o, hR.w8.o, hR.w9.o, hR.w10.o, hR.w11.o, hR.w12.o, hR.w14.o, hR.w15.o⟩⟩
    refine EachOf.cons [] rfl (by kernel_rfl) ?_ ?_
    ·rintro L A W ⟨v, rfl, hR⟩ hi hw K hK
     go_simp
     refine hK.out _ _ ?_
     exact ⟨(fun jz => if jz = 23 then .slice (some ⟨xg, xo, none⟩) (N) (xc) else v jz), rfl, ⟨hR.st, hR.f0.k, hR.f1.k, hR.f2.k, hR.f3.k, hR.f4.k, (fun _ => rfl), hR.f6.k, hR.f7.k, hR.f8.k, hR.f9.k, hR.f10.k, hR.f11.k, hR.f12.k, hR.x13.k, hR.x14.k, hR.f15.k, hR.w2.o, hR.w3.o, hR.w4.o, hR.w7.o, hR.w8.o, hR.w9.o, hR.w10.o, hR.w11.o, hR.w12.o, hR.w14.o, hR.w15.o⟩⟩
    refine EachOf.cons [] rfl (by kernel_rfl) ?_ ?_
    ·rintro L A W ⟨v, rfl, hR⟩ hi hw K hK
     go_simp
     refine hK.out _ _ ?_
     exact ⟨(fun jz => if jz = 24 then .int .i64 (j : Int) else v jz), rfl, ⟨hR.st, hR.f0.k, hR.f1.k, hR.f2.k, hR.f3.k, hR.f4.k, hR.f5.k, (fun _ => rfl), hR.f7.k, hR.f8.k, hR.f9.k, hR.f10.k, hR.f11.k, hR.f12.k, hR.x13.k, hR.x14.k, hR.f15.k, hR.w2.o, hR.w3.o, hR.w4.o, hR.w7.o, hR.w8.o, hR.w9.o, hR.w10.o, hR.w11.o, hR.w12.o, hR.w14.o, hR.w15.o⟩⟩
    refine EachOf.cons [5, 6] rfl (by kernel_rfl) ?_ ?_
    ·rintro L A W ⟨v, rfl, hR⟩ hi hw K hK
     have e5 := hR.f5 (hw 5 (by simp))
     have e6 := hR.f6 (hw 6 (by simp))
     simp only [e5, e6]
     clear e5 e6
     go_simp
     refine hK.out _ _ ?_
     exact ⟨(fun jz => if jz = 23 then .slice (some ⟨xg, xo, none⟩) (N) (xc) else if jz = 24 then .int .i64 (j : Int) else if jz = 25 then .pointer (some ⟨xg, xo + j * 2, none⟩) else v jz), rfl, ⟨hR.st, hR.f0.k, hR.f1.k, hR.f2.k, hR.f3.k, hR.f4.k, (fun _ => rfl), (fun _ => rfl), (fun _ => rfl), hR.f8.k, hR.f9.k, hR.f10.k, hR.f11.k, hR.f12.k, hR.x13.k, hR.x14.k, hR.f15.k, hR.w2.o, hR.w3.o, hR.w4.o, (fun _ j hj => upd_on (hw j hj)), hR.w8.o, hR.w9.o, hR.w10.o, hR.w11.o, hR.w12.o, hR.w14.o, hR.w15.o⟩⟩
    refine EachOf.cons [7] rfl (by kernel_rfl) ?_ ?_
    ·rintro L A W ⟨v, rfl, hR⟩ hi hw K hK
     have e7 := hR.f7 (hw 7 (by simp))
     simp only [e7]
     clear e7
     have q0 := (hR.st.cell (p := ⟨xg, xo + j * 2, none⟩) LX0.out.2).trans LX0.out.1
     have q1 := (hR.st.cell (p := ⟨xg, xo + j * 2 + 1, none⟩) LX1.out.2).trans LX1.out.1
     go_simp
     refine hK.out _ _ ?_
     exact ⟨(fun jz => if jz = 25 then .pointer (some ⟨xg, xo + j * 2, none⟩) else if jz = 26 then .agg #[.int .i64 xn, .int .i64 xd] else v jz), rfl, ⟨hR.st, hR.f0.k, hR.f1.k, hR.f2.k, hR.f3.k, hR.f4.k, hR.f5.k, hR.f6.k, (fun _ => rfl), (fun _ => rfl), hR.f9.k, hR.f10.k, hR.f11.k, hR.f12.k, hR.x13.k, hR.x14.k, hR.f15.k, hR.w2.o, hR.w3.o, hR.w4.o, hR.w7.o, (fun _ j hj => upd_on (hw j hj)), hR.w9.o, hR.w10.o, hR.w11.o, hR.w12.o, hR.w14.o, hR.w15.o⟩⟩
    refine EachOf.cons [4, 8] rfl (by kernel_rfl) ?_ ?_
    ·rintro L A W ⟨v, rfl, hR⟩ hi hw K hK
     have hk14 : L 14 = false := hR.w14.not (hR.w11.not (hR.w10.not hi rfl) rfl) rfl
     have e4 := hR.f4 (hw 4 (by simp))
     have e8 := hR.f8 (hw 8 (by simp))
     simp only [e4, e8]
     clear e4 e8
     go_simp
     go_at_call 78
     (with_reducible refine (((CM W)).out.mono ?_))
     rintro e w2 ⟨rfl, hb⟩
     go_simp
     refine hK.out _ _ ?_
     exact ⟨(fun jz => if jz = 22 then .agg #[.int .i64 fj, .int .i64 1] else if jz = 26 then .agg #[.int .i64 xn, .int .i64 xd] else if jz = 27 then .tuple #[.agg #[.int .i64 qn, .int .i64 qd], .int .i64 qe] else v jz), rfl, ⟨below_on hR.st hb, hR.f0.k, hR.f1.k, hR.f2.k, hR.f3.k, (fun _ => rfl), hR.f5.k, hR.f6.k, hR.f7.k, (fun _ => rfl), (fun _ => rfl), hR.f10.k, hR.f11.k, hR.f12.k, hR.x13.keepM rfl (fun h => by obtain ⟨g, e, r⟩ := h; exact ⟨g, e, r.on hb⟩), hR.x14.keepM rfl (fun h => by obtain ⟨g, e, r, u⟩ := h; exact ⟨g, e, r.on hb, u.on hb⟩), hR.f15.k, hR.w2.o, hR.w3.o, hR.w4.o, hR.w7.o, hR.w8.o, (fun _ j hj => upd_on (hw j hj)), hR.w10.o, hR.w11.o, hR.w12.o, hR.w14.o, hR.w15.o⟩⟩
    refine EachOf.cons [9] rfl (by kernel_rfl) ?_ ?_
    ·rintro L A W ⟨v, rfl, hR⟩ hi hw K hK
     have e9 := hR.f9 (hw 9 (by simp))
     simp only [e9]
     clear e9
     go_simp
     refine hK.out _ _ ?_
     exact ⟨(fun jz => if jz = 27 then .tuple #[.agg #[.int .i64 qn, .int .i64 qd], .int .i64 qe] else if jz = 17 then .tuple #[.agg #[.int .i64 qn, .int .i64 qd], .int .i64 qe] else v jz), rfl, ⟨hR.st, hR.f0.k, hR.f1.k, hR.f2.k, hR.f3.k, hR.f4.k, hR.f5.k, hR.f6.k, hR.f7.k, hR.f8.k, (fun _ => rfl), (fun _ => rfl), hR.f11.k, hR.f12.k, hR.x13.k, hR.x14.k, hR.f15.k, hR.w2.o, hR.w3.o, hR.w4.o, hR.w7.o, hR.w8.o, hR.w9.o, (fun _ j hj => upd_on (hw j hj)), hR.w11.o, hR.w12.o, hR.w14.o, hR.w15.o⟩⟩
    refine EachOf.cons [10] rfl (by kernel_rfl) ?_ ?_
    ·rintro L A W ⟨v, rfl, hR⟩ hi hw K hK
     have e10 := hR.f10 (hw 10 (by simp))
     simp only [e10]
     clear e10
     go_simp
     refine hK.out _ _ ?_
     exact ⟨(fun jz => if jz = 17 then .tuple #[.agg #[.int .i64 qn, .int .i64 qd], .int .i64 qe] else if jz = 28 then .agg #[.int .i64 qn, .int .i64 qd] else v jz), rfl, ⟨hR.st, hR.f0.k, hR.f1.k, hR.f2.k, hR.f3.k, hR.f4.k, hR.f5.k, hR.f6.k, hR.f7.k, hR.f8.k, hR.f9.k, (fun _ => rfl), (fun _ => rfl), hR.f12.k, hR.x13.k, hR.x14.k, hR.f15.k, hR.w2.o, hR.w3.o, hR.w4.o, hR.w7.o, hR.w8.o, hR.w9.o, hR.w10.o, (fun _ j hj => upd_on (hw j hj)), hR.w12.o, hR.w14.o, hR.w15.o⟩⟩
    refine EachOf.cons [10] rfl (by kernel_rfl) ?_ ?_
    ·rintro L A W ⟨v, rfl, hR⟩ hi hw K hK
     have e10 := hR.f10 (hw 10 (by simp))
     simp only [e10]
     clear e10
     go_simp
     refine hK.out _ _ ?_
     exact ⟨(fun jz => if jz = 17 then .tuple #[.agg #[.int .i64 qn, .int .i64 qd], .int .i64 qe] else if jz = 29 then .int .i64 qe else v jz), rfl, ⟨hR.st, hR.f0.k, hR.f1.k, hR.f2.k, hR.f3.k, hR.f4.k, hR.f5.k, hR.f6.k, hR.f7.k, hR.f8.k, hR.f9.k, (fun _ => rfl), hR.f11.k, (fun _ => rfl), hR.x13.k, hR.x14.k, hR.f15.k, hR.w2.o, hR.w3.o, hR.w4.o, hR.w7.o, hR.w8.o, hR.w9.o, hR.w10.o, hR.w11.o, (fun _ j hj => upd_on (hw j hj)), hR.w14.o, hR.w15.o⟩⟩
    refine EachOf.cons [] rfl (by kernel_rfl) ?_ ?_
    ·rintro L A W ⟨v, rfl, hR⟩ hi hw K hK
     have hk14 : L 14 = false := hR.w14.not hi rfl
     have hb : Below W.heap.size W (W.alloc _) := (Below.refl _ _).alloc (Nat.le_refl _) (Obj.cells #[Value.int IntKind.i64 0, Value.int IntKind.i64 0] 27)
     go_simp
     refine hK.out _ _ ?_
     exact ⟨(fun jz => if jz = 8 then .pointer (some ⟨W.heap.size, 0, none⟩) else v jz), rfl, ⟨below_on hR.st hb, hR.f0.k, hR.f1.k, hR.f2.k, hR.f3.k, hR.f4.k, hR.f5.k, hR.f6.k, hR.f7.k, hR.f8.k, hR.f9.k, hR.f10.k, hR.f11.k, hR.f12.k, (fun _ => ⟨W.heap.size, rfl, Own.new _ _ _ _ hR.st.size⟩), (fun h => absurd (upd_back h rfl) (by simp [hk14])), hR.f15.k, hR.w2.o, hR.w3.o, hR.w4.o, hR.w7.o, hR.w8.o, hR.w9.o, hR.w10.o, hR.w11.o, hR.w12.o, hR.w14.o, hR.w15.o⟩⟩
    refine EachOf.cons [11, 13] rfl (by kernel_rfl) ?_ ?_
    ·rintro L A W ⟨v, rfl, hR⟩ hi hw K hK
     have e11 := hR.f11 (hw 11 (by simp))
     simp only [e11]
     clear e11
     obtain ⟨B13, e13, hB13⟩ := hR.x13 (hw 13 (by simp))
     simp only [e13]
     have o1 := hB13.1
     obtain ⟨y0, y1, q1, q2, q3, q4⟩ := hB13.facts
     go_simp
     refine hK.out _ _ ?_
     exact ⟨(fun jz => if jz = 28 then .agg #[.int .i64 qn, .int .i64 qd] else if jz = 8 then .pointer (some ⟨B13, 0, none⟩) else v jz), rfl, ⟨(hR.st.setCell (by simpa using o1) _).setCell (by simpa using o1) _, hR.f0.k, hR.f1.k, hR.f2.k, hR.f3.k, hR.f4.k, hR.f5.k, hR.f6.k, hR.f7.k, hR.f8.k, hR.f9.k, hR.f10.k, (fun _ => rfl), hR.f12.k, (fun _ => ⟨B13, rfl, hB13.set⟩), (fun _ => ⟨B13, rfl, hB13.set, hB13.setw⟩), hR.f15.k, hR.w2.o, hR.w3.o, hR.w4.o, hR.w7.o, hR.w8.o, hR.w9.o, hR.w10.o, hR.w11.o, hR.w12.o, (fun _ j hj => upd_on (hw j hj)), hR.w15.o⟩⟩
    refine EachOf.cons [12] rfl (by kernel_rfl) ?_ ?_
    ·rintro L A W ⟨v, rfl, hR⟩ hi hw K hK
     have e12 := hR.f12 (hw 12 (by simp))
     simp only [e12]
     clear e12
     go_simp
     refine hK.out _ _ ?_
     exact ⟨(fun jz => if jz = 29 then .int .i64 qe else if jz = 9 then .int .i64 qe else v jz), rfl, ⟨hR.st, hR.f0.k, hR.f1.k, hR.f2.k, hR.f3.k, hR.f4.k, hR.f5.k, hR.f6.k, hR.f7.k, hR.f8.k, hR.f9.k, hR.f10.k, hR.f11.k, (fun _ => rfl), hR.x13.k, hR.x14.k, (fun _ => rfl), hR.w2.o, hR.w3.o, hR.w4.o, hR.w7.o, hR.w8.o, hR.w9.o, hR.w10.o, hR.w11.o, hR.w12.o, hR.w14.o, (fun _ j hj => upd_on (hw j hj))⟩⟩
    exact EachOf.nil
   rintro L A W ⟨v, rfl, hR⟩ hL
   have e15 := hR.f15 (hL 15 (by simp))
   obtain ⟨tb, e14, hto, htb⟩ := hR.x14 (hL 14 (by simp))
   have hb5 := hR.st
   simp only [e15, e14]
   have HC5 := Lib.hid (And.intro (And.intro (HC.out.1.1.on hb5) (HC.out.1.2.on HC.out.1.1.1 hb5)) (And.intro (below_on HC.out.2.1 hb5) (And.intro (HC.out.2.2.1.on hb5) (HC.out.2.2.2.on HC.out.2.2.1.1 hb5))))
   have HTB := Lib.hid htb
   clear e15 e14 hto htb hb5 hR hL HC CM LX0 LX1 LF0 l1 l2
   rename World => W5
   rcases HMC.out.1 with ⟨n', d', e1, _, _, vq, _⟩ | ⟨e', e1, hne, _⟩
   ·obtain ⟨rfl, rfl, rfl⟩ := three e1
    have hst := HST.out
    rw [if_pos rfl] at hst
    have hao := addT_ok HVS.out vq
    obtain ⟨tn, td, te, ht⟩ : ∃ a b c, addT sn sd qn qd = (a, b, c) := ⟨_, _, _, rfl⟩
    rw [ht] at hst hao
    have CA := fun W => Lib.hid (refAdd_any sn sd qn qd W HVS.out vq tn td te ht)
    have hac := addT_cases sn sd qn qd
    rw [ht] at hac
    have HST2 := Lib.hid hst
    have HAC := Lib.hid (And.intro hac hao)
    have k0 := HC5.out.1.1.2.1
    have k1 := HC5.out.1.1.2.2
    have k2 := HTB.out.2.1
    have k3 := HTB.out.2.2
    clear hst hac ht vq HST HMC e1 hao
    go_upto_region 8 with fail
    go_wp2_with fail
    (with_reducible refine (((CA _).out).mono ?_))
    rintro e w6 ⟨rfl, hb6⟩
    have HC6 := Lib.hid (And.intro (And.intro (HC5.out.1.1.on hb6) (HC5.out.1.2.on HC5.out.1.1.1 hb6)) (And.intro (below_on HC5.out.2.1 hb6) (And.intro (HC5.out.2.2.1.on hb6) (HC5.out.2.2.2.on HC5.out.2.2.1.1 hb6))))
    clear hb6 CA k0 k1 k2 k3 HC5 HTB
    have k0 := HC6.out.1.1.2.1
    have k1 := HC6.out.1.1.2.2
    have k2 := HC6.out.1.2.1
    have k3 := HC6.out.1.2.2
    go_upto_region 9 with fail
    have T0 : Hid ((Blk ((w6.setCell ⟨sb, 0, none⟩ (.int .i64 tn)).setCell ⟨sb, 1, none⟩ (.int .i64 td)) sb (.int .i64 tn) (.int .i64 td) ∧ Frz ((w6.setCell ⟨sb, 0, none⟩ (.int .i64 tn)).setCell ⟨sb, 1, none⟩ (.int .i64 td)) sb) ∧ Below w.heap.size w ((w6.setCell ⟨sb, 0, none⟩ (.int .i64 tn)).setCell ⟨sb, 1, none⟩ (.int .i64 td)) ∧ (Blk ((w6.setCell ⟨sb, 0, none⟩ (.int .i64 tn)).setCell ⟨sb, 1, none⟩ (.int .i64 td)) gb (.int .i64 0) (.int .i64 0) ∧ Frz ((w6.setCell ⟨sb, 0, none⟩ (.int .i64 tn)).setCell ⟨sb, 1, none⟩ (.int .i64 td)) gb)) :=
     ⟨⟨HC6.out.1.1.set, HC6.out.1.2.set⟩, (HC6.out.2.1.setCell (p := ⟨sb, 0, none⟩) HSL.out.2 _).setCell (p := ⟨sb, 1, none⟩) HSL.out.2 _, ⟨HC6.out.2.2.1.far (by have := HSL.out.1; omega), HC6.out.2.2.2.set⟩⟩
    clear k0 k1 k2 k3 HC6
    generalize (w6.setCell ⟨sb, 0, none⟩ (.int .i64 tn)).setCell ⟨sb, 1, none⟩ (.int .i64 td) = W6 at *
    rcases HAC.out.1 with ⟨n', d', e1, _, _, vt, _⟩ | ⟨e', e1, hne, _⟩
    ·obtain ⟨rfl, rfl, rfl⟩ := three e1
     have T : Hid ((Blk W6 sb (.int .i64 (comS f X (j + 1)).1) (.int .i64 (comS f X (j + 1)).2.1) ∧ Frz W6 sb) ∧ Below w.heap.size w W6 ∧ (Blk W6 gb (.int .i64 0) (.int .i64 0) ∧ Frz W6 gb) ∧ (comS f X (j + 1)).2.2 = 0 ∧ Vld (comS f X (j + 1)).1 (comS f X (j + 1)).2.1) := by
      rw [HST2.out]
      exact ⟨T0.out.1, T0.out.2.1, T0.out.2.2, rfl, vt⟩
     clear vt e1 T0 HST2 HAC HEND HVS
     go_wp2_with fail
     rw [← HEL.out.1, ← HEL.out.2]
     go_roundg (n - (j + 1))
     case measure => omega
     case rel => exact ⟨j + 1, rfl, rfl, by omega, T⟩
    ·obtain ⟨rfl, rfl, rfl⟩ := three e1
     have he5 : te = 5 := by
      rcases HAC.out.2 with h | h
      ·exact absurd h hne
      ·exact (three h).2.2
     subst he5
     have HZ5 : Hid (comS f X n = (0, 0, 5)) := by
      have h := HEND.out (by rw [HST2.out]; decide)
      rw [HST2.out] at h
      exact h
     clear e1
     have H5 := Lib.hid (Blk.set (x := .int .i64 0) (y := .int .i64 0) T0.out.2.2.1)
     have O5 := Lib.hid ((T0.out.2.1.setCell (p := ⟨gb, 0, none⟩) HGL.out (.int .i64 0)).setCell (p := ⟨gb, 1, none⟩) HGL.out (.int .i64 0))
     obtain ⟨_, c0, c1⟩ := T0.out.2.2.1
     obtain ⟨f0, f1⟩ := T0.out.2.2.2
     go_wp2_with fail
     clear c0 c1 f0 f1
     generalize (W6.setCell ⟨gb, 0, none⟩ (.int .i64 0)).setCell ⟨gb, 1, none⟩ (.int .i64 0) = W9 at *
     have x0 := H5.out.2.1
     have x1 := H5.out.2.2
     (try simp only [Exit.inBlock, Exit.then])
     refine bodyPost_ret (by simp [results, Tryz.results38, x0, x1, go_sem]; rfl) rfl ?_
     exact ⟨O5.out, 0, 0, 5, rfl, HZ5.out⟩
   ·obtain ⟨rfl, rfl, rfl⟩ := three e1
    have he5 : qe = 5 := by
     rcases HMC.out.2 with h | h
     ·exact absurd h hne
     ·exact (three h).2.2
    subst he5
    have HZ5 : Hid (comS f X n = (0, 0, 5)) := by
     have hst := HST.out
     rw [if_neg hne] at hst
     have h := HEND.out (by rw [hst]; decide)
     rw [hst] at h
     exact h
    clear e1
    have H5 := Lib.hid (Blk.set (x := .int .i64 0) (y := .int .i64 0) HC5.out.2.2.1)
    have O5 := Lib.hid ((HC5.out.2.1.setCell (p := ⟨gb, 0, none⟩) HGL.out (.int .i64 0)).setCell (p := ⟨gb, 1, none⟩) HGL.out (.int .i64 0))
    obtain ⟨_, c0, c1⟩ := HC5.out.2.2.1
    obtain ⟨f0, f1⟩ := HC5.out.2.2.2
    go_wp2_with fail
    clear c0 c1 f0 f1
    generalize (W5.setCell ⟨gb, 0, none⟩ (.int .i64 0)).setCell ⟨gb, 1, none⟩ (.int .i64 0) = W9 at *
    have x0 := H5.out.2.1
    have x1 := H5.out.2.2
    (try simp only [Exit.inBlock, Exit.then])
    refine bodyPost_ret (by simp [results, Tryz.results38, x0, x1, go_sem]; rfl) rfl ?_
    exact ⟨O5.out, 0, 0, 5, rfl, HZ5.out⟩
  ·have e : j = n := by omega
   subst e
   obtain ⟨sn, sd, se, hs⟩ : ∃ a b c, comS f X j = (a, b, c) := ⟨_, _, _, rfl⟩
   have S2 := S.out
   rw [hs] at S2
   obtain ⟨sC, sB, sG, rfl, vs⟩ := S2
   simp only at sC
   have HS0 := Lib.hid hs
   have H5 := Lib.hid (Blk.set (x := .int .i64 sn) (y := .int .i64 sd) sG.1)
   have O5 := Lib.hid ((sB.setCell (p := ⟨gb, 0, none⟩) HGL.out (.int .i64 sn)).setCell (p := ⟨gb, 1, none⟩) HGL.out (.int .i64 sd))
   obtain ⟨_, c0, c1⟩ := sG.1
   obtain ⟨f0, f1⟩ := sG.2
   have k0 := sC.1.2.1
   have k1 := sC.1.2.2
   clear S hs sC sB sG vs hj hjl
   go_wp2_with fail
   clear c0 c1 f0 f1
   generalize (W4.setCell ⟨gb, 0, none⟩ (.int .i64 sn)).setCell ⟨gb, 1, none⟩ (.int .i64 sd) = W9 at *
   have x0 := H5.out.2.1
   have x1 := H5.out.2.2
   (try simp only [Exit.inBlock, Exit.then])
   refine bodyPost_ret (by simp [results, Tryz.results38, x0, x1, go_sem]; rfl) rfl ?_
   exact ⟨O5.out, sn, sd, 0, rfl, HS0.out⟩
structure RSgR (xb : Nat) (a d k : Int) (Wc : World) (L : Nat → Bool) (v : Nat → Value) (W : World) : Prop where
 st : Below Wc.heap.size Wc W
 f0 : Had L 0 (v 3 = .agg #[.int .i64 a, .int .i64 d])
 f1 : Had L 1 (v 4 = .agg #[.int .i64 0, .int .i64 1])
 f2 : Had L 2 (v 5 = .int .i64 k)
 f3 : Had L 3 (v 2 = .int .i64 k)
 w2 : Had L 2 (∀ j ∈ [0, 1], L j = true)
 w3 : Had L 3 (∀ j ∈ [2], L j = true)

set_option maxRecDepth 100000 in
set_option maxHeartbeats 4000000 in
theorem rpSign_any (a d : Int) (w : World) (hv : Vld a d) : Calls Tryz.prog 42 #[.agg #[.int .i64 a, .int .i64 d]] w fun e w' => e = .returned (.int .i64 (cmpI a d 0)) ∧ Below w.heap.size w w' := by
 obtain ⟨k, hk⟩ : ∃ k, cmpI a d 0 = k := ⟨_, rfl⟩
 rw [hk]
 unfold cmpI at hk
 have CC := fun W => Lib.hid (refCmp_any a d 0 1 W hv ⟨by decide, by decide, by decide, by decide, by decide⟩ k hk)
 have HO := Lib.hid (fun z (W : World) => Lib.hid (refOf_any z W))
 have hb1 : Below w.heap.size w (w.alloc (Obj.cells #[Value.int .i64 a, .int .i64 d] 27)) := (Below.refl _ _).alloc (Nat.le_refl _) _
 obtain ⟨w1, hw1⟩ : ∃ W, W = w.alloc (Obj.cells #[Value.int .i64 a, .int .i64 d] 27) := ⟨_, rfl⟩
 obtain ⟨xb, hxb⟩ : ∃ x, x = w.heap.size := ⟨_, rfl⟩
 have hB : Blk w1 xb (.int .i64 a) (.int .i64 d) := by rw [hw1, hxb]; exact Blk.new _ _ _ _
 rw [← hw1] at hb1
 have LX0 : Hid (w1.cell? ⟨xb, 0, none⟩ = some (.int .i64 a) ∧ xb < w1.heap.size) := ⟨hB.2.1, hB.1⟩
 have LX1 : Hid (w1.cell? ⟨xb, 1, none⟩ = some (.int .i64 d) ∧ xb < w1.heap.size) := ⟨hB.2.2, hB.1⟩
 have HB := Lib.hid hb1
 clear hB hb1 hk hv
 go_enter Tryz.func42, Tryz.ntmps42
 go_upto_region 1 with fail
 rw [← hxb, ← hw1]
 clear hxb hw1
 refine wp_region_each (fun L A W => ∃ (v : Nat → Value), A = ⟨#[_, _, v 2, v 3, v 4, v 5], []⟩ ∧ RSgR xb a d k w1 L v W) (by kernel_rfl) (by kernel_rfl) ⟨fun jz => if jz = 3 then undef else if jz = 4 then undef else if jz = 5 then undef else if jz = 2 then .int .i64 0 else undef, rfl, ⟨Below.drew (Below.refl _ _), Had.none, Had.none, Had.none, Had.none, Had.none, Had.none⟩⟩ (rs := [0, 1, 2, 3]) (by kernel_rfl) ?_ ?_
 ·refine EachOf.cons [] rfl (by kernel_rfl) ?_ ?_
  ·rintro L A W ⟨v, rfl, hR⟩ hi hw K hK
   have q0 := (hR.st.cell (p := ⟨xb, 0, none⟩) LX0.out.2).trans LX0.out.1
   have q1 := (hR.st.cell (p := ⟨xb, 1, none⟩) LX1.out.2).trans LX1.out.1
   go_simp
   refine hK.out _ _ ?_
   exact ⟨(fun jz => if jz = 3 then .agg #[.int .i64 a, .int .i64 d] else v jz), rfl, ⟨hR.st, (fun _ => rfl), hR.f1.k, hR.f2.k, hR.f3.k, hR.w2.o, hR.w3.o⟩⟩
  refine EachOf.cons [] rfl (by kernel_rfl) ?_ ?_
  ·rintro L A W ⟨v, rfl, hR⟩ hi hw K hK
   go_simp
   go_at_call 77
   (with_reducible refine (((HO.out 0 W)).out.mono ?_))
   rintro e w2 ⟨rfl, hb⟩
   go_simp
   refine hK.out _ _ ?_
   exact ⟨(fun jz => if jz = 4 then .agg #[.int .i64 0, .int .i64 1] else v jz), rfl, ⟨below_on hR.st hb, hR.f0.k, (fun _ => rfl), hR.f2.k, hR.f3.k, hR.w2.o, hR.w3.o⟩⟩
  refine EachOf.cons [0, 1] rfl (by kernel_rfl) ?_ ?_
  ·rintro L A W ⟨v, rfl, hR⟩ hi hw K hK
   have e0 := hR.f0 (hw 0 (by simp))
   have e1 := hR.f1 (hw 1 (by simp))
   simp only [e0, e1]
   clear e0 e1
   go_simp
   go_at_call 76
   (with_reducible refine (((CC W)).out.mono ?_))
   rintro e w2 ⟨rfl, hb⟩
   go_simp
   refine hK.out _ _ ?_
   exact ⟨(fun jz => if jz = 3 then .agg #[.int .i64 a, .int .i64 d] else if jz = 4 then .agg #[.int .i64 0, .int .i64 1] else if jz = 5 then .int .i64 k else v jz), rfl, ⟨below_on hR.st hb, (fun _ => rfl), (fun _ => rfl), (fun _ => rfl), hR.f3.k, (fun _ j hj => upd_on (hw j hj)), hR.w3.o⟩⟩
  refine EachOf.cons [2] rfl (by kernel_rfl) ?_ ?_
  ·rintro L A W ⟨v, rfl, hR⟩ hi hw K hK
   have e2 := hR.f2 (hw 2 (by simp))
   simp only [e2]
   clear e2
   go_simp
   refine hK.out _ _ ?_
   exact ⟨(fun jz => if jz = 5 then .int .i64 k else if jz = 2 then .int .i64 k else v jz), rfl, ⟨hR.st, hR.f0.k, hR.f1.k, (fun _ => rfl), (fun _ => rfl), hR.w2.o, (fun _ j hj => upd_on (hw j hj))⟩⟩
  exact EachOf.nil
 rintro L A W ⟨v, rfl, hR⟩ hL
 have e3 := hR.f3 (hL 3 (by simp))
 simp only [e3]
 have HB2 := Lib.hid (below_on HB.out hR.st)
 clear e3 hR hL CC LX0 LX1 HB HO
 go_wp2_with fail
 go_ret
 exact ⟨rfl, HB2.out⟩
end Go.Proofs.YtggpdhdbeokkcaaGreat

namespace Go.Proofs.YtggpdhdbeokkcaaGreat
set_option linter.unusedVariables false
open Go.RowKit Go.Shelf

theorem rpWithin_v (n most : Int) (v : Bool) (hv : decide (-most ≤ n ∧ n ≤ most) = v) (w : World) (m0 : 0 ≤ most) (m1 : most ≤ 1073741824) :
  Calls Tryz.prog 34 #[.int .i64 n, .int .i64 most] w fun e w' => e = .returned (.bool v) ∧ Below w.heap.size w w' := by
 have wn : IntKind.i64.wrap (0 - most) = -most := by rw [IntWalk.i64_in _ (by omega)]; omega
 have wn2 : IntKind.i64.wrap (-most) = -most := IntWalk.i64_in _ (by omega)
 by_cases h1 : -most ≤ n
 ·by_cases h2 : n ≤ most
  ·have HD : Hid (v = true) := hv.symm.trans (decide_eq_true ⟨h1, h2⟩)
   clear hv
   go_enter Tryz.func34, Tryz.ntmps34
   go_wp2_with fail
   go_ret
   exact ⟨by rw [HD.out]; rfl, Below.refl _ _⟩
  ·have HD : Hid (v = false) := hv.symm.trans (decide_eq_false fun h => h2 h.2)
   clear hv
   go_enter Tryz.func34, Tryz.ntmps34
   go_wp2_with fail
   go_ret
   exact ⟨by rw [HD.out]; rfl, Below.refl _ _⟩
 ·have HD : Hid (v = false) := hv.symm.trans (decide_eq_false fun h => h1 h.1)
  clear hv
  go_enter Tryz.func34, Tryz.ntmps34
  go_wp2_with fail
  go_ret
  exact ⟨by rw [HD.out]; rfl, Below.refl _ _⟩
theorem not_ok_false {p : PgD} {v : Bool} (hv : v = true ↔ p.Ok) (h : ¬ p.Ok) : v = false := by
 cases v
 ·rfl
 ·exact absurd (hv.1 rfl) h

set_option maxRecDepth 100000 in
set_option maxHeartbeats 16000000 in
theorem rpValid_any (p : PgD) (hs : p.Sm) (v : Bool) (hv : v = true ↔ p.Ok) (w : World) (hp : p.At w) :
  Calls Tryz.prog 10 #[p.val] w fun e w' => e = .returned (.bool v) ∧ Below w.heap.size w w' := by
 unfold PgD.val
 have HP := Lib.hid hp
 have HV := Lib.hid hv
 have HS := Lib.hid hs
 have hn9 := hs.n
 have hm9 := hs.m
 have hb1 : Below w.heap.size w (w.alloc (Obj.cells #[Value.slice p.ca p.n p.cc, .slice p.ra p.m p.rc] 25)) := (Below.refl _ _).alloc (Nat.le_refl _) _
 obtain ⟨w1, hw1⟩ : ∃ W, W = w.alloc (Obj.cells #[Value.slice p.ca p.n p.cc, .slice p.ra p.m p.rc] 25) := ⟨_, rfl⟩
 obtain ⟨xb, hxb⟩ : ∃ x, x = w.heap.size := ⟨_, rfl⟩
 have hB : Blk w1 xb (.slice p.ca p.n p.cc) (.slice p.ra p.m p.rc) := by rw [hw1, hxb]; exact Blk.new _ _ _ _
 rw [← hw1] at hb1
 have HB := Lib.hid hb1
 have HXB := Lib.hid hB
 clear hb1 hB hp hv hs
 go_enter Tryz.func10, Tryz.ntmps10
 go_upto_region 1 with fail
 rw [← hxb, ← hw1]
 clear hxb hw1
 have q0 := HXB.out.2.1
 have q1 := HXB.out.2.2
 by_cases h1 : 1 ≤ p.n
 case neg =>
  have t1 : (p.n : Int) < 1 := by omega
  have d1 : decide ((p.n : Int) < 1) = true := decide_eq_true t1
  have HN := Lib.hid (not_ok_false HV.out fun h => h1 h.n1)
  clear h1
  go_wp2_with fail
  go_ret
  exact ⟨by rw [HN.out]; rfl, HB.out⟩
 have t1 : ¬ (p.n : Int) < 1 := by omega
 have d1 : decide ((p.n : Int) < 1) = false := decide_eq_false t1
 by_cases h2 : p.n ≤ 12
 case neg =>
  have t2 : (12 : Int) < (p.n : Int) := by omega
  have d2 : decide ((12 : Int) < (p.n : Int)) = true := decide_eq_true t2
  have HN := Lib.hid (not_ok_false HV.out fun h => h2 h.n2)
  clear h1 h2
  go_wp2_with fail
  go_ret
  exact ⟨by rw [HN.out]; rfl, HB.out⟩
 have t2 : ¬ (12 : Int) < (p.n : Int) := by omega
 have d2 : decide ((12 : Int) < (p.n : Int)) = false := decide_eq_false t2
 by_cases h3 : p.m ≤ 6
 case neg =>
  have t3 : (6 : Int) < (p.m : Int) := by omega
  have d3 : decide ((6 : Int) < (p.m : Int)) = true := decide_eq_true t3
  have HN := Lib.hid (not_ok_false HV.out fun h => h3 h.m2)
  clear h1 h2 h3
  go_wp2_with fail
  go_ret
  exact ⟨by rw [HN.out]; rfl, HB.out⟩
 have t3 : ¬ (6 : Int) < (p.m : Int) := by omega
 have d3 : decide ((6 : Int) < (p.m : Int)) = false := decide_eq_false t3
 go_wp2_with fail
 clear q0 q1 t1 t2 t3 d1 d2 d3
 have S0 : Hid (Below w.heap.size w w1 ∧ Blk w1 xb (.slice p.ca p.n p.cc) (.slice p.ra p.m p.rc) ∧ ∀ l, l < 0 → -1048576 ≤ p.C l ∧ p.C l ≤ 1048576) := ⟨HB.out, HXB.out, fun l h => by omega⟩
 clear HB HXB
 go_loopg [3] p.n (fun g s3 wx => ∃ j : Nat, s3 = .int .i64 j ∧ g = p.n - j ∧ j ≤ p.n ∧ Hid (Below w.heap.size w wx ∧ Blk wx xb (.slice p.ca p.n p.cc) (.slice p.ra p.m p.rc) ∧ ∀ l, l < j → -1048576 ≤ p.C l ∧ p.C l ≤ 1048576))
 case atStart => exact ⟨0, rfl, rfl, Nat.zero_le _, S0⟩
 case round =>
  clear S0
  obtain ⟨j, rfl, rfl, hj, S⟩ := hrel
  rename World => W1
  have q0 := S.out.2.1.2.1
  by_cases hlt : j < p.n
  ·have wk : IntKind.i64.wrap ((j : Int) + 1) = ((j + 1 : Nat) : Int) := by rw [IntWalk.i64_in _ (by omega)]; omega
   obtain ⟨cg, co, ec, hcg, hcr⟩ := (HP.out.on S.out.1).cost (by omega)
   have p1 := hcr j hlt
   obtain ⟨z, hz⟩ : ∃ x, p.C j = x := ⟨_, rfl⟩
   rw [hz] at p1
   obtain ⟨tb, htb⟩ : ∃ x, decide (-1048576 ≤ z ∧ z ≤ 1048576) = x := ⟨_, rfl⟩
   have CI0 := fun W => rpWithin_v z 1048576 _ htb W (by omega) (by omega)
   have CI := fun W => Lib.hid (CI0 W)
   have HZ := Lib.hid hz
   have HTB := Lib.hid htb
   clear hcr hcg hz htb CI0
   rw [ec]
   rw [ec] at q0
   go_wp2_with fail
   (with_reducible refine (((CI _).out).mono ?_))
   rintro e w2 ⟨rfl, hb⟩
   have HB2 := Lib.hid hb
   clear CI p1 q0 hb
   cases tb
   ·have HN := Lib.hid (not_ok_false HV.out fun h => of_decide_eq_false HTB.out (by rw [← HZ.out]; exact h.c j hlt))
    go_wp2_with fail
    go_ret
    exact ⟨by rw [HN.out]; rfl, below_on S.out.1 HB2.out⟩
   ·have T : Hid (Below w.heap.size w w2 ∧ Blk w2 xb (.slice p.ca p.n p.cc) (.slice p.ra p.m p.rc) ∧ ∀ l, l < j + 1 → -1048576 ≤ p.C l ∧ p.C l ≤ 1048576) := ⟨below_on S.out.1 HB2.out, S.out.2.1.on HB2.out, fun l hl => by
     by_cases e : l = j
     ·rw [e, HZ.out]; exact of_decide_eq_true HTB.out
     ·exact S.out.2.2 l (by omega)⟩
    clear S HB2 HTB HZ
    go_wp2_with fail
    rw [← ec]
    go_roundg (p.n - (j + 1))
    case measure => omega
    case rel => exact ⟨j + 1, rfl, rfl, by omega, T⟩
  ·have e : j = p.n := by omega
   subst e
   have HC := Lib.hid S.out.2.2
   have S0 : Hid (Below w.heap.size w W1 ∧ Blk W1 xb (.slice p.ca p.n p.cc) (.slice p.ra p.m p.rc) ∧ ∀ i, i < 0 → p.Ln i = p.n ∧ (1 ≤ p.Kd i ∧ p.Kd i ≤ 3) ∧ (-1073741824 ≤ p.Rt i ∧ p.Rt i ≤ 1073741824) ∧ ∀ l, l < p.n → -1048576 ≤ p.Z i l ∧ p.Z i l ≤ 1048576) := ⟨S.out.1, S.out.2.1, fun l h => by omega⟩
   clear S hlt hj
   go_wp2_with fail
   clear q0
   go_loopg [4] p.m (fun g s4 wx => ∃ i : Nat, s4 = .int .i64 i ∧ g = p.m - i ∧ i ≤ p.m ∧ Hid (Below w.heap.size w wx ∧ Blk wx xb (.slice p.ca p.n p.cc) (.slice p.ra p.m p.rc) ∧ ∀ l, l < i → p.Ln l = p.n ∧ (1 ≤ p.Kd l ∧ p.Kd l ≤ 3) ∧ (-1073741824 ≤ p.Rt l ∧ p.Rt l ≤ 1073741824) ∧ ∀ k, k < p.n → -1048576 ≤ p.Z l k ∧ p.Z l k ≤ 1048576))
   case atStart => exact ⟨0, rfl, rfl, Nat.zero_le _, S0⟩
   case round =>
    clear S0
    obtain ⟨i, rfl, rfl, hi, S⟩ := hrel
    rename World => W2
    have q1 := S.out.2.1.2.2
    by_cases hlt : i < p.m
    ·have wk : IntKind.i64.wrap ((i : Int) + 1) = ((i + 1 : Nat) : Int) := by rw [IntWalk.i64_in _ (by omega)]; omega
     obtain ⟨gr, gro, er, hgr, hrow⟩ := (HP.out.on S.out.1).rows (by omega)
     have hri := hrow i hlt
     have p1 := hri.1
     have p2 := hri.2.1
     have p3 := hri.2.2
     have HER := Lib.hid er
     have hln9 := HS.out.l i hlt
     obtain ⟨kd, hkd⟩ : ∃ x, p.Kd i = x := ⟨_, rfl⟩
     obtain ⟨rt, hrt⟩ : ∃ x, p.Rt i = x := ⟨_, rfl⟩
     obtain ⟨ln, hln⟩ : ∃ x, p.Ln i = x := ⟨_, rfl⟩
     rw [hkd] at p2
     rw [hrt] at p3
     rw [hln] at p1 hln9
     rw [er] at q1
     rw [er]
     have HI := Lib.hid (And.intro hkd (And.intro hrt hln))
     clear hrow hri hkd hrt hln er hgr
     go_upto_region 12 with fail
     obtain ⟨rb, hrb⟩ : ∃ x, x = W2.heap.size := ⟨_, rfl⟩
     obtain ⟨W3, hW3⟩ : ∃ V, V = W2.alloc (Obj.cells #[Value.slice (p.Ca i) ln (p.Kc i), Value.int IntKind.i64 kd, Value.int IntKind.i64 rt] 53) := ⟨_, rfl⟩
     rw [← hrb, ← hW3]
     have hb2 : Below W2.heap.size W2 W3 := by rw [hW3]; exact (Below.refl _ _).alloc (Nat.le_refl _) _
     have hr2 : EBlk W3 rb (.slice (p.Ca i) ln (p.Kc i)) (.int .i64 kd) (.int .i64 rt) := by
      rw [hW3, hrb]
      exact ⟨by simp, by simp [go_sem], by simp [go_sem], by simp [go_sem], by simp [go_sem], by simp [go_sem], by simp [go_sem]⟩
     have HE := Lib.hid hr2
     have HB3 := Lib.hid (below_on S.out.1 hb2)
     have HX3 := Lib.hid (S.out.2.1.on hb2)
     have HSL := Lib.hid S.out.2.2
     clear hb2 hW3 hrb p1 p2 p3 q1 S hr2
     have k0 := HE.out.c0
     have k1 := HE.out.c1
     have k2 := HE.out.c2
     have q0 := HX3.out.2.1
     by_cases hL : ln = p.n
     case neg =>
      have t1 : ((ln : Int) != (p.n : Int)) = true := by simp; omega
      have t2 : ¬ ((ln : Int) = (p.n : Int)) := by omega
      have HN := Lib.hid (not_ok_false HV.out fun h => hL (by rw [← HI.out.2.2]; exact h.l i hlt))
      clear hL
      go_wp2_with fail
      go_ret
      exact ⟨by rw [HN.out]; rfl, HB3.out⟩
     have HL := Lib.hid hL
     rw [hL] at k0
     clear hL
     by_cases hK1 : kd < 1
     case pos =>
      have t1 : decide (kd < 1) = true := decide_eq_true hK1
      have HN := Lib.hid (not_ok_false HV.out fun h => by have := h.k i hlt; have := HI.out.1; omega)
      go_wp2_with fail
      go_ret
      exact ⟨by rw [HN.out]; rfl, HB3.out⟩
     have t1 : decide (kd < 1) = false := decide_eq_false hK1
     by_cases hK3 : 3 < kd
     case pos =>
      have t3 : decide (3 < kd) = true := decide_eq_true hK3
      have HN := Lib.hid (not_ok_false HV.out fun h => by have := h.k i hlt; have := HI.out.1; omega)
      go_wp2_with fail
      go_ret
      exact ⟨by rw [HN.out]; rfl, HB3.out⟩
     have t3 : decide (3 < kd) = false := decide_eq_false hK3
     obtain ⟨tb, htb⟩ : ∃ x, decide (-1073741824 ≤ rt ∧ rt ≤ 1073741824) = x := ⟨_, rfl⟩
     have CI0 := fun W => rpWithin_v rt 1073741824 _ htb W (by omega) (by omega)
     have CI := fun W => Lib.hid (CI0 W)
     have HTB := Lib.hid htb
     clear htb CI0
     go_wp2_with fail
     (with_reducible refine (((CI _).out).mono ?_))
     rintro e w4 ⟨rfl, hb⟩
     have HE := Lib.hid (HE.out.on hb)
     have HB3 := Lib.hid (below_on HB3.out hb)
     have HX3 := Lib.hid (HX3.out.on hb)
     have HK := Lib.hid (And.intro hK1 hK3)
     clear CI hb k0 k1 k2 q0 t1 t3 hK1 hK3
     cases tb
     ·have HN := Lib.hid (not_ok_false HV.out fun h => of_decide_eq_false HTB.out (by rw [← HI.out.2.1]; exact h.r i hlt))
      go_wp2_with fail
      go_ret
      exact ⟨by rw [HN.out]; rfl, HB3.out⟩
     have S0 : Hid (Below w.heap.size w w4 ∧ Blk w4 xb (.slice p.ca p.n p.cc) (.slice p.ra p.m p.rc) ∧ EBlk w4 rb (.slice (p.Ca i) p.n (p.Kc i)) (.int .i64 kd) (.int .i64 rt) ∧ ∀ l, l < 0 → -1048576 ≤ p.Z i l ∧ p.Z i l ≤ 1048576) := ⟨HB3.out, HX3.out, by rw [← HL.out]; exact HE.out, fun l h => by omega⟩
     clear HB3 HX3 HE
     go_wp2_with fail
     go_loopg [6] p.n (fun g s6 wx => ∃ j : Nat, s6 = .int .i64 j ∧ g = p.n - j ∧ j ≤ p.n ∧ Hid (Below w.heap.size w wx ∧ Blk wx xb (.slice p.ca p.n p.cc) (.slice p.ra p.m p.rc) ∧ EBlk wx rb (.slice (p.Ca i) p.n (p.Kc i)) (.int .i64 kd) (.int .i64 rt) ∧ ∀ l, l < j → -1048576 ≤ p.Z i l ∧ p.Z i l ≤ 1048576))
     case atStart => exact ⟨0, rfl, rfl, Nat.zero_le _, S0⟩
     case round =>
      clear S0
      obtain ⟨j, rfl, rfl, hj, S⟩ := hrel
      rename World => W5
      have k0 := S.out.2.2.1.c0
      by_cases hjl : j < p.n
      ·have wkj : IntKind.i64.wrap ((j : Int) + 1) = ((j + 1 : Nat) : Int) := by rw [IntWalk.i64_in _ (by omega)]; omega
       have hir := (HP.out.on S.out.1).coef i hlt
       rw [HI.out.2.2, HL.out] at hir
       obtain ⟨cg, co, ec, hcg, hcr⟩ := hir (by omega)
       have p1 := hcr j hjl
       obtain ⟨z, hz⟩ : ∃ x, p.Z i j = x := ⟨_, rfl⟩
       rw [hz] at p1
       obtain ⟨tc, htc⟩ : ∃ x, decide (-1048576 ≤ z ∧ z ≤ 1048576) = x := ⟨_, rfl⟩
       have CI0 := fun W => rpWithin_v z 1048576 _ htc W (by omega) (by omega)
       have CI := fun W => Lib.hid (CI0 W)
       have HZ := Lib.hid hz
       have HTC := Lib.hid htc
       clear hcr hcg hz htc CI0 hir
       rw [ec] at k0
       clear ec
       go_wp2_with fail
       (with_reducible refine (((CI _).out).mono ?_))
       rintro e w6 ⟨rfl, hb⟩
       have HB2 := Lib.hid hb
       clear CI p1 k0 hb
       cases tc
       ·have HN := Lib.hid (not_ok_false HV.out fun h => of_decide_eq_false HTC.out (by rw [← HZ.out]; exact h.z i hlt j hjl))
        go_wp2_with fail
        go_ret
        exact ⟨by rw [HN.out]; rfl, below_on S.out.1 HB2.out⟩
       ·have T : Hid (Below w.heap.size w w6 ∧ Blk w6 xb (.slice p.ca p.n p.cc) (.slice p.ra p.m p.rc) ∧ EBlk w6 rb (.slice (p.Ca i) p.n (p.Kc i)) (.int .i64 kd) (.int .i64 rt) ∧ ∀ l, l < j + 1 → -1048576 ≤ p.Z i l ∧ p.Z i l ≤ 1048576) := ⟨below_on S.out.1 HB2.out, S.out.2.1.on HB2.out, S.out.2.2.1.on HB2.out, fun l hl => by
         by_cases e : l = j
         ·rw [e, HZ.out]; exact of_decide_eq_true HTC.out
         ·exact S.out.2.2.2 l (by omega)⟩
        clear S HB2 HTC HZ
        go_wp2_with fail
        go_roundg (p.n - (j + 1))
        case measure => omega
        case rel => exact ⟨j + 1, rfl, rfl, by omega, T⟩
      ·have e : j = p.n := by omega
       subst e
       have T : Hid (Below w.heap.size w W5 ∧ Blk W5 xb (.slice p.ca p.n p.cc) (.slice p.ra p.m p.rc) ∧ ∀ l, l < i + 1 → p.Ln l = p.n ∧ (1 ≤ p.Kd l ∧ p.Kd l ≤ 3) ∧ (-1073741824 ≤ p.Rt l ∧ p.Rt l ≤ 1073741824) ∧ ∀ k, k < p.n → -1048576 ≤ p.Z l k ∧ p.Z l k ≤ 1048576) := ⟨S.out.1, S.out.2.1, fun l hl => by
        by_cases e : l = i
        ·subst e
         refine ⟨HI.out.2.2.trans HL.out, ?_, ?_, S.out.2.2.2⟩
         ·rw [HI.out.1]; have := HK.out; omega
         ·rw [HI.out.2.1]; exact of_decide_eq_true HTB.out
        ·exact HSL.out l (by omega)⟩
       clear S HI HL HTB HSL HK
       go_wp2_with fail
       clear k0
       rw [← HER.out]
       go_roundg (p.m - (i + 1))
       case measure => omega
       case rel => exact ⟨i + 1, rfl, rfl, by omega, T⟩
    ·have e : i = p.m := by omega
     subst e
     have HN : Hid (v = true) := HV.out.2 ⟨h1, h2, h3, HC.out, fun i hi => (S.out.2.2 i hi).1, fun i hi j hj => (S.out.2.2 i hi).2.2.2 j hj, fun i hi => (S.out.2.2 i hi).2.1, fun i hi => (S.out.2.2 i hi).2.2.1⟩
     go_wp2_with fail
     go_ret
     exact ⟨by rw [HN.out]; rfl, S.out.1⟩
end Go.Proofs.YtggpdhdbeokkcaaGreat

namespace Go.Proofs.YtggpdhdbeokkcaaGreat
set_option linter.unusedVariables false
open Go.RowKit Go.Shelf

set_option maxRecDepth 100000 in
set_option maxHeartbeats 4000000 in
theorem rpAll_any (xa : Option Addr) (N xc : Nat) (X : Nat → Int × Int) (w : World) (hx : IFr w xa N X) (hb : FrB N X) (hN : N ≤ 1000) (v : Bool) (hv : v = true ↔ FrV N X) :
  Calls Tryz.prog 12 #[.slice xa N xc] w fun e w' => e = .returned (.bool v) ∧ Below w.heap.size w w' := by
 have HX := Lib.hid hx
 have HV := Lib.hid hv
 have HBD := Lib.hid hb
 have S0 : Hid (Below w.heap.size w w ∧ ∀ l, l < 0 → Vld (X l).1 (X l).2) := ⟨Below.refl _ _, fun l h => by omega⟩
 clear hx hv hb
 go_enter Tryz.func12, Tryz.ntmps12
 go_wp2_with fail
 go_loopg [3] N (fun g s3 wx => ∃ i : Nat, s3 = .int .i64 i ∧ g = N - i ∧ i ≤ N ∧ Hid (Below w.heap.size w wx ∧ ∀ l, l < i → Vld (X l).1 (X l).2))
 case atStart => exact ⟨0, rfl, rfl, Nat.zero_le _, S0⟩
 case round =>
  clear S0
  obtain ⟨i, rfl, rfl, hi, S⟩ := hrel
  rename World => W1
  by_cases hlt : i < N
  ·have wk : IntKind.i64.wrap ((i : Int) + 1) = ((i + 1 : Nat) : Int) := by rw [IntWalk.i64_in _ (by omega)]; omega
   obtain ⟨xg, xo, ex, hxg, hxc⟩ := (HX.out.on S.out.1) (by omega)
   have p1 := (hxc i hlt).1
   have p2 := (hxc i hlt).2
   have hbd := HBD.out i hlt
   obtain ⟨tb, htb⟩ : ∃ x, vB (X i).1 (X i).2 = x := ⟨_, rfl⟩
   have CV0 := fun W => refValid_any (X i).1 (X i).2 W hbd.1.1 hbd.1.2 hbd.2.1 hbd.2.2
   rw [htb] at CV0
   have CV := fun W => Lib.hid (CV0 W)
   have HTB : Hid (∀ l, l = i → vB (X l).1 (X l).2 = tb) := fun l e => by rw [e]; exact htb
   have HEX := Lib.hid ex
   generalize (X i).1 = xn at *
   generalize (X i).2 = xd at *
   rw [ex]
   clear hxc hxg ex CV0 htb hbd
   go_wp2_with fail
   (with_reducible refine (((CV _).out).mono ?_))
   rintro e w2 ⟨rfl, hb2⟩
   have HB2 := Lib.hid (below_on S.out.1 hb2)
   clear CV hb2 p1 p2
   cases tb
   ·have HN : Hid (v = false) := by
     show v = false
     cases v
     ·rfl
     ·have := vB_yes (HV.out.1 rfl i hlt)
      have h2 := HTB.out i rfl
      rw [this] at h2
      cases h2
    go_wp2_with fail
    go_ret
    exact ⟨by rw [HN.out]; rfl, HB2.out⟩
   ·have T : Hid (Below w.heap.size w w2 ∧ ∀ l, l < i + 1 → Vld (X l).1 (X l).2) := ⟨HB2.out, fun l hl => by
     by_cases e : l = i
     ·rw [e]; exact Classical.byContradiction fun hn => by have := vB_no hn; have h2 := HTB.out i rfl; rw [this] at h2; cases h2
     ·exact S.out.2 l (by omega)⟩
    clear S HB2 HTB
    go_wp2_with fail
    rw [← HEX.out]
    go_roundg (N - (i + 1))
    case measure => omega
    case rel => exact ⟨i + 1, rfl, rfl, by omega, T⟩
  ·have e : i = N := by omega
   subst e
   have HN : Hid (v = true) := HV.out.2 S.out.2
   go_wp2_with fail
   go_ret
   exact ⟨by rw [HN.out]; rfl, S.out.1⟩

structure RFeR (sb xb gr gro i pm prc : Nat) (sa sd rt o : Int) (Wc : World) (L : Nat → Bool) (v : Nat → Value) (W : World) : Prop where
 st : Below Wc.heap.size Wc W
 f0 : Had L 0 (v 49 = .agg #[.int .i64 sa, .int .i64 sd])
 f1 : Had L 1 (v 50 = .pointer (some ⟨xb, 1, none⟩))
 f2 : Had L 2 (v 51 = .slice (some ⟨gr, gro, none⟩) (pm) (prc))
 f3 : Had L 3 (v 52 = .int .i64 (i : Int))
 f4 : Had L 4 (v 53 = .pointer (some ⟨gr, gro + i * 3, none⟩))
 f5 : Had L 5 (v 54 = .pointer (some ⟨gr, gro + i * 3 + 2, none⟩))
 f6 : Had L 6 (v 55 = .int .i64 rt)
 f7 : Had L 7 (v 56 = .agg #[.int .i64 rt, .int .i64 1])
 f8 : Had L 8 (v 57 = .int .i64 o)
 f9 : Had L 9 (v 11 = .int .i64 o)
 w2 : Had L 2 (∀ j ∈ [1], L j = true)
 w4 : Had L 4 (∀ j ∈ [2, 3], L j = true)
 w5 : Had L 5 (∀ j ∈ [4], L j = true)
 w6 : Had L 6 (∀ j ∈ [5], L j = true)
 w7 : Had L 7 (∀ j ∈ [6], L j = true)
 w8 : Had L 8 (∀ j ∈ [0, 7], L j = true)
 w9 : Had L 9 (∀ j ∈ [8], L j = true)

/-- What the reference's Feasible answers. -/
def FeaQ (p : PgD) (X : Nat → Int × Int) (v : Bool) (er : Int) : Prop :=
 ((∃ i, i < p.m ∧ comS (p.Z i) X p.n = (0, 0, 5)) ∧ v = false ∧ er = 5) ∨ ((∀ i, i < p.m → (comS (p.Z i) X p.n).2.2 = 0) ∧ (v = true ↔ FeaR p X) ∧ er = 0)
/-- A Boolean that says P. -/
def BoT (b : Bool) (P : Prop) : Prop := b = true ↔ P
theorem cmpI_zero {a d : Int} (h : Vld a d) : (0 ≤ cmpI a d 0 ↔ 0 ≤ a) ∧ (cmpI a d 0 ≤ 0 ↔ a ≤ 0) ∧ (0 < cmpI a d 0 ↔ 0 < a) := by
 unfold cmpI
 have e : a * 1 + -0 * d = a := by omega
 rw [e]
 unfold sgn
 split
 ·omega
 ·split <;> omega
theorem comS_ok {f : Nat → Int} {X : Nat → Int × Int} {n : Nat} (hf : ∀ j, j < n → -1073741824 ≤ f j ∧ f j ≤ 1073741824) (hX : FrV n X) {a d er : Int} (h : comS f X n = (a, d, er)) : (er = 0 ∧ Vld a d) ∨ (a = 0 ∧ d = 0 ∧ er = 5) := by
 rcases comS_vld hf hX n (Nat.le_refl _) with g | g
 ·rw [h] at g
  exact .inr (three g)
 ·rw [h] at g
  exact .inl g

set_option maxRecDepth 100000 in
set_option maxHeartbeats 32000000 in
theorem rpFea_any (p : PgD) (hok : p.Ok) (xa : Option Addr) (xc : Nat) (X : Nat → Int × Int) (w : World) (hp : p.At w) (hx : IFr w xa p.n X) (hv : FrV p.n X) :
  Calls Tryz.prog 37 #[p.val, .slice xa p.n xc] w fun e w' => Below w.heap.size w w' ∧ ∃ v er, e = .returned (.tuple #[.bool v, .int .i64 er]) ∧ FeaQ p X v er := by
 unfold PgD.val
 have hn12 := hok.n2
 have hm6 := hok.m2
 have HP := Lib.hid hp
 have HX := Lib.hid hx
 have HV := Lib.hid hv
 have HOK := Lib.hid hok
 have HSG := Lib.hid (fun (a d : Int) (h : Vld a d) (W : World) => Lib.hid (rpSign_any a d W h))
 have HO := Lib.hid (fun z (W : World) => Lib.hid (refOf_any z W))
 have hb1 : Below w.heap.size w (w.alloc (Obj.cells #[Value.slice p.ca p.n p.cc, .slice p.ra p.m p.rc] 25)) := (Below.refl _ _).alloc (Nat.le_refl _) _
 obtain ⟨w1, hw1⟩ : ∃ W, W = w.alloc (Obj.cells #[Value.slice p.ca p.n p.cc, .slice p.ra p.m p.rc] 25) := ⟨_, rfl⟩
 obtain ⟨xb, hxb⟩ : ∃ x, x = w.heap.size := ⟨_, rfl⟩
 have hB : Blk w1 xb (.slice p.ca p.n p.cc) (.slice p.ra p.m p.rc) := by rw [hw1, hxb]; exact Blk.new _ _ _ _
 rw [← hw1] at hb1
 have S0 : Hid (Below w.heap.size w w1 ∧ Blk w1 xb (.slice p.ca p.n p.cc) (.slice p.ra p.m p.rc) ∧ BoT true (∀ l, l < 0 → 0 ≤ (X l).1)) := ⟨hb1, hB, Iff.intro (fun _ l h => by omega) (fun _ => rfl)⟩
 clear hb1 hB hp hx hv hok
 go_enter Tryz.func37, Tryz.ntmps37
 go_upto_region 1 with fail
 rw [← hxb, ← hw1]
 clear hxb hw1
 go_wp2_with fail
 go_loopg [7, 6] p.n (fun g s7 s6 wx => ∃ (i : Nat) (b : Bool), s7 = .int .i64 i ∧ s6 = .bool b ∧ g = p.n - i ∧ i ≤ p.n ∧ Hid (Below w.heap.size w wx ∧ Blk wx xb (.slice p.ca p.n p.cc) (.slice p.ra p.m p.rc) ∧ BoT b (∀ l, l < i → 0 ≤ (X l).1)))
 case atStart => exact ⟨0, true, rfl, rfl, rfl, Nat.zero_le _, S0⟩
 case round =>
  clear S0
  obtain ⟨i, b, rfl, rfl, rfl, hi, S⟩ := hrel
  rename World => W1
  by_cases hlt : i < p.n
  ·have wk : IntKind.i64.wrap ((i : Int) + 1) = ((i + 1 : Nat) : Int) := by rw [IntWalk.i64_in _ (by omega)]; omega
   cases b
   ·have T : Hid (Below w.heap.size w W1 ∧ Blk W1 xb (.slice p.ca p.n p.cc) (.slice p.ra p.m p.rc) ∧ BoT false (∀ l, l < i + 1 → 0 ≤ (X l).1)) := ⟨S.out.1, S.out.2.1, Iff.intro (fun h => (by cases h)) (fun h => absurd (S.out.2.2.2 fun l hl => h l (by omega)) (by decide))⟩
    clear S
    go_wp2_with fail
    go_roundg (p.n - (i + 1))
    case measure => omega
    case rel => exact ⟨i + 1, false, rfl, rfl, rfl, by omega, T⟩
   ·obtain ⟨xg, xo, ex, hxg, hxc⟩ := (HX.out.on S.out.1) (by omega)
    have p1 := (hxc i hlt).1
    have p2 := (hxc i hlt).2
    have vx := HV.out i hlt
    have hz := (cmpI_zero vx).1
    have CG := fun W => HSG.out (X i).1 (X i).2 vx W
    obtain ⟨k, hk⟩ : ∃ k, cmpI (X i).1 (X i).2 0 = k := ⟨_, rfl⟩
    rw [hk] at hz
    simp only [hk] at CG
    obtain ⟨xn, hxn⟩ : ∃ x, (X i).1 = x := ⟨_, rfl⟩
    rw [hxn] at p1 hz CG
    have HXN := Lib.hid (And.intro hxn hz)
    generalize (X i).2 = xd at *
    have HEX := Lib.hid ex
    rw [ex]
    clear hxc hxg ex hk hxn hz vx
    obtain ⟨t, ht⟩ : ∃ t, decide (0 ≤ k) = t := ⟨_, rfl⟩
    go_wp2_with fail
    (with_reducible refine (((CG _).out).mono ?_))
    rintro e w2 ⟨rfl, hb2⟩
    have HB2 := Lib.hid hb2
    have HT := Lib.hid ht
    clear CG hb2 p1 p2
    have T : Hid (Below w.heap.size w w2 ∧ Blk w2 xb (.slice p.ca p.n p.cc) (.slice p.ra p.m p.rc) ∧ BoT t (∀ l, l < i + 1 → 0 ≤ (X l).1)) := ⟨below_on S.out.1 HB2.out, S.out.2.1.on HB2.out, Iff.intro (fun h l hl => by
     by_cases e : l = i
     ·rw [e, HXN.out.1]; exact HXN.out.2.1 (of_decide_eq_true (HT.out.trans h))
     ·exact S.out.2.2.1 rfl l (by omega)) (fun h => by
     have := h i (by omega)
     rw [HXN.out.1] at this
     rw [← HT.out]
     exact decide_eq_true (HXN.out.2.2 this))⟩
    clear S HB2 HXN
    cases t
    ·have hk0 : ¬ 0 ≤ k := of_decide_eq_false HT.out
     have ht := HT.out
     clear HT
     go_wp2_with fail
     rw [← HEX.out]
     go_roundg (p.n - (i + 1))
     case measure => omega
     case rel => exact ⟨i + 1, false, rfl, rfl, rfl, by omega, T⟩
    ·have hk0 : 0 ≤ k := of_decide_eq_true HT.out
     have ht := HT.out
     clear HT
     go_wp2_with fail
     rw [← HEX.out]
     go_roundg (p.n - (i + 1))
     case measure => omega
     case rel => exact ⟨i + 1, true, rfl, rfl, rfl, by omega, T⟩
  ·have e : i = p.n := by omega
   subst e
   have S1 : Hid (Below w.heap.size w W1 ∧ Blk W1 xb (.slice p.ca p.n p.cc) (.slice p.ra p.m p.rc) ∧ BoT b ((∀ l, l < p.n → 0 ≤ (X l).1) ∧ ∀ l, l < 0 → satB (p.Kd l) (cmpI (comS (p.Z l) X p.n).1 (comS (p.Z l) X p.n).2.1 (p.Rt l)) = true) ∧ ∀ l, l < 0 → (comS (p.Z l) X p.n).2.2 = 0) := ⟨S.out.1, S.out.2.1, Iff.intro (fun h => ⟨S.out.2.2.1 h, fun l h => by omega⟩) (fun h => S.out.2.2.2 h.1), fun l h => by omega⟩
   clear S hlt hi
   go_wp2_with fail
   go_loopg [8, 6] p.m (fun g s8 s6 wx => ∃ (i : Nat) (b : Bool), s8 = .int .i64 i ∧ s6 = .bool b ∧ g = p.m - i ∧ i ≤ p.m ∧ Hid (Below w.heap.size w wx ∧ Blk wx xb (.slice p.ca p.n p.cc) (.slice p.ra p.m p.rc) ∧ BoT b ((∀ l, l < p.n → 0 ≤ (X l).1) ∧ ∀ l, l < i → satB (p.Kd l) (cmpI (comS (p.Z l) X p.n).1 (comS (p.Z l) X p.n).2.1 (p.Rt l)) = true) ∧ ∀ l, l < i → (comS (p.Z l) X p.n).2.2 = 0))
   case atStart => exact ⟨0, b, rfl, rfl, rfl, Nat.zero_le _, S1⟩
   case round =>
    clear S1
    obtain ⟨i, b, rfl, rfl, rfl, hi, S⟩ := hrel
    rename World => W2
    have q1 := S.out.2.1.2.2
    by_cases hlt : i < p.m
    ·have wk : IntKind.i64.wrap ((i : Int) + 1) = ((i + 1 : Nat) : Int) := by rw [IntWalk.i64_in _ (by omega)]; omega
     obtain ⟨gr, gro, er, hgr, hrow⟩ := (HP.out.on S.out.1).rows (by omega)
     have p1 := (hrow i hlt).1
     have hcf := (HP.out.on S.out.1).coef i hlt
     rw [HOK.out.l i hlt] at p1 hcf
     have CSU := Lib.hid (rpSum_any (p.Ca i) p.n (p.Kc i) (p.Z i) xa p.n xc X W2 hcf (HX.out.on S.out.1) (Nat.le_refl _) (by omega) HV.out (fun j hj => by have := HOK.out.z i hlt j hj; omega))
     have HROW := Lib.hid (And.intro (hrow i hlt).2 hgr)
     have HER := Lib.hid er
     rw [er] at q1
     rw [er]
     clear hrow hcf er hgr
     go_wp2_with fail
     (with_reducible refine ((CSU.out).mono ?_))
     rintro e w3 ⟨hb2, sa, sd, se, rfl, hse⟩
     have hso := comS_ok (fun j hj => by have := HOK.out.z i hlt j hj; omega) HV.out hse
     have HSE := Lib.hid hse
     have HB2 := Lib.hid hb2
     have HHR := Lib.hid (And.intro ((HB2.out.cell (p := ⟨gr, gro + i * 3 + 1, none⟩) HROW.out.2).trans HROW.out.1.1) (And.intro ((HB2.out.cell (p := ⟨gr, gro + i * 3 + 2, none⟩) HROW.out.2).trans HROW.out.1.2) (Nat.lt_of_lt_of_le HROW.out.2 HB2.out.size)))
     clear CSU q1 p1 hb2 hse HROW
     go_upto_region 10 with fail
     have hb4 : Below w3.heap.size w3 (w3.alloc (Obj.cells #[Value.int .i64 sa, .int .i64 sd] 27)) := (Below.refl _ _).alloc (Nat.le_refl _) _
     obtain ⟨w4, hw4⟩ : ∃ W, W = w3.alloc (Obj.cells #[Value.int .i64 sa, .int .i64 sd] 27) := ⟨_, rfl⟩
     obtain ⟨sb, hsb⟩ : ∃ x, x = w3.heap.size := ⟨_, rfl⟩
     rw [← hsb, ← hw4]
     rw [← hw4] at hb4
     have HSB : Hid (Blk w4 sb (.int .i64 sa) (.int .i64 sd)) := by rw [hw4, hsb]; exact Blk.new _ _ _ _
     have HB4 := Lib.hid (below_on HB2.out hb4)
     have HH4 := Lib.hid (And.intro ((hb4.cell (p := ⟨gr, gro + i * 3 + 1, none⟩) HHR.out.2.2).trans HHR.out.1) (And.intro ((hb4.cell (p := ⟨gr, gro + i * 3 + 2, none⟩) HHR.out.2.2).trans HHR.out.2.1) (Nat.lt_of_lt_of_le HHR.out.2.2 hb4.size)))
     have S4 := Lib.hid (And.intro (below_on S.out.1 HB4.out) (S.out.2.1.on HB4.out))
     clear hw4 hsb hb4 HHR HB2 HB4
     rcases hso with ⟨rfl, vs⟩ | ⟨rfl, rfl, rfl⟩
     ·obtain ⟨rt, hrt⟩ : ∃ x, p.Rt i = x := ⟨_, rfl⟩
      obtain ⟨kd, hkd⟩ : ∃ x, p.Kd i = x := ⟨_, rfl⟩
      have hrr := HOK.out.r i hlt
      have hkk := HOK.out.k i hlt
      have hh4 := HH4.out
      rw [hkd] at hkk hh4
      rw [hrt] at hrr hh4
      have HI := Lib.hid (And.intro hrt hkd)
      obtain ⟨o, ho⟩ : ∃ x, cmpI sa sd rt = x := ⟨_, rfl⟩
      have ho2 := ho
      unfold cmpI at ho2
      have CC := fun W => Lib.hid (refCmp_any sa sd rt 1 W vs (vld_one (by omega)) o ho2)
      have HOO := Lib.hid ho
      have LS0 : Hid (w4.cell? ⟨sb, 0, none⟩ = some (.int .i64 sa) ∧ sb < w4.heap.size) := ⟨HSB.out.2.1, HSB.out.1⟩
      have LS1 : Hid (w4.cell? ⟨sb, 1, none⟩ = some (.int .i64 sd) ∧ sb < w4.heap.size) := ⟨HSB.out.2.2, HSB.out.1⟩
      have LX1 : Hid (w4.cell? ⟨xb, 1, none⟩ = some (.slice (some ⟨gr, gro, none⟩) p.m p.rc) ∧ xb < w4.heap.size) := ⟨by rw [← HER.out]; exact S4.out.2.2.2, S4.out.2.1⟩
      have LR2 : Hid (w4.cell? ⟨gr, gro + i * 3 + 2, none⟩ = some (.int .i64 rt) ∧ gr < w4.heap.size) := ⟨hh4.2.1, hh4.2.2⟩
      have LR1 : Hid (w4.cell? ⟨gr, gro + i * 3 + 1, none⟩ = some (.int .i64 kd) ∧ gr < w4.heap.size) := ⟨hh4.1, hh4.2.2⟩
      clear hrt hkd ho ho2 HH4 HSB vs hrr hh4
      have li : (i : Int) < (p.m : Int) := by omega
      go_upto_region 12 with fail
      refine wp_region_each (fun L A W => ∃ (v : Nat → Value), A = ⟨#[_, _, _, _, _, _, _, _, _, _, _, v 11, _, _, _, _, _, _, _, _, _, _, _, _, _, _, _, _, _, _, _, _, _, _, _, _, _, _, _, _, _, _, _, _, _, _, _, _, _, v 49, v 50, v 51, v 52, v 53, v 54, v 55, v 56, v 57, _, _, _, _, _, _, _, _, _, _, _, _, _, _, _, _, _, _, _, _, _], []⟩ ∧ RFeR sb xb gr gro i p.m p.rc sa sd rt o w4 L v W) (by kernel_rfl) (by kernel_rfl) ⟨fun jz => if jz = 49 then u49 else if jz = 50 then u50 else if jz = 51 then u51 else if jz = 52 then u52 else if jz = 53 then u53 else if jz = 54 then u54 else if jz = 55 then u55 else if jz = 56 then u56 else if jz = 57 then u57 else if jz = 11 then u11 else undef, rfl, ⟨Below.drew (Below.refl _ _), Had.none, Had.none, Had.none, Had.none, Had.none, Had.none, Had.none, Had.none, Had.none, Had.none, Had.none, Had.none, Had.none, Had.none, Had.none, Had.none, Had.none⟩⟩ (rs := [0, 1, 2, 3, 4, 5, 6, 7, 8, 9]) (by kernel_rfl) ?_ ?_
      ·refine EachOf.cons [] rfl (by kernel_rfl) ?_ ?_
       ·rintro L A W ⟨v, rfl, hR⟩ hi hw K hK
        have q0 := (hR.st.cell (p := ⟨sb, 0, none⟩) LS0.out.2).trans LS0.out.1
        have q1 := (hR.st.cell (p := ⟨sb, 1, none⟩) LS1.out.2).trans LS1.out.1
        go_simp
        refine hK.out _ _ ?_
        exact ⟨(fun jz => if jz = 49 then .agg #[.int .i64 sa, .int .i64 sd] else v jz), rfl, ⟨hR.st, (fun _ => rfl), hR.f1.k, hR.f2.k, hR.f3.k, hR.f4.k, hR.f5.k, hR.f6.k, hR.f7.k, hR.f8.k, hR.f9.k, hR.w2.o, hR.w4.o, hR.w5.o, hR.w6.o, hR.w7.o, hR.w8.o, hR.w9.o⟩⟩
       refine EachOf.cons [] rfl (by kernel_rfl) ?_ ?_
       ·rintro L A W ⟨v, rfl, hR⟩ hi hw K hK
        go_simp
        refine hK.out _ _ ?_
        exact ⟨(fun jz => if jz = 50 then .pointer (some ⟨xb, 1, none⟩) else v jz), rfl, ⟨hR.st, hR.f0.k, (fun _ => rfl), hR.f2.k, hR.f3.k, hR.f4.k, hR.f5.k, hR.f6.k, hR.f7.k, hR.f8.k, hR.f9.k, hR.w2.o, hR.w4.o, hR.w5.o, hR.w6.o, hR.w7.o, hR.w8.o, hR.w9.o⟩⟩
       refine EachOf.cons [1] rfl (by kernel_rfl) ?_ ?_
       ·rintro L A W ⟨v, rfl, hR⟩ hi hw K hK
        have e1 := hR.f1 (hw 1 (by simp))
        simp only [e1]
        clear e1
        have q0 := (hR.st.cell (p := ⟨xb, 1, none⟩) LX1.out.2).trans LX1.out.1
        go_simp
        refine hK.out _ _ ?_
        exact ⟨(fun jz => if jz = 50 then .pointer (some ⟨xb, 1, none⟩) else if jz = 51 then .slice (some ⟨gr, gro, none⟩) (p.m) (p.rc) else v jz), rfl, ⟨hR.st, hR.f0.k, (fun _ => rfl), (fun _ => rfl), hR.f3.k, hR.f4.k, hR.f5.k, hR.f6.k, hR.f7.k, hR.f8.k, hR.f9.k, (fun _ j hj => upd_on (hw j hj)), hR.w4.o, hR.w5.o, hR.w6.o, hR.w7.o, hR.w8.o, hR.w9.o⟩⟩
       refine EachOf.cons [] rfl (by kernel_rfl) ?_ ?_
       ·rintro L A W ⟨v, rfl, hR⟩ hi hw K hK
        go_simp
        refine hK.out _ _ ?_
        exact ⟨(fun jz => if jz = 52 then .int .i64 (i : Int) else v jz), rfl, ⟨hR.st, hR.f0.k, hR.f1.k, hR.f2.k, (fun _ => rfl), hR.f4.k, hR.f5.k, hR.f6.k, hR.f7.k, hR.f8.k, hR.f9.k, hR.w2.o, hR.w4.o, hR.w5.o, hR.w6.o, hR.w7.o, hR.w8.o, hR.w9.o⟩⟩
       refine EachOf.cons [2, 3] rfl (by kernel_rfl) ?_ ?_
       ·rintro L A W ⟨v, rfl, hR⟩ hi hw K hK
        have e2 := hR.f2 (hw 2 (by simp))
        have e3 := hR.f3 (hw 3 (by simp))
        simp only [e2, e3]
        clear e2 e3
        go_simp
        refine hK.out _ _ ?_
        exact ⟨(fun jz => if jz = 51 then .slice (some ⟨gr, gro, none⟩) (p.m) (p.rc) else if jz = 52 then .int .i64 (i : Int) else if jz = 53 then .pointer (some ⟨gr, gro + i * 3, none⟩) else v jz), rfl, ⟨hR.st, hR.f0.k, hR.f1.k, (fun _ => rfl), (fun _ => rfl), (fun _ => rfl), hR.f5.k, hR.f6.k, hR.f7.k, hR.f8.k, hR.f9.k, hR.w2.o, (fun _ j hj => upd_on (hw j hj)), hR.w5.o, hR.w6.o, hR.w7.o, hR.w8.o, hR.w9.o⟩⟩
       refine EachOf.cons [4] rfl (by kernel_rfl) ?_ ?_
       ·rintro L A W ⟨v, rfl, hR⟩ hi hw K hK
        have e4 := hR.f4 (hw 4 (by simp))
        simp only [e4]
        clear e4
        go_simp
        refine hK.out _ _ ?_
        exact ⟨(fun jz => if jz = 53 then .pointer (some ⟨gr, gro + i * 3, none⟩) else if jz = 54 then .pointer (some ⟨gr, gro + i * 3 + 2, none⟩) else v jz), rfl, ⟨hR.st, hR.f0.k, hR.f1.k, hR.f2.k, hR.f3.k, (fun _ => rfl), (fun _ => rfl), hR.f6.k, hR.f7.k, hR.f8.k, hR.f9.k, hR.w2.o, hR.w4.o, (fun _ j hj => upd_on (hw j hj)), hR.w6.o, hR.w7.o, hR.w8.o, hR.w9.o⟩⟩
       refine EachOf.cons [5] rfl (by kernel_rfl) ?_ ?_
       ·rintro L A W ⟨v, rfl, hR⟩ hi hw K hK
        have e5 := hR.f5 (hw 5 (by simp))
        simp only [e5]
        clear e5
        have q0 := (hR.st.cell (p := ⟨gr, gro + i * 3 + 2, none⟩) LR2.out.2).trans LR2.out.1
        go_simp
        refine hK.out _ _ ?_
        exact ⟨(fun jz => if jz = 54 then .pointer (some ⟨gr, gro + i * 3 + 2, none⟩) else if jz = 55 then .int .i64 rt else v jz), rfl, ⟨hR.st, hR.f0.k, hR.f1.k, hR.f2.k, hR.f3.k, hR.f4.k, (fun _ => rfl), (fun _ => rfl), hR.f7.k, hR.f8.k, hR.f9.k, hR.w2.o, hR.w4.o, hR.w5.o, (fun _ j hj => upd_on (hw j hj)), hR.w7.o, hR.w8.o, hR.w9.o⟩⟩
       refine EachOf.cons [6] rfl (by kernel_rfl) ?_ ?_
       ·rintro L A W ⟨v, rfl, hR⟩ hi hw K hK
        have e6 := hR.f6 (hw 6 (by simp))
        simp only [e6]
        clear e6
        go_simp
        go_at_call 77
        (with_reducible refine (((HO.out rt W)).out.mono ?_))
        rintro e w2 ⟨rfl, hb⟩
        go_simp
        refine hK.out _ _ ?_
        exact ⟨(fun jz => if jz = 55 then .int .i64 rt else if jz = 56 then .agg #[.int .i64 rt, .int .i64 1] else v jz), rfl, ⟨below_on hR.st hb, hR.f0.k, hR.f1.k, hR.f2.k, hR.f3.k, hR.f4.k, hR.f5.k, (fun _ => rfl), (fun _ => rfl), hR.f8.k, hR.f9.k, hR.w2.o, hR.w4.o, hR.w5.o, hR.w6.o, (fun _ j hj => upd_on (hw j hj)), hR.w8.o, hR.w9.o⟩⟩
       refine EachOf.cons [0, 7] rfl (by kernel_rfl) ?_ ?_
       ·rintro L A W ⟨v, rfl, hR⟩ hi hw K hK
        have e0 := hR.f0 (hw 0 (by simp))
        have e7 := hR.f7 (hw 7 (by simp))
        simp only [e0, e7]
        clear e0 e7
        go_simp
        go_at_call 76
        (with_reducible refine (((CC W)).out.mono ?_))
        rintro e w2 ⟨rfl, hb⟩
        go_simp
        refine hK.out _ _ ?_
        exact ⟨(fun jz => if jz = 49 then .agg #[.int .i64 sa, .int .i64 sd] else if jz = 56 then .agg #[.int .i64 rt, .int .i64 1] else if jz = 57 then .int .i64 o else v jz), rfl, ⟨below_on hR.st hb, (fun _ => rfl), hR.f1.k, hR.f2.k, hR.f3.k, hR.f4.k, hR.f5.k, hR.f6.k, (fun _ => rfl), (fun _ => rfl), hR.f9.k, hR.w2.o, hR.w4.o, hR.w5.o, hR.w6.o, hR.w7.o, (fun _ j hj => upd_on (hw j hj)), hR.w9.o⟩⟩
       refine EachOf.cons [8] rfl (by kernel_rfl) ?_ ?_
       ·rintro L A W ⟨v, rfl, hR⟩ hi hw K hK
        have e8 := hR.f8 (hw 8 (by simp))
        simp only [e8]
        clear e8
        go_simp
        refine hK.out _ _ ?_
        exact ⟨(fun jz => if jz = 57 then .int .i64 o else if jz = 11 then .int .i64 o else v jz), rfl, ⟨hR.st, hR.f0.k, hR.f1.k, hR.f2.k, hR.f3.k, hR.f4.k, hR.f5.k, hR.f6.k, hR.f7.k, (fun _ => rfl), (fun _ => rfl), hR.w2.o, hR.w4.o, hR.w5.o, hR.w6.o, hR.w7.o, hR.w8.o, (fun _ j hj => upd_on (hw j hj))⟩⟩
       exact EachOf.nil
      rintro L A W ⟨v, rfl, hR⟩ hL
      have e9 := hR.f9 (hL 9 (by simp))
      simp only [e9]
      have S5 := Lib.hid (And.intro (below_on S4.out.1 hR.st) (S4.out.2.on hR.st))
      have p2 := (hR.st.cell (p := ⟨gr, gro + i * 3 + 1, none⟩) LR1.out.2).trans LR1.out.1
      have q1 := (hR.st.cell (p := ⟨xb, 1, none⟩) LX1.out.2).trans LX1.out.1
      clear e9 hR hL LS0 LS1 LX1 LR2 LR1 CC S4
      have hsat : Hid (satB (p.Kd i) (cmpI (comS (p.Z i) X p.n).1 (comS (p.Z i) X p.n).2.1 (p.Rt i)) = satB kd o ∧ (comS (p.Z i) X p.n).2.2 = 0) := by
       refine ⟨?_, by rw [HSE.out]⟩
       rw [HSE.out, HI.out.1, HI.out.2]
       simp only [HOO.out]
      have T : Hid (∀ b2 : Bool, (b2 = true ↔ b = true ∧ satB kd o = true) → (Below w.heap.size w W ∧ Blk W xb (.slice p.ca p.n p.cc) (.slice p.ra p.m p.rc) ∧ BoT b2 ((∀ l, l < p.n → 0 ≤ (X l).1) ∧ ∀ l, l < i + 1 → satB (p.Kd l) (cmpI (comS (p.Z l) X p.n).1 (comS (p.Z l) X p.n).2.1 (p.Rt l)) = true) ∧ ∀ l, l < i + 1 → (comS (p.Z l) X p.n).2.2 = 0)) := fun b2 h2 => by
       refine ⟨S5.out.1, S5.out.2, Iff.intro (fun h => ?_) (fun h => ?_), fun l hl => ?_⟩
       ·have h3 := h2.1 h
        have h4 := S.out.2.2.1.1 h3.1
        refine ⟨h4.1, fun l hl => ?_⟩
        by_cases e : l = i
        ·rw [e, hsat.out.1]; exact h3.2
        ·exact h4.2 l (by omega)
       ·refine h2.2 ⟨S.out.2.2.1.2 ⟨h.1, fun l hl => h.2 l (by omega)⟩, ?_⟩
        rw [← hsat.out.1]
        exact h.2 i (by omega)
       ·by_cases e : l = i
        ·rw [e]; exact hsat.out.2
        ·exact S.out.2.2.2 l (by omega)
      clear S S5 HI HOO HSE hsat
      obtain rfl | rfl | rfl : kd = 1 ∨ kd = 2 ∨ kd = 3 := by omega
      ·rcases Int.lt_trichotomy o 0 with h0 | h0 | h0
       ·have t1 : decide (0 < o) = false := decide_eq_false (by omega)
        have t2 : decide (o < 0) = true := decide_eq_true (by omega)
        have n1 : ¬ 0 < o := by omega
        have n2 : o < 0 := by omega
        have T2 := Lib.hid (T.out b ⟨fun h => ⟨h, by unfold satB; simp; omega⟩, fun h => h.1⟩)
        clear T
        go_wp2_with fail
        rw [← HER.out]
        go_roundg (p.m - (i + 1))
        case measure => omega
        case rel => exact ⟨i + 1, b, rfl, rfl, rfl, by omega, T2⟩
       ·have t1 : decide (0 < o) = false := decide_eq_false (by omega)
        have t2 : decide (o < 0) = false := decide_eq_false (by omega)
        have n1 : ¬ 0 < o := by omega
        have n2 : ¬ o < 0 := by omega
        have T2 := Lib.hid (T.out b ⟨fun h => ⟨h, by unfold satB; simp; omega⟩, fun h => h.1⟩)
        clear T
        go_wp2_with fail
        rw [← HER.out]
        go_roundg (p.m - (i + 1))
        case measure => omega
        case rel => exact ⟨i + 1, b, rfl, rfl, rfl, by omega, T2⟩
       ·have t1 : decide (0 < o) = true := decide_eq_true (by omega)
        have t2 : decide (o < 0) = false := decide_eq_false (by omega)
        have n1 : 0 < o := by omega
        have n2 : ¬ o < 0 := by omega
        have T2 := Lib.hid (T.out false ⟨fun h => (by cases h), fun h => absurd h.2 (by unfold satB; simp; omega)⟩)
        clear T
        go_wp2_with fail
        rw [← HER.out]
        go_roundg (p.m - (i + 1))
        case measure => omega
        case rel => exact ⟨i + 1, false, rfl, rfl, rfl, by omega, T2⟩
      ·rcases Int.lt_trichotomy o 0 with h0 | h0 | h0
       ·have t1 : decide (0 < o) = false := decide_eq_false (by omega)
        have t2 : decide (o < 0) = true := decide_eq_true (by omega)
        have n1 : ¬ 0 < o := by omega
        have n2 : o < 0 := by omega
        have T2 := Lib.hid (T.out false ⟨fun h => (by cases h), fun h => absurd h.2 (by unfold satB; simp; omega)⟩)
        clear T
        go_wp2_with fail
        rw [← HER.out]
        go_roundg (p.m - (i + 1))
        case measure => omega
        case rel => exact ⟨i + 1, false, rfl, rfl, rfl, by omega, T2⟩
       ·have t1 : decide (0 < o) = false := decide_eq_false (by omega)
        have t2 : decide (o < 0) = false := decide_eq_false (by omega)
        have n1 : ¬ 0 < o := by omega
        have n2 : ¬ o < 0 := by omega
        have T2 := Lib.hid (T.out b ⟨fun h => ⟨h, by unfold satB; simp; omega⟩, fun h => h.1⟩)
        clear T
        go_wp2_with fail
        rw [← HER.out]
        go_roundg (p.m - (i + 1))
        case measure => omega
        case rel => exact ⟨i + 1, b, rfl, rfl, rfl, by omega, T2⟩
       ·have t1 : decide (0 < o) = true := decide_eq_true (by omega)
        have t2 : decide (o < 0) = false := decide_eq_false (by omega)
        have n1 : 0 < o := by omega
        have n2 : ¬ o < 0 := by omega
        have T2 := Lib.hid (T.out b ⟨fun h => ⟨h, by unfold satB; simp; omega⟩, fun h => h.1⟩)
        clear T
        go_wp2_with fail
        rw [← HER.out]
        go_roundg (p.m - (i + 1))
        case measure => omega
        case rel => exact ⟨i + 1, b, rfl, rfl, rfl, by omega, T2⟩
      ·rcases Int.lt_trichotomy o 0 with h0 | h0 | h0
       ·have t1 : decide (0 < o) = false := decide_eq_false (by omega)
        have t2 : decide (o < 0) = true := decide_eq_true (by omega)
        have n1 : ¬ 0 < o := by omega
        have n2 : o < 0 := by omega
        have T2 := Lib.hid (T.out false ⟨fun h => (by cases h), fun h => absurd h.2 (by unfold satB; simp; omega)⟩)
        clear T
        go_wp2_with fail
        rw [← HER.out]
        go_roundg (p.m - (i + 1))
        case measure => omega
        case rel => exact ⟨i + 1, false, rfl, rfl, rfl, by omega, T2⟩
       ·have t1 : decide (0 < o) = false := decide_eq_false (by omega)
        have t2 : decide (o < 0) = false := decide_eq_false (by omega)
        have n1 : ¬ 0 < o := by omega
        have n2 : ¬ o < 0 := by omega
        have T2 := Lib.hid (T.out b ⟨fun h => ⟨h, by unfold satB; simp; omega⟩, fun h => h.1⟩)
        clear T
        go_wp2_with fail
        rw [← HER.out]
        go_roundg (p.m - (i + 1))
        case measure => omega
        case rel => exact ⟨i + 1, b, rfl, rfl, rfl, by omega, T2⟩
       ·have t1 : decide (0 < o) = true := decide_eq_true (by omega)
        have t2 : decide (o < 0) = false := decide_eq_false (by omega)
        have n1 : 0 < o := by omega
        have n2 : ¬ o < 0 := by omega
        have T2 := Lib.hid (T.out false ⟨fun h => (by cases h), fun h => absurd h.2 (by unfold satB; simp; omega)⟩)
        clear T
        go_wp2_with fail
        rw [← HER.out]
        go_roundg (p.m - (i + 1))
        case measure => omega
        case rel => exact ⟨i + 1, false, rfl, rfl, rfl, by omega, T2⟩
     ·have HE : Hid (comS (p.Z i) X p.n = (0, 0, 5)) := HSE.out
      clear HSE HH4 HSB
      go_wp2_with fail
      go_ret2
      exact ⟨S4.out.1, false, 5, rfl, .inl ⟨⟨i, hlt, HE.out⟩, rfl, rfl⟩⟩
    ·have e : i = p.m := by omega
     subst e
     go_wp2_with fail
     go_ret2
     exact ⟨S.out.1, b, 0, rfl, .inr ⟨S.out.2.2.2, ⟨fun h => ⟨(S.out.2.2.1.1 h).2, (S.out.2.2.1.1 h).1⟩, fun h => S.out.2.2.1.2 ⟨h.nn, h.row⟩⟩, rfl⟩⟩
end Go.Proofs.YtggpdhdbeokkcaaGreat
