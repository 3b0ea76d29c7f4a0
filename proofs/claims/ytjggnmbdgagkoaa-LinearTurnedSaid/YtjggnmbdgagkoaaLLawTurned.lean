/- Layer 4: LinearTurned returns true. -/
import Derived.Test.YtjggnmbdgagkoaaLSwp
namespace Go.Proofs.Ytjggnmbdgagkoaa
set_option linter.unusedVariables false
open Go.RowKit Go.Shelf

structure TSwR (xb R n Cb a b : Nat) (G C : Nat → Nat) (Wc : World) (L : Nat → Bool) (v : Nat → Value) (W : World) : Prop where
  st : L 13 = false → Below Wc.heap.size Wc W
  s1 : Had L 13 (L 15 = false → ∃ W2, Below Wc.heap.size Wc W2 ∧ W = W2.setCell ⟨xb, a, none⟩ (.slice (some ⟨G b, 0, none⟩) n (C b)))
  s2 : Had L 15 (∃ W2, Below Wc.heap.size Wc W2 ∧ W = (W2.setCell ⟨xb, a, none⟩ (.slice (some ⟨G b, 0, none⟩) n (C b))).setCell ⟨xb, b, none⟩ (.slice (some ⟨G a, 0, none⟩) n (C a)))
  w6 : Had L 6 (∀ j ∈ [4, 5], L j = true)
  w7 : Had L 7 (∀ j ∈ [6], L j = true)
  w10 : Had L 10 (∀ j ∈ [8, 9], L j = true)
  w11 : Had L 11 (∀ j ∈ [10], L j = true)
  w12 : Had L 12 (∀ j ∈ [0, 1], L j = true)
  w13 : Had L 13 (∀ j ∈ [0, 1, 4, 5, 6, 7, 11, 12], L j = true)
  w14 : Had L 14 (∀ j ∈ [0, 1, 2, 3, 4, 5, 6, 7, 8, 9, 10, 11, 12, 13], L j = true)
  w15 : Had L 15 (∀ j ∈ [0, 1, 2, 3, 4, 5, 6, 7, 8, 9, 10, 11, 12, 13, 14], L j = true)
  f0 : Had L 0 (v 117 = .slice (some ⟨xb, 0, none⟩) R Cb)
  f1 : Had L 1 (v 118 = .int .i64 (a : Int))
  f2 : Had L 2 (v 119 = .slice (some ⟨xb, 0, none⟩) R Cb)
  f3 : Had L 3 (v 120 = .int .i64 (b : Int))
  f4 : Had L 4 (v 121 = .slice (some ⟨xb, 0, none⟩) R Cb)
  f5 : Had L 5 (v 122 = .int .i64 (b : Int))
  f6 : Had L 6 (v 123 = .pointer (some ⟨xb, b, none⟩))
  f7 : Had L 7 (v 124 = .slice (some ⟨G b, 0, none⟩) n (C b))
  f8 : Had L 8 (v 125 = .slice (some ⟨xb, 0, none⟩) R Cb)
  f9 : Had L 9 (v 126 = .int .i64 (a : Int))
  f10 : Had L 10 (v 127 = .pointer (some ⟨xb, a, none⟩))
  f11 : Had L 11 (v 128 = .slice (some ⟨G a, 0, none⟩) n (C a))
  f12 : Had L 12 (v 129 = .pointer (some ⟨xb, a, none⟩))
  f14 : Had L 14 (v 130 = .pointer (some ⟨xb, b, none⟩))

structure TSsR (xb R n Cb a : Nat) (G C : Nat → Nat) (Wc : World) (L : Nat → Bool) (v : Nat → Value) (W : World) : Prop where
  st : L 13 = false → Below Wc.heap.size Wc W
  s1 : Had L 13 (L 15 = false → ∃ W2, Below Wc.heap.size Wc W2 ∧ W = W2.setCell ⟨xb, a, none⟩ (.slice (some ⟨G a, 0, none⟩) n (C a)))
  s2 : Had L 15 (∃ W2, Below Wc.heap.size Wc W2 ∧ W = (W2.setCell ⟨xb, a, none⟩ (.slice (some ⟨G a, 0, none⟩) n (C a))).setCell ⟨xb, a, none⟩ (.slice (some ⟨G a, 0, none⟩) n (C a)))
  w6 : Had L 6 (∀ j ∈ [4, 5], L j = true)
  w7 : Had L 7 (∀ j ∈ [6], L j = true)
  w10 : Had L 10 (∀ j ∈ [8, 9], L j = true)
  w11 : Had L 11 (∀ j ∈ [10], L j = true)
  w12 : Had L 12 (∀ j ∈ [0, 1], L j = true)
  w13 : Had L 13 (∀ j ∈ [0, 1, 4, 5, 6, 7, 11, 12], L j = true)
  w14 : Had L 14 (∀ j ∈ [0, 1, 2, 3, 4, 5, 6, 7, 8, 9, 10, 11, 12, 13], L j = true)
  w15 : Had L 15 (∀ j ∈ [0, 1, 2, 3, 4, 5, 6, 7, 8, 9, 10, 11, 12, 13, 14], L j = true)
  f0 : Had L 0 (v 117 = .slice (some ⟨xb, 0, none⟩) R Cb)
  f1 : Had L 1 (v 118 = .int .i64 (a : Int))
  f2 : Had L 2 (v 119 = .slice (some ⟨xb, 0, none⟩) R Cb)
  f3 : Had L 3 (v 120 = .int .i64 (a : Int))
  f4 : Had L 4 (v 121 = .slice (some ⟨xb, 0, none⟩) R Cb)
  f5 : Had L 5 (v 122 = .int .i64 (a : Int))
  f6 : Had L 6 (v 123 = .pointer (some ⟨xb, a, none⟩))
  f7 : Had L 7 (v 124 = .slice (some ⟨G a, 0, none⟩) n (C a))
  f8 : Had L 8 (v 125 = .slice (some ⟨xb, 0, none⟩) R Cb)
  f9 : Had L 9 (v 126 = .int .i64 (a : Int))
  f10 : Had L 10 (v 127 = .pointer (some ⟨xb, a, none⟩))
  f11 : Had L 11 (v 128 = .slice (some ⟨G a, 0, none⟩) n (C a))
  f12 : Had L 12 (v 129 = .pointer (some ⟨xb, a, none⟩))
  f14 : Had L 14 (v 130 = .pointer (some ⟨xb, a, none⟩))

set_option maxRecDepth 100000 in
set_option maxHeartbeats 64000000 in
theorem turned_walk (ma : Option Addr) (R mc : Nat) (Ra : Nat → Option Addr) (Ln Ka : Nat → Nat) (Z : Nat → Nat → Int) (y1 y2 : Int) (w : World) (hM : AMat w ma R Ra Ln Ka Z) (hR : R ≤ 9223372036854775807) (y10 : 0 ≤ y1) (y11 : y1 ≤ 255) (y20 : 0 ≤ y2) (y21 : y2 ≤ 255) :
    Calls Try.prog 7 #[.slice ma R mc, .int .u8 y1, .int .u8 y2] w fun e w' => e = .returned (.bool true) ∧ Below w.heap.size w w' := by
  have HM := Lib.hid hM
  have CA := Lib.hid (lawake_any w)
  have CV0 := fun W h => lValid_any ma R mc Ra Ln Ka Z W h hR
  clear hM
  go_enter Try.func7, Try.ntmps7
  go_wp2_with fail
  (with_reducible refine ((CA.out).mono ?_))
  rintro e w1 ⟨rfl, hb1⟩
  have HB1 := Lib.hid hb1
  clear CA hb1
  obtain ⟨tl, htl⟩ : ∃ v, lgB R Ln = v := ⟨_, rfl⟩
  have CL0 := long_any ma mc R Ra Ln Ka Z w1 (HM.out.on HB1.out) hR
  rw [htl] at CL0
  have CL := Lib.hid CL0
  clear CL0 htl
  go_wp2_with fail
  (with_reducible refine ((CL.out).mono ?_))
  rintro e w2 ⟨rfl, hb2⟩
  have HB2 := Lib.hid (below_on HB1.out hb2)
  clear CL hb2 HB1
  cases tl
  case true =>
    go_wp2_with fail
    go_ret
    exact ⟨rfl, HB2.out⟩
  case false =>
    by_cases hv : vMP R Ln Z
    · simp only [vM_true.2 hv] at CV0
      have CV := fun W h => Lib.hid (CV0 W h)
      have HV := Lib.hid hv
      obtain ⟨n, hn⟩ : ∃ n, Ln 0 = n := ⟨_, rfl⟩
      have HN := Lib.hid hn
      have hR0 : 0 < R := hv.1
      have hR6 : R ≤ 6 := hv.2.1
      have hn0 : 0 < n := by rw [← hn]; have := hv.2.2.1; omega
      have hn12 : n ≤ 12 := by rw [← hn]; exact hv.2.2.2.1
      have HZB : Hid (∀ i j, i < R → j < n → -32 ≤ Z i j ∧ Z i j ≤ 32) := fun i j hi hj => (hv.2.2.2.2 i hi).2 j (by rw [(hv.2.2.2.2 i hi).1, hn]; exact hj)
      have HVS : Hid (∀ x y, x < R → y < R → vMP R (fun _ => n) (swE x y Z)) := fun x y hx hy => ⟨hR0, hR6, hn0, hn12, fun i hi => ⟨rfl, fun j hj => by
        rcases swE_pick x y i Z with ⟨_, e⟩ | ⟨_, e⟩ | e <;> rw [e]
        · exact HZB.out y j hy hj
        · exact HZB.out x j hx hj
        · exact HZB.out i j hi hj⟩⟩
      obtain ⟨mb, mo, hma, hMt⟩ := HM.out.mat hv
      rw [hn] at hMt
      subst hma
      have HMT := Lib.hid hMt
      have CK := fun W h => Lib.hid (Rank_ok (some ⟨mb, mo, none⟩) R mc Ra Ln Ka Z W n HN.out h HV.out)
      have CT := fun W h => Lib.hid (refTurned_any mb mo mc R n (fun i => adB (Ra i)) (fun i => adO (Ra i)) Ka Z W h hR0 (by omega) hn0 (by omega))
      have CC := fun W h => Lib.hid (refCopy_any mb mo mc R n 0 0 n (fun i => adB (Ra i)) (fun i => adO (Ra i)) Ka Z Z none (fun _ => 0) W h hR0 (by omega) hn0 (by omega) (fun h => by omega) (.inl ⟨rfl, rfl, rfl⟩))
      clear hv hn CV0 hMt
      go_wp2_with fail
      (with_reducible refine (((CV _ (HM.out.on HB2.out)).out).mono ?_))
      rintro e w3 ⟨rfl, hb3⟩
      have HB3 := Lib.hid (below_on HB2.out hb3)
      clear CV hb3 HB2
      go_wp2_with fail
      (with_reducible refine (((CK _ (HM.out.on HB3.out)).out).mono ?_))
      rintro e w4 ⟨hb4, k, p, E, D, hF, rfl⟩
      have HB4 := Lib.hid (below_on HB3.out hb4)
      have HF := Lib.hid hF
      have kR := hF.kR
      have kn : k ≤ n := by
        have h1 := up_ge hF.up
        rcases Nat.lt_or_ge n k with g | g
        · have := h1 n g; have := hF.lt n g; omega
        · exact g
      have hmin : ¬ (min (R : Int) (n : Int) < (k : Int)) := by omega
      have hmin2 : ¬ (min (R : Int) (n : Int) < (k : Nat)) := by omega
      have hk0 : ¬ ((k : Int) < 0) := by omega
      have p0 := (HMT.out.on HB4.out).top 0 hR0
      rw [Nat.add_zero] at p0
      clear CK hb4 hF HB3
      go_wp2_with fail
      clear p0 hmin hmin2 hk0
      (with_reducible refine (((CT _ (HMT.out.on HB4.out)).out).mono ?_))
      rintro e w5 ⟨tb, Ct, Gt, Ctt, rfl, hct, hb5, hGt⟩
      have HB5 := Lib.hid (below_on HB4.out hb5)
      have AT := Lib.hid (hGt.amat (by omega))
      have CVT0 := lValid_any (some ⟨tb, 0, none⟩) n Ct (fun i => some ⟨Gt i, 0, none⟩) (fun _ => R) Ctt (fun l i => Z i l) w5 AT.out (by omega)
      obtain ⟨tv, htv⟩ : ∃ v, vM n (fun _ => R) (fun l i => Z i l) = v := ⟨_, rfl⟩
      rw [htv] at CVT0
      have CVT := Lib.hid CVT0
      have HTV := Lib.hid htv
      clear CT hb5 hGt CVT0 htv HB4
      go_upto_if 59 with ((with_reducible refine ((CVT.out).mono ?_)); rintro e w6 ⟨rfl, hb6⟩)
      have HB6 := Lib.hid (below_on HB5.out hb6)
      have AT6 := Lib.hid (AT.out.on hb6)
      clear CVT hb6 HB5 AT
      go_cut [] (fun wx => Hid (Below w.heap.size w wx))
      case first =>
        cases tv
        case false =>
          go_wp2_with fail
          go_meet
          exact HB6.out
        case true =>
          have HVT := Lib.hid (vM_true.1 HTV.out)
          have CKT := Lib.hid (Rank_ok (some ⟨tb, 0, none⟩) n Ct (fun i => some ⟨Gt i, 0, none⟩) (fun _ => R) Ctt (fun l i => Z i l) w6 R rfl AT6.out HVT.out)
          have CDM := fun W h => Lib.hid (Det_all (some ⟨mb, mo, none⟩) R mc Ra Ln Ka Z W n HN.out h HV.out)
          have CDT := fun W hb => Lib.hid (Det_all (some ⟨tb, 0, none⟩) n Ct (fun i => some ⟨Gt i, 0, none⟩) (fun _ => R) Ctt (fun l i => Z i l) W R rfl (AT6.out.on hb) HVT.out)
          go_wp2_with fail
          (with_reducible refine ((CKT.out).mono ?_))
          rintro e w7 ⟨hb7, k7, p7, E7, D7, hF7, rfl⟩
          have HK7 := Lib.hid hb7
          have HB7 := Lib.hid (below_on HB6.out hb7)
          have ek := rank_turned HF.out.w hF7.w (fun i j _ _ => rfl)
          subst ek
          clear CKT hb7 hF7
          go_wp2_with fail
          (with_reducible refine (((CDM _ (HM.out.on HB7.out)).out).mono ?_))
          rintro e w8 ⟨hb8, va, er, rfl, hD⟩
          have HK8 := Lib.hid (below_on HK7.out hb8)
          have HB8 := Lib.hid (below_on HB7.out hb8)
          have HD := Lib.hid hD
          clear CDM hb8 hD
          go_wp2_with fail
          (with_reducible refine (((CDT _ HK8.out).out).mono ?_))
          rintro e w9 ⟨hb9, vb, er2, rfl, hD⟩
          have HB9 := Lib.hid (below_on HB8.out hb9)
          obtain ⟨e1, e2⟩ := HD.out.turned hD
          subst e1
          subst e2
          have hz := HD.out.zero HF.out
          clear CDT hb9 hD HD
          rcases hz with rfl | ⟨rfl, ⟨h1, rfl⟩ | ⟨h1, h2⟩⟩
          · go_wp2_with fail
            go_meet
            exact HB9.out
          · have h3 : (k : Int) < (R : Int) := by omega
            go_wp2_with fail
            go_meet
            exact HB9.out
          · have h3 : ¬ (k : Int) < (R : Int) := by omega
            have h4 : (vb == 0) = false := by simpa using h2
            have HH2 := Lib.hid h2
            clear h2
            go_wp2_with fail
            go_meet
            exact HB9.out
      case rest =>
        clear HB6 AT6 HTV
        have HB7 := hcut
        rename World => W1
        obtain ⟨a, ha⟩ : ∃ a : Nat, (a : Int) = y1 % (R : Int) := ⟨(y1 % (R : Int)).toNat, Int.toNat_of_nonneg (Int.emod_nonneg _ (by omega))⟩
        obtain ⟨b, hb⟩ : ∃ b : Nat, (b : Int) = y2 % (R : Int) := ⟨(y2 % (R : Int)).toNat, Int.toNat_of_nonneg (Int.emod_nonneg _ (by omega))⟩
        have la : a < R := by have := Int.emod_lt_of_pos y1 (show (0 : Int) < R by omega); omega
        have lb : b < R := by have := Int.emod_lt_of_pos y2 (show (0 : Int) < R by omega); omega
        have ta : y1.tmod (R : Int) = (a : Int) := by rw [Int.tmod_eq_emod_of_nonneg y10, ha]
        have tb2 : y2.tmod (R : Int) = (b : Int) := by rw [Int.tmod_eq_emod_of_nonneg y20, hb]
        have wa : IntKind.i64.wrap y1 = y1 := IntWalk.i64_in _ (by omega)
        have wb : IntKind.i64.wrap y2 = y2 := IntWalk.i64_in _ (by omega)
        have wa2 : IntKind.i64.wrap (a : Int) = (a : Int) := IntWalk.i64_in _ (by omega)
        have wb2 : IntKind.i64.wrap (b : Int) = (b : Int) := IntWalk.i64_in _ (by omega)
        have hRz : ¬ ((R : Int) = 0) := by omega
        clear ha hb
        go_upto_region 15 with fail
        go_quiet (fail)
        have HB8 := Lib.hid (below_drewN' HB7.out nq)
        clear ta tb2 wa wb wa2 wb2 hRz HB7 hcut
        generalize W1.drewN nq = W2 at *
        go_wp2_with fail
        (with_reducible refine (((CC _ (HMT.out.on HB8.out)).out).mono ?_))
        rintro e W4 ⟨xb, Cb, G, C, rfl, hCb, hb4, hG⟩
        have HB9 := Lib.hid (below_on HB8.out hb4)
        have HG := Lib.hid hG
        have HLB : Hid (w.heap.size ≤ xb) := Nat.le_trans HB8.out.size hG.lb
        clear CC hb4 hG HB8
        by_cases hab : a = b
        · subst hab
          go_upto_region 17 with fail
          refine wp_region_each (fun L A W => ∃ (v : Nat → Value), A = ⟨#[_, _, _, _, _, _, _, _, _, _, _, _, _, _, _, _, _, _, _, _, _, _, _, _, _, _, _, _, _, _, _, _, _, _, _, _, _, _, _, _, _, _, _, _, _, _, _, _, _, _, _, _, _, _, _, _, _, _, _, _, _, _, _, _, _, _, _, _, _, _, _, _, _, _, _, _, _, _, _, _, _, _, _, _, _, _, _, _, _, _, _, _, _, _, _, _, _, _, _, _, _, _, _, _, _, _, _, _, _, _, _, _, _, _, _, _, _, v 117, v 118, v 119, v 120, v 121, v 122, v 123, v 124, v 125, v 126, v 127, v 128, v 129, v 130, _, _, _, _, _, _, _, _, _, _, _, _, _, _, _, _, _, _, _, _, _, _, _, _, _, _, _, _, _, _, _, _, _, _, _, _, _, _, _, _, _, _, _, _, _, _], []⟩ ∧ TSsR xb R n Cb a G C W4 L v W) (by kernel_rfl) (by kernel_rfl) ⟨fun jz => if jz = 117 then u117 else if jz = 118 then u118 else if jz = 119 then u119 else if jz = 120 then u120 else if jz = 121 then u121 else if jz = 122 then u122 else if jz = 123 then u123 else if jz = 124 then u124 else if jz = 125 then u125 else if jz = 126 then u126 else if jz = 127 then u127 else if jz = 128 then u128 else if jz = 129 then u129 else if jz = 130 then u130 else undef, rfl, ⟨(fun _ => Below.drew (Below.refl _ _)), Had.none, Had.none, Had.none, Had.none, Had.none, Had.none, Had.none, Had.none, Had.none, Had.none, Had.none, Had.none, Had.none, Had.none, Had.none, Had.none, Had.none, Had.none, Had.none, Had.none, Had.none, Had.none, Had.none, Had.none⟩⟩ (rs := [0, 1, 2, 3, 4, 5, 6, 7, 8, 9, 10, 11, 12, 13, 14, 15]) (by kernel_rfl) ?_ ?_
          · refine EachOf.cons [] rfl (by kernel_rfl) ?_ ?_
            · rintro L A W ⟨v, rfl, hR⟩ hi hw K hK
              have hk : L 13 = false := hR.w13.not hi rfl
              go_simp
              refine hK.out _ _ ?_
              exact ⟨(fun jz => if jz = 117 then .slice (some ⟨xb, 0, none⟩) R Cb else v jz), rfl, ⟨(fun h => hR.st (upd_false h)), hR.s1.keepM rfl (fun h hx => h (upd_false hx)), hR.s2.keep rfl, hR.w6.keepM rfl (fun h j hj => upd_on (h j hj)), hR.w7.keepM rfl (fun h j hj => upd_on (h j hj)), hR.w10.keepM rfl (fun h j hj => upd_on (h j hj)), hR.w11.keepM rfl (fun h j hj => upd_on (h j hj)), hR.w12.keepM rfl (fun h j hj => upd_on (h j hj)), hR.w13.keepM rfl (fun h j hj => upd_on (h j hj)), hR.w14.keepM rfl (fun h j hj => upd_on (h j hj)), hR.w15.keepM rfl (fun h j hj => upd_on (h j hj)), (fun _ => rfl), hR.f1.keep rfl, hR.f2.keep rfl, hR.f3.keep rfl, hR.f4.keep rfl, hR.f5.keep rfl, hR.f6.keep rfl, hR.f7.keep rfl, hR.f8.keep rfl, hR.f9.keep rfl, hR.f10.keep rfl, hR.f11.keep rfl, hR.f12.keep rfl, hR.f14.keep rfl⟩⟩
            refine EachOf.cons [] rfl (by kernel_rfl) ?_ ?_
            · rintro L A W ⟨v, rfl, hR⟩ hi hw K hK
              have hk : L 13 = false := hR.w13.not hi rfl
              go_simp
              refine hK.out _ _ ?_
              exact ⟨(fun jz => if jz = 118 then .int .i64 (a : Int) else v jz), rfl, ⟨(fun h => hR.st (upd_false h)), hR.s1.keepM rfl (fun h hx => h (upd_false hx)), hR.s2.keep rfl, hR.w6.keepM rfl (fun h j hj => upd_on (h j hj)), hR.w7.keepM rfl (fun h j hj => upd_on (h j hj)), hR.w10.keepM rfl (fun h j hj => upd_on (h j hj)), hR.w11.keepM rfl (fun h j hj => upd_on (h j hj)), hR.w12.keepM rfl (fun h j hj => upd_on (h j hj)), hR.w13.keepM rfl (fun h j hj => upd_on (h j hj)), hR.w14.keepM rfl (fun h j hj => upd_on (h j hj)), hR.w15.keepM rfl (fun h j hj => upd_on (h j hj)), hR.f0.keep rfl, (fun _ => rfl), hR.f2.keep rfl, hR.f3.keep rfl, hR.f4.keep rfl, hR.f5.keep rfl, hR.f6.keep rfl, hR.f7.keep rfl, hR.f8.keep rfl, hR.f9.keep rfl, hR.f10.keep rfl, hR.f11.keep rfl, hR.f12.keep rfl, hR.f14.keep rfl⟩⟩
            refine EachOf.cons [] rfl (by kernel_rfl) ?_ ?_
            · rintro L A W ⟨v, rfl, hR⟩ hi hw K hK
              go_simp
              refine hK.out _ _ ?_
              exact ⟨(fun jz => if jz = 119 then .slice (some ⟨xb, 0, none⟩) R Cb else v jz), rfl, ⟨(fun h => hR.st (upd_false h)), hR.s1.keepM rfl (fun h hx => h (upd_false hx)), hR.s2.keep rfl, hR.w6.keepM rfl (fun h j hj => upd_on (h j hj)), hR.w7.keepM rfl (fun h j hj => upd_on (h j hj)), hR.w10.keepM rfl (fun h j hj => upd_on (h j hj)), hR.w11.keepM rfl (fun h j hj => upd_on (h j hj)), hR.w12.keepM rfl (fun h j hj => upd_on (h j hj)), hR.w13.keepM rfl (fun h j hj => upd_on (h j hj)), hR.w14.keepM rfl (fun h j hj => upd_on (h j hj)), hR.w15.keepM rfl (fun h j hj => upd_on (h j hj)), hR.f0.keep rfl, hR.f1.keep rfl, (fun _ => rfl), hR.f3.keep rfl, hR.f4.keep rfl, hR.f5.keep rfl, hR.f6.keep rfl, hR.f7.keep rfl, hR.f8.keep rfl, hR.f9.keep rfl, hR.f10.keep rfl, hR.f11.keep rfl, hR.f12.keep rfl, hR.f14.keep rfl⟩⟩
            refine EachOf.cons [] rfl (by kernel_rfl) ?_ ?_
            · rintro L A W ⟨v, rfl, hR⟩ hi hw K hK
              go_simp
              refine hK.out _ _ ?_
              exact ⟨(fun jz => if jz = 120 then .int .i64 (a : Int) else v jz), rfl, ⟨(fun h => hR.st (upd_false h)), hR.s1.keepM rfl (fun h hx => h (upd_false hx)), hR.s2.keep rfl, hR.w6.keepM rfl (fun h j hj => upd_on (h j hj)), hR.w7.keepM rfl (fun h j hj => upd_on (h j hj)), hR.w10.keepM rfl (fun h j hj => upd_on (h j hj)), hR.w11.keepM rfl (fun h j hj => upd_on (h j hj)), hR.w12.keepM rfl (fun h j hj => upd_on (h j hj)), hR.w13.keepM rfl (fun h j hj => upd_on (h j hj)), hR.w14.keepM rfl (fun h j hj => upd_on (h j hj)), hR.w15.keepM rfl (fun h j hj => upd_on (h j hj)), hR.f0.keep rfl, hR.f1.keep rfl, hR.f2.keep rfl, (fun _ => rfl), hR.f4.keep rfl, hR.f5.keep rfl, hR.f6.keep rfl, hR.f7.keep rfl, hR.f8.keep rfl, hR.f9.keep rfl, hR.f10.keep rfl, hR.f11.keep rfl, hR.f12.keep rfl, hR.f14.keep rfl⟩⟩
            refine EachOf.cons [] rfl (by kernel_rfl) ?_ ?_
            · rintro L A W ⟨v, rfl, hR⟩ hi hw K hK
              have hk : L 13 = false := hR.w13.not hi rfl
              go_simp
              refine hK.out _ _ ?_
              exact ⟨(fun jz => if jz = 121 then .slice (some ⟨xb, 0, none⟩) R Cb else v jz), rfl, ⟨(fun h => hR.st (upd_false h)), hR.s1.keepM rfl (fun h hx => h (upd_false hx)), hR.s2.keep rfl, hR.w6.keepM rfl (fun h j hj => upd_on (h j hj)), hR.w7.keepM rfl (fun h j hj => upd_on (h j hj)), hR.w10.keepM rfl (fun h j hj => upd_on (h j hj)), hR.w11.keepM rfl (fun h j hj => upd_on (h j hj)), hR.w12.keepM rfl (fun h j hj => upd_on (h j hj)), hR.w13.keepM rfl (fun h j hj => upd_on (h j hj)), hR.w14.keepM rfl (fun h j hj => upd_on (h j hj)), hR.w15.keepM rfl (fun h j hj => upd_on (h j hj)), hR.f0.keep rfl, hR.f1.keep rfl, hR.f2.keep rfl, hR.f3.keep rfl, (fun _ => rfl), hR.f5.keep rfl, hR.f6.keep rfl, hR.f7.keep rfl, hR.f8.keep rfl, hR.f9.keep rfl, hR.f10.keep rfl, hR.f11.keep rfl, hR.f12.keep rfl, hR.f14.keep rfl⟩⟩
            refine EachOf.cons [] rfl (by kernel_rfl) ?_ ?_
            · rintro L A W ⟨v, rfl, hR⟩ hi hw K hK
              have hk : L 13 = false := hR.w13.not hi rfl
              go_simp
              refine hK.out _ _ ?_
              exact ⟨(fun jz => if jz = 122 then .int .i64 (a : Int) else v jz), rfl, ⟨(fun h => hR.st (upd_false h)), hR.s1.keepM rfl (fun h hx => h (upd_false hx)), hR.s2.keep rfl, hR.w6.keepM rfl (fun h j hj => upd_on (h j hj)), hR.w7.keepM rfl (fun h j hj => upd_on (h j hj)), hR.w10.keepM rfl (fun h j hj => upd_on (h j hj)), hR.w11.keepM rfl (fun h j hj => upd_on (h j hj)), hR.w12.keepM rfl (fun h j hj => upd_on (h j hj)), hR.w13.keepM rfl (fun h j hj => upd_on (h j hj)), hR.w14.keepM rfl (fun h j hj => upd_on (h j hj)), hR.w15.keepM rfl (fun h j hj => upd_on (h j hj)), hR.f0.keep rfl, hR.f1.keep rfl, hR.f2.keep rfl, hR.f3.keep rfl, hR.f4.keep rfl, (fun _ => rfl), hR.f6.keep rfl, hR.f7.keep rfl, hR.f8.keep rfl, hR.f9.keep rfl, hR.f10.keep rfl, hR.f11.keep rfl, hR.f12.keep rfl, hR.f14.keep rfl⟩⟩
            refine EachOf.cons [4, 5] rfl (by kernel_rfl) ?_ ?_
            · rintro L A W ⟨v, rfl, hR⟩ hi hw K hK
              have hk : L 13 = false := hR.w13.not hi rfl
              have e4 := hR.f4 (hw 4 (by simp))
              have e5 := hR.f5 (hw 5 (by simp))
              simp only [e4, e5]
              clear e4 e5
              go_simp
              refine hK.out _ _ ?_
              exact ⟨(fun jz => if jz = 121 then .slice (some ⟨xb, 0, none⟩) R Cb else if jz = 122 then .int .i64 (a : Int) else if jz = 123 then .pointer (some ⟨xb, a, none⟩) else v jz), rfl, ⟨(fun h => hR.st (upd_false h)), hR.s1.keepM rfl (fun h hx => h (upd_false hx)), hR.s2.keep rfl, (fun _ j hj => upd_on (hw j hj)), hR.w7.keepM rfl (fun h j hj => upd_on (h j hj)), hR.w10.keepM rfl (fun h j hj => upd_on (h j hj)), hR.w11.keepM rfl (fun h j hj => upd_on (h j hj)), hR.w12.keepM rfl (fun h j hj => upd_on (h j hj)), hR.w13.keepM rfl (fun h j hj => upd_on (h j hj)), hR.w14.keepM rfl (fun h j hj => upd_on (h j hj)), hR.w15.keepM rfl (fun h j hj => upd_on (h j hj)), hR.f0.keep rfl, hR.f1.keep rfl, hR.f2.keep rfl, hR.f3.keep rfl, (fun _ => rfl), (fun _ => rfl), (fun _ => rfl), hR.f7.keep rfl, hR.f8.keep rfl, hR.f9.keep rfl, hR.f10.keep rfl, hR.f11.keep rfl, hR.f12.keep rfl, hR.f14.keep rfl⟩⟩
            refine EachOf.cons [6] rfl (by kernel_rfl) ?_ ?_
            · rintro L A W ⟨v, rfl, hR⟩ hi hw K hK
              have hk : L 13 = false := hR.w13.not hi rfl
              have e6 := hR.f6 (hw 6 (by simp))
              simp only [e6]
              clear e6
              have q0 := HG.out.top a (by omega)
              have q1 := (hR.st hk).cell (p := ⟨xb, a, none⟩) HG.out.hb
              rw [q0] at q1
              go_simp
              refine hK.out _ _ ?_
              exact ⟨(fun jz => if jz = 123 then .pointer (some ⟨xb, a, none⟩) else if jz = 124 then .slice (some ⟨G a, 0, none⟩) n (C a) else v jz), rfl, ⟨(fun h => hR.st (upd_false h)), hR.s1.keepM rfl (fun h hx => h (upd_false hx)), hR.s2.keep rfl, hR.w6.keepM rfl (fun h j hj => upd_on (h j hj)), (fun _ j hj => upd_on (hw j hj)), hR.w10.keepM rfl (fun h j hj => upd_on (h j hj)), hR.w11.keepM rfl (fun h j hj => upd_on (h j hj)), hR.w12.keepM rfl (fun h j hj => upd_on (h j hj)), hR.w13.keepM rfl (fun h j hj => upd_on (h j hj)), hR.w14.keepM rfl (fun h j hj => upd_on (h j hj)), hR.w15.keepM rfl (fun h j hj => upd_on (h j hj)), hR.f0.keep rfl, hR.f1.keep rfl, hR.f2.keep rfl, hR.f3.keep rfl, hR.f4.keep rfl, hR.f5.keep rfl, (fun _ => rfl), (fun _ => rfl), hR.f8.keep rfl, hR.f9.keep rfl, hR.f10.keep rfl, hR.f11.keep rfl, hR.f12.keep rfl, hR.f14.keep rfl⟩⟩
            refine EachOf.cons [] rfl (by kernel_rfl) ?_ ?_
            · rintro L A W ⟨v, rfl, hR⟩ hi hw K hK
              have hk : L 13 = false := hR.w13.not (hR.w11.not (hR.w10.not hi rfl) rfl) rfl
              go_simp
              refine hK.out _ _ ?_
              exact ⟨(fun jz => if jz = 125 then .slice (some ⟨xb, 0, none⟩) R Cb else v jz), rfl, ⟨(fun h => hR.st (upd_false h)), hR.s1.keepM rfl (fun h hx => h (upd_false hx)), hR.s2.keep rfl, hR.w6.keepM rfl (fun h j hj => upd_on (h j hj)), hR.w7.keepM rfl (fun h j hj => upd_on (h j hj)), hR.w10.keepM rfl (fun h j hj => upd_on (h j hj)), hR.w11.keepM rfl (fun h j hj => upd_on (h j hj)), hR.w12.keepM rfl (fun h j hj => upd_on (h j hj)), hR.w13.keepM rfl (fun h j hj => upd_on (h j hj)), hR.w14.keepM rfl (fun h j hj => upd_on (h j hj)), hR.w15.keepM rfl (fun h j hj => upd_on (h j hj)), hR.f0.keep rfl, hR.f1.keep rfl, hR.f2.keep rfl, hR.f3.keep rfl, hR.f4.keep rfl, hR.f5.keep rfl, hR.f6.keep rfl, hR.f7.keep rfl, (fun _ => rfl), hR.f9.keep rfl, hR.f10.keep rfl, hR.f11.keep rfl, hR.f12.keep rfl, hR.f14.keep rfl⟩⟩
            refine EachOf.cons [] rfl (by kernel_rfl) ?_ ?_
            · rintro L A W ⟨v, rfl, hR⟩ hi hw K hK
              have hk : L 13 = false := hR.w13.not (hR.w11.not (hR.w10.not hi rfl) rfl) rfl
              go_simp
              refine hK.out _ _ ?_
              exact ⟨(fun jz => if jz = 126 then .int .i64 (a : Int) else v jz), rfl, ⟨(fun h => hR.st (upd_false h)), hR.s1.keepM rfl (fun h hx => h (upd_false hx)), hR.s2.keep rfl, hR.w6.keepM rfl (fun h j hj => upd_on (h j hj)), hR.w7.keepM rfl (fun h j hj => upd_on (h j hj)), hR.w10.keepM rfl (fun h j hj => upd_on (h j hj)), hR.w11.keepM rfl (fun h j hj => upd_on (h j hj)), hR.w12.keepM rfl (fun h j hj => upd_on (h j hj)), hR.w13.keepM rfl (fun h j hj => upd_on (h j hj)), hR.w14.keepM rfl (fun h j hj => upd_on (h j hj)), hR.w15.keepM rfl (fun h j hj => upd_on (h j hj)), hR.f0.keep rfl, hR.f1.keep rfl, hR.f2.keep rfl, hR.f3.keep rfl, hR.f4.keep rfl, hR.f5.keep rfl, hR.f6.keep rfl, hR.f7.keep rfl, hR.f8.keep rfl, (fun _ => rfl), hR.f10.keep rfl, hR.f11.keep rfl, hR.f12.keep rfl, hR.f14.keep rfl⟩⟩
            refine EachOf.cons [8, 9] rfl (by kernel_rfl) ?_ ?_
            · rintro L A W ⟨v, rfl, hR⟩ hi hw K hK
              have hk : L 13 = false := hR.w13.not (hR.w11.not hi rfl) rfl
              have e8 := hR.f8 (hw 8 (by simp))
              have e9 := hR.f9 (hw 9 (by simp))
              simp only [e8, e9]
              clear e8 e9
              go_simp
              refine hK.out _ _ ?_
              exact ⟨(fun jz => if jz = 125 then .slice (some ⟨xb, 0, none⟩) R Cb else if jz = 126 then .int .i64 (a : Int) else if jz = 127 then .pointer (some ⟨xb, a, none⟩) else v jz), rfl, ⟨(fun h => hR.st (upd_false h)), hR.s1.keepM rfl (fun h hx => h (upd_false hx)), hR.s2.keep rfl, hR.w6.keepM rfl (fun h j hj => upd_on (h j hj)), hR.w7.keepM rfl (fun h j hj => upd_on (h j hj)), (fun _ j hj => upd_on (hw j hj)), hR.w11.keepM rfl (fun h j hj => upd_on (h j hj)), hR.w12.keepM rfl (fun h j hj => upd_on (h j hj)), hR.w13.keepM rfl (fun h j hj => upd_on (h j hj)), hR.w14.keepM rfl (fun h j hj => upd_on (h j hj)), hR.w15.keepM rfl (fun h j hj => upd_on (h j hj)), hR.f0.keep rfl, hR.f1.keep rfl, hR.f2.keep rfl, hR.f3.keep rfl, hR.f4.keep rfl, hR.f5.keep rfl, hR.f6.keep rfl, hR.f7.keep rfl, (fun _ => rfl), (fun _ => rfl), (fun _ => rfl), hR.f11.keep rfl, hR.f12.keep rfl, hR.f14.keep rfl⟩⟩
            refine EachOf.cons [10] rfl (by kernel_rfl) ?_ ?_
            · rintro L A W ⟨v, rfl, hR⟩ hi hw K hK
              have hk : L 13 = false := hR.w13.not hi rfl
              have e10 := hR.f10 (hw 10 (by simp))
              simp only [e10]
              clear e10
              have q0 := HG.out.top a (by omega)
              have q1 := (hR.st hk).cell (p := ⟨xb, a, none⟩) HG.out.hb
              rw [q0] at q1
              go_simp
              refine hK.out _ _ ?_
              exact ⟨(fun jz => if jz = 127 then .pointer (some ⟨xb, a, none⟩) else if jz = 128 then .slice (some ⟨G a, 0, none⟩) n (C a) else v jz), rfl, ⟨(fun h => hR.st (upd_false h)), hR.s1.keepM rfl (fun h hx => h (upd_false hx)), hR.s2.keep rfl, hR.w6.keepM rfl (fun h j hj => upd_on (h j hj)), hR.w7.keepM rfl (fun h j hj => upd_on (h j hj)), hR.w10.keepM rfl (fun h j hj => upd_on (h j hj)), (fun _ j hj => upd_on (hw j hj)), hR.w12.keepM rfl (fun h j hj => upd_on (h j hj)), hR.w13.keepM rfl (fun h j hj => upd_on (h j hj)), hR.w14.keepM rfl (fun h j hj => upd_on (h j hj)), hR.w15.keepM rfl (fun h j hj => upd_on (h j hj)), hR.f0.keep rfl, hR.f1.keep rfl, hR.f2.keep rfl, hR.f3.keep rfl, hR.f4.keep rfl, hR.f5.keep rfl, hR.f6.keep rfl, hR.f7.keep rfl, hR.f8.keep rfl, hR.f9.keep rfl, (fun _ => rfl), (fun _ => rfl), hR.f12.keep rfl, hR.f14.keep rfl⟩⟩
            refine EachOf.cons [0, 1] rfl (by kernel_rfl) ?_ ?_
            · rintro L A W ⟨v, rfl, hR⟩ hi hw K hK
              have hk : L 13 = false := hR.w13.not hi rfl
              have e0 := hR.f0 (hw 0 (by simp))
              have e1 := hR.f1 (hw 1 (by simp))
              simp only [e0, e1]
              clear e0 e1
              go_simp
              refine hK.out _ _ ?_
              exact ⟨(fun jz => if jz = 117 then .slice (some ⟨xb, 0, none⟩) R Cb else if jz = 118 then .int .i64 (a : Int) else if jz = 129 then .pointer (some ⟨xb, a, none⟩) else v jz), rfl, ⟨(fun h => hR.st (upd_false h)), hR.s1.keepM rfl (fun h hx => h (upd_false hx)), hR.s2.keep rfl, hR.w6.keepM rfl (fun h j hj => upd_on (h j hj)), hR.w7.keepM rfl (fun h j hj => upd_on (h j hj)), hR.w10.keepM rfl (fun h j hj => upd_on (h j hj)), hR.w11.keepM rfl (fun h j hj => upd_on (h j hj)), (fun _ j hj => upd_on (hw j hj)), hR.w13.keepM rfl (fun h j hj => upd_on (h j hj)), hR.w14.keepM rfl (fun h j hj => upd_on (h j hj)), hR.w15.keepM rfl (fun h j hj => upd_on (h j hj)), (fun _ => rfl), (fun _ => rfl), hR.f2.keep rfl, hR.f3.keep rfl, hR.f4.keep rfl, hR.f5.keep rfl, hR.f6.keep rfl, hR.f7.keep rfl, hR.f8.keep rfl, hR.f9.keep rfl, hR.f10.keep rfl, hR.f11.keep rfl, (fun _ => rfl), hR.f14.keep rfl⟩⟩
            refine EachOf.cons [0, 1, 4, 5, 6, 7, 11, 12] rfl (by kernel_rfl) ?_ ?_
            · rintro L A W ⟨v, rfl, hR⟩ hi hw K hK
              have e12 := hR.f12 (hw 12 (by simp))
              have e7 := hR.f7 (hw 7 (by simp))
              simp only [e12, e7]
              clear e12 e7
              have hk2 : L 15 = false := hR.w15.not hi rfl
              have q1 := (hR.st hi).cell (p := ⟨xb, a, none⟩) HG.out.hb
              rw [HG.out.top a (by omega)] at q1
              have q2 := (hR.st hi).frozen (p := ⟨xb, a, none⟩) HG.out.hb
              rw [HG.out.tfz a (by omega)] at q2
              go_simp
              refine hK.out _ _ ?_
              exact ⟨(fun jz => if jz = 129 then .pointer (some ⟨xb, a, none⟩) else if jz = 124 then .slice (some ⟨G a, 0, none⟩) n (C a) else v jz), rfl, ⟨(fun h => by simp [upd_self] at h), (fun _ _ => ⟨W, hR.st hi, rfl⟩), (fun h => absurd (upd_back h rfl) (by simp [hk2])), hR.w6.keepM rfl (fun h j hj => upd_on (h j hj)), hR.w7.keepM rfl (fun h j hj => upd_on (h j hj)), hR.w10.keepM rfl (fun h j hj => upd_on (h j hj)), hR.w11.keepM rfl (fun h j hj => upd_on (h j hj)), hR.w12.keepM rfl (fun h j hj => upd_on (h j hj)), (fun _ j hj => upd_on (hw j hj)), hR.w14.keepM rfl (fun h j hj => upd_on (h j hj)), hR.w15.keepM rfl (fun h j hj => upd_on (h j hj)), hR.f0.keep rfl, hR.f1.keep rfl, hR.f2.keep rfl, hR.f3.keep rfl, hR.f4.keep rfl, hR.f5.keep rfl, hR.f6.keep rfl, (fun _ => rfl), hR.f8.keep rfl, hR.f9.keep rfl, hR.f10.keep rfl, hR.f11.keep rfl, (fun _ => rfl), hR.f14.keep rfl⟩⟩
            refine EachOf.cons [0, 1, 2, 3, 4, 5, 6, 7, 8, 9, 10, 11, 12, 13] rfl (by kernel_rfl) ?_ ?_
            · rintro L A W ⟨v, rfl, hR⟩ hi hw K hK
              have e2 := hR.f2 (hw 2 (by simp))
              have e3 := hR.f3 (hw 3 (by simp))
              simp only [e2, e3]
              clear e2 e3
              have hk2 : L 15 = false := hR.w15.not hi rfl
              go_simp
              refine hK.out _ _ ?_
              exact ⟨(fun jz => if jz = 119 then .slice (some ⟨xb, 0, none⟩) R Cb else if jz = 120 then .int .i64 (a : Int) else if jz = 130 then .pointer (some ⟨xb, a, none⟩) else v jz), rfl, ⟨(fun h => absurd (hw 13 (by simp)) (by simp [upd_false h])), hR.s1.keepM rfl (fun h hx => h (upd_false hx)), (fun h => absurd (upd_back h rfl) (by simp [hk2])), hR.w6.keepM rfl (fun h j hj => upd_on (h j hj)), hR.w7.keepM rfl (fun h j hj => upd_on (h j hj)), hR.w10.keepM rfl (fun h j hj => upd_on (h j hj)), hR.w11.keepM rfl (fun h j hj => upd_on (h j hj)), hR.w12.keepM rfl (fun h j hj => upd_on (h j hj)), hR.w13.keepM rfl (fun h j hj => upd_on (h j hj)), (fun _ j hj => upd_on (hw j hj)), hR.w15.keepM rfl (fun h j hj => upd_on (h j hj)), hR.f0.keep rfl, hR.f1.keep rfl, (fun _ => rfl), (fun _ => rfl), hR.f4.keep rfl, hR.f5.keep rfl, hR.f6.keep rfl, hR.f7.keep rfl, hR.f8.keep rfl, hR.f9.keep rfl, hR.f10.keep rfl, hR.f11.keep rfl, hR.f12.keep rfl, (fun _ => rfl)⟩⟩
            refine EachOf.cons [0, 1, 2, 3, 4, 5, 6, 7, 8, 9, 10, 11, 12, 13, 14] rfl (by kernel_rfl) ?_ ?_
            · rintro L A W ⟨v, rfl, hR⟩ hi hw K hK
              have e14 := hR.f14 (hw 14 (by simp))
              have e11 := hR.f11 (hw 11 (by simp))
              simp only [e14, e11]
              clear e14 e11
              obtain ⟨W2, hb2, hW⟩ := hR.s1 (hw 13 (by simp)) hi
              have q1 := hb2.cell (p := ⟨xb, a, none⟩) HG.out.hb
              rw [HG.out.top a (by omega)] at q1
              have q2 := hb2.frozen (p := ⟨xb, a, none⟩) HG.out.hb
              rw [HG.out.tfz a (by omega)] at q2
              have q3 : W.cell? ⟨xb, a, none⟩ = some (.slice (some ⟨G a, 0, none⟩) n (C a)) := by rw [hW]; exact World.cell?_setCell_same' _ _ _ (by rw [q1]; rfl)
              have q4 : W.frozen? ⟨xb, a, none⟩ = false := by rw [hW]; simpa using q2
              clear q1 q2
              have HW := Lib.hid hW
              clear hW
              go_simp
              refine hK.out _ _ ?_
              exact ⟨(fun jz => if jz = 130 then .pointer (some ⟨xb, a, none⟩) else if jz = 128 then .slice (some ⟨G a, 0, none⟩) n (C a) else v jz), rfl, ⟨(fun h => absurd (hw 13 (by simp)) (by simp [upd_false h])), (fun _ h => by simp [upd_self] at h), (fun _ => ⟨W2, hb2, by rw [HW.out]⟩), hR.w6.keepM rfl (fun h j hj => upd_on (h j hj)), hR.w7.keepM rfl (fun h j hj => upd_on (h j hj)), hR.w10.keepM rfl (fun h j hj => upd_on (h j hj)), hR.w11.keepM rfl (fun h j hj => upd_on (h j hj)), hR.w12.keepM rfl (fun h j hj => upd_on (h j hj)), hR.w13.keepM rfl (fun h j hj => upd_on (h j hj)), hR.w14.keepM rfl (fun h j hj => upd_on (h j hj)), (fun _ j hj => upd_on (hw j hj)), hR.f0.keep rfl, hR.f1.keep rfl, hR.f2.keep rfl, hR.f3.keep rfl, hR.f4.keep rfl, hR.f5.keep rfl, hR.f6.keep rfl, hR.f7.keep rfl, hR.f8.keep rfl, hR.f9.keep rfl, hR.f10.keep rfl, (fun _ => rfl), hR.f12.keep rfl, (fun _ => rfl)⟩⟩
            exact EachOf.nil
          rintro L A W ⟨v, rfl, hR2⟩ hL
          obtain ⟨W5, hb5, hW⟩ := hR2.s2 (hL 15 (by simp))
          have g5 := HG.out.on hb5
          have g6 := (g5.retop a la).retop a la
          rw [← hW] at g6
          have HB5 : Hid (Below w.heap.size w W) := by
            show Below w.heap.size w W
            rw [hW]
            exact ((below_on HB9.out hb5).setCell HLB.out _).setCell HLB.out _
          have hex : ∃ G' C' B', Grid B' W xb R n G' C' (swE a a Z) := ⟨G, C, _, by rw [swE_self]; exact g6⟩
          obtain ⟨G', C', B', hgx⟩ := hex
          have HGX := Lib.hid hgx
          clear g5 g6 hW hb5 W5 hR2 hL HG HB9 hgx
          have GX := Lib.hid HGX.out
          have HVX : Hid (vMP R (fun _ => n) (swE a a Z)) := HVS.out a a la la
          have CRX := fun W hb => Lib.hid (Rank_ok (some ⟨xb, 0, none⟩) R Cb (fun i => some ⟨G' i, 0, none⟩) (fun _ => n) C' (swE a a Z) W n rfl ((GX.out.on hb).amat (by omega)) HVX.out)
          have CDX := fun W hb => Lib.hid (Det_all (some ⟨xb, 0, none⟩) R Cb (fun i => some ⟨G' i, 0, none⟩) (fun _ => n) C' (swE a a Z) W n rfl ((GX.out.on hb).amat (by omega)) HVX.out)
          have CDM := fun W h => Lib.hid (Det_all (some ⟨mb, mo, none⟩) R mc Ra Ln Ka Z W n HN.out h HV.out)
          clear HGX
          go_wp2_with fail
          (with_reducible refine (((CRX _ (Below.refl _ _)).out).mono ?_))
          rintro e W6 ⟨hb6, k6, p6, E6, D6, hF6, rfl⟩
          have HK6 := Lib.hid hb6
          have HB6 := Lib.hid (below_on HB5.out hb6)
          have ek6 := (hF6.w.uniq HF.out.w (swE_rows (n := n) a a la la Z).2 (swE_rows (n := n) a a la la Z).1).1
          subst ek6
          clear hb6 hF6
          go_wp2_with fail
          (with_reducible refine (((CDM _ (HM.out.on HB6.out)).out).mono ?_))
          rintro e W7 ⟨hb7, c, er, rfl, hD⟩
          have HK7 := Lib.hid (below_on HK6.out hb7)
          have HB7 := Lib.hid (below_on HB6.out hb7)
          have HD := Lib.hid hD
          clear hb7 hD
          go_wp2_with fail
          (with_reducible refine (((CDX _ HK7.out).out).mono ?_))
          rintro e W8 ⟨hb8, d, er2, rfl, hD⟩
          have HB8 := Lib.hid (below_on HB7.out hb8)
          obtain ⟨e1, e2, e3⟩ := HD.out.exch la la hD
          subst e1
          have herr : er2 = er2 := rfl
          have ev := e2 rfl
          subst ev
          clear hb8 hD CRX CDX CDM GX HVX
          go_wp2_with fail
          go_ret
          exact ⟨rfl, HB8.out⟩
        · have hab2 : ¬ ((a : Int) = (b : Int)) := by omega
          have hne : a ≠ b := hab
          have hab4 : Hid (((a : Int) != (b : Int)) = true) := bne_iff_ne.2 hab2
          go_upto_region 17 with fail
          refine wp_region_each (fun L A W => ∃ (v : Nat → Value), A = ⟨#[_, _, _, _, _, _, _, _, _, _, _, _, _, _, _, _, _, _, _, _, _, _, _, _, _, _, _, _, _, _, _, _, _, _, _, _, _, _, _, _, _, _, _, _, _, _, _, _, _, _, _, _, _, _, _, _, _, _, _, _, _, _, _, _, _, _, _, _, _, _, _, _, _, _, _, _, _, _, _, _, _, _, _, _, _, _, _, _, _, _, _, _, _, _, _, _, _, _, _, _, _, _, _, _, _, _, _, _, _, _, _, _, _, _, _, _, _, v 117, v 118, v 119, v 120, v 121, v 122, v 123, v 124, v 125, v 126, v 127, v 128, v 129, v 130, _, _, _, _, _, _, _, _, _, _, _, _, _, _, _, _, _, _, _, _, _, _, _, _, _, _, _, _, _, _, _, _, _, _, _, _, _, _, _, _, _, _, _, _, _, _], []⟩ ∧ TSwR xb R n Cb a b G C W4 L v W) (by kernel_rfl) (by kernel_rfl) ⟨fun jz => if jz = 117 then u117 else if jz = 118 then u118 else if jz = 119 then u119 else if jz = 120 then u120 else if jz = 121 then u121 else if jz = 122 then u122 else if jz = 123 then u123 else if jz = 124 then u124 else if jz = 125 then u125 else if jz = 126 then u126 else if jz = 127 then u127 else if jz = 128 then u128 else if jz = 129 then u129 else if jz = 130 then u130 else undef, rfl, ⟨(fun _ => Below.drew (Below.refl _ _)), Had.none, Had.none, Had.none, Had.none, Had.none, Had.none, Had.none, Had.none, Had.none, Had.none, Had.none, Had.none, Had.none, Had.none, Had.none, Had.none, Had.none, Had.none, Had.none, Had.none, Had.none, Had.none, Had.none, Had.none⟩⟩ (rs := [0, 1, 2, 3, 4, 5, 6, 7, 8, 9, 10, 11, 12, 13, 14, 15]) (by kernel_rfl) ?_ ?_
          · refine EachOf.cons [] rfl (by kernel_rfl) ?_ ?_
            · rintro L A W ⟨v, rfl, hR⟩ hi hw K hK
              have hk : L 13 = false := hR.w13.not hi rfl
              go_simp
              refine hK.out _ _ ?_
              exact ⟨(fun jz => if jz = 117 then .slice (some ⟨xb, 0, none⟩) R Cb else v jz), rfl, ⟨(fun h => hR.st (upd_false h)), hR.s1.keepM rfl (fun h hx => h (upd_false hx)), hR.s2.keep rfl, hR.w6.keepM rfl (fun h j hj => upd_on (h j hj)), hR.w7.keepM rfl (fun h j hj => upd_on (h j hj)), hR.w10.keepM rfl (fun h j hj => upd_on (h j hj)), hR.w11.keepM rfl (fun h j hj => upd_on (h j hj)), hR.w12.keepM rfl (fun h j hj => upd_on (h j hj)), hR.w13.keepM rfl (fun h j hj => upd_on (h j hj)), hR.w14.keepM rfl (fun h j hj => upd_on (h j hj)), hR.w15.keepM rfl (fun h j hj => upd_on (h j hj)), (fun _ => rfl), hR.f1.keep rfl, hR.f2.keep rfl, hR.f3.keep rfl, hR.f4.keep rfl, hR.f5.keep rfl, hR.f6.keep rfl, hR.f7.keep rfl, hR.f8.keep rfl, hR.f9.keep rfl, hR.f10.keep rfl, hR.f11.keep rfl, hR.f12.keep rfl, hR.f14.keep rfl⟩⟩
            refine EachOf.cons [] rfl (by kernel_rfl) ?_ ?_
            · rintro L A W ⟨v, rfl, hR⟩ hi hw K hK
              have hk : L 13 = false := hR.w13.not hi rfl
              go_simp
              refine hK.out _ _ ?_
              exact ⟨(fun jz => if jz = 118 then .int .i64 (a : Int) else v jz), rfl, ⟨(fun h => hR.st (upd_false h)), hR.s1.keepM rfl (fun h hx => h (upd_false hx)), hR.s2.keep rfl, hR.w6.keepM rfl (fun h j hj => upd_on (h j hj)), hR.w7.keepM rfl (fun h j hj => upd_on (h j hj)), hR.w10.keepM rfl (fun h j hj => upd_on (h j hj)), hR.w11.keepM rfl (fun h j hj => upd_on (h j hj)), hR.w12.keepM rfl (fun h j hj => upd_on (h j hj)), hR.w13.keepM rfl (fun h j hj => upd_on (h j hj)), hR.w14.keepM rfl (fun h j hj => upd_on (h j hj)), hR.w15.keepM rfl (fun h j hj => upd_on (h j hj)), hR.f0.keep rfl, (fun _ => rfl), hR.f2.keep rfl, hR.f3.keep rfl, hR.f4.keep rfl, hR.f5.keep rfl, hR.f6.keep rfl, hR.f7.keep rfl, hR.f8.keep rfl, hR.f9.keep rfl, hR.f10.keep rfl, hR.f11.keep rfl, hR.f12.keep rfl, hR.f14.keep rfl⟩⟩
            refine EachOf.cons [] rfl (by kernel_rfl) ?_ ?_
            · rintro L A W ⟨v, rfl, hR⟩ hi hw K hK
              go_simp
              refine hK.out _ _ ?_
              exact ⟨(fun jz => if jz = 119 then .slice (some ⟨xb, 0, none⟩) R Cb else v jz), rfl, ⟨(fun h => hR.st (upd_false h)), hR.s1.keepM rfl (fun h hx => h (upd_false hx)), hR.s2.keep rfl, hR.w6.keepM rfl (fun h j hj => upd_on (h j hj)), hR.w7.keepM rfl (fun h j hj => upd_on (h j hj)), hR.w10.keepM rfl (fun h j hj => upd_on (h j hj)), hR.w11.keepM rfl (fun h j hj => upd_on (h j hj)), hR.w12.keepM rfl (fun h j hj => upd_on (h j hj)), hR.w13.keepM rfl (fun h j hj => upd_on (h j hj)), hR.w14.keepM rfl (fun h j hj => upd_on (h j hj)), hR.w15.keepM rfl (fun h j hj => upd_on (h j hj)), hR.f0.keep rfl, hR.f1.keep rfl, (fun _ => rfl), hR.f3.keep rfl, hR.f4.keep rfl, hR.f5.keep rfl, hR.f6.keep rfl, hR.f7.keep rfl, hR.f8.keep rfl, hR.f9.keep rfl, hR.f10.keep rfl, hR.f11.keep rfl, hR.f12.keep rfl, hR.f14.keep rfl⟩⟩
            refine EachOf.cons [] rfl (by kernel_rfl) ?_ ?_
            · rintro L A W ⟨v, rfl, hR⟩ hi hw K hK
              go_simp
              refine hK.out _ _ ?_
              exact ⟨(fun jz => if jz = 120 then .int .i64 (b : Int) else v jz), rfl, ⟨(fun h => hR.st (upd_false h)), hR.s1.keepM rfl (fun h hx => h (upd_false hx)), hR.s2.keep rfl, hR.w6.keepM rfl (fun h j hj => upd_on (h j hj)), hR.w7.keepM rfl (fun h j hj => upd_on (h j hj)), hR.w10.keepM rfl (fun h j hj => upd_on (h j hj)), hR.w11.keepM rfl (fun h j hj => upd_on (h j hj)), hR.w12.keepM rfl (fun h j hj => upd_on (h j hj)), hR.w13.keepM rfl (fun h j hj => upd_on (h j hj)), hR.w14.keepM rfl (fun h j hj => upd_on (h j hj)), hR.w15.keepM rfl (fun h j hj => upd_on (h j hj)), hR.f0.keep rfl, hR.f1.keep rfl, hR.f2.keep rfl, (fun _ => rfl), hR.f4.keep rfl, hR.f5.keep rfl, hR.f6.keep rfl, hR.f7.keep rfl, hR.f8.keep rfl, hR.f9.keep rfl, hR.f10.keep rfl, hR.f11.keep rfl, hR.f12.keep rfl, hR.f14.keep rfl⟩⟩
            refine EachOf.cons [] rfl (by kernel_rfl) ?_ ?_
            · rintro L A W ⟨v, rfl, hR⟩ hi hw K hK
              have hk : L 13 = false := hR.w13.not hi rfl
              go_simp
              refine hK.out _ _ ?_
              exact ⟨(fun jz => if jz = 121 then .slice (some ⟨xb, 0, none⟩) R Cb else v jz), rfl, ⟨(fun h => hR.st (upd_false h)), hR.s1.keepM rfl (fun h hx => h (upd_false hx)), hR.s2.keep rfl, hR.w6.keepM rfl (fun h j hj => upd_on (h j hj)), hR.w7.keepM rfl (fun h j hj => upd_on (h j hj)), hR.w10.keepM rfl (fun h j hj => upd_on (h j hj)), hR.w11.keepM rfl (fun h j hj => upd_on (h j hj)), hR.w12.keepM rfl (fun h j hj => upd_on (h j hj)), hR.w13.keepM rfl (fun h j hj => upd_on (h j hj)), hR.w14.keepM rfl (fun h j hj => upd_on (h j hj)), hR.w15.keepM rfl (fun h j hj => upd_on (h j hj)), hR.f0.keep rfl, hR.f1.keep rfl, hR.f2.keep rfl, hR.f3.keep rfl, (fun _ => rfl), hR.f5.keep rfl, hR.f6.keep rfl, hR.f7.keep rfl, hR.f8.keep rfl, hR.f9.keep rfl, hR.f10.keep rfl, hR.f11.keep rfl, hR.f12.keep rfl, hR.f14.keep rfl⟩⟩
            refine EachOf.cons [] rfl (by kernel_rfl) ?_ ?_
            · rintro L A W ⟨v, rfl, hR⟩ hi hw K hK
              have hk : L 13 = false := hR.w13.not hi rfl
              go_simp
              refine hK.out _ _ ?_
              exact ⟨(fun jz => if jz = 122 then .int .i64 (b : Int) else v jz), rfl, ⟨(fun h => hR.st (upd_false h)), hR.s1.keepM rfl (fun h hx => h (upd_false hx)), hR.s2.keep rfl, hR.w6.keepM rfl (fun h j hj => upd_on (h j hj)), hR.w7.keepM rfl (fun h j hj => upd_on (h j hj)), hR.w10.keepM rfl (fun h j hj => upd_on (h j hj)), hR.w11.keepM rfl (fun h j hj => upd_on (h j hj)), hR.w12.keepM rfl (fun h j hj => upd_on (h j hj)), hR.w13.keepM rfl (fun h j hj => upd_on (h j hj)), hR.w14.keepM rfl (fun h j hj => upd_on (h j hj)), hR.w15.keepM rfl (fun h j hj => upd_on (h j hj)), hR.f0.keep rfl, hR.f1.keep rfl, hR.f2.keep rfl, hR.f3.keep rfl, hR.f4.keep rfl, (fun _ => rfl), hR.f6.keep rfl, hR.f7.keep rfl, hR.f8.keep rfl, hR.f9.keep rfl, hR.f10.keep rfl, hR.f11.keep rfl, hR.f12.keep rfl, hR.f14.keep rfl⟩⟩
            refine EachOf.cons [4, 5] rfl (by kernel_rfl) ?_ ?_
            · rintro L A W ⟨v, rfl, hR⟩ hi hw K hK
              have hk : L 13 = false := hR.w13.not hi rfl
              have e4 := hR.f4 (hw 4 (by simp))
              have e5 := hR.f5 (hw 5 (by simp))
              simp only [e4, e5]
              clear e4 e5
              go_simp
              refine hK.out _ _ ?_
              exact ⟨(fun jz => if jz = 121 then .slice (some ⟨xb, 0, none⟩) R Cb else if jz = 122 then .int .i64 (b : Int) else if jz = 123 then .pointer (some ⟨xb, b, none⟩) else v jz), rfl, ⟨(fun h => hR.st (upd_false h)), hR.s1.keepM rfl (fun h hx => h (upd_false hx)), hR.s2.keep rfl, (fun _ j hj => upd_on (hw j hj)), hR.w7.keepM rfl (fun h j hj => upd_on (h j hj)), hR.w10.keepM rfl (fun h j hj => upd_on (h j hj)), hR.w11.keepM rfl (fun h j hj => upd_on (h j hj)), hR.w12.keepM rfl (fun h j hj => upd_on (h j hj)), hR.w13.keepM rfl (fun h j hj => upd_on (h j hj)), hR.w14.keepM rfl (fun h j hj => upd_on (h j hj)), hR.w15.keepM rfl (fun h j hj => upd_on (h j hj)), hR.f0.keep rfl, hR.f1.keep rfl, hR.f2.keep rfl, hR.f3.keep rfl, (fun _ => rfl), (fun _ => rfl), (fun _ => rfl), hR.f7.keep rfl, hR.f8.keep rfl, hR.f9.keep rfl, hR.f10.keep rfl, hR.f11.keep rfl, hR.f12.keep rfl, hR.f14.keep rfl⟩⟩
            refine EachOf.cons [6] rfl (by kernel_rfl) ?_ ?_
            · rintro L A W ⟨v, rfl, hR⟩ hi hw K hK
              have hk : L 13 = false := hR.w13.not hi rfl
              have e6 := hR.f6 (hw 6 (by simp))
              simp only [e6]
              clear e6
              have q0 := HG.out.top b (by omega)
              have q1 := (hR.st hk).cell (p := ⟨xb, b, none⟩) HG.out.hb
              rw [q0] at q1
              go_simp
              refine hK.out _ _ ?_
              exact ⟨(fun jz => if jz = 123 then .pointer (some ⟨xb, b, none⟩) else if jz = 124 then .slice (some ⟨G b, 0, none⟩) n (C b) else v jz), rfl, ⟨(fun h => hR.st (upd_false h)), hR.s1.keepM rfl (fun h hx => h (upd_false hx)), hR.s2.keep rfl, hR.w6.keepM rfl (fun h j hj => upd_on (h j hj)), (fun _ j hj => upd_on (hw j hj)), hR.w10.keepM rfl (fun h j hj => upd_on (h j hj)), hR.w11.keepM rfl (fun h j hj => upd_on (h j hj)), hR.w12.keepM rfl (fun h j hj => upd_on (h j hj)), hR.w13.keepM rfl (fun h j hj => upd_on (h j hj)), hR.w14.keepM rfl (fun h j hj => upd_on (h j hj)), hR.w15.keepM rfl (fun h j hj => upd_on (h j hj)), hR.f0.keep rfl, hR.f1.keep rfl, hR.f2.keep rfl, hR.f3.keep rfl, hR.f4.keep rfl, hR.f5.keep rfl, (fun _ => rfl), (fun _ => rfl), hR.f8.keep rfl, hR.f9.keep rfl, hR.f10.keep rfl, hR.f11.keep rfl, hR.f12.keep rfl, hR.f14.keep rfl⟩⟩
            refine EachOf.cons [] rfl (by kernel_rfl) ?_ ?_
            · rintro L A W ⟨v, rfl, hR⟩ hi hw K hK
              have hk : L 13 = false := hR.w13.not (hR.w11.not (hR.w10.not hi rfl) rfl) rfl
              go_simp
              refine hK.out _ _ ?_
              exact ⟨(fun jz => if jz = 125 then .slice (some ⟨xb, 0, none⟩) R Cb else v jz), rfl, ⟨(fun h => hR.st (upd_false h)), hR.s1.keepM rfl (fun h hx => h (upd_false hx)), hR.s2.keep rfl, hR.w6.keepM rfl (fun h j hj => upd_on (h j hj)), hR.w7.keepM rfl (fun h j hj => upd_on (h j hj)), hR.w10.keepM rfl (fun h j hj => upd_on (h j hj)), hR.w11.keepM rfl (fun h j hj => upd_on (h j hj)), hR.w12.keepM rfl (fun h j hj => upd_on (h j hj)), hR.w13.keepM rfl (fun h j hj => upd_on (h j hj)), hR.w14.keepM rfl (fun h j hj => upd_on (h j hj)), hR.w15.keepM rfl (fun h j hj => upd_on (h j hj)), hR.f0.keep rfl, hR.f1.keep rfl, hR.f2.keep rfl, hR.f3.keep rfl, hR.f4.keep rfl, hR.f5.keep rfl, hR.f6.keep rfl, hR.f7.keep rfl, (fun _ => rfl), hR.f9.keep rfl, hR.f10.keep rfl, hR.f11.keep rfl, hR.f12.keep rfl, hR.f14.keep rfl⟩⟩
            refine EachOf.cons [] rfl (by kernel_rfl) ?_ ?_
            · rintro L A W ⟨v, rfl, hR⟩ hi hw K hK
              have hk : L 13 = false := hR.w13.not (hR.w11.not (hR.w10.not hi rfl) rfl) rfl
              go_simp
              refine hK.out _ _ ?_
              exact ⟨(fun jz => if jz = 126 then .int .i64 (a : Int) else v jz), rfl, ⟨(fun h => hR.st (upd_false h)), hR.s1.keepM rfl (fun h hx => h (upd_false hx)), hR.s2.keep rfl, hR.w6.keepM rfl (fun h j hj => upd_on (h j hj)), hR.w7.keepM rfl (fun h j hj => upd_on (h j hj)), hR.w10.keepM rfl (fun h j hj => upd_on (h j hj)), hR.w11.keepM rfl (fun h j hj => upd_on (h j hj)), hR.w12.keepM rfl (fun h j hj => upd_on (h j hj)), hR.w13.keepM rfl (fun h j hj => upd_on (h j hj)), hR.w14.keepM rfl (fun h j hj => upd_on (h j hj)), hR.w15.keepM rfl (fun h j hj => upd_on (h j hj)), hR.f0.keep rfl, hR.f1.keep rfl, hR.f2.keep rfl, hR.f3.keep rfl, hR.f4.keep rfl, hR.f5.keep rfl, hR.f6.keep rfl, hR.f7.keep rfl, hR.f8.keep rfl, (fun _ => rfl), hR.f10.keep rfl, hR.f11.keep rfl, hR.f12.keep rfl, hR.f14.keep rfl⟩⟩
            refine EachOf.cons [8, 9] rfl (by kernel_rfl) ?_ ?_
            · rintro L A W ⟨v, rfl, hR⟩ hi hw K hK
              have hk : L 13 = false := hR.w13.not (hR.w11.not hi rfl) rfl
              have e8 := hR.f8 (hw 8 (by simp))
              have e9 := hR.f9 (hw 9 (by simp))
              simp only [e8, e9]
              clear e8 e9
              go_simp
              refine hK.out _ _ ?_
              exact ⟨(fun jz => if jz = 125 then .slice (some ⟨xb, 0, none⟩) R Cb else if jz = 126 then .int .i64 (a : Int) else if jz = 127 then .pointer (some ⟨xb, a, none⟩) else v jz), rfl, ⟨(fun h => hR.st (upd_false h)), hR.s1.keepM rfl (fun h hx => h (upd_false hx)), hR.s2.keep rfl, hR.w6.keepM rfl (fun h j hj => upd_on (h j hj)), hR.w7.keepM rfl (fun h j hj => upd_on (h j hj)), (fun _ j hj => upd_on (hw j hj)), hR.w11.keepM rfl (fun h j hj => upd_on (h j hj)), hR.w12.keepM rfl (fun h j hj => upd_on (h j hj)), hR.w13.keepM rfl (fun h j hj => upd_on (h j hj)), hR.w14.keepM rfl (fun h j hj => upd_on (h j hj)), hR.w15.keepM rfl (fun h j hj => upd_on (h j hj)), hR.f0.keep rfl, hR.f1.keep rfl, hR.f2.keep rfl, hR.f3.keep rfl, hR.f4.keep rfl, hR.f5.keep rfl, hR.f6.keep rfl, hR.f7.keep rfl, (fun _ => rfl), (fun _ => rfl), (fun _ => rfl), hR.f11.keep rfl, hR.f12.keep rfl, hR.f14.keep rfl⟩⟩
            refine EachOf.cons [10] rfl (by kernel_rfl) ?_ ?_
            · rintro L A W ⟨v, rfl, hR⟩ hi hw K hK
              have hk : L 13 = false := hR.w13.not hi rfl
              have e10 := hR.f10 (hw 10 (by simp))
              simp only [e10]
              clear e10
              have q0 := HG.out.top a (by omega)
              have q1 := (hR.st hk).cell (p := ⟨xb, a, none⟩) HG.out.hb
              rw [q0] at q1
              go_simp
              refine hK.out _ _ ?_
              exact ⟨(fun jz => if jz = 127 then .pointer (some ⟨xb, a, none⟩) else if jz = 128 then .slice (some ⟨G a, 0, none⟩) n (C a) else v jz), rfl, ⟨(fun h => hR.st (upd_false h)), hR.s1.keepM rfl (fun h hx => h (upd_false hx)), hR.s2.keep rfl, hR.w6.keepM rfl (fun h j hj => upd_on (h j hj)), hR.w7.keepM rfl (fun h j hj => upd_on (h j hj)), hR.w10.keepM rfl (fun h j hj => upd_on (h j hj)), (fun _ j hj => upd_on (hw j hj)), hR.w12.keepM rfl (fun h j hj => upd_on (h j hj)), hR.w13.keepM rfl (fun h j hj => upd_on (h j hj)), hR.w14.keepM rfl (fun h j hj => upd_on (h j hj)), hR.w15.keepM rfl (fun h j hj => upd_on (h j hj)), hR.f0.keep rfl, hR.f1.keep rfl, hR.f2.keep rfl, hR.f3.keep rfl, hR.f4.keep rfl, hR.f5.keep rfl, hR.f6.keep rfl, hR.f7.keep rfl, hR.f8.keep rfl, hR.f9.keep rfl, (fun _ => rfl), (fun _ => rfl), hR.f12.keep rfl, hR.f14.keep rfl⟩⟩
            refine EachOf.cons [0, 1] rfl (by kernel_rfl) ?_ ?_
            · rintro L A W ⟨v, rfl, hR⟩ hi hw K hK
              have hk : L 13 = false := hR.w13.not hi rfl
              have e0 := hR.f0 (hw 0 (by simp))
              have e1 := hR.f1 (hw 1 (by simp))
              simp only [e0, e1]
              clear e0 e1
              go_simp
              refine hK.out _ _ ?_
              exact ⟨(fun jz => if jz = 117 then .slice (some ⟨xb, 0, none⟩) R Cb else if jz = 118 then .int .i64 (a : Int) else if jz = 129 then .pointer (some ⟨xb, a, none⟩) else v jz), rfl, ⟨(fun h => hR.st (upd_false h)), hR.s1.keepM rfl (fun h hx => h (upd_false hx)), hR.s2.keep rfl, hR.w6.keepM rfl (fun h j hj => upd_on (h j hj)), hR.w7.keepM rfl (fun h j hj => upd_on (h j hj)), hR.w10.keepM rfl (fun h j hj => upd_on (h j hj)), hR.w11.keepM rfl (fun h j hj => upd_on (h j hj)), (fun _ j hj => upd_on (hw j hj)), hR.w13.keepM rfl (fun h j hj => upd_on (h j hj)), hR.w14.keepM rfl (fun h j hj => upd_on (h j hj)), hR.w15.keepM rfl (fun h j hj => upd_on (h j hj)), (fun _ => rfl), (fun _ => rfl), hR.f2.keep rfl, hR.f3.keep rfl, hR.f4.keep rfl, hR.f5.keep rfl, hR.f6.keep rfl, hR.f7.keep rfl, hR.f8.keep rfl, hR.f9.keep rfl, hR.f10.keep rfl, hR.f11.keep rfl, (fun _ => rfl), hR.f14.keep rfl⟩⟩
            refine EachOf.cons [0, 1, 4, 5, 6, 7, 11, 12] rfl (by kernel_rfl) ?_ ?_
            · rintro L A W ⟨v, rfl, hR⟩ hi hw K hK
              have e12 := hR.f12 (hw 12 (by simp))
              have e7 := hR.f7 (hw 7 (by simp))
              simp only [e12, e7]
              clear e12 e7
              have hk2 : L 15 = false := hR.w15.not hi rfl
              have q1 := (hR.st hi).cell (p := ⟨xb, a, none⟩) HG.out.hb
              rw [HG.out.top a (by omega)] at q1
              have q2 := (hR.st hi).frozen (p := ⟨xb, a, none⟩) HG.out.hb
              rw [HG.out.tfz a (by omega)] at q2
              go_simp
              refine hK.out _ _ ?_
              exact ⟨(fun jz => if jz = 129 then .pointer (some ⟨xb, a, none⟩) else if jz = 124 then .slice (some ⟨G b, 0, none⟩) n (C b) else v jz), rfl, ⟨(fun h => by simp [upd_self] at h), (fun _ _ => ⟨W, hR.st hi, rfl⟩), (fun h => absurd (upd_back h rfl) (by simp [hk2])), hR.w6.keepM rfl (fun h j hj => upd_on (h j hj)), hR.w7.keepM rfl (fun h j hj => upd_on (h j hj)), hR.w10.keepM rfl (fun h j hj => upd_on (h j hj)), hR.w11.keepM rfl (fun h j hj => upd_on (h j hj)), hR.w12.keepM rfl (fun h j hj => upd_on (h j hj)), (fun _ j hj => upd_on (hw j hj)), hR.w14.keepM rfl (fun h j hj => upd_on (h j hj)), hR.w15.keepM rfl (fun h j hj => upd_on (h j hj)), hR.f0.keep rfl, hR.f1.keep rfl, hR.f2.keep rfl, hR.f3.keep rfl, hR.f4.keep rfl, hR.f5.keep rfl, hR.f6.keep rfl, (fun _ => rfl), hR.f8.keep rfl, hR.f9.keep rfl, hR.f10.keep rfl, hR.f11.keep rfl, (fun _ => rfl), hR.f14.keep rfl⟩⟩
            refine EachOf.cons [0, 1, 2, 3, 4, 5, 6, 7, 8, 9, 10, 11, 12, 13] rfl (by kernel_rfl) ?_ ?_
            · rintro L A W ⟨v, rfl, hR⟩ hi hw K hK
              have e2 := hR.f2 (hw 2 (by simp))
              have e3 := hR.f3 (hw 3 (by simp))
              simp only [e2, e3]
              clear e2 e3
              have hk2 : L 15 = false := hR.w15.not hi rfl
              go_simp
              refine hK.out _ _ ?_
              exact ⟨(fun jz => if jz = 119 then .slice (some ⟨xb, 0, none⟩) R Cb else if jz = 120 then .int .i64 (b : Int) else if jz = 130 then .pointer (some ⟨xb, b, none⟩) else v jz), rfl, ⟨(fun h => absurd (hw 13 (by simp)) (by simp [upd_false h])), hR.s1.keepM rfl (fun h hx => h (upd_false hx)), (fun h => absurd (upd_back h rfl) (by simp [hk2])), hR.w6.keepM rfl (fun h j hj => upd_on (h j hj)), hR.w7.keepM rfl (fun h j hj => upd_on (h j hj)), hR.w10.keepM rfl (fun h j hj => upd_on (h j hj)), hR.w11.keepM rfl (fun h j hj => upd_on (h j hj)), hR.w12.keepM rfl (fun h j hj => upd_on (h j hj)), hR.w13.keepM rfl (fun h j hj => upd_on (h j hj)), (fun _ j hj => upd_on (hw j hj)), hR.w15.keepM rfl (fun h j hj => upd_on (h j hj)), hR.f0.keep rfl, hR.f1.keep rfl, (fun _ => rfl), (fun _ => rfl), hR.f4.keep rfl, hR.f5.keep rfl, hR.f6.keep rfl, hR.f7.keep rfl, hR.f8.keep rfl, hR.f9.keep rfl, hR.f10.keep rfl, hR.f11.keep rfl, hR.f12.keep rfl, (fun _ => rfl)⟩⟩
            refine EachOf.cons [0, 1, 2, 3, 4, 5, 6, 7, 8, 9, 10, 11, 12, 13, 14] rfl (by kernel_rfl) ?_ ?_
            · rintro L A W ⟨v, rfl, hR⟩ hi hw K hK
              have e14 := hR.f14 (hw 14 (by simp))
              have e11 := hR.f11 (hw 11 (by simp))
              simp only [e14, e11]
              clear e14 e11
              obtain ⟨W2, hb2, hW⟩ := hR.s1 (hw 13 (by simp)) hi
              have q1 := hb2.cell (p := ⟨xb, b, none⟩) HG.out.hb
              rw [HG.out.top b (by omega)] at q1
              have q2 := hb2.frozen (p := ⟨xb, b, none⟩) HG.out.hb
              rw [HG.out.tfz b (by omega)] at q2
              have q3 : W.cell? ⟨xb, b, none⟩ = some (.slice (some ⟨G b, 0, none⟩) n (C b)) := by rw [hW, World.cell?_setCell_other _ _ _ _ (adr_ne (b := xb) (i := a) (j := b) (by omega))]; exact q1
              have q4 : W.frozen? ⟨xb, b, none⟩ = false := by rw [hW]; simpa using q2
              clear q1 q2
              have HW := Lib.hid hW
              clear hW
              go_simp
              refine hK.out _ _ ?_
              exact ⟨(fun jz => if jz = 130 then .pointer (some ⟨xb, b, none⟩) else if jz = 128 then .slice (some ⟨G a, 0, none⟩) n (C a) else v jz), rfl, ⟨(fun h => absurd (hw 13 (by simp)) (by simp [upd_false h])), (fun _ h => by simp [upd_self] at h), (fun _ => ⟨W2, hb2, by rw [HW.out]⟩), hR.w6.keepM rfl (fun h j hj => upd_on (h j hj)), hR.w7.keepM rfl (fun h j hj => upd_on (h j hj)), hR.w10.keepM rfl (fun h j hj => upd_on (h j hj)), hR.w11.keepM rfl (fun h j hj => upd_on (h j hj)), hR.w12.keepM rfl (fun h j hj => upd_on (h j hj)), hR.w13.keepM rfl (fun h j hj => upd_on (h j hj)), hR.w14.keepM rfl (fun h j hj => upd_on (h j hj)), (fun _ j hj => upd_on (hw j hj)), hR.f0.keep rfl, hR.f1.keep rfl, hR.f2.keep rfl, hR.f3.keep rfl, hR.f4.keep rfl, hR.f5.keep rfl, hR.f6.keep rfl, hR.f7.keep rfl, hR.f8.keep rfl, hR.f9.keep rfl, hR.f10.keep rfl, (fun _ => rfl), hR.f12.keep rfl, (fun _ => rfl)⟩⟩
            exact EachOf.nil
          rintro L A W ⟨v, rfl, hR2⟩ hL
          obtain ⟨W5, hb5, hW⟩ := hR2.s2 (hL 15 (by simp))
          have g5 := HG.out.on hb5
          obtain ⟨G', C', g6⟩ := g5.exch a b la lb hab
          rw [← hW] at g6
          have HB5 : Hid (Below w.heap.size w W) := by
            show Below w.heap.size w W
            rw [hW]
            exact ((below_on HB9.out hb5).setCell HLB.out _).setCell HLB.out _
          have HGX := Lib.hid g6
          have HAB := Lib.hid hab
          clear g5 g6 hW hb5 W5 hR2 hL HG HB9 hab
          have GX := Lib.hid HGX.out
          have HVX : Hid (vMP R (fun _ => n) (swE a b Z)) := HVS.out a b la lb
          have CRX := fun W hb => Lib.hid (Rank_ok (some ⟨xb, 0, none⟩) R Cb (fun i => some ⟨G' i, 0, none⟩) (fun _ => n) C' (swE a b Z) W n rfl ((GX.out.on hb).amat (by omega)) HVX.out)
          have CDX := fun W hb => Lib.hid (Det_all (some ⟨xb, 0, none⟩) R Cb (fun i => some ⟨G' i, 0, none⟩) (fun _ => n) C' (swE a b Z) W n rfl ((GX.out.on hb).amat (by omega)) HVX.out)
          have CDM := fun W h => Lib.hid (Det_all (some ⟨mb, mo, none⟩) R mc Ra Ln Ka Z W n HN.out h HV.out)
          clear HGX
          go_wp2_with fail
          (with_reducible refine (((CRX _ (Below.refl _ _)).out).mono ?_))
          rintro e W6 ⟨hb6, k6, p6, E6, D6, hF6, rfl⟩
          have HK6 := Lib.hid hb6
          have HB6 := Lib.hid (below_on HB5.out hb6)
          have ek6 := (hF6.w.uniq HF.out.w (swE_rows (n := n) a b la lb Z).2 (swE_rows (n := n) a b la lb Z).1).1
          subst ek6
          clear hb6 hF6
          go_wp2_with fail
          (with_reducible refine (((CDM _ (HM.out.on HB6.out)).out).mono ?_))
          rintro e W7 ⟨hb7, c, er, rfl, hD⟩
          have HK7 := Lib.hid (below_on HK6.out hb7)
          have HB7 := Lib.hid (below_on HB6.out hb7)
          have HD := Lib.hid hD
          clear hb7 hD
          go_wp2_with fail
          (with_reducible refine (((CDX _ HK7.out).out).mono ?_))
          rintro e W8 ⟨hb8, d, er2, rfl, hD⟩
          have HB8 := Lib.hid (below_on HB7.out hb8)
          obtain ⟨e1, e2, e3⟩ := HD.out.exch la lb hD
          subst e1
          have herr : er2 = er2 := rfl
          have ev := e3 HAB.out
          subst ev
          have wn : IntKind.i64.wrap (-(-c)) = c := by rw [Int.neg_neg]; exact IntWalk.i64_in _ (by have := DetP.bd HD.out; omega)
          have wn2 : IntKind.i64.wrap c = c := IntWalk.i64_in _ (by have := DetP.bd HD.out; omega)
          clear hb8 hD CRX CDX CDM GX HVX
          go_wp2_with fail
          go_ret
          exact ⟨congrArg (fun x => Ending.returned (.bool x)) hab4.out, HB8.out⟩
    · simp only [vM_no hv] at CV0
      have CV := fun W h => Lib.hid (CV0 W h)
      clear CV0 hv
      go_wp2_with fail
      (with_reducible refine (((CV _ (HM.out.on HB2.out)).out).mono ?_))
      rintro e w3 ⟨rfl, hb3⟩
      have HB3 := Lib.hid (below_on HB2.out hb3)
      clear CV hb3 HB2
      go_wp2_with fail
      go_ret
      exact ⟨rfl, HB3.out⟩

end Go.Proofs.Ytjggnmbdgagkoaa
