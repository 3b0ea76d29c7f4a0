/- Layer 10: law ReevingAdds. -/
import Derived.Test.YtcghjjfpjiacfaaDoorKX
namespace Go.Proofs.YtcghjjfpjiacfaaDoor
open Go.ChangeShapes Go.WideShapes Go.ChangeAt Go.RowKit Go.Joins Go.Deep Go.Shelf
set_option linter.unusedVariables false

theorem hld_end {k : Bool} {h : Hld} (hh : hldB k h true = true) : -1 ≤ h.pulls ∧ h.pulls ≤ 1 := by
  unfold hldB plB pulE at hh
  simp only [Bool.and_eq_true] at hh
  have h1 := hh.1
  split at h1
  · have := eq_of_beq h1; omega
  · simp at h1
    omega
theorem pul_mid {kn : ByteArray → Bool} {r : Rop} (hr : RopOk kn r) (x : ByteArray) : ∀ i, 1 ≤ i → i < r.n → -(2 * (i : Int) - 1) ≤ pul r x i ∧ pul r x i ≤ 2 * (i : Int) - 1
  | 0, h, _ => by omega
  | 1, _, h => by
    have := hr.hs 0 (by omega)
    rw [decide_eq_true (Or.inl rfl)] at this
    have := hld_end this
    show -(2 * ((1 : Nat) : Int) - 1) ≤ 0 + _ ∧ 0 + _ ≤ _
    split <;> omega
  | i + 2, _, h => by
    have ih := pul_mid hr x (i + 1) (by omega) (by omega)
    have := hld_pulls (hr.hs (i + 1) (by omega))
    show -(2 * ((i + 2 : Nat) : Int) - 1) ≤ pul r x (i + 1) + _ ∧ pul r x (i + 1) + _ ≤ _
    split <;> omega
theorem mtx_most {s : Sys} (h : SysOk s) (q : Nat) {k : Nat} (hk : k < s.nr) : -(2 * (((s.R k).n : Int) - 2) + 2) ≤ mtx s q k ∧ mtx s q k ≤ 2 * (((s.R k).n : Int) - 2) + 2 := by
  have hr := h.rop k hk
  have h2 := hr.l2
  obtain ⟨m, hm⟩ : ∃ m, (s.R k).n = m + 1 := ⟨(s.R k).n - 1, by omega⟩
  have hmid := pul_mid hr (s.bn q) m (by omega) (by omega)
  have hlast := hr.hs m (by omega)
  rw [decide_eq_true (Or.inr hm.symm)] at hlast
  have hl := hld_end hlast
  unfold mtx
  rw [hm]
  show _ ≤ pul (s.R k) (s.bn q) m + _ ∧ pul (s.R k) (s.bn q) m + _ ≤ _
  split <;> omega
set_option maxHeartbeats 4000000 in
theorem kready_any (s : Sys) (w : World) (hs : s.At w) (hrg : SysRg s) (v : Bool) (hv : v = true ↔ SysSm s ∧ SysOk s) :
    Calls Tryd.prog 33 #[.agg #[.slice s.ba s.nb s.bc, .slice s.ra s.nr s.rc]] w fun e w' => e = .returned (.bool v) ∧ Below w.heap.size w w' := by
  obtain ⟨w1, hw1⟩ : ∃ W, W = w.alloc (Obj.cells #[Value.slice s.ba s.nb s.bc, .slice s.ra s.nr s.rc] 36) := ⟨_, rfl⟩
  obtain ⟨xb, hxb⟩ : ∃ x, x = w.heap.size := ⟨_, rfl⟩
  have hC : C2 w1 xb (.slice s.ba s.nb s.bc) (.slice s.ra s.nr s.rc) := by rw [hw1, hxb]; exact C2.new _ _ _ _
  have hB : Below w.heap.size w w1 := by rw [hw1]; exact (Below.refl _ _).alloc (Nat.le_refl _) _
  have HB := Lib.hid hB
  have c0 := hC.c0
  have c1 := hC.c1
  have HC := Lib.hid hC
  obtain ⟨t1, ht1⟩ := kbool_of (SysSm s)
  obtain ⟨t2, ht2⟩ := kbool_of (SysOk s)
  rw [← ht1, ← ht2] at hv
  have C1 := Lib.hid (rSmall_any s w1 (hs.on hB) t1 ht1)
  cases t1
  · obtain rfl : v = false := by
      cases e : v
      · rfl
      · have := (hv.1 e).1; cases this
    clear hv hs hC hB hrg ht1 ht2
    go_enter Tryd.func33, Tryd.ntmps33
    go_upto_region 1 with fail
    rw [← hxb, ← hw1]
    clear hxb hw1
    go_wp2_with (go_at_call 17; (with_reducible refine (C1.out.mono ?_)); rintro e w2 ⟨rfl, hb2⟩; have H2 := Lib.hid (below_on HB.out hb2); clear hb2)
    go_ret
    exact ⟨rfl, H2.out⟩
  · have C2 : Hid (∀ W, Below w1.heap.size w1 W → Calls Tryd.prog 19 #[.agg #[.slice s.ba s.nb s.bc, .slice s.ra s.nr s.rc]] W fun e w' => e = .returned (.bool t2) ∧ Below W.heap.size W w') := fun W hW => rValid_any s W ((hs.on hB).on hW) (ht1.1 rfl) hrg t2 ht2
    obtain rfl : v = t2 := by
      cases t2
      · cases e : v
        · rfl
        · have := (hv.1 e).2; cases this
      · exact hv.2 ⟨rfl, rfl⟩
    clear hv hs hC hB hrg ht1 ht2
    go_enter Tryd.func33, Tryd.ntmps33
    go_upto_region 1 with fail
    rw [← hxb, ← hw1]
    clear hxb hw1
    go_wp2_with (first
      | (go_at_call 17; (with_reducible refine (C1.out.mono ?_)); rintro e w2 ⟨rfl, hb2⟩; have H2 := Lib.hid hb2; clear c0 c1; have c0 := (HC.out.on hb2).c0; have c1 := (HC.out.on hb2).c1; clear hb2)
      | (go_at_call 19; (with_reducible refine ((C2.out _ H2.out).mono ?_)); rintro e w3 ⟨rfl, hb3⟩; have H3 := Lib.hid (below_on HB.out (below_on H2.out hb3)); clear hb3))
    go_ret
    exact ⟨rfl, H3.out⟩
theorem fst_own {s : Sys} (h : SysOk s) {i : Nat} (hi : i < s.nb) : fstI s.bn (s.bn i) s.nb = some i := fstI_is hi rfl (h.bdis i hi)
structure KlaR (s : Sys) (xb bb bo rb ro nb nr i : Nat) (Wc : World) (L : Nat → Bool) (v : Nat → Value) (W : World) : Prop where
  st : Below Wc.heap.size Wc W
  w2 : Had L 2 (∀ j ∈ [1], L j = true)
  w4 : Had L 4 (∀ j ∈ [2, 3], L j = true)
  w5 : Had L 5 (∀ j ∈ [4], L j = true)
  w6 : Had L 6 (∀ j ∈ [5], L j = true)
  w7 : Had L 7 (∀ j ∈ [0, 6], L j = true)
  w8 : Had L 8 (∀ j ∈ [7], L j = true)
  w9 : Had L 9 (∀ j ∈ [8], L j = true)
  w10 : Had L 10 (∀ j ∈ [8], L j = true)
  w11 : Had L 11 (∀ j ∈ [9], L j = true)
  w12 : Had L 12 (∀ j ∈ [10], L j = true)
  f0 : Had L 0 (v 47 = .agg #[.slice (some ⟨bb, bo, none⟩) nb s.bc, .slice (some ⟨rb, ro, none⟩) nr s.rc])
  f1 : Had L 1 (v 48 = .pointer (some ⟨xb, 0, none⟩))
  f2 : Had L 2 (v 49 = .slice (some ⟨bb, bo, none⟩) (nb) (s.bc))
  f3 : Had L 3 (v 50 = .int .i64 (i : Int))
  f4 : Had L 4 (v 51 = .pointer (some ⟨bb, bo + i * 2, none⟩))
  f5 : Had L 5 (v 52 = .pointer (some ⟨bb, bo + i * 2, none⟩))
  f6 : Had L 6 (v 53 = .string (s.bn i))
  f7 : Had L 7 (v 54 = .tuple #[.int .i64 (prt s i nr), .int .i64 0])
  f8 : Had L 8 (v 46 = .tuple #[.int .i64 (prt s i nr), .int .i64 0])
  f9 : Had L 9 (v 55 = .int .i64 (prt s i nr))
  f10 : Had L 10 (v 56 = .int .i64 0)
  f11 : Had L 11 (v 7 = .int .i64 (prt s i nr))
  f12 : Had L 12 (v 8 = .int .i64 0)
set_option maxRecDepth 100000 in
set_option maxHeartbeats 16000000 in
theorem adds_walk (s : Sys) (w : World) (hT : Pow10 w.heap.size w) (hs : s.At w) (hrg : SysRg s) :
    Calls Tryd.prog 6 #[.agg #[.slice s.ba s.nb s.bc, .slice s.ra s.nr s.rc]] w fun e w' => e = .returned (.bool true) ∧ Below w.heap.size w w' := by
  obtain ⟨w1, hw1⟩ : ∃ W, W = w.alloc (Obj.cells #[Value.slice s.ba s.nb s.bc, .slice s.ra s.nr s.rc] 36) := ⟨_, rfl⟩
  obtain ⟨xb, hxb⟩ : ∃ x, x = w.heap.size := ⟨_, rfl⟩
  have hC : C2 w1 xb (.slice s.ba s.nb s.bc) (.slice s.ra s.nr s.rc) := by rw [hw1, hxb]; exact C2.new _ _ _ _
  have hB : Below w.heap.size w w1 := by rw [hw1]; exact (Below.refl _ _).alloc (Nat.le_refl _) _
  have HB := Lib.hid hB
  have HC := Lib.hid hC
  have HS := Lib.hid (hs.on hB)
  have CA := Lib.hid (kawake_any w1 w.heap.size hB.size (kpow_on hT hB))
  obtain ⟨t, ht⟩ := kbool_of (SysSm s ∧ SysOk s)
  have CR : Hid (∀ W, Below w1.heap.size w1 W → Calls Tryd.prog 33 #[.agg #[.slice s.ba s.nb s.bc, .slice s.ra s.nr s.rc]] W fun e w' => e = .returned (.bool t) ∧ Below W.heap.size W w') := fun W hW => kready_any s W (HS.out.on hW) hrg t ht
  cases t
  · clear hs hC hB hrg ht hT
    go_enter Tryd.func6, Tryd.ntmps6
    go_upto_region 1 with fail
    rw [← hxb, ← hw1]
    clear hxb hw1
    go_wp2_with (first
      | (go_at_call 16; (with_reducible refine (CA.out.mono ?_)); rintro e w2 ⟨rfl, hb2⟩; have H2 := Lib.hid hb2; have c0 := (HC.out.on hb2).c0; have c1 := (HC.out.on hb2).c1; clear hb2)
      | (go_at_call 33; (with_reducible refine ((CR.out _ H2.out).mono ?_)); rintro e w3 ⟨rfl, hb3⟩; have H3 := Lib.hid (below_on HB.out (below_on H2.out hb3)); clear hb3))
    go_ret
    exact ⟨rfl, H3.out⟩
  · obtain ⟨hsm, ho⟩ := ht.1 rfl
    have hb9 := hsm.b
    have hr9 := hsm.r
    have hb1 := ho.b1
    have hr1 := ho.r1
    have CM : Hid (∀ W, Below w1.heap.size w1 W → Calls Tryd.prog 22 #[.agg #[.slice s.ba s.nb s.bc, .slice s.ra s.nr s.rc]] W fun e w' => ∃ b G, e = .returned (.tuple #[.slice (some ⟨b, 0, none⟩) s.nb s.nb, .int .i64 0]) ∧ Grid W.heap.size w' b s.nb s.nr G (fun _ => s.nr) (mtx s) ∧ Below W.heap.size W w') := fun W hW => kMatrix_ok s W (HS.out.on hW) hsm hrg ho
    have CP : Hid (∀ W i, i < s.nb → Below w1.heap.size w1 W → Calls Tryd.prog 24 #[.agg #[.slice s.ba s.nb s.bc, .slice s.ra s.nr s.rc], .string (s.bn i)] W fun e w' => e = .returned (.tuple #[.int .i64 (prt s i s.nr), .int .i64 0]) ∧ Below W.heap.size W w') := fun W i hi hW => by
      have := kParts_ok s (s.bn i) W (HS.out.on hW) hsm hrg ho (by have := hsm.bn i hi; omega)
      rw [fst_own ho hi] at this
      exact this
    have HP := Lib.hid (And.intro hsm ho)
    obtain ⟨rb, ro, hre, hrb, hrc⟩ := HS.out.r.l (by omega)
    obtain ⟨bb, bo, hbe, hbb, hbc⟩ := HS.out.b (by omega)
    have HT := Lib.hid (And.intro hrb hrc)
    have HU := Lib.hid (And.intro hbb hbc)
    rw [hre, hbe] at hw1 hC
    rw [hre, hbe] at CR
    rw [hre, hbe] at CM
    rw [hre, hbe] at CP
    rw [hre, hbe]
    have HC := Lib.hid hC
    obtain ⟨nb, hnb⟩ : ∃ x, s.nb = x := ⟨_, rfl⟩
    obtain ⟨nr, hnr⟩ : ∃ x, s.nr = x := ⟨_, rfl⟩
    have HNB := Lib.hid (And.intro hnb hnr)
    rw [hnb] at hw1 hb9 hb1 CR CM CP HC HU
    rw [hnr] at hw1 hr9 hr1 CR CM CP HC HT
    rw [hnb, hnr]
    clear hs hC hB hrg ht hT hsm ho hnb hnr hre hbe hrb hrc hbb hbc HS
    go_enter Tryd.func6, Tryd.ntmps6
    go_upto_region 1 with fail
    rw [← hxb, ← hw1]
    clear hxb hw1
    go_wp2_with (first
      | (go_at_call 16; (with_reducible refine (CA.out.mono ?_)); rintro e w2 ⟨rfl, hb2⟩; have H2 := Lib.hid hb2; have c0 := (HC.out.on hb2).c0; have c1 := (HC.out.on hb2).c1; clear hb2)
      | (go_at_call 33; (with_reducible refine ((CR.out _ H2.out).mono ?_)); rintro e w3 ⟨rfl, hb3⟩; have H3 := Lib.hid (below_on H2.out hb3); clear c0 c1; have c0 := (HC.out.on H3.out).c0; have c1 := (HC.out.on H3.out).c1; clear hb3)
      | (go_at_call 22; (with_reducible refine ((CM.out _ H3.out).mono ?_)); rintro e w4 ⟨mb, G, rfl, hgr, hb4⟩; have H4 := Lib.hid (And.intro hgr (below_on H3.out hb4)); clear c0 c1; have c0 := (HC.out.on H4.out.2).c0; have c1 := (HC.out.on H4.out.2).c1; clear hgr hb4))
    clear c0 c1
    have S0 : Hid (Below w4.heap.size w4 w4) := Below.refl _ _
    go_loopg [35] nb (fun mm s35 wx => ∃ i : Nat, s35 = .int .i64 (i : Int) ∧ mm = nb - i ∧ i ≤ nb ∧ Hid (Below w4.heap.size w4 wx))
    case atStart => exact ⟨0, rfl, rfl, Nat.zero_le _, S0⟩
    case round =>
      clear S0
      obtain ⟨i, rfl, rfl, hi, S⟩ := hrel
      rename World => W1
      by_cases hlt : i < nb
      · have li : (i : Int) < (nb : Int) := by omega
        have wi : IntKind.i64.wrap ((i : Int) + 1) = ((i + 1 : Nat) : Int) := by rw [IntWalk.i64_in _ (by omega)]; omega
        have G1 := H4.out.1.on S.out
        have m0 := G1.top i hlt
        have B1 := Lib.hid (below_on H4.out.2 S.out)
        have c1 := (HC.out.on B1.out).c1
        have HG := Lib.hid G1
        clear G1
        go_upto_region 13 with fail
        have hib : i < s.nb := by rw [HNB.out.1]; exact hlt
        have LS0 := Lib.hid (And.intro (HC.out.on B1.out).c0 (HC.out.on B1.out).lt)
        have LS1 := Lib.hid (And.intro (HC.out.on B1.out).c1 (HC.out.on B1.out).lt)
        have LN := Lib.hid (And.intro ((B1.out.cell (p := ⟨bb, bo + i * 2, none⟩) HU.out.1).trans (HU.out.2 i hlt).1) (Nat.lt_of_lt_of_le HU.out.1 B1.out.size))
        have CPi : Hid (∀ W, Below W1.heap.size W1 W → Calls Tryd.prog 24 #[.agg #[.slice (some ⟨bb, bo, none⟩) nb s.bc, .slice (some ⟨rb, ro, none⟩) nr s.rc], .string (s.bn i)] W fun e w' => e = .returned (.tuple #[.int .i64 (prt s i nr), .int .i64 0]) ∧ Below W.heap.size W w') := fun W hW => CP.out W i hlt (below_on B1.out hW)
        have HIB := Lib.hid hib
        clear c1 m0 hib
        refine wp_region_each (fun L A W => ∃ (v : Nat → Value), A = ⟨#[_, _, _, _, _, _, _, v 7, v 8, _, _, _, _, _, _, _, _, _, _, _, _, _, _, _, _, _, _, _, _, _, _, _, _, _, _, _, _, _, _, _, _, _, _, _, _, _, v 46, v 47, v 48, v 49, v 50, v 51, v 52, v 53, v 54, v 55, v 56, _, _, _, _, _, _, _, _, _, _, _, _, _, _, _, _, _, _, _, _, _, _, _, _, _, _, _, _, _, _, _, _, _, _, _, _, _, _], []⟩ ∧ KlaR s xb bb bo rb ro nb nr i W1 L v W) (by kernel_rfl) (by kernel_rfl) ⟨fun jz => if jz = 47 then u47 else if jz = 48 then u48 else if jz = 49 then u49 else if jz = 50 then u50 else if jz = 51 then u51 else if jz = 52 then u52 else if jz = 53 then u53 else if jz = 54 then u54 else if jz = 46 then u46 else if jz = 55 then u55 else if jz = 56 then u56 else if jz = 7 then u7 else if jz = 8 then u8 else undef, rfl, ⟨Below.drew (Below.refl _ _), Had.none, Had.none, Had.none, Had.none, Had.none, Had.none, Had.none, Had.none, Had.none, Had.none, Had.none, Had.none, Had.none, Had.none, Had.none, Had.none, Had.none, Had.none, Had.none, Had.none, Had.none, Had.none, Had.none⟩⟩ (rs := [0, 1, 2, 3, 4, 5, 6, 7, 8, 9, 10, 11, 12]) (by kernel_rfl) ?_ ?_
        · refine EachOf.cons [] rfl (by kernel_rfl) ?_ ?_
          · rintro L A W ⟨v, rfl, hR⟩ hi hw K hK
            have q0 := (hR.st.cell (p := ⟨xb, 0, none⟩) LS0.out.2).trans LS0.out.1
            have q1 := (hR.st.cell (p := ⟨xb, 1, none⟩) LS1.out.2).trans LS1.out.1
            go_simp
            refine hK.out _ _ ?_
            exact ⟨(fun jz => if jz = 47 then .agg #[.slice (some ⟨bb, bo, none⟩) nb s.bc, .slice (some ⟨rb, ro, none⟩) nr s.rc] else v jz), rfl, ⟨hR.st, hR.w2.o, hR.w4.o, hR.w5.o, hR.w6.o, hR.w7.o, hR.w8.o, hR.w9.o, hR.w10.o, hR.w11.o, hR.w12.o, (fun _ => rfl), hR.f1.k, hR.f2.k, hR.f3.k, hR.f4.k, hR.f5.k, hR.f6.k, hR.f7.k, hR.f8.k, hR.f9.k, hR.f10.k, hR.f11.k, hR.f12.k⟩⟩
          refine EachOf.cons [] rfl (by kernel_rfl) ?_ ?_
          · rintro L A W ⟨v, rfl, hR⟩ hi hw K hK
            go_simp
            refine hK.out _ _ ?_
            exact ⟨(fun jz => if jz = 48 then .pointer (some ⟨xb, 0, none⟩) else v jz), rfl, ⟨hR.st, hR.w2.o, hR.w4.o, hR.w5.o, hR.w6.o, hR.w7.o, hR.w8.o, hR.w9.o, hR.w10.o, hR.w11.o, hR.w12.o, hR.f0.k, (fun _ => rfl), hR.f2.k, hR.f3.k, hR.f4.k, hR.f5.k, hR.f6.k, hR.f7.k, hR.f8.k, hR.f9.k, hR.f10.k, hR.f11.k, hR.f12.k⟩⟩
          refine EachOf.cons [1] rfl (by kernel_rfl) ?_ ?_
          · rintro L A W ⟨v, rfl, hR⟩ hi hw K hK
            have e1 := hR.f1 (hw 1 (by simp))
            simp only [e1]
            clear e1
            have q0 := (hR.st.cell (p := ⟨xb, 0, none⟩) LS0.out.2).trans LS0.out.1
            go_simp
            refine hK.out _ _ ?_
            exact ⟨(fun jz => if jz = 48 then .pointer (some ⟨xb, 0, none⟩) else if jz = 49 then .slice (some ⟨bb, bo, none⟩) (nb) (s.bc) else v jz), rfl, ⟨hR.st, (fun _ j hj => upd_on (hw j hj)), hR.w4.o, hR.w5.o, hR.w6.o, hR.w7.o, hR.w8.o, hR.w9.o, hR.w10.o, hR.w11.o, hR.w12.o, hR.f0.k, (fun _ => rfl), (fun _ => rfl), hR.f3.k, hR.f4.k, hR.f5.k, hR.f6.k, hR.f7.k, hR.f8.k, hR.f9.k, hR.f10.k, hR.f11.k, hR.f12.k⟩⟩
          refine EachOf.cons [] rfl (by kernel_rfl) ?_ ?_
          · rintro L A W ⟨v, rfl, hR⟩ hi hw K hK
            go_simp
            refine hK.out _ _ ?_
            exact ⟨(fun jz => if jz = 50 then .int .i64 (i : Int) else v jz), rfl, ⟨hR.st, hR.w2.o, hR.w4.o, hR.w5.o, hR.w6.o, hR.w7.o, hR.w8.o, hR.w9.o, hR.w10.o, hR.w11.o, hR.w12.o, hR.f0.k, hR.f1.k, hR.f2.k, (fun _ => rfl), hR.f4.k, hR.f5.k, hR.f6.k, hR.f7.k, hR.f8.k, hR.f9.k, hR.f10.k, hR.f11.k, hR.f12.k⟩⟩
          refine EachOf.cons [2, 3] rfl (by kernel_rfl) ?_ ?_
          · rintro L A W ⟨v, rfl, hR⟩ hi hw K hK
            have e2 := hR.f2 (hw 2 (by simp))
            have e3 := hR.f3 (hw 3 (by simp))
            simp only [e2, e3]
            clear e2 e3
            go_simp
            refine hK.out _ _ ?_
            exact ⟨(fun jz => if jz = 49 then .slice (some ⟨bb, bo, none⟩) (nb) (s.bc) else if jz = 50 then .int .i64 (i : Int) else if jz = 51 then .pointer (some ⟨bb, bo + i * 2, none⟩) else v jz), rfl, ⟨hR.st, hR.w2.o, (fun _ j hj => upd_on (hw j hj)), hR.w5.o, hR.w6.o, hR.w7.o, hR.w8.o, hR.w9.o, hR.w10.o, hR.w11.o, hR.w12.o, hR.f0.k, hR.f1.k, (fun _ => rfl), (fun _ => rfl), (fun _ => rfl), hR.f5.k, hR.f6.k, hR.f7.k, hR.f8.k, hR.f9.k, hR.f10.k, hR.f11.k, hR.f12.k⟩⟩
          refine EachOf.cons [4] rfl (by kernel_rfl) ?_ ?_
          · rintro L A W ⟨v, rfl, hR⟩ hi hw K hK
            have e4 := hR.f4 (hw 4 (by simp))
            simp only [e4]
            clear e4
            go_simp
            refine hK.out _ _ ?_
            exact ⟨(fun jz => if jz = 51 then .pointer (some ⟨bb, bo + i * 2, none⟩) else if jz = 52 then .pointer (some ⟨bb, bo + i * 2, none⟩) else v jz), rfl, ⟨hR.st, hR.w2.o, hR.w4.o, (fun _ j hj => upd_on (hw j hj)), hR.w6.o, hR.w7.o, hR.w8.o, hR.w9.o, hR.w10.o, hR.w11.o, hR.w12.o, hR.f0.k, hR.f1.k, hR.f2.k, hR.f3.k, (fun _ => rfl), (fun _ => rfl), hR.f6.k, hR.f7.k, hR.f8.k, hR.f9.k, hR.f10.k, hR.f11.k, hR.f12.k⟩⟩
          refine EachOf.cons [5] rfl (by kernel_rfl) ?_ ?_
          · rintro L A W ⟨v, rfl, hR⟩ hi hw K hK
            have e5 := hR.f5 (hw 5 (by simp))
            simp only [e5]
            clear e5
            have q0 := (hR.st.cell (p := ⟨bb, bo + i * 2, none⟩) LN.out.2).trans LN.out.1
            go_simp
            refine hK.out _ _ ?_
            exact ⟨(fun jz => if jz = 52 then .pointer (some ⟨bb, bo + i * 2, none⟩) else if jz = 53 then .string (s.bn i) else v jz), rfl, ⟨hR.st, hR.w2.o, hR.w4.o, hR.w5.o, (fun _ j hj => upd_on (hw j hj)), hR.w7.o, hR.w8.o, hR.w9.o, hR.w10.o, hR.w11.o, hR.w12.o, hR.f0.k, hR.f1.k, hR.f2.k, hR.f3.k, hR.f4.k, (fun _ => rfl), (fun _ => rfl), hR.f7.k, hR.f8.k, hR.f9.k, hR.f10.k, hR.f11.k, hR.f12.k⟩⟩
          refine EachOf.cons [0, 6] rfl (by kernel_rfl) ?_ ?_
          · rintro L A W ⟨v, rfl, hR⟩ hi hw K hK
            have e0 := hR.f0 (hw 0 (by simp))
            have e6 := hR.f6 (hw 6 (by simp))
            simp only [e0, e6]
            clear e0 e6
            go_simp
            go_at_call 24
            (with_reducible refine ((Lib.hid (CPi.out W hR.st)).out).mono ?_)
            rintro e w2 ⟨rfl, hb⟩
            go_simp
            refine hK.out _ _ ?_
            exact ⟨(fun jz => if jz = 47 then .agg #[.slice (some ⟨bb, bo, none⟩) nb s.bc, .slice (some ⟨rb, ro, none⟩) nr s.rc] else if jz = 53 then .string (s.bn i) else if jz = 54 then .tuple #[.int .i64 (prt s i nr), .int .i64 0] else v jz), rfl, ⟨below_on hR.st hb, hR.w2.o, hR.w4.o, hR.w5.o, hR.w6.o, (fun _ j hj => upd_on (hw j hj)), hR.w8.o, hR.w9.o, hR.w10.o, hR.w11.o, hR.w12.o, (fun _ => rfl), hR.f1.k, hR.f2.k, hR.f3.k, hR.f4.k, hR.f5.k, (fun _ => rfl), (fun _ => rfl), hR.f8.k, hR.f9.k, hR.f10.k, hR.f11.k, hR.f12.k⟩⟩
          refine EachOf.cons [7] rfl (by kernel_rfl) ?_ ?_
          · rintro L A W ⟨v, rfl, hR⟩ hi hw K hK
            have e7 := hR.f7 (hw 7 (by simp))
            simp only [e7]
            clear e7
            go_simp
            refine hK.out _ _ ?_
            exact ⟨(fun jz => if jz = 54 then .tuple #[.int .i64 (prt s i nr), .int .i64 0] else if jz = 46 then .tuple #[.int .i64 (prt s i nr), .int .i64 0] else v jz), rfl, ⟨hR.st, hR.w2.o, hR.w4.o, hR.w5.o, hR.w6.o, hR.w7.o, (fun _ j hj => upd_on (hw j hj)), hR.w9.o, hR.w10.o, hR.w11.o, hR.w12.o, hR.f0.k, hR.f1.k, hR.f2.k, hR.f3.k, hR.f4.k, hR.f5.k, hR.f6.k, (fun _ => rfl), (fun _ => rfl), hR.f9.k, hR.f10.k, hR.f11.k, hR.f12.k⟩⟩
          refine EachOf.cons [8] rfl (by kernel_rfl) ?_ ?_
          · rintro L A W ⟨v, rfl, hR⟩ hi hw K hK
            have e8 := hR.f8 (hw 8 (by simp))
            simp only [e8]
            clear e8
            go_simp
            refine hK.out _ _ ?_
            exact ⟨(fun jz => if jz = 46 then .tuple #[.int .i64 (prt s i nr), .int .i64 0] else if jz = 55 then .int .i64 (prt s i nr) else v jz), rfl, ⟨hR.st, hR.w2.o, hR.w4.o, hR.w5.o, hR.w6.o, hR.w7.o, hR.w8.o, (fun _ j hj => upd_on (hw j hj)), hR.w10.o, hR.w11.o, hR.w12.o, hR.f0.k, hR.f1.k, hR.f2.k, hR.f3.k, hR.f4.k, hR.f5.k, hR.f6.k, hR.f7.k, (fun _ => rfl), (fun _ => rfl), hR.f10.k, hR.f11.k, hR.f12.k⟩⟩
          refine EachOf.cons [8] rfl (by kernel_rfl) ?_ ?_
          · rintro L A W ⟨v, rfl, hR⟩ hi hw K hK
            have e8 := hR.f8 (hw 8 (by simp))
            simp only [e8]
            clear e8
            go_simp
            refine hK.out _ _ ?_
            exact ⟨(fun jz => if jz = 46 then .tuple #[.int .i64 (prt s i nr), .int .i64 0] else if jz = 56 then .int .i64 0 else v jz), rfl, ⟨hR.st, hR.w2.o, hR.w4.o, hR.w5.o, hR.w6.o, hR.w7.o, hR.w8.o, hR.w9.o, (fun _ j hj => upd_on (hw j hj)), hR.w11.o, hR.w12.o, hR.f0.k, hR.f1.k, hR.f2.k, hR.f3.k, hR.f4.k, hR.f5.k, hR.f6.k, hR.f7.k, (fun _ => rfl), hR.f9.k, (fun _ => rfl), hR.f11.k, hR.f12.k⟩⟩
          refine EachOf.cons [9] rfl (by kernel_rfl) ?_ ?_
          · rintro L A W ⟨v, rfl, hR⟩ hi hw K hK
            have e9 := hR.f9 (hw 9 (by simp))
            simp only [e9]
            clear e9
            go_simp
            refine hK.out _ _ ?_
            exact ⟨(fun jz => if jz = 55 then .int .i64 (prt s i nr) else if jz = 7 then .int .i64 (prt s i nr) else v jz), rfl, ⟨hR.st, hR.w2.o, hR.w4.o, hR.w5.o, hR.w6.o, hR.w7.o, hR.w8.o, hR.w9.o, hR.w10.o, (fun _ j hj => upd_on (hw j hj)), hR.w12.o, hR.f0.k, hR.f1.k, hR.f2.k, hR.f3.k, hR.f4.k, hR.f5.k, hR.f6.k, hR.f7.k, hR.f8.k, (fun _ => rfl), hR.f10.k, (fun _ => rfl), hR.f12.k⟩⟩
          refine EachOf.cons [10] rfl (by kernel_rfl) ?_ ?_
          · rintro L A W ⟨v, rfl, hR⟩ hi hw K hK
            have e10 := hR.f10 (hw 10 (by simp))
            simp only [e10]
            clear e10
            go_simp
            refine hK.out _ _ ?_
            exact ⟨(fun jz => if jz = 56 then .int .i64 0 else if jz = 8 then .int .i64 0 else v jz), rfl, ⟨hR.st, hR.w2.o, hR.w4.o, hR.w5.o, hR.w6.o, hR.w7.o, hR.w8.o, hR.w9.o, hR.w10.o, hR.w11.o, (fun _ j hj => upd_on (hw j hj)), hR.f0.k, hR.f1.k, hR.f2.k, hR.f3.k, hR.f4.k, hR.f5.k, hR.f6.k, hR.f7.k, hR.f8.k, hR.f9.k, (fun _ => rfl), hR.f11.k, (fun _ => rfl)⟩⟩
          exact EachOf.nil
        rintro L A W3 ⟨vs, rfl, hR⟩ hL
        have e11 := hR.f11 (hL 11 (by simp))
        have e12 := hR.f12 (hL 12 (by simp))
        simp only [e11, e12]
        have S3 := Lib.hid (below_on S.out hR.st)
        have B3 := Lib.hid (below_on B1.out hR.st)
        have HG3 := Lib.hid (HG.out.on hR.st)
        clear e11 e12 hR hL LS0 LS1 LN CPi S B1 HG
        go_wp2_with fail
        go_loopg [9, 59] nr (fun mm s9 s59 wx => ∃ k : Nat, s9 = .int .i64 (prt s i k) ∧ s59 = .int .i64 (k : Int) ∧ mm = nr - k ∧ k ≤ nr ∧ wx = W3)
        case atStart => exact ⟨0, rfl, rfl, rfl, Nat.zero_le _, rfl⟩
        case round =>
          obtain ⟨k, rfl, rfl, rfl, hk, rfl⟩ := hrel
          by_cases hlk : k < nr
          · have lk : (k : Int) < (nr : Int) := by omega
            have wk : IntKind.i64.wrap ((k : Int) + 1) = ((k + 1 : Nat) : Int) := by rw [IntWalk.i64_in _ (by omega)]; omega
            have hkr : k < s.nr := by rw [HNB.out.2]; exact hlk
            have z0 := HG3.out.cell i k hlt hlk
            have zl := (HG3.out.row i hlt).2.1
            have c1 := (HC.out.on B3.out).c1
            have p2 := (B3.out.cell (p := ⟨rb, ro + k * 3 + 1, none⟩) HT.out.1).trans (HT.out.2 k hlk).2.1
            have hmo := mtx_most HP.out.2 i hkr
            have hn13 := HP.out.1.h k hkr
            have b1 := prt_bd HP.out.2 i k (by omega)
            have b2 := mtx_bd HP.out.2 i hkr
            have HST := Lib.hid (show prt s i (k + 1) = prt s i k + mtx s i k from rfl)
            have wp : IntKind.i64.wrap (prt s i k + mtx s i k) = prt s i k + mtx s i k := IntWalk.i64_in _ (by omega)
            obtain ⟨x, hx⟩ : ∃ x, mtx s i k = x := ⟨_, rfl⟩
            obtain ⟨n, hn⟩ : ∃ x, (s.R k).n = x := ⟨_, rfl⟩
            rw [hx] at z0 hmo b2 HST wp
            rw [hn] at p2 hmo hn13
            have HXN := Lib.hid (And.intro hx hn)
            have a1 : IntKind.i64.wrap ((n : Int) - 2) = (n : Int) - 2 := IntWalk.i64_in _ (by omega)
            have a2 : IntKind.i64.wrap (2 * ((n : Int) - 2)) = 2 * ((n : Int) - 2) := IntWalk.i64_in _ (by omega)
            have a3 : IntKind.i64.wrap (2 * ((n : Int) - 2) + 2) = 2 * ((n : Int) - 2) + 2 := IntWalk.i64_in _ (by omega)
            have a4 : IntKind.i64.wrap (-(2 * ((n : Int) - 2) + 2)) = -(2 * ((n : Int) - 2) + 2) := IntWalk.i64_in _ (by omega)
            obtain ⟨m1, hm1⟩ : ∃ z, (n : Int) - 2 = z := ⟨_, rfl⟩
            rw [hm1] at a1 a2 a3 a4 hmo
            obtain ⟨m2, hm2⟩ : ∃ z, 2 * m1 = z := ⟨_, rfl⟩
            rw [hm2] at a2 a3 a4 hmo
            obtain ⟨m3, hm3⟩ : ∃ z, m2 + 2 = z := ⟨_, rfl⟩
            rw [hm3] at a3 a4 hmo
            obtain ⟨m4, hm4⟩ : ∃ z, -m3 = z := ⟨_, rfl⟩
            rw [hm4] at a4 hmo
            have e1 : IntKind.i64.wrap ((n : Int) - 2) = m1 := by rw [hm1]; exact a1
            have e2 : IntKind.i64.wrap (2 * m1) = m2 := by rw [hm2]; exact a2
            have e3 : IntKind.i64.wrap (m2 + 2) = m3 := by rw [hm3]; exact a3
            have e4 : IntKind.i64.wrap (-m3) = m4 := by rw [hm4]; exact a4
            have d1 : decide (m3 < x) = false := decide_eq_false (by omega)
            have d2 : decide (x < m4) = false := decide_eq_false (by omega)
            have d3 : ¬ m3 < x := by omega
            have d4 : ¬ x < m4 := by omega
            clear hmo hn13 b1 b2 hkr hx hn hm1 hm2 hm3 hm4 a1 a2 a3 a4
            go_wp2_with fail
            go_roundg (nr - (k + 1))
            case measure => omega
            case rel => exact ⟨k + 1, by rw [HST.out], rfl, rfl, by omega, rfl⟩
          · have lk : ¬ (k : Int) < (nr : Int) := by omega
            have e : nr = k := by omega
            subst e
            go_wp2_with fail
            go_roundg (nb - (i + 1))
            case measure => omega
            case rel => exact ⟨i + 1, rfl, rfl, by omega, S3⟩
      · have li : ¬ (i : Int) < (nb : Int) := by omega
        have e : nb = i := by omega
        subst e
        have R0 := Lib.hid (below_on HB.out (below_on H4.out.2 S.out))
        clear S
        go_wp2_with fail
        go_ret
        exact ⟨rfl, R0.out⟩
end Go.Proofs.YtcghjjfpjiacfaaDoor
