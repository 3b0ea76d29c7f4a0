/- Layer 10's reference: valid systems. -/
import Derived.Test.YtcghjjfpjiacfaaDoorKR3
namespace Go.Proofs.YtcghjjfpjiacfaaDoor
open Go.ChangeShapes Go.WideShapes Go.ChangeAt Go.RowKit Go.Joins Go.Deep Go.Shelf
set_option linter.unusedVariables false

structure BkOk (s : Sys) (i : Nat) : Prop where
  n : namB (s.bn i).data.toList = true
  d : ∀ j, j < i → s.bn j ≠ s.bn i
  w0 : 0 ≤ s.bw i
  w1 : s.bw i ≤ 16777216
structure RkOk (s : Sys) (k : Nat) : Prop where
  n : namB (s.R k).name.data.toList = true
  d : ∀ j, j < k → (s.R j).name ≠ (s.R k).name
  b : knB s.bn s.nb (s.R k).name = false
  r : RopOk (knB s.bn s.nb) (s.R k)
theorem sysOk_ref (s : Sys) : SysOk s ↔ (1 ≤ s.nb ∧ s.nb ≤ 6 ∧ 1 ≤ s.nr ∧ s.nr ≤ 6) ∧ (∀ i, i < s.nb → BkOk s i) ∧ (∀ k, k < s.nr → RkOk s k) ∧ cntH s.R s.nr ≤ 1 := by
  constructor
  · intro h
    refine ⟨⟨h.b1, h.b6, h.r1, h.r6⟩, fun i hi => ⟨?_, h.bdis i hi, (h.wt i hi).1, (h.wt i hi).2⟩, fun k hk => ⟨?_, fun j hj => ?_, ?_, h.rop k hk⟩, h.one⟩
    · have := h.nam i (by omega)
      rwa [sys_nm_b s hi] at this
    · have := h.nam (s.nb + k) (by omega)
      rwa [sys_nm_r] at this
    · have := h.dis (s.nb + k) (by omega) (s.nb + j) (by omega)
      rwa [sys_nm_r, sys_nm_r] at this
    · cases e : knB s.bn s.nb (s.R k).name
      · rfl
      · obtain ⟨i, hi, he⟩ := knB_iff.1 e
        have := h.dis (s.nb + k) (by omega) i (by omega)
        rw [sys_nm_r, sys_nm_b s hi] at this
        exact absurd he this
  · rintro ⟨⟨h1, h2, h3, h4⟩, h5, h6, h7⟩
    refine ⟨h1, h2, h3, h4, fun k hk => ?_, fun k hk j hj => ?_, fun i hi => ⟨(h5 i hi).w0, (h5 i hi).w1⟩, fun k hk => (h6 k hk).r, h7⟩
    · by_cases e : k < s.nb
      · rw [sys_nm_b s e]; exact (h5 k e).n
      · have := (h6 (k - s.nb) (by omega)).n
        rw [← sys_nm_r, show s.nb + (k - s.nb) = k by omega] at this
        exact this
    · by_cases e : k < s.nb
      · rw [sys_nm_b s e, sys_nm_b s (by omega)]; exact (h5 k e).d j hj
      · have hk2 := h6 (k - s.nb) (by omega)
        have ek : s.nm k = (s.R (k - s.nb)).name := by rw [← sys_nm_r, show s.nb + (k - s.nb) = k by omega]
        rw [ek]
        by_cases e2 : j < s.nb
        · rw [sys_nm_b s e2]
          intro q
          have := knB_iff.2 ⟨j, e2, q⟩
          rw [hk2.b] at this
          cases this
        · have ej : s.nm j = (s.R (j - s.nb)).name := by rw [← sys_nm_r, show s.nb + (j - s.nb) = j by omega]
          rw [ej]
          exact hk2.d (j - s.nb) (by omega)
set_option maxRecDepth 100000 in
set_option maxHeartbeats 16000000 in
theorem rValid_any (s : Sys) (w : World) (hs : s.At w) (hsm : SysSm s) (hrg : SysRg s) (v : Bool) (hv : v = true ↔ SysOk s) :
    Calls Tryd.prog 19 #[.agg #[.slice s.ba s.nb s.bc, .slice s.ra s.nr s.rc]] w fun e w' => e = .returned (.bool v) ∧ Below w.heap.size w w' := by
  have hb9 := hsm.b
  have hr9 := hsm.r
  rw [sysOk_ref] at hv
  obtain ⟨w1, hw1⟩ : ∃ W, W = w.alloc (Obj.cells #[Value.slice s.ba s.nb s.bc, .slice s.ra s.nr s.rc] 36) := ⟨_, rfl⟩
  obtain ⟨xb, hxb⟩ : ∃ x, x = w.heap.size := ⟨_, rfl⟩
  have hC : C2 w1 xb (.slice s.ba s.nb s.bc) (.slice s.ra s.nr s.rc) := by rw [hw1, hxb]; exact C2.new _ _ _ _
  have hB : Below w.heap.size w w1 := by rw [hw1]; exact (Below.refl _ _).alloc (Nat.le_refl _) _
  have HB := Lib.hid hB
  have c0 := hC.c0
  have c1 := hC.c1
  have HC := Lib.hid hC
  have HS := Lib.hid (hs.on hB)
  have HP := Lib.hid (And.intro hsm hrg)
  have HV := Lib.hid hv
  have no : ¬ (1 ≤ s.nb ∧ s.nb ≤ 6 ∧ 1 ≤ s.nr ∧ s.nr ≤ 6) → v = false := fun h => by
    cases e : v
    · rfl
    · exact absurd (HV.out.1 e).1 h
  have HN := Lib.hid no
  clear hs hB hsm hrg hv no
  by_cases h1 : 1 ≤ s.nb
  · have g1 : ¬ (s.nb : Int) < 1 := by omega
    by_cases h2 : s.nb ≤ 6
    · have g2 : ¬ 6 < (s.nb : Int) := by omega
      by_cases h3 : 1 ≤ s.nr
      · have g3 : ¬ (s.nr : Int) < 1 := by omega
        by_cases h4 : s.nr ≤ 6
        · have g4 : ¬ 6 < (s.nr : Int) := by omega
          have HV2 : Hid (v = true ↔ (∀ i, i < s.nb → BkOk s i) ∧ (∀ k, k < s.nr → RkOk s k) ∧ cntH s.R s.nr ≤ 1) := ⟨fun h => (HV.out.1 h).2, fun h => HV.out.2 ⟨⟨h1, h2, h3, h4⟩, h⟩⟩
          obtain ⟨rb, ro, hre, hrb, hrc⟩ := HS.out.r.l (by omega)
          obtain ⟨bb, bo, hbe, hbb, hbc⟩ := HS.out.b (by omega)
          have HEQ := Lib.hid (And.intro hre hbe)
          have CF : Hid (∀ W x, Below w1.heap.size w1 W → Calls Tryd.prog 31 #[.agg #[.slice (some ⟨bb, bo, none⟩) s.nb s.bc, .slice (some ⟨rb, ro, none⟩) s.nr s.rc], .string x] W fun e w' => e = .returned (.int .i64 (fbI s.bn x s.nb)) ∧ Below W.heap.size W w') := fun W x hW => by
            rw [← hre, ← hbe]
            exact fBlock_any s.ba s.nb s.bc s.bn s.bw s.ra s.nr s.rc s.R x W (HS.out.b.on hW) (by omega) _ rfl
          have CG : Hid (∀ W x, Below w1.heap.size w1 W → Calls Tryd.prog 69 #[.agg #[.slice (some ⟨bb, bo, none⟩) s.nb s.bc, .slice (some ⟨rb, ro, none⟩) s.nr s.rc], .string x] W fun e w' => e = .returned (.int .i64 (fbI (fun k => (s.R k).name) x s.nr)) ∧ Below W.heap.size W w') := fun W x hW => by
            rw [← hre, ← hbe]
            exact fRope_any s.ba s.nb s.bc s.bn s.bw s.ra s.nr s.rc s.R x W (HS.out.r.l.on hW) (by omega) _ rfl
          have CK : Hid (∀ W k, k < s.nr → Below w1.heap.size w1 W → Calls Tryd.prog 70 #[.agg #[.slice (some ⟨bb, bo, none⟩) s.nb s.bc, .slice (some ⟨rb, ro, none⟩) s.nr s.rc], .agg #[.string (s.R k).name, .slice (s.R k).ha (s.R k).n (s.R k).hc, .bool (s.R k).hauled]] W fun e w' => e = .returned (.bool (decide (RopOk (knB s.bn s.nb) (s.R k)))) ∧ Below W.heap.size W w') := fun W k hk hW => by
            rw [← hre, ← hbe]
            have := HP.out.1.h k hk
            exact rrope_any s.ba s.nb s.bc s.bn s.bw s.ra s.nr s.rc (s.R k) (s.R k).name (s.R k).ha (s.R k).n (s.R k).hc (s.R k).hs (s.R k).hauled W rfl (HS.out.b.on hW) (by omega) ((HS.out.r.h k hk).on hW) (by omega) (HP.out.2.h k hk) _ decide_eq_true_iff
          rw [hre] at hw1 c1 hC
          rw [hbe] at hw1 c0 hC
          have HC := Lib.hid hC
          rw [hre, hbe]
          obtain ⟨nb, hnb⟩ : ∃ x, s.nb = x := ⟨_, rfl⟩
          obtain ⟨nr, hnr⟩ : ∃ x, s.nr = x := ⟨_, rfl⟩
          have HNB := Lib.hid (And.intro hnb hnr)
          rw [hnb] at c0 hw1 hbc g1 g2 hb9 CF CG CK hC h1 h2 HC
          rw [hnr] at c1 hw1 hrc g3 g4 hr9 CF CG CK hC h3 h4 HC
          rw [hnb, hnr]
          have HT := Lib.hid (And.intro hrb hrc)
          have HU := Lib.hid (And.intro hbb hbc)
          have S0 : Hid (Below w1.heap.size w1 w1 ∧ ∀ j, j < 0 → BkOk s j) := ⟨Below.refl _ _, fun j hj => by omega⟩
          clear hre hbe hrb hrc hbb hbc hnb hnr HV HN hC
          go_enter Tryd.func19, Tryd.ntmps19
          go_upto_region 1 with fail
          rw [← hxb, ← hw1]
          clear hxb hw1
          go_wp2_with fail
          clear g1 g2 g3 g4 c0 c1 h1 h2 h3 h4
          go_loopg [3] nb (fun mm s3 wx => ∃ i : Nat, s3 = .int .i64 (i : Int) ∧ mm = nb - i ∧ i ≤ nb ∧ Hid (Below w1.heap.size w1 wx ∧ ∀ j, j < i → BkOk s j))
          case atStart => exact ⟨0, rfl, rfl, Nat.zero_le _, S0⟩
          case round =>
            clear S0
            obtain ⟨i, rfl, rfl, hi, S⟩ := hrel
            rename World => W1
            have c0 := (S.out.1.cell (p := ⟨xb, 0, none⟩) HC.out.lt).trans HC.out.c0
            have c1 := (S.out.1.cell (p := ⟨xb, 1, none⟩) HC.out.lt).trans HC.out.c1
            by_cases hlt : i < nb
            · have li : (i : Int) < (nb : Int) := by omega
              have wi : IntKind.i64.wrap ((i : Int) + 1) = ((i + 1 : Nat) : Int) := by rw [IntWalk.i64_in _ (by omega)]; omega
              have hib : i < s.nb := by rw [HNB.out.1]; exact hlt
              have p1 := (S.out.1.cell (p := ⟨bb, bo + i * 2, none⟩) HU.out.1).trans (HU.out.2 i hlt).1
              have p2 := (S.out.1.cell (p := ⟨bb, bo + i * 2 + 1, none⟩) HU.out.1).trans (HU.out.2 i hlt).2
              go_upto_region 7 with fail
              obtain ⟨W2, hW2⟩ : ∃ W, W = W1.alloc (Obj.cells #[.string (s.bn i), .int .i64 (s.bw i)] 55) := ⟨_, rfl⟩
              obtain ⟨b4, hb4⟩ : ∃ x, x = W1.heap.size := ⟨_, rfl⟩
              have hCb4 : C2 W2 b4 (.string (s.bn i)) (.int .i64 (s.bw i)) := by rw [hW2, hb4]; exact C2.new _ _ _ _
              have HBb4 : Hid (Below W1.heap.size W1 W2) := by rw [hW2]; exact (Below.refl _ _).alloc (Nat.le_refl _) _
              rw [← hW2, ← hb4]
              clear hW2 hb4
              have x0 := hCb4.c0
              have x1 := hCb4.c1
              have HCb := Lib.hid hCb4
              have S2 := Lib.hid (And.intro (below_on S.out.1 HBb4.out) S.out.2)
              clear c0 c1
              have c0 := (S2.out.1.cell (p := ⟨xb, 0, none⟩) HC.out.lt).trans HC.out.c0
              have c1 := (S2.out.1.cell (p := ⟨xb, 1, none⟩) HC.out.lt).trans HC.out.c1
              have hz := HP.out.1.bn i hib
              have CN := fun W => Lib.hid (refIsName_any (s.bn i) W (by omega))
              have hfe := fbI_eq (f := s.bn) hib
              have hbk : (namB (s.bn i).data.toList = true ∧ fbI s.bn (s.bn i) s.nb = (i : Int) ∧ 0 ≤ s.bw i ∧ s.bw i ≤ 16777216) ↔ BkOk s i := ⟨fun h => ⟨h.1, hfe.1 h.2.1, h.2.2.1, h.2.2.2⟩, fun h => ⟨h.n, hfe.2 h.d, h.w0, h.w1⟩⟩
              have hno : ¬ BkOk s i → v = false := fun h => by
                cases e : v
                · rfl
                · exact absurd ((HV2.out.1 e).1 i hib) h
              have hyes : BkOk s i → ∀ j, j < i + 1 → BkOk s j := fun h j hj => by
                by_cases e : j = i
                · rw [e]; exact h
                · exact S2.out.2 j (by omega)
              rw [← hbk] at hno hyes
              obtain ⟨fb, hfb⟩ : ∃ z, fbI s.bn (s.bn i) s.nb = z := ⟨_, rfl⟩
              obtain ⟨tn, htn⟩ : ∃ z, namB (s.bn i).data.toList = z := ⟨_, rfl⟩
              obtain ⟨bw, hbw⟩ : ∃ z, s.bw i = z := ⟨_, rfl⟩
              rw [hfb, htn, hbw] at hno hyes
              have CFi : Hid (∀ W, Below w1.heap.size w1 W → Calls Tryd.prog 31 #[.agg #[.slice (some ⟨bb, bo, none⟩) nb s.bc, .slice (some ⟨rb, ro, none⟩) nr s.rc], .string (s.bn i)] W fun e w' => e = .returned (.int .i64 fb) ∧ Below W.heap.size W w') := fun W hW => by have := CF.out W (s.bn i) hW; rw [← HNB.out.1, hfb, HNB.out.1] at this; exact this
              rw [htn] at CN
              rw [hbw] at x1 HCb
              have HY := Lib.hid (And.intro hno hyes)
              clear p1 p2 hCb4 HBb4 S hz hfe hbk hno hyes hfb htn hbw hib
              cases tn
              · obtain rfl : v = false := HY.out.1 (fun h => by cases h.1)
                clear HY HV2
                go_wp2_with (first
                  | (go_at_call 68; (with_reducible refine ((CN _).out.mono ?_)); rintro e w3 ⟨rfl, rfl⟩)
                  | (go_at_call 31; (with_reducible refine ((CFi.out _ S2.out.1).mono ?_)); rintro e w4 ⟨rfl, hb4⟩; have S4 := Lib.hid (below_on S2.out.1 hb4); clear x1; have x1 := (HCb.out.on hb4).c1; clear hb4))
                go_ret
                exact ⟨rfl, below_on HB.out S2.out.1⟩
              · by_cases q1 : fb = (i : Int)
                · have r1 : (fb != (i : Int)) = false := by simp [q1]
                  by_cases q2 : bw < 0
                  · obtain rfl : v = false := HY.out.1 (fun h => by have := h.2.2.1; omega)
                    clear HY HV2 q1
                    go_wp2_with (first
                      | (go_at_call 68; (with_reducible refine ((CN _).out.mono ?_)); rintro e w3 ⟨rfl, rfl⟩)
                      | (go_at_call 31; (with_reducible refine ((CFi.out _ S2.out.1).mono ?_)); rintro e w4 ⟨rfl, hb4⟩; have S4 := Lib.hid (below_on S2.out.1 hb4); clear x1; have x1 := (HCb.out.on hb4).c1; clear hb4))
                    go_ret
                    exact ⟨rfl, below_on HB.out S4.out⟩
                  · by_cases q3 : 16777216 < bw
                    · obtain rfl : v = false := HY.out.1 (fun h => by have := h.2.2.2; omega)
                      clear HY HV2 q1
                      go_wp2_with (first
                        | (go_at_call 68; (with_reducible refine ((CN _).out.mono ?_)); rintro e w3 ⟨rfl, rfl⟩)
                        | (go_at_call 31; (with_reducible refine ((CFi.out _ S2.out.1).mono ?_)); rintro e w4 ⟨rfl, hb4⟩; have S4 := Lib.hid (below_on S2.out.1 hb4); clear x1; have x1 := (HCb.out.on hb4).c1; clear hb4))
                      go_ret
                      exact ⟨rfl, below_on HB.out S4.out⟩
                    · have HY2 := Lib.hid (HY.out.2 ⟨rfl, q1, by omega, by omega⟩)
                      clear HY q1
                      go_wp2_with (first
                        | (go_at_call 68; (with_reducible refine ((CN _).out.mono ?_)); rintro e w3 ⟨rfl, rfl⟩)
                        | (go_at_call 31; (with_reducible refine ((CFi.out _ S2.out.1).mono ?_)); rintro e w4 ⟨rfl, hb4⟩; have S4 := Lib.hid (below_on S2.out.1 hb4); clear x1; have x1 := (HCb.out.on hb4).c1; clear hb4))
                      have S5 := Lib.hid (And.intro S4.out HY2.out)
                      clear HY2
                      go_roundg (nb - (i + 1))
                      case measure => omega
                      case rel => exact ⟨i + 1, rfl, rfl, by omega, S5⟩
                · have r1 : (fb != (i : Int)) = true := by simp [q1]
                  obtain rfl : v = false := HY.out.1 (fun h => q1 h.2.1)
                  clear HY HV2 q1
                  go_wp2_with (first
                    | (go_at_call 68; (with_reducible refine ((CN _).out.mono ?_)); rintro e w3 ⟨rfl, rfl⟩)
                    | (go_at_call 31; (with_reducible refine ((CFi.out _ S2.out.1).mono ?_)); rintro e w4 ⟨rfl, hb4⟩; have S4 := Lib.hid (below_on S2.out.1 hb4); clear x1; have x1 := (HCb.out.on hb4).c1; clear hb4))
                  go_ret
                  exact ⟨rfl, below_on HB.out S4.out⟩
            · have li : ¬ (i : Int) < (nb : Int) := by omega
              have e : nb = i := by omega
              subst e
              have HB6 := Lib.hid S.out.2
              have T0 : Hid (Below w1.heap.size w1 W1 ∧ ∀ j, j < 0 → RkOk s j) := ⟨S.out.1, fun j hj => by omega⟩
              clear S li hi hlt
              go_wp2_with fail
              clear c0 c1
              go_loopg [5, 6] nr (fun mm s5 s6 wx => ∃ k : Nat, s5 = .int .i64 ((cntH s.R k : Nat) : Int) ∧ s6 = .int .i64 (k : Int) ∧ mm = nr - k ∧ k ≤ nr ∧ Hid (Below w1.heap.size w1 wx ∧ ∀ j, j < k → RkOk s j))
              case atStart => exact ⟨0, rfl, rfl, rfl, Nat.zero_le _, T0⟩
              case round =>
                clear T0
                obtain ⟨k, rfl, rfl, rfl, hk, S⟩ := hrel
                rename World => W1
                have c0 := (S.out.1.cell (p := ⟨xb, 0, none⟩) HC.out.lt).trans HC.out.c0
                have c1 := (S.out.1.cell (p := ⟨xb, 1, none⟩) HC.out.lt).trans HC.out.c1
                have hcl := cntH_le s.R k
                by_cases hlt : k < nr
                · have li : (k : Int) < (nr : Int) := by omega
                  have wi : IntKind.i64.wrap ((k : Int) + 1) = ((k + 1 : Nat) : Int) := by rw [IntWalk.i64_in _ (by omega)]; omega
                  have hkr : k < s.nr := by rw [HNB.out.2]; exact hlt
                  have p1 := (S.out.1.cell (p := ⟨rb, ro + k * 3, none⟩) HT.out.1).trans (HT.out.2 k hlt).1
                  have p2 := (S.out.1.cell (p := ⟨rb, ro + k * 3 + 1, none⟩) HT.out.1).trans (HT.out.2 k hlt).2.1
                  have p3 := (S.out.1.cell (p := ⟨rb, ro + k * 3 + 2, none⟩) HT.out.1).trans (HT.out.2 k hlt).2.2
                  go_upto_region 14 with fail
                  obtain ⟨W2, hW2⟩ : ∃ W, W = W1.alloc (Obj.cells #[.string (s.R k).name, .slice (s.R k).ha (s.R k).n (s.R k).hc, .bool (s.R k).hauled] 58) := ⟨_, rfl⟩
                  obtain ⟨b7, hb7⟩ : ∃ x, x = W1.heap.size := ⟨_, rfl⟩
                  have hCb7 : C3 W2 b7 (.string (s.R k).name) (.slice (s.R k).ha (s.R k).n (s.R k).hc) (.bool (s.R k).hauled) := by rw [hW2, hb7]; exact C3.new _ _ _ _ _
                  have HBb7 : Hid (Below W1.heap.size W1 W2) := by rw [hW2]; exact (Below.refl _ _).alloc (Nat.le_refl _) _
                  rw [← hW2, ← hb7]
                  clear hW2 hb7
                  have x0 := hCb7.c0
                  have x1 := hCb7.c1
                  have x2 := hCb7.c2
                  have HCr := Lib.hid hCb7
                  have S2 := Lib.hid (And.intro (below_on S.out.1 HBb7.out) S.out.2)
                  clear c0 c1
                  have c0 := (S2.out.1.cell (p := ⟨xb, 0, none⟩) HC.out.lt).trans HC.out.c0
                  have c1 := (S2.out.1.cell (p := ⟨xb, 1, none⟩) HC.out.lt).trans HC.out.c1
                  have hz := HP.out.1.rn k hkr
                  have CN := fun W => Lib.hid (refIsName_any (s.R k).name W (by omega))
                  have hfe := fbI_eq (f := fun k => (s.R k).name) hkr
                  have hfn := fbI_neg (f := s.bn) (n := s.nb) (x := (s.R k).name)
                  have hbk : (namB (s.R k).name.data.toList = true ∧ fbI (fun k => (s.R k).name) (s.R k).name s.nr = (k : Int) ∧ fbI s.bn (s.R k).name s.nb < 0 ∧ decide (RopOk (knB s.bn s.nb) (s.R k)) = true) ↔ RkOk s k := ⟨fun h => ⟨h.1, hfe.1 h.2.1, hfn.1 h.2.2.1, of_decide_eq_true h.2.2.2⟩, fun h => ⟨h.n, hfe.2 h.d, hfn.2 h.b, decide_eq_true h.r⟩⟩
                  have hno : ¬ RkOk s k → v = false := fun h => by
                    cases e : v
                    · rfl
                    · exact absurd ((HV2.out.1 e).2.1 k hkr) h
                  have hyes : RkOk s k → ∀ j, j < k + 1 → RkOk s j := fun h j hj => by
                    by_cases e : j = k
                    · rw [e]; exact h
                    · exact S2.out.2 j (by omega)
                  rw [← hbk] at hno hyes
                  obtain ⟨fr, hfr⟩ : ∃ z, fbI (fun k => (s.R k).name) (s.R k).name s.nr = z := ⟨_, rfl⟩
                  obtain ⟨fb, hfb⟩ : ∃ z, fbI s.bn (s.R k).name s.nb = z := ⟨_, rfl⟩
                  obtain ⟨tn, htn⟩ : ∃ z, namB (s.R k).name.data.toList = z := ⟨_, rfl⟩
                  obtain ⟨tr, htr⟩ : ∃ z, decide (RopOk (knB s.bn s.nb) (s.R k)) = z := ⟨_, rfl⟩
                  rw [hfb, hfr, htn, htr] at hno hyes
                  have CFk : Hid (∀ W, Below w1.heap.size w1 W → Calls Tryd.prog 31 #[.agg #[.slice (some ⟨bb, bo, none⟩) nb s.bc, .slice (some ⟨rb, ro, none⟩) nr s.rc], .string (s.R k).name] W fun e w' => e = .returned (.int .i64 fb) ∧ Below W.heap.size W w') := fun W hW => by have := CF.out W (s.R k).name hW; rw [← HNB.out.1, hfb, HNB.out.1] at this; exact this
                  have CGk : Hid (∀ W, Below w1.heap.size w1 W → Calls Tryd.prog 69 #[.agg #[.slice (some ⟨bb, bo, none⟩) nb s.bc, .slice (some ⟨rb, ro, none⟩) nr s.rc], .string (s.R k).name] W fun e w' => e = .returned (.int .i64 fr) ∧ Below W.heap.size W w') := fun W hW => by have := CG.out W (s.R k).name hW; rw [← HNB.out.2, hfr, HNB.out.2] at this; exact this
                  have CKk : Hid (∀ W, Below w1.heap.size w1 W → Calls Tryd.prog 70 #[.agg #[.slice (some ⟨bb, bo, none⟩) nb s.bc, .slice (some ⟨rb, ro, none⟩) nr s.rc], .agg #[.string (s.R k).name, .slice (s.R k).ha (s.R k).n (s.R k).hc, .bool (s.R k).hauled]] W fun e w' => e = .returned (.bool tr) ∧ Below W.heap.size W w') := fun W hW => by have := CK.out W k hlt hW; rw [← HNB.out.1, htr, HNB.out.1] at this; exact this
                  rw [htn] at CN
                  have HY := Lib.hid (And.intro hno hyes)
                  clear p1 p2 p3 hCb7 HBb7 S hz hfe hfn hbk hno hyes hfb hfr htn htr hkr
                  cases tn
                  · obtain rfl : v = false := HY.out.1 (fun h => by cases h.1)
                    clear HY HV2
                    go_wp2_with (first
                      | (go_at_call 68; (with_reducible refine ((CN _).out.mono ?_)); rintro e w3 ⟨rfl, rfl⟩)
                      | (go_at_call 69; (with_reducible refine ((CGk.out _ S2.out.1).mono ?_)); rintro e w4 ⟨rfl, hb4⟩; have B4 := Lib.hid hb4; have S4 := Lib.hid (below_on S2.out.1 hb4); clear c0 c1 x0 x1 x2; have c0 := (S4.out.cell (p := ⟨xb, 0, none⟩) HC.out.lt).trans HC.out.c0; have c1 := (S4.out.cell (p := ⟨xb, 1, none⟩) HC.out.lt).trans HC.out.c1; have x0 := (HCr.out.on hb4).c0; have x1 := (HCr.out.on hb4).c1; have x2 := (HCr.out.on hb4).c2; clear hb4)
                      | (go_at_call 31; (with_reducible refine ((CFk.out _ S4.out).mono ?_)); rintro e w5 ⟨rfl, hb5⟩; have B5 := Lib.hid (below_on B4.out hb5); have S5 := Lib.hid (below_on S4.out hb5); clear c0 c1 x0 x1 x2; have c0 := (S5.out.cell (p := ⟨xb, 0, none⟩) HC.out.lt).trans HC.out.c0; have c1 := (S5.out.cell (p := ⟨xb, 1, none⟩) HC.out.lt).trans HC.out.c1; have x0 := (HCr.out.on B5.out).c0; have x1 := (HCr.out.on B5.out).c1; have x2 := (HCr.out.on B5.out).c2; clear hb5)
                      | (go_at_call 70; (with_reducible refine ((CKk.out _ S5.out).mono ?_)); rintro e w6 ⟨rfl, hb6⟩; have B6 := Lib.hid (below_on B5.out hb6); have S6 := Lib.hid (below_on S5.out hb6); clear c0 c1 x0 x1 x2; have c0 := (S6.out.cell (p := ⟨xb, 0, none⟩) HC.out.lt).trans HC.out.c0; have c1 := (S6.out.cell (p := ⟨xb, 1, none⟩) HC.out.lt).trans HC.out.c1; have x0 := (HCr.out.on B6.out).c0; have x1 := (HCr.out.on B6.out).c1; have x2 := (HCr.out.on B6.out).c2; clear hb6))
                    go_ret
                    exact ⟨rfl, below_on HB.out S2.out.1⟩
                  · by_cases q1 : fr = (k : Int)
                    · have r1 : (fr != (k : Int)) = false := by simp [q1]
                      by_cases q2 : fb < 0
                      · have r2 : decide (0 ≤ fb) = false := decide_eq_false (by omega)
                        have r3 : ¬ 0 ≤ fb := by omega
                        cases tr
                        · obtain rfl : v = false := HY.out.1 (fun h => by cases h.2.2.2)
                          clear HY HV2 q1 q2
                          go_wp2_with (first
                            | (go_at_call 68; (with_reducible refine ((CN _).out.mono ?_)); rintro e w3 ⟨rfl, rfl⟩)
                            | (go_at_call 69; (with_reducible refine ((CGk.out _ S2.out.1).mono ?_)); rintro e w4 ⟨rfl, hb4⟩; have B4 := Lib.hid hb4; have S4 := Lib.hid (below_on S2.out.1 hb4); clear c0 c1 x0 x1 x2; have c0 := (S4.out.cell (p := ⟨xb, 0, none⟩) HC.out.lt).trans HC.out.c0; have c1 := (S4.out.cell (p := ⟨xb, 1, none⟩) HC.out.lt).trans HC.out.c1; have x0 := (HCr.out.on hb4).c0; have x1 := (HCr.out.on hb4).c1; have x2 := (HCr.out.on hb4).c2; clear hb4)
                            | (go_at_call 31; (with_reducible refine ((CFk.out _ S4.out).mono ?_)); rintro e w5 ⟨rfl, hb5⟩; have B5 := Lib.hid (below_on B4.out hb5); have S5 := Lib.hid (below_on S4.out hb5); clear c0 c1 x0 x1 x2; have c0 := (S5.out.cell (p := ⟨xb, 0, none⟩) HC.out.lt).trans HC.out.c0; have c1 := (S5.out.cell (p := ⟨xb, 1, none⟩) HC.out.lt).trans HC.out.c1; have x0 := (HCr.out.on B5.out).c0; have x1 := (HCr.out.on B5.out).c1; have x2 := (HCr.out.on B5.out).c2; clear hb5)
                            | (go_at_call 70; (with_reducible refine ((CKk.out _ S5.out).mono ?_)); rintro e w6 ⟨rfl, hb6⟩; have B6 := Lib.hid (below_on B5.out hb6); have S6 := Lib.hid (below_on S5.out hb6); clear c0 c1 x0 x1 x2; have c0 := (S6.out.cell (p := ⟨xb, 0, none⟩) HC.out.lt).trans HC.out.c0; have c1 := (S6.out.cell (p := ⟨xb, 1, none⟩) HC.out.lt).trans HC.out.c1; have x0 := (HCr.out.on B6.out).c0; have x1 := (HCr.out.on B6.out).c1; have x2 := (HCr.out.on B6.out).c2; clear hb6))
                          go_ret
                          exact ⟨rfl, below_on HB.out S6.out⟩
                        · have HY2 := Lib.hid (HY.out.2 ⟨rfl, q1, q2, rfl⟩)
                          clear HY q1 q2
                          have hst : cntH s.R (k + 1) = cntH s.R k + (if (s.R k).hauled then 1 else 0) := rfl
                          have wc : IntKind.i64.wrap (((cntH s.R k : Nat) : Int) + 1) = ((cntH s.R k + 1 : Nat) : Int) := by rw [IntWalk.i64_in _ (by omega)]; omega
                          obtain ⟨cn, hcn⟩ : ∃ c, cntH s.R k = c := ⟨_, rfl⟩
                          rw [hcn] at hst wc
                          rw [hcn]
                          obtain ⟨hh, hhh⟩ : ∃ b, (s.R k).hauled = b := ⟨_, rfl⟩
                          rw [hhh] at hst x2 HCr CKk
                          have HH := Lib.hid (And.intro hcn hhh)
                          clear hcn hhh hcl
                          cases hh
                          · have e2 := Lib.hid (show cntH s.R (k + 1) = cn from by rw [hst]; simp)
                            clear hst
                            go_wp2_with (first
                              | (go_at_call 68; (with_reducible refine ((CN _).out.mono ?_)); rintro e w3 ⟨rfl, rfl⟩)
                              | (go_at_call 69; (with_reducible refine ((CGk.out _ S2.out.1).mono ?_)); rintro e w4 ⟨rfl, hb4⟩; have B4 := Lib.hid hb4; have S4 := Lib.hid (below_on S2.out.1 hb4); clear c0 c1 x0 x1 x2; have c0 := (S4.out.cell (p := ⟨xb, 0, none⟩) HC.out.lt).trans HC.out.c0; have c1 := (S4.out.cell (p := ⟨xb, 1, none⟩) HC.out.lt).trans HC.out.c1; have x0 := (HCr.out.on hb4).c0; have x1 := (HCr.out.on hb4).c1; have x2 := (HCr.out.on hb4).c2; clear hb4)
                              | (go_at_call 31; (with_reducible refine ((CFk.out _ S4.out).mono ?_)); rintro e w5 ⟨rfl, hb5⟩; have B5 := Lib.hid (below_on B4.out hb5); have S5 := Lib.hid (below_on S4.out hb5); clear c0 c1 x0 x1 x2; have c0 := (S5.out.cell (p := ⟨xb, 0, none⟩) HC.out.lt).trans HC.out.c0; have c1 := (S5.out.cell (p := ⟨xb, 1, none⟩) HC.out.lt).trans HC.out.c1; have x0 := (HCr.out.on B5.out).c0; have x1 := (HCr.out.on B5.out).c1; have x2 := (HCr.out.on B5.out).c2; clear hb5)
                              | (go_at_call 70; (with_reducible refine ((CKk.out _ S5.out).mono ?_)); rintro e w6 ⟨rfl, hb6⟩; have B6 := Lib.hid (below_on B5.out hb6); have S6 := Lib.hid (below_on S5.out hb6); clear c0 c1 x0 x1 x2; have c0 := (S6.out.cell (p := ⟨xb, 0, none⟩) HC.out.lt).trans HC.out.c0; have c1 := (S6.out.cell (p := ⟨xb, 1, none⟩) HC.out.lt).trans HC.out.c1; have x0 := (HCr.out.on B6.out).c0; have x1 := (HCr.out.on B6.out).c1; have x2 := (HCr.out.on B6.out).c2; clear hb6))
                            have S7 := Lib.hid (And.intro S6.out HY2.out)
                            clear HY2
                            go_roundg (nr - (k + 1))
                            case measure => omega
                            case rel => exact ⟨k + 1, by rw [e2.out], rfl, rfl, by omega, S7⟩
                          · have e2 := Lib.hid (show cntH s.R (k + 1) = cn + 1 from by rw [hst]; simp)
                            clear hst
                            go_wp2_with (first
                              | (go_at_call 68; (with_reducible refine ((CN _).out.mono ?_)); rintro e w3 ⟨rfl, rfl⟩)
                              | (go_at_call 69; (with_reducible refine ((CGk.out _ S2.out.1).mono ?_)); rintro e w4 ⟨rfl, hb4⟩; have B4 := Lib.hid hb4; have S4 := Lib.hid (below_on S2.out.1 hb4); clear c0 c1 x0 x1 x2; have c0 := (S4.out.cell (p := ⟨xb, 0, none⟩) HC.out.lt).trans HC.out.c0; have c1 := (S4.out.cell (p := ⟨xb, 1, none⟩) HC.out.lt).trans HC.out.c1; have x0 := (HCr.out.on hb4).c0; have x1 := (HCr.out.on hb4).c1; have x2 := (HCr.out.on hb4).c2; clear hb4)
                              | (go_at_call 31; (with_reducible refine ((CFk.out _ S4.out).mono ?_)); rintro e w5 ⟨rfl, hb5⟩; have B5 := Lib.hid (below_on B4.out hb5); have S5 := Lib.hid (below_on S4.out hb5); clear c0 c1 x0 x1 x2; have c0 := (S5.out.cell (p := ⟨xb, 0, none⟩) HC.out.lt).trans HC.out.c0; have c1 := (S5.out.cell (p := ⟨xb, 1, none⟩) HC.out.lt).trans HC.out.c1; have x0 := (HCr.out.on B5.out).c0; have x1 := (HCr.out.on B5.out).c1; have x2 := (HCr.out.on B5.out).c2; clear hb5)
                              | (go_at_call 70; (with_reducible refine ((CKk.out _ S5.out).mono ?_)); rintro e w6 ⟨rfl, hb6⟩; have B6 := Lib.hid (below_on B5.out hb6); have S6 := Lib.hid (below_on S5.out hb6); clear c0 c1 x0 x1 x2; have c0 := (S6.out.cell (p := ⟨xb, 0, none⟩) HC.out.lt).trans HC.out.c0; have c1 := (S6.out.cell (p := ⟨xb, 1, none⟩) HC.out.lt).trans HC.out.c1; have x0 := (HCr.out.on B6.out).c0; have x1 := (HCr.out.on B6.out).c1; have x2 := (HCr.out.on B6.out).c2; clear hb6))
                            have S7 := Lib.hid (And.intro S6.out HY2.out)
                            clear HY2
                            go_roundg (nr - (k + 1))
                            case measure => omega
                            case rel => exact ⟨k + 1, by (rw [e2.out]; try rfl), rfl, rfl, by omega, S7⟩
                      · have r2 : decide (0 ≤ fb) = true := decide_eq_true (by omega)
                        have r3 : 0 ≤ fb := by omega
                        obtain rfl : v = false := HY.out.1 (fun h => q2 h.2.2.1)
                        clear HY HV2 q1 q2
                        go_wp2_with (first
                          | (go_at_call 68; (with_reducible refine ((CN _).out.mono ?_)); rintro e w3 ⟨rfl, rfl⟩)
                          | (go_at_call 69; (with_reducible refine ((CGk.out _ S2.out.1).mono ?_)); rintro e w4 ⟨rfl, hb4⟩; have B4 := Lib.hid hb4; have S4 := Lib.hid (below_on S2.out.1 hb4); clear c0 c1 x0 x1 x2; have c0 := (S4.out.cell (p := ⟨xb, 0, none⟩) HC.out.lt).trans HC.out.c0; have c1 := (S4.out.cell (p := ⟨xb, 1, none⟩) HC.out.lt).trans HC.out.c1; have x0 := (HCr.out.on hb4).c0; have x1 := (HCr.out.on hb4).c1; have x2 := (HCr.out.on hb4).c2; clear hb4)
                          | (go_at_call 31; (with_reducible refine ((CFk.out _ S4.out).mono ?_)); rintro e w5 ⟨rfl, hb5⟩; have B5 := Lib.hid (below_on B4.out hb5); have S5 := Lib.hid (below_on S4.out hb5); clear c0 c1 x0 x1 x2; have c0 := (S5.out.cell (p := ⟨xb, 0, none⟩) HC.out.lt).trans HC.out.c0; have c1 := (S5.out.cell (p := ⟨xb, 1, none⟩) HC.out.lt).trans HC.out.c1; have x0 := (HCr.out.on B5.out).c0; have x1 := (HCr.out.on B5.out).c1; have x2 := (HCr.out.on B5.out).c2; clear hb5)
                          | (go_at_call 70; (with_reducible refine ((CKk.out _ S5.out).mono ?_)); rintro e w6 ⟨rfl, hb6⟩; have B6 := Lib.hid (below_on B5.out hb6); have S6 := Lib.hid (below_on S5.out hb6); clear c0 c1 x0 x1 x2; have c0 := (S6.out.cell (p := ⟨xb, 0, none⟩) HC.out.lt).trans HC.out.c0; have c1 := (S6.out.cell (p := ⟨xb, 1, none⟩) HC.out.lt).trans HC.out.c1; have x0 := (HCr.out.on B6.out).c0; have x1 := (HCr.out.on B6.out).c1; have x2 := (HCr.out.on B6.out).c2; clear hb6))
                        go_ret
                        exact ⟨rfl, below_on HB.out S5.out⟩
                    · have r1 : (fr != (k : Int)) = true := by simp [q1]
                      obtain rfl : v = false := HY.out.1 (fun h => q1 h.2.1)
                      clear HY HV2 q1
                      go_wp2_with (first
                        | (go_at_call 68; (with_reducible refine ((CN _).out.mono ?_)); rintro e w3 ⟨rfl, rfl⟩)
                        | (go_at_call 69; (with_reducible refine ((CGk.out _ S2.out.1).mono ?_)); rintro e w4 ⟨rfl, hb4⟩; have B4 := Lib.hid hb4; have S4 := Lib.hid (below_on S2.out.1 hb4); clear c0 c1 x0 x1 x2; have c0 := (S4.out.cell (p := ⟨xb, 0, none⟩) HC.out.lt).trans HC.out.c0; have c1 := (S4.out.cell (p := ⟨xb, 1, none⟩) HC.out.lt).trans HC.out.c1; have x0 := (HCr.out.on hb4).c0; have x1 := (HCr.out.on hb4).c1; have x2 := (HCr.out.on hb4).c2; clear hb4)
                        | (go_at_call 31; (with_reducible refine ((CFk.out _ S4.out).mono ?_)); rintro e w5 ⟨rfl, hb5⟩; have B5 := Lib.hid (below_on B4.out hb5); have S5 := Lib.hid (below_on S4.out hb5); clear c0 c1 x0 x1 x2; have c0 := (S5.out.cell (p := ⟨xb, 0, none⟩) HC.out.lt).trans HC.out.c0; have c1 := (S5.out.cell (p := ⟨xb, 1, none⟩) HC.out.lt).trans HC.out.c1; have x0 := (HCr.out.on B5.out).c0; have x1 := (HCr.out.on B5.out).c1; have x2 := (HCr.out.on B5.out).c2; clear hb5)
                        | (go_at_call 70; (with_reducible refine ((CKk.out _ S5.out).mono ?_)); rintro e w6 ⟨rfl, hb6⟩; have B6 := Lib.hid (below_on B5.out hb6); have S6 := Lib.hid (below_on S5.out hb6); clear c0 c1 x0 x1 x2; have c0 := (S6.out.cell (p := ⟨xb, 0, none⟩) HC.out.lt).trans HC.out.c0; have c1 := (S6.out.cell (p := ⟨xb, 1, none⟩) HC.out.lt).trans HC.out.c1; have x0 := (HCr.out.on B6.out).c0; have x1 := (HCr.out.on B6.out).c1; have x2 := (HCr.out.on B6.out).c2; clear hb6))
                      go_ret
                      exact ⟨rfl, below_on HB.out S4.out⟩
                · have li : ¬ (k : Int) < (nr : Int) := by omega
                  have e : nr = k := by omega
                  subst e
                  have R0 := Lib.hid (below_on HB.out S.out.1)
                  have hv3 : v = true ↔ cntH s.R nr ≤ 1 := ⟨fun h => by have := (HV2.out.1 h).2.2; rwa [HNB.out.2] at this, fun h => HV2.out.2 ⟨fun i hi => HB6.out i (by rwa [HNB.out.1] at hi), fun k hk => S.out.2 k (by rwa [HNB.out.2] at hk), by rwa [HNB.out.2]⟩⟩
                  obtain ⟨cn, hcn⟩ : ∃ c, cntH s.R nr = c := ⟨_, rfl⟩
                  rw [hcn] at hv3
                  rw [hcn]
                  clear S HV2 hcn hcl
                  by_cases q : cn ≤ 1
                  · obtain rfl : v = true := hv3.2 q
                    have d1 : decide ((cn : Int) ≤ 1) = true := decide_eq_true (by omega)
                    clear hv3
                    go_wp2_with fail
                    go_ret
                    exact ⟨rfl, R0.out⟩
                  · obtain rfl : v = false := by
                      cases e : v
                      · rfl
                      · exact absurd (hv3.1 e) q
                    have d1 : decide ((cn : Int) ≤ 1) = false := decide_eq_false (by omega)
                    have d2 : ¬ (cn : Int) ≤ 1 := by omega
                    clear hv3
                    go_wp2_with fail
                    go_ret
                    exact ⟨rfl, R0.out⟩
        · have g4 : 6 < (s.nr : Int) := by omega
          obtain rfl : v = false := HN.out (by omega)
          clear HV HN hC
          go_enter Tryd.func19, Tryd.ntmps19
          go_upto_region 1 with fail
          rw [← hxb, ← hw1]
          clear hxb hw1
          go_wp2_with fail
          go_ret
          exact ⟨rfl, HB.out⟩
      · have g3 : (s.nr : Int) < 1 := by omega
        obtain rfl : v = false := HN.out (by omega)
        clear HV HN hC
        go_enter Tryd.func19, Tryd.ntmps19
        go_upto_region 1 with fail
        rw [← hxb, ← hw1]
        clear hxb hw1
        go_wp2_with fail
        go_ret
        exact ⟨rfl, HB.out⟩
    · have g2 : 6 < (s.nb : Int) := by omega
      obtain rfl : v = false := HN.out (by omega)
      clear HV HN hC
      go_enter Tryd.func19, Tryd.ntmps19
      go_upto_region 1 with fail
      rw [← hxb, ← hw1]
      clear hxb hw1
      go_wp2_with fail
      go_ret
      exact ⟨rfl, HB.out⟩
  · have g1 : (s.nb : Int) < 1 := by omega
    obtain rfl : v = false := HN.out (by omega)
    clear HV HN hC
    go_enter Tryd.func19, Tryd.ntmps19
    go_upto_region 1 with fail
    rw [← hxb, ← hw1]
    clear hxb hw1
    go_wp2_with fail
    go_ret
    exact ⟨rfl, HB.out⟩
end Go.Proofs.YtcghjjfpjiacfaaDoor
