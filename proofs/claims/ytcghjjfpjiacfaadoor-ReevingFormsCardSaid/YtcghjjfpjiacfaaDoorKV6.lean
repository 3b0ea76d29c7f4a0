/- Layer 10: package reeving: which systems are valid. -/
import Derived.Test.YtcghjjfpjiacfaaDoorKV5
namespace Go.Proofs.YtcghjjfpjiacfaaDoor
open Go.ChangeShapes Go.WideShapes Go.ChangeAt Go.RowKit Go.Joins Go.Deep Go.Shelf
set_option linter.unusedVariables false

theorem kbool_of (P : Prop) : ∃ v : Bool, v = true ↔ P := by
  by_cases h : P
  · exact ⟨true, by simp [h]⟩
  · exact ⟨false, by simp [h]⟩
theorem sysOk_iff (s : Sys) : SysOk s ↔ ((1 ≤ s.nb ∧ s.nb ≤ 6) ∧ (1 ≤ s.nr ∧ s.nr ≤ 6) ∧ NmOk s.nm (s.nb + s.nr)) ∧ ¬ (∃ i, i < s.nb ∧ (!(decide (0 ≤ s.bw i) && decide (s.bw i ≤ 16777216))) = true) ∧ ¬ (∃ k, k < s.nr ∧ (!decide (RopOk (knB s.bn s.nb) (s.R k))) = true) ∧ cntH s.R s.nr ≤ 1 := by
  constructor
  · intro h
    refine ⟨⟨⟨h.b1, h.b6⟩, ⟨h.r1, h.r6⟩, fun k hk => ⟨h.nam k hk, h.dis k hk⟩⟩, ?_, ?_, h.one⟩
    · rintro ⟨i, hi, hb⟩
      have := h.wt i hi
      simp at hb
      omega
    · rintro ⟨k, hk, hb⟩
      have := h.rop k hk
      simp [this] at hb
  · rintro ⟨⟨h1, h2, h3⟩, h4, h5, h6⟩
    refine ⟨h1.1, h1.2, h2.1, h2.2, fun k hk => (h3 k hk).1, fun k hk => (h3 k hk).2, fun i hi => ?_, fun k hk => ?_, h6⟩
    · refine Decidable.byContradiction fun hn => h4 ⟨i, hi, ?_⟩
      simp
      omega
    · refine Decidable.byContradiction fun hn => h5 ⟨k, hk, ?_⟩
      simp [hn]
theorem SysSm.rop {s : Sys} (h : SysSm s) (hg : SysRg s) {k : Nat} (hk : k < s.nr) : RopSm (s.R k) := ⟨h.h k hk, h.hn k hk, hg.h k hk⟩
theorem SysSm.nm {s : Sys} (h : SysSm s) : ∀ k, k < s.nb + s.nr → (s.nm k).size ≤ 60 := fun k hk => by
  unfold Sys.nm
  split
  · exact h.bn k (by assumption)
  · exact h.rn _ (by omega)
set_option maxHeartbeats 8000000 in
theorem kValid_any (s : Sys) (w : World) (hs : s.At w) (hsm : SysSm s) (hrg : SysRg s) (v : Bool) (hv : v = true ↔ SysOk s) :
    Calls Tryd.prog 18 #[s.val] w fun e w' => e = .returned (.bool v) ∧ Below w.heap.size w w' := by
  unfold Sys.val
  have hb9 := hsm.b
  have hr9 := hsm.r
  obtain ⟨w1, hw1⟩ : ∃ W, W = w.alloc (Obj.cells #[Value.slice s.ba s.nb s.bc, .slice s.ra s.nr s.rc] 36) := ⟨_, rfl⟩
  obtain ⟨xb, hxb⟩ : ∃ x, x = w.heap.size := ⟨_, rfl⟩
  have hC : C2 w1 xb (.slice s.ba s.nb s.bc) (.slice s.ra s.nr s.rc) := by rw [hw1, hxb]; exact C2.new _ _ _ _
  have hB : Below w.heap.size w w1 := by rw [hw1]; exact (Below.refl _ _).alloc (Nat.le_refl _) _
  have HB := Lib.hid hB
  have HS := Lib.hid (hs.on hB)
  have HC := Lib.hid hC
  have HP := Lib.hid (And.intro hsm hrg)
  obtain ⟨t3, ht3⟩ := kbool_of (NmOk s.nm (s.nb + s.nr))
  have CNm := Lib.hid (namesOf_any s.ba s.nb s.bc s.bn s.bw s.ra s.nr s.rc s.R s.nm w1 (hs.on hB).b (hs.on hB).r.l (by omega) (by omega) (fun k hk => sys_nm_b s hk) (fun k hk => sys_nm_r s k))
  have CAr : Hid (∀ (W : World) pa pc, StrL W pa (s.nb + s.nr) s.nm → Calls Tryd.prog 59 #[.slice pa (s.nb + s.nr : Nat) pc] W fun e w' => e = .returned (.bool t3) ∧ Below W.heap.size W w') :=
    fun W pa pc h => areNames_any pa (s.nb + s.nr) pc s.nm W h (fun i hi => by have := hsm.nm i hi; omega) (by omega) t3 ht3
  have C1 := fun W => Lib.hid (kwithin_any (s.nb : Int) 1 6 W)
  have C2 := fun W => Lib.hid (kwithin_any (s.nr : Int) 1 6 W)
  obtain ⟨t1, ht1⟩ : ∃ t, (decide ((1 : Int) ≤ (s.nb : Int)) && decide ((s.nb : Int) ≤ 6)) = t := ⟨_, rfl⟩
  obtain ⟨t2, ht2⟩ : ∃ t, (decide ((1 : Int) ≤ (s.nr : Int)) && decide ((s.nr : Int) ≤ 6)) = t := ⟨_, rfl⟩
  rw [ht1] at C1
  rw [ht2] at C2
  have e1 : t1 = true ↔ 1 ≤ s.nb ∧ s.nb ≤ 6 := by rw [← ht1]; simp; omega
  have e2 : t2 = true ↔ 1 ≤ s.nr ∧ s.nr ≤ 6 := by rw [← ht2]; simp; omega
  have HV : Hid (v = true ↔ ((t1 = true ∧ t2 = true ∧ t3 = true) ∧ ¬ (∃ i, i < s.nb ∧ (!(decide (0 ≤ s.bw i) && decide (s.bw i ≤ 16777216))) = true) ∧ ¬ (∃ k, k < s.nr ∧ (!decide (RopOk (knB s.bn s.nb) (s.R k))) = true) ∧ cntH s.R s.nr ≤ 1)) := by
    show _ ↔ _
    rw [hv, sysOk_iff, e1, e2, ht3]
  have eg1 : ∀ args w, (callFunc 61 args).run Tryd.prog w = .ok (.enter 61 args) w := enters_of Tryd.func61 (by kernel_rfl) rfl
  have eg2 : ∀ args w, (callFunc 63 args).run Tryd.prog w = .ok (.enter 63 args) w := enters_of Tryd.func63 (by kernel_rfl) rfl
  have HEG := Lib.hid (And.intro eg1 eg2)
  have c0 := hC.c0
  have c1 := hC.c1
  clear hs hC hB hsm hrg hv ht1 ht2 e1 e2 ht3 eg1 eg2
  have no : ¬ (t1 = true ∧ t2 = true ∧ t3 = true) → v = false := fun h => by
    cases e : v
    · rfl
    · exact absurd (HV.out.1 e).1 h
  have HN := Lib.hid no
  clear no
  cases t1
  · obtain rfl : v = false := HN.out (by simp)
    clear HV HN
    go_enter Tryd.func18, Tryd.ntmps18
    go_upto_region 1 with fail
    rw [← hxb, ← hw1]
    clear hxb hw1
    go_wp2_with (first
      | (go_at_call 58; (with_reducible refine ((C1 _).out.mono ?_)); rintro e w2 ⟨rfl, rfl⟩)
      | (go_at_call 58; (with_reducible refine ((C2 _).out.mono ?_)); rintro e w2 ⟨rfl, rfl⟩)
      | (go_at_call 60; (with_reducible refine (CNm.out.mono ?_)); rintro e w2 ⟨pa, pc, rfl, hst, hb2⟩; have HL2 := Lib.hid (And.intro hst hb2); clear hst hb2)
      | (go_at_call 59; (with_reducible refine ((CAr.out _ _ _ HL2.out.1).mono ?_)); rintro e w3 ⟨rfl, hb3⟩; have HL3 := Lib.hid (below_on HL2.out.2 hb3); have HB3 := Lib.hid (below_on HB.out HL3.out); clear hb3))
    go_ret
    exact ⟨rfl, HB.out⟩
  · cases t2
    · obtain rfl : v = false := HN.out (by simp)
      clear HV HN
      go_enter Tryd.func18, Tryd.ntmps18
      go_upto_region 1 with fail
      rw [← hxb, ← hw1]
      clear hxb hw1
      go_wp2_with (first
        | (go_at_call 58; (with_reducible refine ((C1 _).out.mono ?_)); rintro e w2 ⟨rfl, rfl⟩)
        | (go_at_call 58; (with_reducible refine ((C2 _).out.mono ?_)); rintro e w2 ⟨rfl, rfl⟩)
        | (go_at_call 60; (with_reducible refine (CNm.out.mono ?_)); rintro e w2 ⟨pa, pc, rfl, hst, hb2⟩; have HL2 := Lib.hid (And.intro hst hb2); clear hst hb2)
        | (go_at_call 59; (with_reducible refine ((CAr.out _ _ _ HL2.out.1).mono ?_)); rintro e w3 ⟨rfl, hb3⟩; have HL3 := Lib.hid (below_on HL2.out.2 hb3); have HB3 := Lib.hid (below_on HB.out HL3.out); clear hb3))
      go_ret
      exact ⟨rfl, HB.out⟩
    · cases t3
      · obtain rfl : v = false := HN.out (by simp)
        clear HV HN
        go_enter Tryd.func18, Tryd.ntmps18
        go_upto_region 1 with fail
        rw [← hxb, ← hw1]
        clear hxb hw1
        go_wp2_with (first
          | (go_at_call 58; (with_reducible refine ((C1 _).out.mono ?_)); rintro e w2 ⟨rfl, rfl⟩)
          | (go_at_call 58; (with_reducible refine ((C2 _).out.mono ?_)); rintro e w2 ⟨rfl, rfl⟩)
          | (go_at_call 60; (with_reducible refine (CNm.out.mono ?_)); rintro e w2 ⟨pa, pc, rfl, hst, hb2⟩; have HL2 := Lib.hid (And.intro hst hb2); clear hst hb2)
          | (go_at_call 59; (with_reducible refine ((CAr.out _ _ _ HL2.out.1).mono ?_)); rintro e w3 ⟨rfl, hb3⟩; have HL3 := Lib.hid (below_on HL2.out.2 hb3); have HB3 := Lib.hid (below_on HB.out HL3.out); clear hb3))
        go_ret
        exact ⟨rfl, HB3.out⟩
      · have HV2 : Hid (v = true ↔ (¬ (∃ i, i < s.nb ∧ (!(decide (0 ≤ s.bw i) && decide (s.bw i ≤ 16777216))) = true) ∧ ¬ (∃ k, k < s.nr ∧ (!decide (RopOk (knB s.bn s.nb) (s.R k))) = true) ∧ cntH s.R s.nr ≤ 1)) := ⟨fun h => (HV.out.1 h).2, fun h => HV.out.2 ⟨⟨rfl, rfl, rfl⟩, h⟩⟩
        clear HV HN
        go_enter Tryd.func18, Tryd.ntmps18
        go_upto_region 1 with fail
        rw [← hxb, ← hw1]
        clear hxb hw1
        go_upto_region 3 with (first
          | (go_at_call 58; (with_reducible refine ((C1 _).out.mono ?_)); rintro e w2 ⟨rfl, rfl⟩)
          | (go_at_call 58; (with_reducible refine ((C2 _).out.mono ?_)); rintro e w2 ⟨rfl, rfl⟩)
          | (go_at_call 60; (with_reducible refine (CNm.out.mono ?_)); rintro e w2 ⟨pa, pc, rfl, hst, hb2⟩; have HL2 := Lib.hid (And.intro hst hb2); clear hst hb2)
          | (go_at_call 59; (with_reducible refine ((CAr.out _ _ _ HL2.out.1).mono ?_)); rintro e w3 ⟨rfl, hb3⟩; have HL3 := Lib.hid (below_on HL2.out.2 hb3); have HB3 := Lib.hid (below_on HB.out HL3.out); clear hb3))
        have HS3 := Lib.hid (HS.out.on HL3.out)
        have c0 := (HL3.out.cell (p := ⟨xb, 0, none⟩) HC.out.lt).trans HC.out.c0
        have c1 := (HL3.out.cell (p := ⟨xb, 1, none⟩) HC.out.lt).trans HC.out.c1
        have CRw := Lib.hid (rowsOf_any s.ba s.nb s.bc s.bn s.bw w3 HS3.out.b (fun i hi => by have := HP.out.1.bn i hi; omega) (by omega))
        clear CAr C1 C2 HL2
        go_upto_region 5 with (go_at_call 62; (with_reducible refine (CRw.out.mono ?_)); rintro e w4 ⟨mb, rfl, hmb, hix, hb4⟩; have HX4 := Lib.hid (And.intro hix hb4); clear hix hb4 hmb)
        obtain ⟨w5, hw5⟩ : ∃ W, W = w4.alloc (Obj.cells #[Value.map (some mb)] 99) := ⟨_, rfl⟩
        obtain ⟨cb, hcb⟩ : ∃ x, x = w4.heap.size := ⟨_, rfl⟩
        have hc5 : w5.cell? ⟨cb, 0, none⟩ = some (.map (some mb)) := by rw [hw5, hcb]; simp
        have hl5 : cb < w5.heap.size := by rw [hw5, hcb]; simp
        have hb5 : Below w4.heap.size w4 w5 := by rw [hw5]; exact (Below.refl _ _).alloc (Nat.le_refl _) _
        rw [← hw5, ← hcb]
        clear hw5 hcb c0 c1
        have HB5 := Lib.hid (below_on HX4.out.2 hb5)
        have HS5 := Lib.hid (HS3.out.on HB5.out)
        have hx5 := HX4.out.1.on hb5
        have c0 := ((HB5.out.cell (p := ⟨xb, 0, none⟩) (Nat.lt_of_lt_of_le HC.out.lt HL3.out.size)).trans (HL3.out.cell (p := ⟨xb, 0, none⟩) HC.out.lt)).trans HC.out.c0
        have c1 := ((HB5.out.cell (p := ⟨xb, 1, none⟩) (Nat.lt_of_lt_of_le HC.out.lt HL3.out.size)).trans (HL3.out.cell (p := ⟨xb, 1, none⟩) HC.out.lt)).trans HC.out.c1
        have c1l := Nat.lt_of_lt_of_le (Nat.lt_of_lt_of_le HC.out.lt HL3.out.size) HB5.out.size
        have CB := Lib.hid (contB_any 61 #[] s.ba s.nb s.bc s.bn s.bw (fun i => !(decide (0 ≤ s.bw i) && decide (s.bw i ≤ 16777216))) w5 HS5.out.b (by omega) HEG.out.1 (fun i hi W hb => valid1_any (s.bn i) (s.bw i) W))
        obtain ⟨t4, ht4⟩ : ∃ t, decide (∃ i, i < s.nb ∧ (!(decide (0 ≤ s.bw i) && decide (s.bw i ≤ 16777216))) = true) = t := ⟨_, rfl⟩
        obtain ⟨t5, ht5⟩ : ∃ t, decide (∃ k, k < s.nr ∧ (!decide (RopOk (knB s.bn s.nb) (s.R k))) = true) = t := ⟨_, rfl⟩
        rw [ht4] at CB
        have CQ : Hid (∀ W, Below w5.heap.size w5 W → Calls Tryd.prog 66 #[.slice s.ra s.nr s.rc, .func (.func 63) #[] #[.pointer (some ⟨cb, 0, none⟩)]] W fun e w' => e = .returned (.bool t5) ∧ Below W.heap.size W w') := fun W hW => by
          rw [← ht5]
          exact contQ_any 63 #[.pointer (some ⟨cb, 0, none⟩)] s.ra s.nr s.rc s.R (fun k => !decide (RopOk (knB s.bn s.nb) (s.R k))) W (HS5.out.r.l.on hW) (by omega) HEG.out.2 (fun k hk W2 hb2 => valid2_any (s.R k) cb mb s.nb s.bn W2 (((hW.trans (hb2.mono hW.size)).cell (p := ⟨cb, 0, none⟩) hl5).trans hc5) (Nat.lt_of_lt_of_le hl5 (Nat.le_trans hW.size hb2.size)) (hx5.on (hW.trans (hb2.mono hW.size))) ((HS5.out.r.h k hk).on (hW.trans (hb2.mono hW.size))) (HP.out.1.rop HP.out.2 hk))
        have CH : Hid (∀ W, Below w5.heap.size w5 W → Calls Tryd.prog 67 #[.slice s.ra s.nr s.rc] W fun e w' => e = .returned (.int .i64 (cntH s.R s.nr : Nat)) ∧ Below W.heap.size W w') := fun W hW => countH_any s.ra s.nr s.rc s.R W (HS5.out.r.l.on hW) (by omega)
        have e4 : (∃ i, i < s.nb ∧ (!(decide (0 ≤ s.bw i) && decide (s.bw i ≤ 16777216))) = true) ↔ t4 = true := by rw [← ht4]; exact decide_eq_true_iff.symm
        have e5 : (∃ k, k < s.nr ∧ (!decide (RopOk (knB s.bn s.nb) (s.R k))) = true) ↔ t5 = true := by rw [← ht5]; exact decide_eq_true_iff.symm
        have hv2 := HV2.out
        rw [e4, e5] at hv2
        have HW := Lib.hid hv2
        have HF := Lib.hid (below_on HB3.out HB5.out)
        clear ht4 ht5 e4 e5 hv2 HV2 hc5 hl5 hb5 hx5 HX4 HS3 HS5 HB5 CRw CNm HB3 HL3 HEG
        obtain ⟨cn, hcn⟩ : ∃ c, cntH s.R s.nr = c := ⟨_, rfl⟩
        rw [hcn] at CH HW
        have no : ¬ (¬ t4 = true ∧ ¬ t5 = true ∧ cn ≤ 1) → v = false := fun h => by
          cases e : v
          · rfl
          · exact absurd (HW.out.1 e) h
        have HN := Lib.hid no
        clear no hcn
        cases t4
        · cases t5
          · by_cases h1 : cn ≤ 1
            · have d1 : decide ((cn : Int) ≤ 1) = true := decide_eq_true (by omega)
              obtain rfl : v = true := HW.out.2 ⟨by simp, by simp, h1⟩
              clear HW HN
              go_wp2_with (first
                | (go_at_call 65; (with_reducible refine (CB.out.mono ?_)); rintro e w6 ⟨rfl, hb6⟩; have HB6 := Lib.hid hb6; have HF5 := Lib.hid (below_on HF.out hb6); have c1 := (hb6.cell (p := ⟨xb, 1, none⟩) c1l).trans c1; clear hb6)
                | (go_at_call 66; (with_reducible refine ((CQ.out _ HB6.out).mono ?_)); rintro e w7 ⟨rfl, hb7⟩; have HB7 := Lib.hid (below_on HB6.out hb7); have HF6 := Lib.hid (below_on HF5.out hb7); have c1 := (hb7.cell (p := ⟨xb, 1, none⟩) (Nat.lt_of_lt_of_le c1l HB6.out.size)).trans c1; clear hb7)
                | (go_at_call 67; (with_reducible refine ((CH.out _ HB7.out).mono ?_)); rintro e w8 ⟨rfl, hb8⟩; have HF7 := Lib.hid (below_on HF6.out hb8); clear hb8))
              go_ret
              exact ⟨rfl, HF7.out⟩
            · have d1 : decide ((cn : Int) ≤ 1) = false := decide_eq_false (by omega)
              have d2 : ¬ (cn : Int) ≤ 1 := by omega
              obtain rfl : v = false := HN.out (fun q => h1 q.2.2)
              clear HW HN
              go_wp2_with (first
                | (go_at_call 65; (with_reducible refine (CB.out.mono ?_)); rintro e w6 ⟨rfl, hb6⟩; have HB6 := Lib.hid hb6; have HF5 := Lib.hid (below_on HF.out hb6); have c1 := (hb6.cell (p := ⟨xb, 1, none⟩) c1l).trans c1; clear hb6)
                | (go_at_call 66; (with_reducible refine ((CQ.out _ HB6.out).mono ?_)); rintro e w7 ⟨rfl, hb7⟩; have HB7 := Lib.hid (below_on HB6.out hb7); have HF6 := Lib.hid (below_on HF5.out hb7); have c1 := (hb7.cell (p := ⟨xb, 1, none⟩) (Nat.lt_of_lt_of_le c1l HB6.out.size)).trans c1; clear hb7)
                | (go_at_call 67; (with_reducible refine ((CH.out _ HB7.out).mono ?_)); rintro e w8 ⟨rfl, hb8⟩; have HF7 := Lib.hid (below_on HF6.out hb8); clear hb8))
              go_ret
              exact ⟨rfl, HF7.out⟩
          · obtain rfl : v = false := HN.out (fun q => q.2.1 rfl)
            clear HW HN
            go_wp2_with (first
              | (go_at_call 65; (with_reducible refine (CB.out.mono ?_)); rintro e w6 ⟨rfl, hb6⟩; have HB6 := Lib.hid hb6; have HF5 := Lib.hid (below_on HF.out hb6); have c1 := (hb6.cell (p := ⟨xb, 1, none⟩) c1l).trans c1; clear hb6)
              | (go_at_call 66; (with_reducible refine ((CQ.out _ HB6.out).mono ?_)); rintro e w7 ⟨rfl, hb7⟩; have HB7 := Lib.hid (below_on HB6.out hb7); have HF6 := Lib.hid (below_on HF5.out hb7); have c1 := (hb7.cell (p := ⟨xb, 1, none⟩) (Nat.lt_of_lt_of_le c1l HB6.out.size)).trans c1; clear hb7)
              | (go_at_call 67; (with_reducible refine ((CH.out _ HB7.out).mono ?_)); rintro e w8 ⟨rfl, hb8⟩; have HF7 := Lib.hid (below_on HF6.out hb8); clear hb8))
            go_ret
            exact ⟨rfl, HF6.out⟩
        · obtain rfl : v = false := HN.out (fun q => q.1 rfl)
          clear HW HN
          go_wp2_with (first
            | (go_at_call 65; (with_reducible refine (CB.out.mono ?_)); rintro e w6 ⟨rfl, hb6⟩; have HB6 := Lib.hid hb6; have HF5 := Lib.hid (below_on HF.out hb6); have c1 := (hb6.cell (p := ⟨xb, 1, none⟩) c1l).trans c1; clear hb6)
            | (go_at_call 66; (with_reducible refine ((CQ.out _ HB6.out).mono ?_)); rintro e w7 ⟨rfl, hb7⟩; have HB7 := Lib.hid (below_on HB6.out hb7); have HF6 := Lib.hid (below_on HF5.out hb7); have c1 := (hb7.cell (p := ⟨xb, 1, none⟩) (Nat.lt_of_lt_of_le c1l HB6.out.size)).trans c1; clear hb7)
            | (go_at_call 67; (with_reducible refine ((CH.out _ HB7.out).mono ?_)); rintro e w8 ⟨rfl, hb8⟩; have HF7 := Lib.hid (below_on HF6.out hb8); clear hb8))
          go_ret
          exact ⟨rfl, HF5.out⟩
end Go.Proofs.YtcghjjfpjiacfaaDoor
