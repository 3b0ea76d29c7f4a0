/- Layer 4: LinearHolds returns true. -/
import Derived.Test.YtjggnmbdgagkoaaLHc
import Derived.Test.YtjggnmbdgagkoaaLAwake
namespace Go.Proofs.Ytjggnmbdgagkoaa
set_option linter.unusedVariables false
open Go.RowKit Go.Shelf

theorem vld_fri {x : Int × Int} (h : Vld x.1 x.2) : FrI x := ⟨by have := h.n1; omega, by have := h.n2; omega, by have := h.d1; omega, by have := h.d2; omega⟩

structure HldBR (yb R r : Nat) (fi : Int) (Wc : World) (L : Nat → Bool) (v : Nat → Value) (g : Nat → Nat) (W : World) : Prop where
  st : Below Wc.heap.size Wc W
  f0 : Had L 0 (v 63 = .slice (some ⟨yb, 0, none⟩) R R)
  f1 : Had L 1 (v 64 = .int .i64 (r : Int))
  f2 : Had L 2 (v 65 = .pointer (some ⟨yb, r * 2, none⟩))
  f3 : Had L 3 (v 66 = .agg #[.int .i64 fi, .int .i64 1])
  f4 : Had L 4 (v 67 = .int .i64 fi)
  f5 : Had L 5 (v 68 = .agg #[.int .i64 fi, .int .i64 1])
  f6 : Had L 6 (v 69 = .bool false)

set_option maxRecDepth 100000 in
set_option maxHeartbeats 32000000 in
theorem holds_walk (ma : Option Addr) (R mc : Nat) (Ra : Nat → Option Addr) (Ln Ka : Nat → Nat) (Z : Nat → Nat → Int) (ra : Option Addr) (nr rc : Nat) (f : Nat → Int) (w : World) (hM : AMat w ma R Ra Ln Ka Z) (hR : R ≤ 9223372036854775807) (hr : IRow w ra nr f) (hc : nr ≤ rc) (hc2 : rc ≤ 9223372036854775807) :
    Calls Try.prog 6 #[.slice ma R mc, .slice ra nr rc] w fun e w' => e = .returned (.bool true) ∧ Below w.heap.size w w' := by
  have HM := Lib.hid hM
  have HR := Lib.hid hr
  have CA := Lib.hid (lawake_any w)
  clear hM hr
  go_enter Try.func6, Try.ntmps6
  go_wp2_with fail
  (with_reducible refine ((CA.out).mono ?_))
  rintro e w1 ⟨rfl, hb1⟩
  have HB1 := Lib.hid hb1
  clear CA hb1
  obtain ⟨tl, htl⟩ : ∃ v, lgB R Ln = v := ⟨_, rfl⟩
  have CL0 := long_any ma mc R Ra Ln Ka Z w1 (HM.out.on HB1.out) hR
  rw [htl] at CL0
  have CL := Lib.hid CL0
  have HTL := Lib.hid htl
  clear CL0 htl
  go_wp2_with fail
  (with_reducible refine ((CL.out).mono ?_))
  rintro e w2 ⟨rfl, hb2⟩
  have HB2 := Lib.hid (below_on HB1.out hb2)
  clear CL hb2 HB1
  cases tl
  case true =>
    go_wp2_with fail
    go_ret
    exact ⟨rfl, HB2.out⟩
  case false =>
    by_cases h20 : 20 < nr
    · have t1 : (20 : Int) < (nr : Int) := by omega
      go_wp2_with fail
      go_ret
      exact ⟨rfl, HB2.out⟩
    · have t1 : ¬ (20 : Int) < (nr : Int) := by omega
      have h20' : nr ≤ 20 := by omega
      by_cases hv : vMP R Ln Z
      · have CS := Lib.hid (Solve_all ma R mc Ra Ln Ka Z ra nr rc f w2 (HM.out.on HB2.out) hv (HR.out.on HB2.out) hc hc2)
        have HV := Lib.hid hv
        obtain ⟨n, hn⟩ : ∃ n, Ln 0 = n := ⟨_, rfl⟩
        rw [hn] at CS
        have HN := Lib.hid hn
        have hR0 : 0 < R := hv.1
        have hR6 : R ≤ 6 := hv.2.1
        have hn0 : 0 < n := by rw [← hn]; have := hv.2.2.1; omega
        have hn12 : n ≤ 12 := by rw [← hn]; exact hv.2.2.2.1
        have HT0 : Hid (∀ W, Below w.heap.size w W → ∃ mb mo, ma = some ⟨mb, mo, none⟩ ∧ W.cell? ⟨mb, mo, none⟩ = some (.slice (Ra 0) n (Ka 0))) := fun W hW => by
          obtain ⟨mb, mo, e, _, ht⟩ := (HM.out.on hW).top hv.1
          have := ht 0 hv.1
          rw [Nat.add_zero, hn] at this
          exact ⟨mb, mo, e, this⟩
        obtain ⟨mb, mo, hma, _⟩ := HT0.out w (Below.refl _ _)
        have HT1 : Hid (∀ W, Below w.heap.size w W → W.cell? ⟨mb, mo, none⟩ = some (.slice (Ra 0) n (Ka 0))) := fun W hW => by
          obtain ⟨mb2, mo2, e, h⟩ := HT0.out W hW
          rw [hma] at e
          injection e with e
          injection e with e1 e2 e3
          rw [e1, e2]; exact h
        subst hma
        clear hv hn HT0
        go_wp2_with fail
        (with_reducible refine ((CS.out).mono ?_))
        rintro e W3 ⟨hb3, ⟨c, hc0, hc21, rfl⟩ | ⟨rfl, kk, pp, EE, DD, hFF, hkk⟩ | ⟨hnr, xb, pp, EE, DD, X, rfl, hX, hFF, y, hXv, hXs⟩⟩
        · have HB := Lib.hid (below_on HB2.out hb3)
          have tc0 : (c == 0) = false := by simpa using hc0
          have tc1 : (c == 21) = false := by simpa using hc21
          clear CS hb3 HB2
          have CN := Lib.hid (Null_ok (some ⟨mb, mo, none⟩) R mc Ra Ln Ka Z W3 n HN.out (HM.out.on HB.out) HV.out)
          have CK := fun W h => Lib.hid (Rank_ok (some ⟨mb, mo, none⟩) R mc Ra Ln Ka Z W n HN.out h HV.out)
          go_wp2_with fail
          (with_reducible refine ((CN.out).mono ?_))
          rintro e WN ⟨hbN, k, p, E, D, V, vv, hF, rfl, hNS⟩
          have HBN := Lib.hid (below_on HB.out hbN)
          obtain ⟨va, vc, hvv⟩ := own_form hNS.own
          subst hvv
          have HF := Lib.hid hF
          clear CN hbN hF
          go_wp2_with fail
          (with_reducible refine (((CK _ (HM.out.on HBN.out)).out).mono ?_))
          rintro e WK ⟨hbK, k2, p2, E2, D2, hF2, rfl⟩
          have HBK := Lib.hid (below_on HBN.out hbK)
          have HNK := Lib.hid (hNS.on hbK)
          have hku := (HF.out.uniq hF2).1
          subst hku
          have hcnt := frL_count HF.out.up HF.out.lt
          obtain ⟨m, hm⟩ : ∃ m, (frL k p n).length = m := ⟨_, rfl⟩
          rw [hm] at hcnt  ⊢
          have HMM := Lib.hid hm
          have p0 := HT1.out WK HBK.out
          have wmk : IntKind.i64.wrap ((m : Int) + (k : Int)) = (n : Int) := by rw [IntWalk.i64_in _ (by omega)]; omega
          clear CK hbK hF2 hNS hm HBN
          go_wp2_with fail
          clear p0 wmk
          have S0 : Hid (Below WK.heap.size WK WK) := Below.refl _ _
          go_loopg [131] m (fun g s131 wx => ∃ i : Nat, s131 = .int .i64 i ∧ g = m - i ∧ i ≤ m ∧ Hid (Below WK.heap.size WK wx))
          case atStart => exact ⟨0, rfl, rfl, Nat.zero_le _, S0⟩
          case round =>
            clear S0
            obtain ⟨i, rfl, rfl, hi, S⟩ := hrel
            rename World => W8
            by_cases hlt : i < m
            · have wk : IntKind.i64.wrap ((i : Int) + 1) = ((i + 1 : Nat) : Int) := by rw [IntWalk.i64_in _ (by omega)]; omega
              have hil : i < (frL k p n).length := by rw [HMM.out]; exact hlt
              obtain ⟨c0, hc0⟩ : ∃ c, (frL k p n)[i] = c := ⟨_, rfl⟩
              have hmem : c0 ∈ frL k p n := by rw [← hc0]; exact List.getElem_mem hil
              have hcn := frL_lt hmem
              have hnp : ∀ l, l < k → p l ≠ c0 := fun l hl e => by
                have := (List.mem_filter.1 hmem).2
                simp at this
                exact this l hl e
              obtain ⟨hXv, hXs⟩ := nul_fin HF.out c0 hcn hnp
              have FX := ((HNK.out.vec c0 hmem).1).on S.out
              have X1 : updF (nullA p E D c0 k) c0 (1, 1) c0 = (1, 1) := if_pos rfl
              have hcell : ∃ g, va = some ⟨g, 0, none⟩ ∧ W8.cell? ⟨g, i, none⟩ = some (.slice (some ⟨V c0, 0, none⟩) n n) := by
                rcases HNK.out.own.2 with ⟨h1, h2⟩ | ⟨g, cap, cur, hv2, _, hg, _⟩
                · rw [h2] at hil; omega
                · have e1 : va = some ⟨g, 0, none⟩ := by injection hv2
                  refine ⟨g, e1, ?_⟩
                  have hc := HNK.out.own.cells (g := g) (by rw [e1]; rfl) i (.slice (some ⟨V c0, 0, none⟩) n n) (by
                    rw [List.getElem?_map, List.getElem?_eq_getElem hil, hc0]; rfl)
                  rw [show (⟨g, 0, none⟩ : Addr).add i = ⟨g, i, none⟩ by unfold Addr.add; split <;> simp_all] at hc
                  exact (S.out.cell (p := ⟨g, i, none⟩) (Array.getElem?_eq_some_iff.1 hg).1).trans hc
              obtain ⟨gv, rfl, p1⟩ := hcell
              have hZ := fun l (hl : l < R) j (hj : j < n) => vld_small ((HV.out.2.2.2.2 l hl).2 j (by rw [(HV.out.2.2.2.2 l hl).1, HN.out]; exact hj))
              have HVAL : Hid (∀ l, l < R → comS (Z l) (updF (nullA p E D c0 k) c0 (1, 1)) n = (0, 0, 5) ∨ comS (Z l) (updF (nullA p E D c0 k) c0 (1, 1)) n = (0, 1, 0)) := fun l hl => by
                rcases comS_val (n := n) (fun j hj => hZ l hl j hj) hXv n (Nat.le_refl _) with h | ⟨s, t, h, v, hs⟩
                · exact .inl h
                · right
                  rw [hXs l hl, Int.zero_mul] at hs
                  have hs0 : s = 0 := by
                    rcases Int.mul_eq_zero.1 hs with g | g
                    · exact g
                    · exact absurd g HF.out.nz
                  obtain ⟨a, b⟩ := vld_int v (show s = 0 * t by rw [hs0]; omega)
                  rw [h, a, b]
              have CP := Lib.hid (Product_ok (some ⟨mb, mo, none⟩) R mc Ra Ln Ka Z (some ⟨V c0, 0, none⟩) n n (updF (nullA p E D c0 k) c0 (1, 1)) W8 n HN.out (HM.out.on (below_on HBK.out S.out)) HV.out FX.ifr (fun j hj => vld_fri (hXv j hj).1) (by omega))
              have HXV : Hid (∀ j, j < n → vB (updF (nullA p E D c0 k) c0 (1, 1) j).1 (updF (nullA p E D c0 k) c0 (1, 1) j).2 = true) := fun j hj => vB_yes (hXv j hj).1
              have HFX := Lib.hid FX
              have HX1 := Lib.hid (And.intro hcn X1)
              clear hXv hXs FX hZ hmem hnp hc0 hil X1 hcn
              have C1 := fun w => Lib.hid (f_any 1 w)
              go_wp2_with fail
              (with_reducible refine ((CP.out).mono ?_))
              rintro e W9 ⟨hb9, hP⟩
              have HB9 := Lib.hid (below_on S.out hb9)
              have HFX9 := Lib.hid (HFX.out.on hb9)
              clear CP p1
              rcases hP with ⟨⟨j, hj, hbad⟩, _⟩ | ⟨_, ⟨hne, _⟩ | ⟨_, ⟨l, hl, hok, hbad, rfl⟩ | ⟨hok, yb, rfl, hY⟩⟩⟩
              · rw [HXV.out j hj] at hbad; cases hbad
              · exact absurd rfl hne
              · have h5 : (comS (Z l) (updF (nullA p E D c0 k) c0 (1, 1)) n).2.2 = 5 := by
                  rcases HVAL.out l hl with h | h
                  · rw [h]
                  · rw [h] at hbad; exact absurd rfl hbad
                rw [h5]
                clear hok hbad h5 hb9 HFX S
                go_wp2_with fail
                (with_reducible refine (((C1 _).out).mono ?_))
                rintro e W10 ⟨rfl, hb10⟩
                have CC := Lib.hid (cont1_any (some ⟨V c0, 0, none⟩) n n c0 _ W10 (HFX9.out.on hb10).ifr HX1.out.1 HX1.out.2 (by omega))
                go_wp2_with fail
                (with_reducible refine ((CC.out).mono ?_))
                rintro e W11 ⟨rfl, hb11⟩
                have T := Lib.hid (below_on HB9.out (below_on hb10 hb11))
                clear CC hb10 hb11 HB9 HFX9
                go_wp2_with fail
                go_roundg (m - (i + 1))
                case measure => omega
                case rel => exact ⟨i + 1, rfl, rfl, by omega, T⟩
              · have hz : ∀ l, l < R → ((comS (Z l) (updF (nullA p E D c0 k) c0 (1, 1)) n).1, (comS (Z l) (updF (nullA p E D c0 k) c0 (1, 1)) n).2.1) = ((0 : Int), (1 : Int)) := fun l hl => by
                  rcases HVAL.out l hl with h | h
                  · have := hok l hl; rw [h] at this; exact absurd this (by decide)
                  · rw [h]
                have CZ := Lib.hid (contZ_any (some ⟨yb, 0, none⟩) R R _ W9 hY.ifr hz (by omega))
                clear hok hY hz hb9 HFX S
                go_wp2_with fail
                (with_reducible refine ((CZ.out).mono ?_))
                rintro e W12 ⟨rfl, hb12⟩
                have HB12 := Lib.hid (below_on HB9.out hb12)
                have HFX12 := Lib.hid (HFX9.out.on hb12)
                clear CZ hb12 HB9 HFX9
                go_wp2_with fail
                (with_reducible refine (((C1 _).out).mono ?_))
                rintro e W10 ⟨rfl, hb10⟩
                have CC := Lib.hid (cont1_any (some ⟨V c0, 0, none⟩) n n c0 _ W10 (HFX12.out.on hb10).ifr HX1.out.1 HX1.out.2 (by omega))
                go_wp2_with fail
                (with_reducible refine ((CC.out).mono ?_))
                rintro e W11 ⟨rfl, hb11⟩
                have T := Lib.hid (below_on HB12.out (below_on hb10 hb11))
                clear CC hb10 hb11 HB12 HFX12
                go_wp2_with fail
                go_roundg (m - (i + 1))
                case measure => omega
                case rel => exact ⟨i + 1, rfl, rfl, by omega, T⟩
            · have e : i = m := by omega
              go_wp2_with fail
              go_ret
              exact ⟨rfl, HBK.out.trans (S.out.mono HBK.out.size)⟩
        · have HB := Lib.hid (below_on HB2.out hb3)
          have HKK := Lib.hid (And.intro hFF hkk)
          clear CS hb3 HB2 hFF hkk
          have CN := Lib.hid (Null_ok (some ⟨mb, mo, none⟩) R mc Ra Ln Ka Z W3 n HN.out (HM.out.on HB.out) HV.out)
          have CK := fun W h => Lib.hid (Rank_ok (some ⟨mb, mo, none⟩) R mc Ra Ln Ka Z W n HN.out h HV.out)
          go_wp2_with fail
          (with_reducible refine ((CN.out).mono ?_))
          rintro e WN ⟨hbN, k, p, E, D, V, vv, hF, rfl, hNS⟩
          have HBN := Lib.hid (below_on HB.out hbN)
          obtain ⟨va, vc, hvv⟩ := own_form hNS.own
          subst hvv
          have HF := Lib.hid hF
          clear CN hbN hF
          go_wp2_with fail
          (with_reducible refine (((CK _ (HM.out.on HBN.out)).out).mono ?_))
          rintro e WK ⟨hbK, k2, p2, E2, D2, hF2, rfl⟩
          have HBK := Lib.hid (below_on HBN.out hbK)
          have HNK := Lib.hid (hNS.on hbK)
          have hku := (HF.out.uniq hF2).1
          subst hku
          have hcnt := frL_count HF.out.up HF.out.lt
          have hk2 := (HF.out.uniq HKK.out.1).1
          have hm0 : (frL k p n).length ≠ 0 := by have := HKK.out.2; omega
          obtain ⟨m, hm⟩ : ∃ m, (frL k p n).length = m := ⟨_, rfl⟩
          rw [hm] at hcnt hm0 ⊢
          have HMM := Lib.hid hm
          have p0 := HT1.out WK HBK.out
          have tm0 : ¬ ((m : Int) = 0) := by omega
          have tm1 : ((m : Int) == 0) = false := by simp; omega
          have wmk : IntKind.i64.wrap ((m : Int) + (k : Int)) = (n : Int) := by rw [IntWalk.i64_in _ (by omega)]; omega
          clear CK hbK hF2 hNS hm HBN
          go_wp2_with fail
          clear p0 wmk
          have S0 : Hid (Below WK.heap.size WK WK) := Below.refl _ _
          go_loopg [131] m (fun g s131 wx => ∃ i : Nat, s131 = .int .i64 i ∧ g = m - i ∧ i ≤ m ∧ Hid (Below WK.heap.size WK wx))
          case atStart => exact ⟨0, rfl, rfl, Nat.zero_le _, S0⟩
          case round =>
            clear S0
            obtain ⟨i, rfl, rfl, hi, S⟩ := hrel
            rename World => W8
            by_cases hlt : i < m
            · have wk : IntKind.i64.wrap ((i : Int) + 1) = ((i + 1 : Nat) : Int) := by rw [IntWalk.i64_in _ (by omega)]; omega
              have hil : i < (frL k p n).length := by rw [HMM.out]; exact hlt
              obtain ⟨c0, hc0⟩ : ∃ c, (frL k p n)[i] = c := ⟨_, rfl⟩
              have hmem : c0 ∈ frL k p n := by rw [← hc0]; exact List.getElem_mem hil
              have hcn := frL_lt hmem
              have hnp : ∀ l, l < k → p l ≠ c0 := fun l hl e => by
                have := (List.mem_filter.1 hmem).2
                simp at this
                exact this l hl e
              obtain ⟨hXv, hXs⟩ := nul_fin HF.out c0 hcn hnp
              have FX := ((HNK.out.vec c0 hmem).1).on S.out
              have X1 : updF (nullA p E D c0 k) c0 (1, 1) c0 = (1, 1) := if_pos rfl
              have hcell : ∃ g, va = some ⟨g, 0, none⟩ ∧ W8.cell? ⟨g, i, none⟩ = some (.slice (some ⟨V c0, 0, none⟩) n n) := by
                rcases HNK.out.own.2 with ⟨h1, h2⟩ | ⟨g, cap, cur, hv2, _, hg, _⟩
                · rw [h2] at hil; omega
                · have e1 : va = some ⟨g, 0, none⟩ := by injection hv2
                  refine ⟨g, e1, ?_⟩
                  have hc := HNK.out.own.cells (g := g) (by rw [e1]; rfl) i (.slice (some ⟨V c0, 0, none⟩) n n) (by
                    rw [List.getElem?_map, List.getElem?_eq_getElem hil, hc0]; rfl)
                  rw [show (⟨g, 0, none⟩ : Addr).add i = ⟨g, i, none⟩ by unfold Addr.add; split <;> simp_all] at hc
                  exact (S.out.cell (p := ⟨g, i, none⟩) (Array.getElem?_eq_some_iff.1 hg).1).trans hc
              obtain ⟨gv, rfl, p1⟩ := hcell
              have hZ := fun l (hl : l < R) j (hj : j < n) => vld_small ((HV.out.2.2.2.2 l hl).2 j (by rw [(HV.out.2.2.2.2 l hl).1, HN.out]; exact hj))
              have HVAL : Hid (∀ l, l < R → comS (Z l) (updF (nullA p E D c0 k) c0 (1, 1)) n = (0, 0, 5) ∨ comS (Z l) (updF (nullA p E D c0 k) c0 (1, 1)) n = (0, 1, 0)) := fun l hl => by
                rcases comS_val (n := n) (fun j hj => hZ l hl j hj) hXv n (Nat.le_refl _) with h | ⟨s, t, h, v, hs⟩
                · exact .inl h
                · right
                  rw [hXs l hl, Int.zero_mul] at hs
                  have hs0 : s = 0 := by
                    rcases Int.mul_eq_zero.1 hs with g | g
                    · exact g
                    · exact absurd g HF.out.nz
                  obtain ⟨a, b⟩ := vld_int v (show s = 0 * t by rw [hs0]; omega)
                  rw [h, a, b]
              have CP := Lib.hid (Product_ok (some ⟨mb, mo, none⟩) R mc Ra Ln Ka Z (some ⟨V c0, 0, none⟩) n n (updF (nullA p E D c0 k) c0 (1, 1)) W8 n HN.out (HM.out.on (below_on HBK.out S.out)) HV.out FX.ifr (fun j hj => vld_fri (hXv j hj).1) (by omega))
              have HXV : Hid (∀ j, j < n → vB (updF (nullA p E D c0 k) c0 (1, 1) j).1 (updF (nullA p E D c0 k) c0 (1, 1) j).2 = true) := fun j hj => vB_yes (hXv j hj).1
              have HFX := Lib.hid FX
              have HX1 := Lib.hid (And.intro hcn X1)
              clear hXv hXs FX hZ hmem hnp hc0 hil X1 hcn
              have C1 := fun w => Lib.hid (f_any 1 w)
              go_wp2_with fail
              (with_reducible refine ((CP.out).mono ?_))
              rintro e W9 ⟨hb9, hP⟩
              have HB9 := Lib.hid (below_on S.out hb9)
              have HFX9 := Lib.hid (HFX.out.on hb9)
              clear CP p1
              rcases hP with ⟨⟨j, hj, hbad⟩, _⟩ | ⟨_, ⟨hne, _⟩ | ⟨_, ⟨l, hl, hok, hbad, rfl⟩ | ⟨hok, yb, rfl, hY⟩⟩⟩
              · rw [HXV.out j hj] at hbad; cases hbad
              · exact absurd rfl hne
              · have h5 : (comS (Z l) (updF (nullA p E D c0 k) c0 (1, 1)) n).2.2 = 5 := by
                  rcases HVAL.out l hl with h | h
                  · rw [h]
                  · rw [h] at hbad; exact absurd rfl hbad
                rw [h5]
                clear hok hbad h5 hb9 HFX S
                go_wp2_with fail
                (with_reducible refine (((C1 _).out).mono ?_))
                rintro e W10 ⟨rfl, hb10⟩
                have CC := Lib.hid (cont1_any (some ⟨V c0, 0, none⟩) n n c0 _ W10 (HFX9.out.on hb10).ifr HX1.out.1 HX1.out.2 (by omega))
                go_wp2_with fail
                (with_reducible refine ((CC.out).mono ?_))
                rintro e W11 ⟨rfl, hb11⟩
                have T := Lib.hid (below_on HB9.out (below_on hb10 hb11))
                clear CC hb10 hb11 HB9 HFX9
                go_wp2_with fail
                go_roundg (m - (i + 1))
                case measure => omega
                case rel => exact ⟨i + 1, rfl, rfl, by omega, T⟩
              · have hz : ∀ l, l < R → ((comS (Z l) (updF (nullA p E D c0 k) c0 (1, 1)) n).1, (comS (Z l) (updF (nullA p E D c0 k) c0 (1, 1)) n).2.1) = ((0 : Int), (1 : Int)) := fun l hl => by
                  rcases HVAL.out l hl with h | h
                  · have := hok l hl; rw [h] at this; exact absurd this (by decide)
                  · rw [h]
                have CZ := Lib.hid (contZ_any (some ⟨yb, 0, none⟩) R R _ W9 hY.ifr hz (by omega))
                clear hok hY hz hb9 HFX S
                go_wp2_with fail
                (with_reducible refine ((CZ.out).mono ?_))
                rintro e W12 ⟨rfl, hb12⟩
                have HB12 := Lib.hid (below_on HB9.out hb12)
                have HFX12 := Lib.hid (HFX9.out.on hb12)
                clear CZ hb12 HB9 HFX9
                go_wp2_with fail
                (with_reducible refine (((C1 _).out).mono ?_))
                rintro e W10 ⟨rfl, hb10⟩
                have CC := Lib.hid (cont1_any (some ⟨V c0, 0, none⟩) n n c0 _ W10 (HFX12.out.on hb10).ifr HX1.out.1 HX1.out.2 (by omega))
                go_wp2_with fail
                (with_reducible refine ((CC.out).mono ?_))
                rintro e W11 ⟨rfl, hb11⟩
                have T := Lib.hid (below_on HB12.out (below_on hb10 hb11))
                clear CC hb10 hb11 HB12 HFX12
                go_wp2_with fail
                go_roundg (m - (i + 1))
                case measure => omega
                case rel => exact ⟨i + 1, rfl, rfl, by omega, T⟩
            · have e : i = m := by omega
              go_wp2_with fail
              go_ret
              exact ⟨rfl, HBK.out.trans (S.out.mono HBK.out.size)⟩
        · subst hnr
          have HB3 := Lib.hid (below_on HB2.out hb3)
          have HFF := Lib.hid hFF
          have HXS := Lib.hid hXs
          have hZ := fun l (hl : l < nr) j (hj : j < n) => vld_small ((HV.out.2.2.2.2 l hl).2 j (by rw [(HV.out.2.2.2.2 l hl).1, HN.out]; exact hj))
          have HVAL : Hid (∀ l, l < nr → comS (Z l) X n = (0, 0, 5) ∨ comS (Z l) X n = (f l, 1, 0)) := fun l hl => by
            rcases comS_val (n := n) (fun j hj => hZ l hl j hj) hXv n (Nat.le_refl _) with h | ⟨s, t, h, v, hs⟩
            · exact .inl h
            · right
              rw [hXs l hl] at hs
              have hs0 : s = f l * t := by
                have : (s - f l * t) * DD = 0 := by grind
                rcases Int.mul_eq_zero.1 this with g | g
                · omega
                · exact absurd g hFF.nz
              obtain ⟨a, b⟩ := vld_int v hs0
              rw [h, a, b]
          have CP := Lib.hid (Product_ok (some ⟨mb, mo, none⟩) nr mc Ra Ln Ka Z (some ⟨xb, 0, none⟩) n n X W3 n HN.out (HM.out.on HB3.out) HV.out hX.ifr (fun j hj => vld_fri (hXv j hj).1) (by omega))
          have HXV : Hid (∀ j, j < n → vB (X j).1 (X j).2 = true) := fun j hj => vB_yes (hXv j hj).1
          clear hX hXv hXs hFF CS HB2 hZ hb3
          go_wp2_with fail
          (with_reducible refine ((CP.out).mono ?_))
          rintro e W4 ⟨hb4, hP⟩
          have HB4 := Lib.hid (below_on HB3.out hb4)
          clear CP hb4
          rcases hP with ⟨⟨j, hj, hbad⟩, _⟩ | ⟨_, ⟨hne, _⟩ | ⟨_, ⟨l, hl, hok, hbad, rfl⟩ | ⟨hok, yb, rfl, hY⟩⟩⟩
          · rw [HXV.out j hj] at hbad; cases hbad
          · exact absurd rfl hne
          · have h5 : (comS (Z l) X n).2.2 = 5 := by
              rcases HVAL.out l hl with h | h
              · rw [h]
              · rw [h] at hbad; exact absurd rfl hbad
            rw [h5]
            clear hok hbad h5
            go_wp2_with fail
            go_ret
            exact ⟨rfl, HB4.out⟩
          · have hYc : FrX W4 yb nr (fun l => (f l, 1)) := hY.congr fun l hl => by
              rcases HVAL.out l hl with h | h
              · have := hok l hl; rw [h] at this; exact absurd this (by decide)
              · rw [h]
            have HY := Lib.hid hYc
            have CF := fun w => Lib.hid (f_any (f 0) w)
            clear hY hYc hok CF
            go_wp2_with fail
            have S0 : Hid (Below W4.heap.size W4 W4) := Below.refl _ _
            go_loopg [58] nr (fun g s58 wx => ∃ r : Nat, s58 = .int .i64 r ∧ g = nr - r ∧ r ≤ nr ∧ Hid (Below W4.heap.size W4 wx))
            case atStart => exact ⟨0, rfl, rfl, Nat.zero_le _, S0⟩
            case round =>
              clear S0
              obtain ⟨r, rfl, rfl, hi, S⟩ := hrel
              rename World => W5
              by_cases hlt : r < nr
              · have wk : IntKind.i64.wrap ((r : Int) + 1) = ((r + 1 : Nat) : Int) := by rw [IntWalk.i64_in _ (by omega)]; omega
                obtain ⟨rg, ro, rfl, hrg, hrc⟩ := (HR.out.on (below_on HB4.out S.out)) (by omega)
                have p1 := hrc r hlt
                have HY5 := HY.out.on S.out
                have LY : Hid (W5.cell? ⟨yb, r * 2, none⟩ = some (.int .i64 (f r)) ∧ W5.cell? ⟨yb, r * 2 + 1, none⟩ = some (.int .i64 1) ∧ yb < W5.heap.size) := ⟨HY5.c0 r hlt, HY5.c1 r hlt, HY5.hb⟩
                obtain ⟨fi, hfi⟩ : ∃ x, f r = x := ⟨_, rfl⟩
                rw [hfi] at LY p1
                have CF := fun w => Lib.hid (f_any fi w)
                clear HY5 hrc hrg hfi
                go_upto_region 15 with fail
                clear p1
                refine wp_region_each (fun L A W => ∃ (v : Nat → Value) (g : Nat → Nat), A = ⟨#[_, _, _, _, _, _, _, _, _, _, _, _, _, _, _, _, _, _, _, _, _, _, _, _, _, _, _, _, _, _, _, _, _, _, _, _, _, _, _, _, _, _, _, _, _, _, _, _, _, _, _, _, _, _, _, _, _, _, _, _, _, _, _, v 63, v 64, v 65, v 66, v 67, v 68, v 69, _, _, _, _, _, _, _, _, _, _, _, _, _, _, _, _, _, _, _, _, _, _, _, _, _, _, _, _, _, _, _, _, _, _, _, _, _, _, _, _, _, _, _, _, _, _, _, _, _, _, _, _, _, _, _, _, _, _, _, _, _, _, _, _, _, _, _, _, _, _, _, _, _, _, _, _, _, _, _, _, _, _, _, _, _, _, _, _], []⟩ ∧ HldBR yb nr r fi W5 L v g W) (by kernel_rfl) (by kernel_rfl) ⟨fun jz => if jz = 63 then u63 else if jz = 64 then u64 else if jz = 65 then u65 else if jz = 66 then u66 else if jz = 67 then u67 else if jz = 68 then u68 else if jz = 69 then u69 else undef, fun _ => 0, rfl, ⟨Below.drew (Below.refl _ _), Had.none, Had.none, Had.none, Had.none, Had.none, Had.none, Had.none⟩⟩ (rs := [0, 1, 2, 3, 4, 5, 6]) (by kernel_rfl) ?_ ?_
                · refine EachOf.cons [] rfl (by kernel_rfl) ?_ ?_
                  · rintro L A W ⟨v, g, rfl, hR⟩ hi hw K hK
                    go_simp
                    refine hK.out _ _ ?_
                    exact ⟨(fun jz => if jz = 63 then .slice (some ⟨yb, 0, none⟩) nr nr else v jz), g, rfl, ⟨hR.st, (fun _ => rfl), hR.f1.keep rfl, hR.f2.keep rfl, hR.f3.keep rfl, hR.f4.keep rfl, hR.f5.keep rfl, hR.f6.keep rfl⟩⟩
                  refine EachOf.cons [] rfl (by kernel_rfl) ?_ ?_
                  · rintro L A W ⟨v, g, rfl, hR⟩ hi hw K hK
                    go_simp
                    refine hK.out _ _ ?_
                    exact ⟨(fun jz => if jz = 64 then .int .i64 (r : Int) else v jz), g, rfl, ⟨hR.st, hR.f0.keep rfl, (fun _ => rfl), hR.f2.keep rfl, hR.f3.keep rfl, hR.f4.keep rfl, hR.f5.keep rfl, hR.f6.keep rfl⟩⟩
                  refine EachOf.cons [0, 1] rfl (by kernel_rfl) ?_ ?_
                  · rintro L A W ⟨v, g, rfl, hR⟩ hi hw K hK
                    have e0 := hR.f0 (hw 0 (by simp))
                    have e1 := hR.f1 (hw 1 (by simp))
                    simp only [e0, e1]
                    clear e0 e1
                    go_simp
                    refine hK.out _ _ ?_
                    exact ⟨(fun jz => if jz = 63 then .slice (some ⟨yb, 0, none⟩) nr nr else if jz = 64 then .int .i64 (r : Int) else if jz = 65 then .pointer (some ⟨yb, r * 2, none⟩) else v jz), g, rfl, ⟨hR.st, (fun _ => rfl), (fun _ => rfl), (fun _ => rfl), hR.f3.keep rfl, hR.f4.keep rfl, hR.f5.keep rfl, hR.f6.keep rfl⟩⟩
                  refine EachOf.cons [2] rfl (by kernel_rfl) ?_ ?_
                  · rintro L A W ⟨v, g, rfl, hR⟩ hi hw K hK
                    have e2 := hR.f2 (hw 2 (by simp))
                    simp only [e2]
                    clear e2
                    have q0 := (hR.st.cell (p := ⟨yb, r * 2, none⟩) LY.out.2.2).trans LY.out.1
                    have q1 := (hR.st.cell (p := ⟨yb, r * 2 + 1, none⟩) LY.out.2.2).trans LY.out.2.1
                    go_simp
                    refine hK.out _ _ ?_
                    exact ⟨(fun jz => if jz = 65 then .pointer (some ⟨yb, r * 2, none⟩) else if jz = 66 then .agg #[.int .i64 fi, .int .i64 1] else v jz), g, rfl, ⟨hR.st, hR.f0.keep rfl, hR.f1.keep rfl, (fun _ => rfl), (fun _ => rfl), hR.f4.keep rfl, hR.f5.keep rfl, hR.f6.keep rfl⟩⟩
                  refine EachOf.cons [] rfl (by kernel_rfl) ?_ ?_
                  · rintro L A W ⟨v, g, rfl, hR⟩ hi hw K hK
                    go_simp
                    refine hK.out _ _ ?_
                    exact ⟨(fun jz => if jz = 67 then .int .i64 fi else v jz), g, rfl, ⟨hR.st, hR.f0.keep rfl, hR.f1.keep rfl, hR.f2.keep rfl, hR.f3.keep rfl, (fun _ => rfl), hR.f5.keep rfl, hR.f6.keep rfl⟩⟩
                  refine EachOf.cons [4] rfl (by kernel_rfl) ?_ ?_
                  · rintro L A W ⟨v, g, rfl, hR⟩ hi hw K hK
                    have e4 := hR.f4 (hw 4 (by simp))
                    simp only [e4]
                    clear e4
                    go_simp
                    go_at_call 31
                    (with_reducible refine ((CF _).out).mono ?_)
                    rintro e w2 ⟨rfl, hb⟩
                    go_simp
                    refine hK.out _ _ ?_
                    exact ⟨(fun jz => if jz = 67 then .int .i64 fi else if jz = 68 then .agg #[.int .i64 fi, .int .i64 1] else v jz), g, rfl, ⟨below_on hR.st hb, hR.f0.keep rfl, hR.f1.keep rfl, hR.f2.keep rfl, hR.f3.keep rfl, (fun _ => rfl), (fun _ => rfl), hR.f6.keep rfl⟩⟩
                  refine EachOf.cons [3, 5] rfl (by kernel_rfl) ?_ ?_
                  · rintro L A W ⟨v, g, rfl, hR⟩ hi hw K hK
                    have e3 := hR.f3 (hw 3 (by simp))
                    have e5 := hR.f5 (hw 5 (by simp))
                    simp only [e3, e5]
                    clear e3 e5
                    go_simp
                    refine hK.out _ _ ?_
                    exact ⟨(fun jz => if jz = 66 then .agg #[.int .i64 fi, .int .i64 1] else if jz = 68 then .agg #[.int .i64 fi, .int .i64 1] else if jz = 69 then .bool false else v jz), g, rfl, ⟨hR.st, hR.f0.keep rfl, hR.f1.keep rfl, hR.f2.keep rfl, (fun _ => rfl), hR.f4.keep rfl, (fun _ => rfl), (fun _ => rfl)⟩⟩
                  exact EachOf.nil
                rintro L A W ⟨v, g, rfl, hR⟩ hL
                have e6 := hR.f6 (hL 6 (by simp))
                simp only [e6]
                have T := Lib.hid (below_on S.out hR.st)
                clear e6 hR hL LY CF S
                go_wp2_with fail
                go_roundg (nr - (r + 1))
                case measure => omega
                case rel => exact ⟨r + 1, rfl, rfl, by omega, T⟩
              · have e : r = nr := by omega
                subst e
                have HB := Lib.hid (HB4.out.trans (S.out.mono HB4.out.size))
                clear S
                have CN := Lib.hid (Null_ok (some ⟨mb, mo, none⟩) r mc Ra Ln Ka Z W5 n HN.out (HM.out.on HB.out) HV.out)
                have CK := fun W h => Lib.hid (Rank_ok (some ⟨mb, mo, none⟩) r mc Ra Ln Ka Z W n HN.out h HV.out)
                go_wp2_with fail
                (with_reducible refine ((CN.out).mono ?_))
                rintro e WN ⟨hbN, k, p, E, D, V, vv, hF, rfl, hNS⟩
                have HBN := Lib.hid (below_on HB.out hbN)
                obtain ⟨va, vc, hvv⟩ := own_form hNS.own
                subst hvv
                have HF := Lib.hid hF
                clear CN hbN hF
                go_wp2_with fail
                (with_reducible refine (((CK _ (HM.out.on HBN.out)).out).mono ?_))
                rintro e WK ⟨hbK, k2, p2, E2, D2, hF2, rfl⟩
                have HBK := Lib.hid (below_on HBN.out hbK)
                have HNK := Lib.hid (hNS.on hbK)
                have hku := (HF.out.uniq hF2).1
                subst hku
                have hcnt := frL_count HF.out.up HF.out.lt
                have hk2 := (HF.out.uniq HFF.out).1
                have hm0 : (frL k p n).length = 0 := by omega
                obtain ⟨m, hm⟩ : ∃ m, (frL k p n).length = m := ⟨_, rfl⟩
                rw [hm] at hcnt hm0 ⊢
                have HMM := Lib.hid hm
                have p0 := HT1.out WK HBK.out
                have tm0 : ¬ ((0 : Int) < (m : Int)) := by omega
                have wmk : IntKind.i64.wrap ((m : Int) + (k : Int)) = (n : Int) := by rw [IntWalk.i64_in _ (by omega)]; omega
                clear CK hbK hF2 hNS hm HBN
                go_wp2_with fail
                clear p0 wmk
                have S0 : Hid (Below WK.heap.size WK WK) := Below.refl _ _
                go_loopg [131] m (fun g s131 wx => ∃ i : Nat, s131 = .int .i64 i ∧ g = m - i ∧ i ≤ m ∧ Hid (Below WK.heap.size WK wx))
                case atStart => exact ⟨0, rfl, rfl, Nat.zero_le _, S0⟩
                case round =>
                  clear S0
                  obtain ⟨i, rfl, rfl, hi, S⟩ := hrel
                  rename World => W8
                  by_cases hlt : i < m
                  · exfalso; omega
                  · have e : i = m := by omega
                    go_wp2_with fail
                    go_ret
                    exact ⟨rfl, HBK.out.trans (S.out.mono HBK.out.size)⟩
      · have CS := Lib.hid (Solve_bad ma R mc Ra Ln Ka Z ra nr rc w2 (HM.out.on HB2.out) hR hv)
        have CN := fun W h => Lib.hid (Null_bad ma R mc Ra Ln Ka Z W h hR hv)
        have CK := fun W h => Lib.hid (Rank_bad ma R mc Ra Ln Ka Z W h hR hv)
        clear hv
        go_wp2_with fail
        (with_reducible refine ((CS.out).mono ?_))
        rintro e w3 ⟨rfl, hb3⟩
        have HB3 := Lib.hid (below_on HB2.out hb3)
        clear CS hb3 HB2
        go_wp2_with fail
        (with_reducible refine (((CN _ (HM.out.on HB3.out)).out).mono ?_))
        rintro e w4 ⟨rfl, hb4⟩
        have HB4 := Lib.hid (below_on HB3.out hb4)
        clear CN hb4 HB3
        go_wp2_with fail
        (with_reducible refine (((CK _ (HM.out.on HB4.out)).out).mono ?_))
        rintro e w5 ⟨rfl, hb5⟩
        have HB5 := Lib.hid (below_on HB4.out hb5)
        clear CK hb5 HB4
        go_wp2_with fail
        go_ret
        exact ⟨rfl, HB5.out⟩

end Go.Proofs.Ytjggnmbdgagkoaa
