/- Layer 4: LinearRanks returns true. -/
import Derived.Test.YtjggnmbdgagkoaaLRRnk
namespace Go.Proofs.Ytjggnmbdgagkoaa
set_option linter.unusedVariables false
open Go.RowKit Go.Shelf

/-- Two lists of the same numbers are equal. -/
theorem equal_ints (B1 B2 k : Nat) (v1 v2 : Value) (p : Nat → Nat) (w : World) (h1 : w.ownsRow B1 3 1 v1 k ((List.range k).map fun l => Value.int .i64 (p l))) (h2 : w.ownsRow B2 3 1 v2 k ((List.range k).map fun l => Value.int .i64 (p l))) (hk : k ≤ 1000) :
    Calls Try.prog 18 #[v1, v2] w fun e w' => e = .returned (.bool true) ∧ Below w.heap.size w w' := by
  by_cases h0 : k = 0
  · subst h0
    obtain ⟨a1, c1, rfl⟩ := own_form h1
    obtain ⟨a2, c2, rfl⟩ := own_form h2
    refine (Try.slices_Equal_int_empty a1 a2 c1 0 c2 w (by omega)).mono ?_
    rintro e w' ⟨rfl, rfl⟩
    exact ⟨rfl, Below.refl _ _⟩
  · have g1 := h1
    have g2 := h2
    rcases h1.2 with ⟨_, e⟩ | ⟨b1, c1, _, rfl, _⟩
    · exact absurd e h0
    rcases h2.2 with ⟨_, e⟩ | ⟨b2, c2, _, rfl, _⟩
    · exact absurd e h0
    have cell : ∀ {B b c : Nat} (h : w.ownsRow B 3 1 (.slice (some ⟨b, 0, none⟩) k c) k ((List.range k).map fun l => Value.int .i64 (p l))), ∀ j, j < ((List.range k).map fun l => ((p l : Nat) : Int)).length → w.cell? ⟨b, 0 + j, none⟩ = some (.int .i64 (((List.range k).map fun l => ((p l : Nat) : Int)).getD j 0)) := fun {B b c} h j hj => by
      have hj' : j < k := by simpa using hj
      have := h.cells (g := b) rfl j (.int .i64 (p j)) (by simp [hj'])
      rw [show (⟨b, 0, none⟩ : Addr).add j = ⟨b, j, none⟩ by unfold Addr.add; split <;> simp_all] at this
      rw [Nat.zero_add, this]
      simp [List.getD, hj']
    refine (Try.slices_Equal_int b1 0 k c1 b2 0 k c2 ((List.range k).map fun l => ((p l : Nat) : Int)) ((List.range k).map fun l => ((p l : Nat) : Int)) w (by simp) (by simp) (by omega) (by omega) (cell g1) (cell g2)).mono ?_
    rintro e w' ⟨rfl, q, rfl⟩
    exact ⟨by simp, below_drewN' (Below.refl _ _) q⟩

set_option maxRecDepth 100000 in
set_option maxHeartbeats 32000000 in
theorem ranks_walk (ma : Option Addr) (R mc : Nat) (Ra : Nat → Option Addr) (Ln Ka : Nat → Nat) (Z : Nat → Nat → Int) (w : World) (hM : AMat w ma R Ra Ln Ka Z) (hmc : R ≤ mc) (hmc2 : mc ≤ 9223372036854775807) :
    Calls Try.prog 3 #[.slice ma R mc] w fun e w' => e = .returned (.bool true) ∧ Below w.heap.size w w' := by
  have hR : R ≤ 9223372036854775807 := by omega
  have HM := Lib.hid hM
  have CA := Lib.hid (lawake_any w)
  have CV0 := fun W h => lValid_any ma R mc Ra Ln Ka Z W h hR
  have CW0 := fun W h => lrValid_any ma R mc Ra Ln Ka Z W h hR
  clear hM
  go_enter Try.func3, Try.ntmps3
  go_wp2_with fail
  (with_reducible refine ((CA.out).mono ?_))
  rintro e w1 ⟨rfl, hb1⟩
  have HB1 := Lib.hid hb1
  clear CA hb1
  obtain ⟨tl, htl⟩ : ∃ v, lgB R Ln = v := ⟨_, rfl⟩
  have CL0 := long_any ma mc R Ra Ln Ka Z w1 (HM.out.on HB1.out) hR
  rw [htl] at CL0
  have CL := Lib.hid CL0
  clear CL0 htl
  go_wp2_with fail
  (with_reducible refine ((CL.out).mono ?_))
  rintro e w2 ⟨rfl, hb2⟩
  have HB2 := Lib.hid (below_on HB1.out hb2)
  clear CL hb2 HB1
  cases tl
  case true =>
    go_wp2_with fail
    go_ret
    exact ⟨rfl, HB2.out⟩
  case false =>
    by_cases hv : vMP R Ln Z
    · simp only [vM_true.2 hv] at CV0 CW0
      have CV := fun W h => Lib.hid (CV0 W h)
      have CW := fun W h => Lib.hid (CW0 W h)
      have HV := Lib.hid hv
      obtain ⟨n, hn⟩ : ∃ n, Ln 0 = n := ⟨_, rfl⟩
      have HN := Lib.hid hn
      have hR0 : 0 < R := hv.1
      have hR6 : R ≤ 6 := hv.2.1
      have hn0 : 0 < n := by rw [← hn]; have := hv.2.2.1; omega
      have hn12 : n ≤ 12 := by rw [← hn]; exact hv.2.2.2.1
      have HZB : Hid (∀ i j, i < R → j < n → -32 ≤ Z i j ∧ Z i j ≤ 32) := fun i j hi hj => (hv.2.2.2.2 i hi).2 j (by rw [(hv.2.2.2.2 i hi).1, hn]; exact hj)
      obtain ⟨mb, mo, hma, hMt⟩ := HM.out.mat hv
      rw [hn] at hMt
      subst hma
      have HMT := Lib.hid hMt
      have CK := fun W h => Lib.hid (Rank_ok (some ⟨mb, mo, none⟩) R mc Ra Ln Ka Z W n HN.out h HV.out)
      have CI := fun W h => Lib.hid (Indep_ok (some ⟨mb, mo, none⟩) R mc Ra Ln Ka Z W n HN.out h HV.out)
      have CD := fun W h => Lib.hid (Det_all (some ⟨mb, mo, none⟩) R mc Ra Ln Ka Z W n HN.out h HV.out)
      have CRK := fun W h => Lib.hid (refRank_any mb mo mc R n (fun i => adB (Ra i)) (fun i => adO (Ra i)) Ka Z W h hR0 (by omega) hn0 (by omega) (.inl hR6) HZB.out)
      clear hv hn CV0 CW0 hMt
      go_wp2_with fail
      (with_reducible refine (((CK _ (HM.out.on HB2.out)).out).mono ?_))
      rintro e w3 ⟨hb3, k, p, E, D, hF, rfl⟩
      have HB3 := Lib.hid (below_on HB2.out hb3)
      have HF := Lib.hid hF
      clear CK hb3 hF HB2
      go_wp2_with fail
      (with_reducible refine (((CI _ (HM.out.on HB3.out)).out).mono ?_))
      rintro e w4 ⟨hb4, k2, p2, E2, D2, pv, hF2, rfl, hO⟩
      obtain ⟨pa, pc, hpv⟩ := own_form hO
      subst hpv
      have HB4 := Lib.hid (below_on HB3.out hb4)
      have HF2 := Lib.hid hF2.w
      have HO := Lib.hid hO
      have kR := hF2.lt
      have k2n := hF2.kR
      clear CI hb4 hF2 hO HB3 kR
      go_wp2_with fail
      (with_reducible refine (((CD _ (HM.out.on HB4.out)).out).mono ?_))
      rintro e w5 ⟨hb5, v, er, rfl, hD⟩
      have HB5 := Lib.hid (below_on HB4.out hb5)
      have HO5 := Lib.hid (own_only HO.out (Only.of_below (S := fun _ => False) hb5) (fun _ _ q => q))
      have HD := Lib.hid hD
      clear CD hb5 hD HB4 HO
      go_wp2_with fail
      (with_reducible refine (((CW _ (HM.out.on HB5.out)).out).mono ?_))
      rintro e w6 ⟨rfl, hb6⟩
      have HB6 := Lib.hid (below_on HB5.out hb6)
      have HO6 := Lib.hid (own_only HO5.out (Only.of_below (S := fun _ => False) hb6) (fun _ _ q => q))
      clear CW hb6 HB5 HO5
      go_wp2_with fail
      (with_reducible refine (((CV _ (HM.out.on HB6.out)).out).mono ?_))
      rintro e w7 ⟨rfl, hb7⟩
      have HB7 := Lib.hid (below_on HB6.out hb7)
      have HO7 := Lib.hid (own_only HO6.out (Only.of_below (S := fun _ => False) hb7) (fun _ _ q => q))
      clear CV hb7 HB6 HO6
      go_wp2_with fail
      (with_reducible refine (((CRK _ (HMT.out.on HB7.out)).out).mono ?_))
      rintro e w8 ⟨hb8, k3, p3, E3, D3, hF3, rfl⟩
      have ek := (HF.out.w.uniq hF3 (Trn.refl _ _ _) (Trn.refl _ _ _)).1
      subst ek
      have HB8 := Lib.hid (below_on HB7.out hb8)
      have HO8 := Lib.hid (own_only HO7.out (Only.of_below (S := fun _ => False) hb8) (fun _ _ q => q))
      have CIR := Lib.hid (refIndep_any mb mo mc R n (fun i => adB (Ra i)) (fun i => adO (Ra i)) Ka Z k2 p2 E2 D2 w8 (HMT.out.on HB8.out) hR0 hR6 hmc hmc2 hn0 hn12 HZB.out HF2.out)
      clear CRK hb8 hF3 HB7 HO7
      go_wp2_with fail
      (with_reducible refine ((CIR.out).mono ?_))
      rintro e w9 ⟨hb9, v9, rfl, hO9⟩
      obtain ⟨qa, qc, hqv⟩ := own_form hO9
      subst hqv
      have HB9 := Lib.hid (below_on HB8.out hb9)
      have CE := Lib.hid (equal_ints _ _ k2 _ _ p2 w9 (own_only HO8.out (Only.of_below (S := fun _ => False) hb9) (fun _ _ q => q)) hO9 (by omega))
      clear CIR hb9 hO9 HB8 HO8
      go_wp2_with fail
      (with_reducible refine ((CE.out).mono ?_))
      rintro e w10 ⟨rfl, hb10⟩
      have HB10 := Lib.hid (below_on HB9.out hb10)
      clear CE hb10 HB9
      have p0 := (HMT.out.on HB10.out).top 0 hR0
      rw [Nat.add_zero] at p0
      by_cases hsq : R = n
      · have HSQ := Lib.hid hsq
        subst hsq
        have CDR := fun W h => Lib.hid (refDet_any mb mo mc R (fun i => adB (Ra i)) (fun i => adO (Ra i)) Ka Z W h hR0 hR6 HZB.out)
        have er0 : er = 0 := by
          rcases HD.out with ⟨h, _⟩ | ⟨_, h, _⟩
          · exact absurd rfl h
          · exact h
        subst er0
        go_wp2_with fail
        clear p0
        (with_reducible refine (((CDR _ (HMT.out.on HB10.out)).out).mono ?_))
        rintro e w11 ⟨hb11, v2, rfl, hR2⟩
        obtain ⟨_, ev⟩ := HD.out.ref rfl hR2
        subst ev
        have HB11 := Lib.hid (below_on HB10.out hb11)
        clear CDR hb11 hR2 HB10 HD
        go_wp2_with fail
        go_ret
        exact ⟨rfl, HB11.out⟩
      · have hne : ¬ ((R : Int) = (n : Int)) := by omega
        have e2 : v = 0 ∧ er = 19 := by
          rcases HD.out with ⟨_, h⟩ | ⟨h, _⟩
          · exact h
          · exact absurd h hsq
        obtain ⟨rfl, rfl⟩ := e2
        clear hsq
        go_wp2_with fail
        go_ret
        exact ⟨rfl, HB10.out⟩
    · simp only [vM_no hv] at CV0 CW0
      have CV := fun W h => Lib.hid (CV0 W h)
      have CW := fun W h => Lib.hid (CW0 W h)
      have CK := Lib.hid (Rank_bad ma R mc Ra Ln Ka Z w2 (HM.out.on HB2.out) hR hv)
      have CI := fun W h => Lib.hid (Indep_bad ma R mc Ra Ln Ka Z W h hR hv)
      have CD := fun W h => Lib.hid (Det_bad ma R mc Ra Ln Ka Z W h hR hv)
      clear hv CV0 CW0
      go_wp2_with fail
      (with_reducible refine ((CK.out).mono ?_))
      rintro e w3 ⟨rfl, hb3⟩
      have HB3 := Lib.hid (below_on HB2.out hb3)
      clear CK hb3 HB2
      go_wp2_with fail
      (with_reducible refine (((CI _ (HM.out.on HB3.out)).out).mono ?_))
      rintro e w4 ⟨rfl, hb4⟩
      have HB4 := Lib.hid (below_on HB3.out hb4)
      clear CI hb4 HB3
      go_wp2_with fail
      (with_reducible refine (((CD _ (HM.out.on HB4.out)).out).mono ?_))
      rintro e w5 ⟨rfl, hb5⟩
      have HB5 := Lib.hid (below_on HB4.out hb5)
      clear CD hb5 HB4
      go_wp2_with fail
      (with_reducible refine (((CW _ (HM.out.on HB5.out)).out).mono ?_))
      rintro e w6 ⟨rfl, hb6⟩
      have HB6 := Lib.hid (below_on HB5.out hb6)
      clear CW hb6 HB5
      go_wp2_with fail
      (with_reducible refine (((CV _ (HM.out.on HB6.out)).out).mono ?_))
      rintro e w7 ⟨rfl, hb7⟩
      have HB7 := Lib.hid (below_on HB6.out hb7)
      clear CV hb7 HB6
      go_wp2_with fail
      go_ret
      exact ⟨rfl, HB7.out⟩

end Go.Proofs.Ytjggnmbdgagkoaa
