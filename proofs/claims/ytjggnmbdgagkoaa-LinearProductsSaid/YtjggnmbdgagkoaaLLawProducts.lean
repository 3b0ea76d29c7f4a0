/- Layer 4: LinearProducts returns true. -/
import Derived.Test.YtjggnmbdgagkoaaLLong
namespace Go.Proofs.Ytjggnmbdgagkoaa
set_option linter.unusedVariables false
open Go.RowKit Go.Shelf

section
variable (ma : Option Addr) (R mc : Nat) (Ra : Nat → Option Addr) (Ln Ka : Nat → Nat) (Z : Nat → Nat → Int) (xa : Option Addr) (nx xc : Nat) (X : Nat → Int × Int) (w : World)

theorem FrX.ifr {W : World} {xb n : Nat} {F : Nat → Int × Int} (h : FrX W xb n F) : IFr W (some ⟨xb, 0, none⟩) n F := fun _ => ⟨xb, 0, rfl, h.hb, fun j hj => by
  simp only [Nat.zero_add]
  exact ⟨h.c0 j hj, h.c1 j hj⟩⟩
/-- The outcomes of both agree. -/
theorem pro_agree {n : Nat} {w1 w2 w3 : World} {e1 e2 : Ending} (h1 : ProP R n nx Z X w1 e1) (hv : aV nx X = true) (h2 : RPrP R n nx Z X w2 w3 e2) :
    (∃ c : Int, e1 = .returned (.tuple #[.slice none 0 0, .int .i64 c]) ∧ e2 = .returned (.tuple #[.slice none 0 0, .int .i64 c])) ∨
    (∃ xb ao cp, e1 = .returned (.tuple #[.slice (some ⟨xb, 0, none⟩) R R, .int .i64 0]) ∧ e2 = .returned (.tuple #[.slice ao R cp, .int .i64 0]) ∧ FrX w1 xb R (fun l => ((comS (Z l) X n).1, (comS (Z l) X n).2.1)) ∧ IFr w3 ao R (fun l => ((comS (Z l) X n).1, (comS (Z l) X n).2.1))) := by
  have hall : ∀ k, k < nx → vB (X k).1 (X k).2 = true := of_decide_eq_true hv
  rcases h1 with ⟨⟨k, hk, hb⟩, _⟩ | ⟨_, h1⟩
  · rw [hall k hk] at hb; cases hb
  · rcases h1 with ⟨hne, rfl⟩ | ⟨heq, h1⟩
    · rcases h2 with ⟨_, rfl⟩ | ⟨he, _⟩
      · exact .inl ⟨3, rfl, rfl⟩
      · exact absurd he hne
    · rcases h2 with ⟨hne, _⟩ | ⟨_, h2⟩
      · exact absurd heq hne
      · rcases h1 with ⟨i, hi, ok, bad, rfl⟩ | ⟨ok, xb, rfl, hX⟩
        · rcases h2 with ⟨i2, hi2, ok2, bad2, rfl⟩ | ⟨ok2, _⟩
          · have : i = i2 := by
              rcases Nat.lt_trichotomy i i2 with g | g | g
              · exact absurd (ok2 i g) bad
              · exact g
              · exact absurd (ok i2 g) bad2
            subst this
            exact .inl ⟨_, rfl, rfl⟩
          · exact absurd (ok2 i hi) bad
        · rcases h2 with ⟨i2, hi2, ok2, bad2, _⟩ | ⟨ok2, v, rfl, ho⟩
          · exact absurd (ok i2 hi2) bad2
          · obtain ⟨ao, cp, rfl, hI⟩ := celF_own ho
            exact .inr ⟨xb, ao, cp, rfl, rfl, hX, hI⟩

set_option maxRecDepth 100000 in
set_option maxHeartbeats 16000000 in
theorem products_walk (hM : AMat w ma R Ra Ln Ka Z) (hR : R ≤ 9223372036854775807) (hx : IFr w xa nx X) (hr : ∀ k, k < nx → FrI (X k)) (hnx : nx ≤ 9223372036854775807) :
    Calls Try.prog 5 #[.slice ma R mc, .slice xa nx xc] w fun e w' => e = .returned (.bool true) ∧ Below w.heap.size w w' := by
  have HM := Lib.hid hM
  have HX := Lib.hid hx
  have HR := Lib.hid hr
  have CA := Lib.hid (lawake_any w)
  clear hM hx hr
  go_enter Try.func5, Try.ntmps5
  go_wp2_with fail
  (with_reducible refine ((CA.out).mono ?_))
  rintro e w1 ⟨rfl, hb1⟩
  have HB1 := Lib.hid hb1
  clear CA hb1
  obtain ⟨tl, htl⟩ : ∃ v, lgB R Ln = v := ⟨_, rfl⟩
  have CL0 := long_any ma mc R Ra Ln Ka Z w1 (HM.out.on HB1.out) hR
  rw [htl] at CL0
  have CL := Lib.hid CL0
  have HTL := Lib.hid htl
  clear CL0 htl
  go_wp2_with fail
  (with_reducible refine ((CL.out).mono ?_))
  rintro e w2 ⟨rfl, hb2⟩
  have HB2 := Lib.hid (below_on HB1.out hb2)
  clear CL hb2 HB1
  cases tl
  case true =>
    go_wp2_with fail
    go_ret
    exact ⟨rfl, HB2.out⟩
  case false =>
    by_cases h20 : 20 < nx
    · have t1 : (20 : Int) < (nx : Int) := by omega
      go_wp2_with fail
      go_ret
      exact ⟨rfl, HB2.out⟩
    · have t1 : ¬ (20 : Int) < (nx : Int) := by omega
      have h20' : nx ≤ 20 := by omega
      by_cases hv : vMP R Ln Z
      · have CP := Lib.hid (Product_ok ma R mc Ra Ln Ka Z xa nx xc X w2 (Ln 0) rfl (HM.out.on HB2.out) hv (HX.out.on HB2.out) HR.out h20')
        have CV0 := fun W h => lrValid_any ma R mc Ra Ln Ka Z W h hR
        simp only [vM_true.2 hv] at CV0
        have CV := fun W h => Lib.hid (CV0 W h)
        obtain ⟨ta, hta⟩ : ∃ v, aV nx X = v := ⟨_, rfl⟩
        have CB0 := fun W h => refAllX_any xa nx xc X W h HR.out h20'
        simp only [hta] at CB0
        have CB := fun W h => Lib.hid (CB0 W h)
        have HTA := Lib.hid hta
        have HVM := Lib.hid hv
        clear CV0 CB0 hta hv
        go_wp2_with fail
        (with_reducible refine ((CP.out).mono ?_))
        rintro e w3 ⟨hb3, hP⟩
        have HB3 := Lib.hid (below_on HB2.out hb3)
        have HP := Lib.hid hP
        clear CP hb3 hP HB2
        cases ta
        case false =>
          have he : e = .returned (.tuple #[.slice none 0 0, .int .i64 1]) := by
            rcases HP.out with ⟨_, h⟩ | ⟨h, _⟩
            · exact h
            · exact absurd h (of_decide_eq_false HTA.out)
          subst he
          clear HP
          go_wp2_with fail
          (with_reducible refine (((CV _ (HM.out.on HB3.out)).out).mono ?_))
          rintro e w4 ⟨rfl, hb4⟩
          have HB4 := Lib.hid (below_on HB3.out hb4)
          clear CV hb4 HB3
          go_wp2_with fail
          (with_reducible refine (((CB _ (HX.out.on HB4.out)).out).mono ?_))
          rintro e w5 ⟨rfl, hb5⟩
          have HB5 := Lib.hid (below_on HB4.out hb5)
          clear CB hb5 HB4
          go_wp2_with fail
          go_ret
          exact ⟨rfl, HB5.out⟩
        case true =>
          obtain ⟨mb, mo, hma, hMt⟩ := HM.out.mat HVM.out
          subst hma
          have HMT := Lib.hid hMt
          clear hMt
          have hall : ∀ k, k < nx → Vld (X k).1 (X k).2 := fun k hk => vB_vld ((of_decide_eq_true HTA.out) k hk)
          have hv2 := HVM.out
          have CR := fun W hm hx => Lib.hid (refProd_ok mb mo R mc (Ln 0) nx xc (fun i => adB (Ra i)) (fun i => adO (Ra i)) Ka Z xa X W hm hv2.1 hv2.2.1 (by have := hv2.2.2.1; omega) (by have := hv2.2.2.2.1; omega) (fun i hi j hj => (hv2.2.2.2.2 i hi).2 j (by rw [(hv2.2.2.2.2 i hi).1]; exact hj)) hx hall h20')
          clear hall hv2
          have HE : Hid (∃ y : Option Addr, ∃ c n' : Nat, ∃ er : Int, e = .returned (.tuple #[.slice y n' c, .int .i64 er])) := by
            rcases HP.out with ⟨_, h⟩ | ⟨_, ⟨_, h⟩ | ⟨_, ⟨_, _, _, _, h⟩ | ⟨_, xb, h, _⟩⟩⟩
            · exact ⟨_, _, _, _, h⟩
            · exact ⟨_, _, _, _, h⟩
            · exact ⟨_, _, _, _, h⟩
            · exact ⟨_, _, _, _, h⟩
          obtain ⟨ya, yc, yn, er, rfl⟩ := HE.out
          clear HE
          go_wp2_with fail
          (with_reducible refine (((CV _ (HM.out.on HB3.out)).out).mono ?_))
          rintro e w4 ⟨rfl, hb4⟩
          have HB4 := Lib.hid (below_on HB3.out hb4)
          have HK4 := Lib.hid hb4
          clear CV hb4
          go_wp2_with fail
          (with_reducible refine (((CB _ (HX.out.on HB4.out)).out).mono ?_))
          rintro e w5 ⟨rfl, hb5⟩
          have HB5 := Lib.hid (below_on HB4.out hb5)
          have HK5 := Lib.hid (below_on HK4.out hb5)
          clear CB hb5 HB4 HK4
          go_wp2_with fail
          (with_reducible refine (((CR _ (HMT.out.on HB5.out) (HX.out.on HB5.out)).out).mono ?_))
          rintro e w6 ⟨hb6, hQ⟩
          have HB6 := Lib.hid (below_on HB5.out hb6)
          have HK6 := Lib.hid (below_on HK5.out hb6)
          rcases pro_agree R Z nx X HP.out HTA.out hQ with ⟨c, h1, rfl⟩ | ⟨xb, ao, cp, h1, rfl, hX, hI⟩
          · injection h1 with h1
            injection h1 with h1
            injection h1 with h1
            injection h1 with h2 h3
            injection h3 with h3 h4
            injection h2 with h2 h5 h6
            injection h3 with h3 h7
            subst h2; subst h5; subst h6; subst h7
            have CE := fun W => Lib.hid (equalF_same none none 0 0 0 [] [] W (fun h => by cases h) (fun h => by cases h) rfl rfl (by omega))
            simp only [decide_true] at CE
            clear CR hb6 hQ HP HB5 HK5 HB3
            go_wp2_with fail
            (with_reducible refine (((CE _).out).mono ?_))
            rintro e w7 ⟨rfl, hb7⟩
            go_wp2_with fail
            go_ret
            exact ⟨rfl, below_on HB6.out hb7⟩
          · injection h1 with h1
            injection h1 with h1
            injection h1 with h1
            injection h1 with h2 h3
            injection h3 with h3 h4
            injection h2 with h2 h5 h6
            injection h3 with h3 h7
            subst h2; subst h5; subst h6; subst h7
            have CE0 := equalF_same (some ⟨xb, 0, none⟩) ao yc cp yc _ _ w6 (hX.ifr.on HK6.out).frl hI.frl (by simp) (by simp) (by omega)
            rw [decide_eq_true rfl] at CE0
            have CE := Lib.hid CE0
            clear CE0
            clear CR hb6 hQ HP HB5 HK5 HB3 hX hI
            go_wp2_with fail
            (with_reducible refine (((CE).out).mono ?_))
            rintro e w7 ⟨rfl, hb7⟩
            go_wp2_with fail
            go_ret
            exact ⟨rfl, below_on HB6.out hb7⟩
      · have CP := Lib.hid (Product_bad ma R mc Ra Ln Ka Z xa nx xc w2 (HM.out.on HB2.out) hR hv)
        have CV0 := fun W h => lrValid_any ma R mc Ra Ln Ka Z W h hR
        simp only [vM_no hv] at CV0
        have CV := fun W h => Lib.hid (CV0 W h)
        clear CV0 hv
        go_wp2_with fail
        (with_reducible refine ((CP.out).mono ?_))
        rintro e w3 ⟨rfl, hb3⟩
        have HB3 := Lib.hid (below_on HB2.out hb3)
        clear CP hb3 HB2
        go_wp2_with fail
        (with_reducible refine (((CV _ (HM.out.on HB3.out)).out).mono ?_))
        rintro e w4 ⟨rfl, hb4⟩
        have HB4 := Lib.hid (below_on HB3.out hb4)
        clear CV hb4 HB3
        go_wp2_with fail
        go_ret
        exact ⟨rfl, HB4.out⟩
end

end Go.Proofs.Ytjggnmbdgagkoaa
