/- Layer 4: LinearDepends returns true. -/
import Derived.Test.YtjggnmbdgagkoaaLSort
import Derived.Test.YtjggnmbdgagkoaaLAwake
namespace Go.Proofs.Ytjggnmbdgagkoaa
set_option linter.unusedVariables false
open Go.RowKit Go.Shelf

/-- The rows of a list of indices. -/
def rowsL (n : Nat) (Ra : Nat → Option Addr) (Ka p : Nat → Nat) (t : Nat) : List Value := (List.range t).map fun x => Value.slice (Ra (p x)) n (Ka (p x))
theorem rowsL_succ (n : Nat) (Ra : Nat → Option Addr) (Ka p : Nat → Nat) (t : Nat) : rowsL n Ra Ka p (t + 1) = rowsL n Ra Ka p t ++ [.slice (Ra (p t)) n (Ka (p t))] := by
  unfold rowsL
  rw [List.range_succ, List.map_append]
  rfl
theorem rowsL_len (n : Nat) (Ra : Nat → Option Addr) (Ka p : Nat → Nat) (t : Nat) : (rowsL n Ra Ka p t).length = t := by simp [rowsL]
theorem rowsL_one (n : Nat) (Ra : Nat → Option Addr) (Ka p : Nat → Nat) (t : Nat) : ∀ u ∈ rowsL n Ra Ka p t, u.oneCell' = true := by
  intro u hu
  obtain ⟨x, _, rfl⟩ := List.mem_map.1 hu
  rfl
def rowQ (p : Nat → Nat) (t i : Nat) : Nat → Nat := fun x => if x < t then p x else i
theorem grown_mat {W : World} {ma : Option Addr} {R : Nat} {Ra : Nat → Option Addr} {Ln Ka : Nat → Nat} {Z : Nat → Nat → Int} (hM : AMat W ma R Ra Ln Ka Z) (n : Nat) (hn : ∀ i, i < R → Ln i = n) (hn12 : n ≤ 12) (p : Nat → Nat) (t i B g cap : Nat) (hp : ∀ x, x < t → p x < R) (hi : i < R) (ho : W.ownsRow B 29 1 (.slice (some ⟨g, 0, none⟩) (t + 1) cap) (t + 1) (rowsL n Ra Ka p t ++ [.slice (Ra i) n (Ka i)])) :
    AMat W (some ⟨g, 0, none⟩) (t + 1) (fun x => Ra (rowQ p t i x)) (fun _ => n) (fun x => Ka (rowQ p t i x)) (fun x => Z (rowQ p t i x)) := by
  have hq : ∀ x, rowQ p t i x < R ∨ ¬ x < t + 1 := fun x => by
    unfold rowQ
    by_cases h : x < t
    · rw [if_pos h]; exact .inl (hp x h)
    · rw [if_neg h]; exact .inl hi
  refine ⟨fun _ => ⟨g, 0, rfl, (ho.lt g rfl).2, fun x hx => ?_⟩, fun x hx => ?_, fun x hx => by omega⟩
  · have hl : (rowsL n Ra Ka p t ++ [.slice (Ra i) n (Ka i)])[x]? = some (.slice (Ra (rowQ p t i x)) n (Ka (rowQ p t i x))) := by
      unfold rowQ
      by_cases h : x < t
      · rw [List.getElem?_append_left (by rw [rowsL_len]; exact h), if_pos h]
        simp [rowsL, h]
      · have e : x = t := by omega
        subst e
        rw [List.getElem?_append_right (by rw [rowsL_len]; exact Nat.le_refl _), rowsL_len, if_neg h]
        simp
    have := ho.cells (g := g) rfl x _ hl
    rw [Nat.zero_add]
    rwa [show (⟨g, 0, none⟩ : Addr).add x = ⟨g, x, none⟩ by unfold Addr.add; split <;> simp_all] at this
  · rcases hq x with h | h
    · have := hM.row _ h
      rw [hn _ h] at this
      exact this
    · omega
theorem piv_iff {k t i : Nat} {p : Nat → Nat} (up : ∀ l l', l < l' → l' < k → p l < p l') (h1 : ∀ l, l < t → p l < i) (h2 : ∀ l, t ≤ l → l < k → i ≤ p l) : (∃ l, l < k ∧ p l = i) ↔ (t < k ∧ p t = i) := by
  constructor
  · rintro ⟨l, hl, e⟩
    have tl : t ≤ l := by
      rcases Nat.lt_or_ge l t with g | g
      · have := h1 l g; omega
      · exact g
    refine ⟨by omega, ?_⟩
    have a := h2 t (Nat.le_refl _) (by omega)
    by_cases g : l = t
    · rw [← g]; exact e
    · have := up t l (by omega) hl; omega
  · rintro ⟨h, e⟩
    exact ⟨t, h, e⟩

set_option maxRecDepth 100000 in
set_option maxHeartbeats 32000000 in
theorem depends_walk (ma : Option Addr) (R mc : Nat) (Ra : Nat → Option Addr) (Ln Ka : Nat → Nat) (Z : Nat → Nat → Int) (w : World) (hM : AMat w ma R Ra Ln Ka Z) (hR : R ≤ 9223372036854775807) :
    Calls Try.prog 8 #[.slice ma R mc] w fun e w' => e = .returned (.bool true) ∧ Below w.heap.size w w' := by
  have HM := Lib.hid hM
  have CA := Lib.hid (lawake_any w)
  clear hM
  go_enter Try.func8, Try.ntmps8
  go_wp2_with fail
  (with_reducible refine ((CA.out).mono ?_))
  rintro e w1 ⟨rfl, hb1⟩
  have HB1 := Lib.hid hb1
  clear CA hb1
  obtain ⟨tl, htl⟩ : ∃ v, lgB R Ln = v := ⟨_, rfl⟩
  have CL0 := long_any ma mc R Ra Ln Ka Z w1 (HM.out.on HB1.out) hR
  rw [htl] at CL0
  have CL := Lib.hid CL0
  clear CL0 htl
  go_wp2_with fail
  (with_reducible refine ((CL.out).mono ?_))
  rintro e w2 ⟨rfl, hb2⟩
  have HB2 := Lib.hid (below_on HB1.out hb2)
  clear CL hb2 HB1
  cases tl
  case true =>
    go_wp2_with fail
    go_ret
    exact ⟨rfl, HB2.out⟩
  case false =>
    by_cases hv : vMP R Ln Z
    · have CI := Lib.hid (Indep_ok ma R mc Ra Ln Ka Z w2 (Ln 0) rfl (HM.out.on HB2.out) hv)
      have CK := fun W h => Lib.hid (Rank_ok ma R mc Ra Ln Ka Z W (Ln 0) rfl h hv)
      have HV := Lib.hid hv
      obtain ⟨n, hn⟩ : ∃ n, Ln 0 = n := ⟨_, rfl⟩
      rw [hn] at CI
      simp only [hn] at CK
      have HN := Lib.hid hn
      have hR0 : 0 < R := hv.1
      have hR6 : R ≤ 6 := hv.2.1
      have hn0 : 0 < n := by rw [← hn]; have := hv.2.2.1; omega
      have hn12 : n ≤ 12 := by rw [← hn]; exact hv.2.2.2.1
      clear hv hn
      go_wp2_with fail
      (with_reducible refine ((CI.out).mono ?_))
      rintro e w3 ⟨hb3, k, p, E, D, pv, hF, rfl, hO⟩
      obtain ⟨pa, pc, hpv⟩ := own_form hO
      subst hpv
      have HB3 := Lib.hid (below_on HB2.out hb3)
      have HF := Lib.hid hF.w
      have HO := Lib.hid (own_base hO HB2.out.size)
      clear CI hb3 hF hO HB2
      go_wp2_with fail
      (with_reducible refine (((CK _ (HM.out.on HB3.out)).out).mono ?_))
      rintro e w4 ⟨hb4, k2, p2, E2, D2, hF2, rfl⟩
      have HB4 := Lib.hid (below_on HB3.out hb4)
      have hku := rank_turned hF2.w HF.out (fun i j _ _ => rfl)
      subst hku
      have kR := HF.out.kR
      have kR2 := hF2.kR
      have CS := Lib.hid (sorted_any w.heap.size k2 _ p w4 (own_only HO.out (Only.of_below (S := fun _ => False) hb4) (fun _ _ q => q)) (by omega) HF.out.up)
      have HO4 := Lib.hid (own_only HO.out (Only.of_below (S := fun _ => False) hb4) (fun _ _ q => q))
      clear CK hb4 hF2 HB3 HO
      go_wp2_with fail
      (with_reducible refine ((CS.out).mono ?_))
      rintro e w5 ⟨rfl, hb5⟩
      have HB5 := Lib.hid (below_on HB4.out hb5)
      have HO5 := Lib.hid (own_only HO4.out (Only.of_below (S := fun _ => False) hb5) (fun _ _ q => q))
      clear CS hb5 HB4 HO4
      obtain ⟨i0, hi0, hz0, hz1, hz2⟩ := info_parts (show (Try.prog.info? 29).map (fun i => (i.zero, i.size, i.bytes)) = some (some (Value.slice none 0 0), 1, 24) by kernel_rfl)
      have S0 : Hid ((w5.ownsRow w.heap.size 29 1 (.slice none 0 0) 0 (rowsL n Ra Ka p 0) ∧ Below w5.heap.size w5 w5) ∧ (∀ l, l < 0 → p l < 0) ∧ ∀ l, 0 ≤ l → l < k2 → 0 ≤ p l) := ⟨⟨World.ownsRow_nil _ _ _ _, Below.refl _ _⟩, fun l h => by omega, fun l _ _ => Nat.zero_le _⟩
      go_wp2_with fail
      go_loopg [52, 7] R (fun g s52 s7 wx => ∃ i t : Nat, s52 = .int .i64 i ∧ g = R - i ∧ i ≤ R ∧ t ≤ k2 ∧ t ≤ i ∧ Hid ((wx.ownsRow w.heap.size 29 1 s7 t (rowsL n Ra Ka p t) ∧ Below w5.heap.size w5 wx) ∧ (∀ l, l < t → p l < i) ∧ ∀ l, t ≤ l → l < k2 → i ≤ p l))
      case atStart => exact ⟨0, 0, rfl, rfl, Nat.zero_le _, Nat.zero_le _, Nat.zero_le _, S0⟩
      case round =>
        clear S0
        obtain ⟨i, t, rfl, rfl, hi, ht, hti, S⟩ := hrel
        rename World => W1
        by_cases hlt : i < R
        · have wk : IntKind.i64.wrap ((i : Int) + 1) = ((i + 1 : Nat) : Int) := by rw [IntWalk.i64_in _ (by omega)]; omega
          have HLN : Hid (∀ i, i < R → Ln i = n) := fun i hi => by rw [(HV.out.2.2.2.2 i hi).1]; exact HN.out
          have HBW := Lib.hid (HB5.out.trans (S.out.1.2.mono HB5.out.size))
          obtain ⟨mb, mo, hma, hmb, htop⟩ := (HM.out.on HBW.out).top hR0
          have p1 := htop i hlt
          rw [HLN.out i hlt] at p1
          subst hma
          obtain ⟨ra, rc, hrv⟩ := own_form S.out.1.1
          have CC := Lib.hid (clone_rows w.heap.size t _ _ W1 S.out.1.1 (rowsL_one n Ra Ka p t) (by omega))
          subst hrv
          clear htop
          go_wp2_with fail
          (with_reducible refine ((CC.out).mono ?_))
          rintro e W2 ⟨v2, rfl, ho2, hb2⟩
          have HB12 := Lib.hid hb2
          obtain ⟨va, vc, hvv⟩ := own_form ho2
          subst hvv
          have OA : Hid ((W2.alloc (Obj.cells #[.slice (Ra i) n (Ka i)] 29)).ownsRow W1.heap.size 29 1 (.slice va t vc) t (rowsL n Ra Ka p t)) := own_only ho2 (Only.of_below (S := fun _ => False) ((Below.refl _ _).alloc (Nat.le_refl _) _)) (fun _ _ q => q)
          have NA : Hid (∀ j u, [Value.slice (Ra i) n (Ka i)][j]? = some u → (W2.alloc (Obj.cells #[.slice (Ra i) n (Ka i)] 29)).cell? ((⟨W2.heap.size, 0, none⟩ : Addr).add j) = some u) := one_news (by simp [go_sem])
          have BA : Hid (Below W2.heap.size W2 (W2.alloc (Obj.cells #[.slice (Ra i) n (Ka i)] 29))) := (Below.refl _ _).alloc (Nat.le_refl _) _
          have HW12 : Hid (W1.heap.size ≤ W2.heap.size) := hb2.size
          clear CC ho2 hb2 p1
          go_wp2_with (at_builtin; refine wpList_append_lies _ rfl _ _ 23 rfl W1.heap.size 29 i0 (.slice none 0 0) 1 24 Try.underlying23 hi0 hz0 hz1 hz2 rfl (by decide) _ _ _ rfl OA.out ⟨W2.heap.size, 0, none⟩ 1 1 [.slice (Ra i) n (Ka i)] rfl rfl NA.out (by intro u hu; simp at hu; subst hu; rfl) (by omega) (by unfold maxLen; omega) (by omega) (Nat.le_trans HW12.out BA.out.size) _ rfl ?_
                       intro g cap W3 hown hgrow _ _
                       have HO3 := Lib.hid hown
                       have HK1 : Hid (Below W1.heap.size W1 W3) := below_grown (below_on HB12.out BA.out) OA.out hgrow
                       clear hown hgrow OA NA BA)
          clear HB12 HW12
          have HBW3 := Lib.hid (below_on HBW.out HK1.out)
          have hpR : ∀ x, x < t → p x < R := fun x hx => HF.out.lt x (by omega)
          have GM := grown_mat (HM.out.on HBW3.out) n HLN.out hn12 p t i W1.heap.size g cap hpR hlt HO3.out
          have hvg : vMP (t + 1) (fun _ => n) (fun x => Z (rowQ p t i x)) := ⟨by omega, by omega, (show 1 ≤ n by omega), hn12, fun x hx => ⟨rfl, fun j hj => by
            have hq : rowQ p t i x < R := by
              unfold rowQ
              split
              · rename_i h; exact hpR x h
              · exact hlt
            exact (HV.out.2.2.2.2 _ hq).2 j (by rw [HLN.out _ hq]; exact hj)⟩⟩
          have CR := Lib.hid (Rank_ok (some ⟨g, 0, none⟩) (t + 1) cap (fun x => Ra (rowQ p t i x)) (fun _ => n) (fun x => Ka (rowQ p t i x)) (fun x => Z (rowQ p t i x)) W3 n rfl GM hvg)
          clear GM hvg hpR
          go_wp2_with fail
          (with_reducible refine ((CR.out).mono ?_))
          rintro e W4 ⟨hb4, s, q, F, D', hG, rfl⟩
          have HK4 := Lib.hid (below_on HK1.out hb4)
          have HP := Lib.hid (grown_rank HF.out (fun i j _ _ => rfl) i hlt t ht S.out.2.1 S.out.2.2 (fun x j hx _ => by show Z (rowQ p t i x) j = _; unfold rowQ; rw [if_pos hx]) (fun j _ => by show Z (rowQ p t i t) j = _; unfold rowQ; rw [if_neg (Nat.lt_irrefl t)]) hG.w)
          have HO4 := Lib.hid (own_only HO3.out (Only.of_below (S := fun _ => False) hb4) (fun _ _ q => q))
          have HK5 := Lib.hid (below_on S.out.1.2 HK4.out)
          have CT := Lib.hid (cont_pv w.heap.size k2 _ p i W4 (own_only HO5.out (Only.of_below (S := fun _ => False) HK5.out) (fun _ _ q => q)) (by omega))
          have HI := Lib.hid (piv_iff HF.out.up S.out.2.1 S.out.2.2)
          clear CR hb4 hG HO3 HK1
          by_cases hp : t < k2 ∧ p t = i
          · have es := HP.out.1 hp
            subst es
            have t1 : (t : Int) < ((t + 1 : Nat) : Int) := by omega
            have t2 : (t : Int) < (t : Int) + 1 := by omega
            have t3 : decide ((t : Int) < (t : Int) + 1) = true := decide_eq_true t2
            have hd : decide (∃ l, l < k2 ∧ p l = i) = true := decide_eq_true (HI.out.2 hp)
            simp only [hd] at CT
            have HP2 := Lib.hid hp
            clear hd hp HP
            go_wp2_with fail
            (with_reducible refine ((CT.out).mono ?_))
            rintro e W5 ⟨rfl, rfl⟩
            have T : Hid ((W5.ownsRow w.heap.size 29 1 (.slice (some ⟨g, 0, none⟩) (t + 1) cap) (t + 1) (rowsL n Ra Ka p (t + 1)) ∧ Below w5.heap.size w5 W5) ∧ (∀ l, l < t + 1 → p l < i + 1) ∧ ∀ l, t + 1 ≤ l → l < k2 → i + 1 ≤ p l) :=
              ⟨⟨by rw [rowsL_succ, HP2.out.2]; exact own_base HO4.out HBW.out.size, HK5.out⟩, fun l hl => by
                by_cases e : l = t
                · rw [e, HP2.out.2]; omega
                · have := S.out.2.1 l (by omega); omega, fun l hl hk => by have := HF.out.up t l (by omega) hk; have := HP2.out.2; omega⟩
            have htk : t + 1 ≤ k2 := HP2.out.1
            clear CT HO4 HK5 HK4 HP2 HI S HBW HBW3
            go_wp2_with fail
            go_roundg (R - (i + 1))
            case measure => omega
            case rel => exact ⟨i + 1, t + 1, rfl, rfl, by omega, htk, by omega, T⟩
          · have es := HP.out.2 hp
            have t1 : ¬ (t : Int) < (s : Int) := by omega
            have hd : decide (∃ l, l < k2 ∧ p l = i) = false := decide_eq_false (fun h => hp (HI.out.1 h))
            simp only [hd] at CT
            have HP2 := Lib.hid hp
            have HI2 := Lib.hid HI.out
            clear hd hp HP HI
            go_wp2_with fail
            (with_reducible refine ((CT.out).mono ?_))
            rintro e W5 ⟨rfl, rfl⟩
            have T : Hid ((W5.ownsRow w.heap.size 29 1 (.slice ra t rc) t (rowsL n Ra Ka p t) ∧ Below w5.heap.size w5 W5) ∧ (∀ l, l < t → p l < i + 1) ∧ ∀ l, t ≤ l → l < k2 → i + 1 ≤ p l) :=
              ⟨⟨own_only S.out.1.1 (Only.of_below (S := fun _ => False) HK4.out) (fun _ _ q => q), HK5.out⟩, fun l hl => by have := S.out.2.1 l hl; omega, fun l hl hk => by
                have := S.out.2.2 l hl hk
                have : p l ≠ i := fun e => HP2.out (HI2.out.1 ⟨l, hk, e⟩)
                omega⟩
            clear CT HO4 HK5 HK4 HP2 HI2 S HBW HBW3
            go_wp2_with fail
            go_roundg (R - (i + 1))
            case measure => omega
            case rel => exact ⟨i + 1, t, rfl, rfl, by omega, ht, by omega, T⟩
        · have e : i = R := by omega
          go_wp2_with fail
          go_ret
          exact ⟨rfl, HB5.out.trans (S.out.1.2.mono HB5.out.size)⟩
    · have CI := Lib.hid (Indep_bad ma R mc Ra Ln Ka Z w2 (HM.out.on HB2.out) hR hv)
      have CK := fun W h => Lib.hid (Rank_bad ma R mc Ra Ln Ka Z W h hR hv)
      clear hv
      go_wp2_with fail
      (with_reducible refine ((CI.out).mono ?_))
      rintro e w3 ⟨rfl, hb3⟩
      have HB3 := Lib.hid (below_on HB2.out hb3)
      clear CI hb3 HB2
      go_wp2_with fail
      (with_reducible refine (((CK _ (HM.out.on HB3.out)).out).mono ?_))
      rintro e w4 ⟨rfl, hb4⟩
      have HB4 := Lib.hid (below_on HB3.out hb4)
      clear CK hb4 HB3
      go_wp2_with fail
      go_ret
      exact ⟨rfl, HB4.out⟩

end Go.Proofs.Ytjggnmbdgagkoaa
