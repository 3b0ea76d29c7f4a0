/- The walk of the reference's next: what begins at an index. -/
import Derived.Test.YtbpcfgeefelfdaaRefTok1
namespace Go.Proofs.Ytbpcfgeefelfdaa
open Go.RowKit

/-- What next comes to, at the list l that begins at index i of a text of n bytes. -/
def NextOut (l : List UInt8) (i n : Nat) (w : World) (e : Ending) (w' : World) : Prop :=
  ∃ m : Nat, e = .returned (.tuple #[.int .i64 (firstS l).1, .int .i64 m]) ∧ ((firstS l).1 ≠ -1 → m = i + (firstS l).2) ∧ m ≤ n ∧ ∃ k, w' = w.drewN k

theorem symS_le {l r : List UInt8} {c : UInt8} {z i n : Nat} (hz : z = symS l) (hl : l = c :: r) (hn : l.length = n - i) : z ≤ 2 ∧ i + z ≤ n := by
  subst hz hl
  simp only [List.length_cons] at hn
  simp only [symS]
  split
  · rename_i h
    simp at h
    cases r with
    | nil => simp at h
    | cons d r => simp at hn; omega
  · split <;> omega

theorem numS_cut (l : List UInt8) : numS l = if pre dg l < l.length ∧ l[pre dg l]? = some 46 ∧ 0 < pre dg (l.drop (pre dg l + 1)) then pre dg l + 1 + pre dg (l.drop (pre dg l + 1)) else pre dg l := by
  have hle := pre_le dg l
  unfold numS
  simp only
  by_cases h1 : pre dg l = l.length ∨ l[pre dg l]? ≠ some 46
  · rw [if_pos h1, if_neg]
    rintro ⟨a, b, _⟩
    rcases h1 with h1 | h1
    · omega
    · exact h1 b
  · rw [if_neg h1]
    have ha : pre dg l < l.length := by
      rcases Nat.lt_or_ge (pre dg l) l.length with a | a
      · exact a
      · exact absurd (Or.inl (by omega)) h1
    have hb : l[pre dg l]? = some 46 := Classical.byContradiction (fun h => h1 (Or.inr h))
    by_cases h2 : pre dg (l.drop (pre dg l + 1)) = 0
    · rw [if_pos h2, if_neg (by rintro ⟨_, _, c⟩; omega)]
    · rw [if_neg h2, if_pos ⟨ha, hb, by omega⟩]

set_option maxRecDepth 100000 in
set_option maxHeartbeats 8000000 in
theorem next_any (s : ByteArray) (i : Nat) (w : World) (hs : s.size ≤ 1000000) (hi : i < s.size) :
    Calls Try.prog 36 #[.string s, .int .i64 i] w (NextOut (s.data.toList.drop i) i s.size w) := by
  have hl := drop_cons' s i hi
  have hii : (i : Int) < (s.size : Int) := by omega
  obtain ⟨l, hL⟩ : ∃ l, l = s.data.toList.drop i := ⟨_, rfl⟩
  have hlen : l.length = s.size - i := by rw [hL]; simp
  rw [← hL] at hl
  rw [← hL]
  by_cases c1 : (s[i].toNat : Int) = 32 ∨ (s[i].toNat : Int) = 9
  · have HF := Lib.hid (first_blank (s.data.toList.drop (i + 1)) c1)
    rw [← hl] at HF
    have hc : ((s[i].toNat : Int) == 32) = true ∨ (((s[i].toNat : Int) == 32) = false ∧ ((s[i].toNat : Int) == 9) = true) := by
      rcases c1 with c | c
      · exact .inl (beq_yes c)
      · exact .inr ⟨beq_no (by omega), beq_yes c⟩
    clear hL hl hlen c1
    rcases hc with b1 | ⟨b1, b2⟩
    all_goals
      go_enter Try.func36, Try.ntmps36
      go_wp2
      go_ret2
      exact ⟨i + 1, by rw [HF.out]; rfl, fun _ => by rw [HF.out], by omega, 0, rfl⟩
  · have b32 := beq_no (show ¬ (s[i].toNat : Int) = 32 by omega)
    have b9 := beq_no (show ¬ (s[i].toNat : Int) = 9 by omega)
    by_cases c2 : (s[i].toNat : Int) = 10
    · have HF := Lib.hid (first_line (s.data.toList.drop (i + 1)) c2)
      rw [← hl] at HF
      have b10 := beq_yes c2
      clear hL hl hlen c1 c2
      go_enter Try.func36, Try.ntmps36
      go_wp2
      go_ret2
      exact ⟨i + 1, by rw [HF.out]; rfl, fun _ => by rw [HF.out], by omega, 0, rfl⟩
    · have b10 := beq_no c2
      by_cases c3 : (s[i].toNat : Int) = 35
      · have HF := Lib.hid (first_comment (s.data.toList.drop (i + 1)) c3)
        rw [← hl] at HF
        have b35 := beq_yes c3
        obtain ⟨z, hz⟩ : ∃ z, z = i + pre nl l := ⟨_, rfl⟩
        have hzs : z ≤ s.size := by rw [hz]; have := pre_le nl l; omega
        have hiz : i ≤ z := by omega
        have hget : ∀ j, i ≤ j → (h : j < s.size) → l[j - i]? = some s[j] := fun j h1 h => by
          rw [hL, List.getElem?_drop, show i + (j - i) = j from by omega]; exact get_byte s j h
        have Hin := Lib.hid (fun (j : Nat) (h1 : i ≤ j) (h2 : j < z) (h : j < s.size) => pre_yes nl l (j - i) (by omega) _ (hget j h1 h))
        have Hout := Lib.hid (fun (h : z < s.size) => pre_no nl l s[z] (by rw [show pre nl l = z - i from by omega]; exact hget z hiz h))
        have Hz := Lib.hid hz
        clear hL hl hlen c1 c2 c3 hget hz
        go_enter Try.func36, Try.ntmps36
        go_wp2
        go_loop [1] (fun u => ∃ j : Nat, u = .int .i64 j ∧ i ≤ j ∧ j ≤ z) (fun u => s.size + 1 - (intOf u).toNat)
        case atStart => exact ⟨i, rfl, Nat.le_refl _, hiz⟩
        case round =>
          obtain ⟨j, rfl, hj1, hj2⟩ := hrel
          by_cases hjz : j < z
          · have hjs : j < s.size := by omega
            have hji : (j : Int) < (s.size : Int) := by omega
            have hn : ((s[j].toNat : Int) != 10) = true := by
              have := Hin.out j hj1 hjz hjs; unfold nl at this; rw [bne, this]
            go_wp2
            go_round
            case rel => exact ⟨j + 1, by go_num, by omega, by omega⟩
            case measure => simp [intOf]; omega
          · obtain rfl : j = z := by omega
            by_cases hjs : j < s.size
            · have hji : (j : Int) < (s.size : Int) := by omega
              have hn : ((s[j].toNat : Int) != 10) = false := by
                have := Hout.out hjs; unfold nl at this; rw [bne, this]
              go_wp2
              go_ret2
              exact ⟨j, by rw [HF.out]; rfl, fun _ => by rw [HF.out]; exact Hz.out, hzs, 0, rfl⟩
            · have hji : ¬ (j : Int) < (s.size : Int) := by omega
              go_wp2
              go_ret2
              exact ⟨j, by rw [HF.out]; rfl, fun _ => by rw [HF.out]; exact Hz.out, hzs, 0, rfl⟩
      · have b35 := beq_no c3
        by_cases c4 : letB (s[i].toNat : Int) = true
        · have hF := first_letter (s.data.toList.drop (i + 1)) c4
          rw [← hl] at hF
          have Hlt := Lib.hid c4
          have hzs := pre_le wd l
          obtain ⟨z, hz⟩ : ∃ z : Nat, z = i + pre wd l := ⟨_, rfl⟩
          have hz1 : z ≤ s.size := by omega
          have hz2 : i ≤ z := by omega
          by_cases c20 : 20 < pre wd l
          · rw [if_pos c20] at hF
            have HF := Lib.hid hF
            have h20 : (20 : Int) < (z : Int) - (i : Int) := by omega
            rw [hL] at hz
            have HZ := Lib.hid hz
            clear hF hL hl hlen c1 c2 c3 c4 hzs hz c20
            go_enter Try.func36, Try.ntmps36
            go_wp2_with (first | (go_at_call 37; refine ((refLetter_any _ _).mono ?_); rintro e w' ⟨rfl, rfl⟩; rw [Hlt.out]) | (go_at_call 38; refine ((refWord_any s i _ (by omega) (by omega)).mono ?_); rintro e w' ⟨rfl, rfl⟩; rw [← HZ.out]))
            go_ret2
            exact ⟨z, by rw [HF.out]; rfl, fun h => absurd (by rw [HF.out]) h, hz1, 0, rfl⟩
          · rw [if_neg c20] at hF
            have HF := Lib.hid hF
            have h20 : ¬ (20 : Int) < (z : Int) - (i : Int) := by omega
            have Hz := Lib.hid hz
            rw [hL] at hz
            have HZ := Lib.hid hz
            clear hF hL hl hlen c1 c2 c3 c4 hzs hz c20
            go_enter Try.func36, Try.ntmps36
            go_wp2_with (first | (go_at_call 37; refine ((refLetter_any _ _).mono ?_); rintro e w' ⟨rfl, rfl⟩; rw [Hlt.out]) | (go_at_call 38; refine ((refWord_any s i _ (by omega) (by omega)).mono ?_); rintro e w' ⟨rfl, rfl⟩; rw [← HZ.out]))
            go_ret2
            exact ⟨z, by rw [HF.out]; rfl, fun _ => by rw [HF.out]; exact Hz.out, hz1, 0, rfl⟩
        · have c4' : letB (s[i].toNat : Int) = false := by simpa using c4
          have Hlt := Lib.hid c4'
          by_cases c5 : digB (s[i].toNat : Int) = true
          · have Hdt := Lib.hid c5
            have hF := first_digit (s.data.toList.drop (i + 1)) c5
            rw [← hl] at hF
            have HF := Lib.hid hF
            obtain ⟨a, ha⟩ : ∃ a : Nat, a = pre dg l := ⟨_, rfl⟩
            obtain ⟨z, hz⟩ : ∃ z : Nat, z = i + a := ⟨_, rfl⟩
            have hal := pre_le dg l
            have hz1 : z ≤ s.size := by omega
            have hcut := numS_cut l
            rw [← ha] at hcut
            have hdrop : l.drop (a + 1) = s.data.toList.drop (z + 1) := by rw [hL, List.drop_drop, hz]; congr 1
            have hga : l[a]? = s.data.toList[z]? := by rw [hL, List.getElem?_drop, hz]
            have HZ : Hid (z = i + pre dg (s.data.toList.drop i)) := Lib.hid (by rw [← hL, ← ha]; exact hz)
            have Hz := Lib.hid hz
            by_cases hlt : z + 1 < s.size
            · have hlti : (z : Int) + 1 < (s.size : Int) := by omega
              have hzi : (z : Int) < (s.size : Int) := by omega
              have hgz := get_byte s z (by omega)
              have hdc := drop_cons' s (z + 1) hlt
              by_cases h46 : s[z] = 46
              · have h46b : ((s[z].toNat : Int) == 46) = true := beq_yes (by rw [h46]; rfl)
                by_cases hd : digB (s[z + 1].toNat : Int) = true
                · obtain ⟨b, hb⟩ : ∃ b : Nat, b = pre dg (s.data.toList.drop (z + 1)) := ⟨_, rfl⟩
                  have hbp : 0 < b := by rw [hb, hdc]; exact pre_pos dg _ _ hd
                  have hbl : z + 1 + b ≤ s.size := by rw [hb]; have := pre_drop_le dg s.data.toList (z + 1) (by simp; omega); simpa using this
                  have hnum : numS l = a + 1 + b := by
                    rw [hcut, hdrop, ← hb, if_pos ⟨by omega, by rw [hga, hgz, h46], hbp⟩]
                  have Hnum := Lib.hid hnum
                  have Hb := Lib.hid hb
                  have Hd := Lib.hid hd
                  clear hF hL hl hlen c1 c2 c3 c4 c4' c5 ha hz hal hcut hdrop hga hgz hdc h46 hb hnum hd
                  go_enter Try.func36, Try.ntmps36
                  go_wp2_with (go_at_call 37; refine ((refLetter_any _ _).mono ?_); rintro e w' ⟨rfl, rfl⟩; rw [Hlt.out])
                  refine (refDigit_any _ _).mono ?_
                  rintro e w' ⟨rfl, rfl⟩
                  rw [Hdt.out]
                  go_wp2_with fail
                  refine (refFigures_any s i _ (by omega) (by omega)).mono ?_
                  rintro e w' ⟨rfl, rfl⟩
                  rw [← HZ.out]
                  go_wp2_with fail
                  refine (refDigit_any _ _).mono ?_
                  rintro e w' ⟨rfl, rfl⟩
                  rw [Hd.out]
                  go_wp2_with fail
                  refine (refFigures_any s (z + 1) _ (by omega) (by omega)).mono ?_
                  rintro e w' ⟨rfl, rfl⟩
                  rw [← Hb.out]
                  go_wp2_with fail
                  go_ret2
                  exact ⟨z + 1 + b, by rw [HF.out]; rfl, fun _ => by rw [HF.out]; show _ = i + numS l; rw [Hnum.out]; have := Hz.out; omega, hbl, 0, rfl⟩
                · have hd' : digB (s[z + 1].toNat : Int) = false := by simpa using hd
                  have hb0 : pre dg (s.data.toList.drop (z + 1)) = 0 := by
                    rw [hdc]; unfold pre; rw [if_neg (by unfold dg; rw [hd']; simp)]
                  have hnum : numS l = a := by rw [hcut, hdrop, hb0, if_neg (fun h => by have := h.2.2; omega)]
                  have Hnum := Lib.hid hnum
                  have Hd := Lib.hid hd'
                  clear hF hL hl hlen c1 c2 c3 c4 c4' c5 ha hz hal hcut hdrop hga hgz hdc h46 hnum hd hd' hb0
                  go_enter Try.func36, Try.ntmps36
                  go_wp2_with (go_at_call 37; refine ((refLetter_any _ _).mono ?_); rintro e w' ⟨rfl, rfl⟩; rw [Hlt.out])
                  refine (refDigit_any _ _).mono ?_
                  rintro e w' ⟨rfl, rfl⟩
                  rw [Hdt.out]
                  go_wp2_with fail
                  refine (refFigures_any s i _ (by omega) (by omega)).mono ?_
                  rintro e w' ⟨rfl, rfl⟩
                  rw [← HZ.out]
                  go_wp2_with fail
                  refine (refDigit_any _ _).mono ?_
                  rintro e w' ⟨rfl, rfl⟩
                  rw [Hd.out]
                  go_wp2_with fail
                  go_ret2
                  exact ⟨z, by rw [HF.out]; rfl, fun _ => by rw [HF.out]; show _ = i + numS l; rw [Hnum.out]; exact Hz.out, hz1, 0, rfl⟩
              · have h46b : ((s[z].toNat : Int) == 46) = false := beq_no (fun h => h46 (by apply UInt8.toNat_inj.mp; simp; omega))
                have hnum : numS l = a := by rw [hcut, if_neg (fun h => by have := h.2.1; rw [hga, hgz] at this; injection this with this; exact h46 this)]
                have Hnum := Lib.hid hnum
                clear hF hL hl hlen c1 c2 c3 c4 c4' c5 ha hz hal hcut hdrop hga hgz hdc h46 hnum
                go_enter Try.func36, Try.ntmps36
                go_wp2_with (go_at_call 37; refine ((refLetter_any _ _).mono ?_); rintro e w' ⟨rfl, rfl⟩; rw [Hlt.out])
                refine (refDigit_any _ _).mono ?_
                rintro e w' ⟨rfl, rfl⟩
                rw [Hdt.out]
                go_wp2_with fail
                refine (refFigures_any s i _ (by omega) (by omega)).mono ?_
                rintro e w' ⟨rfl, rfl⟩
                rw [← HZ.out]
                go_wp2_with fail
                go_ret2
                exact ⟨z, by rw [HF.out]; rfl, fun _ => by rw [HF.out]; show _ = i + numS l; rw [Hnum.out]; exact Hz.out, hz1, 0, rfl⟩
            · have hlti : ¬ (z : Int) + 1 < (s.size : Int) := by omega
              have hnum : numS l = a := by
                rw [hcut, hdrop, List.drop_eq_nil_of_le (by simp; omega), if_neg (fun h => by have := h.2.2; simp [pre] at this)]
              have Hnum := Lib.hid hnum
              clear hF hL hl hlen c1 c2 c3 c4 c4' c5 ha hz hal hcut hdrop hga hnum
              go_enter Try.func36, Try.ntmps36
              go_wp2_with (go_at_call 37; refine ((refLetter_any _ _).mono ?_); rintro e w' ⟨rfl, rfl⟩; rw [Hlt.out])
              refine (refDigit_any _ _).mono ?_
              rintro e w' ⟨rfl, rfl⟩
              rw [Hdt.out]
              go_wp2_with fail
              refine (refFigures_any s i _ (by omega) (by omega)).mono ?_
              rintro e w' ⟨rfl, rfl⟩
              rw [← HZ.out]
              go_wp2_with fail
              go_ret2
              exact ⟨z, by rw [HF.out]; rfl, fun _ => by rw [HF.out]; show _ = i + numS l; rw [Hnum.out]; exact Hz.out, hz1, 0, rfl⟩
          · have c5' : digB (s[i].toNat : Int) = false := by simpa using c5
            have Hdt := Lib.hid c5'
            have hF := first_other (s.data.toList.drop (i + 1)) c1 c3 c2 c4' c5'
            rw [← hl] at hF
            obtain ⟨z, hz⟩ : ∃ z : Nat, z = symS l := ⟨_, rfl⟩
            rw [← hz] at hF
            have hz2 : z ≤ 2 ∧ i + z ≤ s.size := symS_le hz hl hlen
            have hz3 := hz2.1
            have hz4 := hz2.2
            rw [hL] at hz
            have HZ := Lib.hid hz
            by_cases c6 : z = 0
            · rw [if_pos c6] at hF
              have HF := Lib.hid hF
              have h0 : ¬ (0 : Int) < (z : Int) := by omega
              clear hF hL hl hlen c1 c2 c3 c4 c4' c5 c5' hz c6 hz2
              go_enter Try.func36, Try.ntmps36
              go_wp2_with (first | (go_at_call 37; refine ((refLetter_any _ _).mono ?_); rintro e w' ⟨rfl, rfl⟩; rw [Hlt.out]) | (go_at_call 34; refine ((refDigit_any _ _).mono ?_); rintro e w' ⟨rfl, rfl⟩; rw [Hdt.out]) | (go_at_call 55; refine ((Symbol_any s i _ (by omega) hi).mono ?_); rintro e w2 ⟨rfl, n, rfl⟩; rw [← HZ.out]))
              go_ret2
              exact ⟨i + 1, by rw [HF.out]; rfl, fun h => absurd (by rw [HF.out]) h, by omega, n, rfl⟩
            · rw [if_neg c6] at hF
              have HF := Lib.hid hF
              have h0 : (0 : Int) < (z : Int) := by omega
              clear hF hL hl hlen c1 c2 c3 c4 c4' c5 c5' hz c6 hz2
              go_enter Try.func36, Try.ntmps36
              go_wp2_with (first | (go_at_call 37; refine ((refLetter_any _ _).mono ?_); rintro e w' ⟨rfl, rfl⟩; rw [Hlt.out]) | (go_at_call 34; refine ((refDigit_any _ _).mono ?_); rintro e w' ⟨rfl, rfl⟩; rw [Hdt.out]) | (go_at_call 55; refine ((Symbol_any s i _ (by omega) hi).mono ?_); rintro e w2 ⟨rfl, n, rfl⟩; rw [← HZ.out]))
              go_ret2
              exact ⟨i + z, by rw [HF.out]; rfl, fun _ => by rw [HF.out], by omega, n, rfl⟩

end Go.Proofs.Ytbpcfgeefelfdaa
