/- The walks of isDigits, comment, number, word, first and IsName of package decimal. -/
import Derived.Test.YtbpcfgeefelfdaaDoorPrefix
import Derived.Test.YtbpcfgeefelfdaaDoorShelf
import Derived.Test.YtbpcfgeefelfdaaDoorParMath
import Derived.Lib.IndexLaws
namespace Go.Proofs.YtbpcfgeefelfdaaDoor
open Go.RowKit



theorem str_nil {s : ByteArray} (h : s.data.toList = []) : s.size = 0 := by
  have : s.data.toList.length = 0 := by rw [h]; rfl
  simpa using this

theorem empty_yes {s : ByteArray} (h : s.data.toList = []) : s.toList.isEmpty = true := by rw [Lib.toList_data, h]; rfl
theorem empty_no {s : ByteArray} (h : s.data.toList ≠ []) : s.toList.isEmpty = false := by
  rw [Lib.toList_data]; exact List.isEmpty_eq_false_iff.mpr h

set_option maxHeartbeats 400000 in
theorem isDigits_any (s : ByteArray) (w : World) (hs : s.size ≤ maxLen) :
    Calls Tryd.prog 40 #[.string s] w fun e w' => e = .returned (.bool (dsB s.data.toList)) ∧ w = w' := by
  by_cases h0 : s.data.toList = []
  · have he := empty_yes h0
    have hfin : dsB s.data.toList = false := by rw [h0]; rfl
    have Hfin := Lib.hid hfin
    clear hfin h0
    go_enter Tryd.func40, Tryd.ntmps40
    go_wp2
    go_ret
    exact ⟨ret_bool (by rw [Hfin.out]), rfl⟩
  · have he := empty_no h0
    have hfin : dsB s.data.toList = (pre dg s.data.toList == s.size) := by
      unfold dsB; rw [List.isEmpty_eq_false_iff.mpr h0]; simp
    have Hfin := Lib.hid hfin
    clear hfin h0
    go_enter Tryd.func40, Tryd.ntmps40
    go_wp2_with (go_at_call 44; refine ((prefix_dig _ _ hs).mono ?_); rintro e w' ⟨rfl, rfl⟩)
    all_goals
      go_ret
      exact ⟨ret_bool (by rw [Hfin.out, Bool.eq_iff_iff]; simp; omega), rfl⟩

theorem nl_index (l : List UInt8) : pre nl l = if 0 ≤ Lib.indexByte l 10 then (Lib.indexByte l 10).toNat else l.length := by
  by_cases h : 0 ≤ Lib.indexByte l 10
  · rw [if_pos h]
    obtain ⟨h1, h2⟩ := Lib.indexByte_some (l := l) (c := 10) (o := (Lib.indexByte l 10).toNat) (by omega)
    have hl : (Lib.indexByte l 10).toNat < l.length := by
      rcases Nat.lt_or_ge (Lib.indexByte l 10).toNat l.length with a | a
      · exact a
      · rw [List.getElem?_eq_none a] at h1; cases h1
    refine pre_eq nl l _ (by omega) (fun j hj c hc => ?_) (fun c hc => ?_)
    · have := h2 j hj
      unfold nl
      by_cases e : (c.toNat : Int) = 10
      · have : c = 10 := by apply UInt8.toNat_inj.mp; simp; omega
        subst this
        exact absurd hc (h2 j hj)
      · simpa using e
    · rw [h1] at hc; cases hc; rfl
  · rw [if_neg h]
    have hn : Lib.indexByte l 10 = -1 := by have := Lib.indexByte_ge l 10; omega
    refine pre_eq nl l _ (Nat.le_refl _) (fun j hj c hc => ?_) (fun c hc => by rw [List.getElem?_eq_none (Nat.le_refl _)] at hc; cases hc)
    have h2 := Lib.indexByte_none hn j
    unfold nl
    by_cases e : (c.toNat : Int) = 10
    · have : c = 10 := by apply UInt8.toNat_inj.mp; simp; omega
      subst this
      exact absurd hc h2
    · simpa using e

set_option maxHeartbeats 400000 in
theorem comment_any (s : ByteArray) (w : World) :
    Calls Tryd.prog 28 #[.string s] w fun e w' => e = .returned (.int .i64 (pre nl s.data.toList)) ∧ w = w' := by
  have hx := nl_index s.data.toList
  have Hx := Lib.hid hx
  clear hx
  go_enter Tryd.func28, Tryd.ntmps28
  go_wp2_with (go_at_call 43; refine ((Tryd.strings_IndexByte _ _ _).mono ?_); rintro e w' ⟨rfl, rfl⟩)
  all_goals
    go_ret
    exact ⟨ret_int (by rw [Hx.out]; first | (rw [if_pos (by assumption)]; simp; done) | (rw [if_neg (by omega)]; simp; done) | (rw [if_pos (by assumption)]; simp; omega)), rfl⟩

theorem get_byte (s : ByteArray) (k : Nat) (h : k < s.size) : s.data.toList[k]? = some s[k] := by
  rw [List.getElem?_eq_getElem (by simpa using h)]; rfl

theorem byte_46 (c : UInt8) : c = 46 ↔ (c.toNat : Int) = 46 := by
  constructor
  · rintro rfl; rfl
  · intro h; apply UInt8.toNat_inj.mp; simp; omega

set_option maxHeartbeats 400000 in
theorem number_any (s : ByteArray) (w : World) (hs : s.size ≤ maxLen) :
    Calls Tryd.prog 30 #[.string s] w fun e w' => e = .returned (.int .i64 (numS s.data.toList)) ∧ w = w' := by
  have hle : pre dg s.data.toList ≤ s.size := by simpa using pre_le dg s.data.toList
  have hfin : numS s.data.toList = numS s.data.toList := rfl
  conv at hfin => rhs; unfold numS
  generalize hA : pre dg s.data.toList = a at *
  have hsz : s.data.toList.length = s.size := by simp
  simp only [hsz] at hfin
  have HA := Lib.hid hA
  clear hA hsz
  by_cases h1 : a = s.size
  · rw [if_pos (Or.inl h1)] at hfin
    have Hfin := Lib.hid hfin
    clear hfin
    have hb : ((a : Int) == (s.size : Int)) = true := beq_iff_eq.2 (by omega)
    clear h1
    go_enter Tryd.func30, Tryd.ntmps30
    go_wp2_with (go_at_call 44; refine ((prefix_dig _ _ hs).mono ?_); rintro e w' ⟨rfl, rfl⟩; rw [HA.out])
    go_ret
    exact ⟨ret_int (by rw [Hfin.out]), rfl⟩
  · have hlt : a < s.size := by omega
    have hg := get_byte s a hlt
    by_cases h2 : s[a] = 46
    · rw [h2] at hg
      rw [if_neg (by rw [hg]; simp; omega)] at hfin
      have hd : s.data.toList.drop (a + 1) = (s.extract (a + 1) s.size).data.toList := by
        rw [Lib.extract_to_end]
      rw [hd] at hfin
      generalize hB : pre dg (s.extract (a + 1) s.size).data.toList = b at *
      have hbl : b ≤ s.size - (a + 1) := by
        rw [← hB, Lib.extract_to_end]; have := pre_le dg (s.data.toList.drop (a + 1))
        simpa using this
      have h46 : (s[a].toNat : Int) = 46 := (byte_46 _).1 h2
      have hn : ((s[a].toNat : Int) != 46) = false := by rw [h46]; rfl
      have hne : ((a : Int) == (s.size : Int)) = false := beq_eq_false_iff_ne.2 (by omega)
      have HB := Lib.hid hB
      clear hB h2 h46 h1 hg hd
      unfold maxLen at hs
      by_cases h3 : b = 0
      · rw [if_pos h3] at hfin
        have Hfin := Lib.hid hfin
        have hb0 : ((b : Int) == 0) = true := by simpa using h3
        clear hfin h3
        go_enter Tryd.func30, Tryd.ntmps30
        go_wp2_with fail
        refine ((prefix_dig _ _ (by unfold maxLen; omega)).mono ?_); rintro e w' ⟨rfl, rfl⟩; rw [HA.out]
        go_wp2_with fail
        refine ((prefix_dig _ _ (by unfold maxLen; simp; omega)).mono ?_); rintro e w' ⟨rfl, rfl⟩; rw [HB.out]
        go_wp2_with fail
        go_ret
        exact ⟨ret_int (by rw [Hfin.out]), rfl⟩
      · rw [if_neg h3] at hfin
        have Hfin := Lib.hid hfin
        have hb0 : ((b : Int) == 0) = false := beq_eq_false_iff_ne.2 (by omega)
        clear hfin h3
        go_enter Tryd.func30, Tryd.ntmps30
        go_wp2_with fail
        refine ((prefix_dig _ _ (by unfold maxLen; omega)).mono ?_); rintro e w' ⟨rfl, rfl⟩; rw [HA.out]
        go_wp2_with fail
        refine ((prefix_dig _ _ (by unfold maxLen; simp; omega)).mono ?_); rintro e w' ⟨rfl, rfl⟩; rw [HB.out]
        go_wp2_with fail
        go_ret
        exact ⟨ret_int (by rw [Hfin.out]; omega), rfl⟩
    · rw [if_pos (by rw [hg]; right; simpa using h2)] at hfin
      have hn : ((s[a].toNat : Int) != 46) = true := by
        rw [bne_iff_ne]; intro h; exact h2 ((byte_46 _).2 h)
      have hne : ((a : Int) == (s.size : Int)) = false := beq_eq_false_iff_ne.2 (by omega)
      have Hfin := Lib.hid hfin
      clear hfin h2 hg h1
      unfold maxLen at hs
      go_enter Tryd.func30, Tryd.ntmps30
      go_wp2_with fail
      refine ((prefix_dig _ _ (by unfold maxLen; omega)).mono ?_); rintro e w' ⟨rfl, rfl⟩; rw [HA.out]
      go_wp2_with fail
      go_ret
      exact ⟨ret_int (by rw [Hfin.out]), rfl⟩

set_option maxHeartbeats 400000 in
theorem word_any (s : ByteArray) (w : World) (hs : s.size ≤ maxLen) :
    Calls Tryd.prog 32 #[.string s] w fun e w' => e = .returned (.tuple #[.int .i64 (if 20 < pre wd s.data.toList then -1 else 1), .int .i64 (if 20 < pre wd s.data.toList then 0 else pre wd s.data.toList)]) ∧ w = w' := by
  generalize hA : pre wd s.data.toList = a at *
  have HA := Lib.hid hA
  clear hA
  by_cases h : 20 < a
  · rw [if_pos h, if_pos h]
    go_enter Tryd.func32, Tryd.ntmps32
    go_wp2_with (go_at_call 44; refine ((prefix_wor _ _ hs).mono ?_); rintro e w' ⟨rfl, rfl⟩; rw [HA.out])
    go_ret2
    exact ⟨rfl, rfl⟩
  · rw [if_neg h, if_neg h]
    go_enter Tryd.func32, Tryd.ntmps32
    go_wp2_with (go_at_call 44; refine ((prefix_wor _ _ hs).mono ?_); rintro e w' ⟨rfl, rfl⟩; rw [HA.out])
    go_ret2
    exact ⟨rfl, rfl⟩

end Go.Proofs.YtbpcfgeefelfdaaDoor
