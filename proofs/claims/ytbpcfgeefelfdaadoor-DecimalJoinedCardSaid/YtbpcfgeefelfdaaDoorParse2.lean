/- The walk of strings.Cut at a point. -/
import Derived.Test.YtbpcfgeefelfdaaDoorParse1
import Derived.WalkSmall
namespace Go.Proofs.YtbpcfgeefelfdaaDoor
open Go.RowKit

def np (c : UInt8) : Bool := !((c.toNat : Int) == 46)

theorem np_false {c : UInt8} (h : np c = false) : (c.toNat : Int) = 46 := by unfold np at h; simpa using h

theorem np_index (l : List UInt8) : pre np l = if 0 ≤ Lib.indexByte l 46 then (Lib.indexByte l 46).toNat else l.length := by
  by_cases h : 0 ≤ Lib.indexByte l 46
  · rw [if_pos h]
    obtain ⟨h1, h2⟩ := Lib.indexByte_some (l := l) (c := 46) (o := (Lib.indexByte l 46).toNat) (by omega)
    have hl : (Lib.indexByte l 46).toNat < l.length := by
      rcases Nat.lt_or_ge (Lib.indexByte l 46).toNat l.length with a | a
      · exact a
      · rw [List.getElem?_eq_none a] at h1; cases h1
    refine pre_eq np l _ (by omega) (fun j hj c hc => ?_) (fun c hc => ?_)
    · unfold np
      by_cases e : (c.toNat : Int) = 46
      · have := (byte_46 c).2 e
        subst this
        exact absurd hc (h2 j hj)
      · simpa using e
    · rw [h1] at hc; cases hc; rfl
  · rw [if_neg h]
    have hn : Lib.indexByte l 46 = -1 := by have := Lib.indexByte_ge l 46; omega
    refine pre_eq np l _ (Nat.le_refl _) (fun j hj c hc => ?_) (fun c hc => by rw [List.getElem?_eq_none (Nat.le_refl _)] at hc; cases hc)
    have h2 := Lib.indexByte_none hn j
    unfold np
    by_cases e : (c.toNat : Int) = 46
    · have := (byte_46 c).2 e
      subst this
      exact absurd hc h2
    · simpa using e

theorem idx_lt (l : List UInt8) (h : 0 ≤ Lib.indexByte l 46) : (Lib.indexByte l 46).toNat < l.length := by
  obtain ⟨h1, _⟩ := Lib.indexByte_some (l := l) (c := 46) (o := (Lib.indexByte l 46).toNat) (by omega)
  rcases Nat.lt_or_ge (Lib.indexByte l 46).toNat l.length with a | a
  · exact a
  · rw [List.getElem?_eq_none a] at h1; cases h1

/-- What Cut at a point comes to. -/
def CutOut (l : List UInt8) (w : World) (e : Ending) (w' : World) : Prop :=
  ∃ A B : ByteArray, e = .returned (.tuple #[.string A, .string B, .bool (decide (pre np l < l.length))]) ∧ A.data.toList = l.take (pre np l) ∧ B.data.toList = l.drop (pre np l + 1) ∧ ∃ n, w' = w.drewN n

set_option maxHeartbeats 1000000 in
theorem cut0_any (s : ByteArray) (w : World) (hs : s.size ≤ 1099511627776) :
    Calls Tryd.prog 39 #[.string s, .string ⟨#[46]⟩] w fun e w' => CutOut s.data.toList w e w' := by
  have hp := np_index s.data.toList
  by_cases h0 : 0 ≤ Lib.indexByte s.data.toList 46
  · rw [if_pos h0] at hp
    have hlt := idx_lt s.data.toList h0
    obtain ⟨i, hi⟩ : ∃ i : Nat, Lib.indexByte s.data.toList 46 = i := ⟨_, (Int.toNat_of_nonneg h0).symm⟩
    rw [hi] at hp hlt
    simp at hp hlt
    have h1 : (i : Int) < (s.size : Int) := by omega
    have h2 : (i : Int) + 1 ≤ (s.size : Int) := by omega
    have Hp := Lib.hid hp
    have Hi := Lib.hid hi
    clear hp hi h0 
    go_enter Tryd.func39, Tryd.ntmps39
    go_wp2_with (go_at_call 49; refine ((Tryd.stringslite_Index_one _ _ _).mono ?_); rintro e w' ⟨rfl, rfl⟩; rw [Hi.out])
    go_quiet (fail)
    go_wp2
    go_ret3
    refine ⟨s.extract 0 i, s.extract (i + 1) s.size, ?_, ?_, ?_, nq, rfl⟩
    · rw [Hp.out, show decide (i < s.data.toList.length) = true from by simpa using hlt]
      rfl
    · rw [Hp.out, Lib.extract_data]; simp
    · rw [Hp.out, Lib.extract_to_end]
  · rw [if_neg h0] at hp
    have hn : Lib.indexByte s.data.toList 46 = -1 := by have := Lib.indexByte_ge s.data.toList 46; omega
    have Hp := Lib.hid hp
    have Hi := Lib.hid hn
    clear hp hn h0
    go_enter Tryd.func39, Tryd.ntmps39
    go_wp2_with (go_at_call 49; refine ((Tryd.stringslite_Index_one _ _ _).mono ?_); rintro e w' ⟨rfl, rfl⟩; rw [Hi.out])
    go_ret3
    refine ⟨s, ⟨#[]⟩, ?_, ?_, ?_, 0, rfl⟩
    · rw [Hp.out, show decide (s.data.toList.length < s.data.toList.length) = false from by simp]
      rfl
    · rw [Hp.out, List.take_length]
    · rw [Hp.out]; simp

set_option maxHeartbeats 1000000 in
theorem cut_any (s : ByteArray) (w : World) (hs : s.size ≤ 1099511627776) :
    Calls Tryd.prog 23 #[.string s, .string ⟨#[46]⟩] w fun e w' => CutOut s.data.toList w e w' := by
  go_enter Tryd.func23, Tryd.ntmps23
  go_wp2_with (go_at_call 39; refine ((cut0_any _ _ hs).mono ?_); rintro e w' ⟨A, B, rfl, hA, hB, n, rfl⟩)
  go_ret3
  exact ⟨A, B, rfl, hA, hB, n, rfl⟩

/-! ### The form of a text, by the two parts that Cut makes. -/
theorem np_of_dg (c : UInt8) (h : dg c = true) : np c = true := by
  unfold dg digB at h
  unfold np
  simp at h
  simp
  omega

theorem dsB_iff (l : List UInt8) : dsB l = true ↔ l ≠ [] ∧ pre dg l = l.length := by
  unfold dsB
  simp

/-- All before the first point are digits: then the digits end just there. -/
theorem pre_cut (u : List UInt8) (h : ∀ c ∈ u.take (pre np u), dg c = true) : pre dg u = pre np u := by
  refine pre_eq dg u _ (pre_le np u) (fun j hj c hc => h c ?_) (fun c hc => ?_)
  · exact List.mem_of_getElem? (by rw [List.getElem?_take_of_lt hj]; exact hc)
  · have := pre_no np u c hc
    cases hd : dg c with
    | false => rfl
    | true => rw [np_of_dg c hd] at this; cases this

theorem formS_cut (u : List UInt8) (k : Nat) : formS u k =
    if wholeB (u.take (pre np u)) = true ∧ (pre np u < u.length → partB (u.drop (pre np u + 1)) k = true) then some (u.take (pre np u) ++ u.drop (pre np u + 1) ++ List.replicate (k - (u.drop (pre np u + 1)).length) 48) else none := by
  have hle := pre_le np u
  by_cases hd : dsB (u.take (pre np u)) = true
  · obtain ⟨hne, hall⟩ := (dsB_iff _).1 hd
    have hpre := pre_cut u (fun c hc => pre_all dg _ hall c hc)
    have hlen : (u.take (pre np u)).length = pre np u := by rw [List.length_take]; omega
    have hpos : 0 < pre np u := by
      rcases Nat.eq_zero_or_pos (pre np u) with e | e
      · rw [e] at hne; simp at hne
      · exact e
    have hhead : (u.take (pre np u)).head? = u.head? := by
      cases u with
      | nil => simp
      | cons c r =>
        cases hq : pre np (c :: r) with
        | zero => omega
        | succ q => simp
    have hw : wholeB (u.take (pre np u)) = true ↔ ¬ (1 < pre np u ∧ u.head? = some 48) := by
      unfold wholeB
      rw [hd, hhead, Bool.true_and]
      constructor
      · intro h hh
        rw [hh.2] at h
        simp at h
        have : (u.take (pre np u)).length = 1 := by rw [h]; rfl
        omega
      · intro h
        by_cases e : u.head? = some 48
        · have h1 : pre np u = 1 := by
            rcases Nat.lt_or_ge 1 (pre np u) with a | a
            · exact absurd ⟨a, e⟩ h
            · omega
          rw [h1]
          cases u with
          | nil => simp at e
          | cons c r => simp at e; simp [e]
        · simp [e]
    unfold formS
    rw [hpre]
    by_cases hz : 1 < pre np u ∧ u.head? = some 48
    · rw [if_pos (Or.inr hz), if_neg (fun h => hw.1 h.1 hz)]
    · rw [if_neg (fun h => by
        rcases h with h | h
        · omega
        · exact hz h)]
      have hw' := hw.2 hz
      by_cases he : pre np u = u.length
      · rw [if_pos he, if_pos ⟨hw', fun h => absurd h (by omega)⟩, he]
        simp
      · rw [if_neg he]
        have hlt : pre np u < u.length := by omega
        have h46 : u[pre np u]? = some 46 := by
          have hg : u[pre np u]? = some u[pre np u] := List.getElem?_eq_getElem hlt
          have := pre_no np u _ hg
          have e46 : u[pre np u] = 46 := (byte_46 _).2 (np_false this)
          rw [hg, e46]
        by_cases hp : partB (u.drop (pre np u + 1)) k = true
        · rw [if_pos ⟨h46, hp⟩, if_pos ⟨hw', fun _ => hp⟩]
        · rw [if_neg (fun h => hp h.2), if_neg (fun h => hp (h.2 hlt))]
  · have hw : ¬ wholeB (u.take (pre np u)) = true := by
      intro h; unfold wholeB at h; simp at h; exact hd h.1
    rw [if_neg (fun h => hw h.1)]
    unfold formS
    by_cases h0 : pre dg u = 0 ∨ (1 < pre dg u ∧ u.head? = some 48)
    · rw [if_pos h0]
    · rw [if_neg h0]
      have hnot : ∀ a, pre dg u = a → (a = u.length ∨ u[a]? = some 46) → False := fun a ha hor => by
        have hall : ∀ j, j < a → ∀ c, u[j]? = some c → np c = true := fun j hj c hc => np_of_dg c (pre_yes dg u j (by omega) c hc)
        have hale : a ≤ u.length := by rw [← ha]; exact pre_le dg u
        have hnp : pre np u = a := pre_eq np u a hale hall (fun c hc => by
          rcases hor with e | e
          · rw [e, List.getElem?_eq_none (Nat.le_refl _)] at hc; cases hc
          · rw [e] at hc; cases hc; rfl)
        apply hd
        rw [dsB_iff, hnp]
        have hl : (u.take a).length = a := by rw [List.length_take]; omega
        refine ⟨fun e => ?_, ?_⟩
        · rw [e] at hl; simp at hl; omega
        · refine pre_of_all dg _ (fun c hc => ?_)
          obtain ⟨j, hj, rfl⟩ := List.getElem_of_mem hc
          rw [hl] at hj
          refine pre_yes dg u j (by omega) _ ?_
          rw [List.getElem_take]
          exact List.getElem?_eq_getElem (by omega)
      rw [if_neg (fun h => hnot _ rfl (Or.inl h)), if_neg (fun h => hnot _ rfl (Or.inr h.1))]

end Go.Proofs.YtbpcfgeefelfdaaDoor
