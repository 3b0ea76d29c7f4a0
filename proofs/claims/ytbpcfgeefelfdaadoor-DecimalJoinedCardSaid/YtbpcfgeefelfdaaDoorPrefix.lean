/- The walk of prefix. -/
import Derived.Test.YtbpcfgeefelfdaaDoorLeaf
namespace Go.Proofs.YtbpcfgeefelfdaaDoor
open Go.RowKit

set_option maxHeartbeats 400000 in
theorem prefix_dig (s : ByteArray) (w : World) (hs : s.size ≤ maxLen) :
    Calls Tryd.prog 44 #[.string s, .func (.func 29) #[] #[]] w fun e w' => e = .returned (.int .i64 (pre dg s.data.toList)) ∧ w = w' := by
  unfold maxLen at hs
  go_enter Tryd.func44, Tryd.ntmps44
  go_wp2
  go_loop [8] (fun i => ∃ k : Nat, k ≤ s.size ∧ i = .int .i64 k ∧ ∀ j, j < k → ∀ c, s.data.toList[j]? = some c → dg c = true) (fun i => s.size - (intOf i).toNat)
  case atStart => exact ⟨0, Nat.zero_le _, rfl, fun j hj => absurd hj (by omega)⟩
  case round =>
    obtain ⟨k, hk, rfl, hall⟩ := hrel
    have Hall := Lib.hid hall
    clear hall
    by_cases hlt : k < s.size
    · have hget : s.data.toList[k]? = some s[k] := by
        rw [List.getElem?_eq_getElem (by simpa using hlt)]; rfl
      have Hget := Lib.hid hget
      clear hget
      by_cases hp : digB (s[k].toNat : Int) = true
      · have Hp := Lib.hid hp
        clear hp
        go_wp2_with (go_at_call 29; refine ((isDigit_any _ _).mono ?_); rintro e w' ⟨rfl, rfl⟩; rw [Hp.out])
        go_round
        case rel => exact ⟨k + 1, by omega, by go_num, fun j hj c hc => by
          by_cases e : j = k
          · subst e; rw [Hget.out] at hc; cases hc; exact Hp.out
          · exact Hall.out j (by omega) c hc⟩
        case measure => simp [intOf]; omega
      · have hf : digB (s[k].toNat : Int) = false := by simpa using hp
        have hfin := pre_eq dg s.data.toList k (by simpa using hk) Hall.out (fun c hc => by rw [Hget.out] at hc; cases hc; exact hf)
        have Hfin := Lib.hid hfin
        have Hp := Lib.hid hf
        clear hp hf hfin
        go_wp2_with (go_at_call 29; refine ((isDigit_any _ _).mono ?_); rintro e w' ⟨rfl, rfl⟩; rw [Hp.out])
        go_ret
        exact ⟨ret_int (by rw [Hfin.out]), rfl⟩
    · have hke : k = s.data.toList.length := by simp; omega
      have hfin := pre_eq dg s.data.toList k (by simpa using hk) Hall.out (fun c hc => by rw [List.getElem?_eq_none (by omega)] at hc; cases hc)
      have hks : k = s.size := by omega
      have Hfin := Lib.hid hfin
      have Hks := Lib.hid hks
      clear hfin hks hke
      go_wp2
      go_ret
      exact ⟨ret_int (by rw [Hfin.out]; rw [Hks.out]), rfl⟩

set_option maxHeartbeats 400000 in
theorem prefix_wor (s : ByteArray) (w : World) (hs : s.size ≤ maxLen) :
    Calls Tryd.prog 44 #[.string s, .func (.func 45) #[] #[]] w fun e w' => e = .returned (.int .i64 (pre wd s.data.toList)) ∧ w = w' := by
  unfold maxLen at hs
  go_enter Tryd.func44, Tryd.ntmps44
  go_wp2
  go_loop [8] (fun i => ∃ k : Nat, k ≤ s.size ∧ i = .int .i64 k ∧ ∀ j, j < k → ∀ c, s.data.toList[j]? = some c → wd c = true) (fun i => s.size - (intOf i).toNat)
  case atStart => exact ⟨0, Nat.zero_le _, rfl, fun j hj => absurd hj (by omega)⟩
  case round =>
    obtain ⟨k, hk, rfl, hall⟩ := hrel
    have Hall := Lib.hid hall
    clear hall
    by_cases hlt : k < s.size
    · have hget : s.data.toList[k]? = some s[k] := by
        rw [List.getElem?_eq_getElem (by simpa using hlt)]; rfl
      have Hget := Lib.hid hget
      clear hget
      by_cases hp : worB (s[k].toNat : Int) = true
      · have Hp := Lib.hid hp
        clear hp
        go_wp2_with (go_at_call 45; refine ((isWord_any _ _).mono ?_); rintro e w' ⟨rfl, rfl⟩; rw [Hp.out])
        go_round
        case rel => exact ⟨k + 1, by omega, by go_num, fun j hj c hc => by
          by_cases e : j = k
          · subst e; rw [Hget.out] at hc; cases hc; exact Hp.out
          · exact Hall.out j (by omega) c hc⟩
        case measure => simp [intOf]; omega
      · have hf : worB (s[k].toNat : Int) = false := by simpa using hp
        have hfin := pre_eq wd s.data.toList k (by simpa using hk) Hall.out (fun c hc => by rw [Hget.out] at hc; cases hc; exact hf)
        have Hfin := Lib.hid hfin
        have Hp := Lib.hid hf
        clear hp hf hfin
        go_wp2_with (go_at_call 45; refine ((isWord_any _ _).mono ?_); rintro e w' ⟨rfl, rfl⟩; rw [Hp.out])
        go_ret
        exact ⟨ret_int (by rw [Hfin.out]), rfl⟩
    · have hke : k = s.data.toList.length := by simp; omega
      have hfin := pre_eq wd s.data.toList k (by simpa using hk) Hall.out (fun c hc => by rw [List.getElem?_eq_none (by omega)] at hc; cases hc)
      have hks : k = s.size := by omega
      have Hfin := Lib.hid hfin
      have Hks := Lib.hid hks
      clear hfin hks hke
      go_wp2
      go_ret
      exact ⟨ret_int (by rw [Hfin.out]; rw [Hks.out]), rfl⟩

end Go.Proofs.YtbpcfgeefelfdaaDoor
