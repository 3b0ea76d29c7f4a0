/- The walk of the law DecimalParses. -/
import Derived.Test.YtbpcfgeefelfdaaAwake
import Derived.Test.YtbpcfgeefelfdaaRefParse
namespace Go.Proofs.Ytbpcfgeefelfdaa
open Go.RowKit

set_option maxHeartbeats 2000000 in
theorem parses_walk (s : ByteArray) (k : Int) (_ : s.size ≤ maxLen) (w : World) :
    Calls Try.prog 4 #[.string s, .int .i64 k] w fun e w' => e = .returned (.bool true) ∧ Below w.heap.size w w' := by
  by_cases hs : s.size ≤ 100
  · have hsi : ¬ (100 : Int) < (s.size : Int) := by omega
    by_cases hk : 0 ≤ k ∧ k ≤ 9
    · obtain ⟨h1, h2⟩ := hk
      obtain ⟨k, rfl⟩ := Int.eq_ofNat_of_zero_le h1
      have hkn : k ≤ 9 := by omega
      go_enter Try.func4, Try.ntmps4
      go_wp2_with fail
      refine (awake_any _).mono ?_
      rintro e w1 ⟨rfl, hb1⟩
      have Hb1 := Lib.hid hb1
      clear hb1
      go_wp2_with fail
      refine (Parse_ok s k _ hkn (by omega)).mono ?_
      rintro e w2 ⟨rfl, hb2⟩
      have Hb2 := Lib.hid (Hb1.out.trans (hb2.mono Hb1.out.size))
      clear hb2
      generalize hR : parseS s.data.toList k = R
      obtain ⟨m, er⟩ := R
      have HR := Lib.hid hR
      clear hR
      go_wp2_with fail
      refine (refParse_any s k _ hkn hs).mono ?_
      rintro e w3 ⟨rfl, rfl⟩
      rw [HR.out]
      go_wp2_with fail
      go_ret
      exact ⟨rfl, Hb2.out⟩
    · have Hk := Lib.hid (cntB_no hk)
      have hk2 : k < 0 ∨ (¬ k < 0 ∧ 9 < k) := by omega
      clear hk
      go_enter Try.func4, Try.ntmps4
      go_wp2_with fail
      refine (awake_any _).mono ?_
      rintro e w1 ⟨rfl, hb1⟩
      have Hb1 := Lib.hid hb1
      clear hb1
      go_wp2_with fail
      refine (Parse_range s k _ Hk.out).mono ?_
      rintro e w2 ⟨rfl, rfl⟩
      rcases hk2 with hk2 | ⟨hk2, hk3⟩
      · go_wp2_with fail
        go_ret
        exact ⟨rfl, Hb1.out⟩
      · go_wp2_with fail
        go_ret
        exact ⟨rfl, Hb1.out⟩
  · have hsi : (100 : Int) < (s.size : Int) := by omega
    go_enter Try.func4, Try.ntmps4
    go_wp2_with fail
    refine (awake_any _).mono ?_
    rintro e w1 ⟨rfl, hb1⟩
    have Hb1 := Lib.hid hb1
    clear hb1
    go_wp2_with fail
    go_ret
    exact ⟨rfl, Hb1.out⟩

end Go.Proofs.Ytbpcfgeefelfdaa
