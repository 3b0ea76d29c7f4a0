/- The walk of the law DecimalRounds. -/
import Derived.Test.YtbpcfgeefelfdaaAwake
namespace Go.Proofs.Ytbpcfgeefelfdaa
open Go.RowKit

set_option maxHeartbeats 2000000 in
theorem rounds_walk (n u : Int) (w : World) :
    Calls Try.prog 5 #[.int .i64 n, .int .i64 u] w fun e w' => e = .returned (.bool true) ∧ Below w.heap.size w w' := by
  by_cases hu : 1 ≤ u ∧ u ≤ 1099511627776
  · obtain ⟨h1, h2⟩ := hu
    by_cases hn : -1152921504606846976 ≤ n ∧ n ≤ 1152921504606846976
    · obtain ⟨hn1, hn2⟩ := hn
      have Hn := Lib.hid (numB_yes ⟨hn1, hn2⟩)
      go_enter Try.func5, Try.ntmps5
      go_wp2_with fail
      refine (awake_any _).mono ?_
      rintro e w1 ⟨rfl, hb1⟩
      have Hb1 := Lib.hid hb1
      clear hb1
      go_wp2_with fail
      refine (Round_ok n u _ h1 h2 hn1 hn2).mono ?_
      rintro e w2 ⟨rfl, k, rfl⟩
      have Hb2 := Lib.hid (below_drewN Hb1.out k)
      go_wp2_with (first
        | (go_at_call 12; refine ((Number_any _ _).mono ?_); rintro e w' ⟨rfl, rfl⟩; rw [Hn.out])
        | (go_at_call 17; refine ((refRound_ok n u _ h1 hn1 hn2 h2).mono ?_); rintro e w' ⟨rfl, rfl⟩))
      go_ret
      exact ⟨rfl, Hb2.out⟩
    · have Hn := Lib.hid (numB_no hn)
      clear hn
      go_enter Try.func5, Try.ntmps5
      go_wp2_with fail
      refine (awake_any _).mono ?_
      rintro e w1 ⟨rfl, hb1⟩
      have Hb1 := Lib.hid hb1
      clear hb1
      go_wp2_with fail
      refine (Round_big n u _ h1 h2 Hn.out).mono ?_
      rintro e w2 ⟨rfl, rfl⟩
      go_wp2_with (first
        | (go_at_call 12; refine ((Number_any _ _).mono ?_); rintro e w' ⟨rfl, rfl⟩; rw [Hn.out]))
      go_ret
      exact ⟨rfl, Hb1.out⟩
  · have Hu := Lib.hid hu
    by_cases h1 : u < 1
    · clear hu
      go_enter Try.func5, Try.ntmps5
      go_wp2_with fail
      refine (awake_any _).mono ?_
      rintro e w1 ⟨rfl, hb1⟩
      have Hb1 := Lib.hid hb1
      clear hb1
      go_wp2_with fail
      refine (Round_unit n u _ Hu.out).mono ?_
      rintro e w2 ⟨rfl, rfl⟩
      go_wp2_with fail
      go_ret
      exact ⟨rfl, Hb1.out⟩
    · have h2 : 1099511627776 < u := by omega
      clear hu
      go_enter Try.func5, Try.ntmps5
      go_wp2_with fail
      refine (awake_any _).mono ?_
      rintro e w1 ⟨rfl, hb1⟩
      have Hb1 := Lib.hid hb1
      clear hb1
      go_wp2_with fail
      refine (Round_unit n u _ Hu.out).mono ?_
      rintro e w2 ⟨rfl, rfl⟩
      go_wp2_with fail
      go_ret
      exact ⟨rfl, Hb1.out⟩

end Go.Proofs.Ytbpcfgeefelfdaa
