/- The walk of the law DecimalFormats. -/
import Derived.Test.YtbpcfgeefelfdaaAwake
namespace Go.Proofs.Ytbpcfgeefelfdaa
open Go.RowKit

theorem ends_str {n : Int} {k d d' : Nat} (h : Ends n.natAbs k d) (h' : Ends n.natAbs k d') : fmtS n k d = fmtS n k d' := by rw [ends_one h h']

set_option maxHeartbeats 2000000 in
theorem formats_walk (n k : Int) (w : World) :
    Calls Try.prog 3 #[.int .i64 n, .int .i64 k] w fun e w' => e = .returned (.bool true) ∧ Below w.heap.size w w' := by
  by_cases hk : 0 ≤ k ∧ k ≤ 9
  · obtain ⟨h1, h2⟩ := hk
    obtain ⟨k, rfl⟩ := Int.eq_ofNat_of_zero_le h1
    have hkn : k ≤ 9 := by omega
    by_cases hn : -1152921504606846976 ≤ n ∧ n ≤ 1152921504606846976
    · obtain ⟨hn1, hn2⟩ := hn
      have Hn := Lib.hid (numB_yes ⟨hn1, hn2⟩)
      go_enter Try.func3, Try.ntmps3
      go_wp2_with fail
      refine (awake_any _).mono ?_
      rintro e w1 ⟨rfl, hb1⟩
      have Hb1 := Lib.hid hb1
      clear hb1
      go_wp2_with fail
      refine (Format_ok n k _ hkn hn1 hn2).mono ?_
      rintro e w2 ⟨d, hd, rfl, hb2⟩
      have Hb2 := Lib.hid (Hb1.out.trans (hb2.mono Hb1.out.size))
      have Hd := Lib.hid hd
      clear hb2 hd
      obtain ⟨S, hS⟩ : ∃ S, S = bytesOf (fmtS n k d) := ⟨_, rfl⟩
      rw [← hS]
      have HS := Lib.hid hS
      clear hS
      go_wp2_with (first
        | (go_at_call 12; refine ((Number_any _ _).mono ?_); rintro e w' ⟨rfl, rfl⟩; rw [Hn.out])
        | (go_at_call 13; refine ((refFormat_ok n k _ hkn hn1 hn2).mono ?_); rintro e w3 ⟨d', hd', rfl, hb3⟩; rw [← ends_str Hd.out hd', ← HS.out]; have Hb3 := Lib.hid (Hb2.out.trans (hb3.mono Hb2.out.size)); clear hb3 hd'))
      go_ret
      exact ⟨rfl, Hb3.out⟩
    · have Hn := Lib.hid (numB_no hn)
      have Hk := Lib.hid (cntB_yes ⟨h1, h2⟩)
      clear hn
      go_enter Try.func3, Try.ntmps3
      go_wp2_with fail
      refine (awake_any _).mono ?_
      rintro e w1 ⟨rfl, hb1⟩
      have Hb1 := Lib.hid hb1
      clear hb1
      go_wp2_with fail
      refine (Format_big n k _ Hk.out Hn.out).mono ?_
      rintro e w2 ⟨rfl, rfl⟩
      go_wp2_with (first
        | (go_at_call 12; refine ((Number_any _ _).mono ?_); rintro e w' ⟨rfl, rfl⟩; rw [Hn.out]))
      go_ret
      exact ⟨rfl, Hb1.out⟩
  · have Hk := Lib.hid (cntB_no hk)
    by_cases h1 : k < 0
    · clear hk
      go_enter Try.func3, Try.ntmps3
      go_wp2_with fail
      refine (awake_any _).mono ?_
      rintro e w1 ⟨rfl, hb1⟩
      have Hb1 := Lib.hid hb1
      clear hb1
      go_wp2_with fail
      refine (Format_range n k _ Hk.out).mono ?_
      rintro e w2 ⟨rfl, rfl⟩
      go_wp2_with fail
      go_ret
      exact ⟨rfl, Hb1.out⟩
    · have h2 : 9 < k := by omega
      clear hk
      go_enter Try.func3, Try.ntmps3
      go_wp2_with fail
      refine (awake_any _).mono ?_
      rintro e w1 ⟨rfl, hb1⟩
      have Hb1 := Lib.hid hb1
      clear hb1
      go_wp2_with fail
      refine (Format_range n k _ Hk.out).mono ?_
      rintro e w2 ⟨rfl, rfl⟩
      go_wp2_with fail
      go_ret
      exact ⟨rfl, Hb1.out⟩

end Go.Proofs.Ytbpcfgeefelfdaa
