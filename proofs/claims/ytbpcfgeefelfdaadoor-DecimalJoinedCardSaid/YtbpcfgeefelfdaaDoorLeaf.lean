/- The leaves of package decimal and of its reference: what the small functions answer. -/
import Derived.Test.YtbpcfgeefelfdaaDoorRows
import Derived.Test.YtbpcfgeefelfdaaDoorMath
import Derived.WalkKit
import Derived.WalkSpells
import Derived.WalkLawsBesides
import Derived.Deep.QuietTactic
import Derived.BigQuiet
import Derived.RegionTactic
namespace Go.Proofs.YtbpcfgeefelfdaaDoor
open Go.RowKit

def cntB (d : Int) : Bool := decide (0 ≤ d) && decide (d ≤ 9)
def numB (n : Int) : Bool := decide (-1152921504606846976 ≤ n) && decide (n ≤ 1152921504606846976)

theorem ret_int {k : IntKind} {a b : Int} (h : a = b) : Ending.returned (.int k a) = .returned (.int k b) := by rw [h]
theorem ret_bool {a b : Bool} (h : a = b) : Ending.returned (.bool a) = .returned (.bool b) := by rw [h]
theorem ret_two {k k' : IntKind} {a b c d : Int} (h : a = c) (h' : b = d) : Ending.returned (.tuple #[.int k a, .int k' b]) = .returned (.tuple #[.int k c, .int k' d]) := by rw [h, h']
theorem cntB_yes {d : Int} (h : 0 ≤ d ∧ d ≤ 9) : cntB d = true := by simp [cntB, h.1, h.2]
theorem cntB_no {d : Int} (h : ¬ (0 ≤ d ∧ d ≤ 9)) : cntB d = false := by
  unfold cntB; by_cases a : 0 ≤ d <;> by_cases b : d ≤ 9 <;> simp_all
theorem numB_yes {d : Int} (h : -1152921504606846976 ≤ d ∧ d ≤ 1152921504606846976) : numB d = true := by simp [numB, h.1, h.2]
theorem numB_no {d : Int} (h : ¬ (-1152921504606846976 ≤ d ∧ d ≤ 1152921504606846976)) : numB d = false := by
  unfold numB; by_cases a : -1152921504606846976 ≤ d <;> by_cases b : d ≤ 1152921504606846976 <;> simp_all

set_option maxHeartbeats 400000 in
theorem isCount_any (d : Int) (w : World) :
    Calls Tryd.prog 20 #[.int .i64 d] w fun e w' => e = .returned (.bool (cntB d)) ∧ w = w' := by
  go_enter Tryd.func20, Tryd.ntmps20
  go_wp2
  all_goals (go_ret; exact ⟨by simp [cntB, *] <;> omega, rfl⟩)

set_option maxHeartbeats 400000 in
theorem isNumber_any (d : Int) (w : World) :
    Calls Tryd.prog 21 #[.int .i64 d] w fun e w' => e = .returned (.bool (numB d)) ∧ w = w' := by
  go_enter Tryd.func21, Tryd.ntmps21
  go_wp2
  all_goals (go_ret; exact ⟨by simp [numB, *] <;> omega, rfl⟩)


set_option maxHeartbeats 400000 in
theorem isDigit_any (d : Int) (w : World) :
    Calls Tryd.prog 29 #[.int .u8 d] w fun e w' => e = .returned (.bool (digB d)) ∧ w = w' := by
  go_enter Tryd.func29, Tryd.ntmps29
  go_wp2
  all_goals (go_ret; exact ⟨by simp [digB, *] <;> omega, rfl⟩)

set_option maxHeartbeats 400000 in
theorem isLetter_any (d : Int) (w : World) :
    Calls Tryd.prog 31 #[.int .u8 d] w fun e w' => e = .returned (.bool (letB d)) ∧ w = w' := by
  go_enter Tryd.func31, Tryd.ntmps31
  go_wp2
  all_goals (go_ret; exact ⟨by simp [letB, *] <;> omega, rfl⟩)

set_option maxHeartbeats 400000 in
theorem isWord_any (d : Int) (w : World) :
    Calls Tryd.prog 45 #[.int .u8 d] w fun e w' => e = .returned (.bool (worB d)) ∧ w = w' := by
  go_enter Tryd.func45, Tryd.ntmps45
  go_wp2_with (first | (go_at_call 31; refine (isLetter_any _ _).mono ?_; rintro e w' ⟨rfl, rfl⟩) | (go_at_call 29; refine (isDigit_any _ _).mono ?_; rintro e w' ⟨rfl, rfl⟩))
  all_goals (go_ret; exact ⟨by simp [worB, *], rfl⟩)



end Go.Proofs.YtbpcfgeefelfdaaDoor
