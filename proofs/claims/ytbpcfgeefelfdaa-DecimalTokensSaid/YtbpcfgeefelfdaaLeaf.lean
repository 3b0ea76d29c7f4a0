/- The leaves of package decimal and of its reference: what the small functions answer. -/
import Derived.Test.YtbpcfgeefelfdaaRows
import Derived.Test.YtbpcfgeefelfdaaMath
import Derived.WalkKit
import Derived.WalkSpells
import Derived.WalkLawsBesides
import Derived.Deep.QuietTactic
import Derived.BigQuiet
import Derived.RegionTactic
namespace Go.Proofs.Ytbpcfgeefelfdaa
open Go.RowKit

def cntB (d : Int) : Bool := decide (0 ≤ d) && decide (d ≤ 9)
def numB (n : Int) : Bool := decide (-1152921504606846976 ≤ n) && decide (n ≤ 1152921504606846976)

theorem ret_int {k : IntKind} {a b : Int} (h : a = b) : Ending.returned (.int k a) = .returned (.int k b) := by rw [h]
theorem ret_bool {a b : Bool} (h : a = b) : Ending.returned (.bool a) = .returned (.bool b) := by rw [h]
theorem ret_two {k k' : IntKind} {a b c d : Int} (h : a = c) (h' : b = d) : Ending.returned (.tuple #[.int k a, .int k' b]) = .returned (.tuple #[.int k c, .int k' d]) := by rw [h, h']
theorem cntB_yes {d : Int} (h : 0 ≤ d ∧ d ≤ 9) : cntB d = true := by simp [cntB, h.1, h.2]
theorem cntB_no {d : Int} (h : ¬ (0 ≤ d ∧ d ≤ 9)) : cntB d = false := by
  unfold cntB; by_cases a : 0 ≤ d <;> by_cases b : d ≤ 9 <;> simp_all
theorem numB_yes {d : Int} (h : -1152921504606846976 ≤ d ∧ d ≤ 1152921504606846976) : numB d = true := by simp [numB, h.1, h.2]
theorem numB_no {d : Int} (h : ¬ (-1152921504606846976 ≤ d ∧ d ≤ 1152921504606846976)) : numB d = false := by
  unfold numB; by_cases a : -1152921504606846976 ≤ d <;> by_cases b : d ≤ 1152921504606846976 <;> simp_all

set_option maxHeartbeats 400000 in
theorem isCount_any (d : Int) (w : World) :
    Calls Try.prog 26 #[.int .i64 d] w fun e w' => e = .returned (.bool (cntB d)) ∧ w = w' := by
  go_enter Try.func26, Try.ntmps26
  go_wp2
  all_goals (go_ret; exact ⟨by simp [cntB, *] <;> omega, rfl⟩)

set_option maxHeartbeats 400000 in
theorem isNumber_any (d : Int) (w : World) :
    Calls Try.prog 27 #[.int .i64 d] w fun e w' => e = .returned (.bool (numB d)) ∧ w = w' := by
  go_enter Try.func27, Try.ntmps27
  go_wp2
  all_goals (go_ret; exact ⟨by simp [numB, *] <;> omega, rfl⟩)

set_option maxHeartbeats 400000 in
theorem Number_any (d : Int) (w : World) :
    Calls Try.prog 12 #[.int .i64 d] w fun e w' => e = .returned (.bool (numB d)) ∧ w = w' := by
  go_enter Try.func12, Try.ntmps12
  go_wp2
  all_goals (go_ret; exact ⟨by simp [numB, *] <;> omega, rfl⟩)

set_option maxHeartbeats 400000 in
theorem isDigit_any (d : Int) (w : World) :
    Calls Try.prog 50 #[.int .u8 d] w fun e w' => e = .returned (.bool (digB d)) ∧ w = w' := by
  go_enter Try.func50, Try.ntmps50
  go_wp2
  all_goals (go_ret; exact ⟨by simp [digB, *] <;> omega, rfl⟩)

set_option maxHeartbeats 400000 in
theorem isLetter_any (d : Int) (w : World) :
    Calls Try.prog 52 #[.int .u8 d] w fun e w' => e = .returned (.bool (letB d)) ∧ w = w' := by
  go_enter Try.func52, Try.ntmps52
  go_wp2
  all_goals (go_ret; exact ⟨by simp [letB, *] <;> omega, rfl⟩)

set_option maxHeartbeats 400000 in
theorem isWord_any (d : Int) (w : World) :
    Calls Try.prog 64 #[.int .u8 d] w fun e w' => e = .returned (.bool (worB d)) ∧ w = w' := by
  go_enter Try.func64, Try.ntmps64
  go_wp2_with (first | (go_at_call 52; refine (isLetter_any _ _).mono ?_; rintro e w' ⟨rfl, rfl⟩) | (go_at_call 50; refine (isDigit_any _ _).mono ?_; rintro e w' ⟨rfl, rfl⟩))
  all_goals (go_ret; exact ⟨by simp [worB, *], rfl⟩)

set_option maxHeartbeats 400000 in
theorem refDigit_any (d : Int) (w : World) :
    Calls Try.prog 34 #[.int .u8 d] w fun e w' => e = .returned (.bool (digB d)) ∧ w = w' := by
  go_enter Try.func34, Try.ntmps34
  go_wp2
  all_goals (go_ret; exact ⟨by simp [digB, *] <;> omega, rfl⟩)

set_option maxHeartbeats 400000 in
theorem refLetter_any (d : Int) (w : World) :
    Calls Try.prog 37 #[.int .u8 d] w fun e w' => e = .returned (.bool (letB d)) ∧ w = w' := by
  go_enter Try.func37, Try.ntmps37
  go_wp2
  all_goals (go_ret; exact ⟨by simp [letB, *] <;> omega, rfl⟩)

end Go.Proofs.Ytbpcfgeefelfdaa
