/- The leaves of package ratio: the absolute value, the greatest common divisor. -/
import Derived.Test.YtcghjjfpjiacfaaDoorRows
import Derived.Test.YtcghjjfpjiacfaaDoorRMath
import Derived.WalkKit
import Derived.WalkSpells
import Derived.WalkLawsBesides
import Derived.Deep.QuietTactic
import Derived.BigQuiet
import Derived.Lib.Hide
namespace Go.Proofs.YtcghjjfpjiacfaaDoor
set_option linter.unusedVariables false
open Go.RowKit

theorem r_int {k : IntKind} {a b : Int} (h : a = b) : Ending.returned (.int k a) = .returned (.int k b) := by rw [h]
theorem abs_bd {n : Int} (h0 : -9223372036854775808 ≤ n) (h1 : n ≤ 9223372036854775807) : (n.natAbs : Int) ≤ 9223372036854775808 := by omega

set_option maxHeartbeats 400000 in
theorem size_any (n : Int) (w : World) (h0 : -9223372036854775808 ≤ n) (h1 : n ≤ 9223372036854775807) :
    Calls Tryd.prog 150 #[.int .i64 n] w fun e w' => e = .returned (.int .u64 (n.natAbs : Int)) ∧ w = w' := by
  go_enter Tryd.func150, Tryd.ntmps150
  go_wp2
  all_goals (go_ret; exact ⟨r_int (by first | omega | (simp only [IntKind.wrap_u64]; omega)), rfl⟩)

set_option maxHeartbeats 1000000 in
theorem gcd_any (a b : Nat) (w : World) (ha : a < 18446744073709551616) (hb : b < 18446744073709551616) :
    Calls Tryd.prog 149 #[.int .u64 a, .int .u64 b] w fun e w' => e = .returned (.int .u64 (Nat.gcd a b : Int)) ∧ ∃ k, w' = w.drewN k := by
  go_enter Tryd.func149, Tryd.ntmps149
  go_wp2
  go_loopw [0, 1] (fun x y wr => ∃ (u v k : Nat), x = .int .u64 u ∧ y = .int .u64 v ∧ u < 18446744073709551616 ∧ v < 18446744073709551616 ∧ Nat.gcd u v = Nat.gcd a b ∧ wr = w.drewN k) (fun _ y _ => (intOf y).toNat)
  case atStart => exact ⟨a, b, 0, rfl, rfl, ha, hb, rfl, rfl⟩
  case round =>
    obtain ⟨u, v, k, rfl, rfl, hu, hv, hg, rfl⟩ := hrel
    by_cases hz : v = 0
    · subst hz
      go_wp2
      go_ret
      exact ⟨r_int (by rw [← hg]; simp), k, rfl⟩
    · have h1 : (0 : Int) < v := by omega
      have H1 : Hid (((u : Int).tmod v) = ((u % v : Nat) : Int)) := by rw [Int.tmod_eq_emod_of_nonneg (by omega)]; exact (Int.natCast_emod u v).symm
      have H2 : Hid (u % v < v ∧ Nat.gcd v (u % v) = Nat.gcd a b) := ⟨Nat.mod_lt _ (by omega), by rw [← hg, Nat.gcd_comm u v, Nat.gcd_rec v u, Nat.gcd_comm]⟩
      have hne : ((v : Int) == 0) = false := by simp; omega
      have Hg := Lib.hid hg
      clear hg
      go_wp2
      have hm := H1.out
      go_quiet (fail)
      clear hm
      go_wp2
      go_roundw
      case rel => exact ⟨v, u % v, _, rfl, by rw [Int.natCast_emod], by omega, by have := H2.out.1; omega, H2.out.2, World.drewN_drewN _ _ _⟩
      case measure => have := H2.out.1; simp [intOf]; omega

end Go.Proofs.YtcghjjfpjiacfaaDoor
