/- The reference of layer 2: Valid. -/
import Derived.Test.YtggpdhdbeokkcaaGreatRRef7
namespace Go.Proofs.YtggpdhdbeokkcaaGreat
set_option linter.unusedVariables false
open Go.RowKit Go.Shelf

set_option maxHeartbeats 2000000 in
theorem refValid_any (n d : Int) (w : World) (n0 : -9223372036854775808 ≤ n) (n1 : n ≤ 9223372036854775807) (d0 : -9223372036854775808 ≤ d) (d1 : d ≤ 9223372036854775807) :
  Calls Tryz.prog 11 #[.agg #[.int .i64 n, .int .i64 d]] w fun e w' => e = .returned (.bool (vB n d)) ∧ Below w.heap.size w w' := by
 by_cases h1 : d < 1
 ·have hv := Lib.hid (vB_no (n := n) (d := d) (fun h => by have := h.d1; omega))
  go_enter Tryz.func11, Tryz.ntmps11
  go_wp2
  go_ret
  exact ⟨by rw [hv.out]; rfl, by go_grown⟩
 have h1' : decide (d < 1) = false := by simp; omega
 by_cases h2 : 1152921504606846976 < d
 ·have hv := Lib.hid (vB_no (n := n) (d := d) (fun h => by have := h.d2; omega))
  go_enter Tryz.func11, Tryz.ntmps11
  go_wp2
  go_ret
  exact ⟨by rw [hv.out]; rfl, by go_grown⟩
 have h2' : decide (1152921504606846976 < d) = false := by simp; omega
 by_cases h3 : n < -1152921504606846976
 ·have hv := Lib.hid (vB_no (n := n) (d := d) (fun h => by have := h.n1; omega))
  go_enter Tryz.func11, Tryz.ntmps11
  go_wp2
  go_ret
  exact ⟨by rw [hv.out]; rfl, by go_grown⟩
 have h3' : decide (n < -1152921504606846976) = false := by simp; omega
 by_cases h4 : 1152921504606846976 < n
 ·have hv := Lib.hid (vB_no (n := n) (d := d) (fun h => by have := h.n2; omega))
  go_enter Tryz.func11, Tryz.ntmps11
  go_wp2
  go_ret
  exact ⟨by rw [hv.out]; rfl, by go_grown⟩
 have h4' : decide (1152921504606846976 < n) = false := by simp; omega

 have hv : Hid (vB n d = (((Int.gcd n d : Nat) : Int) == 1)) := by
  unfold vB Hid
  rw [Bool.eq_iff_iff]
  simp only [decide_eq_true_eq, vld_iff, beq_iff_eq]
  omega
 rw [hv.out]
 obtain ⟨s1, s2⟩ := words_small (z := (n.natAbs : Int)) (by omega) (by omega)
 obtain ⟨s3, s4⟩ := words_small (z := (d.natAbs : Int)) (by omega) (by omega)
 have CG := fun w => Lib.hid (rgcd_any (n.natAbs : Int) (d.natAbs : Int) w (by omega) (by omega) (by omega) (by omega))
 have eg : (Int.gcd (n.natAbs : Int) (d.natAbs : Int) : Int) = (Int.gcd n d : Int) := rfl
 have g1 : (Int.gcd n d : Int) ≤ d := Int.le_of_dvd (by omega) (Int.gcd_dvd_right n d)
 obtain ⟨s5, s6⟩ := words_small (z := (Int.gcd n d : Int)) (by omega) (by omega)
 rw [eg] at CG
 simp only [s1, s2, s3, s4, s5, s6] at CG
 have CA := fun w => Lib.hid (refSize_any n w n0 n1)
 have CB := fun w => Lib.hid (refSize_any d w d0 d1)
 obtain ⟨a, ha⟩ : ∃ a : Int, a = (n.natAbs : Int) := ⟨_, rfl⟩
 obtain ⟨b, hb⟩ : ∃ a : Int, a = (d.natAbs : Int) := ⟨_, rfl⟩
 obtain ⟨g, hg⟩ : ∃ g : Int, g = (Int.gcd n d : Int) := ⟨_, rfl⟩
 simp only [← ha] at CA CG
 simp only [← hb] at CB CG
 simp only [← hg] at CG
 rw [← hg]
 clear hv hg ha hb s1 s2 s3 s4 s5 s6 eg g1
 by_cases hg1 : g = 1
 ·subst hg1
  go_enter Tryz.func11, Tryz.ntmps11
  go_wp2_with fail
  go_region_with (first | (go_at_call 36; (first | (with_reducible refine ((CA _).out).mono ?_) | (with_reducible refine ((CB _).out).mono ?_)); rintro e w' ⟨rfl, rfl⟩) | (go_at_call 35; (with_reducible refine ((CG _).out).mono ?_); rintro e w1 ⟨rfl, hb⟩))
  all_goals
   go_wp2_with fail
   go_ret
   first | exact ⟨rfl, below_on (w := w) (by repeat' (first | (with_reducible exact Below.refl _ _) | (with_reducible assumption) | (with_reducible refine Below.alloc ?_ ?_ _) | (with_reducible refine below_drew ?_ _) | (with_reducible refine Below.drew ?_) | (with_reducible refine Below.setCell ?_ ?_ _) | go_size)) hb⟩ | exact ⟨rfl, below_on (w := w) (Below.drew (by repeat' (first | (with_reducible exact Below.refl _ _) | (with_reducible assumption) | (with_reducible refine Below.alloc ?_ ?_ _) | (with_reducible refine below_drew ?_ _) | (with_reducible refine Below.drew ?_) | (with_reducible refine Below.setCell ?_ ?_ _) | go_size))) hb⟩
 ·have hg2 : (g == 1) = false := by simpa using hg1
  rw [hg2]
  go_enter Tryz.func11, Tryz.ntmps11
  go_wp2_with fail
  go_region_with (first | (go_at_call 36; (first | (with_reducible refine ((CA _).out).mono ?_) | (with_reducible refine ((CB _).out).mono ?_)); rintro e w' ⟨rfl, rfl⟩) | (go_at_call 35; (with_reducible refine ((CG _).out).mono ?_); rintro e w1 ⟨rfl, hb⟩))
  all_goals
   go_wp2_with fail
   go_ret
   first | exact ⟨rfl, below_on (w := w) (by repeat' (first | (with_reducible exact Below.refl _ _) | (with_reducible assumption) | (with_reducible refine Below.alloc ?_ ?_ _) | (with_reducible refine below_drew ?_ _) | (with_reducible refine Below.drew ?_) | (with_reducible refine Below.setCell ?_ ?_ _) | go_size)) hb⟩ | exact ⟨rfl, below_on (w := w) (Below.drew (by repeat' (first | (with_reducible exact Below.refl _ _) | (with_reducible assumption) | (with_reducible refine Below.alloc ?_ ?_ _) | (with_reducible refine below_drew ?_ _) | (with_reducible refine Below.drew ?_) | (with_reducible refine Below.setCell ?_ ?_ _) | go_size))) hb⟩

end Go.Proofs.YtggpdhdbeokkcaaGreat
