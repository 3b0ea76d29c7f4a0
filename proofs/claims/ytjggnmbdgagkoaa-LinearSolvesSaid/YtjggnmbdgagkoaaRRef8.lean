/- The reference of layer 2: Make, Valid, Floor, Ceil. -/
import Derived.Test.YtjggnmbdgagkoaaRRef7
namespace Go.Proofs.Ytjggnmbdgagkoaa
set_option linter.unusedVariables false
open Go.RowKit Go.Shelf

theorem made_make {num den : Int} (hz : ¬ den = 0) : makeT num den = madeT (num.natAbs : Int) (decide (num < 0) != decide (den < 0)) (den.natAbs : Int) := by
  unfold makeT madeT
  rw [if_neg hz, if_neg (show ¬ (den.natAbs : Int) = 0 by omega)]
  rcases Int.lt_or_le num 0 with h1 | h1 <;> rcases Int.lt_or_le den 0 with h2 | h2
  · simp only [h1, h2, decide_true]
    rw [show (num.natAbs : Int) = -num by omega]; rfl
  · simp only [h1, show ¬ den < 0 by omega, decide_true, decide_false]
    rw [show -(num.natAbs : Int) = num by omega]; rfl
  · simp only [h2, show ¬ num < 0 by omega, decide_true, decide_false]
    rw [show (num.natAbs : Int) = num by omega]; rfl
  · simp only [show ¬ num < 0 by omega, show ¬ den < 0 by omega, decide_false]
    rw [show (num.natAbs : Int) = num by omega]; rfl

set_option maxHeartbeats 2000000 in
theorem refMake_any (num den : Int) (w : World) (n0 : -9223372036854775808 ≤ num) (n1 : num ≤ 9223372036854775807) (d0 : -9223372036854775808 ≤ den) (d1 : den ≤ 9223372036854775807) (n d er : Int) (h : makeT num den = (n, d, er)) :
    Calls Try.prog 54 #[.int .i64 num, .int .i64 den] w fun e w' => e = .returned (.tuple #[.agg #[.int .i64 n, .int .i64 d], .int .i64 er]) ∧ Below w.heap.size w w' := by
  have CA := fun w => Lib.hid (refSize_any num w n0 n1)
  have CB := fun w => Lib.hid (refSize_any den w d0 d1)
  by_cases hz : den = 0
  · subst hz
    unfold makeT at h
    rw [if_pos rfl] at h
    obtain ⟨e1, e2, e3⟩ := three h
    subst e1 e2 e3
    clear h
    obtain ⟨s1, s2⟩ := words_small (z := (num.natAbs : Int)) (by omega) (by omega)
    have CM := fun neg w => Lib.hid (made_zero (num.natAbs : Int) neg w)
    simp only [s1, s2] at CM
    obtain ⟨a, ha⟩ : ∃ a : Int, a = (num.natAbs : Int) := ⟨_, rfl⟩
    simp only [← ha] at CA CM
    have zb : ((0 : Int).natAbs : Int) = 0 := rfl
    simp only [zb] at CB
    clear s1 s2 ha
    go_enter Try.func54, Try.ntmps54
    go_wp2_with (first | (go_at_call 64; (first | (with_reducible refine ((CA _).out).mono ?_) | (with_reducible refine ((CB _).out).mono ?_)); rintro e w' ⟨rfl, rfl⟩) | (go_at_call 65; (with_reducible refine ((CM _ _).out).mono ?_); rintro e w1 ⟨rfl, hb⟩; have K1 := Lib.hid ((Blk.new w _ _ _).on hb); have K2 := Lib.hid ((Frz.new w _ _ _).on (by simp) hb); obtain ⟨_, k0, k1⟩ := K1.out; obtain ⟨z0, z1⟩ := K2.out; have B1 := Lib.hid (below_on (w := w) (by repeat' (first | (with_reducible exact Below.refl _ _) | (with_reducible assumption) | (with_reducible refine Below.alloc ?_ ?_ _) | (with_reducible refine below_drew ?_ _) | (with_reducible refine Below.drew ?_) | (with_reducible refine Below.setCell ?_ ?_ _) | go_size)) hb); clear hb))
    refine bodyPost_ret (by simp [results, Try.results54, go_sem, k0, k1]; try rfl) rfl ?_
    exact ⟨rfl, (B1.out.setCell (by simp) _).setCell (by simp) _⟩
  · rw [made_make hz] at h
    obtain ⟨s1, s2⟩ := words_small (z := (num.natAbs : Int)) (by omega) (by omega)
    obtain ⟨s3, s4⟩ := words_small (z := (den.natAbs : Int)) (by omega) (by omega)
    have CM := fun w => Lib.hid (made_pos (num.natAbs : Int) (den.natAbs : Int) _ w (by omega) (by omega) (by omega) (by omega) n d er h)
    simp only [s1, s2, s3, s4] at CM
    obtain ⟨a, ha⟩ : ∃ a : Int, a = (num.natAbs : Int) := ⟨_, rfl⟩
    obtain ⟨b, hb⟩ : ∃ a : Int, a = (den.natAbs : Int) := ⟨_, rfl⟩
    simp only [← ha] at CA CM
    simp only [← hb] at CB CM
    clear s1 s2 s3 s4 ha hb h
    rcases Int.lt_or_le num 0 with h1 | h1 <;> rcases Int.lt_or_le den 0 with h2 | h2
    · have d2 : decide (num < 0) = true := by simp; omega
      have d3 : decide (den < 0) = true := by simp; omega
      simp only [d2, d3, show (true != true) = false from rfl] at CM
      clear h1 h2
      go_enter Try.func54, Try.ntmps54
      go_wp2_with (first | (go_at_call 64; (first | (with_reducible refine ((CA _).out).mono ?_) | (with_reducible refine ((CB _).out).mono ?_)); rintro e w' ⟨rfl, rfl⟩) | (go_at_call 65; (with_reducible refine ((CM _).out).mono ?_); rintro e w1 ⟨rfl, hb⟩; have K1 := Lib.hid ((Blk.new w _ _ _).on hb); have K2 := Lib.hid ((Frz.new w _ _ _).on (by simp) hb); obtain ⟨_, k0, k1⟩ := K1.out; obtain ⟨z0, z1⟩ := K2.out; have B1 := Lib.hid (below_on (w := w) (by repeat' (first | (with_reducible exact Below.refl _ _) | (with_reducible assumption) | (with_reducible refine Below.alloc ?_ ?_ _) | (with_reducible refine below_drew ?_ _) | (with_reducible refine Below.drew ?_) | (with_reducible refine Below.setCell ?_ ?_ _) | go_size)) hb); clear hb))
      refine bodyPost_ret (by simp [results, Try.results54, go_sem, k0, k1]; try rfl) rfl ?_
      exact ⟨rfl, (B1.out.setCell (by simp) _).setCell (by simp) _⟩
    · have d2 : decide (num < 0) = true := by simp; omega
      have d3 : decide (den < 0) = false := by simp; omega
      simp only [d2, d3, show (true != false) = true from rfl] at CM
      clear h1 h2
      go_enter Try.func54, Try.ntmps54
      go_wp2_with (first | (go_at_call 64; (first | (with_reducible refine ((CA _).out).mono ?_) | (with_reducible refine ((CB _).out).mono ?_)); rintro e w' ⟨rfl, rfl⟩) | (go_at_call 65; (with_reducible refine ((CM _).out).mono ?_); rintro e w1 ⟨rfl, hb⟩; have K1 := Lib.hid ((Blk.new w _ _ _).on hb); have K2 := Lib.hid ((Frz.new w _ _ _).on (by simp) hb); obtain ⟨_, k0, k1⟩ := K1.out; obtain ⟨z0, z1⟩ := K2.out; have B1 := Lib.hid (below_on (w := w) (by repeat' (first | (with_reducible exact Below.refl _ _) | (with_reducible assumption) | (with_reducible refine Below.alloc ?_ ?_ _) | (with_reducible refine below_drew ?_ _) | (with_reducible refine Below.drew ?_) | (with_reducible refine Below.setCell ?_ ?_ _) | go_size)) hb); clear hb))
      refine bodyPost_ret (by simp [results, Try.results54, go_sem, k0, k1]; try rfl) rfl ?_
      exact ⟨rfl, (B1.out.setCell (by simp) _).setCell (by simp) _⟩
    · have d2 : decide (num < 0) = false := by simp; omega
      have d3 : decide (den < 0) = true := by simp; omega
      simp only [d2, d3, show (false != true) = true from rfl] at CM
      clear h1 h2
      go_enter Try.func54, Try.ntmps54
      go_wp2_with (first | (go_at_call 64; (first | (with_reducible refine ((CA _).out).mono ?_) | (with_reducible refine ((CB _).out).mono ?_)); rintro e w' ⟨rfl, rfl⟩) | (go_at_call 65; (with_reducible refine ((CM _).out).mono ?_); rintro e w1 ⟨rfl, hb⟩; have K1 := Lib.hid ((Blk.new w _ _ _).on hb); have K2 := Lib.hid ((Frz.new w _ _ _).on (by simp) hb); obtain ⟨_, k0, k1⟩ := K1.out; obtain ⟨z0, z1⟩ := K2.out; have B1 := Lib.hid (below_on (w := w) (by repeat' (first | (with_reducible exact Below.refl _ _) | (with_reducible assumption) | (with_reducible refine Below.alloc ?_ ?_ _) | (with_reducible refine below_drew ?_ _) | (with_reducible refine Below.drew ?_) | (with_reducible refine Below.setCell ?_ ?_ _) | go_size)) hb); clear hb))
      refine bodyPost_ret (by simp [results, Try.results54, go_sem, k0, k1]; try rfl) rfl ?_
      exact ⟨rfl, (B1.out.setCell (by simp) _).setCell (by simp) _⟩
    · have d2 : decide (num < 0) = false := by simp; omega
      have d3 : decide (den < 0) = false := by simp; omega
      simp only [d2, d3, show (false != false) = false from rfl] at CM
      clear h1 h2
      go_enter Try.func54, Try.ntmps54
      go_wp2_with (first | (go_at_call 64; (first | (with_reducible refine ((CA _).out).mono ?_) | (with_reducible refine ((CB _).out).mono ?_)); rintro e w' ⟨rfl, rfl⟩) | (go_at_call 65; (with_reducible refine ((CM _).out).mono ?_); rintro e w1 ⟨rfl, hb⟩; have K1 := Lib.hid ((Blk.new w _ _ _).on hb); have K2 := Lib.hid ((Frz.new w _ _ _).on (by simp) hb); obtain ⟨_, k0, k1⟩ := K1.out; obtain ⟨z0, z1⟩ := K2.out; have B1 := Lib.hid (below_on (w := w) (by repeat' (first | (with_reducible exact Below.refl _ _) | (with_reducible assumption) | (with_reducible refine Below.alloc ?_ ?_ _) | (with_reducible refine below_drew ?_ _) | (with_reducible refine Below.drew ?_) | (with_reducible refine Below.setCell ?_ ?_ _) | go_size)) hb); clear hb))
      refine bodyPost_ret (by simp [results, Try.results54, go_sem, k0, k1]; try rfl) rfl ?_
      exact ⟨rfl, (B1.out.setCell (by simp) _).setCell (by simp) _⟩


end Go.Proofs.Ytjggnmbdgagkoaa
