/- Fractions: the common divisor, validity, and what fits. -/
import Derived.Test.YtggpdhdbeokkcaaGreatRDiv2
namespace Go.Proofs.YtggpdhdbeokkcaaGreat
set_option linter.unusedVariables false
open Go.RowKit Go.Shelf


theorem vld_iff (n d : Int) : Vld n d ↔ 1 ≤ d ∧ d ≤ 1152921504606846976 ∧ -1152921504606846976 ≤ n ∧ n ≤ 1152921504606846976 ∧ Int.gcd n d = 1 :=
 ⟨fun h => ⟨h.d1, h.d2, h.n1, h.n2, h.co⟩, fun ⟨a, b, c, d, e⟩ => ⟨a, b, c, d, e⟩⟩

set_option maxHeartbeats 1000000 in
theorem divisor_any (a b : Int) (w : World) (a0 : -9223372036854775808 ≤ a) (a1 : a ≤ 9223372036854775807) (b0 : 0 < b) (b1 : b ≤ 1152921504606846976) :
  Calls Tryz.prog 100 #[.int .i64 a, .int .i64 b] w fun e w' => e = .returned (.int .i64 (Int.gcd a b : Nat)) ∧ ∃ k, w' = w.drewN k := by
 have hg : Int.gcd a b ≤ b.natAbs := Nat.le_of_dvd (by omega) (Nat.gcd_dvd_right _ _)
 have hgd : Int.gcd a b = Nat.gcd a.natAbs b.natAbs := rfl
 obtain ⟨g, hgg⟩ : ∃ g : Int, g = (Int.gcd a b : Nat) := ⟨_, rfl⟩
 have g0 : 0 ≤ g := by omega
 have g1 : g ≤ 1152921504606846976 := by omega
 have CG : ∀ w, Hid (Calls Tryz.prog 110 #[.int .u64 (a.natAbs : Int), .int .u64 (b.natAbs : Int)] w fun e w' => e = .returned (.int .u64 g) ∧ ∃ k, w' = w.drewN k) := fun w => by
  rw [hgg, hgd]; exact gcd_any a.natAbs b.natAbs w (by omega) (by omega)
 rw [← hgg]
 obtain ⟨x, hx⟩ : ∃ x : Int, x = a.natAbs := ⟨_, rfl⟩
 obtain ⟨y, hy⟩ : ∃ y : Int, y = b.natAbs := ⟨_, rfl⟩
 have x0 : 0 ≤ x := by omega
 have x1 : x < 18446744073709551616 := by omega
 have y0 : 0 ≤ y := by omega
 have y1 : y < 18446744073709551616 := by omega
 have CA : ∀ w, Hid (Calls Tryz.prog 111 #[.int .i64 a] w fun e w' => e = .returned (.int .u64 x) ∧ w = w') := fun w => by rw [hx]; exact size_any a w a0 a1
 have CB : ∀ w, Hid (Calls Tryz.prog 111 #[.int .i64 b] w fun e w' => e = .returned (.int .u64 y) ∧ w = w') := fun w => by rw [hy]; exact size_any b w (by omega) (by omega)
 rw [← hx, ← hy] at CG
 clear hx hy hgg hgd hg
 go_enter Tryz.func100, Tryz.ntmps100
 go_wp2_with (first
  | (go_at_call 111; (with_reducible refine ((CA _).out).mono ?_); rintro e w' ⟨rfl, rfl⟩)
  | (go_at_call 111; (with_reducible refine ((CB _).out).mono ?_); rintro e w' ⟨rfl, rfl⟩)
  | (go_at_call 110; (with_reducible refine ((CG _).out).mono ?_); rintro e w' ⟨rfl, nk, rfl⟩))
 go_ret
 exact ⟨rfl, _, rfl⟩

instance (n d : Int) : Decidable (Vld n d) := decidable_of_iff _ (vld_iff n d).symm
/-- Is it a valid fraction? -/
def vB (n d : Int) : Bool := decide (Vld n d)
theorem vB_yes {n d : Int} (h : Vld n d) : vB n d = true := by simp [vB, h]
theorem vB_no {n d : Int} (h : ¬ Vld n d) : vB n d = false := by simp [vB, h]
theorem vB_vld {n d : Int} (h : vB n d = true) : Vld n d := by simpa [vB] using h
set_option maxHeartbeats 1000000 in
theorem Valid_any (n d : Int) (w : World) (n0 : -9223372036854775808 ≤ n) (n1 : n ≤ 9223372036854775807) (d0 : -9223372036854775808 ≤ d) (d1 : d ≤ 9223372036854775807) :
  Calls Tryz.prog 67 #[.agg #[.int .i64 n, .int .i64 d]] w fun e w' => e = .returned (.bool (vB n d)) ∧ Below w.heap.size w w' := by
 by_cases h1 : d < 1
 ·have hv := Lib.hid (vB_no (n := n) (d := d) (fun h => by have := h.d1; omega))
  go_enter Tryz.func67, Tryz.ntmps67
  go_wp2
  go_ret
  exact ⟨by rw [hv.out]; rfl, by go_grown⟩
 have h1' : decide (d < 1) = false := by simp; omega
 by_cases h2 : 1152921504606846976 < d
 ·have hv := Lib.hid (vB_no (n := n) (d := d) (fun h => by have := h.d2; omega))
  go_enter Tryz.func67, Tryz.ntmps67
  go_wp2
  go_ret
  exact ⟨by rw [hv.out]; rfl, by go_grown⟩
 have h2' : decide (1152921504606846976 < d) = false := by simp; omega
 by_cases h3 : n < -1152921504606846976
 ·have hv := Lib.hid (vB_no (n := n) (d := d) (fun h => by have := h.n1; omega))
  go_enter Tryz.func67, Tryz.ntmps67
  go_wp2
  go_ret
  exact ⟨by rw [hv.out]; rfl, by go_grown⟩
 have h3' : decide (n < -1152921504606846976) = false := by simp; omega
 by_cases h4 : 1152921504606846976 < n
 ·have hv := Lib.hid (vB_no (n := n) (d := d) (fun h => by have := h.n2; omega))
  go_enter Tryz.func67, Tryz.ntmps67
  go_wp2
  go_ret
  exact ⟨by rw [hv.out]; rfl, by go_grown⟩
 have h4' : decide (1152921504606846976 < n) = false := by simp; omega
 have hv : Hid (vB n d = (((Int.gcd n d : Nat) : Int) == 1)) := by
  unfold vB Hid
  rw [Bool.eq_iff_iff]
  simp only [decide_eq_true_eq, vld_iff, beq_iff_eq]
  omega
 rw [hv.out]
 obtain ⟨g, hg⟩ : ∃ g : Int, g = (Int.gcd n d : Nat) := ⟨_, rfl⟩
 have C : ∀ w, Hid (Calls Tryz.prog 100 #[.int .i64 n, .int .i64 d] w fun e w' => e = .returned (.int .i64 g) ∧ ∃ k, w' = w.drewN k) := fun w => by rw [hg]; exact divisor_any n d w n0 n1 (by omega) (by omega)
 rw [← hg]
 clear hv hg
 go_enter Tryz.func67, Tryz.ntmps67
 go_wp2_with (first
  | (go_at_call 100; (with_reducible refine ((C _).out).mono ?_); rintro e w' ⟨rfl, nk, rfl⟩))
 go_ret
 exact ⟨rfl, below_drew (by go_grown) _⟩

set_option maxHeartbeats 1000000 in
theorem fitting_any (n d : Int) (w : World) (n0 : -170141183460469231731687303715884105728 < n) (n1 : n < 170141183460469231731687303715884105728) (d0 : 0 < d) (d1 : d < 170141183460469231731687303715884105728) (a b e : Int) (h : fitT n d = (a, b, e)) :
  Calls Tryz.prog 122 #[.agg #[.int .u64 (hiW n), .int .u64 (loW n)], .agg #[.int .u64 (hiW d), .int .u64 (loW d)]] w fun r w' => r = .returned (.tuple #[.agg #[.int .i64 a, .int .i64 b], .int .i64 e]) ∧ Below w.heap.size w w' := by
 have CN := fun w => Lib.hid (number_any n w n0 n1)
 have CD := fun w => Lib.hid (number_any d w (by omega) d1)
 by_cases hn : -1152921504606846976 ≤ n ∧ n ≤ 1152921504606846976
 ·simp only [if_pos hn] at CN
  by_cases hd : d ≤ 1152921504606846976
  ·simp only [if_pos (show -1152921504606846976 ≤ d ∧ d ≤ 1152921504606846976 by omega)] at CD
   have h' : (n, d, (0 : Int)) = (a, b, e) := by rw [← h]; unfold fitT; rw [if_pos ⟨hn.1, hn.2, hd⟩]
   injection h' with q1 q2
   injection q2 with q2 q3
   subst q1; subst q2; subst q3
   clear h
   go_enter Tryz.func122, Tryz.ntmps122
   go_wp2_with (first
    | (go_at_call 129; (with_reducible refine ((CN _).out).mono ?_); rintro e w1 ⟨rfl, hb1⟩; obtain ⟨B1, hc1, hf1, n1, n2, n3, z1⟩ := after3 (a := w) hb1 (by go_grown) (by go_size); clear hb1)
    | (go_at_call 129; (with_reducible refine ((CD _).out).mono ?_); rintro e w2 ⟨rfl, hb2⟩; obtain ⟨B2, hc2, hf2, m1, m2, m3, z2⟩ := after3 (a := w) hb2 B1 z1; clear hb2))
   have k0 : w2.cell? ⟨w.heap.size + 2, 0, none⟩ = some (.int .i64 0) := (hc2 _ _ n3).trans ((hc1 _ _ (by go_size)).trans (by simp [go_sem]))
   have k1 : w2.cell? ⟨w.heap.size + 2, 1, none⟩ = some (.int .i64 0) := (hc2 _ _ n3).trans ((hc1 _ _ (by go_size)).trans (by simp [go_sem]))
   refine bodyPost_ret (by simp [results, Tryz.results122, go_sem, k0, k1]; try rfl) rfl ?_
   exact ⟨rfl, by go_grown⟩
  ·simp only [if_neg (show ¬ (-1152921504606846976 ≤ d ∧ d ≤ 1152921504606846976) by omega)] at CD
   have h' : ((0 : Int), (0 : Int), (5 : Int)) = (a, b, e) := by rw [← h]; unfold fitT; rw [if_neg (by omega)]
   injection h' with q1 q2
   injection q2 with q2 q3
   subst q1; subst q2; subst q3
   clear h
   go_enter Tryz.func122, Tryz.ntmps122
   go_wp2_with (first
    | (go_at_call 129; (with_reducible refine ((CN _).out).mono ?_); rintro e w1 ⟨rfl, hb1⟩; obtain ⟨B1, hc1, hf1, n1, n2, n3, z1⟩ := after3 (a := w) hb1 (by go_grown) (by go_size); clear hb1)
    | (go_at_call 129; (with_reducible refine ((CD _).out).mono ?_); rintro e w2 ⟨rfl, hb2⟩; obtain ⟨B2, hc2, hf2, m1, m2, m3, z2⟩ := after3 (a := w) hb2 B1 z1; clear hb2))
   have k0 : w2.cell? ⟨w.heap.size + 2, 0, none⟩ = some (.int .i64 0) := (hc2 _ _ n3).trans ((hc1 _ _ (by go_size)).trans (by simp [go_sem]))
   have k1 : w2.cell? ⟨w.heap.size + 2, 1, none⟩ = some (.int .i64 0) := (hc2 _ _ n3).trans ((hc1 _ _ (by go_size)).trans (by simp [go_sem]))
   refine bodyPost_ret (by simp [results, Tryz.results122, go_sem, k0, k1]; try rfl) rfl ?_
   exact ⟨rfl, by go_grown⟩
 ·simp only [if_neg hn] at CN
  by_cases hd : d ≤ 1152921504606846976
  ·simp only [if_pos (show -1152921504606846976 ≤ d ∧ d ≤ 1152921504606846976 by omega)] at CD
   have h' : ((0 : Int), (0 : Int), (5 : Int)) = (a, b, e) := by rw [← h]; unfold fitT; rw [if_neg (by omega)]
   injection h' with q1 q2
   injection q2 with q2 q3
   subst q1; subst q2; subst q3
   clear h
   go_enter Tryz.func122, Tryz.ntmps122
   go_wp2_with (first
    | (go_at_call 129; (with_reducible refine ((CN _).out).mono ?_); rintro e w1 ⟨rfl, hb1⟩; obtain ⟨B1, hc1, hf1, n1, n2, n3, z1⟩ := after3 (a := w) hb1 (by go_grown) (by go_size); clear hb1)
    | (go_at_call 129; (with_reducible refine ((CD _).out).mono ?_); rintro e w2 ⟨rfl, hb2⟩; obtain ⟨B2, hc2, hf2, m1, m2, m3, z2⟩ := after3 (a := w) hb2 B1 z1; clear hb2))
   have k0 : w2.cell? ⟨w.heap.size + 2, 0, none⟩ = some (.int .i64 0) := (hc2 _ _ n3).trans ((hc1 _ _ (by go_size)).trans (by simp [go_sem]))
   have k1 : w2.cell? ⟨w.heap.size + 2, 1, none⟩ = some (.int .i64 0) := (hc2 _ _ n3).trans ((hc1 _ _ (by go_size)).trans (by simp [go_sem]))
   refine bodyPost_ret (by simp [results, Tryz.results122, go_sem, k0, k1]; try rfl) rfl ?_
   exact ⟨rfl, by go_grown⟩
  ·simp only [if_neg (show ¬ (-1152921504606846976 ≤ d ∧ d ≤ 1152921504606846976) by omega)] at CD
   have h' : ((0 : Int), (0 : Int), (5 : Int)) = (a, b, e) := by rw [← h]; unfold fitT; rw [if_neg (by omega)]
   injection h' with q1 q2
   injection q2 with q2 q3
   subst q1; subst q2; subst q3
   clear h
   go_enter Tryz.func122, Tryz.ntmps122
   go_wp2_with (first
    | (go_at_call 129; (with_reducible refine ((CN _).out).mono ?_); rintro e w1 ⟨rfl, hb1⟩; obtain ⟨B1, hc1, hf1, n1, n2, n3, z1⟩ := after3 (a := w) hb1 (by go_grown) (by go_size); clear hb1)
    | (go_at_call 129; (with_reducible refine ((CD _).out).mono ?_); rintro e w2 ⟨rfl, hb2⟩; obtain ⟨B2, hc2, hf2, m1, m2, m3, z2⟩ := after3 (a := w) hb2 B1 z1; clear hb2))
   have k0 : w2.cell? ⟨w.heap.size + 2, 0, none⟩ = some (.int .i64 0) := (hc2 _ _ n3).trans ((hc1 _ _ (by go_size)).trans (by simp [go_sem]))
   have k1 : w2.cell? ⟨w.heap.size + 2, 1, none⟩ = some (.int .i64 0) := (hc2 _ _ n3).trans ((hc1 _ _ (by go_size)).trans (by simp [go_sem]))
   refine bodyPost_ret (by simp [results, Tryz.results122, go_sem, k0, k1]; try rfl) rfl ?_
   exact ⟨rfl, by go_grown⟩

end Go.Proofs.YtggpdhdbeokkcaaGreat
