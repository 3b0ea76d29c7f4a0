/- The reference of layer 2: magnitudes of two words: order, sums, differences, halves, products. -/
import Derived.Test.YtggpdhdbeokkcaaGreatRLawMath2
namespace Go.Proofs.YtggpdhdbeokkcaaGreat
set_option linter.unusedVariables false
open Go.RowKit Go.Shelf

set_option maxHeartbeats 400000 in
theorem refSize_any (n : Int) (w : World) (h0 : -9223372036854775808 ≤ n) (h1 : n ≤ 9223372036854775807) :
  Calls Tryz.prog 36 #[.int .i64 n] w fun e w' => e = .returned (.int .u64 (n.natAbs : Int)) ∧ w = w' := by
 go_enter Tryz.func36, Tryz.ntmps36
 go_wp2
 all_goals (go_ret; exact ⟨r_int (by first | omega | (simp only [IntKind.wrap_u64]; omega)), rfl⟩)

theorem less_w {x y : Int} (x0 : 0 ≤ x) (x1 : x < 340282366920938463463374607431768211456) (y0 : 0 ≤ y) (y1 : y < 340282366920938463463374607431768211456) : (x < y) ↔ (hiW x < hiW y ∨ (hiW x = hiW y ∧ loW x < loW y)) := by
 unfold hiW loW; omega

set_option maxHeartbeats 1000000 in
theorem less_any (x y : Int) (w : World) (x0 : 0 ≤ x) (x1 : x < 340282366920938463463374607431768211456) (y0 : 0 ≤ y) (y1 : y < 340282366920938463463374607431768211456) :
  Calls Tryz.prog 73 #[.agg #[.int .u64 (hiW x), .int .u64 (loW x)], .agg #[.int .u64 (hiW y), .int .u64 (loW y)]] w fun e w' => e = .returned (.bool (decide (x < y))) ∧ Below w.heap.size w w' := by
 have E := Lib.hid (less_w x0 x1 y0 y1)
 clear x0 x1 y0 y1
 generalize hiW x = h at *
 generalize loW x = l at *
 generalize hiW y = h' at *
 generalize loW y = l' at *
 rcases Int.lt_trichotomy h h' with g | g | g
 ·have e : Hid (decide (x < y) = true) := decide_eq_true (E.out.2 (.inl g))
  rw [e.out]
  go_enter Tryz.func73, Tryz.ntmps73
  go_wp2
  go_ret
  exact ⟨rfl, by go_grown⟩
 ·subst g
  by_cases k : l < l'
  ·have e : Hid (decide (x < y) = true) := decide_eq_true (E.out.2 (.inr ⟨rfl, k⟩))
   rw [e.out]
   have f : decide (h < h) = false := by simp
   go_enter Tryz.func73, Tryz.ntmps73
   go_wp2
   go_ret
   exact ⟨rfl, by go_grown⟩
  ·have e : Hid (decide (x < y) = false) := decide_eq_false (fun c => by rcases E.out.1 c with c | c <;> omega)
   rw [e.out]
   have f : decide (h < h) = false := by simp
   have f2 : decide (l < l') = false := by simpa using k
   go_enter Tryz.func73, Tryz.ntmps73
   go_wp2
   go_ret
   exact ⟨rfl, by go_grown⟩
 ·have e : Hid (decide (x < y) = false) := decide_eq_false (fun c => by rcases E.out.1 c with c | c <;> omega)
  rw [e.out]
  have f : decide (h < h') = false := by simp; omega
  have f2 : (h == h') = false := by simp; omega
  go_enter Tryz.func73, Tryz.ntmps73
  go_wp2
  go_ret
  exact ⟨rfl, by go_grown⟩

theorem rplus_w (x y : Int) : (if 18446744073709551616 ≤ loW x + loW y then IntKind.u64.wrap (IntKind.u64.wrap (hiW x + hiW y) + 1) else IntKind.u64.wrap (hiW x + hiW y)) = hiW (x + y) ∧ IntKind.u64.wrap (loW x + loW y) = loW (x + y) := by
 simp only [IntKind.wrap_u64]
 unfold hiW loW
 split <;> omega
theorem rminus_w (x y : Int) : (if loW x < loW y then IntKind.u64.wrap (IntKind.u64.wrap (hiW x - hiW y) - 1) else IntKind.u64.wrap (hiW x - hiW y)) = hiW (x - y) ∧ IntKind.u64.wrap (loW x - loW y) = loW (x - y) := by
 simp only [IntKind.wrap_u64]
 unfold hiW loW
 split <;> omega

set_option maxHeartbeats 1000000 in
theorem refPlus_any (x y : Int) (w : World) :
  Calls Tryz.prog 75 #[.agg #[.int .u64 (hiW x), .int .u64 (loW x)], .agg #[.int .u64 (hiW y), .int .u64 (loW y)]] w fun e w' => e = .returned (.agg #[.int .u64 (hiW (x + y)), .int .u64 (loW (x + y))]) ∧ Below w.heap.size w w' := by
 obtain ⟨E1, E2⟩ := rplus_w x y
 obtain ⟨b1, b2⟩ := loW_bd x
 obtain ⟨d1, d2⟩ := loW_bd y
 have c := hiW_bd x
 generalize hiW x = h at *
 generalize loW x = l at *
 generalize hiW y = h' at *
 generalize loW y = l' at *
 generalize hiW (x + y) = H at *
 generalize loW (x + y) = L at *
 obtain ⟨H0, e0⟩ : ∃ H0, IntKind.u64.wrap (h + h') = H0 := ⟨_, rfl⟩
 rw [e0] at E1
 by_cases k : 18446744073709551616 ≤ l + l'
 ·rw [if_pos k] at E1
  have f : decide (L < l) = true := by rw [← E2, IntKind.wrap_u64]; simp; omega
  clear c k
  go_enter Tryz.func75, Tryz.ntmps75
  go_wp2
  go_returns
  exact ⟨rfl, by go_grown⟩
 ·rw [if_neg k] at E1
  have f0 : l + l' = L := by rw [← E2, IntKind.wrap_u64]; omega
  have f : decide (L < l) = false := by rw [← f0]; simp; omega
  have f1 : IntKind.u64.wrap L = L := by rw [← f0]; exact wrap_in (by omega) (by omega)
  subst E1
  clear c k
  go_enter Tryz.func75, Tryz.ntmps75
  go_wp2
  go_returns
  exact ⟨rfl, by go_grown⟩

set_option maxHeartbeats 1000000 in
theorem refMinus_any (x y : Int) (w : World) :
  Calls Tryz.prog 74 #[.agg #[.int .u64 (hiW x), .int .u64 (loW x)], .agg #[.int .u64 (hiW y), .int .u64 (loW y)]] w fun e w' => e = .returned (.agg #[.int .u64 (hiW (x - y)), .int .u64 (loW (x - y))]) ∧ Below w.heap.size w w' := by
 obtain ⟨E1, E2⟩ := rminus_w x y
 generalize hiW x = h at *
 generalize loW x = l at *
 generalize hiW y = h' at *
 generalize loW y = l' at *
 generalize hiW (x - y) = H at *
 generalize loW (x - y) = L at *
 obtain ⟨H0, e0⟩ : ∃ H0, IntKind.u64.wrap (h - h') = H0 := ⟨_, rfl⟩
 rw [e0] at E1
 by_cases k : l < l'
 ·rw [if_pos k] at E1
  have f : decide (l < l') = true := by simpa using k
  clear k
  go_enter Tryz.func74, Tryz.ntmps74
  go_wp2
  go_returns
  exact ⟨rfl, by go_grown⟩
 ·rw [if_neg k] at E1
  have f : decide (l < l') = false := by simpa using k
  subst E1
  clear k
  go_enter Tryz.func74, Tryz.ntmps74
  go_wp2
  go_returns
  exact ⟨rfl, by go_grown⟩

theorem half_w {x : Int} (x0 : 0 ≤ x) (x1 : x < 340282366920938463463374607431768211456) : hiW x / 2 = hiW (x / 2) ∧ IntKind.u64.wrap (loW x / 2 + IntKind.u64.wrap (hiW x * 9223372036854775808)) = loW (x / 2) := by
 simp only [IntKind.wrap_u64]
 unfold hiW loW
 omega

set_option maxHeartbeats 1000000 in
theorem half_any (x : Int) (w : World) (x0 : 0 ≤ x) (x1 : x < 340282366920938463463374607431768211456) :
  Calls Tryz.prog 72 #[.agg #[.int .u64 (hiW x), .int .u64 (loW x)]] w fun e w' => e = .returned (.agg #[.int .u64 (hiW (x / 2)), .int .u64 (loW (x / 2))]) ∧ Below w.heap.size w w' := by
 obtain ⟨E1, E2⟩ := half_w x0 x1
 clear x0 x1
 generalize hiW x = h at *
 generalize loW x = l at *
 generalize hiW (x / 2) = H at *
 generalize loW (x / 2) = L at *
 go_enter Tryz.func72, Tryz.ntmps72
 go_wp2
 go_returns
 exact ⟨rfl, by go_grown⟩

end Go.Proofs.YtggpdhdbeokkcaaGreat
