/- Integers of two words, as package ratio reckons with them: sums, opposites, signs, products. -/
import Derived.Test.YtabpnkpedcgcpaaRLeaf
import Derived.Test.YtabpnkpedcgcpaaShelf
import Derived.Shelf.Spec.BitsCarry
import Derived.StillTactics
import Derived.Deep.RegionHeld3
import Derived.RowKit3
import Derived.Handy
namespace Go.Proofs.Ytabpnkpedcgcpaa
set_option linter.unusedVariables false
open Go.RowKit Go.Shelf

/-- What stands behind a call that has turned nothing of what was there: for a function that has laid one, two, .. blocks of its own. -/
theorem after0 {a W w1 : World} (hb : Below W.heap.size W w1) (h : Below a.heap.size a W) : Below a.heap.size a w1 ∧ (∀ b o, b < W.heap.size → w1.cell? ⟨b, o, none⟩ = W.cell? ⟨b, o, none⟩) ∧ (∀ b o, b < W.heap.size → w1.frozen? ⟨b, o, none⟩ = W.frozen? ⟨b, o, none⟩) :=
  ⟨h.trans (hb.mono h.size), fun b o hh => hb.cell (p := ⟨b, o, none⟩) hh, fun b o hh => hb.frozen (p := ⟨b, o, none⟩) hh⟩
theorem after1 {a W w1 : World} (hb : Below W.heap.size W w1) (h : Below a.heap.size a W) (hk : a.heap.size + 1 ≤ W.heap.size) : Below a.heap.size a w1 ∧ (∀ b o, b < W.heap.size → w1.cell? ⟨b, o, none⟩ = W.cell? ⟨b, o, none⟩) ∧ (∀ b o, b < W.heap.size → w1.frozen? ⟨b, o, none⟩ = W.frozen? ⟨b, o, none⟩) ∧ a.heap.size < w1.heap.size ∧ a.heap.size + 1 ≤ w1.heap.size :=
  ⟨(after0 hb h).1, (after0 hb h).2.1, (after0 hb h).2.2, by have := hb.size; omega, by have := hb.size; omega⟩
theorem after2 {a W w1 : World} (hb : Below W.heap.size W w1) (h : Below a.heap.size a W) (hk : a.heap.size + 2 ≤ W.heap.size) : Below a.heap.size a w1 ∧ (∀ b o, b < W.heap.size → w1.cell? ⟨b, o, none⟩ = W.cell? ⟨b, o, none⟩) ∧ (∀ b o, b < W.heap.size → w1.frozen? ⟨b, o, none⟩ = W.frozen? ⟨b, o, none⟩) ∧ a.heap.size < w1.heap.size ∧ a.heap.size + 1 < w1.heap.size ∧ a.heap.size + 2 ≤ w1.heap.size :=
  ⟨(after0 hb h).1, (after0 hb h).2.1, (after0 hb h).2.2, by have := hb.size; omega, by have := hb.size; omega, by have := hb.size; omega⟩
theorem after3 {a W w1 : World} (hb : Below W.heap.size W w1) (h : Below a.heap.size a W) (hk : a.heap.size + 3 ≤ W.heap.size) : Below a.heap.size a w1 ∧ (∀ b o, b < W.heap.size → w1.cell? ⟨b, o, none⟩ = W.cell? ⟨b, o, none⟩) ∧ (∀ b o, b < W.heap.size → w1.frozen? ⟨b, o, none⟩ = W.frozen? ⟨b, o, none⟩) ∧ a.heap.size < w1.heap.size ∧ a.heap.size + 1 < w1.heap.size ∧ a.heap.size + 2 < w1.heap.size ∧ a.heap.size + 3 ≤ w1.heap.size :=
  ⟨(after0 hb h).1, (after0 hb h).2.1, (after0 hb h).2.2, by have := hb.size; omega, by have := hb.size; omega, by have := hb.size; omega, by have := hb.size; omega⟩

theorem add64 (x y c : Int) (hx : 0 ≤ x) (hy : 0 ≤ y) (hc0 : 0 ≤ c) (hc : c ≤ 1) (w : World) : (callFunc 124 #[.int .u64 x, .int .u64 y, .int .u64 c]).run Try.prog w =
    .ok (.value (.tuple #[.int .u64 ((x + y + c) % 18446744073709551616), .int .u64 ((x + y + c) / 18446744073709551616)])) w := by
  rw [run_callFunc_extern Try.func124 (by kernel_rfl) (by kernel_rfl) (by kernel_rfl) (e := add64Entry) (by kernel_rfl), run_add64 x y c hx hy hc0 hc]
  rfl
theorem sub64 (x y b : Int) (hx : 0 ≤ x) (hy : 0 ≤ y) (hy' : y < 18446744073709551616) (hb0 : 0 ≤ b) (hb : b ≤ 1) (w : World) : (callFunc 127 #[.int .u64 x, .int .u64 y, .int .u64 b]).run Try.prog w =
    .ok (.value (.tuple #[.int .u64 ((x - y - b) % 18446744073709551616), .int .u64 (bor x (y + b))])) w := by
  obtain ⟨x, rfl⟩ := Int.eq_ofNat_of_zero_le hx
  obtain ⟨y, rfl⟩ := Int.eq_ofNat_of_zero_le hy
  obtain ⟨b, rfl⟩ := Int.eq_ofNat_of_zero_le hb0
  have e1 : (((x + 18446744073709551616 - y - b) % 18446744073709551616 : Nat) : Int) = ((x : Int) - y - b) % 18446744073709551616 := by omega
  have e2 : ((if x < y + b then 1 else 0 : Nat) : Int) = bor (x : Int) ((y : Int) + b) := by unfold bor; split <;> split <;> omega
  rw [← e1, ← e2, run_callFunc_extern Try.func127 (by kernel_rfl) (by kernel_rfl) (by kernel_rfl) (e := sub64Entry) (by kernel_rfl), run_sub64 x y b (by omega)]
  rfl
theorem add64_0 (x y : Int) (hx : 0 ≤ x) (hy : 0 ≤ y) (w : World) : (callFunc 124 #[.int .u64 x, .int .u64 y, .int .u64 0]).run Try.prog w =
    .ok (.value (.tuple #[.int .u64 ((x + y) % 18446744073709551616), .int .u64 ((x + y) / 18446744073709551616)])) w := by
  simpa using add64 x y 0 hx hy (Int.le_refl 0) (by decide) w
theorem sub64_0 (x y : Int) (hx : 0 ≤ x) (hy : 0 ≤ y) (hy' : y < 18446744073709551616) (w : World) : (callFunc 127 #[.int .u64 x, .int .u64 y, .int .u64 0]).run Try.prog w =
    .ok (.value (.tuple #[.int .u64 ((x - y) % 18446744073709551616), .int .u64 (bor x y)])) w := by
  simpa using sub64 x y 0 hx hy hy' (Int.le_refl 0) (by decide) w

theorem ret_w {h l h' l' : Int} (e1 : h = h') (e2 : l = l') : Ending.returned (.agg #[.int .u64 h, .int .u64 l]) = .returned (.agg #[.int .u64 h', .int .u64 l']) := by rw [e1, e2]

set_option maxHeartbeats 1000000 in
theorem negated_any (z : Int) (w : World) :
    Calls Try.prog 123 #[.agg #[.int .u64 (hiW z), .int .u64 (loW z)]] w fun e w' => e = .returned (.agg #[.int .u64 (hiW (-z)), .int .u64 (loW (-z))]) ∧ Below w.heap.size w w' := by
  obtain ⟨a1, a2⟩ := hiW_bd z
  obtain ⟨b1, b2⟩ := loW_bd z
  obtain ⟨c1, c2⟩ := bor_bd 0 (loW z)
  have E1 := Lib.hid (neg_lo z)
  have E2 := Lib.hid (neg_hi z)
  generalize hiW z = h at *
  generalize loW z = l at *
  go_enter Try.func123, Try.ntmps123
  go_wp2_with (first | simp only [sub64_0 0 l (by decide) b1 b2] | simp only [sub64 0 h _ (by decide) a1 a2 c1 c2])
  go_returns
  exact ⟨ret_w E2.out E1.out, by go_grown⟩

set_option maxHeartbeats 1000000 in
theorem plus_any (x y : Int) (w : World) :
    Calls Try.prog 106 #[.agg #[.int .u64 (hiW x), .int .u64 (loW x)], .agg #[.int .u64 (hiW y), .int .u64 (loW y)]] w fun e w' => e = .returned (.agg #[.int .u64 (hiW (x + y)), .int .u64 (loW (x + y))]) ∧ Below w.heap.size w w' := by
  obtain ⟨a1, a2⟩ := hiW_bd x
  obtain ⟨b1, b2⟩ := loW_bd x
  obtain ⟨c1, c2⟩ := hiW_bd y
  obtain ⟨d1, d2⟩ := loW_bd y
  have E1 := Lib.hid (plus_lo x y)
  have E2 := Lib.hid (plus_hi x y)
  have k0 : 0 ≤ (loW x + loW y) / 18446744073709551616 := by omega
  have k1 : (loW x + loW y) / 18446744073709551616 ≤ 1 := by omega
  generalize hiW x = h at *
  generalize loW x = l at *
  generalize hiW y = h' at *
  generalize loW y = l' at *
  go_enter Try.func106, Try.ntmps106
  go_wp2_with (first | simp only [add64_0 l l' b1 d1] | simp only [add64 h h' _ a1 c1 k0 k1])
  go_returns
  exact ⟨ret_w E2.out E1.out, by go_grown⟩

set_option maxHeartbeats 1000000 in
theorem sign_any (z : Int) (w : World) (h0 : -170141183460469231731687303715884105728 ≤ z) (h1 : z < 170141183460469231731687303715884105728) :
    Calls Try.prog 107 #[.agg #[.int .u64 (hiW z), .int .u64 (loW z)]] w fun e w' => e = .returned (.int .i64 (sgn z)) ∧ Below w.heap.size w w' := by
  obtain ⟨a1, a2⟩ := hiW_bd z
  obtain ⟨b1, b2⟩ := loW_bd z
  have E1 := Lib.hid (sgn_zero h0 h1)
  have E2 := Lib.hid (sgn_neg h0 h1)
  clear h0 h1
  generalize hiW z = h at *
  generalize loW z = l at *
  go_enter Try.func107, Try.ntmps107
  go_wp2
  all_goals
    go_ret
    refine ⟨r_int ?_, by go_grown⟩
    have e1 := E1.out
    have e2 := E2.out
    unfold sgn
    split <;> (try split) <;> go_arith

theorem sgn_lt {z : Int} : (sgn z < 0) ↔ z < 0 := by unfold sgn; split <;> (try split) <;> omega
theorem size_neg {z : Int} (h : z < 0) : -z = (z.natAbs : Int) := by omega
theorem size_pos {z : Int} (h : ¬ z < 0) : z = (z.natAbs : Int) := by omega

set_option maxHeartbeats 1000000 in
theorem wsize_any (z : Int) (w : World) (h0 : -170141183460469231731687303715884105728 ≤ z) (h1 : z < 170141183460469231731687303715884105728) :
    Calls Try.prog 133 #[.agg #[.int .u64 (hiW z), .int .u64 (loW z)]] w fun e w' => e = .returned (.agg #[.int .u64 (hiW (z.natAbs : Int)), .int .u64 (loW (z.natAbs : Int))]) ∧ Below w.heap.size w w' := by
  by_cases hz : z < 0
  · have hs : sgn z < 0 := sgn_lt.2 hz
    have E := Lib.hid (size_neg hz)
    go_enter Try.func133, Try.ntmps133
    go_wp2_with (first
      | (go_at_call 107; refine (sign_any z _ h0 h1).mono ?_; rintro e w1 ⟨rfl, hb1⟩; obtain ⟨B1, hc1, hf1, n1, n2, z1⟩ := after2 (a := w) hb1 (by go_grown) (by go_size); clear hb1)
      | (go_at_call 123; refine (negated_any z _).mono ?_; rintro e w2 ⟨rfl, hb2⟩; obtain ⟨B2, hc2, hf2, m1, m2, z2⟩ := after2 (a := w) hb2 B1 z1; clear hb2))
    refine bodyPost_ret (by simp [results, Try.results133, go_sem, *]; try rfl) rfl ?_
    exact ⟨by rw [E.out], by go_grown⟩
  · have hs : ¬ sgn z < 0 := fun h => hz (sgn_lt.1 h)
    have E := Lib.hid (size_pos hz)
    go_enter Try.func133, Try.ntmps133
    go_wp2_with (first
      | (go_at_call 107; refine (sign_any z _ h0 h1).mono ?_; rintro e w1 ⟨rfl, hb1⟩; obtain ⟨B1, hc1, hf1, n1, n2, z1⟩ := after2 (a := w) hb1 (by go_grown) (by go_size); clear hb1))
    refine bodyPost_ret (by simp [results, Try.results133, go_sem, *]; try rfl) rfl ?_
    exact ⟨by rw [← E.out], by go_grown⟩

end Go.Proofs.Ytabpnkpedcgcpaa
