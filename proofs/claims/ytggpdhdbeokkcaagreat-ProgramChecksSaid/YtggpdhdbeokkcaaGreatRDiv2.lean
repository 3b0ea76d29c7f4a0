/- Division of two words by one, whole; the remainder and the quotient of package ratio's wide numbers. -/
import Derived.Test.YtggpdhdbeokkcaaGreatRDiv
namespace Go.Proofs.YtggpdhdbeokkcaaGreat
set_option linter.unusedVariables false
open Go.RowKit Go.Shelf

theorem below_drew {a w : World} (h : Below a.heap.size a w) (k : Nat) : Below a.heap.size a (w.drewN k) := h.trans ⟨rfl, rfl, rfl, Nat.le_refl _, fun _ _ => rfl⟩

theorem div64_any (hi lo y : Int) (w : World) (h0 : 0 ≤ hi) (h1 : hi < y) (l0 : 0 ≤ lo) (l1 : lo < 18446744073709551616) (y1 : y < 18446744073709551616) :
  Calls Tryz.prog 119 #[.int .u64 hi, .int .u64 lo, .int .u64 y] w fun e w' => e = .returned (.tuple #[.int .u64 ((hi * 18446744073709551616 + lo) / y), .int .u64 ((hi * 18446744073709551616 + lo) % y)]) ∧ ∃ k, w' = w.drewN k := by
 by_cases hz : hi = 0
 ·subst hz
  refine (div64_zero lo y w l0 l1 h1 y1).mono fun e w' ⟨he, hw⟩ => ⟨?_, hw⟩
  rw [he]; simp
 ·obtain ⟨s, hs, s0, s1, p0, p1⟩ := lz_norm (y := y) (by omega) y1
  exact div64_pos hi lo y s w (by omega) h1 l0 l1 y1 s0 s1 p0 p1 (fun w => (Tryz.bits_LeadingZeros64 y w (by omega) (by omega)).mono fun e w' ⟨he, hw⟩ => ⟨by rw [he, hs], hw.symm⟩)

/-- The value modulo y does not hang on the high word's own multiple of y. -/
theorem rem_eq {z y : Int} (z0 : 0 ≤ z) (z1 : z < 340282366920938463463374607431768211456) (hy : 0 < y) : (hiW z % y * 18446744073709551616 + loW z) % y = z % y := by
 have e := W_of z0 z1
 rw [Int.add_emod, Int.mul_emod, Int.emod_emod_of_dvd _ (Int.dvd_refl y), ← Int.mul_emod, ← Int.add_emod, ← e]
theorem quo_eq {z y : Int} (z0 : 0 ≤ z) (z1 : z < 340282366920938463463374607431768211456) (hy : 0 < y) (y1 : y < 18446744073709551616) : hiW (z / y) = hiW z / y ∧ loW (z / y) = (hiW z % y * 18446744073709551616 + loW z) / y := by
 have e := W_of z0 z1
 obtain ⟨a1, a2⟩ := hiW_bd z
 obtain ⟨b1, b2⟩ := loW_bd z
 have m0 := Int.emod_nonneg (hiW z) (show y ≠ 0 by omega)
 have m1 := Int.emod_lt_of_pos (hiW z) hy
 have d0 : 0 ≤ hiW z / y := Int.ediv_nonneg a1 (by omega)
 have d1 : hiW z / y ≤ hiW z := Int.ediv_le_self _ a1
 have q0 : 0 ≤ (hiW z % y * 18446744073709551616 + loW z) / y := Int.ediv_nonneg (by omega) (by omega)
 have q1 : (hiW z % y * 18446744073709551616 + loW z) / y < 18446744073709551616 := Int.ediv_lt_of_lt_mul hy (by omega)
 refine W_eq d0 (by omega) q0 q1 ?_
 have f := Int.mul_ediv_add_emod (hiW z) y
 have g : z = (hiW z % y * 18446744073709551616 + loW z) + y * (hiW z / y * 18446744073709551616) := by
  have : y * (hiW z / y * 18446744073709551616) = y * (hiW z / y) * 18446744073709551616 := by grind
  rw [this]
  omega
 conv => lhs; rw [g]
 rw [Int.add_mul_ediv_left _ _ (by omega)]
 omega

set_option maxHeartbeats 1000000 in
theorem rem64_any (z y : Int) (w : World) (z0 : 0 ≤ z) (z1 : z < 340282366920938463463374607431768211456) (hy : 0 < y) (y1 : y < 18446744073709551616) :
  Calls Tryz.prog 131 #[.int .u64 (hiW z), .int .u64 (loW z), .int .u64 y] w fun e w' => e = .returned (.int .u64 (z % y)) ∧ ∃ k, w' = w.drewN k := by
 obtain ⟨a1, a2⟩ := hiW_bd z
 obtain ⟨b1, b2⟩ := loW_bd z
 have m0 := Int.emod_nonneg (hiW z) (show y ≠ 0 by omega)
 have m1 := Int.emod_lt_of_pos (hiW z) hy
 have hm : (hiW z).tmod y = hiW z % y := Int.tmod_eq_emod_of_nonneg a1
 have C := fun w => Lib.hid (div64_any (hiW z % y) (loW z) y w m0 m1 b1 b2 y1)
 simp only [rem_eq z0 z1 hy] at C
 generalize hiW z = h at *
 generalize loW z = l at *
 obtain ⟨q, hq⟩ : ∃ q, (h % y * 18446744073709551616 + l) / y = q := ⟨_, rfl⟩
 simp only [hq] at C
 obtain ⟨r, hr⟩ : ∃ r, z % y = r := ⟨_, rfl⟩
 simp only [hr] at C
 rw [hr]
 have Hx := Lib.hid (And.intro hq hr)
 clear hq hr
 go_enter Tryz.func131, Tryz.ntmps131
 go_wp2_with (first
  | (go_at_call 119; (with_reducible refine ((C _).out).mono ?_); rintro e w' ⟨rfl, nk, rfl⟩))
 go_ret
 exact ⟨rfl, _, rfl⟩

set_option maxHeartbeats 1000000 in
theorem rest_any (z y : Int) (w : World) (z0 : -170141183460469231731687303715884105728 < z) (z1 : z < 170141183460469231731687303715884105728) (hy : 0 < y) (y1 : y < 18446744073709551616) :
  Calls Tryz.prog 123 #[.agg #[.int .u64 (hiW z), .int .u64 (loW z)], .int .u64 y] w fun e w' => e = .returned (.int .u64 ((z.natAbs : Int) % y)) ∧ Below w.heap.size w w' := by
 have CS := fun w => Lib.hid (wsize_any z w (by omega) z1)
 have CR := fun w => Lib.hid (rem64_any (z.natAbs : Int) y w (by omega) (by omega) hy y1)
 obtain ⟨s, hs⟩ : ∃ s : Int, (z.natAbs : Int) = s := ⟨_, rfl⟩
 rw [hs]
 simp only [hs] at CS CR
 obtain ⟨r, hr⟩ : ∃ r, s % y = r := ⟨_, rfl⟩
 rw [hr]
 simp only [hr] at CR
 have Hx := Lib.hid (And.intro hs hr)
 clear hs hr
 generalize hiW s = sh at *
 generalize loW s = sl at *
 go_enter Tryz.func123, Tryz.ntmps123
 go_wp2_with (first
  | (go_at_call 130; (with_reducible refine ((CS _).out).mono ?_); rintro e w1 ⟨rfl, hb1⟩; obtain ⟨B1, hc1, hf1, n1, z1⟩ := after1 (a := w) hb1 (by go_grown) (by go_size); clear hb1)
  | (go_at_call 131; (with_reducible refine ((CR _).out).mono ?_); rintro e w' ⟨rfl, nk, rfl⟩))
 go_ret
 exact ⟨rfl, below_drew (by go_grown) _⟩

theorem over_neg {z y : Int} (h : z < 0) : -((z.natAbs : Int) / y) = z.tdiv y := by
 have e : z = -(z.natAbs : Int) := by omega
 conv => rhs; rw [e, Int.neg_tdiv, Int.tdiv_eq_ediv_of_nonneg (by omega)]
theorem over_pos {z y : Int} (h : ¬ z < 0) : (z.natAbs : Int) / y = z.tdiv y := by
 have e : z = (z.natAbs : Int) := by omega
 conv => rhs; rw [e, Int.tdiv_eq_ediv_of_nonneg (by omega)]

set_option maxHeartbeats 2000000 in
theorem over_any (z y : Int) (w : World) (z0 : -170141183460469231731687303715884105728 < z) (z1 : z < 170141183460469231731687303715884105728) (hy : 0 < y) (y1 : y < 18446744073709551616) :
  Calls Tryz.prog 124 #[.agg #[.int .u64 (hiW z), .int .u64 (loW z)], .int .u64 y] w fun e w' => e = .returned (.agg #[.int .u64 (hiW (z.tdiv y)), .int .u64 (loW (z.tdiv y))]) ∧ Below w.heap.size w w' := by
 have CS := fun w => Lib.hid (wsize_any z w (by omega) z1)
 have CG := fun w => Lib.hid (sign_any z w (by omega) z1)
 obtain ⟨s, hs⟩ : ∃ s : Int, (z.natAbs : Int) = s := ⟨_, rfl⟩
 simp only [hs] at CS
 have s0 : 0 ≤ s := by omega
 have s1 : s < 340282366920938463463374607431768211456 := by omega
 obtain ⟨a1, a2⟩ := hiW_bd s
 obtain ⟨b1, b2⟩ := loW_bd s
 have m0 := Int.emod_nonneg (hiW s) (show y ≠ 0 by omega)
 have m1 := Int.emod_lt_of_pos (hiW s) hy
 have hm : (hiW s).tmod y = hiW s % y := Int.tmod_eq_emod_of_nonneg a1
 have hd : (hiW s).tdiv y = hiW s / y := Int.tdiv_eq_ediv_of_nonneg a1
 have CD := fun w => Lib.hid (div64_any (hiW s % y) (loW s) y w m0 m1 b1 b2 y1)
 obtain ⟨e1, e2⟩ := quo_eq s0 s1 hy y1
 rw [← e2] at CD
 rw [← e1] at hd
 obtain ⟨c1, c2⟩ := hiW_bd (s / y)
 obtain ⟨r, hr⟩ : ∃ r, (hiW s % y * 18446744073709551616 + loW s) % y = r := ⟨_, rfl⟩
 rw [hr] at CD
 have CN := fun w => Lib.hid (negated_any (s / y) w)
 have hE := Lib.hid (And.intro hs (And.intro hr (And.intro e1 e2)))
 have N1 := Lib.hid (fun h => over_neg (z := z) (y := y) h)
 have N2 := Lib.hid (fun h => over_pos (z := z) (y := y) h)
 simp only [hs] at N1 N2
 clear hs hr e1 e2
 by_cases hz : z < 0
 ·have hsg : sgn z < 0 := sgn_lt.2 hz
  rw [← N1.out hz]
  generalize hiW (s / y) = qh at *
  generalize loW (s / y) = ql at *
  generalize hiW s = sh at *
  generalize loW s = sl at *
  go_enter Tryz.func124, Tryz.ntmps124
  go_wp2_with (first
   | (go_at_call 130; (with_reducible refine ((CS _).out).mono ?_); rintro e w1 ⟨rfl, hb1⟩; obtain ⟨B1, hc1, hf1, n1, n2, z1⟩ := after2 (a := w) hb1 (by go_grown) (by go_size); clear hb1))
  go_quiet ((go_at_call 119; exact Calls.quiet_of ((CD _).out)))
  go_wp2_with (first
   | (go_at_call 116; (with_reducible refine ((CG _).out).mono ?_); rintro e w2 ⟨rfl, hb2⟩; obtain ⟨B2, hc2, hf2, m1, m2, z2⟩ := after2 (a := w) hb2 (by repeat' (first | (with_reducible exact Below.refl _ _) | (with_reducible assumption) | (with_reducible refine Below.alloc ?_ ?_ _) | (with_reducible refine below_drew ?_ _) | (with_reducible refine Below.drew ?_) | (with_reducible refine Below.setCell ?_ ?_ _) | go_size)) (by first | go_size | (simp; omega) | simp); clear hb2)
   | (go_at_call 121; (with_reducible refine ((CN _).out).mono ?_); rintro e w3 ⟨rfl, hb3⟩; obtain ⟨B3, hc3, hf3, p1, p2, z3⟩ := after2 (a := w) hb3 B2 z2; clear hb3))
  have k0 : w3.cell? ⟨w.heap.size + 1, 0, none⟩ = some (.int .u64 0) := (hc3 _ _ m2).trans ((hc2 _ _ (by first | go_size | (simp; omega) | simp)).trans (by rw [World.cell?_alloc_past _ _ _ (by simp; omega), World.cell?_drewN, World.cell?_alloc_past _ _ _ n2]; exact (hc1 _ _ (by go_size)).trans (by simp [go_sem])))
  have k1 : w3.cell? ⟨w.heap.size + 1, 1, none⟩ = some (.int .u64 0) := (hc3 _ _ m2).trans ((hc2 _ _ (by first | go_size | (simp; omega) | simp)).trans (by rw [World.cell?_alloc_past _ _ _ (by simp; omega), World.cell?_drewN, World.cell?_alloc_past _ _ _ n2]; exact (hc1 _ _ (by go_size)).trans (by simp [go_sem])))
  refine bodyPost_ret (by simp [results, Tryz.results124, go_sem, k0, k1]; try rfl) rfl ?_
  exact ⟨rfl, (by repeat' (first | (with_reducible exact Below.refl _ _) | (with_reducible assumption) | (with_reducible refine Below.alloc ?_ ?_ _) | (with_reducible refine below_drew ?_ _) | (with_reducible refine Below.drew ?_) | (with_reducible refine Below.setCell ?_ ?_ _) | go_size))⟩
 ·have hsg : ¬ sgn z < 0 := fun h => hz (sgn_lt.1 h)
  rw [← N2.out hz]
  generalize hiW (s / y) = qh at *
  generalize loW (s / y) = ql at *
  generalize hiW s = sh at *
  generalize loW s = sl at *
  go_enter Tryz.func124, Tryz.ntmps124
  go_wp2_with (first
   | (go_at_call 130; (with_reducible refine ((CS _).out).mono ?_); rintro e w1 ⟨rfl, hb1⟩; obtain ⟨B1, hc1, hf1, n1, n2, z1⟩ := after2 (a := w) hb1 (by go_grown) (by go_size); clear hb1))
  go_quiet ((go_at_call 119; exact Calls.quiet_of ((CD _).out)))
  go_wp2_with (first
   | (go_at_call 116; (with_reducible refine ((CG _).out).mono ?_); rintro e w2 ⟨rfl, hb2⟩; obtain ⟨B2, hc2, hf2, m1, m2, z2⟩ := after2 (a := w) hb2 (by repeat' (first | (with_reducible exact Below.refl _ _) | (with_reducible assumption) | (with_reducible refine Below.alloc ?_ ?_ _) | (with_reducible refine below_drew ?_ _) | (with_reducible refine Below.drew ?_) | (with_reducible refine Below.setCell ?_ ?_ _) | go_size)) (by first | go_size | (simp; omega) | simp); clear hb2))
  have k0 : w2.cell? ⟨w.heap.size + 1, 0, none⟩ = some (.int .u64 0) := ((hc2 _ _ (by first | go_size | (simp; omega) | simp)).trans (by rw [World.cell?_alloc_past _ _ _ (by simp; omega), World.cell?_drewN, World.cell?_alloc_past _ _ _ n2]; exact (hc1 _ _ (by go_size)).trans (by simp [go_sem])))
  have k1 : w2.cell? ⟨w.heap.size + 1, 1, none⟩ = some (.int .u64 0) := ((hc2 _ _ (by first | go_size | (simp; omega) | simp)).trans (by rw [World.cell?_alloc_past _ _ _ (by simp; omega), World.cell?_drewN, World.cell?_alloc_past _ _ _ n2]; exact (hc1 _ _ (by go_size)).trans (by simp [go_sem])))
  refine bodyPost_ret (by simp [results, Tryz.results124, go_sem, k0, k1]; try rfl) rfl ?_
  exact ⟨rfl, (by repeat' (first | (with_reducible exact Below.refl _ _) | (with_reducible assumption) | (with_reducible refine Below.alloc ?_ ?_ _) | (with_reducible refine below_drew ?_ _) | (with_reducible refine Below.drew ?_) | (with_reducible refine Below.setCell ?_ ?_ _) | go_size))⟩

end Go.Proofs.YtggpdhdbeokkcaaGreat
