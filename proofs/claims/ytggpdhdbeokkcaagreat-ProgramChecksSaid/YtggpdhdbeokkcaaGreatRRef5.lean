/- The reference of layer 2: the greatest common divisor of two magnitudes. -/
import Derived.Test.YtggpdhdbeokkcaaGreatRRef3
namespace Go.Proofs.YtggpdhdbeokkcaaGreat
set_option linter.unusedVariables false
open Go.RowKit Go.Shelf

/-- The two variables of Gcd, and its result. -/
def GcdSt (w W : World) (x y : Int) : Prop := (Blk W (w.heap.size) (.int .u64 (hiW x)) (.int .u64 (loW x)) ∧ Blk W (w.heap.size + 1) (.int .u64 (hiW y)) (.int .u64 (loW y)) ∧ Blk W (w.heap.size + 1 + 1) (.int .u64 0) (.int .u64 0) ∧ Frz W (w.heap.size) ∧ Frz W (w.heap.size + 1) ∧ Frz W (w.heap.size + 1 + 1) ∧ Below w.heap.size w W)
theorem GcdSt.on {w W W2 : World} {x y : Int} (h : GcdSt w W x y) (hb : Below W.heap.size W W2) : GcdSt w W2 x y := by
 obtain ⟨ha, hB, hr, fa, fb, fr, B⟩ := h
 exact ⟨ha.on hb, hB.on hb, hr.on hb, fa.on ha.1 hb, fb.on hB.1 hb, fr.on hr.1 hb, below_on B hb⟩
theorem GcdSt.drew {w W : World} {x y : Int} (h : GcdSt w W x y) : GcdSt w W.drew x y := h.on (Below.drew (Below.refl _ _))
theorem GcdSt.setx {w W : World} {x y : Int} (h : GcdSt w W x y) (z : Int) : GcdSt w ((W.setCell ⟨w.heap.size, 0, none⟩ (.int .u64 (hiW (z)))).setCell ⟨w.heap.size, 1, none⟩ (.int .u64 (loW (z)))) z y := by
 obtain ⟨ha, hB, hr, fa, fb, fr, B⟩ := h
 exact ⟨ha.set, hB.far (by omega), hr.far (by omega), fa.set, fb.set, fr.set, (B.setCell (by simp) _).setCell (by simp) _⟩
theorem GcdSt.sety {w W : World} {x y : Int} (h : GcdSt w W x y) (z : Int) : GcdSt w ((W.setCell ⟨w.heap.size + 1, 0, none⟩ (.int .u64 (hiW (z)))).setCell ⟨w.heap.size + 1, 1, none⟩ (.int .u64 (loW (z)))) x z := by
 obtain ⟨ha, hB, hr, fa, fb, fr, B⟩ := h
 exact ⟨ha.far (by omega), hB.set, hr.far (by omega), fa.set, fb.set, fr.set, (B.setCell (by simp) _).setCell (by simp) _⟩
theorem GcdSt.start (w : World) (x y : Int) (W : World) (hW : W = ((w.alloc (Obj.cells #[Value.int IntKind.u64 (hiW x), Value.int IntKind.u64 (loW x)] 68)).alloc (Obj.cells #[Value.int IntKind.u64 (hiW y), Value.int IntKind.u64 (loW y)] 68)).alloc (Obj.cells #[Value.int IntKind.u64 0, Value.int IntKind.u64 0] 68)) : GcdSt w W x y := by
 subst hW
 have nw : ∀ (V : World) (n : Nat) (v0 v1 : Value) (t : Nat), V.heap.size = n → Blk (V.alloc (Obj.cells #[v0, v1] t)) n v0 v1 := fun V n v0 v1 t h => h ▸ Blk.new V v0 v1 t
 have nf : ∀ (V : World) (n : Nat) (v0 v1 : Value) (t : Nat), V.heap.size = n → Frz (V.alloc (Obj.cells #[v0, v1] t)) n := fun V n v0 v1 t h => h ▸ Frz.new V v0 v1 t
 have fa : ∀ (V : World) (n : Nat) (o : Obj) , Frz V n → n < V.heap.size → Frz (V.alloc o) n := fun V n o h hl => h.alloc hl o
 refine ⟨?_, ?_, ?_, ?_, ?_, ?_, (by repeat' (first | (with_reducible exact Below.refl _ _) | (with_reducible assumption) | (with_reducible refine Below.alloc ?_ ?_ _) | (with_reducible refine below_drew ?_ _) | (with_reducible refine Below.drew ?_) | (with_reducible refine Below.setCell ?_ ?_ _) | go_size))⟩
 ·exact ((nw _ _ _ _ _ (by simp)).alloc _).alloc _
 ·exact (nw _ _ _ _ _ (by simp)).alloc _
 ·exact nw _ _ _ _ _ (by simp)
 ·exact fa _ _ _ (fa _ _ _ (nf _ _ _ _ _ (by simp)) (by first | go_size | (simp; omega) | simp)) (by first | go_size | (simp; omega) | simp)
 ·exact fa _ _ _ (nf _ _ _ _ _ (by simp)) (by first | go_size | (simp; omega) | simp)
 ·exact nf _ _ _ _ _ (by simp)

/-- Both numbers are halved as long as both are even. -/
structure Gcd1 (A B k x y : Int) : Prop where
 k0 : 0 ≤ k
 x0 : 0 < x
 y0 : 0 < y
 ea : A = x * 2 ^ k.toNat
 eb : B = y * 2 ^ k.toNat
theorem Gcd1.half {A B k x y : Int} (h : Gcd1 A B k x y) (hx : x % 2 = 0) (hy : y % 2 = 0) : Gcd1 A B (k + 1) (x / 2) (y / 2) := by
 obtain ⟨k0, x0, y0, ea, eb⟩ := h
 have e : (k + 1).toNat = k.toNat + 1 := by omega
 have ex : x / 2 * 2 = x := by omega
 have ey : y / 2 * 2 = y := by omega
 refine ⟨by omega, by omega, by omega, ?_, ?_⟩
 ·rw [ea, e, Int.pow_succ, Int.mul_comm (2 ^ _) 2, ← Int.mul_assoc, ex]
 ·rw [eb, e, Int.pow_succ, Int.mul_comm (2 ^ _) 2, ← Int.mul_assoc, ey]
theorem Gcd1.small {A B k x y : Int} (h : Gcd1 A B k x y) (hA : A < 340282366920938463463374607431768211456) (hB : B < 340282366920938463463374607431768211456) : k < 128 ∧ x < 340282366920938463463374607431768211456 ∧ y < 340282366920938463463374607431768211456 := by
 obtain ⟨k0, x0, y0, ea, eb⟩ := h
 have p0 : (0 : Int) < 2 ^ k.toNat := Int.pow_pos (by omega)
 have l4 : 128 ≤ k → (2 : Int) ^ 128 ≤ 2 ^ k.toNat := fun c => by
  have h := Int.ofNat_le.2 (Nat.pow_le_pow_right (show 2 > 0 by omega) (show 128 ≤ k.toNat by omega))
  rw [Int.natCast_pow, Int.natCast_pow] at h; exact h
 have e : (2 : Int) ^ 128 = 340282366920938463463374607431768211456 := by decide
 rw [e] at l4
 generalize (2 : Int) ^ k.toNat = p at *
 have l1 := Int.mul_le_mul_of_nonneg_left (show 1 ≤ p by omega) (show 0 ≤ x by omega)
 have l2 := Int.mul_le_mul_of_nonneg_left (show 1 ≤ p by omega) (show 0 ≤ y by omega)
 have l3 := Int.mul_le_mul_of_nonneg_right (show 1 ≤ x by omega) (show 0 ≤ p by omega)
 rw [Int.one_mul] at l3
 rw [Int.mul_one] at l1 l2
 rw [← ea] at l1 l3
 rw [← eb] at l2
 refine ⟨?_, by omega, by omega⟩
 by_cases c : k < 128
 ·exact c
 ·have := l4 (by omega)
  omega
theorem Gcd1.gcd {A B k x y : Int} (h : Gcd1 A B k x y) : (Int.gcd A B : Int) = (Int.gcd x y : Int) * 2 ^ k.toNat := by
 rw [h.ea, h.eb, Int.gcd_mul_right]
 simp [Int.natAbs_pow]

/-- One number at least is odd: the greatest common divisor stays, whatever is halved or taken away. -/
structure Gcd2 (g : Nat) (x y : Int) : Prop where
 x0 : 0 ≤ x
 y0 : 0 < y
 og : g % 2 = 1
 e : Int.gcd x y = g
theorem Gcd1.turn {A B k x y : Int} (h : Gcd1 A B k x y) (ho : ¬ (x % 2 = 0 ∧ y % 2 = 0)) : Gcd2 (Int.gcd x y) x y := by
 refine ⟨by have := h.x0; omega, h.y0, ?_, rfl⟩
 rw [Int.gcd]
 exact gcd_odd (by omega)
theorem Gcd2.hx {g : Nat} {x y : Int} (h : Gcd2 g x y) (hx : x % 2 = 0) : Gcd2 g (x / 2) y := by
 obtain ⟨x0, y0, og, e⟩ := h
 rw [Int.gcd] at e
 have h2 : y.natAbs % 2 = 1 := odd_gcd_half_left (a := x.natAbs) (by omega) (by rw [e]; exact og)
 refine ⟨by omega, y0, og, ?_⟩
 rw [Int.gcd, show (x / 2).natAbs = x.natAbs / 2 by omega, gcd_half_left (by omega) h2, e]
theorem Gcd2.hy {g : Nat} {x y : Int} (h : Gcd2 g x y) (hx : x % 2 = 1) (hy : y % 2 = 0) : Gcd2 g x (y / 2) := by
 obtain ⟨x0, y0, og, e⟩ := h
 rw [Int.gcd] at e
 refine ⟨x0, by omega, og, ?_⟩
 rw [Int.gcd, show (y / 2).natAbs = y.natAbs / 2 by omega, gcd_half_right (by omega) (by omega), e]
theorem Gcd2.swap {g : Nat} {x y : Int} (h : Gcd2 g x y) (hx : 0 < x) : Gcd2 g y x := ⟨by have := h.y0; omega, hx, h.og, by rw [Int.gcd_comm]; exact h.e⟩
theorem Gcd2.minus {g : Nat} {x y : Int} (h : Gcd2 g x y) (hl : y ≤ x) : Gcd2 g (x - y) y := by
 obtain ⟨x0, y0, og, e⟩ := h
 rw [Int.gcd] at e
 refine ⟨by omega, y0, og, ?_⟩
 rw [Int.gcd, show (x - y).natAbs = x.natAbs - y.natAbs by omega, gcd_minus (by omega), e]
theorem Gcd2.last {g : Nat} {y : Int} (h : Gcd2 g 0 y) : y = g := by
 have := h.e
 have := h.y0
 rw [Int.gcd] at *
 simp at *
 omega

theorem and_one {Y : Int} (h0 : 0 ≤ Y) (h1 : Y < 18446744073709551616) : bits .and .u64 Y 1 = Y % 2 := by
 obtain ⟨n, rfl⟩ := Int.eq_ofNat_of_zero_le h0
 have h := bits_and_u64_nat n 1 (by omega) (by omega)
 rw [Nat.and_one_is_mod] at h
 rw [show ((n : Int) % 2) = ((n % 2 : Nat) : Int) by omega]
 exact h
theorem low_bit (x : Int) : loW x % 2 = x % 2 := by unfold loW; omega
/-- A magnitude that is not 0 is not the zero struct. -/
theorem words_ne {x : Int} (h0 : 0 < x) (h1 : x < 340282366920938463463374607431768211456) : hiW x ≠ 0 ∨ (hiW x = 0 ∧ loW x ≠ 0) := by unfold hiW loW; omega

end Go.Proofs.YtggpdhdbeokkcaaGreat
