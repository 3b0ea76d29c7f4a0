/- The reference of layer 2: the fraction with a value. -/
import Derived.Test.YtdbmlkkpffoadaaRRef4
import Derived.Test.YtdbmlkkpffoadaaRRef6
namespace Go.Proofs.Ytdbmlkkpffoadaa
set_option linter.unusedVariables false
open Go.RowKit Go.Shelf

theorem small_words {z : Int} (h : hiW z = 0) (h0 : 0 ≤ z) (h1 : z < 340282366920938463463374607431768211456) : loW z = z ∧ z < 18446744073709551616 := by
  unfold hiW at h; unfold loW; omega
theorem words_small {z : Int} (h0 : 0 ≤ z) (h1 : z < 18446744073709551616) : hiW z = 0 ∧ loW z = z := by unfold hiW loW; omega

theorem words_gt {z : Int} (h0 : 0 ≤ z) (h1 : z < 340282366920938463463374607431768211456) : (decide (0 < hiW z) = true ∧ 1152921504606846976 < z) ∨ (decide (0 < hiW z) = false ∧ decide (1152921504606846976 < loW z) = true ∧ 1152921504606846976 < z) ∨ (decide (0 < hiW z) = false ∧ decide (1152921504606846976 < loW z) = false ∧ z ≤ 1152921504606846976) := by
  simp only [decide_eq_true_eq, decide_eq_false_iff_not]
  unfold hiW loW
  omega

/-- The fraction with a value of two magnitudes and a sign. -/
def madeT (N : Int) (neg : Bool) (D : Int) : Int × Int × Int := if D = 0 then (0, 0, 16) else redT (if neg = true then -N else N) D

theorem made_parts {N D : Int} {neg : Bool} (N0 : 0 ≤ N) (D0 : 0 < D) : madeT N neg D = fitT (if neg = true then -(N / (Int.gcd N D : Int)) else N / (Int.gcd N D : Int)) (D / (Int.gcd N D : Int)) := by
  unfold madeT redT
  rw [if_neg (by omega)]
  cases neg
  · simp
  · simp only [if_true]
    rw [Int.neg_gcd, Int.neg_ediv_of_dvd (Int.gcd_dvd_left N D)]

/-- What is carried from the entry on. -/
def MadeSt (w W : World) (N D : Int) : Prop := Blk W w.heap.size (.int .u64 (hiW N)) (.int .u64 (loW N)) ∧ Blk W (w.heap.size + 1) (.int .u64 (hiW D)) (.int .u64 (loW D)) ∧ Blk W (w.heap.size + 1 + 1) (.int .i64 0) (.int .i64 0) ∧ Frz W (w.heap.size + 1 + 1) ∧ Below w.heap.size w W
theorem MadeSt.on {w W W2 : World} {x y : Int} (h : MadeSt w W x y) (hb : Below W.heap.size W W2) : MadeSt w W2 x y := by
  obtain ⟨ha, hB, hr, fr, B⟩ := h
  exact ⟨ha.on hb, hB.on hb, hr.on hb, fr.on hr.1 hb, below_on B hb⟩
theorem MadeSt.alloc {w W : World} {x y : Int} (h : MadeSt w W x y) (o : Obj) : MadeSt w (W.alloc o) x y := h.on ((Below.refl _ _).alloc (Nat.le_refl _) _)
end Go.Proofs.Ytdbmlkkpffoadaa
