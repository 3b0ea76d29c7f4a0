/- The reference of layer 2: the fraction with a value. -/
import Derived.Test.YtknbhpnhnhfbpaaRRef4
import Derived.Test.YtknbhpnhnhfbpaaRRef6
namespace Go.Proofs.Ytknbhpnhnhfbpaa
set_option linter.unusedVariables false
open Go.RowKit Go.Shelf

theorem small_words {z : Int} (h : hiW z = 0) (h0 : 0 ≤ z) (h1 : z < 340282366920938463463374607431768211456) : loW z = z ∧ z < 18446744073709551616 := by
  unfold hiW at h; unfold loW; omega
theorem words_small {z : Int} (h0 : 0 ≤ z) (h1 : z < 18446744073709551616) : hiW z = 0 ∧ loW z = z := by unfold hiW loW; omega

theorem words_gt {z : Int} (h0 : 0 ≤ z) (h1 : z < 340282366920938463463374607431768211456) : (decide (0 < hiW z) = true ∧ 1152921504606846976 < z) ∨ (decide (0 < hiW z) = false ∧ decide (1152921504606846976 < loW z) = true ∧ 1152921504606846976 < z) ∨ (decide (0 < hiW z) = false ∧ decide (1152921504606846976 < loW z) = false ∧ z ≤ 1152921504606846976) := by
  simp only [decide_eq_true_eq, decide_eq_false_iff_not]
  unfold hiW loW
  omega

theorem rdiv_any (A b : Int) (w : World) (A0 : 0 ≤ A) (A1 : A < 340282366920938463463374607431768211456) (b0 : 0 < b) (b1 : b < 340282366920938463463374607431768211456) :
    Calls Try.prog 58 #[.agg #[.int .u64 (hiW (A)), .int .u64 (loW (A))], .agg #[.int .u64 (hiW (b)), .int .u64 (loW (b))]] w fun e w' => e = .returned (.tuple #[.agg #[.int .u64 (hiW (A / b)), .int .u64 (loW (A / b))], .agg #[.int .u64 (hiW (A % b)), .int .u64 (loW (A % b))]]) ∧ Below w.heap.size w w' := by
  by_cases h : hiW A = 0
  · by_cases h2 : hiW b = 0
    · obtain ⟨e1, l1⟩ := small_words h A0 A1
      obtain ⟨e2, l2⟩ := small_words h2 (by omega) b1
      have q0 : 0 ≤ A / b := Int.ediv_nonneg A0 (by omega)
      have q1 : A / b ≤ A := Int.ediv_le_self _ A0
      have r0 : 0 ≤ A % b := Int.emod_nonneg _ (by omega)
      have r1 : A % b < b := Int.emod_lt_of_pos _ b0
      obtain ⟨e3, e4⟩ := words_small q0 (by omega)
      obtain ⟨e5, e6⟩ := words_small r0 (by omega)
      rw [h, h2, e1, e2, e3, e4, e5, e6]
      exact rdiv_small A b w A0 l1 b0 l2
    · exact rdiv_big A b w A0 A1 b0 b1 (.inr ⟨by simpa using h, by simpa using h2⟩)
  · exact rdiv_big A b w A0 A1 b0 b1 (.inl (by simpa using h))

/-- The fraction with a value of two magnitudes and a sign. -/
def madeT (N : Int) (neg : Bool) (D : Int) : Int × Int × Int := if D = 0 then (0, 0, 16) else redT (if neg = true then -N else N) D

theorem made_parts {N D : Int} {neg : Bool} (N0 : 0 ≤ N) (D0 : 0 < D) : madeT N neg D = fitT (if neg = true then -(N / (Int.gcd N D : Int)) else N / (Int.gcd N D : Int)) (D / (Int.gcd N D : Int)) := by
  unfold madeT redT
  rw [if_neg (by omega)]
  cases neg
  · simp
  · simp only [if_true]
    rw [Int.neg_gcd, Int.neg_ediv_of_dvd (Int.gcd_dvd_left N D)]

/-- What is carried from the entry on. -/
def MadeSt (w W : World) (N D : Int) : Prop := Blk W w.heap.size (.int .u64 (hiW N)) (.int .u64 (loW N)) ∧ Blk W (w.heap.size + 1) (.int .u64 (hiW D)) (.int .u64 (loW D)) ∧ Blk W (w.heap.size + 1 + 1) (.int .i64 0) (.int .i64 0) ∧ Frz W (w.heap.size + 1 + 1) ∧ Below w.heap.size w W
theorem MadeSt.on {w W W2 : World} {x y : Int} (h : MadeSt w W x y) (hb : Below W.heap.size W W2) : MadeSt w W2 x y := by
  obtain ⟨ha, hB, hr, fr, B⟩ := h
  exact ⟨ha.on hb, hB.on hb, hr.on hb, fr.on hr.1 hb, below_on B hb⟩
theorem MadeSt.alloc {w W : World} {x y : Int} (h : MadeSt w W x y) (o : Obj) : MadeSt w (W.alloc o) x y := h.on ((Below.refl _ _).alloc (Nat.le_refl _) _)
theorem MadeSt.start (w : World) (N D : Int) (W : World) (hW : W = ((w.alloc (Obj.cells #[Value.int IntKind.u64 (hiW (N)), Value.int IntKind.u64 (loW (N))] 70)).alloc (Obj.cells #[Value.int IntKind.u64 (hiW (D)), Value.int IntKind.u64 (loW (D))] 70)).alloc (Obj.cells #[Value.int IntKind.i64 0, Value.int IntKind.i64 0] 35)) : MadeSt w W N D := by
  subst hW
  have nw : ∀ (V : World) (n : Nat) (v0 v1 : Value) (t : Nat), V.heap.size = n → Blk (V.alloc (Obj.cells #[v0, v1] t)) n v0 v1 := fun V n v0 v1 t h => h ▸ Blk.new V v0 v1 t
  have nf : ∀ (V : World) (n : Nat) (v0 v1 : Value) (t : Nat), V.heap.size = n → Frz (V.alloc (Obj.cells #[v0, v1] t)) n := fun V n v0 v1 t h => h ▸ Frz.new V v0 v1 t
  refine ⟨?_, ?_, ?_, ?_, (by repeat' (first | (with_reducible exact Below.refl _ _) | (with_reducible assumption) | (with_reducible refine Below.alloc ?_ ?_ _) | (with_reducible refine below_drew ?_ _) | (with_reducible refine Below.drew ?_) | (with_reducible refine Below.setCell ?_ ?_ _) | go_size))⟩
  · exact ((nw _ _ _ _ _ (by simp)).alloc _).alloc _
  · exact (nw _ _ _ _ _ (by simp)).alloc _
  · exact nw _ _ _ _ _ (by simp)
  · exact nf _ _ _ _ _ (by simp)

end Go.Proofs.Ytknbhpnhnhfbpaa
