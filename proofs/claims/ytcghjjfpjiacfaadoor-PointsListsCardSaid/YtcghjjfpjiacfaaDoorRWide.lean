/- Integers of two words, as package ratio reckons with them: sums, opposites, signs, products. -/
import Derived.Test.YtcghjjfpjiacfaaDoorRLeaf
import Derived.Test.YtcghjjfpjiacfaaDoorShelf
import Derived.Shelf.Spec.BitsCarry
import Derived.StillTactics
import Derived.Deep.RegionHeld3
import Derived.RowKit3
import Derived.Handy
namespace Go.Proofs.YtcghjjfpjiacfaaDoor
set_option linter.unusedVariables false
open Go.RowKit Go.Shelf

/-- What stands behind a call that has turned nothing of what was there: for a function that has laid one, two, .. blocks of its own. -/
theorem after0 {a W w1 : World} (hb : Below W.heap.size W w1) (h : Below a.heap.size a W) : Below a.heap.size a w1 ∧ (∀ b o, b < W.heap.size → w1.cell? ⟨b, o, none⟩ = W.cell? ⟨b, o, none⟩) ∧ (∀ b o, b < W.heap.size → w1.frozen? ⟨b, o, none⟩ = W.frozen? ⟨b, o, none⟩) :=
  ⟨h.trans (hb.mono h.size), fun b o hh => hb.cell (p := ⟨b, o, none⟩) hh, fun b o hh => hb.frozen (p := ⟨b, o, none⟩) hh⟩
theorem after1 {a W w1 : World} (hb : Below W.heap.size W w1) (h : Below a.heap.size a W) (hk : a.heap.size + 1 ≤ W.heap.size) : Below a.heap.size a w1 ∧ (∀ b o, b < W.heap.size → w1.cell? ⟨b, o, none⟩ = W.cell? ⟨b, o, none⟩) ∧ (∀ b o, b < W.heap.size → w1.frozen? ⟨b, o, none⟩ = W.frozen? ⟨b, o, none⟩) ∧ a.heap.size < w1.heap.size ∧ a.heap.size + 1 ≤ w1.heap.size :=
  ⟨(after0 hb h).1, (after0 hb h).2.1, (after0 hb h).2.2, by have := hb.size; omega, by have := hb.size; omega⟩
theorem after2 {a W w1 : World} (hb : Below W.heap.size W w1) (h : Below a.heap.size a W) (hk : a.heap.size + 2 ≤ W.heap.size) : Below a.heap.size a w1 ∧ (∀ b o, b < W.heap.size → w1.cell? ⟨b, o, none⟩ = W.cell? ⟨b, o, none⟩) ∧ (∀ b o, b < W.heap.size → w1.frozen? ⟨b, o, none⟩ = W.frozen? ⟨b, o, none⟩) ∧ a.heap.size < w1.heap.size ∧ a.heap.size + 1 < w1.heap.size ∧ a.heap.size + 2 ≤ w1.heap.size :=
  ⟨(after0 hb h).1, (after0 hb h).2.1, (after0 hb h).2.2, by have := hb.size; omega, by have := hb.size; omega, by have := hb.size; omega⟩
theorem after3 {a W w1 : World} (hb : Below W.heap.size W w1) (h : Below a.heap.size a W) (hk : a.heap.size + 3 ≤ W.heap.size) : Below a.heap.size a w1 ∧ (∀ b o, b < W.heap.size → w1.cell? ⟨b, o, none⟩ = W.cell? ⟨b, o, none⟩) ∧ (∀ b o, b < W.heap.size → w1.frozen? ⟨b, o, none⟩ = W.frozen? ⟨b, o, none⟩) ∧ a.heap.size < w1.heap.size ∧ a.heap.size + 1 < w1.heap.size ∧ a.heap.size + 2 < w1.heap.size ∧ a.heap.size + 3 ≤ w1.heap.size :=
  ⟨(after0 hb h).1, (after0 hb h).2.1, (after0 hb h).2.2, by have := hb.size; omega, by have := hb.size; omega, by have := hb.size; omega, by have := hb.size; omega⟩

theorem add64 (x y c : Int) (hx : 0 ≤ x) (hy : 0 ≤ y) (hc0 : 0 ≤ c) (hc : c ≤ 1) (w : World) : (callFunc 108 #[.int .u64 x, .int .u64 y, .int .u64 c]).run Tryd.prog w =
    .ok (.value (.tuple #[.int .u64 ((x + y + c) % 18446744073709551616), .int .u64 ((x + y + c) / 18446744073709551616)])) w := by
  rw [run_callFunc_extern Tryd.func108 (by kernel_rfl) (by kernel_rfl) (by kernel_rfl) (e := add64Entry) (by kernel_rfl), run_add64 x y c hx hy hc0 hc]
  rfl
theorem add64_0 (x y : Int) (hx : 0 ≤ x) (hy : 0 ≤ y) (w : World) : (callFunc 108 #[.int .u64 x, .int .u64 y, .int .u64 0]).run Tryd.prog w =
    .ok (.value (.tuple #[.int .u64 ((x + y) % 18446744073709551616), .int .u64 ((x + y) / 18446744073709551616)])) w := by
  simpa using add64 x y 0 hx hy (Int.le_refl 0) (by decide) w
theorem ret_w {h l h' l' : Int} (e1 : h = h') (e2 : l = l') : Ending.returned (.agg #[.int .u64 h, .int .u64 l]) = .returned (.agg #[.int .u64 h', .int .u64 l']) := by rw [e1, e2]

theorem sgn_lt {z : Int} : (sgn z < 0) ↔ z < 0 := by unfold sgn; split <;> (try split) <;> omega
theorem size_neg {z : Int} (h : z < 0) : -z = (z.natAbs : Int) := by omega
theorem size_pos {z : Int} (h : ¬ z < 0) : z = (z.natAbs : Int) := by omega

end Go.Proofs.YtcghjjfpjiacfaaDoor
