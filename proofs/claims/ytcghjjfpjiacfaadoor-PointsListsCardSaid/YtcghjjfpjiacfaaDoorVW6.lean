/- Layer 9: points between. -/
import Derived.Test.YtcghjjfpjiacfaaDoorVW5
namespace Go.Proofs.YtcghjjfpjiacfaaDoor
open Go.ChangeShapes Go.WideShapes Go.ChangeAt Go.RowKit Go.Joins Go.Deep Go.Shelf
set_option linter.unusedVariables false

/-- A coordinate between two. -/
def btI (f t num den : Int) : Int := f + num * (t - f) / den
def btP (a b : Pt) (num den : Int) : Pt := ⟨btI a.x b.x num den, btI a.y b.y num den, btI a.z b.z num den⟩
theorem bt_bd {f t num den : Int} (f0 : -1048576 ≤ f) (f1 : f ≤ 1048576) (t0 : -1048576 ≤ t) (t1 : t ≤ 1048576) (n0 : 0 ≤ num) (n1 : num ≤ den) (d0 : 1 ≤ den) (d1 : den ≤ 1000) :
    -2097152000 ≤ num * (t - f) ∧ num * (t - f) ≤ 2097152000 ∧ -2097152000 ≤ num * (t - f) / den ∧ num * (t - f) / den ≤ 2097152000 := by
  have h : (num * (t - f)).natAbs ≤ 1000 * 2097152 := by rw [Int.natAbs_mul]; exact Nat.mul_le_mul (by omega) (by omega)
  obtain ⟨m, hm⟩ : ∃ m, num * (t - f) = m := ⟨_, rfl⟩
  rw [hm] at h
  rw [hm]
  have h2 := fl_div m den (by omega)
  have h3 := fl_bd m den
  have h4 := Int.mul_ediv_self_le (x := m) (k := den) (by omega)
  have h5 := Int.lt_mul_ediv_self_add (x := m) (k := den) (by omega)
  refine ⟨by omega, by omega, ?_, ?_⟩
  · refine (Int.le_ediv_iff_mul_le (by omega)).2 ?_
    omega
  · rw [h2]; split <;> omega
theorem five_boxes (w : World) (a b : Pt) (n d : Int) (t1 t2 t3 t4 t5 : TypeId) (W : World) (h : W = ((((w.alloc (Obj.cells #[.int .i64 a.x, .int .i64 a.y, .int .i64 a.z] t1)).alloc (Obj.cells #[.int .i64 b.x, .int .i64 b.y, .int .i64 b.z] t2)).alloc (Obj.cells #[.int .i64 n] t3)).alloc (Obj.cells #[.int .i64 d] t4)).alloc (Obj.cells #[.int .i64 0, .int .i64 0, .int .i64 0] t5)) :
    Below w.heap.size w W ∧ B3 W w.heap.size a.x a.y a.z ∧ B3 W (w.heap.size + 1) b.x b.y b.z ∧ (w.heap.size + 2 < W.heap.size ∧ W.cell? ⟨w.heap.size + 2, 0, none⟩ = some (.int .i64 n)) ∧ (w.heap.size + 3 < W.heap.size ∧ W.cell? ⟨w.heap.size + 3, 0, none⟩ = some (.int .i64 d)) ∧ B3 W (w.heap.size + 4) 0 0 0 := by
  obtain ⟨h1, h2, h3⟩ := two_boxes w a b t1 t2 _ rfl
  obtain ⟨w2, hw2⟩ : ∃ W, W = (w.alloc (Obj.cells #[.int .i64 a.x, .int .i64 a.y, .int .i64 a.z] t1)).alloc (Obj.cells #[.int .i64 b.x, .int .i64 b.y, .int .i64 b.z] t2) := ⟨_, rfl⟩
  rw [← hw2] at h h1 h2 h3
  have hs : w2.heap.size = w.heap.size + 2 := by rw [hw2, World.size_alloc, World.size_alloc]
  clear hw2
  have e1 : (w2.alloc (Obj.cells #[.int .i64 n] t3)).cell? ⟨w.heap.size + 2, 0, none⟩ = some (.int .i64 n) := by rw [← hs]; simp [go_sem]
  obtain ⟨w3, hw3⟩ : ∃ W, W = w2.alloc (Obj.cells #[.int .i64 n] t3) := ⟨_, rfl⟩
  have b3 : Below w2.heap.size w2 w3 := by rw [hw3]; exact below_alloc _ _
  have hs3 : w3.heap.size = w.heap.size + 3 := by rw [hw3, World.size_alloc, hs]
  rw [← hw3] at h e1
  clear hw3
  have e2 : (w3.alloc (Obj.cells #[.int .i64 d] t4)).cell? ⟨w.heap.size + 3, 0, none⟩ = some (.int .i64 d) := by rw [← hs3]; simp [go_sem]
  obtain ⟨w4, hw4⟩ : ∃ W, W = w3.alloc (Obj.cells #[.int .i64 d] t4) := ⟨_, rfl⟩
  have b4 : Below w3.heap.size w3 w4 := by rw [hw4]; exact below_alloc _ _
  have hs4 : w4.heap.size = w.heap.size + 4 := by rw [hw4, World.size_alloc, hs3]
  rw [← hw4] at h e2
  clear hw4
  have b5 : Below w4.heap.size w4 W := by rw [h]; exact below_alloc _ _
  have hs5 : W.heap.size = w.heap.size + 5 := by rw [h, World.size_alloc, hs4]
  refine ⟨below_on (below_on (below_on h1 b3) b4) b5, ((h2.on b3).on b4).on b5, ((h3.on b3).on b4).on b5, ⟨by omega, ?_⟩, ⟨by omega, ?_⟩, ?_⟩
  · rw [b5.cell (p := ⟨w.heap.size + 2, 0, none⟩) (show w.heap.size + 2 < w4.heap.size by omega), b4.cell (p := ⟨w.heap.size + 2, 0, none⟩) (show w.heap.size + 2 < w3.heap.size by omega)]
    exact e1
  · rw [b5.cell (p := ⟨w.heap.size + 3, 0, none⟩) (show w.heap.size + 3 < w4.heap.size by omega)]
    exact e2
  · have := B3.new w4 0 0 0 t5
    rw [← h, hs4] at this
    exact this

/-- What Between returns. -/
def btT (a b : Pt) (num den : Int) : Pt × Int := if a.ok ∧ b.ok then (if den < 1 ∨ 1000 < den ∨ num < 0 ∨ den < num then (⟨0, 0, 0⟩, 2) else (btP a b num den, 0)) else (⟨0, 0, 0⟩, 1)
end Go.Proofs.YtcghjjfpjiacfaaDoor
