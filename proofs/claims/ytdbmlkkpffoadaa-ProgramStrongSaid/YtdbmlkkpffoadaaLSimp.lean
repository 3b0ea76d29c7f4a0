/- Layer 4: a column is made simple. -/
import Derived.Test.YtdbmlkkpffoadaaLBase
import Derived.Test.YtdbmlkkpffoadaaLExch
import Derived.Deep.AppendLies
namespace Go.Proofs.Ytdbmlkkpffoadaa
set_option linter.unusedVariables false
open Go.RowKit Go.Shelf

/-- The rows while a column is made simple: those before i are done, of the row i the numbers before j. -/
def mixE (k i j : Nat) (P E : Nat → Nat → Int) : Nat → Nat → Int := fun r s => if r ≠ k ∧ (r < i ∨ (r = i ∧ s < j)) then P r s else E r s
theorem mix_zero (k : Nat) (P E : Nat → Nat → Int) : mixE k 0 0 P E = E := by
  funext r s; unfold mixE; rw [if_neg (by omega)]
theorem mix_at (k i j s : Nat) (P E : Nat → Nat → Int) (h : j ≤ s) : mixE k i j P E i s = E i s := by
  unfold mixE; rw [if_neg (by omega)]
theorem mix_own (k i j s : Nat) (P E : Nat → Nat → Int) : mixE k i j P E k s = E k s := by
  unfold mixE; rw [if_neg (by omega)]
theorem mix_set (k i j : Nat) (P E : Nat → Nat → Int) (h : i ≠ k) : setE (mixE k i j P E) i j (P i j) = mixE k i (j + 1) P E := by
  funext r s
  unfold setE mixE
  by_cases e : r = i ∧ s = j
  · obtain ⟨rfl, rfl⟩ := e
    rw [if_pos ⟨rfl, rfl⟩, if_pos (by omega)]
  · rw [if_neg e]
    by_cases g : r ≠ k ∧ (r < i ∨ (r = i ∧ s < j))
    · rw [if_pos g, if_pos (by omega)]
    · rw [if_neg g, if_neg (by omega)]
theorem mix_row (k i n r s : Nat) (P E : Nat → Nat → Int) (hs : s < n) : mixE k (i + 1) 0 P E r s = mixE k i n P E r s := by
  unfold mixE
  by_cases g : r ≠ k ∧ (r < i ∨ (r = i ∧ s < n))
  · rw [if_pos g, if_pos (by omega)]
  · rw [if_neg g, if_neg (by omega)]
theorem mix_skip (k : Nat) (P E : Nat → Nat → Int) : mixE k (k + 1) 0 P E = mixE k k 0 P E := by
  funext r s; unfold mixE
  by_cases g : r ≠ k ∧ (r < k ∨ (r = k ∧ s < 0))
  · rw [if_pos g, if_pos (by omega)]
  · rw [if_neg g, if_neg (by omega)]
theorem mix_end (k R r s : Nat) (P E : Nat → Nat → Int) (h : P k s = E k s) (hr : r < R) : P r s = mixE k R 0 P E r s := by
  unfold mixE
  by_cases e : r = k
  · subst e; rw [if_neg (by omega), h]
  · rw [if_pos (by omega)]

structure SmpR (eb b xb k i j c n : Nat) (G C : Nat → Nat) (va vb vd f D r : Int) (Wc : World) (L : Nat → Bool) (v : Nat → Value) (W : World) : Prop where
  st : L 21 = false → Below Wc.heap.size Wc W
  s1 : Had L 21 (∃ W2, Below Wc.heap.size Wc W2 ∧ W = W2.setCell ⟨G i, j, none⟩ (.int .i64 r))
  w4 : Had L 4 (∀ j ∈ [2, 3], L j = true)
  w5 : Had L 5 (∀ j ∈ [4], L j = true)
  w8 : Had L 8 (∀ j ∈ [6, 7], L j = true)
  w9 : Had L 9 (∀ j ∈ [8], L j = true)
  w13 : Had L 13 (∀ j ∈ [11, 12], L j = true)
  w14 : Had L 14 (∀ j ∈ [13], L j = true)
  w16 : Had L 16 (∀ j ∈ [15], L j = true)
  w17 : Had L 17 (∀ j ∈ [16], L j = true)
  w18 : Had L 18 (∀ j ∈ [17], L j = true)
  w19 : Had L 19 (∀ j ∈ [5, 9, 10, 14, 18], L j = true)
  w20 : Had L 20 (∀ j ∈ [0, 1], L j = true)
  w21 : Had L 21 (∀ j ∈ [0, 1, 2, 3, 4, 5, 6, 7, 8, 9, 10, 11, 12, 13, 14, 15, 16, 17, 18, 19, 20], L j = true)
  f0 : Had L 0 (v 63 = .slice (some ⟨G i, 0, none⟩) (n) (C i))
  f1 : Had L 1 (v 64 = .int .i64 (j : Int))
  f2 : Had L 2 (v 65 = .slice (some ⟨G k, 0, none⟩) (n) (C k))
  f3 : Had L 3 (v 66 = .int .i64 (c : Int))
  f4 : Had L 4 (v 67 = .pointer (some ⟨G k, c, none⟩))
  f5 : Had L 5 (v 68 = .int .i64 va)
  f6 : Had L 6 (v 69 = .slice (some ⟨G i, 0, none⟩) (n) (C i))
  f7 : Had L 7 (v 70 = .int .i64 (j : Int))
  f8 : Had L 8 (v 71 = .pointer (some ⟨G i, j, none⟩))
  f9 : Had L 9 (v 72 = .int .i64 vb)
  f10 : Had L 10 (v 73 = .int .i64 f)
  f11 : Had L 11 (v 74 = .slice (some ⟨G k, 0, none⟩) (n) (C k))
  f12 : Had L 12 (v 75 = .int .i64 (j : Int))
  f13 : Had L 13 (v 76 = .pointer (some ⟨G k, j, none⟩))
  f14 : Had L 14 (v 77 = .int .i64 vd)
  f15 : Had L 15 (v 78 = .pointer (some ⟨eb, 0, none⟩))
  f16 : Had L 16 (v 79 = .pointer (some ⟨eb, 0, none⟩))
  f17 : Had L 17 (v 80 = .pointer (some ⟨eb, 2, none⟩))
  f18 : Had L 18 (v 81 = .int .i64 D)
  f19 : Had L 19 (v 82 = .int .i64 r)
  f20 : Had L 20 (v 83 = .pointer (some ⟨G i, j, none⟩))

structure PvtR (B0 eb xb k c pc : Nat) (pa : Option Addr) (p : Nat → Nat) (Wc : World) (L : Nat → Bool) (v : Nat → Value) (W : World) : Prop where
  st : L 7 = false → Below Wc.heap.size Wc W
  xB : Had L 6 (L 7 = false → ∃ B, v 92 = .slice (some ⟨B, 0, none⟩) 1 1 ∧ W.cell? ⟨B, 0, none⟩ = some (.int .i64 (c : Int)))
  xA : Had L 7 (L 10 = false → AppW Wc W B0 3 (.slice pa k pc) k (((List.range k).map fun l => Value.int .i64 (p l)) ++ [Value.int .i64 (c : Nat)]) (v 93))
  s1 : Had L 10 (∃ W2 z, AppW Wc W2 B0 3 (.slice pa k pc) k (((List.range k).map fun l => Value.int .i64 (p l)) ++ [Value.int .i64 (c : Nat)]) z ∧ W = W2.setCell ⟨eb, 1, none⟩ z)
  w2 : Had L 2 (∀ j ∈ [1], L j = true)
  w3 : Had L 3 (∀ j ∈ [2], L j = true)
  w4 : Had L 4 (∀ j ∈ [3], L j = true)
  w6 : Had L 6 (∀ j ∈ [5], L j = true)
  w7 : Had L 7 (∀ j ∈ [4, 6], L j = true)
  w8 : Had L 8 (∀ j ∈ [0], L j = true)
  w9 : Had L 9 (∀ j ∈ [8], L j = true)
  w10 : Had L 10 (∀ j ∈ [0, 1, 2, 3, 4, 5, 6, 7, 9], L j = true)
  f0 : Had L 0 (v 86 = .pointer (some ⟨eb, 0, none⟩))
  f1 : Had L 1 (v 87 = .pointer (some ⟨eb, 0, none⟩))
  f2 : Had L 2 (v 88 = .pointer (some ⟨eb, 0, none⟩))
  f3 : Had L 3 (v 89 = .pointer (some ⟨eb, 1, none⟩))
  f4 : Had L 4 (v 90 = .slice pa k pc)
  f5 : Had L 5 (v 91 = .int .i64 (c : Int))
  f8 : Had L 8 (v 94 = .pointer (some ⟨eb, 0, none⟩))
  f9 : Had L 9 (v 95 = .pointer (some ⟨eb, 1, none⟩))

theorem one_news {W : World} {B : Nat} {x : Value} (h : W.cell? ⟨B, 0, none⟩ = some x) : ∀ j u, [x][j]? = some u → W.cell? ((⟨B, 0, none⟩ : Addr).add j) = some u := fun j u hu => by
  cases j with
  | zero =>
    simp at hu
    subst hu
    exact h
  | succ j => simp at hu

end Go.Proofs.Ytdbmlkkpffoadaa
