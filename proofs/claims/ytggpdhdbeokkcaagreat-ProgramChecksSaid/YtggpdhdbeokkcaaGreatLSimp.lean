/- Layer 4: a column is made simple. -/
import Derived.Test.YtggpdhdbeokkcaaGreatLBase
import Derived.Test.YtggpdhdbeokkcaaGreatLExch
import Derived.Deep.AppendLies
namespace Go.Proofs.YtggpdhdbeokkcaaGreat
set_option linter.unusedVariables false
open Go.RowKit Go.Shelf

/-- The rows while a column is made simple: those before i are done, of the row i the numbers before j. -/
def mixE (k i j : Nat) (P E : Nat → Nat → Int) : Nat → Nat → Int := fun r s => if r ≠ k ∧ (r < i ∨ (r = i ∧ s < j)) then P r s else E r s
theorem mix_zero (k : Nat) (P E : Nat → Nat → Int) : mixE k 0 0 P E = E := by
 funext r s; unfold mixE; rw [if_neg (by omega)]
theorem mix_at (k i j s : Nat) (P E : Nat → Nat → Int) (h : j ≤ s) : mixE k i j P E i s = E i s := by
 unfold mixE; rw [if_neg (by omega)]
theorem mix_own (k i j s : Nat) (P E : Nat → Nat → Int) : mixE k i j P E k s = E k s := by
 unfold mixE; rw [if_neg (by omega)]
theorem mix_set (k i j : Nat) (P E : Nat → Nat → Int) (h : i ≠ k) : setE (mixE k i j P E) i j (P i j) = mixE k i (j + 1) P E := by
 funext r s
 unfold setE mixE
 by_cases e : r = i ∧ s = j
 ·obtain ⟨rfl, rfl⟩ := e
  rw [if_pos ⟨rfl, rfl⟩, if_pos (by omega)]
 ·rw [if_neg e]
  by_cases g : r ≠ k ∧ (r < i ∨ (r = i ∧ s < j))
  ·rw [if_pos g, if_pos (by omega)]
  ·rw [if_neg g, if_neg (by omega)]
theorem mix_row (k i n r s : Nat) (P E : Nat → Nat → Int) (hs : s < n) : mixE k (i + 1) 0 P E r s = mixE k i n P E r s := by
 unfold mixE
 by_cases g : r ≠ k ∧ (r < i ∨ (r = i ∧ s < n))
 ·rw [if_pos g, if_pos (by omega)]
 ·rw [if_neg g, if_neg (by omega)]
theorem mix_skip (k : Nat) (P E : Nat → Nat → Int) : mixE k (k + 1) 0 P E = mixE k k 0 P E := by
 funext r s; unfold mixE
 by_cases g : r ≠ k ∧ (r < k ∨ (r = k ∧ s < 0))
 ·rw [if_pos g, if_pos (by omega)]
 ·rw [if_neg g, if_neg (by omega)]
theorem mix_end (k R r s : Nat) (P E : Nat → Nat → Int) (h : P k s = E k s) (hr : r < R) : P r s = mixE k R 0 P E r s := by
 unfold mixE
 by_cases e : r = k
 ·subst e; rw [if_neg (by omega), h]
 ·rw [if_pos (by omega)]

theorem one_news {W : World} {B : Nat} {x : Value} (h : W.cell? ⟨B, 0, none⟩ = some x) : ∀ j u, [x][j]? = some u → W.cell? ((⟨B, 0, none⟩ : Addr).add j) = some u := fun j u hu => by
 cases j with
 | zero =>
  simp at hu
  subst hu
  exact h
 | succ j => simp at hu

end Go.Proofs.YtggpdhdbeokkcaaGreat
