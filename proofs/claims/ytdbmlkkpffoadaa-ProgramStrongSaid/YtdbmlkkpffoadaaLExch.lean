/- Layer 4: two rows are exchanged, one with the other sign. -/
import Derived.Test.YtdbmlkkpffoadaaLBase
import Derived.Test.YtdbmlkkpffoadaaREach
namespace Go.Proofs.Ytdbmlkkpffoadaa
set_option linter.unusedVariables false
open Go.RowKit Go.Shelf

structure XchR (eb b R n Cb k a : Nat) (G C : Nat → Nat) (Wc : World) (L : Nat → Bool) (v : Nat → Value) (W : World) : Prop where
  st : L 25 = false → Below Wc.heap.size Wc W
  s1 : Had L 25 (L 27 = false → ∃ W2, Below Wc.heap.size Wc W2 ∧ W = W2.setCell ⟨b, k, none⟩ (.slice (some ⟨G a, 0, none⟩) n (C a)))
  s2 : Had L 27 (∃ W2, Below Wc.heap.size Wc W2 ∧ W = (W2.setCell ⟨b, k, none⟩ (.slice (some ⟨G a, 0, none⟩) n (C a))).setCell ⟨b, a, none⟩ (.slice (some ⟨G k, 0, none⟩) n (C k)))
  w1 : Had L 1 (∀ j ∈ [0], L j = true)
  w2 : Had L 2 (∀ j ∈ [1], L j = true)
  w3 : Had L 3 (∀ j ∈ [2], L j = true)
  w6 : Had L 6 (∀ j ∈ [5], L j = true)
  w7 : Had L 7 (∀ j ∈ [6], L j = true)
  w8 : Had L 8 (∀ j ∈ [7], L j = true)
  w11 : Had L 11 (∀ j ∈ [10], L j = true)
  w12 : Had L 12 (∀ j ∈ [11], L j = true)
  w13 : Had L 13 (∀ j ∈ [12], L j = true)
  w15 : Had L 15 (∀ j ∈ [13, 14], L j = true)
  w16 : Had L 16 (∀ j ∈ [15], L j = true)
  w18 : Had L 18 (∀ j ∈ [17], L j = true)
  w19 : Had L 19 (∀ j ∈ [18], L j = true)
  w20 : Had L 20 (∀ j ∈ [19], L j = true)
  w22 : Had L 22 (∀ j ∈ [20, 21], L j = true)
  w23 : Had L 23 (∀ j ∈ [22], L j = true)
  w24 : Had L 24 (∀ j ∈ [3, 4], L j = true)
  w25 : Had L 25 (∀ j ∈ [0, 1, 2, 3, 4, 8, 10, 11, 12, 13, 14, 15, 16, 20, 23, 24], L j = true)
  w26 : Had L 26 (∀ j ∈ [0, 1, 2, 3, 4, 5, 6, 7, 8, 9, 10, 11, 12, 13, 14, 15, 16, 17, 18, 19, 20, 21, 22, 23, 24, 25], L j = true)
  w27 : Had L 27 (∀ j ∈ [0, 1, 2, 3, 4, 5, 6, 7, 8, 9, 10, 11, 12, 13, 14, 15, 16, 17, 18, 19, 20, 21, 22, 23, 24, 25, 26], L j = true)
  f0 : Had L 0 (v 8 = .pointer (some ⟨eb, 0, none⟩))
  f1 : Had L 1 (v 9 = .pointer (some ⟨eb, 0, none⟩))
  f2 : Had L 2 (v 10 = .pointer (some ⟨eb, 0, none⟩))
  f3 : Had L 3 (v 11 = .slice (some ⟨b, 0, none⟩) R Cb)
  f4 : Had L 4 (v 12 = .int .i64 (k : Int))
  f5 : Had L 5 (v 13 = .pointer (some ⟨eb, 0, none⟩))
  f6 : Had L 6 (v 14 = .pointer (some ⟨eb, 0, none⟩))
  f7 : Had L 7 (v 15 = .pointer (some ⟨eb, 0, none⟩))
  f8 : Had L 8 (v 16 = .slice (some ⟨b, 0, none⟩) R Cb)
  f9 : Had L 9 (v 17 = .int .i64 (a : Int))
  f10 : Had L 10 (v 18 = .pointer (some ⟨eb, 0, none⟩))
  f11 : Had L 11 (v 19 = .pointer (some ⟨eb, 0, none⟩))
  f12 : Had L 12 (v 20 = .pointer (some ⟨eb, 0, none⟩))
  f13 : Had L 13 (v 21 = .slice (some ⟨b, 0, none⟩) R Cb)
  f14 : Had L 14 (v 22 = .int .i64 (a : Int))
  f15 : Had L 15 (v 23 = .pointer (some ⟨b, a, none⟩))
  f16 : Had L 16 (v 24 = .slice (some ⟨G a, 0, none⟩) n (C a))
  f17 : Had L 17 (v 25 = .pointer (some ⟨eb, 0, none⟩))
  f18 : Had L 18 (v 26 = .pointer (some ⟨eb, 0, none⟩))
  f19 : Had L 19 (v 27 = .pointer (some ⟨eb, 0, none⟩))
  f20 : Had L 20 (v 28 = .slice (some ⟨b, 0, none⟩) R Cb)
  f21 : Had L 21 (v 29 = .int .i64 (k : Int))
  f22 : Had L 22 (v 30 = .pointer (some ⟨b, k, none⟩))
  f23 : Had L 23 (v 31 = .slice (some ⟨G k, 0, none⟩) n (C k))
  f24 : Had L 24 (v 32 = .pointer (some ⟨b, k, none⟩))
  f26 : Had L 26 (v 33 = .pointer (some ⟨b, a, none⟩))

/-- The rows behind an exchange, the first i numbers of the row a negated. -/
def negE (a i : Nat) (E : Nat → Nat → Int) : Nat → Nat → Int := fun r j => if r = a ∧ j < i then - E r j else E r j
theorem negE_zero (a : Nat) (E : Nat → Nat → Int) : negE a 0 E = E := by funext r j; unfold negE; rw [if_neg (by omega)]
theorem negE_succ (a i : Nat) (E : Nat → Nat → Int) : setE (negE a i E) a i (- E a i) = negE a (i + 1) E := by
  funext r j
  unfold setE negE
  by_cases h : r = a ∧ j = i
  · obtain ⟨rfl, rfl⟩ := h
    rw [if_pos ⟨rfl, rfl⟩, if_pos ⟨rfl, by omega⟩]
  · rw [if_neg h]
    by_cases g : r = a ∧ j < i
    · rw [if_pos g, if_pos ⟨g.1, by omega⟩]
    · rw [if_neg g, if_neg (fun q => h ⟨q.1, by have := q.2; by_cases e : j = i; exact e; exact absurd ⟨q.1, by omega⟩ g⟩)]
theorem negE_ex (k a n : Nat) (hk : k < a) (E : Nat → Nat → Int) (i j : Nat) (hj : j < n) : exU k a E i j = negE a n (swE k a E) i j := by
  unfold exU negE swE
  by_cases h : i = k
  · rw [if_pos h, if_neg (by omega), if_pos h]
  · rw [if_neg h]
    by_cases g : i = a
    · subst g
      simp [h, hj]
    · rw [if_neg g, if_neg (by omega), if_neg h, if_neg g]

end Go.Proofs.Ytdbmlkkpffoadaa
