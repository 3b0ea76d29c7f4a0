/- Layer 7's reference: First. -/
import Derived.Test.YtjonhhmapbibaaaDoorUEar
namespace Go.Proofs.YtjonhhmapbibaaaDoor
open Go.ChangeShapes Go.WideShapes Go.ChangeAt Go.RowKit Go.Joins Go.Deep Go.Shelf
set_option linter.unusedVariables false

def LR (n t : Nat) : List Nat := ixs (bitR t) n
theorem LR_le (n t : Nat) : (LR n t).length ≤ n := by unfold LR ixs; exact Nat.le_trans (List.length_filter_le _ _) (by simp)
/-- A set of the family. -/
def GR (f : Nat → Int) (n : Nat) (sum : Int) (least t : Nat) : Prop := smS (bitR t) f n = sum ∧ least ≤ (LR n t).length
/-- The first one of the sets up to k. -/
def RfI (f : Nat → Int) (n : Nat) (sum : Int) (least k : Nat) (b : Int) : Prop :=
  (b = -1 ∧ ∀ t, t < k → ¬ GR f n sum least t) ∨ (∃ t : Nat, b = (t : Int) ∧ t < k ∧ GR f n sum least t ∧ ∀ t', t' < k → GR f n sum least t' → LR n t' = LR n t ∨ bef (LR n t) (LR n t'))
theorem RfI.skip {f : Nat → Int} {n least k : Nat} {sum b : Int} (h : RfI f n sum least k b) (hn : ¬ GR f n sum least k) : RfI f n sum least (k + 1) b := by
  rcases h with ⟨e, h⟩ | ⟨t, e, h1, h2, h3⟩
  · exact .inl ⟨e, fun t ht => by
      by_cases q : t = k
      · rw [q]; exact hn
      · exact h t (by omega)⟩
  · exact .inr ⟨t, e, by omega, h2, fun t' ht hg => by
      by_cases q : t' = k
      · rw [q] at hg; exact absurd hg hn
      · exact h3 t' (by omega) hg⟩
theorem RfI.stay {f : Nat → Int} {n least k t : Nat} {sum : Int} (h : RfI f n sum least k (t : Int)) (hn : ¬ bef (LR n k) (LR n t)) : RfI f n sum least (k + 1) (t : Int) := by
  rcases h with ⟨e, h⟩ | ⟨t2, e, h1, h2, h3⟩
  · omega
  · have : t2 = t := by omega
    subst this
    exact .inr ⟨t2, rfl, by omega, h2, fun t' ht hg => by
      by_cases q : t' = k
      · rw [q]
        by_cases z : LR n k = LR n t2
        · exact .inl z
        · rcases bef_tot z with y | y
          · exact absurd y hn
          · exact .inr y
      · exact h3 t' (by omega) hg⟩
theorem RfI.take {f : Nat → Int} {n least k : Nat} {sum b : Int} (h : RfI f n sum least k b) (hg : GR f n sum least k) (hb : ∀ t : Nat, b = (t : Int) → bef (LR n k) (LR n t)) : RfI f n sum least (k + 1) (k : Int) := by
  refine .inr ⟨k, rfl, by omega, hg, fun t' ht hg' => ?_⟩
  by_cases q : t' = k
  · exact .inl (by rw [q])
  · rcases h with ⟨e, h⟩ | ⟨t2, e, h1, h2, h3⟩
    · exact absurd hg' (h t' (by omega))
    · have y := hb t2 e
      rcases h3 t' (by omega) hg' with z | z
      · exact .inr (by rw [z]; exact y)
      · exact .inr (bef_trans y z)
theorem RfI.done {f : Nat → Int} {n least : Nat} {sum b : Int} (h : RfI f n sum least (2 ^ n) b) : (b = -1 ∧ ∀ x, ¬ Fam f n sum least x) ∨ (∃ t : Nat, b = (t : Int) ∧ t < 2 ^ n ∧ IsFst (Fam f n sum least) (LR n t)) := by
  have all : ∀ x, Fam f n sum least x → ∃ t, t < 2 ^ n ∧ x = LR n t ∧ GR f n sum least t := fun x ⟨p, hx, hs, hl⟩ => by
    have e : ∀ i, i < n → bitR (ofB p n) i = p i := fun i hi => ofB_bit p n i hi
    have e2 : LR n (ofB p n) = ixs p n := ixs_congr e
    exact ⟨ofB p n, ofB_lt p n, by rw [hx, e2], by rw [smS_congr e]; exact hs, by rw [e2, ← hx]; exact hl⟩
  rcases h with ⟨e, h⟩ | ⟨t, e, h1, h2, h3⟩
  · exact .inl ⟨e, fun x hx => by
      obtain ⟨t, ht, _, hg⟩ := all x hx
      exact h t ht hg⟩
  · refine .inr ⟨t, e, h1, ⟨bitR t, rfl, h2.1, h2.2⟩, fun x hx => ?_⟩
    obtain ⟨t2, ht, rfl, hg⟩ := all x hx
    exact h3 t2 ht hg

end Go.Proofs.YtjonhhmapbibaaaDoor
