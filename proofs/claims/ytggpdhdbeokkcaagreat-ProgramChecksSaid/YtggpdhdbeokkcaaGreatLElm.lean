/- Layer 4: the elimination of a matrix. -/
import Derived.Test.YtggpdhdbeokkcaaGreatLSimp
namespace Go.Proofs.YtggpdhdbeokkcaaGreat
set_option linter.unusedVariables false
open Go.RowKit Go.Shelf

/-- A row of integers in a block of its own. -/
structure NRow (lo n : Nat) (W : World) (g cp : Nat) (f : Nat → Int) : Prop where
 lo : lo ≤ g
 hb : g < W.heap.size
 cap : n ≤ cp
 cell : ∀ j, j < n → W.cell? ⟨g, j, none⟩ = some (.int .i64 (f j))
 fz : ∀ j, j < n → W.frozen? ⟨g, j, none⟩ = false
theorem NRow.on {lo n : Nat} {W W2 : World} {g cp : Nat} {f : Nat → Int} (h : NRow lo n W g cp f) (hb : Below W.heap.size W W2) : NRow lo n W2 g cp f :=
 ⟨h.lo, Nat.lt_of_lt_of_le h.hb hb.size, h.cap, fun j hj => (hb.cell (p := ⟨g, j, none⟩) h.hb).trans (h.cell j hj), fun j hj => (hb.frozen (p := ⟨g, j, none⟩) h.hb).trans (h.fz j hj)⟩
theorem NRow.only {S : Nat → Prop} {lo n : Nat} {W W2 : World} {g cp : Nat} {f : Nat → Int} (h : NRow lo n W g cp f) (hb : Only S W W2) (hn : ¬ S g) : NRow lo n W2 g cp f :=
 ⟨h.lo, Nat.lt_of_lt_of_le h.hb hb.size, h.cap, fun j hj => (hb.cell (p := ⟨g, j, none⟩) h.hb hn).trans (h.cell j hj), fun j hj => (hb.frozen (p := ⟨g, j, none⟩) h.hb hn).trans (h.fz j hj)⟩
theorem NRow.mono {lo lo2 n : Nat} {W : World} {g cp : Nat} {f : Nat → Int} (h : NRow lo n W g cp f) (hl : lo2 ≤ lo) : NRow lo2 n W g cp f := ⟨Nat.le_trans hl h.lo, h.hb, h.cap, h.cell, h.fz⟩

theorem own_nrow {W : World} {base n : Nat} {v : Value} {f : Nat → Int} (h : W.ownsRow base 3 1 v n ((List.range n).map fun j => Value.int .i64 (f j))) (hn : 0 < n) : ∃ g cp, v = .slice (some ⟨g, 0, none⟩) n cp ∧ NRow base n W g cp f := by
 have h2 := h
 rcases h.2 with ⟨_, h0⟩ | ⟨g, cap, cur, hv, hb, hg, hc, _⟩
 ·omega
 ·refine ⟨g, cap, hv, hb, (Array.getElem?_eq_some_iff.1 hg).1, hc, fun j hj => ?_, fun j hj => own_frozen h2 (by rw [hv]; rfl) j⟩
  have := h2.cells (g := g) (by rw [hv]; rfl) j (.int .i64 (f j)) (by simp [hj])
  rwa [show (⟨g, 0, none⟩ : Addr).add j = ⟨g, j, none⟩ by unfold Addr.add; split <;> simp_all] at this

def updN (G : Nat → Nat) (i g : Nat) : Nat → Nat := fun l => if l = i then g else G l

theorem row_list (n i g cp : Nat) (G C : Nat → Nat) : ((List.range (i + 1)).map fun l => Value.slice (some ⟨updN G i g l, 0, none⟩) n (updN C i cp l)) = ((List.range i).map fun l => Value.slice (some ⟨G l, 0, none⟩) n (C l)) ++ [Value.slice (some ⟨g, 0, none⟩) n cp] := by
 rw [List.range_succ, List.map_append]
 congr 1
 ·apply List.map_congr_left
  intro l hl
  have : l < i := by simpa using hl
  unfold updN
  rw [if_neg (by omega), if_neg (by omega)]
 ·simp [updN]
end Go.Proofs.YtggpdhdbeokkcaaGreat
