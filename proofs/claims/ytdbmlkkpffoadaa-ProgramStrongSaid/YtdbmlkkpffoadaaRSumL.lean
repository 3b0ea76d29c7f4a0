/- Layer 2: lists of fractions, and their sums: what they come to, and the reference's All. -/
import Derived.Test.YtdbmlkkpffoadaaROps
import Derived.Test.YtdbmlkkpffoadaaRRef9
import Derived.Test.YtdbmlkkpffoadaaRLawStore
namespace Go.Proofs.Ytdbmlkkpffoadaa
set_option linter.unusedVariables false
open Go.RowKit Go.Shelf

/-- A list of fractions, as it lies in cells. -/
def Frs (W : World) (b o : Nat) (l : List (Int × Int)) : Prop := ∀ k (h : k < l.length), W.cell? ⟨b, o + k * 2, none⟩ = some (.int .i64 l[k].1) ∧ W.cell? ⟨b, o + k * 2 + 1, none⟩ = some (.int .i64 l[k].2)
structure FrI (x : Int × Int) : Prop where
  n0 : -9223372036854775808 ≤ x.1
  n1 : x.1 ≤ 9223372036854775807
  d0 : -9223372036854775808 ≤ x.2
  d1 : x.2 ≤ 9223372036854775807
def allV (l : List (Int × Int)) : Bool := l.all fun x => vB x.1 x.2
theorem allV_cons (x : Int × Int) (r : List (Int × Int)) : allV (x :: r) = (vB x.1 x.2 && allV r) := by simp [allV]
/-- The sum of valid fractions, one after another. -/
def sumT : List (Int × Int) → Int → Int → Int × Int × Int
  | [], n, d => (n, d, 0)
  | x :: r, n, d => if (addT n d x.1 x.2).2.2 = 0 then sumT r (addT n d x.1 x.2).1 (addT n d x.1 x.2).2.1 else (0, 0, (addT n d x.1 x.2).2.2)
theorem Frs.on {W W2 : World} {b o : Nat} {l : List (Int × Int)} (h : Frs W b o l) (hl : b < W.heap.size) (hb : Below W.heap.size W W2) : Frs W2 b o l := fun k hk =>
  ⟨(hb.cell (p := ⟨b, o + k * 2, none⟩) hl).trans (h k hk).1, (hb.cell (p := ⟨b, o + k * 2 + 1, none⟩) hl).trans (h k hk).2⟩

end Go.Proofs.Ytdbmlkkpffoadaa
