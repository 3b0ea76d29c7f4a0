/- The reference of layer 2: products and quotients. -/
import Derived.Test.YtfcplndfoboaaaaDoorRRef10
namespace Go.Proofs.YtfcplndfoboaaaaDoor
set_option linter.unusedVariables false
open Go.RowKit Go.Shelf

theorem made_any (N D : Int) (neg : Bool) (w : World) (N0 : 0 ≤ N) (N1 : N < 340282366920938463463374607431768211456) (D0 : 0 ≤ D) (D1 : D < 340282366920938463463374607431768211456) (n d er : Int) (h : madeT N neg D = (n, d, er)) :
    Calls Tryd.prog 42 #[.agg #[.int .u64 (hiW (N)), .int .u64 (loW (N))], .bool neg, .agg #[.int .u64 (hiW (D)), .int .u64 (loW (D))]] w fun e w' => e = .returned (.tuple #[.agg #[.int .i64 n, .int .i64 d], .int .i64 er]) ∧ Below w.heap.size w w' := by
  by_cases hz : D = 0
  · subst hz
    unfold madeT at h
    rw [if_pos rfl] at h
    obtain ⟨e1, e2, e3⟩ := three h
    subst e1 e2 e3
    exact made_zero N neg w
  · exact made_pos N D neg w N0 N1 (by omega) D1 n d er h

end Go.Proofs.YtfcplndfoboaaaaDoor
