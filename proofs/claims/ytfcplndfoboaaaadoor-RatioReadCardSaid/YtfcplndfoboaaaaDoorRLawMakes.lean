/- The walk of the law RatioMakes. -/
import Derived.Test.YtfcplndfoboaaaaDoorRRef8
import Derived.Test.YtfcplndfoboaaaaDoorRRef9
namespace Go.Proofs.YtfcplndfoboaaaaDoor
set_option linter.unusedVariables false
open Go.RowKit Go.Shelf

set_option maxHeartbeats 1000000 in
theorem same_eq (n d e : Int) (w : World) :
    Calls Tryd.prog 8 #[.agg #[.int .i64 n, .int .i64 d], .int .i64 e, .agg #[.int .i64 n, .int .i64 d], .int .i64 e] w fun r w' => r = .returned (.bool true) ∧ Below w.heap.size w w' := by
  go_enter Tryd.func8, Tryd.ntmps8
  go_wp2
  go_ret
  exact ⟨rfl, (by repeat' (first | (with_reducible exact Below.refl _ _) | (with_reducible assumption) | (with_reducible refine Below.alloc ?_ ?_ _) | (with_reducible refine below_drew ?_ _) | (with_reducible refine Below.drew ?_) | (with_reducible refine Below.setCell ?_ ?_ _) | go_size))⟩

def MkSt (w W : World) (n d : Int) : Prop := Blk W w.heap.size (.int .i64 n) (.int .i64 d) ∧ Below w.heap.size w W
theorem MkSt.on {w W W2 : World} {n d : Int} (h : MkSt w W n d) (hb : Below W.heap.size W W2) : MkSt w W2 n d := ⟨h.1.on hb, below_on h.2 hb⟩
theorem MkSt.drew {w W : World} {n d : Int} (h : MkSt w W n d) : MkSt w W.drew n d := h.on (Below.drew (Below.refl _ _))

end Go.Proofs.YtfcplndfoboaaaaDoor
