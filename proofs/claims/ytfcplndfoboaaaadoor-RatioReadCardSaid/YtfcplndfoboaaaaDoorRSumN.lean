/- Layer 2: the sums of an empty list, whatever its address. -/
import Derived.Test.YtfcplndfoboaaaaDoorRSumF
namespace Go.Proofs.YtfcplndfoboaaaaDoor
set_option linter.unusedVariables false
open Go.RowKit Go.Shelf

set_option maxRecDepth 100000 in
set_option maxHeartbeats 2000000 in
theorem refAll_nil (ao : Option Addr) (cp : Nat) (w : World) :
    Calls Tryd.prog 7 #[.slice ao 0 cp] w fun e w' => e = .returned (.bool true) ∧ Below w.heap.size w w' := by
  go_enter Tryd.func7, Tryd.ntmps7
  go_wp2
  go_loop [3] (fun s3 => s3 = .int .i64 0) (fun _ => 0)
  case atStart => rfl
  case round =>
    obtain rfl := hrel
    go_wp2_with fail
    go_ret
    exact ⟨rfl, Below.refl _ _⟩

set_option maxRecDepth 100000 in
set_option maxHeartbeats 2000000 in
theorem refSum_nil (ao : Option Addr) (cp : Nat) (w : World) :
    Calls Tryd.prog 9 #[.slice ao 0 cp] w fun r w' => r = .returned (.tuple #[.agg #[.int .i64 0, .int .i64 1], .int .i64 0]) ∧ Below w.heap.size w w' := by
  have CO := fun w => Lib.hid (refOf_any 0 w)
  go_enter Tryd.func9, Tryd.ntmps9
  go_wp2_with fail
  (with_reducible refine ((CO _).out).mono ?_)
  rintro e y1 ⟨rfl, hb1⟩
  have K1 : Hid (Blk y1 w.heap.size (.int .i64 0) (.int .i64 0)) := Blk.on (Blk.new w _ _ 24) hb1
  have K2 : Hid (Frz y1 w.heap.size) := Frz.on (Frz.new w (.int .i64 0) (.int .i64 0) 24) (by simp) hb1
  have K3 := Lib.hid (below_on (w := w) (by repeat' (first | (with_reducible exact Below.refl _ _) | (with_reducible assumption) | (with_reducible refine Below.alloc ?_ ?_ _) | (with_reducible refine below_drew ?_ _) | (with_reducible refine Below.drew ?_) | (with_reducible refine Below.setCell ?_ ?_ _) | go_size)) hb1)
  clear hb1 CO
  obtain ⟨m1, p0, p1⟩ := K1.out
  obtain ⟨f0, f1⟩ := K2.out
  go_wp2_with fail
  go_loop [5] (fun s5 => s5 = .int .i64 0) (fun _ => 0)
  case atStart => rfl
  case round =>
    obtain rfl := hrel
    go_wp2_with fail
    obtain ⟨_, r8, r9⟩ := (Blk.set (x := .int .i64 0) (y := .int .i64 1) K1.out).alloc (Obj.cells #[Value.int IntKind.i64 0, Value.int IntKind.i64 1] 24)
    refine bodyPost_ret (by simp [results, Tryd.results9, go_sem, r8, r9]; try rfl) rfl ?_
    have B := K3.out
    exact ⟨rfl, (by repeat' (first | (with_reducible exact Below.refl _ _) | (with_reducible assumption) | (with_reducible refine Below.alloc ?_ ?_ _) | (with_reducible refine below_drew ?_ _) | (with_reducible refine Below.drew ?_) | (with_reducible refine Below.setCell ?_ ?_ _) | go_size))⟩

set_option maxRecDepth 100000 in
set_option maxHeartbeats 2000000 in
theorem Sum_nil (ao : Option Addr) (cp : Nat) (w : World) :
    Calls Tryd.prog 6 #[.slice ao 0 cp] w fun r w' => r = .returned (.tuple #[.agg #[.int .i64 0, .int .i64 1], .int .i64 0]) ∧ Below w.heap.size w w' := by
  go_enter Tryd.func6, Tryd.ntmps6
  go_wp2
  go_loop [13] (fun s13 => s13 = .int .i64 0) (fun _ => 0)
  case atStart => rfl
  case round =>
    obtain rfl := hrel
    go_wp2_with fail
    go_loop [29] (fun s29 => s29 = .int .i64 0) (fun _ => 0)
    case atStart => rfl
    case round =>
      obtain rfl := hrel
      go_wp2_with fail
      refine bodyPost_ret (by simp [results, Tryd.results6, go_sem]; try rfl) rfl ?_
      exact ⟨rfl, (by repeat' (first | (with_reducible exact Below.refl _ _) | (with_reducible assumption) | (with_reducible refine Below.alloc ?_ ?_ _) | (with_reducible refine below_drew ?_ _) | (with_reducible refine Below.drew ?_) | (with_reducible refine Below.setCell ?_ ?_ _) | go_size))⟩

end Go.Proofs.YtfcplndfoboaaaaDoor
