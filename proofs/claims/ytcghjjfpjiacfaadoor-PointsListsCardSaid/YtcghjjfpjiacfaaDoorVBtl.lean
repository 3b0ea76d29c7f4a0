/- Layer 9: law PointsBetween. -/
import Derived.Test.YtcghjjfpjiacfaaDoorVLen
namespace Go.Proofs.YtcghjjfpjiacfaaDoor
open Go.ChangeShapes Go.WideShapes Go.ChangeAt Go.RowKit Go.Joins Go.Deep Go.Shelf
set_option linter.unusedVariables false

structure T3S (w W : World) (ba bb bc : Nat) (a b c : Pt) : Prop where
  st : Below w.heap.size w W
  A : B3 W ba a.x a.y a.z
  B : B3 W bb b.x b.y b.z
  C : B3 W bc c.x c.y c.z
theorem T3S.on {w W W2 : World} {ba bb bc : Nat} {a b c : Pt} (h : T3S w W ba bb bc a b c) (hb : Below W.heap.size W W2) : T3S w W2 ba bb bc a b c :=
  ⟨below_on h.st hb, h.A.on hb, h.B.on hb, h.C.on hb⟩
structure T4S (w W : World) (ba bb bc bx : Nat) (a b c x : Pt) : Prop where
  t : T3S w W ba bb bc a b c
  X : B3 W bx x.x x.y x.z
theorem T4S.on {w W W2 : World} {ba bb bc bx : Nat} {a b c x : Pt} (h : T4S w W ba bb bc bx a b c x) (hb : Below W.heap.size W W2) : T4S w W2 ba bb bc bx a b c x := ⟨h.t.on hb, h.X.on hb⟩
structure Vb14R (ba bb bx : Nat) (a b x : Pt) (num den : Int) (Wc : World) (L : Nat → Bool) (v : Nat → Value) (W : World) : Prop where
  st : Below Wc.heap.size Wc W
  w5 : Had L 5 (∀ j ∈ [1, 2, 3, 4], L j = true)
  w6 : Had L 6 (∀ j ∈ [0, 5], L j = true)
  w7 : Had L 7 (∀ j ∈ [6], L j = true)
  w8 : Had L 8 (∀ j ∈ [7], L j = true)
  w9 : Had L 9 (∀ j ∈ [7, 8], L j = true)
  w10 : Had L 10 (∀ j ∈ [7, 9], L j = true)
  w11 : Had L 11 (∀ j ∈ [10], L j = true)
  f0 : Had L 0 (v 100 = .agg #[.int .i64 x.x, .int .i64 x.y, .int .i64 x.z])
  f1 : Had L 1 (v 101 = .agg #[.int .i64 a.x, .int .i64 a.y, .int .i64 a.z])
  f2 : Had L 2 (v 102 = .agg #[.int .i64 b.x, .int .i64 b.y, .int .i64 b.z])
  f3 : Had L 3 (v 103 = .int .i64 num)
  f4 : Had L 4 (v 104 = .int .i64 den)
  f5 : Had L 5 (v 105 = .agg #[.int .i64 x.x, .int .i64 x.y, .int .i64 x.z])
  f6 : Had L 6 (v 106 = .bool true)
  f7 : Had L 7 (v 107 = .bool true)
  f8 : Had L 8 (v 108 = .int .i64 0)
  f9 : Had L 9 (v 109 = .bool true)
  f10 : Had L 10 (v 110 = .bool true)
  f11 : Had L 11 (v 10 = .bool true)
end Go.Proofs.YtcghjjfpjiacfaaDoor
