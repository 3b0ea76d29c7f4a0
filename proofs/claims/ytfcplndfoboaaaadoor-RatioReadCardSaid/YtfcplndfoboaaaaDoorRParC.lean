/- Layer 2: Parse of package ratio. -/
import Derived.Test.YtfcplndfoboaaaaDoorRParM
import Derived.Test.YtfcplndfoboaaaaDoorRText
import Derived.Test.YtfcplndfoboaaaaDoorRLawStore
namespace Go.Proofs.YtfcplndfoboaaaaDoor
set_option linter.unusedVariables false
open Go.RowKit Go.Shelf

/-- Where the walk of Parse stands: the result's place, the variables, what was there. -/
def PaS (w W : World) : Prop := Blk W w.heap.size (.int .i64 0) (.int .i64 0) ∧ Frz W w.heap.size ∧ EnvC W ∧ Below w.heap.size w W
theorem PaS.on {w W W2 : World} (h : PaS w W) (hb : Below W.heap.size W W2) : PaS w W2 := ⟨h.1.on hb, h.2.1.on h.1.1 hb, h.2.2.1.on hb, below_on h.2.2.2 hb⟩
theorem PaS.env {w W : World} (h : PaS w W) : EnvC W := h.2.2.1
theorem PaS.new {w : World} (h : EnvC w) : PaS w (w.alloc (Obj.cells #[Value.int IntKind.i64 0, Value.int IntKind.i64 0] 24)) :=
  ⟨Blk.new _ _ _ _, Frz.new _ _ _ _, h.on ((Below.refl _ _).alloc (Nat.le_refl _) _), (Below.refl _ _).alloc (Nat.le_refl _) _⟩
theorem tabX2 {w W : World} {B : Nat} (hT : Hid (Pow10 B w)) (hB : B ≤ w.heap.size) (h : Hid (Below w.heap.size w W)) : Hid (Pow10 W.heap.size W) := fun w' h' => hT.out w' ((h.out.trans (h'.mono h.out.size)).mono hB)

set_option maxRecDepth 100000 in
set_option maxHeartbeats 4000000 in
theorem parC_true_bad (s : ByteArray) (hs : s.size ≤ 200) (u v : List UInt8) (w : World) (B : Nat) (hBw : B ≤ w.heap.size) (hT : Hid (Pow10 B w)) (hE : Hid (EnvC w)) (n : Int) (d : Int)
    (CC : ∀ w, EnvC w → Hid (Calls Tryd.prog 28 #[.string s, .string ⟨#[47]⟩] w fun e w' => e = .returned (.tuple #[.string ⟨u.toArray⟩, .string ⟨v.toArray⟩, .bool true]) ∧ Below w.heap.size w w'))
    (CA : ∀ w, Hid (Calls Tryd.prog 29 #[.string ⟨u.toArray⟩] w fun e w' => e = .returned (.tuple #[.int .i64 n, .nilIface]) ∧ Below w.heap.size w w'))
    (CB : ∀ w, Hid (Calls Tryd.prog 29 #[.string ⟨v.toArray⟩] w fun e w' => e = .returned (.tuple #[.int .i64 d, .nilIface]) ∧ Below w.heap.size w w'))
    (CT : ∀ w, w.heap.size ≤ w.heap.size → Hid (Pow10 w.heap.size w) → Hid (Calls Tryd.prog 10 #[.agg #[.int .i64 n, .int .i64 d]] w fun r w' => r = .returned (.tuple #[.string ⟨[].toArray⟩, .int .i64 1]) ∧ Below w.heap.size w w')) :
    Calls Tryd.prog 13 #[.string s] w fun e w' => e = .returned (.tuple #[.agg #[.int .i64 0, .int .i64 0], .int .i64 7]) ∧ Below w.heap.size w w' := by
  go_enter Tryd.func13, Tryd.ntmps13
  go_wp2_with fail
  have S0 := Lib.hid (PaS.new hE.out)
  (with_reducible refine ((CC _ (PaS.env S0.out)).out).mono ?_)
  rintro e w1 ⟨rfl, hb1⟩
  have S1 := Lib.hid (S0.out.on hb1)
  clear hb1 S0
  go_wp2_with fail
  (with_reducible refine ((CA _).out).mono ?_)
  rintro e w2 ⟨rfl, hb1⟩
  have S2 := Lib.hid (S1.out.on hb1)
  clear hb1 S1
  go_wp2_with fail
  (with_reducible refine ((CB _).out).mono ?_)
  rintro e w3 ⟨rfl, hb1⟩
  have S3 := Lib.hid (S2.out.on hb1)
  clear hb1 S2
  obtain ⟨_, _, _, _⟩ := S3.out
  go_wp2_with fail
  have S4 := Lib.hid (S3.out.on ((Below.refl _ _).alloc (Nat.le_refl _) (Obj.cells #[Value.int IntKind.i64 n, Value.int IntKind.i64 d] 24)))
  have A4 := Lib.hid (Blk.new w3 (.int .i64 n) (.int .i64 d) 24)
  have BL := Lib.hid (below_on S3.out.2.2.2 ((Below.refl _ _).alloc (Nat.le_refl _) (Obj.cells #[Value.int IntKind.i64 n, Value.int IntKind.i64 d] 24)))
  (with_reducible refine ((CT _ (Nat.le_refl _) (tabX2 hT hBw BL)).out).mono ?_)
  rintro e w4 ⟨rfl, hb1⟩
  have S5 := Lib.hid (S4.out.on hb1)
  have A5 := Lib.hid (A4.out.on hb1)
  clear hb1 S4 S3 A4 BL
  obtain ⟨_, a0, a1⟩ := A5.out
  obtain ⟨⟨_, r0, r1⟩, ⟨f0, f1⟩, _, B⟩ := S5.out
  have HB := Lib.hid B
  clear B
  go_wp2_with fail
  obtain ⟨_, r8, r9⟩ := Blk.set (x := .int .i64 0) (y := .int .i64 0) S5.out.1
  refine bodyPost_ret (by simp [results, Tryd.results13, go_sem, r8, r9]; try rfl) rfl ?_
  have B := HB.out
  exact ⟨rfl, (by repeat' (first | (with_reducible exact Below.refl _ _) | (with_reducible assumption) | (with_reducible refine Below.alloc ?_ ?_ _) | (with_reducible refine below_drew ?_ _) | (with_reducible refine Below.drew ?_) | (with_reducible refine Below.setCell ?_ ?_ _) | go_size))⟩
set_option maxRecDepth 100000 in
set_option maxHeartbeats 4000000 in
theorem parC_true_ne (s : ByteArray) (hs : s.size ≤ 200) (u v : List UInt8) (w : World) (B : Nat) (hBw : B ≤ w.heap.size) (hT : Hid (Pow10 B w)) (hE : Hid (EnvC w)) (n : Int) (d : Int) (t : ByteArray) (ne : (t.toList == s.toList) = false)
    (CC : ∀ w, EnvC w → Hid (Calls Tryd.prog 28 #[.string s, .string ⟨#[47]⟩] w fun e w' => e = .returned (.tuple #[.string ⟨u.toArray⟩, .string ⟨v.toArray⟩, .bool true]) ∧ Below w.heap.size w w'))
    (CA : ∀ w, Hid (Calls Tryd.prog 29 #[.string ⟨u.toArray⟩] w fun e w' => e = .returned (.tuple #[.int .i64 n, .nilIface]) ∧ Below w.heap.size w w'))
    (CB : ∀ w, Hid (Calls Tryd.prog 29 #[.string ⟨v.toArray⟩] w fun e w' => e = .returned (.tuple #[.int .i64 d, .nilIface]) ∧ Below w.heap.size w w'))
    (CT : ∀ w, w.heap.size ≤ w.heap.size → Hid (Pow10 w.heap.size w) → Hid (Calls Tryd.prog 10 #[.agg #[.int .i64 n, .int .i64 d]] w fun r w' => r = .returned (.tuple #[.string t, .int .i64 0]) ∧ Below w.heap.size w w')) :
    Calls Tryd.prog 13 #[.string s] w fun e w' => e = .returned (.tuple #[.agg #[.int .i64 0, .int .i64 0], .int .i64 7]) ∧ Below w.heap.size w w' := by
  go_enter Tryd.func13, Tryd.ntmps13
  go_wp2_with fail
  have S0 := Lib.hid (PaS.new hE.out)
  (with_reducible refine ((CC _ (PaS.env S0.out)).out).mono ?_)
  rintro e w1 ⟨rfl, hb1⟩
  have S1 := Lib.hid (S0.out.on hb1)
  clear hb1 S0
  go_wp2_with fail
  (with_reducible refine ((CA _).out).mono ?_)
  rintro e w2 ⟨rfl, hb1⟩
  have S2 := Lib.hid (S1.out.on hb1)
  clear hb1 S1
  go_wp2_with fail
  (with_reducible refine ((CB _).out).mono ?_)
  rintro e w3 ⟨rfl, hb1⟩
  have S3 := Lib.hid (S2.out.on hb1)
  clear hb1 S2
  obtain ⟨_, _, _, _⟩ := S3.out
  go_wp2_with fail
  have S4 := Lib.hid (S3.out.on ((Below.refl _ _).alloc (Nat.le_refl _) (Obj.cells #[Value.int IntKind.i64 n, Value.int IntKind.i64 d] 24)))
  have A4 := Lib.hid (Blk.new w3 (.int .i64 n) (.int .i64 d) 24)
  have BL := Lib.hid (below_on S3.out.2.2.2 ((Below.refl _ _).alloc (Nat.le_refl _) (Obj.cells #[Value.int IntKind.i64 n, Value.int IntKind.i64 d] 24)))
  (with_reducible refine ((CT _ (Nat.le_refl _) (tabX2 hT hBw BL)).out).mono ?_)
  rintro e w4 ⟨rfl, hb1⟩
  have S5 := Lib.hid (S4.out.on hb1)
  have A5 := Lib.hid (A4.out.on hb1)
  clear hb1 S4 S3 A4 BL
  obtain ⟨_, a0, a1⟩ := A5.out
  obtain ⟨⟨_, r0, r1⟩, ⟨f0, f1⟩, _, B⟩ := S5.out
  have HB := Lib.hid B
  clear B
  go_wp2_with fail
  obtain ⟨_, r8, r9⟩ := Blk.set (x := .int .i64 0) (y := .int .i64 0) S5.out.1
  refine bodyPost_ret (by simp [results, Tryd.results13, go_sem, r8, r9]; try rfl) rfl ?_
  have B := HB.out
  exact ⟨rfl, (by repeat' (first | (with_reducible exact Below.refl _ _) | (with_reducible assumption) | (with_reducible refine Below.alloc ?_ ?_ _) | (with_reducible refine below_drew ?_ _) | (with_reducible refine Below.drew ?_) | (with_reducible refine Below.setCell ?_ ?_ _) | go_size))⟩
set_option maxRecDepth 100000 in
set_option maxHeartbeats 4000000 in
theorem parC_true_eq (s : ByteArray) (hs : s.size ≤ 200) (u v : List UInt8) (w : World) (B : Nat) (hBw : B ≤ w.heap.size) (hT : Hid (Pow10 B w)) (hE : Hid (EnvC w)) (n : Int) (d : Int) (t : ByteArray) (ne : (t.toList == s.toList) = true)
    (CC : ∀ w, EnvC w → Hid (Calls Tryd.prog 28 #[.string s, .string ⟨#[47]⟩] w fun e w' => e = .returned (.tuple #[.string ⟨u.toArray⟩, .string ⟨v.toArray⟩, .bool true]) ∧ Below w.heap.size w w'))
    (CA : ∀ w, Hid (Calls Tryd.prog 29 #[.string ⟨u.toArray⟩] w fun e w' => e = .returned (.tuple #[.int .i64 n, .nilIface]) ∧ Below w.heap.size w w'))
    (CB : ∀ w, Hid (Calls Tryd.prog 29 #[.string ⟨v.toArray⟩] w fun e w' => e = .returned (.tuple #[.int .i64 d, .nilIface]) ∧ Below w.heap.size w w'))
    (CT : ∀ w, w.heap.size ≤ w.heap.size → Hid (Pow10 w.heap.size w) → Hid (Calls Tryd.prog 10 #[.agg #[.int .i64 n, .int .i64 d]] w fun r w' => r = .returned (.tuple #[.string t, .int .i64 0]) ∧ Below w.heap.size w w')) :
    Calls Tryd.prog 13 #[.string s] w fun e w' => e = .returned (.tuple #[.agg #[.int .i64 n, .int .i64 d], .int .i64 0]) ∧ Below w.heap.size w w' := by
  go_enter Tryd.func13, Tryd.ntmps13
  go_wp2_with fail
  have S0 := Lib.hid (PaS.new hE.out)
  (with_reducible refine ((CC _ (PaS.env S0.out)).out).mono ?_)
  rintro e w1 ⟨rfl, hb1⟩
  have S1 := Lib.hid (S0.out.on hb1)
  clear hb1 S0
  go_wp2_with fail
  (with_reducible refine ((CA _).out).mono ?_)
  rintro e w2 ⟨rfl, hb1⟩
  have S2 := Lib.hid (S1.out.on hb1)
  clear hb1 S1
  go_wp2_with fail
  (with_reducible refine ((CB _).out).mono ?_)
  rintro e w3 ⟨rfl, hb1⟩
  have S3 := Lib.hid (S2.out.on hb1)
  clear hb1 S2
  obtain ⟨_, _, _, _⟩ := S3.out
  go_wp2_with fail
  have S4 := Lib.hid (S3.out.on ((Below.refl _ _).alloc (Nat.le_refl _) (Obj.cells #[Value.int IntKind.i64 n, Value.int IntKind.i64 d] 24)))
  have A4 := Lib.hid (Blk.new w3 (.int .i64 n) (.int .i64 d) 24)
  have BL := Lib.hid (below_on S3.out.2.2.2 ((Below.refl _ _).alloc (Nat.le_refl _) (Obj.cells #[Value.int IntKind.i64 n, Value.int IntKind.i64 d] 24)))
  (with_reducible refine ((CT _ (Nat.le_refl _) (tabX2 hT hBw BL)).out).mono ?_)
  rintro e w4 ⟨rfl, hb1⟩
  have S5 := Lib.hid (S4.out.on hb1)
  have A5 := Lib.hid (A4.out.on hb1)
  clear hb1 S4 S3 A4 BL
  obtain ⟨_, a0, a1⟩ := A5.out
  obtain ⟨⟨_, r0, r1⟩, ⟨f0, f1⟩, _, B⟩ := S5.out
  have HB := Lib.hid B
  clear B
  go_wp2_with fail
  obtain ⟨_, r8, r9⟩ := Blk.set (x := .int .i64 n) (y := .int .i64 d) S5.out.1
  refine bodyPost_ret (by simp [results, Tryd.results13, go_sem, r8, r9]; try rfl) rfl ?_
  have B := HB.out
  exact ⟨rfl, (by repeat' (first | (with_reducible exact Below.refl _ _) | (with_reducible assumption) | (with_reducible refine Below.alloc ?_ ?_ _) | (with_reducible refine below_drew ?_ _) | (with_reducible refine Below.drew ?_) | (with_reducible refine Below.setCell ?_ ?_ _) | go_size))⟩
set_option maxRecDepth 100000 in
set_option maxHeartbeats 4000000 in
theorem parC_true_yn (s : ByteArray) (hs : s.size ≤ 200) (u v : List UInt8) (w : World) (B : Nat) (hBw : B ≤ w.heap.size) (hT : Hid (Pow10 B w)) (hE : Hid (EnvC w)) (n : Int)
    (CC : ∀ w, EnvC w → Hid (Calls Tryd.prog 28 #[.string s, .string ⟨#[47]⟩] w fun e w' => e = .returned (.tuple #[.string ⟨u.toArray⟩, .string ⟨v.toArray⟩, .bool true]) ∧ Below w.heap.size w w'))
    (CA : ∀ w, Hid (Calls Tryd.prog 29 #[.string ⟨u.toArray⟩] w fun e w' => e = .returned (.tuple #[.int .i64 n, .nilIface]) ∧ Below w.heap.size w w'))
    (CB : ∀ w, EnvC w → Hid (Calls Tryd.prog 29 #[.string ⟨v.toArray⟩] w fun e w' => ∃ (v : Int) (N : Nat), e = .returned (.tuple #[.int .i64 v, .iface (Tryd.laysC172_ren.t 168) (.pointer (some ⟨N, 0, none⟩))]) ∧ Below w.heap.size w w')) :
    Calls Tryd.prog 13 #[.string s] w fun e w' => e = .returned (.tuple #[.agg #[.int .i64 0, .int .i64 0], .int .i64 7]) ∧ Below w.heap.size w w' := by
  go_enter Tryd.func13, Tryd.ntmps13
  go_wp2_with fail
  have S0 := Lib.hid (PaS.new hE.out)
  (with_reducible refine ((CC _ (PaS.env S0.out)).out).mono ?_)
  rintro e w1 ⟨rfl, hb1⟩
  have S1 := Lib.hid (S0.out.on hb1)
  clear hb1 S0
  go_wp2_with fail
  (with_reducible refine ((CA _).out).mono ?_)
  rintro e w2 ⟨rfl, hb1⟩
  have S2 := Lib.hid (S1.out.on hb1)
  clear hb1 S1
  go_wp2_with fail
  (with_reducible refine ((CB _ (PaS.env S2.out)).out).mono ?_)
  rintro e w3 ⟨vb, nb, rfl, hb1⟩
  have S3 := Lib.hid (S2.out.on hb1)
  clear hb1 S2
  obtain ⟨⟨_, r0, r1⟩, ⟨f0, f1⟩, _, B⟩ := S3.out
  have HB := Lib.hid B
  clear B
  go_wp2_with fail
  obtain ⟨_, r8, r9⟩ := Blk.set (x := .int .i64 0) (y := .int .i64 0) S3.out.1
  refine bodyPost_ret (by simp [results, Tryd.results13, go_sem, r8, r9]; try rfl) rfl ?_
  have B := HB.out
  exact ⟨rfl, (by repeat' (first | (with_reducible exact Below.refl _ _) | (with_reducible assumption) | (with_reducible refine Below.alloc ?_ ?_ _) | (with_reducible refine below_drew ?_ _) | (with_reducible refine Below.drew ?_) | (with_reducible refine Below.setCell ?_ ?_ _) | go_size))⟩
set_option maxRecDepth 100000 in
set_option maxHeartbeats 4000000 in
theorem parC_true_ny (s : ByteArray) (hs : s.size ≤ 200) (u v : List UInt8) (w : World) (B : Nat) (hBw : B ≤ w.heap.size) (hT : Hid (Pow10 B w)) (hE : Hid (EnvC w)) (d : Int)
    (CC : ∀ w, EnvC w → Hid (Calls Tryd.prog 28 #[.string s, .string ⟨#[47]⟩] w fun e w' => e = .returned (.tuple #[.string ⟨u.toArray⟩, .string ⟨v.toArray⟩, .bool true]) ∧ Below w.heap.size w w'))
    (CA : ∀ w, EnvC w → Hid (Calls Tryd.prog 29 #[.string ⟨u.toArray⟩] w fun e w' => ∃ (v : Int) (N : Nat), e = .returned (.tuple #[.int .i64 v, .iface (Tryd.laysC172_ren.t 168) (.pointer (some ⟨N, 0, none⟩))]) ∧ Below w.heap.size w w'))
    (CB : ∀ w, Hid (Calls Tryd.prog 29 #[.string ⟨v.toArray⟩] w fun e w' => e = .returned (.tuple #[.int .i64 d, .nilIface]) ∧ Below w.heap.size w w')) :
    Calls Tryd.prog 13 #[.string s] w fun e w' => e = .returned (.tuple #[.agg #[.int .i64 0, .int .i64 0], .int .i64 7]) ∧ Below w.heap.size w w' := by
  go_enter Tryd.func13, Tryd.ntmps13
  go_wp2_with fail
  have S0 := Lib.hid (PaS.new hE.out)
  (with_reducible refine ((CC _ (PaS.env S0.out)).out).mono ?_)
  rintro e w1 ⟨rfl, hb1⟩
  have S1 := Lib.hid (S0.out.on hb1)
  clear hb1 S0
  go_wp2_with fail
  (with_reducible refine ((CA _ (PaS.env S1.out)).out).mono ?_)
  rintro e w2 ⟨va, na, rfl, hb1⟩
  have S2 := Lib.hid (S1.out.on hb1)
  clear hb1 S1
  go_wp2_with fail
  (with_reducible refine ((CB _).out).mono ?_)
  rintro e w3 ⟨rfl, hb1⟩
  have S3 := Lib.hid (S2.out.on hb1)
  clear hb1 S2
  obtain ⟨⟨_, r0, r1⟩, ⟨f0, f1⟩, _, B⟩ := S3.out
  have HB := Lib.hid B
  clear B
  go_wp2_with fail
  obtain ⟨_, r8, r9⟩ := Blk.set (x := .int .i64 0) (y := .int .i64 0) S3.out.1
  refine bodyPost_ret (by simp [results, Tryd.results13, go_sem, r8, r9]; try rfl) rfl ?_
  have B := HB.out
  exact ⟨rfl, (by repeat' (first | (with_reducible exact Below.refl _ _) | (with_reducible assumption) | (with_reducible refine Below.alloc ?_ ?_ _) | (with_reducible refine below_drew ?_ _) | (with_reducible refine Below.drew ?_) | (with_reducible refine Below.setCell ?_ ?_ _) | go_size))⟩
set_option maxRecDepth 100000 in
set_option maxHeartbeats 4000000 in
theorem parC_true_nn (s : ByteArray) (hs : s.size ≤ 200) (u v : List UInt8) (w : World) (B : Nat) (hBw : B ≤ w.heap.size) (hT : Hid (Pow10 B w)) (hE : Hid (EnvC w))
    (CC : ∀ w, EnvC w → Hid (Calls Tryd.prog 28 #[.string s, .string ⟨#[47]⟩] w fun e w' => e = .returned (.tuple #[.string ⟨u.toArray⟩, .string ⟨v.toArray⟩, .bool true]) ∧ Below w.heap.size w w'))
    (CA : ∀ w, EnvC w → Hid (Calls Tryd.prog 29 #[.string ⟨u.toArray⟩] w fun e w' => ∃ (v : Int) (N : Nat), e = .returned (.tuple #[.int .i64 v, .iface (Tryd.laysC172_ren.t 168) (.pointer (some ⟨N, 0, none⟩))]) ∧ Below w.heap.size w w'))
    (CB : ∀ w, EnvC w → Hid (Calls Tryd.prog 29 #[.string ⟨v.toArray⟩] w fun e w' => ∃ (v : Int) (N : Nat), e = .returned (.tuple #[.int .i64 v, .iface (Tryd.laysC172_ren.t 168) (.pointer (some ⟨N, 0, none⟩))]) ∧ Below w.heap.size w w')) :
    Calls Tryd.prog 13 #[.string s] w fun e w' => e = .returned (.tuple #[.agg #[.int .i64 0, .int .i64 0], .int .i64 7]) ∧ Below w.heap.size w w' := by
  go_enter Tryd.func13, Tryd.ntmps13
  go_wp2_with fail
  have S0 := Lib.hid (PaS.new hE.out)
  (with_reducible refine ((CC _ (PaS.env S0.out)).out).mono ?_)
  rintro e w1 ⟨rfl, hb1⟩
  have S1 := Lib.hid (S0.out.on hb1)
  clear hb1 S0
  go_wp2_with fail
  (with_reducible refine ((CA _ (PaS.env S1.out)).out).mono ?_)
  rintro e w2 ⟨va, na, rfl, hb1⟩
  have S2 := Lib.hid (S1.out.on hb1)
  clear hb1 S1
  go_wp2_with fail
  (with_reducible refine ((CB _ (PaS.env S2.out)).out).mono ?_)
  rintro e w3 ⟨vb, nb, rfl, hb1⟩
  have S3 := Lib.hid (S2.out.on hb1)
  clear hb1 S2
  obtain ⟨⟨_, r0, r1⟩, ⟨f0, f1⟩, _, B⟩ := S3.out
  have HB := Lib.hid B
  clear B
  go_wp2_with fail
  obtain ⟨_, r8, r9⟩ := Blk.set (x := .int .i64 0) (y := .int .i64 0) S3.out.1
  refine bodyPost_ret (by simp [results, Tryd.results13, go_sem, r8, r9]; try rfl) rfl ?_
  have B := HB.out
  exact ⟨rfl, (by repeat' (first | (with_reducible exact Below.refl _ _) | (with_reducible assumption) | (with_reducible refine Below.alloc ?_ ?_ _) | (with_reducible refine below_drew ?_ _) | (with_reducible refine Below.drew ?_) | (with_reducible refine Below.setCell ?_ ?_ _) | go_size))⟩
set_option maxRecDepth 100000 in
set_option maxHeartbeats 4000000 in
theorem parC_false_bad (s : ByteArray) (hs : s.size ≤ 200) (u v : List UInt8) (w : World) (B : Nat) (hBw : B ≤ w.heap.size) (hT : Hid (Pow10 B w)) (hE : Hid (EnvC w)) (n : Int) (d : Int)
    (CC : ∀ w, EnvC w → Hid (Calls Tryd.prog 28 #[.string s, .string ⟨#[47]⟩] w fun e w' => e = .returned (.tuple #[.string ⟨u.toArray⟩, .string ⟨v.toArray⟩, .bool false]) ∧ Below w.heap.size w w'))
    (CA : ∀ w, Hid (Calls Tryd.prog 29 #[.string ⟨u.toArray⟩] w fun e w' => e = .returned (.tuple #[.int .i64 n, .nilIface]) ∧ Below w.heap.size w w'))
    (CB : ∀ w, Hid (Calls Tryd.prog 29 #[.string ⟨#[49]⟩] w fun e w' => e = .returned (.tuple #[.int .i64 d, .nilIface]) ∧ Below w.heap.size w w'))
    (CT : ∀ w, w.heap.size ≤ w.heap.size → Hid (Pow10 w.heap.size w) → Hid (Calls Tryd.prog 10 #[.agg #[.int .i64 n, .int .i64 d]] w fun r w' => r = .returned (.tuple #[.string ⟨[].toArray⟩, .int .i64 1]) ∧ Below w.heap.size w w')) :
    Calls Tryd.prog 13 #[.string s] w fun e w' => e = .returned (.tuple #[.agg #[.int .i64 0, .int .i64 0], .int .i64 7]) ∧ Below w.heap.size w w' := by
  go_enter Tryd.func13, Tryd.ntmps13
  go_wp2_with fail
  have S0 := Lib.hid (PaS.new hE.out)
  (with_reducible refine ((CC _ (PaS.env S0.out)).out).mono ?_)
  rintro e w1 ⟨rfl, hb1⟩
  have S1 := Lib.hid (S0.out.on hb1)
  clear hb1 S0
  go_wp2_with fail
  (with_reducible refine ((CA _).out).mono ?_)
  rintro e w2 ⟨rfl, hb1⟩
  have S2 := Lib.hid (S1.out.on hb1)
  clear hb1 S1
  go_wp2_with fail
  (with_reducible refine ((CB _).out).mono ?_)
  rintro e w3 ⟨rfl, hb1⟩
  have S3 := Lib.hid (S2.out.on hb1)
  clear hb1 S2
  obtain ⟨_, _, _, _⟩ := S3.out
  go_wp2_with fail
  have S4 := Lib.hid (S3.out.on ((Below.refl _ _).alloc (Nat.le_refl _) (Obj.cells #[Value.int IntKind.i64 n, Value.int IntKind.i64 d] 24)))
  have A4 := Lib.hid (Blk.new w3 (.int .i64 n) (.int .i64 d) 24)
  have BL := Lib.hid (below_on S3.out.2.2.2 ((Below.refl _ _).alloc (Nat.le_refl _) (Obj.cells #[Value.int IntKind.i64 n, Value.int IntKind.i64 d] 24)))
  (with_reducible refine ((CT _ (Nat.le_refl _) (tabX2 hT hBw BL)).out).mono ?_)
  rintro e w4 ⟨rfl, hb1⟩
  have S5 := Lib.hid (S4.out.on hb1)
  have A5 := Lib.hid (A4.out.on hb1)
  clear hb1 S4 S3 A4 BL
  obtain ⟨_, a0, a1⟩ := A5.out
  obtain ⟨⟨_, r0, r1⟩, ⟨f0, f1⟩, _, B⟩ := S5.out
  have HB := Lib.hid B
  clear B
  go_wp2_with fail
  obtain ⟨_, r8, r9⟩ := Blk.set (x := .int .i64 0) (y := .int .i64 0) S5.out.1
  refine bodyPost_ret (by simp [results, Tryd.results13, go_sem, r8, r9]; try rfl) rfl ?_
  have B := HB.out
  exact ⟨rfl, (by repeat' (first | (with_reducible exact Below.refl _ _) | (with_reducible assumption) | (with_reducible refine Below.alloc ?_ ?_ _) | (with_reducible refine below_drew ?_ _) | (with_reducible refine Below.drew ?_) | (with_reducible refine Below.setCell ?_ ?_ _) | go_size))⟩
set_option maxRecDepth 100000 in
set_option maxHeartbeats 4000000 in
theorem parC_false_ne (s : ByteArray) (hs : s.size ≤ 200) (u v : List UInt8) (w : World) (B : Nat) (hBw : B ≤ w.heap.size) (hT : Hid (Pow10 B w)) (hE : Hid (EnvC w)) (n : Int) (d : Int) (t : ByteArray) (ne : (t.toList == s.toList) = false)
    (CC : ∀ w, EnvC w → Hid (Calls Tryd.prog 28 #[.string s, .string ⟨#[47]⟩] w fun e w' => e = .returned (.tuple #[.string ⟨u.toArray⟩, .string ⟨v.toArray⟩, .bool false]) ∧ Below w.heap.size w w'))
    (CA : ∀ w, Hid (Calls Tryd.prog 29 #[.string ⟨u.toArray⟩] w fun e w' => e = .returned (.tuple #[.int .i64 n, .nilIface]) ∧ Below w.heap.size w w'))
    (CB : ∀ w, Hid (Calls Tryd.prog 29 #[.string ⟨#[49]⟩] w fun e w' => e = .returned (.tuple #[.int .i64 d, .nilIface]) ∧ Below w.heap.size w w'))
    (CT : ∀ w, w.heap.size ≤ w.heap.size → Hid (Pow10 w.heap.size w) → Hid (Calls Tryd.prog 10 #[.agg #[.int .i64 n, .int .i64 d]] w fun r w' => r = .returned (.tuple #[.string t, .int .i64 0]) ∧ Below w.heap.size w w')) :
    Calls Tryd.prog 13 #[.string s] w fun e w' => e = .returned (.tuple #[.agg #[.int .i64 0, .int .i64 0], .int .i64 7]) ∧ Below w.heap.size w w' := by
  go_enter Tryd.func13, Tryd.ntmps13
  go_wp2_with fail
  have S0 := Lib.hid (PaS.new hE.out)
  (with_reducible refine ((CC _ (PaS.env S0.out)).out).mono ?_)
  rintro e w1 ⟨rfl, hb1⟩
  have S1 := Lib.hid (S0.out.on hb1)
  clear hb1 S0
  go_wp2_with fail
  (with_reducible refine ((CA _).out).mono ?_)
  rintro e w2 ⟨rfl, hb1⟩
  have S2 := Lib.hid (S1.out.on hb1)
  clear hb1 S1
  go_wp2_with fail
  (with_reducible refine ((CB _).out).mono ?_)
  rintro e w3 ⟨rfl, hb1⟩
  have S3 := Lib.hid (S2.out.on hb1)
  clear hb1 S2
  obtain ⟨_, _, _, _⟩ := S3.out
  go_wp2_with fail
  have S4 := Lib.hid (S3.out.on ((Below.refl _ _).alloc (Nat.le_refl _) (Obj.cells #[Value.int IntKind.i64 n, Value.int IntKind.i64 d] 24)))
  have A4 := Lib.hid (Blk.new w3 (.int .i64 n) (.int .i64 d) 24)
  have BL := Lib.hid (below_on S3.out.2.2.2 ((Below.refl _ _).alloc (Nat.le_refl _) (Obj.cells #[Value.int IntKind.i64 n, Value.int IntKind.i64 d] 24)))
  (with_reducible refine ((CT _ (Nat.le_refl _) (tabX2 hT hBw BL)).out).mono ?_)
  rintro e w4 ⟨rfl, hb1⟩
  have S5 := Lib.hid (S4.out.on hb1)
  have A5 := Lib.hid (A4.out.on hb1)
  clear hb1 S4 S3 A4 BL
  obtain ⟨_, a0, a1⟩ := A5.out
  obtain ⟨⟨_, r0, r1⟩, ⟨f0, f1⟩, _, B⟩ := S5.out
  have HB := Lib.hid B
  clear B
  go_wp2_with fail
  obtain ⟨_, r8, r9⟩ := Blk.set (x := .int .i64 0) (y := .int .i64 0) S5.out.1
  refine bodyPost_ret (by simp [results, Tryd.results13, go_sem, r8, r9]; try rfl) rfl ?_
  have B := HB.out
  exact ⟨rfl, (by repeat' (first | (with_reducible exact Below.refl _ _) | (with_reducible assumption) | (with_reducible refine Below.alloc ?_ ?_ _) | (with_reducible refine below_drew ?_ _) | (with_reducible refine Below.drew ?_) | (with_reducible refine Below.setCell ?_ ?_ _) | go_size))⟩
set_option maxRecDepth 100000 in
set_option maxHeartbeats 4000000 in
theorem parC_false_eq (s : ByteArray) (hs : s.size ≤ 200) (u v : List UInt8) (w : World) (B : Nat) (hBw : B ≤ w.heap.size) (hT : Hid (Pow10 B w)) (hE : Hid (EnvC w)) (n : Int) (d : Int) (t : ByteArray) (ne : (t.toList == s.toList) = true)
    (CC : ∀ w, EnvC w → Hid (Calls Tryd.prog 28 #[.string s, .string ⟨#[47]⟩] w fun e w' => e = .returned (.tuple #[.string ⟨u.toArray⟩, .string ⟨v.toArray⟩, .bool false]) ∧ Below w.heap.size w w'))
    (CA : ∀ w, Hid (Calls Tryd.prog 29 #[.string ⟨u.toArray⟩] w fun e w' => e = .returned (.tuple #[.int .i64 n, .nilIface]) ∧ Below w.heap.size w w'))
    (CB : ∀ w, Hid (Calls Tryd.prog 29 #[.string ⟨#[49]⟩] w fun e w' => e = .returned (.tuple #[.int .i64 d, .nilIface]) ∧ Below w.heap.size w w'))
    (CT : ∀ w, w.heap.size ≤ w.heap.size → Hid (Pow10 w.heap.size w) → Hid (Calls Tryd.prog 10 #[.agg #[.int .i64 n, .int .i64 d]] w fun r w' => r = .returned (.tuple #[.string t, .int .i64 0]) ∧ Below w.heap.size w w')) :
    Calls Tryd.prog 13 #[.string s] w fun e w' => e = .returned (.tuple #[.agg #[.int .i64 n, .int .i64 d], .int .i64 0]) ∧ Below w.heap.size w w' := by
  go_enter Tryd.func13, Tryd.ntmps13
  go_wp2_with fail
  have S0 := Lib.hid (PaS.new hE.out)
  (with_reducible refine ((CC _ (PaS.env S0.out)).out).mono ?_)
  rintro e w1 ⟨rfl, hb1⟩
  have S1 := Lib.hid (S0.out.on hb1)
  clear hb1 S0
  go_wp2_with fail
  (with_reducible refine ((CA _).out).mono ?_)
  rintro e w2 ⟨rfl, hb1⟩
  have S2 := Lib.hid (S1.out.on hb1)
  clear hb1 S1
  go_wp2_with fail
  (with_reducible refine ((CB _).out).mono ?_)
  rintro e w3 ⟨rfl, hb1⟩
  have S3 := Lib.hid (S2.out.on hb1)
  clear hb1 S2
  obtain ⟨_, _, _, _⟩ := S3.out
  go_wp2_with fail
  have S4 := Lib.hid (S3.out.on ((Below.refl _ _).alloc (Nat.le_refl _) (Obj.cells #[Value.int IntKind.i64 n, Value.int IntKind.i64 d] 24)))
  have A4 := Lib.hid (Blk.new w3 (.int .i64 n) (.int .i64 d) 24)
  have BL := Lib.hid (below_on S3.out.2.2.2 ((Below.refl _ _).alloc (Nat.le_refl _) (Obj.cells #[Value.int IntKind.i64 n, Value.int IntKind.i64 d] 24)))
  (with_reducible refine ((CT _ (Nat.le_refl _) (tabX2 hT hBw BL)).out).mono ?_)
  rintro e w4 ⟨rfl, hb1⟩
  have S5 := Lib.hid (S4.out.on hb1)
  have A5 := Lib.hid (A4.out.on hb1)
  clear hb1 S4 S3 A4 BL
  obtain ⟨_, a0, a1⟩ := A5.out
  obtain ⟨⟨_, r0, r1⟩, ⟨f0, f1⟩, _, B⟩ := S5.out
  have HB := Lib.hid B
  clear B
  go_wp2_with fail
  obtain ⟨_, r8, r9⟩ := Blk.set (x := .int .i64 n) (y := .int .i64 d) S5.out.1
  refine bodyPost_ret (by simp [results, Tryd.results13, go_sem, r8, r9]; try rfl) rfl ?_
  have B := HB.out
  exact ⟨rfl, (by repeat' (first | (with_reducible exact Below.refl _ _) | (with_reducible assumption) | (with_reducible refine Below.alloc ?_ ?_ _) | (with_reducible refine below_drew ?_ _) | (with_reducible refine Below.drew ?_) | (with_reducible refine Below.setCell ?_ ?_ _) | go_size))⟩
set_option maxRecDepth 100000 in
set_option maxHeartbeats 4000000 in
theorem parC_false_ny (s : ByteArray) (hs : s.size ≤ 200) (u v : List UInt8) (w : World) (B : Nat) (hBw : B ≤ w.heap.size) (hT : Hid (Pow10 B w)) (hE : Hid (EnvC w)) (d : Int)
    (CC : ∀ w, EnvC w → Hid (Calls Tryd.prog 28 #[.string s, .string ⟨#[47]⟩] w fun e w' => e = .returned (.tuple #[.string ⟨u.toArray⟩, .string ⟨v.toArray⟩, .bool false]) ∧ Below w.heap.size w w'))
    (CA : ∀ w, EnvC w → Hid (Calls Tryd.prog 29 #[.string ⟨u.toArray⟩] w fun e w' => ∃ (v : Int) (N : Nat), e = .returned (.tuple #[.int .i64 v, .iface (Tryd.laysC172_ren.t 168) (.pointer (some ⟨N, 0, none⟩))]) ∧ Below w.heap.size w w'))
    (CB : ∀ w, Hid (Calls Tryd.prog 29 #[.string ⟨#[49]⟩] w fun e w' => e = .returned (.tuple #[.int .i64 d, .nilIface]) ∧ Below w.heap.size w w')) :
    Calls Tryd.prog 13 #[.string s] w fun e w' => e = .returned (.tuple #[.agg #[.int .i64 0, .int .i64 0], .int .i64 7]) ∧ Below w.heap.size w w' := by
  go_enter Tryd.func13, Tryd.ntmps13
  go_wp2_with fail
  have S0 := Lib.hid (PaS.new hE.out)
  (with_reducible refine ((CC _ (PaS.env S0.out)).out).mono ?_)
  rintro e w1 ⟨rfl, hb1⟩
  have S1 := Lib.hid (S0.out.on hb1)
  clear hb1 S0
  go_wp2_with fail
  (with_reducible refine ((CA _ (PaS.env S1.out)).out).mono ?_)
  rintro e w2 ⟨va, na, rfl, hb1⟩
  have S2 := Lib.hid (S1.out.on hb1)
  clear hb1 S1
  go_wp2_with fail
  (with_reducible refine ((CB _).out).mono ?_)
  rintro e w3 ⟨rfl, hb1⟩
  have S3 := Lib.hid (S2.out.on hb1)
  clear hb1 S2
  obtain ⟨⟨_, r0, r1⟩, ⟨f0, f1⟩, _, B⟩ := S3.out
  have HB := Lib.hid B
  clear B
  go_wp2_with fail
  obtain ⟨_, r8, r9⟩ := Blk.set (x := .int .i64 0) (y := .int .i64 0) S3.out.1
  refine bodyPost_ret (by simp [results, Tryd.results13, go_sem, r8, r9]; try rfl) rfl ?_
  have B := HB.out
  exact ⟨rfl, (by repeat' (first | (with_reducible exact Below.refl _ _) | (with_reducible assumption) | (with_reducible refine Below.alloc ?_ ?_ _) | (with_reducible refine below_drew ?_ _) | (with_reducible refine Below.drew ?_) | (with_reducible refine Below.setCell ?_ ?_ _) | go_size))⟩
set_option linter.unusedVariables false in
set_option maxRecDepth 100000 in
theorem Parse_any (s : ByteArray) (hs : s.size ≤ 200) (w : World) (B : Nat) (hBw : B ≤ w.heap.size) (hT : Hid (Pow10 B w)) (hE : Hid (EnvC w)) (x y z : Int) (h : parE s.data.toList = (x, y, z)) :
    Calls Tryd.prog 13 #[.string s] w fun e w' => e = .returned (.tuple #[.agg #[.int .i64 x, .int .i64 y], .int .i64 z]) ∧ Below w.heap.size w w' := by
  rw [← parC_eq] at h
  obtain ⟨u, v, q, hc⟩ : ∃ u v q, Lib.cut s.data.toList [47] = (u, v, q) := ⟨_, _, _, rfl⟩
  have lu := cutS_len s.data.toList
  have CC := fun w h => Lib.hid (Cut_any s hs u v q hc w h)
  unfold parC at h
  rw [hc] at lu
  simp only [hc] at h
  have ls : s.data.toList.length = s.size := by simp
  have lu1 : u.length ≤ s.size := by rw [← ls]; exact lu.1
  have lv1 : v.length ≤ s.size := by rw [← ls]; exact lu.2
  have su : (⟨u.toArray⟩ : ByteArray).size ≤ 200 := by show u.toArray.size ≤ 200; rw [List.size_toArray]; omega
  have sv : (⟨v.toArray⟩ : ByteArray).size ≤ 200 := by show v.toArray.size ≤ 200; rw [List.size_toArray]; omega
  have tu : (⟨u.toArray⟩ : ByteArray).data.toList = u := by simp
  have tv : (⟨v.toArray⟩ : ByteArray).data.toList = v := by simp
  have CT := fun n d n0 n1 d0 d1 => fun s e h w hB hP => Lib.hid (Text_any n d w w.heap.size hB hP n0 n1 d0 d1 s e h)
  cases q
  · have hb : botS v false = [49] := rfl
    rw [hb] at h
    cases ha : atoO u with
    | none =>
      have CA := fun w h => Lib.hid (Atoi_no ⟨u.toArray⟩ su (by rw [tu]; exact ha) w h)
      simp only [ha] at h
      obtain ⟨c1, c2, c3⟩ := three h
      subst c1; subst c2; subst c3
      exact parC_false_ny s hs u v w B hBw hT hE 1 CC CA (fun w => Lib.hid (Atoi_yes ⟨#[49]⟩ (by decide) 1 (by decide) w))
    | some n =>
      have CA := fun w => Lib.hid (Atoi_yes ⟨u.toArray⟩ su n (by rw [tu]; exact ha) w)
      have bn := atoO_bounds ha
      rw [ha, show atoO [49] = some 1 by decide] at h
      have CB := fun w => Lib.hid (Atoi_yes ⟨#[49]⟩ (by decide) 1 (by decide) w)
      have T := CT n 1 bn.1 bn.2 (by decide) (by decide)
      have h2 : (if vB n 1 = true ∧ txt n 1 = s.data.toList then (n, 1, 0) else ((0 : Int), (0 : Int), (7 : Int))) = (x, y, z) := h
      clear h
      cases hv : vB n 1
      · rw [hv, if_neg (fun g => by cases g.1)] at h2
        obtain ⟨c1, c2, c3⟩ := three h2
        subst c1; subst c2; subst c3
        exact parC_false_bad s hs u v w B hBw hT hE n 1 CC CA CB (T [] 1 (by unfold textT; rw [hv]; rfl))
      · have T2 := T (txt n 1) 0 (by unfold textT; rw [hv]; rfl)
        by_cases g : txt n 1 = s.data.toList
        · rw [if_pos ⟨hv, g⟩] at h2
          obtain ⟨c1, c2, c3⟩ := three h2
          subst c1; subst c2; subst c3
          exact parC_false_eq s hs u v w B hBw hT hE n 1 ⟨(txt n 1).toArray⟩ (by rw [g]; exact beq_iff_eq.2 rfl) CC CA CB T2
        · rw [if_neg (fun k => g k.2)] at h2
          obtain ⟨c1, c2, c3⟩ := three h2
          subst c1; subst c2; subst c3
          exact parC_false_ne s hs u v w B hBw hT hE n 1 ⟨(txt n 1).toArray⟩ (beq_eq_false_iff_ne.2 (fun k => g (by rw [Lib.toList_data, Lib.toList_data] at k; simpa using k))) CC CA CB T2
  · have hb : botS v true = v := rfl
    rw [hb] at h
    cases ha : atoO u with
    | none =>
      have CA := fun w h => Lib.hid (Atoi_no ⟨u.toArray⟩ su (by rw [tu]; exact ha) w h)
      have h2 : ((0 : Int), (0 : Int), (7 : Int)) = (x, y, z) := by simpa only [ha] using h
      obtain ⟨c1, c2, c3⟩ := three h2
      subst c1; subst c2; subst c3
      cases hb2 : atoO v with
      | none => exact parC_true_nn s hs u v w B hBw hT hE CC CA (fun w h => Lib.hid (Atoi_no ⟨v.toArray⟩ sv (by rw [tv]; exact hb2) w h))
      | some d => exact parC_true_ny s hs u v w B hBw hT hE d CC CA (fun w => Lib.hid (Atoi_yes ⟨v.toArray⟩ sv d (by rw [tv]; exact hb2) w))
    | some n =>
      have CA := fun w => Lib.hid (Atoi_yes ⟨u.toArray⟩ su n (by rw [tu]; exact ha) w)
      have bn := atoO_bounds ha
      cases hb2 : atoO v with
      | none =>
        have h2 : ((0 : Int), (0 : Int), (7 : Int)) = (x, y, z) := by simpa only [ha, hb2] using h
        obtain ⟨c1, c2, c3⟩ := three h2
        subst c1; subst c2; subst c3
        exact parC_true_yn s hs u v w B hBw hT hE n CC CA (fun w h => Lib.hid (Atoi_no ⟨v.toArray⟩ sv (by rw [tv]; exact hb2) w h))
      | some d =>
        have bd := atoO_bounds hb2
        have CB := fun w => Lib.hid (Atoi_yes ⟨v.toArray⟩ sv d (by rw [tv]; exact hb2) w)
        have T := CT n d bn.1 bn.2 bd.1 bd.2
        have h2 : (if vB n d = true ∧ txt n d = s.data.toList then (n, d, 0) else ((0 : Int), (0 : Int), (7 : Int))) = (x, y, z) := by simpa only [ha, hb2] using h
        clear h
        cases hv : vB n d
        · rw [hv, if_neg (fun g => by cases g.1)] at h2
          obtain ⟨c1, c2, c3⟩ := three h2
          subst c1; subst c2; subst c3
          exact parC_true_bad s hs u v w B hBw hT hE n d CC CA CB (T [] 1 (by unfold textT; rw [hv]; rfl))
        · have T2 := T (txt n d) 0 (by unfold textT; rw [hv]; rfl)
          by_cases g : txt n d = s.data.toList
          · rw [if_pos ⟨hv, g⟩] at h2
            obtain ⟨c1, c2, c3⟩ := three h2
            subst c1; subst c2; subst c3
            exact parC_true_eq s hs u v w B hBw hT hE n d ⟨(txt n d).toArray⟩ (by rw [g]; exact beq_iff_eq.2 rfl) CC CA CB T2
          · rw [if_neg (fun k => g k.2)] at h2
            obtain ⟨c1, c2, c3⟩ := three h2
            subst c1; subst c2; subst c3
            exact parC_true_ne s hs u v w B hBw hT hE n d ⟨(txt n d).toArray⟩ (beq_eq_false_iff_ne.2 (fun k => g (by rw [Lib.toList_data, Lib.toList_data] at k; simpa using k))) CC CA CB T2

end Go.Proofs.YtfcplndfoboaaaaDoor
