/- The examples of the chapter hold: awake returns true. -/
import Derived.Test.YtfcplndfoboaaaaDoorRText
namespace Go.Proofs.YtfcplndfoboaaaaDoor
set_option linter.unusedVariables false
open Go.RowKit Go.Shelf

theorem ex_add : addT 1 6 1 10 = (4, 15, 0) := by decide +kernel
theorem ex_mul : mulT 1152921504606846976 1 1 1152921504606846976 = (1, 1, 0) := by decide +kernel
theorem ex_make : makeT (-6) 4 = (-3, 2, 0) := by decide +kernel
theorem ex_valid : vB 4 15 = true := by decide +kernel
theorem ex_text : textT (-3) 2 = ([45, 51, 47, 50], 0) := by
  have h : vB (-3) 2 = true := by decide +kernel
  unfold textT txt
  rw [if_pos h, if_neg (by decide)]
  have h1 : Lib.itoa (-3) = [45, 51] := by
    unfold Lib.itoa
    rw [if_pos (by decide)]
    simp [Lib.decDigits_one]
  have h2 : Lib.itoa 2 = [50] := by
    unfold Lib.itoa
    rw [if_neg (by decide)]
    exact Lib.decDigits_one (i := 2) (by decide)
  rw [h1, h2]; rfl

set_option maxHeartbeats 2000000 in
theorem awake_any (w : World) (hT : Hid (Pow10 w.heap.size w)) : Calls Tryd.prog 5 #[] w fun e w' => e = .returned (.bool true) ∧ Below w.heap.size w w' := by
  have C1 := fun w => Lib.hid (Add_any 1 6 1 10 w (by decide) (by decide) (by decide) (by decide) (by decide) (by decide) (by decide) (by decide) 4 15 0 ex_add)
  have C2 := fun w => Lib.hid (Mul_any 1152921504606846976 1 1 1152921504606846976 w (by decide) (by decide) (by decide) (by decide) (by decide) (by decide) (by decide) (by decide) 1 1 0 ex_mul)
  have C3 := fun w => Lib.hid (Make_any (-6) 4 w (by decide) (by decide) (by decide) (by decide) (-3) 2 0 ex_make)
  have C4 := fun W h1 h2 => Lib.hid (Text_any (-3) 2 W w.heap.size h1 h2 (by decide) (by decide) (by decide) (by decide) [45, 51, 47, 50] 0 ex_text)
  have C5 := fun w => Lib.hid (Valid_any 4 15 w (by decide) (by decide) (by decide) (by decide))
  simp only [ex_valid] at C5
  go_enter Tryd.func5, Tryd.ntmps5
  go_wp2_with fail
  (with_reducible refine ((C1 _).out).mono ?_)
  rintro e w1 ⟨rfl, b1⟩
  have B1 := Lib.hid b1
  clear b1
  go_wp2_with fail
  (with_reducible refine ((C2 _).out).mono ?_)
  rintro e w2 ⟨rfl, b2⟩
  have a0 : w2.cell? ⟨w1.heap.size, 0, none⟩ = some (.int .i64 4) := (b2.cell (by simp)).trans (by simp [go_sem])
  have a1 : w2.cell? ⟨w1.heap.size, 1, none⟩ = some (.int .i64 15) := (b2.cell (by simp)).trans (by simp [go_sem])
  have s2 : w1.heap.size < w2.heap.size := by have := b2.size; simp at this; omega
  have B2 := Lib.hid (B1.out.trans (((Below.refl _ _).alloc (Nat.le_refl _) _).trans (b2.mono (by simp)) |>.mono B1.out.size))
  clear b2
  go_wp2_with fail
  (with_reducible refine ((C3 _).out).mono ?_)
  rintro e w3 ⟨rfl, b3⟩
  have a2 : w3.cell? ⟨w1.heap.size, 0, none⟩ = some (.int .i64 4) := (b3.cell (by simp; omega)).trans ((World.cell?_alloc_past _ _ _ s2).trans a0)
  have a3 : w3.cell? ⟨w1.heap.size, 1, none⟩ = some (.int .i64 15) := (b3.cell (by simp; omega)).trans ((World.cell?_alloc_past _ _ _ s2).trans a1)
  have c0 : w3.cell? ⟨w2.heap.size, 0, none⟩ = some (.int .i64 1) := (b3.cell (by simp)).trans (by simp [go_sem])
  have c1 : w3.cell? ⟨w2.heap.size, 1, none⟩ = some (.int .i64 1) := (b3.cell (by simp)).trans (by simp [go_sem])
  have s3 : w1.heap.size < w3.heap.size := by have := b3.size; simp at this; omega
  have s4 : w2.heap.size < w3.heap.size := by have := b3.size; simp at this; omega
  have B3 := Lib.hid (B2.out.trans (((Below.refl _ _).alloc (Nat.le_refl _) _).trans (b3.mono (by simp)) |>.mono B2.out.size))
  clear b3 a0 a1
  go_wp2_with fail
  have B3' := B3.out.alloc B3.out.size (Obj.cells #[Value.int IntKind.i64 (-3), Value.int IntKind.i64 2] 24)
  have HB3 := Lib.hid B3'
  clear B3'
  (with_reducible refine ((C4 _ HB3.out.size (Lib.hid (hT.out.on HB3.out))).out).mono ?_)
  rintro e w4 ⟨rfl, b4⟩
  have a4 : w4.cell? ⟨w1.heap.size, 0, none⟩ = some (.int .i64 4) := (b4.cell (by simp; omega)).trans ((World.cell?_alloc_past _ _ _ s3).trans a2)
  have a5 : w4.cell? ⟨w1.heap.size, 1, none⟩ = some (.int .i64 15) := (b4.cell (by simp; omega)).trans ((World.cell?_alloc_past _ _ _ s3).trans a3)
  have c2 : w4.cell? ⟨w2.heap.size, 0, none⟩ = some (.int .i64 1) := (b4.cell (by simp; omega)).trans ((World.cell?_alloc_past _ _ _ s4).trans c0)
  have c3 : w4.cell? ⟨w2.heap.size, 1, none⟩ = some (.int .i64 1) := (b4.cell (by simp; omega)).trans ((World.cell?_alloc_past _ _ _ s4).trans c1)
  have B4 := Lib.hid (HB3.out.trans (b4.mono HB3.out.size))
  clear b4 a2 a3 c0 c1
  go_wp2_with fail
  (with_reducible refine ((C5 _).out).mono ?_)
  rintro e w5 ⟨rfl, b5⟩
  have B5 := Lib.hid (B4.out.trans (b5.mono B4.out.size))
  clear b5
  go_wp2
  go_ret
  exact ⟨rfl, B5.out⟩

end Go.Proofs.YtfcplndfoboaaaaDoor
