/- Layer 7: the law's awake, walked. -/
import Derived.Test.YtjonhhmapbibaaaDoorUAwk
namespace Go.Proofs.YtjonhhmapbibaaaDoor
open Go.ChangeShapes Go.WideShapes Go.ChangeAt Go.RowKit Go.Joins Go.Deep Go.Shelf
set_option linter.unusedVariables false

theorem ab (W : World) (o : Obj) : Below W.heap.size W (W.alloc o) := (Below.refl _ _).alloc (Nat.le_refl _) _
theorem eq_true (n m : Nat) (la : Option Addr) (lc : Nat) (xs : List Int) (ma : Option Addr) (mc : Nat) (ys : List Int) (w : World) (hx : ZRow w la xs) (hy : ZRow w ma ys) (h1 : xs.length = n) (h2 : ys.length = m) (n1 : n ≤ 9223372036854775807) (n2 : m ≤ 9223372036854775807) (he : xs = ys) :
    Calls Tryd.prog 18 #[.slice la n lc, .slice ma m mc] w fun e w' => e = .returned (.bool true) ∧ Below w.heap.size w w' := by
  subst h1; subst h2
  have := equal_any la lc xs ma mc ys w hx hy n1 n2
  rw [decide_eq_true he] at this
  exact this
theorem lit_ll (W : World) : LL (((W.alloc (Obj.cells #[.int .i64 0, .int .i64 1, .int .i64 2] 3)).alloc (Obj.cells #[.int .i64 3, .int .i64 4] 3)).alloc (Obj.cells #[.slice (some ⟨W.heap.size, 0, none⟩) 3 3, .slice (some ⟨W.heap.size + 1, 0, none⟩) 2 2] 22)) (some ⟨W.heap.size + 1 + 1, 0, none⟩) [[0, 1, 2], [3, 4]] := fun _ => by
  have z1 : Idx (W.alloc (Obj.cells #[.int .i64 0, .int .i64 1, .int .i64 2] 3)) (some ⟨W.heap.size, 0, none⟩) [0, 1, 2] := fun _ => ⟨_, 0, rfl, by simp, fun j hj => by
    match j, hj with
    | 0, _ => simp [go_sem]
    | 1, _ => simp [go_sem]
    | 2, _ => simp [go_sem]⟩
  have z2 : Idx ((W.alloc (Obj.cells #[.int .i64 0, .int .i64 1, .int .i64 2] 3)).alloc (Obj.cells #[.int .i64 3, .int .i64 4] 3)) (some ⟨W.heap.size + 1, 0, none⟩) [3, 4] := fun _ => ⟨_, 0, rfl, by simp, fun j hj => by
    match j, hj with
    | 0, _ => simp [go_sem]
    | 1, _ => simp [go_sem]⟩
  refine ⟨_, 0, rfl, by simp, fun i hi => ?_⟩
  match i, hi with
  | 0, _ => exact ⟨some ⟨W.heap.size, 0, none⟩, 3, by simp [go_sem], (z1.on (ab _ _)).on (ab _ _)⟩
  | 1, _ => exact ⟨some ⟨W.heap.size + 1, 0, none⟩, 2, by simp [go_sem], z2.on (ab _ _)⟩

theorem same_true (n m : Nat) (la : Option Addr) (lc : Nat) (ls : List (List Nat)) (ma : Option Addr) (mc : Nat) (ms : List (List Nat)) (w : World) (hl : LL w la ls) (hm : LL w ma ms) (h1 : ls.length = n) (h2 : ms.length = m) (n1 : n ≤ 1000000) (n2 : m ≤ 1000000) (hb1 : ∀ l ∈ ls, l.length ≤ 1000) (hb2 : ∀ l ∈ ms, l.length ≤ 1000) (he : ls = ms) :
    Calls Tryd.prog 13 #[.slice la n lc, .slice ma m mc] w fun e w' => e = .returned (.bool true) ∧ Below w.heap.size w w' := by
  subst h1; subst h2
  have := Same_any la lc ls ma mc ms w hl hm n1 n2 hb1 hb2
  rw [decide_eq_true he] at this
  exact this
set_option maxRecDepth 100000 in
set_option maxHeartbeats 16000000 in
theorem awake_any (w : World) (hd : DB w) :
    Calls Tryd.prog 5 #[] w fun e w' => e = .returned (.bool true) ∧ Below w.heap.size w w' := by
  have CS := Lib.hid (Sums_ok (some ⟨w.heap.size, 0, none⟩) 2 2 (nth [3, -1]) (w.alloc (Obj.cells #[.int .i64 3, .int .i64 (-1)] 3)) (lit_z w [3, -1]) (hd.on (ab _ _)) (by decide) (by decide +kernel))
  rw [ex_sums] at CS
  have HD := Lib.hid hd
  clear hd
  go_enter Tryd.func5, Tryd.ntmps5
  go_upto_region 2 with (go_at_call 17; (with_reducible refine ((CS.out).mono ?_)); rintro e w2 ⟨hb2, g, rfl, hrow⟩)
  have HS : Hid (ZRow w2 (some ⟨g, 0, none⟩) [-1, 0, 2, 3]) := hrow.irow
  have HB : Hid (Below w.heap.size w w2) := below_on (ab _ _) hb2
  clear hb2 hrow CS
  have CZ := Lib.hid (Zero_ok (some ⟨w2.heap.size, 0, none⟩) 5 5 e5 (w2.alloc (Obj.cells #[.int .i64 5, .int .i64 (-2), .int .i64 (-3), .int .i64 4, .int .i64 (-4)] 3)) (lit_z w2 [5, -2, -3, 4, -4]) ((HD.out.on HB.out).on (ab _ _)) (by decide) (by decide +kernel))
  have HL : Hid (IRow (w2.alloc (Obj.cells #[.int .i64 5, .int .i64 (-2), .int .i64 (-3), .int .i64 4, .int .i64 (-4)] 3)) (some ⟨w2.heap.size, 0, none⟩) 5 e5) := lit_z w2 [5, -2, -3, 4, -4]
  go_upto_region 4 with (go_at_call 16; (with_reducible refine ((CZ.out).mono ?_)); rintro e w4 ⟨hb4, zv, ze, rfl, hz⟩)
  obtain ⟨za, zc, rfl, rfl, hzi⟩ : ∃ za zc, zv = .slice za 2 zc ∧ ze = 0 ∧ Idx w4 za [3, 4] := by
    rcases hz with ⟨_, _, h⟩ | ⟨e0, l, za, zc, e1, e2, _, e3⟩
    · exact absurd ex_zero.1 (h _)
    · have := e2.uniq ex_zero
      subst this
      exact ⟨za, zc, e1, e0, own_idx e3⟩
  have HL4 := Lib.hid (HL.out.on hb4)
  have HS4 := Lib.hid ((HS.out.on (ab _ _)).on hb4)
  have HB4 := Lib.hid (below_on (below_on HB.out (ab _ _)) hb4)
  have HZ4 := Lib.hid hzi.z
  clear hb4 hz hzi CZ HL HS HB
  have CP := Lib.hid (Parts_ok (some ⟨w2.heap.size, 0, none⟩) 5 5 e5 w4 HL4.out (HD.out.on HB4.out) (by decide) (by decide +kernel))
  go_upto_region 5 with (go_at_call 9; (with_reducible refine ((CP.out).mono ?_)); rintro e w5 ⟨hb5, hp⟩; (obtain ⟨pa, pc, rfl, hpl⟩ : ∃ pa pc, e = .returned (.tuple #[.slice pa 2 pc, .int .i64 0]) ∧ LL w5 pa [[0, 1, 2], [3, 4]] := (by
    rcases hp with ⟨h, _⟩ | ⟨_, ps, v, rows, h1, h2, h3⟩
    · exact absurd (show smS (bitI 5 (2 ^ 5 - 1)) e5 5 = 0 by decide +kernel) h
    · have e2 := ex_parts ps h2
      subst e2
      rw [ex_idxs] at h3
      obtain ⟨pa, pc, rfl⟩ := own_form h3.top
      exact ⟨pa, pc, h1, PL.ll (ls := [[0, 1, 2], [3, 4]]) h3⟩)))
  have HP5 := Lib.hid hpl
  have HS5 := Lib.hid (HS4.out.on hb5)
  have HZ5 := Lib.hid (HZ4.out.on hb5)
  have HB5 := Lib.hid (below_on HB4.out hb5)
  clear hp hpl hb5 CP HL4 HS4 HZ4 HB4
  have C1 := Lib.hid (eq_true 4 4 (some ⟨g, 0, none⟩) (2 ^ 2) [-1, 0, 2, 3] (some ⟨w5.heap.size, 0, none⟩) 4 [-1, 0, 2, 3] (w5.alloc (Obj.cells #[.int .i64 (-1), .int .i64 0, .int .i64 2, .int .i64 3] 3)) (HS5.out.on (ab _ _)) (lit_z w5 [-1, 0, 2, 3]) rfl rfl (by decide) (by decide) rfl)
  have C2 := fun W (h : Below w5.heap.size w5 W) => Lib.hid (eq_true 2 2 za zc [3, 4] (some ⟨W.heap.size, 0, none⟩) 2 [3, 4] (W.alloc (Obj.cells #[.int .i64 3, .int .i64 4] 3)) ((HZ5.out.on h).on (ab _ _)) (lit_z W [3, 4]) rfl rfl (by decide) (by decide) rfl)
  have C3 := fun W (h : Below w5.heap.size w5 W) => Lib.hid (same_true 2 2 pa pc [[0, 1, 2], [3, 4]] (some ⟨W.heap.size + 1 + 1, 0, none⟩) 2 [[0, 1, 2], [3, 4]] _ ((((HP5.out.on h).on (ab W (Obj.cells #[.int .i64 0, .int .i64 1, .int .i64 2] 3))).on (ab _ (Obj.cells #[.int .i64 3, .int .i64 4] 3))).on (ab _ (Obj.cells #[.slice (some ⟨W.heap.size, 0, none⟩) 3 3, .slice (some ⟨W.heap.size + 1, 0, none⟩) 2 2] 22))) (lit_ll W) rfl rfl (by decide) (by decide) (by decide) (by decide) rfl)
  go_wp2_with (first
    | (go_at_call 18; (with_reducible refine ((C1.out).mono ?_)); rintro e w7 ⟨rfl, hb7⟩; have HB7 := Lib.hid (below_on (ab w5 _) hb7))
    | (go_at_call 18; (with_reducible refine (((C2 _ HB7.out).out).mono ?_)); rintro e w9 ⟨rfl, hb9⟩; have HB9 := Lib.hid (below_on (below_on HB7.out (ab w7 _)) hb9))
    | (go_at_call 13; (with_reducible refine (((C3 _ HB9.out).out).mono ?_)); rintro e w12 ⟨rfl, hb12⟩))
  go_ret
  exact ⟨rfl, below_on HB5.out (below_on (below_on (below_on (below_on HB9.out (ab _ _)) (ab _ _)) (ab _ _)) hb12)⟩
end Go.Proofs.YtjonhhmapbibaaaDoor
