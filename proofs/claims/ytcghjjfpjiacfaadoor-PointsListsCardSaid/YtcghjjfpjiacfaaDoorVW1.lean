/- Layer 9: which points are valid; differences, squares, turns. -/
import Derived.Test.YtcghjjfpjiacfaaDoorVB
namespace Go.Proofs.YtcghjjfpjiacfaaDoor
open Go.ChangeShapes Go.WideShapes Go.ChangeAt Go.RowKit Go.Joins Go.Deep Go.Shelf
set_option linter.unusedVariables false

def okB (n : Int) : Bool := decide (okc n)
def vdB (p : Pt) : Bool := decide p.ok
theorem okB_or (n : Int) : (decide (n < -1048576) || decide (1048576 < n)) = !okB n := by
  unfold okB okc
  by_cases h : n < -1048576
  · have : ¬ (-1048576 ≤ n ∧ n ≤ 1048576) := by omega
    simp [h, this]
  · by_cases h2 : 1048576 < n
    · have : ¬ (-1048576 ≤ n ∧ n ≤ 1048576) := by omega
      simp [h2, this]
    · have : -1048576 ≤ n ∧ n ≤ 1048576 := by omega
      simp [h, h2, this]
theorem vpred (w : World) : PredAt Tryd.prog 86 #[] (fun z : Int => Value.int .i64 z) (fun z => !okB z) w := fun W z hb => by
  show Calls Tryd.prog 86 #[.int .i64 z] W _
  have hk := Lib.hid (okB_or z)
  by_cases h : z < -1048576
  · have d : decide (z < -1048576) = true := decide_eq_true h
    have d2 : Hid ((!okB z) = true) := by rw [← hk.out, d]; rfl
    go_enter Tryd.func86, Tryd.ntmps86
    go_wp2
    go_ret
    exact ⟨by rw [d2.out]; rfl, 0, rfl⟩
  · have d : decide (z < -1048576) = false := decide_eq_false h
    by_cases h2 : 1048576 < z
    · have d3 : decide (1048576 < z) = true := decide_eq_true h2
      have d2 : Hid ((!okB z) = true) := by rw [← hk.out, d, d3]; rfl
      go_enter Tryd.func86, Tryd.ntmps86
      go_wp2
      go_ret
      exact ⟨by rw [d2.out]; rfl, 0, rfl⟩
    · have d3 : decide (1048576 < z) = false := decide_eq_false h2
      have d2 : Hid ((!okB z) = false) := by rw [← hk.out, d, d3]; rfl
      go_enter Tryd.func86, Tryd.ntmps86
      go_wp2
      go_ret
      exact ⟨by rw [d2.out]; rfl, 0, rfl⟩
theorem any3 (p : Pt) : ([p.x, p.y, p.z].any fun z => !okB z) = !vdB p := by
  unfold vdB Pt.ok okB
  by_cases h1 : okc p.x <;> by_cases h2 : okc p.y <;> by_cases h3 : okc p.z <;> simp [h1, h2, h3]
theorem cont3 (p : Pt) (b : Nat) (w : World) (h : B3 w b p.x p.y p.z) :
    Calls Tryd.prog 85 #[.slice (some ⟨b, 0, none⟩) 3 3, .func (.func 86) #[] #[]] w fun e w' => e = .returned (.bool (!vdB p)) ∧ Below w.heap.size w w' := by
  have eg : ∀ args w, (callFunc 86 args).run Tryd.prog w = .ok (.enter 86 args) w := enters_of Tryd.func86 (by kernel_rfl) rfl
  refine (Tryd.slices_ContainsFunc (fun z : Int => Value.int .i64 z) _ _ #[] eg b 0 3 3 [p.x, p.y, p.z] w (vpred w) (by simp) (by omega) (fun j hj => ?_)).mono ?_
  · have : j = 0 ∨ j = 1 ∨ j = 2 := by simp at hj; omega
    rcases this with rfl | rfl | rfl
    · exact h.c0
    · exact h.c1
    · exact h.c2
  · rintro e w' ⟨rfl, q, rfl⟩
    refine ⟨?_, below_drewN' (Below.refl _ _) q⟩
    rw [← any3]; rfl
set_option maxHeartbeats 4000000 in
theorem pVd_any (p : Pt) (w : World) : Calls Tryd.prog 48 #[.agg #[.int .i64 p.x, .int .i64 p.y, .int .i64 p.z]] w fun e w' => e = .returned (.bool (vdB p)) ∧ Below w.heap.size w w' := by
  obtain ⟨w1, hw1⟩ : ∃ W, W = (w.alloc (Obj.cells #[.int .i64 p.x, .int .i64 p.y, .int .i64 p.z] 23)).alloc (Obj.cells #[.int .i64 p.x, .int .i64 p.y, .int .i64 p.z] 78) := ⟨_, rfl⟩
  have hb1 : Below w.heap.size w w1 := by rw [hw1]; exact below_on (below_alloc _ _) (below_alloc _ _)
  have hB : B3 w1 (w.heap.size + 1) p.x p.y p.z := by
    have := B3.new (w.alloc (Obj.cells #[.int .i64 p.x, .int .i64 p.y, .int .i64 p.z] 23)) p.x p.y p.z 78
    rw [World.size_alloc, ← hw1] at this
    exact this
  have C := Lib.hid (cont3 p (w.heap.size + 1) w1 hB)
  have HB := Lib.hid hb1
  have HV : Hid ((!(!vdB p)) = vdB p) := Bool.not_not _
  clear hb1 hB
  obtain ⟨v, hv⟩ : ∃ v, vdB p = v := ⟨_, rfl⟩
  rw [hv] at C HV
  rw [hv]
  clear hv
  go_enter Tryd.func48, Tryd.ntmps48
  go_upto_region 2 with fail
  rw [← hw1]
  clear hw1
  go_wp2_with ((with_reducible refine (C.out.mono ?_)); rintro e w2 ⟨rfl, hb2⟩)
  go_ret
  exact ⟨by first | rfl | rw [HV.out] | simp, below_on HB.out hb2⟩
end Go.Proofs.YtcghjjfpjiacfaaDoor
