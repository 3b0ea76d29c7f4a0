/- Layer 9: parameters that are points, and lists of points. -/
import Derived.Test.YtcghjjfpjiacfaaDoorRows
import Derived.Test.YtcghjjfpjiacfaaDoorVB
import Derived.WalkKit
import Derived.ProofKit
import Derived.OpenShut
import Derived.Carry
import Derived.Lib.SmallJoins
import Derived.Deep.SlicePairs
namespace Go.Proofs.YtcghjjfpjiacfaaDoor
open Go.ChangeShapes Go.WideShapes Go.ChangeAt Go.RowKit Go.Joins Go.Deep
set_option linter.unusedVariables false

theorem i64_bd {x : Int} (h : (Lit.int .i64 x).wf = true) : -9223372036854775808 ≤ x ∧ x ≤ 9223372036854775807 := by
  simp [Lit.wf, IntKind.min, IntKind.max, IntKind.signed, IntKind.bits] at h
  exact ⟨by omega, by omega⟩
theorem u8_bd {x : Int} (h : (Lit.int .u8 x).wf = true) : 0 ≤ x ∧ x ≤ 255 := by
  simp [Lit.wf, IntKind.min, IntKind.max, IntKind.signed, IntKind.bits] at h
  exact ⟨by omega, by omega⟩
set_option maxRecDepth 100000 in
theorem open_pt {H : Type} {enc : TypeId × Value → H} {W : World} {base : Nat} {v : Value} {d : DataW H} {p : List MemPlace} (hval : Value.okWide Tryd.prog W .any base 23 v) (h : DataW.Trod enc Tryd.prog W 0 (fun _ => true) true 23 v d p) :
    ∃ q : Pt, v = .agg #[.int .i64 q.x, .int .i64 q.y, .int .i64 q.z] ∧ PI q := by
  obtain ⟨v0, v1, v2, y0, y1, y2, n, rfl, _, _, h0, h1, h2⟩ := open_agg3 Tryd.underlying23 (by kernel_rfl) (by kernel_rfl) hval h
  obtain ⟨x, hx, _, wx⟩ := DataW.trod_int Tryd.underlying3 h0
  obtain ⟨y, hy, _, wy⟩ := DataW.trod_int Tryd.underlying3 h1
  obtain ⟨z, hz, _, wz⟩ := DataW.trod_int Tryd.underlying3 h2
  simp at hx hy hz
  subst hx; subst hy; subst hz
  exact ⟨⟨x, y, z⟩, rfl, ⟨(i64_bd wx).1, (i64_bd wx).2, (i64_bd wy).1, (i64_bd wy).2, (i64_bd wz).1, (i64_bd wz).2⟩⟩
instance : Inhabited Pt := ⟨⟨0, 0, 0⟩⟩
set_option maxRecDepth 100000 in
theorem open_pts {H : Type} {enc : TypeId × Value → H} {W : World} {base : Nat} {v : Value} {d : DataW H} {p : List MemPlace} (hval : Value.okWide Tryd.prog W .any base 24 v) (h : DataW.Trod enc Tryd.prog W 0 (fun _ => true) true 24 v d p) :
    ∃ (ra : Option Addr) (n rc : Nat) (f : Nat → Pt), v = .slice ra n rc ∧ PtR W ra n f ∧ (∀ i, i < n → PI (f i)) ∧ n ≤ rc ∧ rc ≤ 9223372036854775807 ∧ (ra = none → n = 0 ∧ rc = 0) := by
  obtain ⟨ao, len, cp, rfl⟩ := okWide_slice Tryd.underlying24 hval
  obtain ⟨fuel, hfu⟩ := h
  rcases open_slice Tryd.underlying24 hfu with ⟨hc1, _⟩ | ⟨a, len2, cap, m, k, D, Pl, hc1, _, hl, hm, hmm, _, hall⟩
  · simp [Value.cells] at hc1
    obtain ⟨rfl, rfl, rfl⟩ := hc1
    exact ⟨none, 0, 0, fun _ => ⟨0, 0, 0⟩, rfl, fun h => by omega, fun i h => by omega, Nat.le_refl _, by omega, fun _ => ⟨rfl, rfl⟩⟩
  · simp [Value.cells] at hc1
    obtain ⟨rfl, rfl, rfl⟩ := hc1
    simp only [if_true] at hmm
    subst hmm
    have ce : Tryd.prog.cellsOf 23 = 3 := by kernel_rfl
    have ci : Tryd.prog.cellsOf 3 = 1 := by kernel_rfl
    have each : ∀ i, i < m → ∃ q : Pt, W.cell? (a.add (i * 3)) = some (.int .i64 q.x) ∧ W.cell? (a.add (i * 3 + 1)) = some (.int .i64 q.y) ∧ W.cell? (a.add (i * 3 + 2)) = some (.int .i64 q.z) ∧ PI q := fun i hi => by
      obtain ⟨cs', g1, g2⟩ := hall i hi
      rw [ce] at g1
      obtain ⟨_, hlen, hcell⟩ := World.cells?_some g1
      obtain ⟨xs, k2, hk, hxy, _, hxl, hf⟩ := DataW.trod_struct Tryd.underlying23 g2
      match xs, hxl, cs', hlen with
      | [x0, x1, x2], _, [u0, u1, u2], _ =>
        have f0 := hf 0 _ rfl
        have f1 := hf 1 _ rfl
        have f2 := hf 2 _ rfl
        have e0 := hcell 0 (by omega)
        have e1 := hcell 1 (by omega)
        have e2 := hcell 2 (by omega)
        rw [add_add] at e0 e1 e2
        have f0' : DataW.trod enc Tryd.prog W 0 (fun _ => true) true k2 3 [u0] = some x0 := by simpa [ci] using f0
        have f1' : DataW.trod enc Tryd.prog W 0 (fun _ => true) true k2 3 [u1] = some x1 := by simpa [ci] using f1
        have f2' : DataW.trod enc Tryd.prog W 0 (fun _ => true) true k2 3 [u2] = some x2 := by simpa [ci] using f2
        obtain ⟨x, hx, _, wx⟩ := DataW.trod_int Tryd.underlying3 f0'
        obtain ⟨y, hy, _, wy⟩ := DataW.trod_int Tryd.underlying3 f1'
        obtain ⟨z, hz, _, wz⟩ := DataW.trod_int Tryd.underlying3 f2'
        simp at hx hy hz
        subst hx; subst hy; subst hz
        exact ⟨⟨x, y, z⟩, by simpa using e0, by simpa using e1, by simpa using e2, ⟨(i64_bd wx).1, (i64_bd wx).2, (i64_bd wy).1, (i64_bd wy).2, (i64_bd wz).1, (i64_bd wz).2⟩⟩
    obtain ⟨q, hq⟩ := choose_lt each
    refine ⟨some a, len, m, q, rfl, fun hm0 => ?_, fun i hi => (hq i (by omega)).2.2.2, hl, by unfold maxLen at hm; omega, fun h => by cases h⟩
    obtain ⟨sb, so, spot⟩ := a
    have c0 := (hq 0 (by omega)).1
    have hspot : spot = none := by simpa [Addr.add] using World.cell?_spot c0
    subst hspot
    refine ⟨sb, so, rfl, Lib.lt_of_cell (by simpa [Addr.add] using c0), fun i hi => ?_⟩
    have g := hq i (by omega)
    exact ⟨by simpa [Addr.add_lit] using g.1, by simpa [Addr.add_lit, Nat.add_assoc] using g.2.1, by simpa [Addr.add_lit, Nat.add_assoc] using g.2.2.1⟩
end Go.Proofs.YtcghjjfpjiacfaaDoor
