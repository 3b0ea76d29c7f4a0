/- LinearSolves: its row holds. -/
import Derived.Test.YtjggnmbdgagkoaaRows
import Derived.Test.YtjggnmbdgagkoaaLLawSolves
import Derived.Test.YtjggnmbdgagkoaaLProduct
import Derived.WalkKit
import Derived.ProofKit
import Derived.OpenShut
import Derived.Carry
import Derived.Lib.SmallJoins
namespace Go.Proofs.Ytjggnmbdgagkoaa
open Go.ChangeShapes Go.WideShapes Go.ChangeAt Go.RowKit Go.Joins Go.Deep
set_option linter.unusedVariables false

set_option maxRecDepth 100000 in
theorem open_row {H : Type} {enc : TypeId × Value → H} {W : World} {base : Nat} {v : Value} {d : DataW H} {p : List MemPlace} (hval : Value.okWide Try.prog W .any base 29 v) (h : DataW.Trod enc Try.prog W 0 (fun _ => true) true 29 v d p) :
    ∃ (ra : Option Addr) (n rc : Nat) (f : Nat → Int), v = .slice ra n rc ∧ IRow W ra n f ∧ (n ≤ rc ∧ ∀ j, j < n → -9223372036854775808 ≤ f j ∧ f j ≤ 9223372036854775807) ∧ rc ≤ 9223372036854775807 := by
  obtain ⟨ao, len, cp, rfl⟩ := okWide_slice Try.underlying29 hval
  obtain ⟨fuel, hx⟩ := h
  rcases open_ints Try.underlying29 Try.underlying3 (by kernel_rfl) hx with ⟨hc, _⟩ | ⟨a, len2, cap2, zs, hc, _, hl, hm, hz, _, hcell, hwf⟩
  · simp [Value.cells] at hc
    obtain ⟨rfl, rfl, rfl⟩ := hc
    exact ⟨none, 0, 0, fun _ => 0, rfl, fun h => by omega, ⟨Nat.le_refl _, fun j h => by omega⟩, by omega⟩
  · simp [Value.cells] at hc
    obtain ⟨rfl, rfl, rfl⟩ := hc
    simp only [if_true] at hz
    refine ⟨some a, len, cp, fun j => zs.getD j 0, rfl, fun hn => ?_, ⟨hl, fun j hj => ?_⟩, by unfold maxLen at hm; omega⟩
    · obtain ⟨sb, so, spot⟩ := a
      have c0 := hcell 0 (by omega)
      have hspot : spot = none := by simpa [Addr.add] using World.cell?_spot c0
      subst hspot
      refine ⟨sb, so, rfl, Lib.lt_of_cell (by simpa [Addr.add] using c0), fun j hj => ?_⟩
      have h1 := hcell j (by omega)
      simpa [Addr.add_lit] using h1
    · have hj2 : j < zs.length := by omega
      have := hwf (zs[j]) (List.getElem_mem hj2)
      have e : zs.getD j 0 = zs[j] := by simp [List.getD, hj2]
      show -9223372036854775808 ≤ zs.getD j 0 ∧ zs.getD j 0 ≤ 9223372036854775807
      rw [e]
      exact i64_bd this

set_option maxRecDepth 100000 in
theorem open_matc {H : Type} {enc : TypeId × Value → H} {W : World} {base : Nat} {v : Value} {d : DataW H} {p : List MemPlace} (hval : Value.okWide Try.prog W .any base 23 v) (h : DataW.Trod enc Try.prog W 0 (fun _ => true) true 23 v d p) :
    ∃ (ma : Option Addr) (R mc : Nat) (Ra : Nat → Option Addr) (Ln Ka : Nat → Nat) (Z : Nat → Nat → Int), v = .slice ma R mc ∧ AMat W ma R Ra Ln Ka Z ∧ R ≤ mc ∧ mc ≤ 9223372036854775807 := by
  obtain ⟨ao, len, cp, rfl⟩ := okWide_slice Try.underlying23 hval
  obtain ⟨fuel, hx⟩ := h
  rcases open_int_rows Try.underlying23 Try.underlying29 Try.underlying3 (by kernel_rfl) (by kernel_rfl) hx with ⟨hc, _⟩ | ⟨a, len2, cap2, A, L, C, Z, hc, _, hl, hm, _, hall⟩
  · simp [Value.cells] at hc
    obtain ⟨rfl, rfl, rfl⟩ := hc
    exact ⟨none, 0, 0, fun _ => none, fun _ => 0, fun _ => 0, fun _ _ => 0, rfl, ⟨fun h => by omega, fun i h => by omega, fun i h => by omega⟩, Nat.le_refl _, by omega⟩
  · simp [Value.cells] at hc
    obtain ⟨rfl, rfl, rfl⟩ := hc
    refine ⟨some a, len, cp, A, L, C, fun i j => (Z i).getD j 0, rfl, ⟨fun hR => ?_, fun i hi hn => ?_, fun i hi => ?_⟩, hl, by unfold maxLen at hm; omega⟩
    · obtain ⟨sb, so, spot⟩ := a
      have hspot : spot = none := by simpa [Addr.add] using World.cell?_spot (hall 0 (by omega)).1
      subst hspot
      have c0 := (hall 0 (by omega)).1
      refine ⟨sb, so, rfl, Lib.lt_of_cell (by simpa [Addr.add] using c0), fun i hi => ?_⟩
      have h1 := (hall i (by omega)).1
      simpa [Addr.add_lit] using h1
    · obtain ⟨_, h2, h3, h4, _, h6, h7⟩ := hall i (by omega)
      rcases hA : A i with _ | a'
      · have := h6 hA; omega
      · obtain ⟨sb, so, spot⟩ := a'
        have hc := (h7 _ hA).2
        have hspot : spot = none := by simpa [Addr.add] using World.cell?_spot (hc 0 (by omega))
        subst hspot
        have c0 := hc 0 (by omega)
        refine ⟨sb, so, rfl, Lib.lt_of_cell (by simpa [Addr.add] using c0), fun j hj => ?_⟩
        have h1 := hc j (by omega)
        simpa [Addr.add_lit] using h1
    · have := (hall i (by omega)).2
      unfold maxLen at this
      omega

end Go.Proofs.Ytjggnmbdgagkoaa
namespace Go.Proofs.Ytjggnmbdgagkoaa.linearSolves
open Go.ChangeShapes Go.WideShapes Go.ChangeAt Go.RowKit Go.Joins Go.Deep
set_option linter.unusedVariables false

theorem own : ownKnob Try.prog.godebug = none := by kernel_rfl
theorem laidOut : laidOutB Try.prog = true := by kernel_rfl

set_option maxRecDepth 100000 in
theorem lifted (os : Os) (started : os.Started) (H : Type) (enc : TypeId × Value → H) :
    ReturnsInHanded {} Try.checked os 4 .any (Rows.linearSolvesSpec.pre6 enc Try.prog Try.f4 Rows.linearSolvesRow.domain false) (Rows.linearSolvesSpec.post enc Try.prog Try.f4 false true false false) := by
  refine returnsInHanded_of_change (C := Try.checked) own started (by kernel_rfl) Try.func4
    (ChangeSpec.witness6 (enc := enc) (C := Try.checked) false ⟨#[], #[.slice none 0 0, .slice none 0 0], []⟩ 8 (by kernel_rfl) (by kernel_rfl) (by kernel_rfl) (by kernel_rfl)) ?_
  intro W base args ds gs before hval0 hW hcnd _
  have hval : ∀ (j : Nat) t v, Try.f4.params[j]? = some t → args[j]? = some v → Value.okWide Try.prog W .any base t v := hval0
  have hW' := hW
  have hW2 := hW
  obtain ⟨p, q, hA0, hV, rfl, hfz, hnd⟩ := hW
  have hA : DataW.TrodAll enc Try.prog W 0 (fun _ => true) true Try.f4.params.toList args.toList ds p := hA0
  rw [Try.params4] at hA hval
  obtain ⟨v0, vs0, d0, ds0, p0, q0, hargs, rfl, rfl, h0, r0⟩ := trodAll_cons hA
  obtain ⟨v1, vs1, d1, ds1, p1, q1, rfl, rfl, rfl, h1, r1⟩ := trodAll_cons r0
  obtain ⟨rfl, rfl, rfl⟩ := trodAll_nil r1
  obtain rfl : args = #[v0, v1] := by cases args; simp_all
  obtain ⟨rfl, rfl⟩ := trodVars_none hV
  have k0 := h0
  have l0 : ∀ x ∈ p0, x.block < W.heap.size := fun x hx => hW2.lt x (by simp [hx])
  have k1 := h1
  have l1 : ∀ x ∈ p1, x.block < W.heap.size := fun x hx => hW2.lt x (by simp [hx])
  obtain ⟨ma0, R0, mc0, Ra0, Ln0, Ka0, Z0, rfl, am0, ar0⟩ := open_mat (hval 0 23 v0 rfl rfl) h0
  obtain ⟨ra1, nr1, rc1, f1, rfl, ri1, ⟨rn1, rb1⟩, rr1⟩ := open_row (hval 1 29 v1 rfl rfl) h1
  clear hA0 hval0
  simp only [List.append_nil] at hW'
  refine (solves_walk ma0 R0 mc0 Ra0 Ln0 Ka0 Z0 ra1 nr1 rc1 f1 W am0 ar0 ri1 rn1 rr1).mono fun e W' ⟨he, hg⟩ => ?_
  subst he
  exact ⟨_, rfl, _, _, _, [], _, [], hW', trodAll_cons_mk (shut_bool Try.underlying4 _) trodAll_mk0, trodAll_cons_mk (Below.trod laidOut (by kernel_rfl) (of_decide_eq_true (by kernel_rfl)) k0 hg l0) (trodAll_cons_mk (Below.trod laidOut (by kernel_rfl) (of_decide_eq_true (by kernel_rfl)) k1 hg l1) (trodAll_mk0)), rfl, hg.frame _, fun h => absurd h (by decide)⟩

theorem over : Rows.linearSolvesRow.holds Try.pinned (OpenSpec.ofChange Rows.linearSolvesSpec) :=
  OpenClaim.holds_of_wide 4 Try.f4 rfl rfl rfl rfl rfl rfl rfl ⟨rfl, rfl, rfl, rfl, rfl⟩ rfl rfl rfl rfl rfl (by kernel_rfl) Try.func4 (by kernel_rfl)
    (of_decide_eq_true (by kernel_rfl)) (by unfold Func.isWrapper; first | (rw [if_pos (by decide +kernel)]; kernel_rfl) | (rw [if_neg (by decide +kernel)]; exact ⟨rfl, rfl⟩))
    (fun os started H enc _ => lifted os started H enc)

theorem proved : Rows.LinearSolvesSaid :=
  over
#print axioms proved
end Go.Proofs.Ytjggnmbdgagkoaa.linearSolves
