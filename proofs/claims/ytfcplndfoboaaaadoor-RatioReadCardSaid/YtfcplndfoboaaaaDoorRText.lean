/- Text of package ratio. -/
import Derived.Test.YtfcplndfoboaaaaDoorRMake
import Derived.Lib.AppendIntMem
import Derived.Lib.ItoaLen
import Derived.Laws.Concat
namespace Go.Proofs.YtfcplndfoboaaaaDoor
set_option linter.unusedVariables false
open Go.RowKit Go.Shelf

/-- The table of the powers of ten reads as it is laid, whatever is done from block B on. -/
abbrev Pow10 (B : Nat) (w : World) : Prop := Lib.TabBelow Tryd.prog B w "internal/strconv.uint64pow10" .u64 Lib.pow10Tab

/-- The text of a fraction. -/
def txt (n d : Int) : List UInt8 := if d = 1 then Lib.itoa n else Lib.itoa n ++ 47 :: Lib.itoa d
def textT (n d : Int) : List UInt8 × Int := if vB n d = true then (txt n d, 0) else ([], 1)

theorem Itoa_b (n : Int) (h0 : -9223372036854775808 ≤ n) (h1 : n ≤ 9223372036854775807) (w : World) (htab : Lib.TabIs Tryd.prog w "internal/strconv.uint64pow10" .u64 Lib.pow10Tab) :
    Calls Tryd.prog 24 #[.int .i64 n] w fun e w' => e = .returned (.string ⟨(Lib.itoa n).toArray⟩) ∧ Below w.heap.size w w' :=
  (Tryd.strconv_Itoa n h0 h1 w htab).mono fun e w' ⟨he, k, os, hw⟩ => ⟨he, by rw [hw]; exact Lib.below_grow _ _ (Nat.le_refl _) _ _⟩

theorem keepX {w W w2 : World} {v0 v1 : Value} (h : W.cell? ⟨w.heap.size, 0, none⟩ = some v0 ∧ W.cell? ⟨w.heap.size, 1, none⟩ = some v1 ∧ Below w.heap.size w W ∧ w.heap.size < W.heap.size) (hb : Below W.heap.size W w2) : w2.cell? ⟨w.heap.size, 0, none⟩ = some v0 ∧ w2.cell? ⟨w.heap.size, 1, none⟩ = some v1 ∧ Below w.heap.size w w2 ∧ w.heap.size < w2.heap.size := by
  obtain ⟨h0, h1, hB, hz⟩ := h
  obtain ⟨B, hc, hf⟩ := after0 (a := w) hb hB
  have := hb.size
  exact ⟨by rw [hc _ _ (by omega)]; exact h0, by rw [hc _ _ (by omega)]; exact h1, B, by omega⟩
theorem tabX {w W : World} {v0 v1 : Value} {B : Nat} (hT : Pow10 B w) (hB : B ≤ w.heap.size) (h : W.cell? ⟨w.heap.size, 0, none⟩ = some v0 ∧ W.cell? ⟨w.heap.size, 1, none⟩ = some v1 ∧ Below w.heap.size w W ∧ w.heap.size < W.heap.size) : Lib.TabIs Tryd.prog W "internal/strconv.uint64pow10" .u64 Lib.pow10Tab :=
  hT _ (h.2.2.1.mono hB)

set_option maxHeartbeats 4000000 in
theorem Text_any (n d : Int) (w : World) (B : Nat) (hBw : B ≤ w.heap.size) (hT : Hid (Pow10 B w)) (n0 : -9223372036854775808 ≤ n) (n1 : n ≤ 9223372036854775807) (d0 : -9223372036854775808 ≤ d) (d1 : d ≤ 9223372036854775807) (s : List UInt8) (e : Int) (h : textT n d = (s, e)) :
    Calls Tryd.prog 10 #[.agg #[.int .i64 n, .int .i64 d]] w fun r w' => r = .returned (.tuple #[.string ⟨s.toArray⟩, .int .i64 e]) ∧ Below w.heap.size w w' := by
  have CV := fun w => Lib.hid (Valid_any n d w n0 n1 d0 d1)
  have IN := fun w h => Lib.hid (Itoa_b n n0 n1 w h)
  have ID := fun w h => Lib.hid (Itoa_b d d0 d1 w h)
  have ln := Lib.itoa_length_le n n0 n1
  have ld := Lib.itoa_length_le d d0 d1
  unfold textT at h
  by_cases hv : vB n d = true
  · rw [if_pos hv] at h
    obtain ⟨q1, q2⟩ : txt n d = s ∧ (0 : Int) = e := by injection h with h1 h2; exact ⟨h1, h2⟩
    subst q2
    simp only [hv] at CV
    clear h hv
    by_cases h1 : d = 1
    · have Q : Hid (Lib.itoa n = s) := by rw [← q1]; unfold txt; rw [if_pos h1]; rfl
      subst h1
      clear q1
      go_enter Tryd.func10, Tryd.ntmps10
      go_wp2_with (first
        | (go_at_call 15; (with_reducible refine ((CV _).out).mono ?_); rintro e w1 ⟨rfl, hb1⟩; obtain ⟨B1, hc1, hf1, p1, z1⟩ := after1 (a := w) hb1 (by go_grown) (by go_size); clear hb1)
        | (go_at_call 24; have T1 := hT.out _ (B1.mono hBw); (with_reducible refine ((IN _ T1).out).mono ?_); rintro e w2 ⟨rfl, hb2⟩; have B2 := B1.trans (hb2.mono B1.size); clear hb2))
      go_ret2
      exact ⟨by rw [Q.out]; rfl, B2⟩
    · have Q : Hid (Lib.itoa n ++ 47 :: Lib.itoa d = s) := by rw [← q1]; unfold txt; rw [if_neg h1]; rfl
      have h2 : (d == 1) = false := by simpa using h1
      clear q1
      obtain ⟨u, hu⟩ : ∃ u, Lib.itoa n = u := ⟨_, rfl⟩
      obtain ⟨v, hv⟩ : ∃ v, Lib.itoa d = v := ⟨_, rfl⟩
      obtain ⟨m, hm⟩ : ∃ m, u ++ [47] = m := ⟨_, rfl⟩
      simp only [hu] at IN ln
      simp only [hv] at ID ld
      rw [hu, hv] at Q
      have lm : m.length = u.length + 1 := by rw [← hm]; simp
      have A1 : ∀ (w : World), (Op.stringOp .add ⟨u.toArray⟩ ⟨#[47]⟩).run Tryd.prog w = .ok (.string ⟨m.toArray⟩) w := fun w => by rw [← hm]; exact run_string_add_lists w u [47] (by omega) (by simp)
      have A2 : ∀ (w : World), (Op.stringOp .add ⟨m.toArray⟩ ⟨v.toArray⟩).run Tryd.prog w = .ok (.string ⟨s.toArray⟩) w := fun w => by
        rw [← Q.out, show u ++ 47 :: v = m ++ v by rw [← hm]; simp]
        exact run_string_add_lists w m v (by omega) (by omega)
      have Hx := Lib.hid (And.intro hu (And.intro hv (And.intro hm lm)))
      clear hu hv hm lm ln ld
      go_enter Tryd.func10, Tryd.ntmps10
      go_wp2_with (first
        | (go_at_call 15; (with_reducible refine ((CV _).out).mono ?_); rintro e w1 ⟨rfl, hb1⟩; obtain ⟨B1, hc1, hf1, p1, z1⟩ := after1 (a := w) hb1 (by go_grown) (by go_size); have HS := Lib.hid (show w1.cell? ⟨w.heap.size, 0, none⟩ = some (Value.int .i64 n) ∧ w1.cell? ⟨w.heap.size, 1, none⟩ = some (Value.int .i64 d) ∧ Below w.heap.size w w1 ∧ w.heap.size < w1.heap.size from ⟨(hc1 _ _ (by go_size)).trans (by simp [go_sem]), (hc1 _ _ (by go_size)).trans (by simp [go_sem]), B1, p1⟩); clear hb1))
      go_region_held3 (fun WX => WX.cell? ⟨w.heap.size, 0, none⟩ = some (Value.int .i64 n) ∧ WX.cell? ⟨w.heap.size, 1, none⟩ = some (Value.int .i64 d) ∧ Below w.heap.size w WX ∧ w.heap.size < WX.heap.size)
        (first | exact keepX (by assumption) hb | exact keepX HS.out (Below.drew (Below.refl _ _)) | go_keep)
        (first
          | (go_at_call 24; have T1 := tabX (w := w) (v0 := .int .i64 n) (v1 := .int .i64 d) hT.out hBw (by assumption); (with_reducible refine ((IN _ T1).out).mono ?_); clear T1; rintro e w2 ⟨rfl, hb⟩)
          | (go_at_call 24; have T1 := tabX (w := w) (v0 := .int .i64 n) (v1 := .int .i64 d) hT.out hBw (by assumption); (with_reducible refine ((ID _ T1).out).mono ?_); clear T1; rintro e w2 ⟨rfl, hb⟩))
      all_goals
        rename_i hS
        have hB := hS.2.2.1
        clear hS
        go_wp2
        go_ret2
        exact ⟨rfl, hB⟩
  · rw [if_neg hv] at h
    obtain ⟨q1, q2⟩ : ([] : List UInt8) = s ∧ (1 : Int) = e := by injection h with h1 h2; exact ⟨h1, h2⟩
    subst q1; subst q2
    simp only [show vB n d = false by simpa using hv] at CV
    clear h hv
    go_enter Tryd.func10, Tryd.ntmps10
    go_wp2_with (first
      | (go_at_call 15; (with_reducible refine ((CV _).out).mono ?_); rintro e w1 ⟨rfl, hb1⟩; obtain ⟨B1, hc1, hf1, p1, z1⟩ := after1 (a := w) hb1 (by go_grown) (by go_size); clear hb1))
    go_ret2
    exact ⟨rfl, B1⟩

end Go.Proofs.YtfcplndfoboaaaaDoor
