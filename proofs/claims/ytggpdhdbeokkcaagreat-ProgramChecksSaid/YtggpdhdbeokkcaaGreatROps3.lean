/- Cmp and Make of package ratio. -/
import Derived.Test.YtggpdhdbeokkcaaGreatROps2
namespace Go.Proofs.YtggpdhdbeokkcaaGreat
set_option linter.unusedVariables false
open Go.RowKit Go.Shelf

theorem keepU {w W w2 : World} {v0 v1 v2 v3 : Value} (h : W.cell? ⟨w.heap.size, 0, none⟩ = some v0 ∧ W.cell? ⟨w.heap.size, 1, none⟩ = some v1 ∧ W.cell? ⟨w.heap.size + 1, 0, none⟩ = some v2 ∧ W.cell? ⟨w.heap.size + 1, 1, none⟩ = some v3 ∧ Below w.heap.size w W ∧ w.heap.size + 1 < W.heap.size) (hb : Below W.heap.size W w2) : w2.cell? ⟨w.heap.size, 0, none⟩ = some v0 ∧ w2.cell? ⟨w.heap.size, 1, none⟩ = some v1 ∧ w2.cell? ⟨w.heap.size + 1, 0, none⟩ = some v2 ∧ w2.cell? ⟨w.heap.size + 1, 1, none⟩ = some v3 ∧ Below w.heap.size w w2 ∧ w.heap.size + 1 < w2.heap.size := by
 obtain ⟨h0, h1, h2, h3, hB, hz⟩ := h
 obtain ⟨B, hc, hf⟩ := after0 (a := w) hb hB
 have := hb.size
 exact ⟨by rw [hc _ _ (by omega)]; exact h0, by rw [hc _ _ (by omega)]; exact h1, by rw [hc _ _ (by omega)]; exact h2, by rw [hc _ _ (by omega)]; exact h3, B, by omega⟩
theorem keepM {w W w2 : World} {v0 v1 : Value} (h : W.cell? ⟨w.heap.size + 1, 0, none⟩ = some v0 ∧ W.cell? ⟨w.heap.size + 1, 1, none⟩ = some v1 ∧ Below w.heap.size w W ∧ w.heap.size + 1 < W.heap.size ∧ (W.cell? ⟨w.heap.size, 0, none⟩).isSome = true ∧ (W.cell? ⟨w.heap.size, 1, none⟩).isSome = true ∧ W.frozen? ⟨w.heap.size, 0, none⟩ = false ∧ W.frozen? ⟨w.heap.size, 1, none⟩ = false) (hb : Below W.heap.size W w2) : w2.cell? ⟨w.heap.size + 1, 0, none⟩ = some v0 ∧ w2.cell? ⟨w.heap.size + 1, 1, none⟩ = some v1 ∧ Below w.heap.size w w2 ∧ w.heap.size + 1 < w2.heap.size ∧ (w2.cell? ⟨w.heap.size, 0, none⟩).isSome = true ∧ (w2.cell? ⟨w.heap.size, 1, none⟩).isSome = true ∧ w2.frozen? ⟨w.heap.size, 0, none⟩ = false ∧ w2.frozen? ⟨w.heap.size, 1, none⟩ = false := by
 obtain ⟨h0, h1, hB, hz, h4, h5, h6, h7⟩ := h
 obtain ⟨B, hc, hf⟩ := after0 (a := w) hb hB
 have := hb.size
 exact ⟨by rw [hc _ _ (by omega)]; exact h0, by rw [hc _ _ (by omega)]; exact h1, B, by omega, by rw [hc _ _ (by omega)]; exact h4, by rw [hc _ _ (by omega)]; exact h5, by rw [hf _ _ (by omega)]; exact h6, by rw [hf _ _ (by omega)]; exact h7⟩
theorem keepMR {w W w2 : World} {v0 v1 : Value} (h : W.cell? ⟨w.heap.size + 1, 0, none⟩ = some v0 ∧ W.cell? ⟨w.heap.size + 1, 1, none⟩ = some v1 ∧ Below w.heap.size w W ∧ w.heap.size + 1 < W.heap.size ∧ (W.cell? ⟨w.heap.size, 0, none⟩).isSome = true ∧ (W.cell? ⟨w.heap.size, 1, none⟩).isSome = true ∧ W.frozen? ⟨w.heap.size, 0, none⟩ = false ∧ W.frozen? ⟨w.heap.size, 1, none⟩ = false) (hb : Below W.heap.size W w2) : ∃ r0 r1, w2.cell? ⟨w.heap.size, 0, none⟩ = some r0 ∧ w2.cell? ⟨w.heap.size, 1, none⟩ = some r1 := by
 obtain ⟨_, _, _, _, h4, h5, _, _⟩ := keepM h hb
 obtain ⟨r0, h0⟩ := Option.isSome_iff_exists.1 h4
 obtain ⟨r1, h1⟩ := Option.isSome_iff_exists.1 h5
 exact ⟨r0, r1, h0, h1⟩
theorem storeM {w W : World} {v0 v1 x y : Value} (h : W.cell? ⟨w.heap.size + 1, 0, none⟩ = some v0 ∧ W.cell? ⟨w.heap.size + 1, 1, none⟩ = some v1 ∧ Below w.heap.size w W ∧ w.heap.size + 1 < W.heap.size ∧ (W.cell? ⟨w.heap.size, 0, none⟩).isSome = true ∧ (W.cell? ⟨w.heap.size, 1, none⟩).isSome = true ∧ W.frozen? ⟨w.heap.size, 0, none⟩ = false ∧ W.frozen? ⟨w.heap.size, 1, none⟩ = false) : ((W.setCell ⟨w.heap.size, 0, none⟩ x).setCell ⟨w.heap.size, 1, none⟩ y).cell? ⟨w.heap.size + 1, 0, none⟩ = some v0 ∧ ((W.setCell ⟨w.heap.size, 0, none⟩ x).setCell ⟨w.heap.size, 1, none⟩ y).cell? ⟨w.heap.size + 1, 1, none⟩ = some v1 ∧ Below w.heap.size w ((W.setCell ⟨w.heap.size, 0, none⟩ x).setCell ⟨w.heap.size, 1, none⟩ y) ∧ w.heap.size + 1 < ((W.setCell ⟨w.heap.size, 0, none⟩ x).setCell ⟨w.heap.size, 1, none⟩ y).heap.size ∧ (((W.setCell ⟨w.heap.size, 0, none⟩ x).setCell ⟨w.heap.size, 1, none⟩ y).cell? ⟨w.heap.size, 0, none⟩).isSome = true ∧ (((W.setCell ⟨w.heap.size, 0, none⟩ x).setCell ⟨w.heap.size, 1, none⟩ y).cell? ⟨w.heap.size, 1, none⟩).isSome = true ∧ ((W.setCell ⟨w.heap.size, 0, none⟩ x).setCell ⟨w.heap.size, 1, none⟩ y).frozen? ⟨w.heap.size, 0, none⟩ = false ∧ ((W.setCell ⟨w.heap.size, 0, none⟩ x).setCell ⟨w.heap.size, 1, none⟩ y).frozen? ⟨w.heap.size, 1, none⟩ = false := by
 obtain ⟨h0, h1, hB, hz, h4, h5, h6, h7⟩ := h
 have far : ∀ (p : Addr) (b o : Nat) (V : World) (v : Value), p.block ≠ b → (V.setCell p v).cell? ⟨b, o, none⟩ = V.cell? ⟨b, o, none⟩ := fun p b o V v hne => World.cell?_setCell_far V p ⟨b, o, none⟩ v hne
 refine ⟨?_, ?_, ?_, ?_, ?_, ?_, ?_, ?_⟩
 ·rw [far _ _ _ _ _ (by simp), far _ _ _ _ _ (by simp)]; exact h0
 ·rw [far _ _ _ _ _ (by simp), far _ _ _ _ _ (by simp)]; exact h1
 ·exact (hB.setCell (by simp) _).setCell (by simp) _
 ·simpa using hz
 ·rw [two0 h4]; rfl
 ·rw [two1 h5]; rfl
 ·simpa using h6
 ·simpa using h7

set_option maxHeartbeats 4000000 in
theorem Cmp_any (an ad bn bd : Int) (w : World) (a0 : -9223372036854775808 ≤ an) (a1 : an ≤ 9223372036854775807) (a2 : -9223372036854775808 ≤ ad) (a3 : ad ≤ 9223372036854775807) (b0 : -9223372036854775808 ≤ bn) (b1 : bn ≤ 9223372036854775807) (b2 : -9223372036854775808 ≤ bd) (b3 : bd ≤ 9223372036854775807)
  (k e : Int) (h : cmpT an ad bn bd = (k, e)) :
  Calls Tryz.prog 103 #[.agg #[.int .i64 an, .int .i64 ad], .agg #[.int .i64 bn, .int .i64 bd]] w fun r w' => r = .returned (.tuple #[.int .i64 k, .int .i64 e]) ∧ Below w.heap.size w w' := by
 have CA := fun w => Lib.hid (Valid_any an ad w a0 a1 a2 a3)
 have CB := fun w => Lib.hid (Valid_any bn bd w b0 b1 b2 b3)
 unfold cmpT at h
 by_cases ha : vB an ad = true
 ·by_cases hb : vB bn bd = true
  ·rw [if_pos ⟨ha, hb⟩] at h
   obtain ⟨q1, q2⟩ := two h
   subst q1; subst q2
   have va := vB_vld ha
   have vb := vB_vld hb
   simp only [ha] at CA
   simp only [hb] at CB
   have va1 := va.d1; have va2 := va.d2; have va3 := va.n1; have va4 := va.n2
   have vb1 := vb.d1; have vb2 := vb.d2; have vb3 := vb.n1; have vb4 := vb.n2
   obtain ⟨m1, m2⟩ := mul_bd (a := an) (b := bd) (by omega) (by omega) (by omega) (by omega)
   obtain ⟨m3, m4⟩ := mul_bd (a := -bn) (b := ad) (by omega) (by omega) (by omega) (by omega)
   have CX := fun w => Lib.hid (product_any an bd w a0 a1 (by omega) (by omega))
   have CY := fun w => Lib.hid (product_any (-bn) ad w (by omega) (by omega) (by omega) (by omega))
   have CP := fun w => Lib.hid (plus_any (an * bd) (-bn * ad) w)
   have CS := fun w => Lib.hid (sign_any (an * bd + -bn * ad) w (by omega) (by omega))
   clear h va vb ha hb m1 m2 m3 m4
   generalize hiW (an * bd) = h1 at *
   generalize loW (an * bd) = h2 at *
   generalize hiW (-bn * ad) = h3 at *
   generalize loW (-bn * ad) = h4 at *
   generalize hiW (an * bd + -bn * ad) = h5 at *
   generalize loW (an * bd + -bn * ad) = h6 at *
   generalize sgn (an * bd + -bn * ad) = sg at *
   have wb : IntKind.i64.wrap (-bn) = -bn := IntWalk.i64_in _ (by omega)
   go_enter Tryz.func103, Tryz.ntmps103
   go_wp2_with (first
    | (go_at_call 67; (with_reducible refine ((CA _).out).mono ?_); rintro e w1 ⟨rfl, hb1⟩; obtain ⟨B1, hc1, hf1, p1, q1, z1⟩ := after2 (a := w) hb1 (by go_grown) (by go_size); have s1 : w1.cell? ⟨w.heap.size, 0, none⟩ = some (.int .i64 an) ∧ w1.cell? ⟨w.heap.size, 1, none⟩ = some (.int .i64 ad) ∧ w1.cell? ⟨w.heap.size + 1, 0, none⟩ = some (.int .i64 bn) ∧ w1.cell? ⟨w.heap.size + 1, 1, none⟩ = some (.int .i64 bd) := ⟨(hc1 _ _ (by go_size)).trans (by simp [go_sem]), (hc1 _ _ (by go_size)).trans (by simp [go_sem]), (hc1 _ _ (by go_size)).trans (by simp [go_sem]), (hc1 _ _ (by go_size)).trans (by simp [go_sem])⟩; have HS1 := Lib.hid (And.intro s1.1 (And.intro s1.2.1 (And.intro s1.2.2.1 (And.intro s1.2.2.2 (And.intro B1 q1))))); clear s1 hb1)
    | (go_at_call 67; (with_reducible refine ((CB _).out).mono ?_); rintro e w2 ⟨rfl, hb2⟩; have HS2 := Lib.hid (keepU HS1.out hb2); clear hb2))
   go_region_held3 (fun WX => WX.cell? ⟨w.heap.size, 0, none⟩ = some (Value.int .i64 an) ∧ WX.cell? ⟨w.heap.size, 1, none⟩ = some (Value.int .i64 ad) ∧ WX.cell? ⟨w.heap.size + 1, 0, none⟩ = some (Value.int .i64 bn) ∧ WX.cell? ⟨w.heap.size + 1, 1, none⟩ = some (Value.int .i64 bd) ∧ Below w.heap.size w WX ∧ w.heap.size + 1 < WX.heap.size)
    (first | exact keepU (by assumption) hb | exact keepU HS2.out (Below.drew (Below.refl _ _)) | go_keep)
    (first
     | (go_at_call 114; (with_reducible refine ((CX _).out).mono ?_); rintro e w2 ⟨rfl, hb⟩)
     | (go_at_call 114; (with_reducible refine ((CY _).out).mono ?_); rintro e w2 ⟨rfl, hb⟩)
     | (go_at_call 115; (with_reducible refine ((CP _).out).mono ?_); rintro e w2 ⟨rfl, hb⟩)
     | (go_at_call 116; (with_reducible refine ((CS _).out).mono ?_); rintro e w2 ⟨rfl, hb⟩))
   all_goals
    rename_i hS
    have hB := hS.2.2.2.2.1
    clear hS
    go_wp2
    go_ret2
    exact ⟨rfl, hB⟩
  ·rw [if_neg (by simp [hb])] at h
   obtain ⟨q1, q2⟩ := two h
   subst q1; subst q2
   simp only [ha] at CA
   simp only [show vB bn bd = false by simpa using hb] at CB
   clear h ha hb
   go_enter Tryz.func103, Tryz.ntmps103
   go_wp2_with (first
    | (go_at_call 67; (with_reducible refine ((CA _).out).mono ?_); rintro e w1 ⟨rfl, hb1⟩; obtain ⟨B1, hc1, hf1, p1, q1, z1⟩ := after2 (a := w) hb1 (by go_grown) (by go_size); clear hb1)
    | (go_at_call 67; (with_reducible refine ((CB _).out).mono ?_); rintro e w2 ⟨rfl, hb2⟩; obtain ⟨B2, hc2, hf2, p2, q2, z2⟩ := after2 (a := w) hb2 B1 z1; clear hb2))
   go_ret2
   exact ⟨rfl, by go_grown⟩
 ·rw [if_neg (by simp [ha])] at h
  obtain ⟨q1, q2⟩ := two h
  subst q1; subst q2
  simp only [show vB an ad = false by simpa using ha] at CA
  clear h ha
  go_enter Tryz.func103, Tryz.ntmps103
  go_wp2_with (first
   | (go_at_call 67; (with_reducible refine ((CA _).out).mono ?_); rintro e w1 ⟨rfl, hb1⟩; obtain ⟨B1, hc1, hf1, p1, q1, z1⟩ := after2 (a := w) hb1 (by go_grown) (by go_size); clear hb1))
  go_ret2
  exact ⟨rfl, by go_grown⟩

end Go.Proofs.YtggpdhdbeokkcaaGreat
