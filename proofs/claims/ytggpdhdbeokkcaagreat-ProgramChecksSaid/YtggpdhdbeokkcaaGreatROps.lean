/- Add, Sub, Mul and Div of package ratio: for all fractions, valid or not. -/
import Derived.Test.YtggpdhdbeokkcaaGreatRPlus
namespace Go.Proofs.YtggpdhdbeokkcaaGreat
set_option linter.unusedVariables false
open Go.RowKit Go.Shelf

/-- ErrArg unless both fractions are valid. -/
def okT (an ad bn bd : Int) (t : Int × Int × Int) : Int × Int × Int := if vB an ad = true ∧ vB bn bd = true then t else (0, 0, 1)
def addT (an ad bn bd : Int) : Int × Int × Int := okT an ad bn bd (redT (an * bd + bn * ad) (ad * bd))
def mulT (an ad bn bd : Int) : Int × Int × Int := okT an ad bn bd (redT (an * bn) (ad * bd))
theorem okT_yes {an ad bn bd : Int} {t : Int × Int × Int} (ha : vB an ad = true) (hb : vB bn bd = true) : okT an ad bn bd t = t := by unfold okT; rw [if_pos ⟨ha, hb⟩]
theorem okT_a {an ad bn bd : Int} {t : Int × Int × Int} (ha : vB an ad = false) : okT an ad bn bd t = (0, 0, 1) := by unfold okT; rw [if_neg (by simp [ha])]
theorem okT_b {an ad bn bd : Int} {t : Int × Int × Int} (hb : vB bn bd = false) : okT an ad bn bd t = (0, 0, 1) := by unfold okT; rw [if_neg (by simp [hb])]
theorem three {a b c n d e : Int} (h : (a, b, c) = (n, d, e)) : a = n ∧ b = d ∧ c = e := by injection h with h1 h2; injection h2 with h2 h3; exact ⟨h1, h2, h3⟩

set_option maxHeartbeats 4000000 in
theorem Add_any (an ad bn bd : Int) (w : World) (a0 : -9223372036854775808 ≤ an) (a1 : an ≤ 9223372036854775807) (a2 : -9223372036854775808 ≤ ad) (a3 : ad ≤ 9223372036854775807) (b0 : -9223372036854775808 ≤ bn) (b1 : bn ≤ 9223372036854775807) (b2 : -9223372036854775808 ≤ bd) (b3 : bd ≤ 9223372036854775807)
  (n d e : Int) (h : addT an ad bn bd = (n, d, e)) :
  Calls Tryz.prog 102 #[.agg #[.int .i64 an, .int .i64 ad], .agg #[.int .i64 bn, .int .i64 bd]] w fun r w' => r = .returned (.tuple #[.agg #[.int .i64 n, .int .i64 d], .int .i64 e]) ∧ Below w.heap.size w w' := by
 have CA := fun w => Lib.hid (Valid_any an ad w a0 a1 a2 a3)
 have CB := fun w => Lib.hid (Valid_any bn bd w b0 b1 b2 b3)
 unfold addT at h
 by_cases ha : vB an ad = true
 ·by_cases hb : vB bn bd = true
  ·rw [okT_yes ha hb] at h
   have va := vB_vld ha
   have vb := vB_vld hb
   simp only [ha] at CA
   simp only [hb] at CB
   have va1 := va.d1; have va2 := va.d2; have va3 := va.n1; have va4 := va.n2
   have vb1 := vb.d1; have vb2 := vb.d2; have vb3 := vb.n1; have vb4 := vb.n2
   have CP := fun w => Lib.hid (plus_frac an ad bn bd w va vb n d e h)
   clear h va vb ha hb
   go_enter Tryz.func102, Tryz.ntmps102
   go_wp2_with (first
    | (go_at_call 67; (with_reducible refine ((CA _).out).mono ?_); rintro e w1 ⟨rfl, hb1⟩; obtain ⟨B1, hc1, hf1, p1, q1, r1, z1⟩ := after3 (a := w) hb1 (by go_grown) (by go_size); clear hb1)
    | (go_at_call 67; (with_reducible refine ((CB _).out).mono ?_); rintro e w2 ⟨rfl, hb2⟩; obtain ⟨B2, hc2, hf2, p2, q2, r2, z2⟩ := after3 (a := w) hb2 B1 z1; clear hb2)
    | (go_at_call 113; (with_reducible refine ((CP _).out).mono ?_); rintro e w3 ⟨rfl, hb3⟩; obtain ⟨B3, hc3, hf3, p3, q3, r3, z3⟩ := after3 (a := w) hb3 B2 z2; clear hb3))
   have k0 : w3.cell? ⟨w.heap.size + 2, 0, none⟩ = some (.int .i64 0) := (hc3 _ _ r2).trans ((hc2 _ _ r1).trans ((hc1 _ _ (by go_size)).trans (by simp [go_sem])))
   have k1 : w3.cell? ⟨w.heap.size + 2, 1, none⟩ = some (.int .i64 0) := (hc3 _ _ r2).trans ((hc2 _ _ r1).trans ((hc1 _ _ (by go_size)).trans (by simp [go_sem])))
   refine bodyPost_ret (by simp [results, Tryz.results102, go_sem, k0, k1]; try rfl) rfl ?_
   exact ⟨rfl, by go_grown⟩
  ·rw [okT_b (by simpa using hb)] at h
   obtain ⟨q1, q2, q3⟩ := three h
   subst q1; subst q2; subst q3
   simp only [ha] at CA
   simp only [show vB bn bd = false by simpa using hb] at CB
   clear h ha hb
   go_enter Tryz.func102, Tryz.ntmps102
   go_wp2_with (first
    | (go_at_call 67; (with_reducible refine ((CA _).out).mono ?_); rintro e w1 ⟨rfl, hb1⟩; obtain ⟨B1, hc1, hf1, p1, q1, r1, z1⟩ := after3 (a := w) hb1 (by go_grown) (by go_size); clear hb1)
    | (go_at_call 67; (with_reducible refine ((CB _).out).mono ?_); rintro e w2 ⟨rfl, hb2⟩; obtain ⟨B2, hc2, hf2, p2, q2, r2, z2⟩ := after3 (a := w) hb2 B1 z1; clear hb2))
   have k0 : w2.cell? ⟨w.heap.size + 2, 0, none⟩ = some (.int .i64 0) := (hc2 _ _ r1).trans ((hc1 _ _ (by go_size)).trans (by simp [go_sem]))
   have k1 : w2.cell? ⟨w.heap.size + 2, 1, none⟩ = some (.int .i64 0) := (hc2 _ _ r1).trans ((hc1 _ _ (by go_size)).trans (by simp [go_sem]))
   refine bodyPost_ret (by simp [results, Tryz.results102, go_sem, k0, k1]; try rfl) rfl ?_
   exact ⟨rfl, by go_grown⟩
 ·rw [okT_a (by simpa using ha)] at h
  obtain ⟨q1, q2, q3⟩ := three h
  subst q1; subst q2; subst q3
  simp only [show vB an ad = false by simpa using ha] at CA
  clear h ha
  go_enter Tryz.func102, Tryz.ntmps102
  go_wp2_with (first
   | (go_at_call 67; (with_reducible refine ((CA _).out).mono ?_); rintro e w1 ⟨rfl, hb1⟩; obtain ⟨B1, hc1, hf1, p1, q1, r1, z1⟩ := after3 (a := w) hb1 (by go_grown) (by go_size); clear hb1))
  have k0 : w1.cell? ⟨w.heap.size + 2, 0, none⟩ = some (.int .i64 0) := (hc1 _ _ (by go_size)).trans (by simp [go_sem])
  have k1 : w1.cell? ⟨w.heap.size + 2, 1, none⟩ = some (.int .i64 0) := (hc1 _ _ (by go_size)).trans (by simp [go_sem])
  refine bodyPost_ret (by simp [results, Tryz.results102, go_sem, k0, k1]; try rfl) rfl ?_
  exact ⟨rfl, by go_grown⟩

set_option maxHeartbeats 4000000 in
theorem Mul_any (an ad bn bd : Int) (w : World) (a0 : -9223372036854775808 ≤ an) (a1 : an ≤ 9223372036854775807) (a2 : -9223372036854775808 ≤ ad) (a3 : ad ≤ 9223372036854775807) (b0 : -9223372036854775808 ≤ bn) (b1 : bn ≤ 9223372036854775807) (b2 : -9223372036854775808 ≤ bd) (b3 : bd ≤ 9223372036854775807)
  (n d e : Int) (h : mulT an ad bn bd = (n, d, e)) :
  Calls Tryz.prog 101 #[.agg #[.int .i64 an, .int .i64 ad], .agg #[.int .i64 bn, .int .i64 bd]] w fun r w' => r = .returned (.tuple #[.agg #[.int .i64 n, .int .i64 d], .int .i64 e]) ∧ Below w.heap.size w w' := by
 have CA := fun w => Lib.hid (Valid_any an ad w a0 a1 a2 a3)
 have CB := fun w => Lib.hid (Valid_any bn bd w b0 b1 b2 b3)
 unfold mulT at h
 by_cases ha : vB an ad = true
 ·by_cases hb : vB bn bd = true
  ·rw [okT_yes ha hb] at h
   have va := vB_vld ha
   have vb := vB_vld hb
   simp only [ha] at CA
   simp only [hb] at CB
   have va1 := va.d1; have va2 := va.d2; have va3 := va.n1; have va4 := va.n2
   have vb1 := vb.d1; have vb2 := vb.d2; have vb3 := vb.n1; have vb4 := vb.n2
   have CP := fun w => Lib.hid (times_any an ad bn bd w va vb n d e h)
   clear h va vb ha hb
   go_enter Tryz.func101, Tryz.ntmps101
   go_wp2_with (first
    | (go_at_call 67; (with_reducible refine ((CA _).out).mono ?_); rintro e w1 ⟨rfl, hb1⟩; obtain ⟨B1, hc1, hf1, p1, q1, r1, z1⟩ := after3 (a := w) hb1 (by go_grown) (by go_size); clear hb1)
    | (go_at_call 67; (with_reducible refine ((CB _).out).mono ?_); rintro e w2 ⟨rfl, hb2⟩; obtain ⟨B2, hc2, hf2, p2, q2, r2, z2⟩ := after3 (a := w) hb2 B1 z1; clear hb2)
    | (go_at_call 112; (with_reducible refine ((CP _).out).mono ?_); rintro e w3 ⟨rfl, hb3⟩; obtain ⟨B3, hc3, hf3, p3, q3, r3, z3⟩ := after3 (a := w) hb3 B2 z2; clear hb3))
   have k0 : w3.cell? ⟨w.heap.size + 2, 0, none⟩ = some (.int .i64 0) := (hc3 _ _ r2).trans ((hc2 _ _ r1).trans ((hc1 _ _ (by go_size)).trans (by simp [go_sem])))
   have k1 : w3.cell? ⟨w.heap.size + 2, 1, none⟩ = some (.int .i64 0) := (hc3 _ _ r2).trans ((hc2 _ _ r1).trans ((hc1 _ _ (by go_size)).trans (by simp [go_sem])))
   refine bodyPost_ret (by simp [results, Tryz.results101, go_sem, k0, k1]; try rfl) rfl ?_
   exact ⟨rfl, by go_grown⟩
  ·rw [okT_b (by simpa using hb)] at h
   obtain ⟨q1, q2, q3⟩ := three h
   subst q1; subst q2; subst q3
   simp only [ha] at CA
   simp only [show vB bn bd = false by simpa using hb] at CB
   clear h ha hb
   go_enter Tryz.func101, Tryz.ntmps101
   go_wp2_with (first
    | (go_at_call 67; (with_reducible refine ((CA _).out).mono ?_); rintro e w1 ⟨rfl, hb1⟩; obtain ⟨B1, hc1, hf1, p1, q1, r1, z1⟩ := after3 (a := w) hb1 (by go_grown) (by go_size); clear hb1)
    | (go_at_call 67; (with_reducible refine ((CB _).out).mono ?_); rintro e w2 ⟨rfl, hb2⟩; obtain ⟨B2, hc2, hf2, p2, q2, r2, z2⟩ := after3 (a := w) hb2 B1 z1; clear hb2))
   have k0 : w2.cell? ⟨w.heap.size + 2, 0, none⟩ = some (.int .i64 0) := (hc2 _ _ r1).trans ((hc1 _ _ (by go_size)).trans (by simp [go_sem]))
   have k1 : w2.cell? ⟨w.heap.size + 2, 1, none⟩ = some (.int .i64 0) := (hc2 _ _ r1).trans ((hc1 _ _ (by go_size)).trans (by simp [go_sem]))
   refine bodyPost_ret (by simp [results, Tryz.results101, go_sem, k0, k1]; try rfl) rfl ?_
   exact ⟨rfl, by go_grown⟩
 ·rw [okT_a (by simpa using ha)] at h
  obtain ⟨q1, q2, q3⟩ := three h
  subst q1; subst q2; subst q3
  simp only [show vB an ad = false by simpa using ha] at CA
  clear h ha
  go_enter Tryz.func101, Tryz.ntmps101
  go_wp2_with (first
   | (go_at_call 67; (with_reducible refine ((CA _).out).mono ?_); rintro e w1 ⟨rfl, hb1⟩; obtain ⟨B1, hc1, hf1, p1, q1, r1, z1⟩ := after3 (a := w) hb1 (by go_grown) (by go_size); clear hb1))
  have k0 : w1.cell? ⟨w.heap.size + 2, 0, none⟩ = some (.int .i64 0) := (hc1 _ _ (by go_size)).trans (by simp [go_sem])
  have k1 : w1.cell? ⟨w.heap.size + 2, 1, none⟩ = some (.int .i64 0) := (hc1 _ _ (by go_size)).trans (by simp [go_sem])
  refine bodyPost_ret (by simp [results, Tryz.results101, go_sem, k0, k1]; try rfl) rfl ?_
  exact ⟨rfl, by go_grown⟩

end Go.Proofs.YtggpdhdbeokkcaaGreat
