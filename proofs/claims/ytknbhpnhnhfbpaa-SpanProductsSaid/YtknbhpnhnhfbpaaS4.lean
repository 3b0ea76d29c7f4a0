/- Layer 3: Mul, Div, Times and Of of package span. -/
import Derived.Test.YtknbhpnhnhfbpaaS3
import Derived.Test.YtknbhpnhnhfbpaaRFrac
namespace Go.Proofs.Ytknbhpnhnhfbpaa
set_option linter.unusedVariables false
open Go.RowKit Go.Shelf

def mulS (al ah bl bh : Int) : Int × Int × Int := arS [(al, bl, 1), (al, bh, 1), (ah, bl, 1), (ah, bh, 1)] 1152921504606846976 (-1152921504606846976)
def divS (al ah bl bh : Int) : Int × Int × Int := if bl ≤ 0 ∧ 0 ≤ bh then (0, 0, 16) else arS [(al, 1, bl), (al, 1, bh), (ah, 1, bl), (ah, 1, bh)] 1152921504606846976 (-1152921504606846976)
def sMul (al ah bl bh : Int) : Int × Int × Int := okS al ah bl bh (mulS al ah bl bh)
def sDiv (al ah bl bh : Int) : Int × Int × Int := okS al ah bl bh (divS al ah bl bh)
def timS (al ah num den : Int) : Int × Int × Int := if den = 0 then (0, 0, 16) else if isN num = true ∧ isN den = true then arS [(al, num, den), (ah, num, den)] 1152921504606846976 (-1152921504606846976) else (0, 0, 2)
def sTimes (al ah num den : Int) : Int × Int × Int := if sV al ah = true then timS al ah num den else (0, 0, 1)
def ofS (n d unit : Int) : Int × Int × Int := if unit < 1 ∨ 1099511627776 < unit then (0, 0, 2) else arS [(n, unit, d)] 1152921504606846976 (-1152921504606846976)
def sOf (n d unit : Int) : Int × Int × Int := if vB n d = true then ofS n d unit else (0, 0, 1)

theorem around4 (x0 y0 z0 x1 y1 z1 x2 y2 z2 x3 y3 z3 : Int) (W : World) (o0 : QOk (x0, y0, z0)) (o1 : QOk (x1, y1, z1)) (o2 : QOk (x2, y2, z2)) (o3 : QOk (x3, y3, z3)) (n d e : Int) (h : arS [(x0, y0, z0), (x1, y1, z1), (x2, y2, z2), (x3, y3, z3)] 1152921504606846976 (-1152921504606846976) = (n, d, e)) :
    Calls Try.prog 49 #[.slice (some ⟨W.heap.size, 0, none⟩) 4 4] (W.alloc (Obj.cells #[.int .i64 x0, .int .i64 y0, .int .i64 z0, .int .i64 x1, .int .i64 y1, .int .i64 z1, .int .i64 x2, .int .i64 y2, .int .i64 z2, .int .i64 x3, .int .i64 y3, .int .i64 z3] 65)) fun r w' => r = .returned (.tuple #[.agg #[.int .i64 n, .int .i64 d], .int .i64 e]) ∧ Below W.heap.size W w' := by
  have hq : Hid (Qs (W.alloc (Obj.cells #[.int .i64 x0, .int .i64 y0, .int .i64 z0, .int .i64 x1, .int .i64 y1, .int .i64 z1, .int .i64 x2, .int .i64 y2, .int .i64 z2, .int .i64 x3, .int .i64 y3, .int .i64 z3] 65)) W.heap.size [(x0, y0, z0), (x1, y1, z1), (x2, y2, z2), (x3, y3, z3)]) := by
    intro k hk
    match k, hk with
    | 0, _ => exact ⟨by simp [go_sem], by simp [go_sem], by simp [go_sem]⟩
    | 1, _ => exact ⟨by simp [go_sem], by simp [go_sem], by simp [go_sem]⟩
    | 2, _ => exact ⟨by simp [go_sem], by simp [go_sem], by simp [go_sem]⟩
    | 3, _ => exact ⟨by simp [go_sem], by simp [go_sem], by simp [go_sem]⟩
    | (j + 4), hj => exact absurd hj (by simp)
  refine (around_any [(x0, y0, z0), (x1, y1, z1), (x2, y2, z2), (x3, y3, z3)] W.heap.size _ (by simp) (by simp) hq (by intro q hq; simp at hq; rcases hq with rfl | rfl | rfl | rfl; exact o0; exact o1; exact o2; exact o3) n d e h).mono fun r w' ⟨hr, hb⟩ => ⟨hr, below_on ((Below.refl _ _).alloc (Nat.le_refl _) _) hb⟩

theorem around2 (x0 y0 z0 x1 y1 z1 : Int) (W : World) (o0 : QOk (x0, y0, z0)) (o1 : QOk (x1, y1, z1)) (n d e : Int) (h : arS [(x0, y0, z0), (x1, y1, z1)] 1152921504606846976 (-1152921504606846976) = (n, d, e)) :
    Calls Try.prog 49 #[.slice (some ⟨W.heap.size, 0, none⟩) 2 2] (W.alloc (Obj.cells #[.int .i64 x0, .int .i64 y0, .int .i64 z0, .int .i64 x1, .int .i64 y1, .int .i64 z1] 65)) fun r w' => r = .returned (.tuple #[.agg #[.int .i64 n, .int .i64 d], .int .i64 e]) ∧ Below W.heap.size W w' := by
  have hq : Hid (Qs (W.alloc (Obj.cells #[.int .i64 x0, .int .i64 y0, .int .i64 z0, .int .i64 x1, .int .i64 y1, .int .i64 z1] 65)) W.heap.size [(x0, y0, z0), (x1, y1, z1)]) := by
    intro k hk
    match k, hk with
    | 0, _ => exact ⟨by simp [go_sem], by simp [go_sem], by simp [go_sem]⟩
    | 1, _ => exact ⟨by simp [go_sem], by simp [go_sem], by simp [go_sem]⟩
    | (j + 2), hj => exact absurd hj (by simp)
  refine (around_any [(x0, y0, z0), (x1, y1, z1)] W.heap.size _ (by simp) (by simp) hq (by intro q hq; simp at hq; rcases hq with rfl | rfl; exact o0; exact o1) n d e h).mono fun r w' ⟨hr, hb⟩ => ⟨hr, below_on ((Below.refl _ _).alloc (Nat.le_refl _) _) hb⟩

theorem around1 (x0 y0 z0 : Int) (W : World) (o0 : QOk (x0, y0, z0)) (n d e : Int) (h : arS [(x0, y0, z0)] 1152921504606846976 (-1152921504606846976) = (n, d, e)) :
    Calls Try.prog 49 #[.slice (some ⟨W.heap.size, 0, none⟩) 1 1] (W.alloc (Obj.cells #[.int .i64 x0, .int .i64 y0, .int .i64 z0] 65)) fun r w' => r = .returned (.tuple #[.agg #[.int .i64 n, .int .i64 d], .int .i64 e]) ∧ Below W.heap.size W w' := by
  have hq : Hid (Qs (W.alloc (Obj.cells #[.int .i64 x0, .int .i64 y0, .int .i64 z0] 65)) W.heap.size [(x0, y0, z0)]) := by
    intro k hk
    match k, hk with
    | 0, _ => exact ⟨by simp [go_sem], by simp [go_sem], by simp [go_sem]⟩
    | (j + 1), hj => exact absurd hj (by simp)
  refine (around_any [(x0, y0, z0)] W.heap.size _ (by simp) (by simp) hq (by intro q hq; simp at hq; subst hq; exact o0) n d e h).mono fun r w' ⟨hr, hb⟩ => ⟨hr, below_on ((Below.refl _ _).alloc (Nat.le_refl _) _) hb⟩

theorem q_ok {a b c : Int} (a0 : -1152921504606846976 ≤ a) (a1 : a ≤ 1152921504606846976) (b0 : -1152921504606846976 ≤ b) (b1 : b ≤ 1152921504606846976) (c0 : -1152921504606846976 ≤ c) (c1 : c ≤ 1152921504606846976) (c2 : c ≠ 0) : QOk (a, b, c) := ⟨a0, a1, b0, b1, c0, c1, c2⟩

set_option maxHeartbeats 4000000 in
theorem sMul_any (al ah bl bh : Int) (w : World) (a0 : -9223372036854775808 ≤ al) (a1 : al ≤ 9223372036854775807) (a2 : -9223372036854775808 ≤ ah) (a3 : ah ≤ 9223372036854775807) (b0 : -9223372036854775808 ≤ bl) (b1 : bl ≤ 9223372036854775807) (b2 : -9223372036854775808 ≤ bh) (b3 : bh ≤ 9223372036854775807)
    (n d e : Int) (h : sMul al ah bl bh = (n, d, e)) :
    Calls Try.prog 23 #[.agg #[.int .i64 al, .int .i64 ah], .agg #[.int .i64 bl, .int .i64 bh]] w fun r w' => r = .returned (.tuple #[.agg #[.int .i64 n, .int .i64 d], .int .i64 e]) ∧ Below w.heap.size w w' := by
  have CA := fun w => Lib.hid (sValid_any al ah w)
  have CB := fun w => Lib.hid (sValid_any bl bh w)
  unfold sMul at h
  by_cases ha : sV al ah = true
  · by_cases hb : sV bl bh = true
    · rw [okS_yes ha hb] at h
      obtain ⟨va1, va2, va3⟩ := sV_vd ha
      obtain ⟨vb1, vb2, vb3⟩ := sV_vd hb
      simp only [ha] at CA
      simp only [hb] at CB
      unfold mulS at h
      have CP := fun W => Lib.hid (around4 al bl 1 al bh 1 ah bl 1 ah bh 1 W (q_ok (by omega) (by omega) (by omega) (by omega) (by omega) (by omega) (by omega)) (q_ok (by omega) (by omega) (by omega) (by omega) (by omega) (by omega) (by omega)) (q_ok (by omega) (by omega) (by omega) (by omega) (by omega) (by omega) (by omega)) (q_ok (by omega) (by omega) (by omega) (by omega) (by omega) (by omega) (by omega)) n d e h)
      clear h ha hb
      go_enter Try.func23, Try.ntmps23
      go_wp2_with (first
        | (go_at_call 16; (with_reducible refine ((CA _).out).mono ?_); rintro e w1 ⟨rfl, hb1⟩; obtain ⟨B1, hc1, hf1, p1, q1, r1, z1⟩ := after3 (a := w) hb1 (by go_grown) (by go_size); clear hb1)
        | (go_at_call 16; (with_reducible refine ((CB _).out).mono ?_); rintro e w2 ⟨rfl, hb2⟩; obtain ⟨B2, hc2, hf2, p2, q2, r2, z2⟩ := after3 (a := w) hb2 B1 z1; clear hb2)
        | (go_at_call 49; (with_reducible refine ((CP _).out).mono ?_); rintro e w3 ⟨rfl, hb3⟩; obtain ⟨B3, hc3, hf3, p3, q3, r3, z3⟩ := after3 (a := w) hb3 B2 z2; clear hb3))
      have k0 : w3.cell? ⟨w.heap.size + 2, 0, none⟩ = some (.int .i64 0) := (hc3 _ _ r2).trans ((hc2 _ _ r1).trans ((hc1 _ _ (by go_size)).trans (by simp [go_sem])))
      have k1 : w3.cell? ⟨w.heap.size + 2, 1, none⟩ = some (.int .i64 0) := (hc3 _ _ r2).trans ((hc2 _ _ r1).trans ((hc1 _ _ (by go_size)).trans (by simp [go_sem])))
      refine bodyPost_ret (by simp [results, Try.results23, go_sem, k0, k1]; try rfl) rfl ?_
      exact ⟨rfl, by go_grown⟩
    · rw [okS_b (by simpa using hb)] at h
      obtain ⟨q1, q2, q3⟩ := three h
      subst q1; subst q2; subst q3
      simp only [ha] at CA
      simp only [show sV bl bh = false by simpa using hb] at CB
      clear h ha hb
      go_enter Try.func23, Try.ntmps23
      go_wp2_with (first
        | (go_at_call 16; (with_reducible refine ((CA _).out).mono ?_); rintro e w1 ⟨rfl, hb1⟩; obtain ⟨B1, hc1, hf1, p1, q1, r1, z1⟩ := after3 (a := w) hb1 (by go_grown) (by go_size); clear hb1)
        | (go_at_call 16; (with_reducible refine ((CB _).out).mono ?_); rintro e w2 ⟨rfl, hb2⟩; obtain ⟨B2, hc2, hf2, p2, q2, r2, z2⟩ := after3 (a := w) hb2 B1 z1; clear hb2))
      have k0 : w2.cell? ⟨w.heap.size + 2, 0, none⟩ = some (.int .i64 0) := (hc2 _ _ r1).trans ((hc1 _ _ (by go_size)).trans (by simp [go_sem]))
      have k1 : w2.cell? ⟨w.heap.size + 2, 1, none⟩ = some (.int .i64 0) := (hc2 _ _ r1).trans ((hc1 _ _ (by go_size)).trans (by simp [go_sem]))
      refine bodyPost_ret (by simp [results, Try.results23, go_sem, k0, k1]; try rfl) rfl ?_
      exact ⟨rfl, by go_grown⟩
  · rw [okS_a (by simpa using ha)] at h
    obtain ⟨q1, q2, q3⟩ := three h
    subst q1; subst q2; subst q3
    simp only [show sV al ah = false by simpa using ha] at CA
    clear h ha
    go_enter Try.func23, Try.ntmps23
    go_wp2_with (first
      | (go_at_call 16; (with_reducible refine ((CA _).out).mono ?_); rintro e w1 ⟨rfl, hb1⟩; obtain ⟨B1, hc1, hf1, p1, q1, r1, z1⟩ := after3 (a := w) hb1 (by go_grown) (by go_size); clear hb1))
    have k0 : w1.cell? ⟨w.heap.size + 2, 0, none⟩ = some (.int .i64 0) := (hc1 _ _ (by go_size)).trans (by simp [go_sem])
    have k1 : w1.cell? ⟨w.heap.size + 2, 1, none⟩ = some (.int .i64 0) := (hc1 _ _ (by go_size)).trans (by simp [go_sem])
    refine bodyPost_ret (by simp [results, Try.results23, go_sem, k0, k1]; try rfl) rfl ?_
    exact ⟨rfl, by go_grown⟩

set_option maxHeartbeats 4000000 in
theorem sDiv_any (al ah bl bh : Int) (w : World) (a0 : -9223372036854775808 ≤ al) (a1 : al ≤ 9223372036854775807) (a2 : -9223372036854775808 ≤ ah) (a3 : ah ≤ 9223372036854775807) (b0 : -9223372036854775808 ≤ bl) (b1 : bl ≤ 9223372036854775807) (b2 : -9223372036854775808 ≤ bh) (b3 : bh ≤ 9223372036854775807)
    (n d e : Int) (h : sDiv al ah bl bh = (n, d, e)) :
    Calls Try.prog 24 #[.agg #[.int .i64 al, .int .i64 ah], .agg #[.int .i64 bl, .int .i64 bh]] w fun r w' => r = .returned (.tuple #[.agg #[.int .i64 n, .int .i64 d], .int .i64 e]) ∧ Below w.heap.size w w' := by
  have CA := fun w => Lib.hid (sValid_any al ah w)
  have CB := fun w => Lib.hid (sValid_any bl bh w)
  unfold sDiv at h
  by_cases ha : sV al ah = true
  · by_cases hb : sV bl bh = true
    · rw [okS_yes ha hb] at h
      obtain ⟨va1, va2, va3⟩ := sV_vd ha
      obtain ⟨vb1, vb2, vb3⟩ := sV_vd hb
      simp only [ha] at CA
      simp only [hb] at CB
      unfold divS at h
      by_cases hz : bl ≤ 0 ∧ 0 ≤ bh
      · rw [if_pos hz] at h
        obtain ⟨q1, q2, q3⟩ := three h
        subst q1; subst q2; subst q3
        obtain ⟨z1, z2⟩ := hz
        clear h ha hb
        go_enter Try.func24, Try.ntmps24
        go_wp2_with (first
          | (go_at_call 16; (with_reducible refine ((CA _).out).mono ?_); rintro e w1 ⟨rfl, hb1⟩; obtain ⟨B1, hc1, hf1, p1, q1, r1, z1⟩ := after3 (a := w) hb1 (by go_grown) (by go_size); clear hb1)
          | (go_at_call 16; (with_reducible refine ((CB _).out).mono ?_); rintro e w2 ⟨rfl, hb2⟩; obtain ⟨B2, hc2, hf2, p2, q2, r2, z2⟩ := after3 (a := w) hb2 B1 z1; clear hb2))
        have k0 : w2.cell? ⟨w.heap.size + 2, 0, none⟩ = some (.int .i64 0) := (hc2 _ _ r1).trans ((hc1 _ _ (by go_size)).trans (by simp [go_sem]))
        have k1 : w2.cell? ⟨w.heap.size + 2, 1, none⟩ = some (.int .i64 0) := (hc2 _ _ r1).trans ((hc1 _ _ (by go_size)).trans (by simp [go_sem]))
        refine bodyPost_ret (by simp [results, Try.results24, go_sem, k0, k1]; try rfl) rfl ?_
        exact ⟨rfl, by go_grown⟩
      · rw [if_neg hz] at h
        have CP := fun W => Lib.hid (around4 al 1 bl al 1 bh ah 1 bl ah 1 bh W (q_ok (by omega) (by omega) (by omega) (by omega) (by omega) (by omega) (by omega)) (q_ok (by omega) (by omega) (by omega) (by omega) (by omega) (by omega) (by omega)) (q_ok (by omega) (by omega) (by omega) (by omega) (by omega) (by omega) (by omega)) (q_ok (by omega) (by omega) (by omega) (by omega) (by omega) (by omega) (by omega)) n d e h)
        clear h ha hb
        by_cases hy : bl ≤ 0
        · have d1 : decide (bl ≤ 0) = true := decide_eq_true hy
          have d2 : decide (0 ≤ bh) = false := decide_eq_false (by omega)
          clear hz hy
          go_enter Try.func24, Try.ntmps24
          go_wp2_with (first
            | (go_at_call 16; (with_reducible refine ((CA _).out).mono ?_); rintro e w1 ⟨rfl, hb1⟩; obtain ⟨B1, hc1, hf1, p1, q1, r1, z1⟩ := after3 (a := w) hb1 (by go_grown) (by go_size); clear hb1)
            | (go_at_call 16; (with_reducible refine ((CB _).out).mono ?_); rintro e w2 ⟨rfl, hb2⟩; obtain ⟨B2, hc2, hf2, p2, q2, r2, z2⟩ := after3 (a := w) hb2 B1 z1; clear hb2)
            | (go_at_call 49; (with_reducible refine ((CP _).out).mono ?_); rintro e w3 ⟨rfl, hb3⟩; obtain ⟨B3, hc3, hf3, p3, q3, r3, z3⟩ := after3 (a := w) hb3 B2 z2; clear hb3))
          have k0 : w3.cell? ⟨w.heap.size + 2, 0, none⟩ = some (.int .i64 0) := (hc3 _ _ r2).trans ((hc2 _ _ r1).trans ((hc1 _ _ (by go_size)).trans (by simp [go_sem])))
          have k1 : w3.cell? ⟨w.heap.size + 2, 1, none⟩ = some (.int .i64 0) := (hc3 _ _ r2).trans ((hc2 _ _ r1).trans ((hc1 _ _ (by go_size)).trans (by simp [go_sem])))
          refine bodyPost_ret (by simp [results, Try.results24, go_sem, k0, k1]; try rfl) rfl ?_
          exact ⟨rfl, by go_grown⟩
        · have d1 : decide (bl ≤ 0) = false := decide_eq_false hy
          clear hz hy
          go_enter Try.func24, Try.ntmps24
          go_wp2_with (first
            | (go_at_call 16; (with_reducible refine ((CA _).out).mono ?_); rintro e w1 ⟨rfl, hb1⟩; obtain ⟨B1, hc1, hf1, p1, q1, r1, z1⟩ := after3 (a := w) hb1 (by go_grown) (by go_size); clear hb1)
            | (go_at_call 16; (with_reducible refine ((CB _).out).mono ?_); rintro e w2 ⟨rfl, hb2⟩; obtain ⟨B2, hc2, hf2, p2, q2, r2, z2⟩ := after3 (a := w) hb2 B1 z1; clear hb2)
            | (go_at_call 49; (with_reducible refine ((CP _).out).mono ?_); rintro e w3 ⟨rfl, hb3⟩; obtain ⟨B3, hc3, hf3, p3, q3, r3, z3⟩ := after3 (a := w) hb3 B2 z2; clear hb3))
          have k0 : w3.cell? ⟨w.heap.size + 2, 0, none⟩ = some (.int .i64 0) := (hc3 _ _ r2).trans ((hc2 _ _ r1).trans ((hc1 _ _ (by go_size)).trans (by simp [go_sem])))
          have k1 : w3.cell? ⟨w.heap.size + 2, 1, none⟩ = some (.int .i64 0) := (hc3 _ _ r2).trans ((hc2 _ _ r1).trans ((hc1 _ _ (by go_size)).trans (by simp [go_sem])))
          refine bodyPost_ret (by simp [results, Try.results24, go_sem, k0, k1]; try rfl) rfl ?_
          exact ⟨rfl, by go_grown⟩
    · rw [okS_b (by simpa using hb)] at h
      obtain ⟨q1, q2, q3⟩ := three h
      subst q1; subst q2; subst q3
      simp only [ha] at CA
      simp only [show sV bl bh = false by simpa using hb] at CB
      clear h ha hb
      go_enter Try.func24, Try.ntmps24
      go_wp2_with (first
        | (go_at_call 16; (with_reducible refine ((CA _).out).mono ?_); rintro e w1 ⟨rfl, hb1⟩; obtain ⟨B1, hc1, hf1, p1, q1, r1, z1⟩ := after3 (a := w) hb1 (by go_grown) (by go_size); clear hb1)
        | (go_at_call 16; (with_reducible refine ((CB _).out).mono ?_); rintro e w2 ⟨rfl, hb2⟩; obtain ⟨B2, hc2, hf2, p2, q2, r2, z2⟩ := after3 (a := w) hb2 B1 z1; clear hb2))
      have k0 : w2.cell? ⟨w.heap.size + 2, 0, none⟩ = some (.int .i64 0) := (hc2 _ _ r1).trans ((hc1 _ _ (by go_size)).trans (by simp [go_sem]))
      have k1 : w2.cell? ⟨w.heap.size + 2, 1, none⟩ = some (.int .i64 0) := (hc2 _ _ r1).trans ((hc1 _ _ (by go_size)).trans (by simp [go_sem]))
      refine bodyPost_ret (by simp [results, Try.results24, go_sem, k0, k1]; try rfl) rfl ?_
      exact ⟨rfl, by go_grown⟩
  · rw [okS_a (by simpa using ha)] at h
    obtain ⟨q1, q2, q3⟩ := three h
    subst q1; subst q2; subst q3
    simp only [show sV al ah = false by simpa using ha] at CA
    clear h ha
    go_enter Try.func24, Try.ntmps24
    go_wp2_with (first
      | (go_at_call 16; (with_reducible refine ((CA _).out).mono ?_); rintro e w1 ⟨rfl, hb1⟩; obtain ⟨B1, hc1, hf1, p1, q1, r1, z1⟩ := after3 (a := w) hb1 (by go_grown) (by go_size); clear hb1))
    have k0 : w1.cell? ⟨w.heap.size + 2, 0, none⟩ = some (.int .i64 0) := (hc1 _ _ (by go_size)).trans (by simp [go_sem])
    have k1 : w1.cell? ⟨w.heap.size + 2, 1, none⟩ = some (.int .i64 0) := (hc1 _ _ (by go_size)).trans (by simp [go_sem])
    refine bodyPost_ret (by simp [results, Try.results24, go_sem, k0, k1]; try rfl) rfl ?_
    exact ⟨rfl, by go_grown⟩

set_option maxHeartbeats 4000000 in
theorem sTimes_any (al ah num den : Int) (w : World) (n d e : Int) (h : sTimes al ah num den = (n, d, e)) :
    Calls Try.prog 27 #[.agg #[.int .i64 al, .int .i64 ah], .int .i64 num, .int .i64 den] w fun r w' => r = .returned (.tuple #[.agg #[.int .i64 n, .int .i64 d], .int .i64 e]) ∧ Below w.heap.size w w' := by
  have CA := fun w => Lib.hid (sValid_any al ah w)
  have CN := fun w => Lib.hid (isNumber_any num w)
  have CE := fun w => Lib.hid (isNumber_any den w)
  unfold sTimes at h
  by_cases ha : sV al ah = true
  · rw [if_pos ha] at h
    obtain ⟨va1, va2, va3⟩ := sV_vd ha
    simp only [ha] at CA
    unfold timS at h
    by_cases hd : den = 0
    · subst hd
      rw [if_pos rfl] at h
      obtain ⟨q1, q2, q3⟩ := three h
      subst q1; subst q2; subst q3
      clear h ha
      go_enter Try.func27, Try.ntmps27
      go_wp2_with (first
        | (go_at_call 16; (with_reducible refine ((CA _).out).mono ?_); rintro e w1 ⟨rfl, hb1⟩; obtain ⟨B1, hc1, hf1, p1, q1, z1⟩ := after2 (a := w) hb1 (by go_grown) (by go_size); clear hb1))
      have k0 : w1.cell? ⟨w.heap.size + 1, 0, none⟩ = some (.int .i64 0) := (hc1 _ _ (by go_size)).trans (by simp [go_sem])
      have k1 : w1.cell? ⟨w.heap.size + 1, 1, none⟩ = some (.int .i64 0) := (hc1 _ _ (by go_size)).trans (by simp [go_sem])
      refine bodyPost_ret (by simp [results, Try.results27, go_sem, k0, k1]; try rfl) rfl ?_
      exact ⟨rfl, by go_grown⟩
    · rw [if_neg hd] at h
      have d0 : (den == 0) = false := by simpa using hd
      by_cases hn : isN num = true
      · by_cases hm : isN den = true
        · rw [if_pos ⟨hn, hm⟩] at h
          have i1 := of_decide_eq_true (show decide (-1152921504606846976 ≤ num ∧ num ≤ 1152921504606846976) = true from hn)
          have i2 := of_decide_eq_true (show decide (-1152921504606846976 ≤ den ∧ den ≤ 1152921504606846976) = true from hm)
          have CP := fun W => Lib.hid (around2 al num den ah num den W (q_ok (by omega) (by omega) (by omega) (by omega) (by omega) (by omega) (by omega)) (q_ok (by omega) (by omega) (by omega) (by omega) (by omega) (by omega) (by omega)) n d e h)
          simp only [hn] at CN
          simp only [hm] at CE
          clear h ha hn hm hd i1 i2
          go_enter Try.func27, Try.ntmps27
          go_wp2_with (first
            | (go_at_call 16; (with_reducible refine ((CA _).out).mono ?_); rintro e w1 ⟨rfl, hb1⟩; obtain ⟨B1, hc1, hf1, p1, q1, z1⟩ := after2 (a := w) hb1 (by go_grown) (by go_size); clear hb1)
            | (go_at_call 50; (with_reducible refine ((CN _).out).mono ?_); rintro e w' ⟨rfl, rfl⟩)
            | (go_at_call 50; (with_reducible refine ((CE _).out).mono ?_); rintro e w' ⟨rfl, rfl⟩)
            | (go_at_call 49; (with_reducible refine ((CP _).out).mono ?_); rintro e w4 ⟨rfl, hb4⟩; obtain ⟨B4, hc4, hf4, p4, q4, z4⟩ := after2 (a := w) hb4 B1 z1; clear hb4))
          have k0 : w4.cell? ⟨w.heap.size + 1, 0, none⟩ = some (.int .i64 0) := (hc4 _ _ q1).trans ((hc1 _ _ (by go_size)).trans (by simp [go_sem]))
          have k1 : w4.cell? ⟨w.heap.size + 1, 1, none⟩ = some (.int .i64 0) := (hc4 _ _ q1).trans ((hc1 _ _ (by go_size)).trans (by simp [go_sem]))
          refine bodyPost_ret (by simp [results, Try.results27, go_sem, k0, k1]; try rfl) rfl ?_
          exact ⟨rfl, by go_grown⟩
        · rw [if_neg (by simp [hm])] at h
          obtain ⟨q1, q2, q3⟩ := three h
          subst q1; subst q2; subst q3
          simp only [hn] at CN
          simp only [show isN den = false by simpa using hm] at CE
          clear h ha hn hm hd
          go_enter Try.func27, Try.ntmps27
          go_wp2_with (first
            | (go_at_call 16; (with_reducible refine ((CA _).out).mono ?_); rintro e w1 ⟨rfl, hb1⟩; obtain ⟨B1, hc1, hf1, p1, q1, z1⟩ := after2 (a := w) hb1 (by go_grown) (by go_size); clear hb1)
            | (go_at_call 50; (with_reducible refine ((CN _).out).mono ?_); rintro e w' ⟨rfl, rfl⟩)
            | (go_at_call 50; (with_reducible refine ((CE _).out).mono ?_); rintro e w' ⟨rfl, rfl⟩))
          have k0 : w1.cell? ⟨w.heap.size + 1, 0, none⟩ = some (.int .i64 0) := (hc1 _ _ (by go_size)).trans (by simp [go_sem])
          have k1 : w1.cell? ⟨w.heap.size + 1, 1, none⟩ = some (.int .i64 0) := (hc1 _ _ (by go_size)).trans (by simp [go_sem])
          refine bodyPost_ret (by simp [results, Try.results27, go_sem, k0, k1]; try rfl) rfl ?_
          exact ⟨rfl, by go_grown⟩
      · rw [if_neg (by simp [hn])] at h
        obtain ⟨q1, q2, q3⟩ := three h
        subst q1; subst q2; subst q3
        simp only [show isN num = false by simpa using hn] at CN
        clear h ha hn hd
        go_enter Try.func27, Try.ntmps27
        go_wp2_with (first
          | (go_at_call 16; (with_reducible refine ((CA _).out).mono ?_); rintro e w1 ⟨rfl, hb1⟩; obtain ⟨B1, hc1, hf1, p1, q1, z1⟩ := after2 (a := w) hb1 (by go_grown) (by go_size); clear hb1)
          | (go_at_call 50; (with_reducible refine ((CN _).out).mono ?_); rintro e w' ⟨rfl, rfl⟩))
        have k0 : w1.cell? ⟨w.heap.size + 1, 0, none⟩ = some (.int .i64 0) := (hc1 _ _ (by go_size)).trans (by simp [go_sem])
        have k1 : w1.cell? ⟨w.heap.size + 1, 1, none⟩ = some (.int .i64 0) := (hc1 _ _ (by go_size)).trans (by simp [go_sem])
        refine bodyPost_ret (by simp [results, Try.results27, go_sem, k0, k1]; try rfl) rfl ?_
        exact ⟨rfl, by go_grown⟩
  · rw [if_neg ha] at h
    obtain ⟨q1, q2, q3⟩ := three h
    subst q1; subst q2; subst q3
    simp only [show sV al ah = false by simpa using ha] at CA
    clear h ha
    go_enter Try.func27, Try.ntmps27
    go_wp2_with (first
      | (go_at_call 16; (with_reducible refine ((CA _).out).mono ?_); rintro e w1 ⟨rfl, hb1⟩; obtain ⟨B1, hc1, hf1, p1, q1, z1⟩ := after2 (a := w) hb1 (by go_grown) (by go_size); clear hb1))
    have k0 : w1.cell? ⟨w.heap.size + 1, 0, none⟩ = some (.int .i64 0) := (hc1 _ _ (by go_size)).trans (by simp [go_sem])
    have k1 : w1.cell? ⟨w.heap.size + 1, 1, none⟩ = some (.int .i64 0) := (hc1 _ _ (by go_size)).trans (by simp [go_sem])
    refine bodyPost_ret (by simp [results, Try.results27, go_sem, k0, k1]; try rfl) rfl ?_
    exact ⟨rfl, by go_grown⟩

set_option maxHeartbeats 4000000 in
theorem sOf_any (x y unit : Int) (w : World) (x0 : -9223372036854775808 ≤ x) (x1 : x ≤ 9223372036854775807) (y0 : -9223372036854775808 ≤ y) (y1 : y ≤ 9223372036854775807) (n d e : Int) (h : sOf x y unit = (n, d, e)) :
    Calls Try.prog 29 #[.agg #[.int .i64 x, .int .i64 y], .int .i64 unit] w fun r w' => r = .returned (.tuple #[.agg #[.int .i64 n, .int .i64 d], .int .i64 e]) ∧ Below w.heap.size w w' := by
  have CA := fun w => Lib.hid (Valid_any x y w x0 x1 y0 y1)
  unfold sOf at h
  by_cases ha : vB x y = true
  · rw [if_pos ha] at h
    have va := vB_vld ha
    have va1 := va.d1; have va2 := va.d2; have va3 := va.n1; have va4 := va.n2
    simp only [ha] at CA
    clear va
    unfold ofS at h
    by_cases hu : unit < 1
    · rw [if_pos (.inl hu)] at h
      obtain ⟨q1, q2, q3⟩ := three h
      subst q1; subst q2; subst q3
      clear h ha
      go_enter Try.func29, Try.ntmps29
      go_wp2_with (first
        | (go_at_call 54; (with_reducible refine ((CA _).out).mono ?_); rintro e w1 ⟨rfl, hb1⟩; obtain ⟨B1, hc1, hf1, p1, q1, z1⟩ := after2 (a := w) hb1 (by go_grown) (by go_size); clear hb1))
      have k0 : w1.cell? ⟨w.heap.size + 1, 0, none⟩ = some (.int .i64 0) := (hc1 _ _ (by go_size)).trans (by simp [go_sem])
      have k1 : w1.cell? ⟨w.heap.size + 1, 1, none⟩ = some (.int .i64 0) := (hc1 _ _ (by go_size)).trans (by simp [go_sem])
      refine bodyPost_ret (by simp [results, Try.results29, go_sem, k0, k1]; try rfl) rfl ?_
      exact ⟨rfl, by go_grown⟩
    · have d1 : decide (unit < 1) = false := decide_eq_false hu
      by_cases hv : 1099511627776 < unit
      · rw [if_pos (.inr hv)] at h
        obtain ⟨q1, q2, q3⟩ := three h
        subst q1; subst q2; subst q3
        clear h ha
        go_enter Try.func29, Try.ntmps29
        go_wp2_with (first
          | (go_at_call 54; (with_reducible refine ((CA _).out).mono ?_); rintro e w1 ⟨rfl, hb1⟩; obtain ⟨B1, hc1, hf1, p1, q1, z1⟩ := after2 (a := w) hb1 (by go_grown) (by go_size); clear hb1))
        have k0 : w1.cell? ⟨w.heap.size + 1, 0, none⟩ = some (.int .i64 0) := (hc1 _ _ (by go_size)).trans (by simp [go_sem])
        have k1 : w1.cell? ⟨w.heap.size + 1, 1, none⟩ = some (.int .i64 0) := (hc1 _ _ (by go_size)).trans (by simp [go_sem])
        refine bodyPost_ret (by simp [results, Try.results29, go_sem, k0, k1]; try rfl) rfl ?_
        exact ⟨rfl, by go_grown⟩
      · rw [if_neg (by omega)] at h
        have d2 : decide (1099511627776 < unit) = false := decide_eq_false hv
        have CP := fun W => Lib.hid (around1 x unit y W (q_ok (by omega) (by omega) (by omega) (by omega) (by omega) (by omega) (by omega)) n d e h)
        clear h ha hu hv
        go_enter Try.func29, Try.ntmps29
        go_wp2_with (first
          | (go_at_call 54; (with_reducible refine ((CA _).out).mono ?_); rintro e w1 ⟨rfl, hb1⟩; obtain ⟨B1, hc1, hf1, p1, q1, z1⟩ := after2 (a := w) hb1 (by go_grown) (by go_size); clear hb1)
          | (go_at_call 49; (with_reducible refine ((CP _).out).mono ?_); rintro e w2 ⟨rfl, hb2⟩; obtain ⟨B2, hc2, hf2, p2, q2, z2⟩ := after2 (a := w) hb2 B1 z1; clear hb2))
        have k0 : w2.cell? ⟨w.heap.size + 1, 0, none⟩ = some (.int .i64 0) := (hc2 _ _ q1).trans ((hc1 _ _ (by go_size)).trans (by simp [go_sem]))
        have k1 : w2.cell? ⟨w.heap.size + 1, 1, none⟩ = some (.int .i64 0) := (hc2 _ _ q1).trans ((hc1 _ _ (by go_size)).trans (by simp [go_sem]))
        refine bodyPost_ret (by simp [results, Try.results29, go_sem, k0, k1]; try rfl) rfl ?_
        exact ⟨rfl, by go_grown⟩
  · rw [if_neg ha] at h
    obtain ⟨q1, q2, q3⟩ := three h
    subst q1; subst q2; subst q3
    simp only [show vB x y = false by simpa using ha] at CA
    clear h ha
    go_enter Try.func29, Try.ntmps29
    go_wp2_with (first
      | (go_at_call 54; (with_reducible refine ((CA _).out).mono ?_); rintro e w1 ⟨rfl, hb1⟩; obtain ⟨B1, hc1, hf1, p1, q1, z1⟩ := after2 (a := w) hb1 (by go_grown) (by go_size); clear hb1))
    have k0 : w1.cell? ⟨w.heap.size + 1, 0, none⟩ = some (.int .i64 0) := (hc1 _ _ (by go_size)).trans (by simp [go_sem])
    have k1 : w1.cell? ⟨w.heap.size + 1, 1, none⟩ = some (.int .i64 0) := (hc1 _ _ (by go_size)).trans (by simp [go_sem])
    refine bodyPost_ret (by simp [results, Try.results29, go_sem, k0, k1]; try rfl) rfl ?_
    exact ⟨rfl, by go_grown⟩

end Go.Proofs.Ytknbhpnhnhfbpaa
