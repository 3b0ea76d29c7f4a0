/- Layer 3: what the functions on spans return, as numbers; Valid, fitting, Add, Sub, Hull, Meet. -/
import Derived.Test.YtknbhpnhnhfbpaaRSto
import Derived.Test.YtknbhpnhnhfbpaaROps
namespace Go.Proofs.Ytknbhpnhnhfbpaa
set_option linter.unusedVariables false
open Go.RowKit Go.Shelf

structure SVd (lo hi : Int) : Prop where
  l : -1152921504606846976 ≤ lo
  m : lo ≤ hi
  h : hi ≤ 1152921504606846976
instance (lo hi : Int) : Decidable (SVd lo hi) := if h : -1152921504606846976 ≤ lo ∧ lo ≤ hi ∧ hi ≤ 1152921504606846976 then .isTrue ⟨h.1, h.2.1, h.2.2⟩ else .isFalse fun v => h ⟨v.l, v.m, v.h⟩
/-- Is it a span? -/
def sV (lo hi : Int) : Bool := decide (SVd lo hi)
theorem sV_yes {lo hi : Int} (h : SVd lo hi) : sV lo hi = true := by unfold sV; simpa using h
theorem sV_no {lo hi : Int} (h : ¬ SVd lo hi) : sV lo hi = false := by unfold sV; simpa using h
theorem sV_vd {lo hi : Int} (h : sV lo hi = true) : SVd lo hi := by unfold sV at h; simpa using h
def fitS (lo hi : Int) : Int × Int × Int := if sV lo hi = true then (lo, hi, 0) else (0, 0, 5)
def okS (al ah bl bh : Int) (t : Int × Int × Int) : Int × Int × Int := if sV al ah = true ∧ sV bl bh = true then t else (0, 0, 1)
def sAdd (al ah bl bh : Int) : Int × Int × Int := okS al ah bl bh (fitS (al + bl) (ah + bh))
def sSub (al ah bl bh : Int) : Int × Int × Int := okS al ah bl bh (fitS (al - bh) (ah - bl))
def sHull (al ah bl bh : Int) : Int × Int × Int := okS al ah bl bh (min al bl, max ah bh, 0)
def meetS (al ah bl bh : Int) : Int × Int × Int := if min ah bh < max al bl then (0, 0, 12) else (max al bl, min ah bh, 0)
def sMeet (al ah bl bh : Int) : Int × Int × Int := okS al ah bl bh (meetS al ah bl bh)
theorem okS_yes {al ah bl bh : Int} {t : Int × Int × Int} (ha : sV al ah = true) (hb : sV bl bh = true) : okS al ah bl bh t = t := by unfold okS; rw [if_pos ⟨ha, hb⟩]
theorem okS_a {al ah bl bh : Int} {t : Int × Int × Int} (ha : sV al ah = false) : okS al ah bl bh t = (0, 0, 1) := by unfold okS; rw [if_neg (by simp [ha])]
theorem okS_b {al ah bl bh : Int} {t : Int × Int × Int} (hb : sV bl bh = false) : okS al ah bl bh t = (0, 0, 1) := by unfold okS; rw [if_neg (by simp [hb])]

set_option maxHeartbeats 2000000 in
theorem sValid_any (lo hi : Int) (w : World) :
    Calls Try.prog 16 #[.agg #[.int .i64 lo, .int .i64 hi]] w fun e w' => e = .returned (.bool (sV lo hi)) ∧ Below w.heap.size w w' := by
  by_cases hl : -1152921504606846976 ≤ lo
  · have dl : decide (-1152921504606846976 ≤ lo) = true := by simpa using hl
    by_cases hm : lo ≤ hi
    · have dm : decide (lo ≤ hi) = true := by simpa using hm
      by_cases hh : hi ≤ 1152921504606846976
      · have dh : decide (hi ≤ 1152921504606846976) = true := by simpa using hh
        have hv := Lib.hid (sV_yes (lo := lo) (hi := hi) ⟨hl, hm, hh⟩)
        go_enter Try.func16, Try.ntmps16
        go_wp2
        go_ret
        exact ⟨by rw [hv.out]; rfl, by go_grown⟩
      · have hv := Lib.hid (sV_no (lo := lo) (hi := hi) (fun v => hh v.h))
        have dh : decide (hi ≤ 1152921504606846976) = false := by simpa using hh
        go_enter Try.func16, Try.ntmps16
        go_wp2
        go_ret
        exact ⟨by rw [hv.out]; rfl, by go_grown⟩
    · have hv := Lib.hid (sV_no (lo := lo) (hi := hi) (fun v => hm v.m))
      have dm : decide (lo ≤ hi) = false := by simpa using hm
      go_enter Try.func16, Try.ntmps16
      go_wp2
      go_ret
      exact ⟨by rw [hv.out]; rfl, by go_grown⟩
  · have hv := Lib.hid (sV_no (lo := lo) (hi := hi) (fun v => hl v.l))
    have dl : decide (-1152921504606846976 ≤ lo) = false := by simpa using hl
    go_enter Try.func16, Try.ntmps16
    go_wp2
    go_ret
    exact ⟨by rw [hv.out]; rfl, by go_grown⟩

set_option maxHeartbeats 2000000 in
theorem rsValid_any (lo hi : Int) (w : World) :
    Calls Try.prog 17 #[.agg #[.int .i64 lo, .int .i64 hi]] w fun e w' => e = .returned (.bool (sV lo hi)) ∧ Below w.heap.size w w' := by
  by_cases hm : lo ≤ hi
  · have dm : decide (lo ≤ hi) = true := by simpa using hm
    by_cases hl : -1152921504606846976 ≤ lo
    · have dl : decide (-1152921504606846976 ≤ lo) = true := by simpa using hl
      by_cases hh : hi ≤ 1152921504606846976
      · have dh : decide (hi ≤ 1152921504606846976) = true := by simpa using hh
        have hv := Lib.hid (sV_yes (lo := lo) (hi := hi) ⟨hl, hm, hh⟩)
        go_enter Try.func17, Try.ntmps17
        go_wp2
        go_ret
        exact ⟨by rw [hv.out]; rfl, by go_grown⟩
      · have hv := Lib.hid (sV_no (lo := lo) (hi := hi) (fun v => hh v.h))
        have dh : decide (hi ≤ 1152921504606846976) = false := by simpa using hh
        go_enter Try.func17, Try.ntmps17
        go_wp2
        go_ret
        exact ⟨by rw [hv.out]; rfl, by go_grown⟩
    · have hv := Lib.hid (sV_no (lo := lo) (hi := hi) (fun v => hl v.l))
      have dl : decide (-1152921504606846976 ≤ lo) = false := by simpa using hl
      go_enter Try.func17, Try.ntmps17
      go_wp2
      go_ret
      exact ⟨by rw [hv.out]; rfl, by go_grown⟩
  · have hv := Lib.hid (sV_no (lo := lo) (hi := hi) (fun v => hm v.m))
    have dm : decide (lo ≤ hi) = false := by simpa using hm
    go_enter Try.func17, Try.ntmps17
    go_wp2
    go_ret
    exact ⟨by rw [hv.out]; rfl, by go_grown⟩

set_option maxHeartbeats 2000000 in
theorem fitting_s (lo hi : Int) (w : World) (n d e : Int) (h : fitS lo hi = (n, d, e)) :
    Calls Try.prog 45 #[.int .i64 lo, .int .i64 hi] w fun r w' => r = .returned (.tuple #[.agg #[.int .i64 n, .int .i64 d], .int .i64 e]) ∧ Below w.heap.size w w' := by
  have CV := fun w => Lib.hid (sValid_any lo hi w)
  unfold fitS at h
  by_cases hv : sV lo hi = true
  · rw [if_pos hv] at h
    obtain ⟨q1, q2, q3⟩ := three h
    subst q1; subst q2; subst q3
    simp only [hv] at CV
    clear h hv
    go_enter Try.func45, Try.ntmps45
    go_wp2_with (first | (go_at_call 16; (with_reducible refine ((CV _).out).mono ?_); rintro e w1 ⟨rfl, hb⟩; obtain ⟨B1, hc1, hf1, p1, q1, z1⟩ := after2 (a := w) hb (by go_grown) (by go_size); clear hb))
    have k0 : w1.cell? ⟨w.heap.size, 0, none⟩ = some (.int .i64 0) := (hc1 _ _ (by go_size)).trans (by simp [go_sem])
    have k1 : w1.cell? ⟨w.heap.size, 1, none⟩ = some (.int .i64 0) := (hc1 _ _ (by go_size)).trans (by simp [go_sem])
    refine bodyPost_ret (by simp [results, Try.results45, go_sem, k0, k1]; try rfl) rfl ?_
    exact ⟨rfl, by go_grown⟩
  · rw [if_neg hv] at h
    obtain ⟨q1, q2, q3⟩ := three h
    subst q1; subst q2; subst q3
    simp only [show sV lo hi = false by simpa using hv] at CV
    clear h hv
    go_enter Try.func45, Try.ntmps45
    go_wp2_with (first | (go_at_call 16; (with_reducible refine ((CV _).out).mono ?_); rintro e w1 ⟨rfl, hb⟩; obtain ⟨B1, hc1, hf1, p1, q1, z1⟩ := after2 (a := w) hb (by go_grown) (by go_size); clear hb))
    have k0 : w1.cell? ⟨w.heap.size, 0, none⟩ = some (.int .i64 0) := (hc1 _ _ (by go_size)).trans (by simp [go_sem])
    have k1 : w1.cell? ⟨w.heap.size, 1, none⟩ = some (.int .i64 0) := (hc1 _ _ (by go_size)).trans (by simp [go_sem])
    refine bodyPost_ret (by simp [results, Try.results45, go_sem, k0, k1]; try rfl) rfl ?_
    exact ⟨rfl, by go_grown⟩

set_option maxHeartbeats 2000000 in
theorem Fits_s (lo hi : Int) (w : World) (n d e : Int) (h : fitS lo hi = (n, d, e)) :
    Calls Try.prog 46 #[.int .i64 lo, .int .i64 hi] w fun r w' => r = .returned (.tuple #[.agg #[.int .i64 n, .int .i64 d], .int .i64 e]) ∧ Below w.heap.size w w' := by
  have CV := fun w => Lib.hid (rsValid_any lo hi w)
  unfold fitS at h
  by_cases hv : sV lo hi = true
  · rw [if_pos hv] at h
    obtain ⟨q1, q2, q3⟩ := three h
    subst q1; subst q2; subst q3
    simp only [hv] at CV
    clear h hv
    go_enter Try.func46, Try.ntmps46
    go_wp2_with (first | (go_at_call 17; (with_reducible refine ((CV _).out).mono ?_); rintro e w1 ⟨rfl, hb⟩; obtain ⟨B1, hc1, hf1, p1, q1, z1⟩ := after2 (a := w) hb (by go_grown) (by go_size); clear hb))
    have k0 : w1.cell? ⟨w.heap.size, 0, none⟩ = some (.int .i64 0) := (hc1 _ _ (by go_size)).trans (by simp [go_sem])
    have k1 : w1.cell? ⟨w.heap.size, 1, none⟩ = some (.int .i64 0) := (hc1 _ _ (by go_size)).trans (by simp [go_sem])
    refine bodyPost_ret (by simp [results, Try.results46, go_sem, k0, k1]; try rfl) rfl ?_
    exact ⟨rfl, by go_grown⟩
  · rw [if_neg hv] at h
    obtain ⟨q1, q2, q3⟩ := three h
    subst q1; subst q2; subst q3
    simp only [show sV lo hi = false by simpa using hv] at CV
    clear h hv
    go_enter Try.func46, Try.ntmps46
    go_wp2_with (first | (go_at_call 17; (with_reducible refine ((CV _).out).mono ?_); rintro e w1 ⟨rfl, hb⟩; obtain ⟨B1, hc1, hf1, p1, q1, z1⟩ := after2 (a := w) hb (by go_grown) (by go_size); clear hb))
    have k0 : w1.cell? ⟨w.heap.size, 0, none⟩ = some (.int .i64 0) := (hc1 _ _ (by go_size)).trans (by simp [go_sem])
    have k1 : w1.cell? ⟨w.heap.size, 1, none⟩ = some (.int .i64 0) := (hc1 _ _ (by go_size)).trans (by simp [go_sem])
    refine bodyPost_ret (by simp [results, Try.results46, go_sem, k0, k1]; try rfl) rfl ?_
    exact ⟨rfl, by go_grown⟩

set_option maxHeartbeats 4000000 in
theorem sAdd_any (al ah bl bh : Int) (w : World) (a0 : -9223372036854775808 ≤ al) (a1 : al ≤ 9223372036854775807) (a2 : -9223372036854775808 ≤ ah) (a3 : ah ≤ 9223372036854775807) (b0 : -9223372036854775808 ≤ bl) (b1 : bl ≤ 9223372036854775807) (b2 : -9223372036854775808 ≤ bh) (b3 : bh ≤ 9223372036854775807)
    (n d e : Int) (h : sAdd al ah bl bh = (n, d, e)) :
    Calls Try.prog 12 #[.agg #[.int .i64 al, .int .i64 ah], .agg #[.int .i64 bl, .int .i64 bh]] w fun r w' => r = .returned (.tuple #[.agg #[.int .i64 n, .int .i64 d], .int .i64 e]) ∧ Below w.heap.size w w' := by
  have CA := fun w => Lib.hid (sValid_any al ah w)
  have CB := fun w => Lib.hid (sValid_any bl bh w)
  unfold sAdd at h
  by_cases ha : sV al ah = true
  · by_cases hb : sV bl bh = true
    · rw [okS_yes ha hb] at h
      obtain ⟨va1, va2, va3⟩ := sV_vd ha
      obtain ⟨vb1, vb2, vb3⟩ := sV_vd hb
      simp only [ha] at CA
      simp only [hb] at CB
      have CP := fun w => Lib.hid (fitting_s (al + bl) (ah + bh) w n d e h)
      clear h ha hb
      go_enter Try.func12, Try.ntmps12
      go_wp2_with (first
        | (go_at_call 16; (with_reducible refine ((CA _).out).mono ?_); rintro e w1 ⟨rfl, hb1⟩; obtain ⟨B1, hc1, hf1, p1, q1, r1, z1⟩ := after3 (a := w) hb1 (by go_grown) (by go_size); clear hb1)
        | (go_at_call 16; (with_reducible refine ((CB _).out).mono ?_); rintro e w2 ⟨rfl, hb2⟩; obtain ⟨B2, hc2, hf2, p2, q2, r2, z2⟩ := after3 (a := w) hb2 B1 z1; clear hb2)
        | (go_at_call 45; (with_reducible refine ((CP _).out).mono ?_); rintro e w3 ⟨rfl, hb3⟩; obtain ⟨B3, hc3, hf3, p3, q3, r3, z3⟩ := after3 (a := w) hb3 B2 z2; clear hb3))
      have k0 : w3.cell? ⟨w.heap.size + 2, 0, none⟩ = some (.int .i64 0) := (hc3 _ _ r2).trans ((hc2 _ _ r1).trans ((hc1 _ _ (by go_size)).trans (by simp [go_sem])))
      have k1 : w3.cell? ⟨w.heap.size + 2, 1, none⟩ = some (.int .i64 0) := (hc3 _ _ r2).trans ((hc2 _ _ r1).trans ((hc1 _ _ (by go_size)).trans (by simp [go_sem])))
      refine bodyPost_ret (by simp [results, Try.results12, go_sem, k0, k1]; try rfl) rfl ?_
      exact ⟨rfl, by go_grown⟩
    · rw [okS_b (by simpa using hb)] at h
      obtain ⟨q1, q2, q3⟩ := three h
      subst q1; subst q2; subst q3
      simp only [ha] at CA
      simp only [show sV bl bh = false by simpa using hb] at CB
      clear h ha hb
      go_enter Try.func12, Try.ntmps12
      go_wp2_with (first
        | (go_at_call 16; (with_reducible refine ((CA _).out).mono ?_); rintro e w1 ⟨rfl, hb1⟩; obtain ⟨B1, hc1, hf1, p1, q1, r1, z1⟩ := after3 (a := w) hb1 (by go_grown) (by go_size); clear hb1)
        | (go_at_call 16; (with_reducible refine ((CB _).out).mono ?_); rintro e w2 ⟨rfl, hb2⟩; obtain ⟨B2, hc2, hf2, p2, q2, r2, z2⟩ := after3 (a := w) hb2 B1 z1; clear hb2))
      have k0 : w2.cell? ⟨w.heap.size + 2, 0, none⟩ = some (.int .i64 0) := (hc2 _ _ r1).trans ((hc1 _ _ (by go_size)).trans (by simp [go_sem]))
      have k1 : w2.cell? ⟨w.heap.size + 2, 1, none⟩ = some (.int .i64 0) := (hc2 _ _ r1).trans ((hc1 _ _ (by go_size)).trans (by simp [go_sem]))
      refine bodyPost_ret (by simp [results, Try.results12, go_sem, k0, k1]; try rfl) rfl ?_
      exact ⟨rfl, by go_grown⟩
  · rw [okS_a (by simpa using ha)] at h
    obtain ⟨q1, q2, q3⟩ := three h
    subst q1; subst q2; subst q3
    simp only [show sV al ah = false by simpa using ha] at CA
    clear h ha
    go_enter Try.func12, Try.ntmps12
    go_wp2_with (first
      | (go_at_call 16; (with_reducible refine ((CA _).out).mono ?_); rintro e w1 ⟨rfl, hb1⟩; obtain ⟨B1, hc1, hf1, p1, q1, r1, z1⟩ := after3 (a := w) hb1 (by go_grown) (by go_size); clear hb1))
    have k0 : w1.cell? ⟨w.heap.size + 2, 0, none⟩ = some (.int .i64 0) := (hc1 _ _ (by go_size)).trans (by simp [go_sem])
    have k1 : w1.cell? ⟨w.heap.size + 2, 1, none⟩ = some (.int .i64 0) := (hc1 _ _ (by go_size)).trans (by simp [go_sem])
    refine bodyPost_ret (by simp [results, Try.results12, go_sem, k0, k1]; try rfl) rfl ?_
    exact ⟨rfl, by go_grown⟩

set_option maxHeartbeats 4000000 in
theorem sSub_any (al ah bl bh : Int) (w : World) (a0 : -9223372036854775808 ≤ al) (a1 : al ≤ 9223372036854775807) (a2 : -9223372036854775808 ≤ ah) (a3 : ah ≤ 9223372036854775807) (b0 : -9223372036854775808 ≤ bl) (b1 : bl ≤ 9223372036854775807) (b2 : -9223372036854775808 ≤ bh) (b3 : bh ≤ 9223372036854775807)
    (n d e : Int) (h : sSub al ah bl bh = (n, d, e)) :
    Calls Try.prog 13 #[.agg #[.int .i64 al, .int .i64 ah], .agg #[.int .i64 bl, .int .i64 bh]] w fun r w' => r = .returned (.tuple #[.agg #[.int .i64 n, .int .i64 d], .int .i64 e]) ∧ Below w.heap.size w w' := by
  have CA := fun w => Lib.hid (sValid_any al ah w)
  have CB := fun w => Lib.hid (sValid_any bl bh w)
  unfold sSub at h
  by_cases ha : sV al ah = true
  · by_cases hb : sV bl bh = true
    · rw [okS_yes ha hb] at h
      obtain ⟨va1, va2, va3⟩ := sV_vd ha
      obtain ⟨vb1, vb2, vb3⟩ := sV_vd hb
      simp only [ha] at CA
      simp only [hb] at CB
      have CP := fun w => Lib.hid (fitting_s (al - bh) (ah - bl) w n d e h)
      clear h ha hb
      go_enter Try.func13, Try.ntmps13
      go_wp2_with (first
        | (go_at_call 16; (with_reducible refine ((CA _).out).mono ?_); rintro e w1 ⟨rfl, hb1⟩; obtain ⟨B1, hc1, hf1, p1, q1, r1, z1⟩ := after3 (a := w) hb1 (by go_grown) (by go_size); clear hb1)
        | (go_at_call 16; (with_reducible refine ((CB _).out).mono ?_); rintro e w2 ⟨rfl, hb2⟩; obtain ⟨B2, hc2, hf2, p2, q2, r2, z2⟩ := after3 (a := w) hb2 B1 z1; clear hb2)
        | (go_at_call 45; (with_reducible refine ((CP _).out).mono ?_); rintro e w3 ⟨rfl, hb3⟩; obtain ⟨B3, hc3, hf3, p3, q3, r3, z3⟩ := after3 (a := w) hb3 B2 z2; clear hb3))
      have k0 : w3.cell? ⟨w.heap.size + 2, 0, none⟩ = some (.int .i64 0) := (hc3 _ _ r2).trans ((hc2 _ _ r1).trans ((hc1 _ _ (by go_size)).trans (by simp [go_sem])))
      have k1 : w3.cell? ⟨w.heap.size + 2, 1, none⟩ = some (.int .i64 0) := (hc3 _ _ r2).trans ((hc2 _ _ r1).trans ((hc1 _ _ (by go_size)).trans (by simp [go_sem])))
      refine bodyPost_ret (by simp [results, Try.results13, go_sem, k0, k1]; try rfl) rfl ?_
      exact ⟨rfl, by go_grown⟩
    · rw [okS_b (by simpa using hb)] at h
      obtain ⟨q1, q2, q3⟩ := three h
      subst q1; subst q2; subst q3
      simp only [ha] at CA
      simp only [show sV bl bh = false by simpa using hb] at CB
      clear h ha hb
      go_enter Try.func13, Try.ntmps13
      go_wp2_with (first
        | (go_at_call 16; (with_reducible refine ((CA _).out).mono ?_); rintro e w1 ⟨rfl, hb1⟩; obtain ⟨B1, hc1, hf1, p1, q1, r1, z1⟩ := after3 (a := w) hb1 (by go_grown) (by go_size); clear hb1)
        | (go_at_call 16; (with_reducible refine ((CB _).out).mono ?_); rintro e w2 ⟨rfl, hb2⟩; obtain ⟨B2, hc2, hf2, p2, q2, r2, z2⟩ := after3 (a := w) hb2 B1 z1; clear hb2))
      have k0 : w2.cell? ⟨w.heap.size + 2, 0, none⟩ = some (.int .i64 0) := (hc2 _ _ r1).trans ((hc1 _ _ (by go_size)).trans (by simp [go_sem]))
      have k1 : w2.cell? ⟨w.heap.size + 2, 1, none⟩ = some (.int .i64 0) := (hc2 _ _ r1).trans ((hc1 _ _ (by go_size)).trans (by simp [go_sem]))
      refine bodyPost_ret (by simp [results, Try.results13, go_sem, k0, k1]; try rfl) rfl ?_
      exact ⟨rfl, by go_grown⟩
  · rw [okS_a (by simpa using ha)] at h
    obtain ⟨q1, q2, q3⟩ := three h
    subst q1; subst q2; subst q3
    simp only [show sV al ah = false by simpa using ha] at CA
    clear h ha
    go_enter Try.func13, Try.ntmps13
    go_wp2_with (first
      | (go_at_call 16; (with_reducible refine ((CA _).out).mono ?_); rintro e w1 ⟨rfl, hb1⟩; obtain ⟨B1, hc1, hf1, p1, q1, r1, z1⟩ := after3 (a := w) hb1 (by go_grown) (by go_size); clear hb1))
    have k0 : w1.cell? ⟨w.heap.size + 2, 0, none⟩ = some (.int .i64 0) := (hc1 _ _ (by go_size)).trans (by simp [go_sem])
    have k1 : w1.cell? ⟨w.heap.size + 2, 1, none⟩ = some (.int .i64 0) := (hc1 _ _ (by go_size)).trans (by simp [go_sem])
    refine bodyPost_ret (by simp [results, Try.results13, go_sem, k0, k1]; try rfl) rfl ?_
    exact ⟨rfl, by go_grown⟩

set_option maxHeartbeats 4000000 in
theorem sHull_any (al ah bl bh : Int) (w : World) (a0 : -9223372036854775808 ≤ al) (a1 : al ≤ 9223372036854775807) (a2 : -9223372036854775808 ≤ ah) (a3 : ah ≤ 9223372036854775807) (b0 : -9223372036854775808 ≤ bl) (b1 : bl ≤ 9223372036854775807) (b2 : -9223372036854775808 ≤ bh) (b3 : bh ≤ 9223372036854775807)
    (n d e : Int) (h : sHull al ah bl bh = (n, d, e)) :
    Calls Try.prog 14 #[.agg #[.int .i64 al, .int .i64 ah], .agg #[.int .i64 bl, .int .i64 bh]] w fun r w' => r = .returned (.tuple #[.agg #[.int .i64 n, .int .i64 d], .int .i64 e]) ∧ Below w.heap.size w w' := by
  have CA := fun w => Lib.hid (sValid_any al ah w)
  have CB := fun w => Lib.hid (sValid_any bl bh w)
  unfold sHull at h
  by_cases ha : sV al ah = true
  · by_cases hb : sV bl bh = true
    · rw [okS_yes ha hb] at h
      obtain ⟨va1, va2, va3⟩ := sV_vd ha
      obtain ⟨vb1, vb2, vb3⟩ := sV_vd hb
      simp only [ha] at CA
      simp only [hb] at CB
      obtain ⟨q1, q2, q3⟩ := three h
      subst q1; subst q2; subst q3
      clear h ha hb
      go_enter Try.func14, Try.ntmps14
      go_wp2_with (first
        | (go_at_call 16; (with_reducible refine ((CA _).out).mono ?_); rintro e w1 ⟨rfl, hb1⟩; obtain ⟨B1, hc1, hf1, p1, q1, r1, z1⟩ := after3 (a := w) hb1 (by go_grown) (by go_size); clear hb1)
        | (go_at_call 16; (with_reducible refine ((CB _).out).mono ?_); rintro e w2 ⟨rfl, hb2⟩; obtain ⟨B2, hc2, hf2, p2, q2, r2, z2⟩ := after3 (a := w) hb2 B1 z1; clear hb2))
      have k0 : w2.cell? ⟨w.heap.size + 2, 0, none⟩ = some (.int .i64 0) := (hc2 _ _ r1).trans ((hc1 _ _ (by go_size)).trans (by simp [go_sem]))
      have k1 : w2.cell? ⟨w.heap.size + 2, 1, none⟩ = some (.int .i64 0) := (hc2 _ _ r1).trans ((hc1 _ _ (by go_size)).trans (by simp [go_sem]))
      refine bodyPost_ret (by simp [results, Try.results14, go_sem, k0, k1]; try rfl) rfl ?_
      exact ⟨rfl, by go_grown⟩
    · rw [okS_b (by simpa using hb)] at h
      obtain ⟨q1, q2, q3⟩ := three h
      subst q1; subst q2; subst q3
      simp only [ha] at CA
      simp only [show sV bl bh = false by simpa using hb] at CB
      clear h ha hb
      go_enter Try.func14, Try.ntmps14
      go_wp2_with (first
        | (go_at_call 16; (with_reducible refine ((CA _).out).mono ?_); rintro e w1 ⟨rfl, hb1⟩; obtain ⟨B1, hc1, hf1, p1, q1, r1, z1⟩ := after3 (a := w) hb1 (by go_grown) (by go_size); clear hb1)
        | (go_at_call 16; (with_reducible refine ((CB _).out).mono ?_); rintro e w2 ⟨rfl, hb2⟩; obtain ⟨B2, hc2, hf2, p2, q2, r2, z2⟩ := after3 (a := w) hb2 B1 z1; clear hb2))
      have k0 : w2.cell? ⟨w.heap.size + 2, 0, none⟩ = some (.int .i64 0) := (hc2 _ _ r1).trans ((hc1 _ _ (by go_size)).trans (by simp [go_sem]))
      have k1 : w2.cell? ⟨w.heap.size + 2, 1, none⟩ = some (.int .i64 0) := (hc2 _ _ r1).trans ((hc1 _ _ (by go_size)).trans (by simp [go_sem]))
      refine bodyPost_ret (by simp [results, Try.results14, go_sem, k0, k1]; try rfl) rfl ?_
      exact ⟨rfl, by go_grown⟩
  · rw [okS_a (by simpa using ha)] at h
    obtain ⟨q1, q2, q3⟩ := three h
    subst q1; subst q2; subst q3
    simp only [show sV al ah = false by simpa using ha] at CA
    clear h ha
    go_enter Try.func14, Try.ntmps14
    go_wp2_with (first
      | (go_at_call 16; (with_reducible refine ((CA _).out).mono ?_); rintro e w1 ⟨rfl, hb1⟩; obtain ⟨B1, hc1, hf1, p1, q1, r1, z1⟩ := after3 (a := w) hb1 (by go_grown) (by go_size); clear hb1))
    have k0 : w1.cell? ⟨w.heap.size + 2, 0, none⟩ = some (.int .i64 0) := (hc1 _ _ (by go_size)).trans (by simp [go_sem])
    have k1 : w1.cell? ⟨w.heap.size + 2, 1, none⟩ = some (.int .i64 0) := (hc1 _ _ (by go_size)).trans (by simp [go_sem])
    refine bodyPost_ret (by simp [results, Try.results14, go_sem, k0, k1]; try rfl) rfl ?_
    exact ⟨rfl, by go_grown⟩

set_option maxHeartbeats 4000000 in
theorem sMeet_any (al ah bl bh : Int) (w : World) (a0 : -9223372036854775808 ≤ al) (a1 : al ≤ 9223372036854775807) (a2 : -9223372036854775808 ≤ ah) (a3 : ah ≤ 9223372036854775807) (b0 : -9223372036854775808 ≤ bl) (b1 : bl ≤ 9223372036854775807) (b2 : -9223372036854775808 ≤ bh) (b3 : bh ≤ 9223372036854775807)
    (n d e : Int) (h : sMeet al ah bl bh = (n, d, e)) :
    Calls Try.prog 15 #[.agg #[.int .i64 al, .int .i64 ah], .agg #[.int .i64 bl, .int .i64 bh]] w fun r w' => r = .returned (.tuple #[.agg #[.int .i64 n, .int .i64 d], .int .i64 e]) ∧ Below w.heap.size w w' := by
  have CA := fun w => Lib.hid (sValid_any al ah w)
  have CB := fun w => Lib.hid (sValid_any bl bh w)
  unfold sMeet at h
  by_cases ha : sV al ah = true
  · by_cases hb : sV bl bh = true
    · rw [okS_yes ha hb] at h
      obtain ⟨va1, va2, va3⟩ := sV_vd ha
      obtain ⟨vb1, vb2, vb3⟩ := sV_vd hb
      simp only [ha] at CA
      simp only [hb] at CB
      unfold meetS at h
      by_cases hm : min ah bh < max al bl
      · rw [if_pos hm] at h
        obtain ⟨q1, q2, q3⟩ := three h
        subst q1; subst q2; subst q3
        clear h ha hb
        have d1 : decide (min ah bh < max al bl) = true := by simpa using hm
        clear hm
        go_enter Try.func15, Try.ntmps15
        go_wp2_with (first
          | (go_at_call 16; (with_reducible refine ((CA _).out).mono ?_); rintro e w1 ⟨rfl, hb1⟩; obtain ⟨B1, hc1, hf1, p1, q1, r1, z1⟩ := after3 (a := w) hb1 (by go_grown) (by go_size); clear hb1)
          | (go_at_call 16; (with_reducible refine ((CB _).out).mono ?_); rintro e w2 ⟨rfl, hb2⟩; obtain ⟨B2, hc2, hf2, p2, q2, r2, z2⟩ := after3 (a := w) hb2 B1 z1; clear hb2))
        have k0 : w2.cell? ⟨w.heap.size + 2, 0, none⟩ = some (.int .i64 0) := (hc2 _ _ r1).trans ((hc1 _ _ (by go_size)).trans (by simp [go_sem]))
        have k1 : w2.cell? ⟨w.heap.size + 2, 1, none⟩ = some (.int .i64 0) := (hc2 _ _ r1).trans ((hc1 _ _ (by go_size)).trans (by simp [go_sem]))
        obtain ⟨_, r8, r9⟩ := (Blk.set (x := .int .i64 0) (y := .int .i64 0) (show Blk w2 (w.heap.size + 1 + 1) _ _ from ⟨r2, k0, k1⟩)).alloc (Obj.cells #[Value.int IntKind.i64 (max al bl), Value.int IntKind.i64 (min ah bh)] 23)
        refine bodyPost_ret (by simp [results, Try.results15, go_sem, r8, r9]; try rfl) rfl ?_
        exact ⟨rfl, by go_grown⟩
      · rw [if_neg hm] at h
        obtain ⟨q1, q2, q3⟩ := three h
        subst q1; subst q2; subst q3
        clear h ha hb
        have d1 : decide (min ah bh < max al bl) = false := by simpa using hm
        clear hm
        go_enter Try.func15, Try.ntmps15
        go_wp2_with (first
          | (go_at_call 16; (with_reducible refine ((CA _).out).mono ?_); rintro e w1 ⟨rfl, hb1⟩; obtain ⟨B1, hc1, hf1, p1, q1, r1, z1⟩ := after3 (a := w) hb1 (by go_grown) (by go_size); clear hb1)
          | (go_at_call 16; (with_reducible refine ((CB _).out).mono ?_); rintro e w2 ⟨rfl, hb2⟩; obtain ⟨B2, hc2, hf2, p2, q2, r2, z2⟩ := after3 (a := w) hb2 B1 z1; clear hb2))
        have k0 : w2.cell? ⟨w.heap.size + 2, 0, none⟩ = some (.int .i64 0) := (hc2 _ _ r1).trans ((hc1 _ _ (by go_size)).trans (by simp [go_sem]))
        have k1 : w2.cell? ⟨w.heap.size + 2, 1, none⟩ = some (.int .i64 0) := (hc2 _ _ r1).trans ((hc1 _ _ (by go_size)).trans (by simp [go_sem]))
        obtain ⟨_, r8, r9⟩ := (Blk.set (x := .int .i64 (max al bl)) (y := .int .i64 (min ah bh)) (show Blk w2 (w.heap.size + 1 + 1) _ _ from ⟨r2, k0, k1⟩)).alloc (Obj.cells #[Value.int IntKind.i64 (max al bl), Value.int IntKind.i64 (min ah bh)] 23)
        refine bodyPost_ret (by simp [results, Try.results15, go_sem, r8, r9]; try rfl) rfl ?_
        exact ⟨rfl, by go_grown⟩
    · rw [okS_b (by simpa using hb)] at h
      obtain ⟨q1, q2, q3⟩ := three h
      subst q1; subst q2; subst q3
      simp only [ha] at CA
      simp only [show sV bl bh = false by simpa using hb] at CB
      clear h ha hb
      go_enter Try.func15, Try.ntmps15
      go_wp2_with (first
        | (go_at_call 16; (with_reducible refine ((CA _).out).mono ?_); rintro e w1 ⟨rfl, hb1⟩; obtain ⟨B1, hc1, hf1, p1, q1, r1, z1⟩ := after3 (a := w) hb1 (by go_grown) (by go_size); clear hb1)
        | (go_at_call 16; (with_reducible refine ((CB _).out).mono ?_); rintro e w2 ⟨rfl, hb2⟩; obtain ⟨B2, hc2, hf2, p2, q2, r2, z2⟩ := after3 (a := w) hb2 B1 z1; clear hb2))
      have k0 : w2.cell? ⟨w.heap.size + 2, 0, none⟩ = some (.int .i64 0) := (hc2 _ _ r1).trans ((hc1 _ _ (by go_size)).trans (by simp [go_sem]))
      have k1 : w2.cell? ⟨w.heap.size + 2, 1, none⟩ = some (.int .i64 0) := (hc2 _ _ r1).trans ((hc1 _ _ (by go_size)).trans (by simp [go_sem]))
      refine bodyPost_ret (by simp [results, Try.results15, go_sem, k0, k1]; try rfl) rfl ?_
      exact ⟨rfl, by go_grown⟩
  · rw [okS_a (by simpa using ha)] at h
    obtain ⟨q1, q2, q3⟩ := three h
    subst q1; subst q2; subst q3
    simp only [show sV al ah = false by simpa using ha] at CA
    clear h ha
    go_enter Try.func15, Try.ntmps15
    go_wp2_with (first
      | (go_at_call 16; (with_reducible refine ((CA _).out).mono ?_); rintro e w1 ⟨rfl, hb1⟩; obtain ⟨B1, hc1, hf1, p1, q1, r1, z1⟩ := after3 (a := w) hb1 (by go_grown) (by go_size); clear hb1))
    have k0 : w1.cell? ⟨w.heap.size + 2, 0, none⟩ = some (.int .i64 0) := (hc1 _ _ (by go_size)).trans (by simp [go_sem])
    have k1 : w1.cell? ⟨w.heap.size + 2, 1, none⟩ = some (.int .i64 0) := (hc1 _ _ (by go_size)).trans (by simp [go_sem])
    refine bodyPost_ret (by simp [results, Try.results15, go_sem, k0, k1]; try rfl) rfl ?_
    exact ⟨rfl, by go_grown⟩

end Go.Proofs.Ytknbhpnhnhfbpaa
