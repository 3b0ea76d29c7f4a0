/- Layer 3: a span inside of another one has its results inside of those. -/
import Derived.Test.YtknbhpnhnhfbpaaSMath2
namespace Go.Proofs.Ytknbhpnhnhfbpaa
set_option linter.unusedVariables false

/-- If the greater one's result is there, so is the lesser one's, and inside. -/
def Nar (n d e n' d' e' : Int) : Prop := e' ≠ 0 ∨ (e = 0 ∧ e' = 0 ∧ n' ≤ n ∧ d ≤ d')
theorem fit_nar {lo hi lo' hi' n d e n' d' e' : Int} (h0 : lo' ≤ lo) (h1 : hi ≤ hi') (hm : lo ≤ hi) (h : fitS lo hi = (n, d, e)) (h' : fitS lo' hi' = (n', d', e')) : Nar n d e n' d' e' := by
  unfold fitS at h h'
  by_cases c : sV lo' hi' = true
  · rw [if_pos c] at h'
    obtain ⟨v1, v2, v3⟩ := sV_vd c
    rw [if_pos (sV_yes ⟨by omega, hm, by omega⟩)] at h
    obtain ⟨q1, q2, q3⟩ := three h
    obtain ⟨p1, p2, p3⟩ := three h'
    exact .inr ⟨q3.symm, p3.symm, by omega, by omega⟩
  · rw [if_neg c] at h'
    obtain ⟨p1, p2, p3⟩ := three h'
    exact .inl (by omega)
theorem sV_sub {al ah c1 c2 : Int} (va : SVd al ah) (h0 : al ≤ c1) (h1 : c1 ≤ c2) (h2 : c2 ≤ ah) : SVd c1 c2 := ⟨by have := va.l; omega, h1, by have := va.h; omega⟩
section
variable {al ah bl bh c1 c2 d1 d2 n d e n' d' e' : Int} (va : SVd al ah) (vb : SVd bl bh) (x0 : al ≤ c1) (x1 : c1 ≤ c2) (x2 : c2 ≤ ah) (y0 : bl ≤ d1) (y1 : d1 ≤ d2) (y2 : d2 ≤ bh)
include va vb x0 x1 x2 y0 y1 y2
theorem add_nar (h : sAdd c1 c2 d1 d2 = (n, d, e)) (h' : sAdd al ah bl bh = (n', d', e')) : Nar n d e n' d' e' := by
  unfold sAdd at h h'
  rw [okS_yes (sV_yes (sV_sub va x0 x1 x2)) (sV_yes (sV_sub vb y0 y1 y2))] at h
  rw [okS_yes (sV_yes va) (sV_yes vb)] at h'
  exact fit_nar (by omega) (by omega) (by omega) h h'
theorem sub_nar (h : sSub c1 c2 d1 d2 = (n, d, e)) (h' : sSub al ah bl bh = (n', d', e')) : Nar n d e n' d' e' := by
  unfold sSub at h h'
  rw [okS_yes (sV_yes (sV_sub va x0 x1 x2)) (sV_yes (sV_sub vb y0 y1 y2))] at h
  rw [okS_yes (sV_yes va) (sV_yes vb)] at h'
  exact fit_nar (by omega) (by omega) (by omega) h h'
theorem mul_nar (h : sMul c1 c2 d1 d2 = (n, d, e)) (h' : sMul al ah bl bh = (n', d', e')) : Nar n d e n' d' e' := by
  unfold sMul at h h'
  rw [okS_yes (sV_yes (sV_sub va x0 x1 x2)) (sV_yes (sV_sub vb y0 y1 y2)), mulS_eq] at h
  rw [okS_yes (sV_yes va) (sV_yes vb), mulS_eq] at h'
  by_cases hz : e' = 0
  · subst hz
    obtain ⟨m1, m2, m3, m4, m5, m6⟩ := mul4_ok h'
    have k1 := mul_bd4 (al := al) (ah := ah) (bl := bl) (bh := bh) (x := c1) (y := d1) (by omega) (by omega) (by omega) (by omega)
    have k2 := mul_bd4 (al := al) (ah := ah) (bl := bl) (bh := bh) (x := c1) (y := d2) (by omega) (by omega) (by omega) (by omega)
    have k3 := mul_bd4 (al := al) (ah := ah) (bl := bl) (bh := bh) (x := c2) (y := d1) (by omega) (by omega) (by omega) (by omega)
    have k4 := mul_bd4 (al := al) (ah := ah) (bl := bl) (bh := bh) (x := c2) (y := d2) (by omega) (by omega) (by omega) (by omega)
    unfold mul4 at h
    unfold inM at *
    rw [if_pos ⟨by omega, by omega, by omega, by omega⟩] at h
    obtain ⟨q1, q2, q3⟩ := three h
    exact .inr ⟨q3.symm, rfl, by omega, by omega⟩
  · exact .inl hz
theorem div_nar (h : sDiv c1 c2 d1 d2 = (n, d, e)) (h' : sDiv al ah bl bh = (n', d', e')) : Nar n d e n' d' e' := by
  have vc := sV_sub va x0 x1 x2
  have vd := sV_sub vb y0 y1 y2
  unfold sDiv at h h'
  rw [okS_yes (sV_yes vc) (sV_yes vd)] at h
  rw [okS_yes (sV_yes va) (sV_yes vb)] at h'
  by_cases hz : bl ≤ 0 ∧ 0 ≤ bh
  · unfold divS at h'
    rw [if_pos hz] at h'
    obtain ⟨p1, p2, p3⟩ := three h'
    exact .inl (by omega)
  · rw [divS_eq va vb hz] at h'
    rw [divS_eq vc vd (by omega)] at h
    obtain ⟨q1, q2, q3⟩ := three h
    obtain ⟨p1, p2, p3⟩ := three h'
    have k1 := fl_bd (al := al) (ah := ah) (bl := bl) (bh := bh) (x := c1) (y := d1) (by omega) (by omega) hz (by omega) (by omega)
    have k2 := fl_bd (al := al) (ah := ah) (bl := bl) (bh := bh) (x := c1) (y := d2) (by omega) (by omega) hz (by omega) (by omega)
    have k3 := fl_bd (al := al) (ah := ah) (bl := bl) (bh := bh) (x := c2) (y := d1) (by omega) (by omega) hz (by omega) (by omega)
    have k4 := fl_bd (al := al) (ah := ah) (bl := bl) (bh := bh) (x := c2) (y := d2) (by omega) (by omega) hz (by omega) (by omega)
    have j1 := ce_bd (al := al) (ah := ah) (bl := bl) (bh := bh) (x := c1) (y := d1) (by omega) (by omega) hz (by omega) (by omega)
    have j2 := ce_bd (al := al) (ah := ah) (bl := bl) (bh := bh) (x := c1) (y := d2) (by omega) (by omega) hz (by omega) (by omega)
    have j3 := ce_bd (al := al) (ah := ah) (bl := bl) (bh := bh) (x := c2) (y := d1) (by omega) (by omega) hz (by omega) (by omega)
    have j4 := ce_bd (al := al) (ah := ah) (bl := bl) (bh := bh) (x := c2) (y := d2) (by omega) (by omega) hz (by omega) (by omega)
    rw [p1] at k1 k2 k3 k4
    rw [p2] at j1 j2 j3 j4
    refine .inr ⟨q3.symm, p3.symm, ?_, ?_⟩
    · rw [← q1]
      exact Int.le_min.2 ⟨Int.le_min.2 ⟨Int.le_min.2 ⟨k1, k2⟩, k3⟩, k4⟩
    · rw [← q2]
      exact Int.max_le.2 ⟨Int.max_le.2 ⟨Int.max_le.2 ⟨j1, j2⟩, j3⟩, j4⟩
end
theorem flR_mono {a c u u' : Int} (hu : FlR a u) (hu' : FlR c u') (h : a ≤ c) : u ≤ u' := by
  rcases Int.lt_or_le u' u with g | g
  · have := sq_le (a := u' + 1) (b := u) (by have := hu'.u0; omega) (by omega)
    have := hu.le
    have := hu'.gt
    omega
  · exact g
theorem clR_mono {a c v v' : Int} (hv : ClR a v) (hv' : ClR c v') (h : c ≤ a) : v' ≤ v := by
  rcases Int.lt_or_le v v' with g | g
  · have k := hv'.lt
    rcases k with k | k
    · have := hv.u0; omega
    · have := sq_le (a := v) (b := v' - 1) hv.u0 (by omega)
      have := hv.ge
      omega
  · exact g
theorem root_nar {al ah c1 c2 u v u' v' n d e n' d' e' : Int} (va : SVd al ah) (x0 : al ≤ c1) (x1 : c1 ≤ c2) (x2 : c2 ≤ ah) (hu : 0 ≤ al → FlR al u ∧ ClR ah v) (hu' : 0 ≤ c1 → FlR c1 u' ∧ ClR c2 v')
    (h : sRoot c1 c2 u' v' = (n, d, e)) (h' : sRoot al ah u v = (n', d', e')) : Nar n d e n' d' e' := by
  unfold sRoot at h h'
  rw [if_pos (sV_yes (sV_sub va x0 x1 x2))] at h
  rw [if_pos (sV_yes va)] at h'
  by_cases c : al < 0
  · rw [if_pos c] at h'
    obtain ⟨p1, p2, p3⟩ := three h'
    exact .inl (by omega)
  · rw [if_neg c] at h'
    rw [if_neg (by omega)] at h
    obtain ⟨q1, q2, q3⟩ := three h
    obtain ⟨p1, p2, p3⟩ := three h'
    have a := hu (by omega)
    have b := hu' (by omega)
    have := flR_mono a.1 b.1 x0
    have := clR_mono a.2 b.2 x2
    exact .inr ⟨q3.symm, p3.symm, by omega, by omega⟩

end Go.Proofs.Ytknbhpnhnhfbpaa
