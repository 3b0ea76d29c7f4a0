/- The walk of the law RatioOrder: all its ways together. -/
import Derived.Test.YtjdgppccjpdhoaaDoorRLawOrderA
import Derived.Test.YtjdgppccjpdhoaaDoorRLawOrderB
import Derived.Test.YtjdgppccjpdhoaaDoorRLawOrderC
namespace Go.Proofs.YtjdgppccjpdhoaaDoor
set_option linter.unusedVariables false
open Go.RowKit Go.Shelf

theorem triple' (t : Int × Int × Int) : ∃ a b c, t = (a, b, c) := ⟨t.1, t.2.1, t.2.2, rfl⟩

set_option maxHeartbeats 4000000 in
theorem order_walk (an ad bn bd cn cd : Int) (w : World) (an0 : -9223372036854775808 ≤ an) (an1 : an ≤ 9223372036854775807) (ad0 : -9223372036854775808 ≤ ad) (ad1 : ad ≤ 9223372036854775807) (bn0 : -9223372036854775808 ≤ bn) (bn1 : bn ≤ 9223372036854775807) (bd0 : -9223372036854775808 ≤ bd) (bd1 : bd ≤ 9223372036854775807) (cn0 : -9223372036854775808 ≤ cn) (cn1 : cn ≤ 9223372036854775807) (cd0 : -9223372036854775808 ≤ cd) (cd1 : cd ≤ 9223372036854775807) (hT : Hid (Pow10 w.heap.size w)) :
    Calls Tryd.prog 8 #[.agg #[.int .i64 an, .int .i64 ad], .agg #[.int .i64 bn, .int .i64 bd], .agg #[.int .i64 cn, .int .i64 cd]] w fun e w' => e = .returned (.bool true) ∧ Below w.heap.size w w' := by
  by_cases hab : Vld an ad ∧ Vld bn bd
  · obtain ⟨va, vb⟩ := hab
    have hk := cmp_vld va vb
    have hl := cmp_swap va vb
    have k0 := (sgn_bd (an * bd + -bn * ad)).1
    have k1 := (sgn_bd (an * bd + -bn * ad)).2
    have cz := cmp_zero va vb
    have hz : (sgn (an * bd + -bn * ad) = 0 ∧ an = bn ∧ ad = bd) ∨ (sgn (an * bd + -bn * ad) ≠ 0 ∧ an ≠ bn) ∨ (sgn (an * bd + -bn * ad) ≠ 0 ∧ an = bn ∧ ad ≠ bd) := by
      by_cases h1 : an = bn
      · by_cases h2 : ad = bd
        · exact .inl ⟨cz.2 ⟨h1, h2⟩, h1, h2⟩
        · exact .inr (.inr ⟨fun h => h2 (cz.1 h).2, h1, h2⟩)
      · exact .inr (.inl ⟨fun h => h1 (cz.1 h).1, h1⟩)
    have hdd : ∃ dn dd de, subT an ad bn bd = (dn, dd, de) ∧ ((de = 0 ∧ (0 < dn ↔ 0 < sgn (an * bd + -bn * ad)) ∧ (dn < 0 ↔ sgn (an * bd + -bn * ad) < 0)) ∨ de ≠ 0) := by
      rcases subT_cases an ad bn bd with ⟨dn, dd, hd, _, _, vd, ed⟩ | ⟨de, hd, zd, _⟩
      · exact ⟨dn, dd, 0, hd, .inl ⟨rfl, (sub_sign va vb vd ed).1, (sub_sign va vb vd ed).2⟩⟩
      · exact ⟨0, 0, de, hd, .inr zd⟩
    obtain ⟨dn, dd, de, hd, hd2⟩ := hdd
    rcases addT_cases an ad cn cd with ⟨xn, xd, hx, xa, xb, vx, ex⟩ | ⟨xe, hx, zx, _⟩
    · rcases addT_cases bn bd cn cd with ⟨yn, yd, hy, ya, yb, vy, ey⟩ | ⟨ye, hy, zy, _⟩
      · rcases mulT_cases an ad cn cd with ⟨un, ud, hu, ua, ub, vu, eu⟩ | ⟨ue, hu, zu, _⟩
        · rcases mulT_cases bn bd cn cd with ⟨vn, vd, hv, pa, pb, vv, ev⟩ | ⟨ve, hv, zv, _⟩
          · rcases Int.lt_trichotomy cn 0 with zc | zc | zc
            · exact order_oo_neg an ad bn bd cn cd w an0 an1 ad0 ad1 bn0 bn1 bd0 bd1 cn0 cn1 cd0 cd1 hT _ _ _ _ _ _ _ _ _ _ _ _ _ _ _ _ hk hl k0 k1 hz hd hd2 hx rfl vx hy rfl vy hu rfl vu hv rfl vv (cmp_add va vb xb vx vy ex ey) (by rw [cmp_mul va vb ub vu vv eu ev]; first | (rw [show sgn cn = 1 by unfold sgn; rw [if_neg (by omega), if_neg (by omega)]]; simp) | (rw [show sgn cn = -1 by unfold sgn; rw [if_neg (by omega), if_pos (by omega)]]; simp) | (rw [show sgn cn = 0 from sgn_zero_iff.2 (by omega)]; simp)) zc
            · exact order_oo_zero an ad bn bd cn cd w an0 an1 ad0 ad1 bn0 bn1 bd0 bd1 cn0 cn1 cd0 cd1 hT _ _ _ _ _ _ _ _ _ _ _ _ _ _ _ _ hk hl k0 k1 hz hd hd2 hx rfl vx hy rfl vy hu rfl vu hv rfl vv (cmp_add va vb xb vx vy ex ey) (by rw [cmp_mul va vb ub vu vv eu ev]; first | (rw [show sgn cn = 1 by unfold sgn; rw [if_neg (by omega), if_neg (by omega)]]; simp) | (rw [show sgn cn = -1 by unfold sgn; rw [if_neg (by omega), if_pos (by omega)]]; simp) | (rw [show sgn cn = 0 from sgn_zero_iff.2 (by omega)]; simp)) zc
            · exact order_oo_pos an ad bn bd cn cd w an0 an1 ad0 ad1 bn0 bn1 bd0 bd1 cn0 cn1 cd0 cd1 hT _ _ _ _ _ _ _ _ _ _ _ _ _ _ _ _ hk hl k0 k1 hz hd hd2 hx rfl vx hy rfl vy hu rfl vu hv rfl vv (cmp_add va vb xb vx vy ex ey) (by rw [cmp_mul va vb ub vu vv eu ev]; first | (rw [show sgn cn = 1 by unfold sgn; rw [if_neg (by omega), if_neg (by omega)]]; simp) | (rw [show sgn cn = -1 by unfold sgn; rw [if_neg (by omega), if_pos (by omega)]]; simp) | (rw [show sgn cn = 0 from sgn_zero_iff.2 (by omega)]; simp)) zc
          · exact order_oo_ob an ad bn bd cn cd w an0 an1 ad0 ad1 bn0 bn1 bd0 bd1 cn0 cn1 cd0 cd1 hT _ _ _ _ _ _ _ _ _ _ _ _ _ _ _ _ hk hl k0 k1 hz hd hd2 hx rfl vx hy rfl vy hu rfl vu hv zv ⟨rfl, rfl⟩ (cmp_add va vb xb vx vy ex ey)
        · obtain ⟨vn, vd, ve, hv⟩ := triple' (mulT bn bd cn cd)
          exact order_oo_b an ad bn bd cn cd w an0 an1 ad0 ad1 bn0 bn1 bd0 bd1 cn0 cn1 cd0 cd1 hT _ _ _ _ _ _ _ _ _ _ _ _ _ _ _ _ hk hl k0 k1 hz hd hd2 hx rfl vx hy rfl vy hu zu ⟨rfl, rfl⟩ hv (cmp_add va vb xb vx vy ex ey)
      · rcases mulT_cases an ad cn cd with ⟨un, ud, hu, ua, ub, vu, eu⟩ | ⟨ue, hu, zu, _⟩
        · rcases mulT_cases bn bd cn cd with ⟨vn, vd, hv, pa, pb, vv, ev⟩ | ⟨ve, hv, zv, _⟩
          · rcases Int.lt_trichotomy cn 0 with zc | zc | zc
            · exact order_ob_neg an ad bn bd cn cd w an0 an1 ad0 ad1 bn0 bn1 bd0 bd1 cn0 cn1 cd0 cd1 hT _ _ _ _ _ _ _ _ _ _ _ _ _ _ _ _ hk hl k0 k1 hz hd hd2 hx rfl vx hy zy ⟨rfl, rfl⟩ hu rfl vu hv rfl vv (by rw [cmp_mul va vb ub vu vv eu ev]; first | (rw [show sgn cn = 1 by unfold sgn; rw [if_neg (by omega), if_neg (by omega)]]; simp) | (rw [show sgn cn = -1 by unfold sgn; rw [if_neg (by omega), if_pos (by omega)]]; simp) | (rw [show sgn cn = 0 from sgn_zero_iff.2 (by omega)]; simp)) zc
            · exact order_ob_zero an ad bn bd cn cd w an0 an1 ad0 ad1 bn0 bn1 bd0 bd1 cn0 cn1 cd0 cd1 hT _ _ _ _ _ _ _ _ _ _ _ _ _ _ _ _ hk hl k0 k1 hz hd hd2 hx rfl vx hy zy ⟨rfl, rfl⟩ hu rfl vu hv rfl vv (by rw [cmp_mul va vb ub vu vv eu ev]; first | (rw [show sgn cn = 1 by unfold sgn; rw [if_neg (by omega), if_neg (by omega)]]; simp) | (rw [show sgn cn = -1 by unfold sgn; rw [if_neg (by omega), if_pos (by omega)]]; simp) | (rw [show sgn cn = 0 from sgn_zero_iff.2 (by omega)]; simp)) zc
            · exact order_ob_pos an ad bn bd cn cd w an0 an1 ad0 ad1 bn0 bn1 bd0 bd1 cn0 cn1 cd0 cd1 hT _ _ _ _ _ _ _ _ _ _ _ _ _ _ _ _ hk hl k0 k1 hz hd hd2 hx rfl vx hy zy ⟨rfl, rfl⟩ hu rfl vu hv rfl vv (by rw [cmp_mul va vb ub vu vv eu ev]; first | (rw [show sgn cn = 1 by unfold sgn; rw [if_neg (by omega), if_neg (by omega)]]; simp) | (rw [show sgn cn = -1 by unfold sgn; rw [if_neg (by omega), if_pos (by omega)]]; simp) | (rw [show sgn cn = 0 from sgn_zero_iff.2 (by omega)]; simp)) zc
          · exact order_ob_ob an ad bn bd cn cd w an0 an1 ad0 ad1 bn0 bn1 bd0 bd1 cn0 cn1 cd0 cd1 hT _ _ _ _ _ _ _ _ _ _ _ _ _ _ _ _ hk hl k0 k1 hz hd hd2 hx rfl vx hy zy ⟨rfl, rfl⟩ hu rfl vu hv zv ⟨rfl, rfl⟩
        · obtain ⟨vn, vd, ve, hv⟩ := triple' (mulT bn bd cn cd)
          exact order_ob_b an ad bn bd cn cd w an0 an1 ad0 ad1 bn0 bn1 bd0 bd1 cn0 cn1 cd0 cd1 hT _ _ _ _ _ _ _ _ _ _ _ _ _ _ _ _ hk hl k0 k1 hz hd hd2 hx rfl vx hy zy ⟨rfl, rfl⟩ hu zu ⟨rfl, rfl⟩ hv
    · obtain ⟨yn, yd, ye, hy⟩ := triple' (addT bn bd cn cd)
      rcases mulT_cases an ad cn cd with ⟨un, ud, hu, ua, ub, vu, eu⟩ | ⟨ue, hu, zu, _⟩
      · rcases mulT_cases bn bd cn cd with ⟨vn, vd, hv, pa, pb, vv, ev⟩ | ⟨ve, hv, zv, _⟩
        · rcases Int.lt_trichotomy cn 0 with zc | zc | zc
          · exact order_b_neg an ad bn bd cn cd w an0 an1 ad0 ad1 bn0 bn1 bd0 bd1 cn0 cn1 cd0 cd1 hT _ _ _ _ _ _ _ _ _ _ _ _ _ _ _ _ hk hl k0 k1 hz hd hd2 hx zx ⟨rfl, rfl⟩ hy hu rfl vu hv rfl vv (by rw [cmp_mul va vb ub vu vv eu ev]; first | (rw [show sgn cn = 1 by unfold sgn; rw [if_neg (by omega), if_neg (by omega)]]; simp) | (rw [show sgn cn = -1 by unfold sgn; rw [if_neg (by omega), if_pos (by omega)]]; simp) | (rw [show sgn cn = 0 from sgn_zero_iff.2 (by omega)]; simp)) zc
          · exact order_b_zero an ad bn bd cn cd w an0 an1 ad0 ad1 bn0 bn1 bd0 bd1 cn0 cn1 cd0 cd1 hT _ _ _ _ _ _ _ _ _ _ _ _ _ _ _ _ hk hl k0 k1 hz hd hd2 hx zx ⟨rfl, rfl⟩ hy hu rfl vu hv rfl vv (by rw [cmp_mul va vb ub vu vv eu ev]; first | (rw [show sgn cn = 1 by unfold sgn; rw [if_neg (by omega), if_neg (by omega)]]; simp) | (rw [show sgn cn = -1 by unfold sgn; rw [if_neg (by omega), if_pos (by omega)]]; simp) | (rw [show sgn cn = 0 from sgn_zero_iff.2 (by omega)]; simp)) zc
          · exact order_b_pos an ad bn bd cn cd w an0 an1 ad0 ad1 bn0 bn1 bd0 bd1 cn0 cn1 cd0 cd1 hT _ _ _ _ _ _ _ _ _ _ _ _ _ _ _ _ hk hl k0 k1 hz hd hd2 hx zx ⟨rfl, rfl⟩ hy hu rfl vu hv rfl vv (by rw [cmp_mul va vb ub vu vv eu ev]; first | (rw [show sgn cn = 1 by unfold sgn; rw [if_neg (by omega), if_neg (by omega)]]; simp) | (rw [show sgn cn = -1 by unfold sgn; rw [if_neg (by omega), if_pos (by omega)]]; simp) | (rw [show sgn cn = 0 from sgn_zero_iff.2 (by omega)]; simp)) zc
        · exact order_b_ob an ad bn bd cn cd w an0 an1 ad0 ad1 bn0 bn1 bd0 bd1 cn0 cn1 cd0 cd1 hT _ _ _ _ _ _ _ _ _ _ _ _ _ _ _ _ hk hl k0 k1 hz hd hd2 hx zx ⟨rfl, rfl⟩ hy hu rfl vu hv zv ⟨rfl, rfl⟩
      · obtain ⟨vn, vd, ve, hv⟩ := triple' (mulT bn bd cn cd)
        exact order_b_b an ad bn bd cn cd w an0 an1 ad0 ad1 bn0 bn1 bd0 bd1 cn0 cn1 cd0 cd1 hT _ _ _ _ _ _ _ _ _ _ _ _ _ _ _ _ hk hl k0 k1 hz hd hd2 hx zx ⟨rfl, rfl⟩ hy hu zu ⟨rfl, rfl⟩ hv
  · exact order_bad an ad bn bd cn cd w an0 an1 ad0 ad1 bn0 bn1 bd0 bd1 cn0 cn1 cd0 cd1 hT (cmp_bad hab) (cmp_bad (fun h => hab ⟨h.2, h.1⟩))

end Go.Proofs.YtjdgppccjpdhoaaDoor
