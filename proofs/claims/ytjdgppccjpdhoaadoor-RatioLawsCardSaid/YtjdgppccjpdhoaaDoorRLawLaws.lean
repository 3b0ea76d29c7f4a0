/- The walk of the law RatioLaws: all its ways together. -/
import Derived.Test.YtjdgppccjpdhoaaDoorRLawLawsA
import Derived.Test.YtjdgppccjpdhoaaDoorRLawLawsB
import Derived.Test.YtjdgppccjpdhoaaDoorRLawLawsC
import Derived.Test.YtjdgppccjpdhoaaDoorRLawLawsD
namespace Go.Proofs.YtjdgppccjpdhoaaDoor
set_option linter.unusedVariables false
open Go.RowKit Go.Shelf

theorem triple (t : Int × Int × Int) : ∃ a b c, t = (a, b, c) := ⟨t.1, t.2.1, t.2.2, rfl⟩

set_option maxHeartbeats 4000000 in
theorem laws_walk (an ad bn bd cn cd : Int) (w : World) (an0 : -9223372036854775808 ≤ an) (an1 : an ≤ 9223372036854775807) (ad0 : -9223372036854775808 ≤ ad) (ad1 : ad ≤ 9223372036854775807) (bn0 : -9223372036854775808 ≤ bn) (bn1 : bn ≤ 9223372036854775807) (bd0 : -9223372036854775808 ≤ bd) (bd1 : bd ≤ 9223372036854775807) (cn0 : -9223372036854775808 ≤ cn) (cn1 : cn ≤ 9223372036854775807) (cd0 : -9223372036854775808 ≤ cd) (cd1 : cd ≤ 9223372036854775807) (hT : Hid (Pow10 w.heap.size w)) :
    Calls Tryd.prog 7 #[.agg #[.int .i64 an, .int .i64 ad], .agg #[.int .i64 bn, .int .i64 bd], .agg #[.int .i64 cn, .int .i64 cd]] w fun e w' => e = .returned (.bool true) ∧ Below w.heap.size w w' := by
  rcases addT_cases an ad bn bd with ⟨sn, sd, hs, sa, sb, vs, es⟩ | ⟨se, hs, zs, _⟩
  · rcases addT_cases bn bd cn cd with ⟨tn, td, ht, ta, tb, vt, et⟩ | ⟨te, ht, zt, _⟩
    · rcases mulT_cases an ad bn bd with ⟨pn, pd, hp, pa, pb, vp, ep⟩ | ⟨pe, hp, zp, _⟩
      · rcases mulT_cases bn bd cn cd with ⟨qn, qd, hq, qa, qb, vq, eq⟩ | ⟨qe, hq, zq, _⟩
        · rcases mulT_cases an ad cn cd with ⟨rn, rd, hr, ra, rb, vr, er⟩ | ⟨re, hr, zr, _⟩
          · obtain ⟨un, ud, ue, hu⟩ := triple (addT pn pd rn rd)
            obtain ⟨xn, xd, xe, hx⟩ := triple (addT sn sd cn cd)
            obtain ⟨yn, yd, ye, hy⟩ := triple (mulT pn pd cn cd)
            exact laws_ooooo an ad bn bd cn cd w an0 an1 ad0 ad1 bn0 bn1 bd0 bd1 cn0 cn1 cd0 cd1 hT _ _ _ _ _ _ _ _ _ _ _ _ _ _ _ xn xd xe yn yd ye un ud ue hs rfl vs ht rfl vt hp rfl vp hq rfl vq hr rfl vr hx ((add_assoc sa sb tb vs vt es et).symm.trans hx) hy ((mul_assoc pa pb qb vp vq ep eq).symm.trans hy) hu ((distrib pa pb rb vp vr vt ep er et).symm.trans hu)
          · obtain ⟨un, ud, ue, hu⟩ := triple (addT pn pd 0 0)
            obtain ⟨xn, xd, xe, hx⟩ := triple (addT sn sd cn cd)
            obtain ⟨yn, yd, ye, hy⟩ := triple (mulT pn pd cn cd)
            exact laws_oooob an ad bn bd cn cd w an0 an1 ad0 ad1 bn0 bn1 bd0 bd1 cn0 cn1 cd0 cd1 hT _ _ _ _ _ _ _ _ _ _ _ _ _ _ _ xn xd xe yn yd ye un ud ue hs rfl vs ht rfl vt hp rfl vp hq rfl vq hr zr ⟨rfl, rfl⟩ hx ((add_assoc sa sb tb vs vt es et).symm.trans hx) hy ((mul_assoc pa pb qb vp vq ep eq).symm.trans hy) hu
        · rcases mulT_cases an ad cn cd with ⟨rn, rd, hr, ra, rb, vr, er⟩ | ⟨re, hr, zr, _⟩
          · obtain ⟨un, ud, ue, hu⟩ := triple (addT pn pd rn rd)
            obtain ⟨xn, xd, xe, hx⟩ := triple (addT sn sd cn cd)
            exact laws_ooobo an ad bn bd cn cd w an0 an1 ad0 ad1 bn0 bn1 bd0 bd1 cn0 cn1 cd0 cd1 hT _ _ _ _ _ _ _ _ _ _ _ _ _ _ _ xn xd xe 0 0 0 un ud ue hs rfl vs ht rfl vt hp rfl vp hq zq ⟨rfl, rfl⟩ hr rfl vr hx ((add_assoc sa sb tb vs vt es et).symm.trans hx) hu ((distrib pa pb rb vp vr vt ep er et).symm.trans hu)
          · obtain ⟨un, ud, ue, hu⟩ := triple (addT pn pd 0 0)
            obtain ⟨xn, xd, xe, hx⟩ := triple (addT sn sd cn cd)
            exact laws_ooobb an ad bn bd cn cd w an0 an1 ad0 ad1 bn0 bn1 bd0 bd1 cn0 cn1 cd0 cd1 hT _ _ _ _ _ _ _ _ _ _ _ _ _ _ _ xn xd xe 0 0 0 un ud ue hs rfl vs ht rfl vt hp rfl vp hq zq ⟨rfl, rfl⟩ hr zr ⟨rfl, rfl⟩ hx ((add_assoc sa sb tb vs vt es et).symm.trans hx) hu
      · rcases mulT_cases bn bd cn cd with ⟨qn, qd, hq, qa, qb, vq, eq⟩ | ⟨qe, hq, zq, _⟩
        · rcases mulT_cases an ad cn cd with ⟨rn, rd, hr, ra, rb, vr, er⟩ | ⟨re, hr, zr, _⟩
          · obtain ⟨un, ud, ue, hu⟩ := triple (addT 0 0 rn rd)
            obtain ⟨xn, xd, xe, hx⟩ := triple (addT sn sd cn cd)
            exact laws_ooboo an ad bn bd cn cd w an0 an1 ad0 ad1 bn0 bn1 bd0 bd1 cn0 cn1 cd0 cd1 hT _ _ _ _ _ _ _ _ _ _ _ _ _ _ _ xn xd xe 0 0 0 un ud ue hs rfl vs ht rfl vt hp zp ⟨rfl, rfl⟩ hq rfl vq hr rfl vr hx ((add_assoc sa sb tb vs vt es et).symm.trans hx) hu
          · obtain ⟨un, ud, ue, hu⟩ := triple (addT 0 0 0 0)
            obtain ⟨xn, xd, xe, hx⟩ := triple (addT sn sd cn cd)
            exact laws_oobob an ad bn bd cn cd w an0 an1 ad0 ad1 bn0 bn1 bd0 bd1 cn0 cn1 cd0 cd1 hT _ _ _ _ _ _ _ _ _ _ _ _ _ _ _ xn xd xe 0 0 0 un ud ue hs rfl vs ht rfl vt hp zp ⟨rfl, rfl⟩ hq rfl vq hr zr ⟨rfl, rfl⟩ hx ((add_assoc sa sb tb vs vt es et).symm.trans hx) hu
        · rcases mulT_cases an ad cn cd with ⟨rn, rd, hr, ra, rb, vr, er⟩ | ⟨re, hr, zr, _⟩
          · obtain ⟨un, ud, ue, hu⟩ := triple (addT 0 0 rn rd)
            obtain ⟨xn, xd, xe, hx⟩ := triple (addT sn sd cn cd)
            exact laws_oobbo an ad bn bd cn cd w an0 an1 ad0 ad1 bn0 bn1 bd0 bd1 cn0 cn1 cd0 cd1 hT _ _ _ _ _ _ _ _ _ _ _ _ _ _ _ xn xd xe 0 0 0 un ud ue hs rfl vs ht rfl vt hp zp ⟨rfl, rfl⟩ hq zq ⟨rfl, rfl⟩ hr rfl vr hx ((add_assoc sa sb tb vs vt es et).symm.trans hx) hu
          · obtain ⟨un, ud, ue, hu⟩ := triple (addT 0 0 0 0)
            obtain ⟨xn, xd, xe, hx⟩ := triple (addT sn sd cn cd)
            exact laws_oobbb an ad bn bd cn cd w an0 an1 ad0 ad1 bn0 bn1 bd0 bd1 cn0 cn1 cd0 cd1 hT _ _ _ _ _ _ _ _ _ _ _ _ _ _ _ xn xd xe 0 0 0 un ud ue hs rfl vs ht rfl vt hp zp ⟨rfl, rfl⟩ hq zq ⟨rfl, rfl⟩ hr zr ⟨rfl, rfl⟩ hx ((add_assoc sa sb tb vs vt es et).symm.trans hx) hu
    · rcases mulT_cases an ad bn bd with ⟨pn, pd, hp, pa, pb, vp, ep⟩ | ⟨pe, hp, zp, _⟩
      · rcases mulT_cases bn bd cn cd with ⟨qn, qd, hq, qa, qb, vq, eq⟩ | ⟨qe, hq, zq, _⟩
        · rcases mulT_cases an ad cn cd with ⟨rn, rd, hr, ra, rb, vr, er⟩ | ⟨re, hr, zr, _⟩
          · obtain ⟨un, ud, ue, hu⟩ := triple (addT pn pd rn rd)
            obtain ⟨yn, yd, ye, hy⟩ := triple (mulT pn pd cn cd)
            exact laws_obooo an ad bn bd cn cd w an0 an1 ad0 ad1 bn0 bn1 bd0 bd1 cn0 cn1 cd0 cd1 hT _ _ _ _ _ _ _ _ _ _ _ _ _ _ _ 0 0 0 yn yd ye un ud ue hs rfl vs ht zt ⟨rfl, rfl⟩ hp rfl vp hq rfl vq hr rfl vr hy ((mul_assoc pa pb qb vp vq ep eq).symm.trans hy) hu
          · obtain ⟨un, ud, ue, hu⟩ := triple (addT pn pd 0 0)
            obtain ⟨yn, yd, ye, hy⟩ := triple (mulT pn pd cn cd)
            exact laws_oboob an ad bn bd cn cd w an0 an1 ad0 ad1 bn0 bn1 bd0 bd1 cn0 cn1 cd0 cd1 hT _ _ _ _ _ _ _ _ _ _ _ _ _ _ _ 0 0 0 yn yd ye un ud ue hs rfl vs ht zt ⟨rfl, rfl⟩ hp rfl vp hq rfl vq hr zr ⟨rfl, rfl⟩ hy ((mul_assoc pa pb qb vp vq ep eq).symm.trans hy) hu
        · rcases mulT_cases an ad cn cd with ⟨rn, rd, hr, ra, rb, vr, er⟩ | ⟨re, hr, zr, _⟩
          · obtain ⟨un, ud, ue, hu⟩ := triple (addT pn pd rn rd)
            exact laws_obobo an ad bn bd cn cd w an0 an1 ad0 ad1 bn0 bn1 bd0 bd1 cn0 cn1 cd0 cd1 hT _ _ _ _ _ _ _ _ _ _ _ _ _ _ _ 0 0 0 0 0 0 un ud ue hs rfl vs ht zt ⟨rfl, rfl⟩ hp rfl vp hq zq ⟨rfl, rfl⟩ hr rfl vr hu
          · obtain ⟨un, ud, ue, hu⟩ := triple (addT pn pd 0 0)
            exact laws_obobb an ad bn bd cn cd w an0 an1 ad0 ad1 bn0 bn1 bd0 bd1 cn0 cn1 cd0 cd1 hT _ _ _ _ _ _ _ _ _ _ _ _ _ _ _ 0 0 0 0 0 0 un ud ue hs rfl vs ht zt ⟨rfl, rfl⟩ hp rfl vp hq zq ⟨rfl, rfl⟩ hr zr ⟨rfl, rfl⟩ hu
      · rcases mulT_cases bn bd cn cd with ⟨qn, qd, hq, qa, qb, vq, eq⟩ | ⟨qe, hq, zq, _⟩
        · rcases mulT_cases an ad cn cd with ⟨rn, rd, hr, ra, rb, vr, er⟩ | ⟨re, hr, zr, _⟩
          · obtain ⟨un, ud, ue, hu⟩ := triple (addT 0 0 rn rd)
            exact laws_obboo an ad bn bd cn cd w an0 an1 ad0 ad1 bn0 bn1 bd0 bd1 cn0 cn1 cd0 cd1 hT _ _ _ _ _ _ _ _ _ _ _ _ _ _ _ 0 0 0 0 0 0 un ud ue hs rfl vs ht zt ⟨rfl, rfl⟩ hp zp ⟨rfl, rfl⟩ hq rfl vq hr rfl vr hu
          · obtain ⟨un, ud, ue, hu⟩ := triple (addT 0 0 0 0)
            exact laws_obbob an ad bn bd cn cd w an0 an1 ad0 ad1 bn0 bn1 bd0 bd1 cn0 cn1 cd0 cd1 hT _ _ _ _ _ _ _ _ _ _ _ _ _ _ _ 0 0 0 0 0 0 un ud ue hs rfl vs ht zt ⟨rfl, rfl⟩ hp zp ⟨rfl, rfl⟩ hq rfl vq hr zr ⟨rfl, rfl⟩ hu
        · rcases mulT_cases an ad cn cd with ⟨rn, rd, hr, ra, rb, vr, er⟩ | ⟨re, hr, zr, _⟩
          · obtain ⟨un, ud, ue, hu⟩ := triple (addT 0 0 rn rd)
            exact laws_obbbo an ad bn bd cn cd w an0 an1 ad0 ad1 bn0 bn1 bd0 bd1 cn0 cn1 cd0 cd1 hT _ _ _ _ _ _ _ _ _ _ _ _ _ _ _ 0 0 0 0 0 0 un ud ue hs rfl vs ht zt ⟨rfl, rfl⟩ hp zp ⟨rfl, rfl⟩ hq zq ⟨rfl, rfl⟩ hr rfl vr hu
          · obtain ⟨un, ud, ue, hu⟩ := triple (addT 0 0 0 0)
            exact laws_obbbb an ad bn bd cn cd w an0 an1 ad0 ad1 bn0 bn1 bd0 bd1 cn0 cn1 cd0 cd1 hT _ _ _ _ _ _ _ _ _ _ _ _ _ _ _ 0 0 0 0 0 0 un ud ue hs rfl vs ht zt ⟨rfl, rfl⟩ hp zp ⟨rfl, rfl⟩ hq zq ⟨rfl, rfl⟩ hr zr ⟨rfl, rfl⟩ hu
  · rcases addT_cases bn bd cn cd with ⟨tn, td, ht, ta, tb, vt, et⟩ | ⟨te, ht, zt, _⟩
    · rcases mulT_cases an ad bn bd with ⟨pn, pd, hp, pa, pb, vp, ep⟩ | ⟨pe, hp, zp, _⟩
      · rcases mulT_cases bn bd cn cd with ⟨qn, qd, hq, qa, qb, vq, eq⟩ | ⟨qe, hq, zq, _⟩
        · rcases mulT_cases an ad cn cd with ⟨rn, rd, hr, ra, rb, vr, er⟩ | ⟨re, hr, zr, _⟩
          · obtain ⟨un, ud, ue, hu⟩ := triple (addT pn pd rn rd)
            obtain ⟨yn, yd, ye, hy⟩ := triple (mulT pn pd cn cd)
            exact laws_boooo an ad bn bd cn cd w an0 an1 ad0 ad1 bn0 bn1 bd0 bd1 cn0 cn1 cd0 cd1 hT _ _ _ _ _ _ _ _ _ _ _ _ _ _ _ 0 0 0 yn yd ye un ud ue hs zs ⟨rfl, rfl⟩ ht rfl vt hp rfl vp hq rfl vq hr rfl vr hy ((mul_assoc pa pb qb vp vq ep eq).symm.trans hy) hu ((distrib pa pb rb vp vr vt ep er et).symm.trans hu)
          · obtain ⟨un, ud, ue, hu⟩ := triple (addT pn pd 0 0)
            obtain ⟨yn, yd, ye, hy⟩ := triple (mulT pn pd cn cd)
            exact laws_booob an ad bn bd cn cd w an0 an1 ad0 ad1 bn0 bn1 bd0 bd1 cn0 cn1 cd0 cd1 hT _ _ _ _ _ _ _ _ _ _ _ _ _ _ _ 0 0 0 yn yd ye un ud ue hs zs ⟨rfl, rfl⟩ ht rfl vt hp rfl vp hq rfl vq hr zr ⟨rfl, rfl⟩ hy ((mul_assoc pa pb qb vp vq ep eq).symm.trans hy) hu
        · rcases mulT_cases an ad cn cd with ⟨rn, rd, hr, ra, rb, vr, er⟩ | ⟨re, hr, zr, _⟩
          · obtain ⟨un, ud, ue, hu⟩ := triple (addT pn pd rn rd)
            exact laws_boobo an ad bn bd cn cd w an0 an1 ad0 ad1 bn0 bn1 bd0 bd1 cn0 cn1 cd0 cd1 hT _ _ _ _ _ _ _ _ _ _ _ _ _ _ _ 0 0 0 0 0 0 un ud ue hs zs ⟨rfl, rfl⟩ ht rfl vt hp rfl vp hq zq ⟨rfl, rfl⟩ hr rfl vr hu ((distrib pa pb rb vp vr vt ep er et).symm.trans hu)
          · obtain ⟨un, ud, ue, hu⟩ := triple (addT pn pd 0 0)
            exact laws_boobb an ad bn bd cn cd w an0 an1 ad0 ad1 bn0 bn1 bd0 bd1 cn0 cn1 cd0 cd1 hT _ _ _ _ _ _ _ _ _ _ _ _ _ _ _ 0 0 0 0 0 0 un ud ue hs zs ⟨rfl, rfl⟩ ht rfl vt hp rfl vp hq zq ⟨rfl, rfl⟩ hr zr ⟨rfl, rfl⟩ hu
      · rcases mulT_cases bn bd cn cd with ⟨qn, qd, hq, qa, qb, vq, eq⟩ | ⟨qe, hq, zq, _⟩
        · rcases mulT_cases an ad cn cd with ⟨rn, rd, hr, ra, rb, vr, er⟩ | ⟨re, hr, zr, _⟩
          · obtain ⟨un, ud, ue, hu⟩ := triple (addT 0 0 rn rd)
            exact laws_boboo an ad bn bd cn cd w an0 an1 ad0 ad1 bn0 bn1 bd0 bd1 cn0 cn1 cd0 cd1 hT _ _ _ _ _ _ _ _ _ _ _ _ _ _ _ 0 0 0 0 0 0 un ud ue hs zs ⟨rfl, rfl⟩ ht rfl vt hp zp ⟨rfl, rfl⟩ hq rfl vq hr rfl vr hu
          · obtain ⟨un, ud, ue, hu⟩ := triple (addT 0 0 0 0)
            exact laws_bobob an ad bn bd cn cd w an0 an1 ad0 ad1 bn0 bn1 bd0 bd1 cn0 cn1 cd0 cd1 hT _ _ _ _ _ _ _ _ _ _ _ _ _ _ _ 0 0 0 0 0 0 un ud ue hs zs ⟨rfl, rfl⟩ ht rfl vt hp zp ⟨rfl, rfl⟩ hq rfl vq hr zr ⟨rfl, rfl⟩ hu
        · rcases mulT_cases an ad cn cd with ⟨rn, rd, hr, ra, rb, vr, er⟩ | ⟨re, hr, zr, _⟩
          · obtain ⟨un, ud, ue, hu⟩ := triple (addT 0 0 rn rd)
            exact laws_bobbo an ad bn bd cn cd w an0 an1 ad0 ad1 bn0 bn1 bd0 bd1 cn0 cn1 cd0 cd1 hT _ _ _ _ _ _ _ _ _ _ _ _ _ _ _ 0 0 0 0 0 0 un ud ue hs zs ⟨rfl, rfl⟩ ht rfl vt hp zp ⟨rfl, rfl⟩ hq zq ⟨rfl, rfl⟩ hr rfl vr hu
          · obtain ⟨un, ud, ue, hu⟩ := triple (addT 0 0 0 0)
            exact laws_bobbb an ad bn bd cn cd w an0 an1 ad0 ad1 bn0 bn1 bd0 bd1 cn0 cn1 cd0 cd1 hT _ _ _ _ _ _ _ _ _ _ _ _ _ _ _ 0 0 0 0 0 0 un ud ue hs zs ⟨rfl, rfl⟩ ht rfl vt hp zp ⟨rfl, rfl⟩ hq zq ⟨rfl, rfl⟩ hr zr ⟨rfl, rfl⟩ hu
    · rcases mulT_cases an ad bn bd with ⟨pn, pd, hp, pa, pb, vp, ep⟩ | ⟨pe, hp, zp, _⟩
      · rcases mulT_cases bn bd cn cd with ⟨qn, qd, hq, qa, qb, vq, eq⟩ | ⟨qe, hq, zq, _⟩
        · rcases mulT_cases an ad cn cd with ⟨rn, rd, hr, ra, rb, vr, er⟩ | ⟨re, hr, zr, _⟩
          · obtain ⟨un, ud, ue, hu⟩ := triple (addT pn pd rn rd)
            obtain ⟨yn, yd, ye, hy⟩ := triple (mulT pn pd cn cd)
            exact laws_bbooo an ad bn bd cn cd w an0 an1 ad0 ad1 bn0 bn1 bd0 bd1 cn0 cn1 cd0 cd1 hT _ _ _ _ _ _ _ _ _ _ _ _ _ _ _ 0 0 0 yn yd ye un ud ue hs zs ⟨rfl, rfl⟩ ht zt ⟨rfl, rfl⟩ hp rfl vp hq rfl vq hr rfl vr hy ((mul_assoc pa pb qb vp vq ep eq).symm.trans hy) hu
          · obtain ⟨un, ud, ue, hu⟩ := triple (addT pn pd 0 0)
            obtain ⟨yn, yd, ye, hy⟩ := triple (mulT pn pd cn cd)
            exact laws_bboob an ad bn bd cn cd w an0 an1 ad0 ad1 bn0 bn1 bd0 bd1 cn0 cn1 cd0 cd1 hT _ _ _ _ _ _ _ _ _ _ _ _ _ _ _ 0 0 0 yn yd ye un ud ue hs zs ⟨rfl, rfl⟩ ht zt ⟨rfl, rfl⟩ hp rfl vp hq rfl vq hr zr ⟨rfl, rfl⟩ hy ((mul_assoc pa pb qb vp vq ep eq).symm.trans hy) hu
        · rcases mulT_cases an ad cn cd with ⟨rn, rd, hr, ra, rb, vr, er⟩ | ⟨re, hr, zr, _⟩
          · obtain ⟨un, ud, ue, hu⟩ := triple (addT pn pd rn rd)
            exact laws_bbobo an ad bn bd cn cd w an0 an1 ad0 ad1 bn0 bn1 bd0 bd1 cn0 cn1 cd0 cd1 hT _ _ _ _ _ _ _ _ _ _ _ _ _ _ _ 0 0 0 0 0 0 un ud ue hs zs ⟨rfl, rfl⟩ ht zt ⟨rfl, rfl⟩ hp rfl vp hq zq ⟨rfl, rfl⟩ hr rfl vr hu
          · obtain ⟨un, ud, ue, hu⟩ := triple (addT pn pd 0 0)
            exact laws_bbobb an ad bn bd cn cd w an0 an1 ad0 ad1 bn0 bn1 bd0 bd1 cn0 cn1 cd0 cd1 hT _ _ _ _ _ _ _ _ _ _ _ _ _ _ _ 0 0 0 0 0 0 un ud ue hs zs ⟨rfl, rfl⟩ ht zt ⟨rfl, rfl⟩ hp rfl vp hq zq ⟨rfl, rfl⟩ hr zr ⟨rfl, rfl⟩ hu
      · rcases mulT_cases bn bd cn cd with ⟨qn, qd, hq, qa, qb, vq, eq⟩ | ⟨qe, hq, zq, _⟩
        · rcases mulT_cases an ad cn cd with ⟨rn, rd, hr, ra, rb, vr, er⟩ | ⟨re, hr, zr, _⟩
          · obtain ⟨un, ud, ue, hu⟩ := triple (addT 0 0 rn rd)
            exact laws_bbboo an ad bn bd cn cd w an0 an1 ad0 ad1 bn0 bn1 bd0 bd1 cn0 cn1 cd0 cd1 hT _ _ _ _ _ _ _ _ _ _ _ _ _ _ _ 0 0 0 0 0 0 un ud ue hs zs ⟨rfl, rfl⟩ ht zt ⟨rfl, rfl⟩ hp zp ⟨rfl, rfl⟩ hq rfl vq hr rfl vr hu
          · obtain ⟨un, ud, ue, hu⟩ := triple (addT 0 0 0 0)
            exact laws_bbbob an ad bn bd cn cd w an0 an1 ad0 ad1 bn0 bn1 bd0 bd1 cn0 cn1 cd0 cd1 hT _ _ _ _ _ _ _ _ _ _ _ _ _ _ _ 0 0 0 0 0 0 un ud ue hs zs ⟨rfl, rfl⟩ ht zt ⟨rfl, rfl⟩ hp zp ⟨rfl, rfl⟩ hq rfl vq hr zr ⟨rfl, rfl⟩ hu
        · rcases mulT_cases an ad cn cd with ⟨rn, rd, hr, ra, rb, vr, er⟩ | ⟨re, hr, zr, _⟩
          · obtain ⟨un, ud, ue, hu⟩ := triple (addT 0 0 rn rd)
            exact laws_bbbbo an ad bn bd cn cd w an0 an1 ad0 ad1 bn0 bn1 bd0 bd1 cn0 cn1 cd0 cd1 hT _ _ _ _ _ _ _ _ _ _ _ _ _ _ _ 0 0 0 0 0 0 un ud ue hs zs ⟨rfl, rfl⟩ ht zt ⟨rfl, rfl⟩ hp zp ⟨rfl, rfl⟩ hq zq ⟨rfl, rfl⟩ hr rfl vr hu
          · obtain ⟨un, ud, ue, hu⟩ := triple (addT 0 0 0 0)
            exact laws_bbbbb an ad bn bd cn cd w an0 an1 ad0 ad1 bn0 bn1 bd0 bd1 cn0 cn1 cd0 cd1 hT _ _ _ _ _ _ _ _ _ _ _ _ _ _ _ 0 0 0 0 0 0 un ud ue hs zs ⟨rfl, rfl⟩ ht zt ⟨rfl, rfl⟩ hp zp ⟨rfl, rfl⟩ hq zq ⟨rfl, rfl⟩ hr zr ⟨rfl, rfl⟩ hu

end Go.Proofs.YtjdgppccjpdhoaaDoor
