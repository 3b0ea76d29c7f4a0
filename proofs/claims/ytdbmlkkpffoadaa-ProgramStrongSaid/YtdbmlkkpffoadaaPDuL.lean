/- Layer 5: the least values of a program and its dual. Layer 5: the laws ProgramProofs and ProgramStrong, walked. -/
import Derived.Test.YtdbmlkkpffoadaaPDua
import Derived.Test.YtdbmlkkpffoadaaPBts
namespace Go.Proofs.Ytdbmlkkpffoadaa
set_option linter.unusedVariables false

section
variable {p q : PgD}
theorem opt_pos {b : Nat → Nat} (ho : OptP p b) : 0 < dP p b := ddP_pos ho.rel.good.nz
/-- The least values of a program and its dual are opposite. -/
theorem du_value (hv : p.Ok) (hq : q.Ok) (hd : IsDu p q) {b c : Nat → Nat} (ho : OptP p b) (hc : OptP q c) : valP p (xP p b) * dP q c + valP q (xP q c) * dP p b = 0 := by
  have pD := opt_pos ho
  have qD := opt_pos hc
  have x1 : FeaP p (dP p b) (xP p b) := xP_fea hv ho.rel
  have y1 : ProvP p (dP p b) (yP p 0 (c0F p.n p.C) b) := y_prov ho.zz
  have x2 : FeaP q (dP q c) (xP q c) := xP_fea hq hc.rel
  have y2 := y_prov hc.zz
  have h1 := weak hv x1 (du_prov hd x2)
  rw [du_rgt hd] at h1
  have h2 := (opt_is hq hc pD qD (du_fea hd hv y1) y2).2
  rw [du_cost hd hv y1.rgt, ← opt_val ho] at h2
  have e1 : -valP q (xP q c) * dP p b = -(valP q (xP q c) * dP p b) := Int.neg_mul _ _
  have e2 : dP q c * -valP p (xP p b) = -(valP p (xP p b) * dP q c) := by rw [Int.mul_neg, Int.mul_comm]
  have e3 : dP q c * valP p (xP p b) = valP p (xP p b) * dP q c := Int.mul_comm _ _
  rw [e1, e3] at h1
  rw [e2] at h2
  omega
end
theorem add_opp {a D c E : Int} (hD : 0 < D) (hE : 0 < E) (v1 : Vld (shF a D).1 (shF a D).2) (h1 : (shF a D).1 * D = a * (shF a D).2) (v2 : Vld (shF c E).1 (shF c E).2) (h2 : (shF c E).1 * E = c * (shF c E).2) (h : a * E + c * D = 0) :
    addT (shF a D).1 (shF a D).2 (shF c E).1 (shF c E).2 = (0, 1, 0) := by
  generalize (shF a D).1 = s at *
  generalize (shF a D).2 = t at *
  generalize (shF c E).1 = u at *
  generalize (shF c E).2 = r at *
  unfold addT
  rw [okT_vld v1 v2]
  have t1 := v1.d1
  have r1 := v2.d1
  have key : (s * r + u * t) * (D * E) = 0 := by
    calc (s * r + u * t) * (D * E) = (s * D) * (r * E) + (u * E) * (t * D) := by grind
      _ = (a * t) * (r * E) + (c * r) * (t * D) := by rw [h1, h2]
      _ = (a * E + c * D) * (t * r) := by grind
      _ = 0 := by rw [h, Int.zero_mul]
  have hz : s * r + u * t = 0 := by
    rcases Int.mul_eq_zero.1 key with g | g
    · exact g
    · have := Int.mul_pos hD hE
      omega
  rw [hz]
  exact (redT_eq (p := 0) (q := t * r) (p' := 0) (q' := 1) (Int.mul_pos (by omega) (by omega)) (by decide) (by rw [Int.zero_mul, Int.zero_mul])).trans (by kernel_rfl)
end Go.Proofs.Ytdbmlkkpffoadaa

namespace Go.Proofs.Ytdbmlkkpffoadaa
set_option linter.unusedVariables false
open Go.RowKit Go.Shelf

theorem SolO.form {p : PgD} {B : Nat} {W : World} {vl : Value} {er : Int} (h : SolO p B W vl er) : ∃ a d xa xn xc ya yn yc, vl = .agg #[.int .i64 a, .int .i64 d, .slice xa xn xc, .slice ya yn yc] := by
  rcases h with ⟨_, _, rfl⟩ | ⟨_, _, _, rfl⟩ | ⟨_, _, _, _, rfl⟩ | ⟨_, _, _, _, _, rfl⟩ | ⟨_, _, _, b, xb, yb, _, rfl, _⟩
  · exact ⟨_, _, _, _, _, _, _, _, rfl⟩
  · exact ⟨_, _, _, _, _, _, _, _, rfl⟩
  · exact ⟨_, _, _, _, _, _, _, _, rfl⟩
  · exact ⟨_, _, _, _, _, _, _, _, rfl⟩
  · exact ⟨_, _, _, _, _, _, _, _, rfl⟩
theorem FarO.form {p : PgD} {B : Nat} {W : World} {vl : Value} {er : Int} (h : FarO p B W vl er) : ∃ ya yn yc, vl = .slice ya yn yc := by
  rcases h with ⟨_, _, rfl⟩ | ⟨_, _, _, rfl⟩ | ⟨_, _, _, _, rfl⟩ | ⟨_, _, _, b, yb, _, _, rfl, _⟩
  · exact ⟨_, _, _, rfl⟩
  · exact ⟨_, _, _, rfl⟩
  · exact ⟨_, _, _, rfl⟩
  · exact ⟨_, _, _, rfl⟩
theorem SolO.on {p : PgD} {B : Nat} {W W2 : World} {vl : Value} {er : Int} (h : SolO p B W vl er) (hb : Below W.heap.size W W2) : SolO p B W2 vl er := by
  rcases h with h | h | h | h | ⟨h1, h2, h3, b, xb, yb, h4, h5, h6, h7, h8, h9⟩
  · exact .inl h
  · exact .inr (.inl h)
  · exact .inr (.inr (.inl h))
  · exact .inr (.inr (.inr (.inl h)))
  · exact .inr (.inr (.inr (.inr ⟨h1, h2, h3, b, xb, yb, h4, h5, h6, h7, h8.on hb, h9.on hb⟩)))
def zA : Value := aV (0, 0) (.slice none 0 0) (.slice none 0 0)
/-- What Solve and Farkas answer to the same program. -/
theorem sol_far {p : PgD} {B B2 : Nat} {W W2 : World} {vl vl2 : Value} {er er2 : Int} (h : SolO p B W vl er) (k : FarO p B2 W2 vl2 er2) :
    (er = 1 ∧ er2 = 1 ∧ vl = zA ∧ vl2 = .slice none 0 0) ∨ (er = 5 ∧ er2 = 5 ∧ vl = zA ∧ vl2 = .slice none 0 0) ∨
    (er = 22 ∧ er2 = 0 ∧ p.Ok ∧ FitP p ∧ vl = zA ∧ ∃ b yb, GoodP p.m (tabA p.n p.m p.Z p.Kd p.Rt) (p.n + p.m + p.m + 1) (p.n + p.m + p.m) b ∧ RefuP p (yP p 1 (c1F p.n p.m) b) ∧ vl2 = .slice (some ⟨yb, 0, none⟩) p.m p.m ∧ FrX W2 yb p.m (mltP p 1 (c1F p.n p.m) b)) ∨
    (er = 21 ∧ er2 = 12 ∧ p.Ok ∧ FitP p ∧ vl = zA ∧ vl2 = .slice none 0 0 ∧ ∃ r, RayP p r) ∨
    (er = 0 ∧ er2 = 12 ∧ p.Ok ∧ FitP p ∧ vl2 = .slice none 0 0 ∧ ∃ b xb yb, OptP p b ∧ vl = aV (shF (valP p (xP p b)) (dP p b)) (.slice (some ⟨xb, 0, none⟩) p.n p.n) (.slice (some ⟨yb, 0, none⟩) p.m p.m) ∧ FrX W xb p.n (pntP p b) ∧ FrX W yb p.m (mltP p 0 (c0F p.n p.C) b)) := by
  rcases h with ⟨e, ho, hvl⟩ | ⟨e, ho, hf, hvl⟩ | ⟨e, ho, hf, ⟨y, hy⟩, hvl⟩ | ⟨e, ho, hf, ⟨b, hb⟩, hr, hvl⟩ | ⟨e, ho, hf, b, xb, yb, hb, hvl, hx, hy, hx2, hy2⟩
  · rcases k with ⟨e2, _, h2⟩ | ⟨_, h2, _⟩ | ⟨_, h2, _⟩ | ⟨_, h2, _⟩
    · exact .inl ⟨e, e2, hvl, h2⟩
    · exact absurd h2 ho
    · exact absurd h2 ho
    · exact absurd h2 ho
  · rcases k with ⟨_, h2, _⟩ | ⟨e2, _, _, h2⟩ | ⟨_, _, h2, _⟩ | ⟨_, _, h2, _⟩
    · exact absurd ho h2
    · exact .inr (.inl ⟨e, e2, hvl, h2⟩)
    · exact absurd h2 hf
    · exact absurd h2 hf
  · rcases k with ⟨_, h2, _⟩ | ⟨_, _, h2, _⟩ | ⟨_, _, _, ⟨b, hb⟩, _⟩ | ⟨e2, _, _, b, yb, hg, hr, h2, _, hx⟩
    · exact absurd ho h2
    · exact absurd hf h2
    · exact (no_refute ho (ddP_pos hb.good.nz) (xP_fea ho hb) hy).elim
    · exact .inr (.inr (.inl ⟨e, e2, ho, hf, hvl, b, yb, hg, hr, h2, hx⟩))
  · rcases k with ⟨_, h2, _⟩ | ⟨_, _, h2, _⟩ | ⟨e2, _, _, _, h2⟩ | ⟨_, _, _, b2, yb, hg, hr2, _⟩
    · exact absurd ho h2
    · exact absurd hf h2
    · exact .inr (.inr (.inr (.inl ⟨e, e2, ho, hf, hvl, h2, hr⟩)))
    · exact (no_refute ho (ddP_pos hb.good.nz) (xP_fea ho hb) hr2).elim
  · rcases k with ⟨_, h2, _⟩ | ⟨_, _, h2, _⟩ | ⟨e2, _, _, _, h2⟩ | ⟨_, _, _, b2, yb2, hg, hr2, _⟩
    · exact absurd ho h2
    · exact absurd hf h2
    · exact .inr (.inr (.inr (.inr ⟨e, e2, ho, hf, h2, b, xb, yb, hb, hvl, hx2, hy2⟩)))
    · exact (no_refute ho (ddP_pos hb.rel.good.nz) (xP_fea ho hb.rel) hr2).elim
theorem frv_b {N : Nat} {X : Nat → Int × Int} (h : FrV N X) : FrB N X := fun j hj => by
  have := h j hj
  have a := this.d1
  have b := this.d2
  have c := this.n1
  have d := this.n2
  omega
theorem check_opt {p : PgD} (hs : p.Sm) {b : Nat → Nat} (hv : p.Ok) (hf : FitP p) (ho : OptP p b) {xb yb : Nat} {w : World} (hp : p.At w) (hx : FrX w xb p.n (pntP p b)) (hy : FrX w yb p.m (mltP p 0 (c0F p.n p.C) b)) :
    Calls Try.prog 15 #[p.val, aV (shF (valP p (xP p b)) (dP p b)) (.slice (some ⟨xb, 0, none⟩) p.n p.n) (.slice (some ⟨yb, 0, none⟩) p.m p.m)] w fun e w' => e = .returned (.tuple #[.bool true, .int .i64 0]) ∧ Below w.heap.size w w' := by
  obtain ⟨v1, v2, v3, c1, c2⟩ := accept hv hf ho
  have hn2 := hv.n2
  have hm2 := hv.m2
  refine (Check_any p hs _ _ (some ⟨xb, 0, none⟩) p.n p.n (pntP p b) (some ⟨yb, 0, none⟩) p.m p.m (mltP p 0 (c0F p.n p.C) b) w hp hx.ifr hy.ifr (frv_b v1) (frv_b v2) (frv_b (N := 1) (X := fun _ => ((shF (valP p (xP p b)) (dP p b)).1, (shF (valP p (xP p b)) (dP p b)).2)) fun j hj => v3) (by omega) (by omega)).mono ?_
  rintro e w' ⟨hb, v, er, rfl, h⟩
  rcases h with h | h | h | h
  · exact absurd ⟨hv, v3, v1, v2⟩ h.1
  · exact absurd ⟨rfl, rfl⟩ h.2.2.2.2.1
  · exact absurd c1 h.2.2.2.2.2.2.1
  · obtain ⟨_, _, _, _, _, _, _, h1, rfl⟩ := h
    rw [h1.2 c2]
    exact ⟨rfl, hb⟩
theorem refutes_far {p : PgD} (hs : p.Sm) {b : Nat → Nat} (hv : p.Ok) (hf : FitP p) (hg : GoodP p.m (tabA p.n p.m p.Z p.Kd p.Rt) (p.n + p.m + p.m + 1) (p.n + p.m + p.m) b) (hr : RefuP p (yP p 1 (c1F p.n p.m) b)) {yb : Nat} {w : World} (hp : p.At w) (hy : FrX w yb p.m (mltP p 1 (c1F p.n p.m) b)) :
    Calls Try.prog 16 #[p.val, .slice (some ⟨yb, 0, none⟩) p.m p.m] w fun e w' => e = .returned (.tuple #[.bool true, .int .i64 0]) ∧ Below w.heap.size w w' := by
  obtain ⟨v1, v2, v3⟩ := refuted hv hf hg hr
  have hm2 := hv.m2
  refine (Refutes_any p hs (some ⟨yb, 0, none⟩) p.m p.m (mltP p 1 (c1F p.n p.m) b) w hp hy.ifr (frv_b v1) (by omega)).mono ?_
  rintro e w' ⟨hb, v, er, rfl, h⟩
  rcases h with h | h | h | h
  · exact absurd ⟨hv, v1⟩ h.1
  · exact absurd rfl h.2.2.1
  · obtain ⟨j, hj, h0⟩ := h.2.2.2.1
    have := v2 j hj
    rw [h0] at this
    exact absurd this (by decide)
  · obtain ⟨_, _, _, _, h1, rfl⟩ := h
    rw [h1.2 v3]
    exact ⟨rfl, hb⟩
theorem du_sm {p q : PgD} (hd : IsDu p q) (hv : p.Ok) : q.Sm := by
  have h1 := shL_len p p.m
  have hm2 := hv.m2
  have hn2 := hv.n2
  have h2 : shN p ≤ 12 := by unfold shN; omega
  exact ⟨by rw [hd.n]; omega, by rw [hd.m]; omega, fun j hj => by
    rw [hd.m] at hj
    rw [hd.l j hj]; omega⟩
theorem dua_form {p q : PgD} {er : Int} (h : DuaO p q er) : (er ≠ 0 ∧ q = zeroPg) ∨ (er = 0 ∧ p.Ok ∧ q.Ok ∧ q.Sm ∧ IsDu p q) := by
  rcases h with ⟨e, _, h⟩ | ⟨e, _, _, h⟩ | ⟨e, _, _, _, h⟩ | ⟨e, _, _, _, _, h⟩ | ⟨e, ho, hm, ⟨hn, hk⟩, hr, hd⟩
  · exact .inl ⟨by omega, h⟩
  · exact .inl ⟨by omega, h⟩
  · exact .inl ⟨by omega, h⟩
  · exact .inl ⟨by omega, h⟩
  · exact .inr ⟨e, ho, du_ok hd ho hm hn hk hr, du_sm hd ho, hd⟩
/-- The dual of a program that is free has no feasible point, or doesn't fit. -/
theorem sol_free {p q : PgD} (hv : p.Ok) (hq : q.Ok) (hd : IsDu p q) {r : Nat → Int} (hr : RayP p r) {B : Nat} {W : World} {vl : Value} {er : Int} (h : SolO q B W vl er) : vl = zA ∧ (er = 22 ∨ er = 5) := by
  rcases h with ⟨e, ho, hvl⟩ | ⟨e, ho, hf, hvl⟩ | ⟨e, ho, hf, ⟨y, hy⟩, hvl⟩ | ⟨e, ho, hf, ⟨b, hb⟩, _, hvl⟩ | ⟨e, ho, hf, b, xb, yb, hb, hvl, hx, hy, hx2, hy2⟩
  · exact absurd hq ho
  · exact ⟨hvl, .inr e⟩
  · exact ⟨hvl, .inl e⟩
  · exact (no_ray hv (ddP_pos hb.good.nz) hr (du_prov hd (xP_fea hq hb))).elim
  · exact (no_ray hv (ddP_pos hb.rel.good.nz) hr (du_prov hd (xP_fea hq hb.rel))).elim
theorem sol_val {p : PgD} (hv : p.Ok) (hf : FitP p) {b : Nat → Nat} (ho : OptP p b) : Vld (shF (valP p (xP p b)) (dP p b)).1 (shF (valP p (xP p b)) (dP p b)).2 ∧ (shF (valP p (xP p b)) (dP p b)).1 * dP p b = valP p (xP p b) * (shF (valP p (xP p b)) (dP p b)).2 := by
  have hd := dP_bd hv hf ho.rel.good
  have hb := fit_bd hv hf
  have cst := x_sums hv hf ho.rel.good p.C (fun j hj => by have := hv.c j hj; omega) (by omega)
  exact shF_val (valP p (xP p b)) (dP p b) (by omega) cst.2 ⟨by omega, hd.2⟩
theorem agg_two {v : Int × Int} {x y x2 y2 : Value} {a d : Int} (h : aV v x y = .agg #[.int .i64 a, .int .i64 d, x2, y2]) : v = (a, d) := by
  unfold aV at h
  injection h with h
  injection h with h
  simp only [List.cons.injEq, Value.int.injEq, true_and] at h
  obtain ⟨h1, h2, _⟩ := h
  obtain ⟨v1, v2⟩ := v
  simp only at h1 h2
  rw [h1, h2]
/-- What Solve answers to a program and its dual. -/
theorem strong_sol {p q : PgD} (hv : p.Ok) (hq : q.Ok) (hd : IsDu p q) {B B2 : Nat} {W W2 : World} {vl vl2 : Value} {er er2 : Int} (h : SolO p B W vl er) (k : SolO q B2 W2 vl2 er2) :
    (er = 5) ∨ (er2 = 5) ∨ (er = 22 ∧ (er2 = 22 ∨ er2 = 21)) ∨ (er = 21 ∧ er2 = 22) ∨
    (er = 0 ∧ er2 = 0 ∧ ∀ a d a2 d2, (∃ x y, vl = .agg #[.int .i64 a, .int .i64 d, x, y]) → (∃ x y, vl2 = .agg #[.int .i64 a2, .int .i64 d2, x, y]) → (Vld a d ∧ Vld a2 d2) ∧ addT a d a2 d2 = (0, 1, 0)) := by
  rcases h with ⟨e, ho, hvl⟩ | ⟨e, ho, hf, hvl⟩ | ⟨e, ho, hf, ⟨y, hy⟩, hvl⟩ | ⟨e, ho, hf, ⟨b, hb⟩, ⟨r, hr⟩, hvl⟩ | ⟨e, ho, hf, b, xb, yb, hb, hvl, hx, hy, hx2, hy2⟩
  · exact absurd hv ho
  · exact .inl e
  · rcases k with ⟨e2, ho2, _⟩ | ⟨e2, _⟩ | ⟨e2, _⟩ | ⟨e2, _⟩ | ⟨e2, _, _, c, _, _, hc, _⟩
    · exact absurd hq ho2
    · exact .inr (.inl e2)
    · exact .inr (.inr (.inl ⟨e, .inl e2⟩))
    · exact .inr (.inr (.inl ⟨e, .inr e2⟩))
    · exact (no_ray hq (ddP_pos hc.rel.good.nz) (du_ray hd hv hy) (y_prov hc.zz)).elim
  · rcases k with ⟨e2, ho2, _⟩ | ⟨e2, _⟩ | ⟨e2, _⟩ | ⟨e2, _, _, ⟨c, hc⟩, _⟩ | ⟨e2, _, _, c, _, _, hc, _⟩
    · exact absurd hq ho2
    · exact .inr (.inl e2)
    · exact .inr (.inr (.inr (.inl ⟨e, e2⟩)))
    · exact (no_ray hv (ddP_pos hc.good.nz) hr (du_prov hd (xP_fea hq hc))).elim
    · exact (no_ray hv (ddP_pos hc.rel.good.nz) hr (du_prov hd (xP_fea hq hc.rel))).elim
  · rcases k with ⟨e2, ho2, _⟩ | ⟨e2, _⟩ | ⟨e2, _, _, ⟨y2, hy2⟩, _⟩ | ⟨e2, _, _, _, ⟨r, hr⟩, _⟩ | ⟨e2, _, hf2, c, _, _, hc, hvl2, _⟩
    · exact absurd hq ho2
    · exact .inr (.inl e2)
    · exact (no_refute hq (ddP_pos hb.rel.good.nz) (du_fea hd hv (y_prov hb.zz)) hy2).elim
    · exact (no_refute hv (ddP_pos hb.rel.good.nz) (xP_fea hv hb.rel) (du_refu hd hr)).elim
    · refine .inr (.inr (.inr (.inr ⟨e, e2, ?_⟩)))
      rintro a d a2 d2 ⟨x, y, hx⟩ ⟨x2, y2, hx2⟩
      have h1 := sol_val hv hf hb
      have h2 := sol_val hq hf2 hc
      have h3 := add_opp (opt_pos hb) (opt_pos hc) h1.1 h1.2 h2.1 h2.2 (du_value hv hq hd hb hc)
      have g1 := agg_two (hvl.symm.trans hx)
      have g2 := agg_two (hvl2.symm.trans hx2)
      rw [g1] at h1 h3
      rw [g2] at h2 h3
      exact ⟨⟨h1.1, h2.1⟩, h3⟩
theorem zeroPg_is : zeroPg.ca = none ∧ zeroPg.n = 0 ∧ zeroPg.cc = 0 ∧ zeroPg.ra = none ∧ zeroPg.m = 0 ∧ zeroPg.rc = 0 := ⟨rfl, rfl, rfl, rfl, rfl, rfl⟩

set_option maxRecDepth 100000 in
set_option maxHeartbeats 32000000 in
theorem lawProofs_any (p : PgD) (hs : p.Sm) (w : World) (hp : p.At w) :
    Calls Try.prog 4 #[p.val] w fun e w' => e = .returned (.bool true) ∧ Below w.heap.size w w' := by
  unfold PgD.val
  obtain ⟨v, hv⟩ := bool_of (FewP p)
  have hb1 : Below w.heap.size w (w.alloc (Obj.cells #[Value.slice p.ca p.n p.cc, .slice p.ra p.m p.rc] 25)) := (Below.refl _ _).alloc (Nat.le_refl _) _
  obtain ⟨w1, hw1⟩ : ∃ W, W = w.alloc (Obj.cells #[Value.slice p.ca p.n p.cc, .slice p.ra p.m p.rc] 25) := ⟨_, rfl⟩
  obtain ⟨xb, hxb⟩ : ∃ x, x = w.heap.size := ⟨_, rfl⟩
  have hB : Blk w1 xb (.slice p.ca p.n p.cc) (.slice p.ra p.m p.rc) := by rw [hw1, hxb]; exact Blk.new _ _ _ _
  rw [← hw1] at hb1
  have CA := Lib.hid (pawake_any w1)
  have CW := fun W (h : Below w.heap.size w W) => Lib.hid (few_any p v hv W (hp.on h))
  have HCW := Lib.hid CW
  have CS := fun W (h : Below w.heap.size w W) => Lib.hid (Solve_any p hs W (hp.on h))
  have HCS := Lib.hid CS
  have CF := fun W (h : Below w.heap.size w W) => Lib.hid (Farkas_any p hs W (hp.on h))
  have HCF := Lib.hid CF
  have CD := fun W (h : Below w.heap.size w W) => Lib.hid (Dual_any p hs W (hp.on h))
  have HCD := Lib.hid CD
  have HCZ := Lib.hid (fun (W : World) => Lib.hid (empty_zero W))
  have HP := Lib.hid hp
  have HS := Lib.hid hs
  have HB := Lib.hid hb1
  have HXB := Lib.hid hB
  clear hb1 hB hv hp hs CW CS CF CD
  unfold PgD.val at HCW HCF HCS HCD
  go_enter Try.func4, Try.ntmps4
  go_upto_region 1 with fail
  rw [← hxb, ← hw1]
  clear hxb hw1
  go_wp2_with fail
  (with_reducible refine ((CA.out).mono ?_))
  rintro e w2 ⟨rfl, hb2⟩
  have HXB := Lib.hid (HXB.out.on hb2)
  have HB := Lib.hid (below_on HB.out hb2)
  clear hb2 CA
  have q0 := HXB.out.2.1
  have q1 := HXB.out.2.2
  cases v
  · go_wp2_with fail
    (with_reducible refine (((HCW.out _ HB.out).out).mono ?_))
    rintro e w3 ⟨rfl, hb2⟩
    go_wp2_with fail
    go_ret
    exact ⟨rfl, below_on HB.out hb2⟩
  go_wp2_with fail
  (with_reducible refine (((HCW.out _ HB.out).out).mono ?_))
  rintro e w3 ⟨rfl, hb2⟩
  have HXB := Lib.hid (HXB.out.on hb2)
  have HB := Lib.hid (below_on HB.out hb2)
  clear hb2 HCW q0 q1
  have q0 := HXB.out.2.1
  have q1 := HXB.out.2.2
  go_wp2_with fail
  (with_reducible refine (((HCS.out _ HB.out).out).mono ?_))
  rintro e w4 ⟨hb2, vl, er, rfl, hso⟩
  have HXB := Lib.hid (HXB.out.on hb2)
  have HB := Lib.hid (below_on HB.out hb2)
  clear hb2
  obtain ⟨a, d, xa, xn, xc, ya, yn, yc, hvl⟩ := hso.form
  have HSO := Lib.hid hso
  have HVL := Lib.hid hvl
  clear hso q0 q1 HCS
  rw [hvl]
  clear hvl
  go_upto_region 6 with fail
  have hb2 : Below w4.heap.size w4 (w4.alloc (Obj.cells #[.int .i64 a, .int .i64 d, .slice xa xn xc, .slice ya yn yc] 38)) := (Below.refl _ _).alloc (Nat.le_refl _) _
  obtain ⟨w5, hw5⟩ : ∃ W, W = w4.alloc (Obj.cells #[.int .i64 a, .int .i64 d, .slice xa xn xc, .slice ya yn yc] 38) := ⟨_, rfl⟩
  obtain ⟨ab, hab⟩ : ∃ x, x = w4.heap.size := ⟨_, rfl⟩
  rw [← hab, ← hw5]
  rw [← hw5] at hb2
  have LA : Hid (ABk w5 ab (.int .i64 a) (.int .i64 d) (.slice xa xn xc) (.slice ya yn yc)) := by
    rw [hw5, hab]
    exact ⟨by simp, by simp [go_sem], by simp [go_sem], by simp [go_sem], by simp [go_sem], fun o => by simp [go_sem]⟩
  clear hw5 hab
  have HSO := Lib.hid (HSO.out.on hb2)
  have HXB := Lib.hid (HXB.out.on hb2)
  have HB := Lib.hid (below_on HB.out hb2)
  clear hb2
  have q0 := HXB.out.2.1
  have q1 := HXB.out.2.2
  go_wp2_with fail
  (with_reducible refine (((HCF.out _ HB.out).out).mono ?_))
  rintro e w6 ⟨hb2, vl2, er2, rfl, hfo⟩
  have LA := Lib.hid (LA.out.on hb2)
  have HSO := Lib.hid (HSO.out.on hb2)
  have HXB := Lib.hid (HXB.out.on hb2)
  have HB := Lib.hid (below_on HB.out hb2)
  clear hb2
  clear HCF q0 q1
  rcases sol_far HSO.out hfo with ⟨rfl, rfl, h1, rfl⟩ | ⟨rfl, rfl, h1, rfl⟩ | ⟨rfl, rfl, hok, hfit, h1, b, yb, hg, hr, rfl, hy⟩ | ⟨rfl, rfl, hok, hfit, h1, rfl, r, hr⟩ | ⟨rfl, rfl, hok, hfit, rfl, b, xb2, yb, ho, h1, hx, hy⟩
  · have hz : Value.agg #[.int .i64 a, .int .i64 d, .slice xa xn xc, .slice ya yn yc] = zA := by rw [← HVL.out]; exact h1
    unfold zA aV at hz
    injection hz with hz
    injection hz with hz
    simp only [List.cons.injEq, Value.int.injEq, Value.slice.injEq, true_and, and_true] at hz
    obtain ⟨rfl, rfl, ⟨rfl, rfl, rfl⟩, rfl, rfl, rfl⟩ := hz
    clear h1 HVL HSO
    have k0 := LA.out.c0
    have k1 := LA.out.c1
    have k2 := LA.out.c2
    have k3 := LA.out.c3
    go_wp2_with fail
    (with_reducible refine (((HCZ.out _).out).mono ?_))
    rintro e w7 ⟨rfl, hb2⟩
    have HXB := Lib.hid (HXB.out.on hb2)
    have HB := Lib.hid (below_on HB.out hb2)
    clear hb2
    clear HCZ k0 k1 k2 k3
    go_wp2_with fail
    go_ret
    exact ⟨rfl, HB.out⟩
  · have hz : Value.agg #[.int .i64 a, .int .i64 d, .slice xa xn xc, .slice ya yn yc] = zA := by rw [← HVL.out]; exact h1
    unfold zA aV at hz
    injection hz with hz
    injection hz with hz
    simp only [List.cons.injEq, Value.int.injEq, Value.slice.injEq, true_and, and_true] at hz
    obtain ⟨rfl, rfl, ⟨rfl, rfl, rfl⟩, rfl, rfl, rfl⟩ := hz
    clear h1 HVL HSO
    have k0 := LA.out.c0
    have k1 := LA.out.c1
    have k2 := LA.out.c2
    have k3 := LA.out.c3
    go_wp2_with fail
    (with_reducible refine (((HCZ.out _).out).mono ?_))
    rintro e w7 ⟨rfl, hb2⟩
    have HXB := Lib.hid (HXB.out.on hb2)
    have HB := Lib.hid (below_on HB.out hb2)
    clear hb2
    clear HCZ k0 k1 k2 k3
    go_wp2_with fail
    go_ret
    exact ⟨rfl, HB.out⟩
  · have CR := Lib.hid (refutes_far HS.out hok hfit hg hr (HP.out.on HB.out) hy)
    clear hg hr hy hok hfit
    unfold PgD.val at CR
    have hz : Value.agg #[.int .i64 a, .int .i64 d, .slice xa xn xc, .slice ya yn yc] = zA := by rw [← HVL.out]; exact h1
    unfold zA aV at hz
    injection hz with hz
    injection hz with hz
    simp only [List.cons.injEq, Value.int.injEq, Value.slice.injEq, true_and, and_true] at hz
    obtain ⟨rfl, rfl, ⟨rfl, rfl, rfl⟩, rfl, rfl, rfl⟩ := hz
    clear h1 HVL HSO
    have k0 := LA.out.c0
    have k1 := LA.out.c1
    have k2 := LA.out.c2
    have k3 := LA.out.c3
    have q0 := HXB.out.2.1
    have q1 := HXB.out.2.2
    go_wp2_with fail
    (with_reducible refine ((CR.out).mono ?_))
    rintro e w7 ⟨rfl, hb2⟩
    have LA := Lib.hid (LA.out.on hb2)
    have HXB := Lib.hid (HXB.out.on hb2)
    have HB := Lib.hid (below_on HB.out hb2)
    clear hb2
    clear CR q0 q1 k0 k1 k2 k3
    have k0 := LA.out.c0
    have k1 := LA.out.c1
    have k2 := LA.out.c2
    have k3 := LA.out.c3
    go_wp2_with fail
    (with_reducible refine (((HCZ.out _).out).mono ?_))
    rintro e w8 ⟨rfl, hb2⟩
    have HXB := Lib.hid (HXB.out.on hb2)
    have HB := Lib.hid (below_on HB.out hb2)
    clear hb2
    clear HCZ k0 k1 k2 k3
    go_wp2_with fail
    go_ret
    exact ⟨rfl, HB.out⟩
  · have HOK := Lib.hid hok
    have HR := Lib.hid hr
    clear hok hfit hr
    have hz : Value.agg #[.int .i64 a, .int .i64 d, .slice xa xn xc, .slice ya yn yc] = zA := by rw [← HVL.out]; exact h1
    unfold zA aV at hz
    injection hz with hz
    injection hz with hz
    simp only [List.cons.injEq, Value.int.injEq, Value.slice.injEq, true_and, and_true] at hz
    obtain ⟨rfl, rfl, ⟨rfl, rfl, rfl⟩, rfl, rfl, rfl⟩ := hz
    clear h1 HVL HSO
    have k0 := LA.out.c0
    have k1 := LA.out.c1
    have k2 := LA.out.c2
    have k3 := LA.out.c3
    have q0 := HXB.out.2.1
    have q1 := HXB.out.2.2
    go_wp2_with fail
    (with_reducible refine (((HCD.out _ HB.out).out).mono ?_))
    rintro e w7 ⟨hb2, q, er, rfl, hat, hdo⟩
    have LA := Lib.hid (LA.out.on hb2)
    have HXB := Lib.hid (HXB.out.on hb2)
    have HB := Lib.hid (below_on HB.out hb2)
    clear hb2
    have hdf := dua_form hdo
    clear HCD q0 q1 k0 k1 k2 k3 hdo
    have HQ := Lib.hid hat
    clear hat
    go_upto_region 16 with fail
    have hb2 : Below w7.heap.size w7 (w7.alloc (Obj.cells #[Value.slice q.ca q.n q.cc, .slice q.ra q.m q.rc] 25)) := (Below.refl _ _).alloc (Nat.le_refl _) _
    obtain ⟨w8, hw8⟩ : ∃ W, W = w7.alloc (Obj.cells #[Value.slice q.ca q.n q.cc, .slice q.ra q.m q.rc] 25) := ⟨_, rfl⟩
    obtain ⟨db, hdb⟩ : ∃ x, x = w7.heap.size := ⟨_, rfl⟩
    rw [← hdb, ← hw8]
    rw [← hw8] at hb2
    have HDB : Hid (Blk w8 db (.slice q.ca q.n q.cc) (.slice q.ra q.m q.rc)) := by rw [hw8, hdb]; exact Blk.new _ _ _ _
    clear hw8 hdb
    have LA := Lib.hid (LA.out.on hb2)
    have HQ := Lib.hid (HQ.out.on hb2)
    have HXB := Lib.hid (HXB.out.on hb2)
    have HB := Lib.hid (below_on HB.out hb2)
    clear hb2
    have k0 := LA.out.c0
    have k1 := LA.out.c1
    have k2 := LA.out.c2
    have k3 := LA.out.c3
    go_wp2_with fail
    (with_reducible refine (((HCZ.out _).out).mono ?_))
    rintro e w9 ⟨rfl, hb2⟩
    have HDB := Lib.hid (HDB.out.on hb2)
    have HQ := Lib.hid (HQ.out.on hb2)
    have HXB := Lib.hid (HXB.out.on hb2)
    have HB := Lib.hid (below_on HB.out hb2)
    clear hb2
    clear k0 k1 k2 k3 LA
    rcases hdf with ⟨hne, hqz⟩ | ⟨rfl, hpo, hqo, hqs, hd⟩
    · have he1 : (er != 0) = true := by simpa using hne
      have he2 : ¬ er = 0 := hne
      clear HQ HDB hqz hne HXB
      go_wp2_with fail
      go_ret
      exact ⟨rfl, HB.out⟩
    · have CS2 := Lib.hid (Solve_any q hqs w9 HQ.out)
      have HF := Lib.hid (fun (B : Nat) (W : World) (vl : Value) (er : Int) (h : SolO q B W vl er) => sol_free hpo hqo hd HR.out h)
      clear hpo hqo hqs hd
      unfold PgD.val at CS2
      have k0 := HDB.out.2.1
      have k1 := HDB.out.2.2
      go_wp2_with fail
      (with_reducible refine ((CS2.out).mono ?_))
      rintro e wA ⟨hb2, vl, er, rfl, hso⟩
      have HXB := Lib.hid (HXB.out.on hb2)
      have HB := Lib.hid (below_on HB.out hb2)
      clear hb2
      obtain ⟨hz, her⟩ := HF.out _ _ _ _ hso
      clear hso CS2 HF k0 k1 HDB HQ HXB
      rw [hz]
      unfold zA aV
      clear hz
      go_upto_region 21 with fail
      obtain ⟨wB, hwB⟩ : ∃ W, W = wA.alloc (Obj.cells #[.int .i64 0, .int .i64 0, .slice none 0 0, .slice none 0 0] 38) := ⟨_, rfl⟩
      obtain ⟨sb, hsb⟩ : ∃ x, x = wA.heap.size := ⟨_, rfl⟩
      rw [← hwB, ← hsb]
      have hb2 : Below wA.heap.size wA wB := by rw [hwB]; exact (Below.refl _ _).alloc (Nat.le_refl _) _
      have k0 : wB.cell? ⟨sb, 0, none⟩ = some (.int .i64 0) := by rw [hwB, hsb]; simp [go_sem]
      have k1 : wB.cell? ⟨sb, 1, none⟩ = some (.int .i64 0) := by rw [hwB, hsb]; simp [go_sem]
      have k2 : wB.cell? ⟨sb, 2, none⟩ = some (.slice none 0 0) := by rw [hwB, hsb]; simp [go_sem]
      have k3 : wB.cell? ⟨sb, 3, none⟩ = some (.slice none 0 0) := by rw [hwB, hsb]; simp [go_sem]
      clear hwB hsb
      have HB := Lib.hid (below_on HB.out hb2)
      clear hb2
      rcases her with rfl | rfl
      · go_wp2_with fail
        (with_reducible refine (((HCZ.out _).out).mono ?_))
        rintro e wC ⟨rfl, hb2⟩
        have HB := Lib.hid (below_on HB.out hb2)
        clear HCZ k0 k1 k2 k3 hb2
        go_wp2_with fail
        go_ret
        exact ⟨rfl, HB.out⟩
      · go_wp2_with fail
        (with_reducible refine (((HCZ.out _).out).mono ?_))
        rintro e wC ⟨rfl, hb2⟩
        have HB := Lib.hid (below_on HB.out hb2)
        clear HCZ k0 k1 k2 k3 hb2
        go_wp2_with fail
        go_ret
        exact ⟨rfl, HB.out⟩
  · have CC := Lib.hid (check_opt HS.out hok hfit ho (HP.out.on HB.out) hx hy)
    rw [← h1, HVL.out] at CC
    clear h1 ho hx hy hok hfit
    unfold PgD.val at CC
    have q0 := HXB.out.2.1
    have q1 := HXB.out.2.2
    have k0 := LA.out.c0
    have k1 := LA.out.c1
    have k2 := LA.out.c2
    have k3 := LA.out.c3
    go_wp2_with fail
    (with_reducible refine ((CC.out).mono ?_))
    rintro e w7 ⟨rfl, hb2⟩
    have HXB := Lib.hid (HXB.out.on hb2)
    have HB := Lib.hid (below_on HB.out hb2)
    clear hb2
    clear CC q0 q1 k0 k1 k2 k3
    go_wp2_with fail
    go_ret
    exact ⟨rfl, HB.out⟩

set_option maxRecDepth 100000 in
set_option maxHeartbeats 32000000 in
theorem lawStrong_any (p : PgD) (hs : p.Sm) (w : World) (hp : p.At w) :
    Calls Try.prog 5 #[p.val] w fun e w' => e = .returned (.bool true) ∧ Below w.heap.size w w' := by
  unfold PgD.val
  obtain ⟨v, hv⟩ := bool_of (FewP p)
  have hb1 : Below w.heap.size w (w.alloc (Obj.cells #[Value.slice p.ca p.n p.cc, .slice p.ra p.m p.rc] 25)) := (Below.refl _ _).alloc (Nat.le_refl _) _
  obtain ⟨w1, hw1⟩ : ∃ W, W = w.alloc (Obj.cells #[Value.slice p.ca p.n p.cc, .slice p.ra p.m p.rc] 25) := ⟨_, rfl⟩
  obtain ⟨xb, hxb⟩ : ∃ x, x = w.heap.size := ⟨_, rfl⟩
  have hB : Blk w1 xb (.slice p.ca p.n p.cc) (.slice p.ra p.m p.rc) := by rw [hw1, hxb]; exact Blk.new _ _ _ _
  rw [← hw1] at hb1
  have CA := Lib.hid (pawake_any w1)
  have CW := fun W (h : Below w.heap.size w W) => Lib.hid (few_any p v hv W (hp.on h))
  have HCW := Lib.hid CW
  have CS := fun W (h : Below w.heap.size w W) => Lib.hid (Solve_any p hs W (hp.on h))
  have HCS := Lib.hid CS
  have CF := fun W (h : Below w.heap.size w W) => Lib.hid (Farkas_any p hs W (hp.on h))
  have HCF := Lib.hid CF
  have CD := fun W (h : Below w.heap.size w W) => Lib.hid (Dual_any p hs W (hp.on h))
  have HCD := Lib.hid CD
  have HCZ := Lib.hid (fun (W : World) => Lib.hid (empty_zero W))
  have HP := Lib.hid hp
  have HS := Lib.hid hs
  have HB := Lib.hid hb1
  have HXB := Lib.hid hB
  clear hb1 hB hv hp hs CW CS CF CD
  unfold PgD.val at HCW HCF HCS HCD
  go_enter Try.func5, Try.ntmps5
  go_upto_region 1 with fail
  rw [← hxb, ← hw1]
  clear hxb hw1
  go_wp2_with fail
  (with_reducible refine ((CA.out).mono ?_))
  rintro e w2 ⟨rfl, hb2⟩
  have HXB := Lib.hid (HXB.out.on hb2)
  have HB := Lib.hid (below_on HB.out hb2)
  clear hb2 CA
  have q0 := HXB.out.2.1
  have q1 := HXB.out.2.2
  cases v
  · go_wp2_with fail
    (with_reducible refine (((HCW.out _ HB.out).out).mono ?_))
    rintro e w3 ⟨rfl, hb2⟩
    go_wp2_with fail
    go_ret
    exact ⟨rfl, below_on HB.out hb2⟩
  go_wp2_with fail
  (with_reducible refine (((HCW.out _ HB.out).out).mono ?_))
  rintro e w3 ⟨rfl, hb2⟩
  have HXB := Lib.hid (HXB.out.on hb2)
  have HB := Lib.hid (below_on HB.out hb2)
  clear hb2 HCW q0 q1
  have q0 := HXB.out.2.1
  have q1 := HXB.out.2.2
  go_wp2_with fail
  (with_reducible refine (((HCD.out _ HB.out).out).mono ?_))
  rintro e w4 ⟨hb2, q, er, rfl, hat, hdo⟩
  have HXB := Lib.hid (HXB.out.on hb2)
  have HB := Lib.hid (below_on HB.out hb2)
  clear hb2
  have hdf := dua_form hdo
  clear HCD q0 q1 hdo HCF
  have HQ := Lib.hid hat
  clear hat
  rcases hdf with ⟨hne, hqz⟩ | ⟨rfl, hpo, hqo, hqs, hd⟩
  · have he1 : (er != 0) = true := by simpa using hne
    have he2 : ¬ er = 0 := hne
    rw [hqz, zeroPg_is.1, zeroPg_is.2.1, zeroPg_is.2.2.1, zeroPg_is.2.2.2.1, zeroPg_is.2.2.2.2.1, zeroPg_is.2.2.2.2.2]
    clear hqz hne HQ
    go_upto_region 6 with fail
    obtain ⟨w5, hw5⟩ : ∃ W, W = w4.alloc (Obj.cells #[.slice none 0 0, .slice none 0 0] 25) := ⟨_, rfl⟩
    obtain ⟨db, hdb⟩ : ∃ x, x = w4.heap.size := ⟨_, rfl⟩
    rw [← hw5, ← hdb]
    have hb2 : Below w4.heap.size w4 w5 := by rw [hw5]; exact (Below.refl _ _).alloc (Nat.le_refl _) _
    have k0 : w5.cell? ⟨db, 0, none⟩ = some (.slice none 0 0) := by rw [hw5, hdb]; simp [go_sem]
    have k1 : w5.cell? ⟨db, 1, none⟩ = some (.slice none 0 0) := by rw [hw5, hdb]; simp [go_sem]
    have HB := Lib.hid (below_on HB.out hb2)
    clear hb2 hw5 hdb
    go_wp2_with fail
    go_ret
    exact ⟨rfl, HB.out⟩
  go_upto_region 6 with fail
  have hb2 : Below w4.heap.size w4 (w4.alloc (Obj.cells #[Value.slice q.ca q.n q.cc, .slice q.ra q.m q.rc] 25)) := (Below.refl _ _).alloc (Nat.le_refl _) _
  obtain ⟨w5, hw5⟩ : ∃ W, W = w4.alloc (Obj.cells #[Value.slice q.ca q.n q.cc, .slice q.ra q.m q.rc] 25) := ⟨_, rfl⟩
  obtain ⟨db, hdb⟩ : ∃ x, x = w4.heap.size := ⟨_, rfl⟩
  rw [← hdb, ← hw5]
  rw [← hw5] at hb2
  have HDB : Hid (Blk w5 db (.slice q.ca q.n q.cc) (.slice q.ra q.m q.rc)) := by rw [hw5, hdb]; exact Blk.new _ _ _ _
  clear hw5 hdb
  have HQ := Lib.hid (HQ.out.on hb2)
  have HXB := Lib.hid (HXB.out.on hb2)
  have HB := Lib.hid (below_on HB.out hb2)
  clear hb2
  have HD := Lib.hid (And.intro hpo (And.intro hqo hd))
  have HQS := Lib.hid hqs
  clear hpo hqo hqs hd
  have q0 := HXB.out.2.1
  have q1 := HXB.out.2.2
  go_wp2_with fail
  (with_reducible refine (((HCS.out _ HB.out).out).mono ?_))
  rintro e w6 ⟨hb2, vl, er, rfl, hso⟩
  have HDB := Lib.hid (HDB.out.on hb2)
  have HQ := Lib.hid (HQ.out.on hb2)
  have HXB := Lib.hid (HXB.out.on hb2)
  have HB := Lib.hid (below_on HB.out hb2)
  clear hb2
  obtain ⟨a, d, xa, xn, xc, ya, yn, yc, hvl⟩ := hso.form
  have HSO := Lib.hid hso
  have HVL := Lib.hid hvl
  clear hso q0 q1 HCS HCZ
  rw [hvl]
  clear hvl
  go_upto_region 9 with fail
  have hb2 : Below w6.heap.size w6 (w6.alloc (Obj.cells #[.int .i64 a, .int .i64 d, .slice xa xn xc, .slice ya yn yc] 38)) := (Below.refl _ _).alloc (Nat.le_refl _) _
  obtain ⟨w7, hw7⟩ : ∃ W, W = w6.alloc (Obj.cells #[.int .i64 a, .int .i64 d, .slice xa xn xc, .slice ya yn yc] 38) := ⟨_, rfl⟩
  obtain ⟨ab, hab⟩ : ∃ x, x = w6.heap.size := ⟨_, rfl⟩
  rw [← hab, ← hw7]
  rw [← hw7] at hb2
  have LA : Hid (ABk w7 ab (.int .i64 a) (.int .i64 d) (.slice xa xn xc) (.slice ya yn yc)) := by
    rw [hw7, hab]
    exact ⟨by simp, by simp [go_sem], by simp [go_sem], by simp [go_sem], by simp [go_sem], fun o => by simp [go_sem]⟩
  clear hw7 hab
  have HDB := Lib.hid (HDB.out.on hb2)
  have HQ := Lib.hid (HQ.out.on hb2)
  have HXB := Lib.hid (HXB.out.on hb2)
  have HB := Lib.hid (below_on HB.out hb2)
  clear hb2
  have CS2 := Lib.hid (Solve_any q HQS.out w7 HQ.out)
  unfold PgD.val at CS2
  have k0 := HDB.out.2.1
  have k1 := HDB.out.2.2
  go_wp2_with fail
  (with_reducible refine ((CS2.out).mono ?_))
  rintro e w8 ⟨hb2, vl2, er2, rfl, hso2⟩
  have LA := Lib.hid (LA.out.on hb2)
  have HXB := Lib.hid (HXB.out.on hb2)
  have HB := Lib.hid (below_on HB.out hb2)
  clear hb2
  obtain ⟨a2, d2, xa2, xn2, xc2, ya2, yn2, yc2, hvl2⟩ := hso2.form
  have HSO2 := Lib.hid hso2
  have HVL2 := Lib.hid hvl2
  clear hso2 k0 k1 CS2 HDB HQ
  rw [hvl2]
  clear hvl2
  go_upto_region 10 with fail
  have hb2 : Below w8.heap.size w8 (w8.alloc (Obj.cells #[.int .i64 a2, .int .i64 d2, .slice xa2 xn2 xc2, .slice ya2 yn2 yc2] 38)) := (Below.refl _ _).alloc (Nat.le_refl _) _
  obtain ⟨w9, hw9⟩ : ∃ W, W = w8.alloc (Obj.cells #[.int .i64 a2, .int .i64 d2, .slice xa2 xn2 xc2, .slice ya2 yn2 yc2] 38) := ⟨_, rfl⟩
  obtain ⟨cb, hcb⟩ : ∃ x, x = w8.heap.size := ⟨_, rfl⟩
  rw [← hcb, ← hw9]
  rw [← hw9] at hb2
  have LC : Hid (ABk w9 cb (.int .i64 a2) (.int .i64 d2) (.slice xa2 xn2 xc2) (.slice ya2 yn2 yc2)) := by
    rw [hw9, hcb]
    exact ⟨by simp, by simp [go_sem], by simp [go_sem], by simp [go_sem], by simp [go_sem], fun o => by simp [go_sem]⟩
  clear hw9 hcb
  have LA := Lib.hid (LA.out.on hb2)
  have HXB := Lib.hid (HXB.out.on hb2)
  have HB := Lib.hid (below_on HB.out hb2)
  clear hb2
  have hss := strong_sol HD.out.1 HD.out.2.1 HD.out.2.2 HSO.out HSO2.out
  rcases hss with rfl | rfl | ⟨rfl, h2⟩ | ⟨rfl, rfl⟩ | ⟨rfl, rfl, hva⟩
  · clear HSO HSO2 HVL HVL2 LA LC HXB
    go_wp2_with fail
    go_ret
    exact ⟨rfl, HB.out⟩
  · clear HSO HSO2 HVL HVL2 LA LC HXB
    by_cases h5 : er = 5
    · subst h5
      go_wp2_with fail
      go_ret
      exact ⟨rfl, HB.out⟩
    · have h51 : (er == 5) = false := by simpa using h5
      have h52 : decide (er = 5) = false := decide_eq_false h5
      go_wp2_with fail
      go_ret
      exact ⟨rfl, HB.out⟩
  · clear HSO HSO2 HVL HVL2 LA LC HXB
    rcases h2 with rfl | rfl
    · go_wp2_with fail
      go_ret
      exact ⟨rfl, HB.out⟩
    · go_wp2_with fail
      go_ret
      exact ⟨rfl, HB.out⟩
  · clear HSO HSO2 HVL HVL2 LA LC HXB
    go_wp2_with fail
    go_ret
    exact ⟨rfl, HB.out⟩
  · obtain ⟨e1, e2⟩ := hva a d a2 d2 ⟨_, _, HVL.out⟩ ⟨_, _, HVL2.out⟩
    have u1 := e1.1.d1
    have u2 := e1.1.d2
    have u3 := e1.1.n1
    have u4 := e1.1.n2
    have u5 := e1.2.d1
    have u6 := e1.2.d2
    have u7 := e1.2.n1
    have u8 := e1.2.n2
    have CA := fun W => Lib.hid (Add_any a d a2 d2 W (by omega) (by omega) (by omega) (by omega) (by omega) (by omega) (by omega) (by omega) 0 1 0 e2)
    have k0 := LA.out.c0
    have k1 := LA.out.c1
    have k2 := LC.out.c0
    have k3 := LC.out.c1
    clear HSO HSO2 HVL HVL2 HXB hva e1 e2 u1 u2 u3 u4 u5 u6 u7 u8 LA LC
    go_wp2_with fail
    (with_reducible refine (((CA _).out).mono ?_))
    rintro e wA ⟨rfl, hb2⟩
    have HB := Lib.hid (below_on HB.out hb2)
    clear CA k0 k1 k2 k3 hb2
    go_wp2_with fail
    go_ret
    exact ⟨rfl, below_on HB.out ((Below.refl _ _).alloc (Nat.le_refl _) _)⟩
theorem proofs_at (p : PgD) (w : World) (hp : p.At w) (hs : p.Sm) : Calls Try.prog 4 #[p.val] w fun e w' => e = .returned (.bool true) ∧ Below w.heap.size w w' := lawProofs_any p hs w hp
theorem strong_at (p : PgD) (w : World) (hp : p.At w) (hs : p.Sm) : Calls Try.prog 5 #[p.val] w fun e w' => e = .returned (.bool true) ∧ Below w.heap.size w w' := lawStrong_any p hs w hp
end Go.Proofs.Ytdbmlkkpffoadaa
