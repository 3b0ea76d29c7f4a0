/- Layer 5: the law ProgramForms, walked. -/
import Derived.Test.YtdbmlkkpffoadaaGreatPRfe
import Derived.Test.YtdbmlkkpffoadaaGreatPBts
namespace Go.Proofs.YtdbmlkkpffoadaaGreat
set_option linter.unusedVariables false
open Go.RowKit Go.Shelf

theorem fea_eq {p : PgD} {X : Nat → Int × Int} {v v2 : Bool} {er er2 : Int} (hok : p.Ok) (hv : FrV p.n X) (h : FeaO p p.n X v er) (k : FeaQ p X v2 er2) : v = v2 ∧ er = er2 := by
  rcases h with ⟨h, _⟩ | ⟨_, _, h, _⟩ | ⟨_, _, _, ⟨i, hi, h⟩, rfl, rfl⟩ | ⟨_, _, _, h, h1, rfl⟩
  · exact absurd ⟨hok, hv⟩ h
  · exact absurd rfl h
  · rcases k with ⟨_, rfl, rfl⟩ | ⟨k, _⟩
    · exact ⟨rfl, rfl⟩
    · have := k i hi
      rw [h] at this
      cases this
  · rcases k with ⟨⟨i, hi, k⟩, _⟩ | ⟨_, k1, rfl⟩
    · have := h i hi
      rw [k] at this
      cases this
    · refine ⟨?_, rfl⟩
      cases v <;> cases v2
      · rfl
      · exact absurd (h1.2 (k1.1 rfl)) (by decide)
      · exact absurd (k1.2 (h1.1 rfl)) (by decide)
      · rfl

set_option maxRecDepth 100000 in
set_option maxHeartbeats 32000000 in
theorem lawForms_any (p : PgD) (hs : p.Sm) (xa : Option Addr) (N xc : Nat) (X : Nat → Int × Int) (w : World) (hp : p.At w) (hx : IFr w xa N X) (hb : FrB N X) :
    Calls Tryz.prog 3 #[p.val, .slice xa N xc] w fun e w' => e = .returned (.bool true) ∧ Below w.heap.size w w' := by
  unfold PgD.val
  obtain ⟨v, hv⟩ := bool_of (FewP p)
  obtain ⟨u, hu⟩ := bool_of (∀ k, k < 1 → (fun _ : Nat => N) k ≤ 20)
  obtain ⟨ok, hok⟩ := bool_of p.Ok
  obtain ⟨al, hal⟩ := bool_of (FrV N X)
  have hb1 : Below w.heap.size w (w.alloc (Obj.cells #[Value.slice p.ca p.n p.cc, .slice p.ra p.m p.rc] 25)) := (Below.refl _ _).alloc (Nat.le_refl _) _
  obtain ⟨w1, hw1⟩ : ∃ W, W = w.alloc (Obj.cells #[Value.slice p.ca p.n p.cc, .slice p.ra p.m p.rc] 25) := ⟨_, rfl⟩
  obtain ⟨xb, hxb⟩ : ∃ x, x = w.heap.size := ⟨_, rfl⟩
  have hB : Blk w1 xb (.slice p.ca p.n p.cc) (.slice p.ra p.m p.rc) := by rw [hw1, hxb]; exact Blk.new _ _ _ _
  rw [← hw1] at hb1
  have CA := Lib.hid (pawake_any w1)
  have HU := Lib.hid hu
  have HOK := Lib.hid hok
  have HAL := Lib.hid hal
  have CW := fun W (h : Below w.heap.size w W) => Lib.hid (few_any p v hv W (hp.on h))
  have HCW := Lib.hid CW
  have CH := fun (W : World) => Lib.hid (short_any (some ⟨W.heap.size, 0, none⟩) 1 1 (fun _ => xa) (fun _ => N) (fun _ => xc) (W.alloc (Obj.cells #[Value.slice xa N xc] 26)) (fun _ => ⟨_, 0, rfl, by simp, fun k hk => by rw [show 0 + k = 0 by omega]; simp [go_sem]⟩) (by decide) u hu)
  have HCH := Lib.hid CH
  have CF := fun W (h : Below w.heap.size w W) (hN : N ≤ 1000) => Lib.hid (Feasible_any p hs xa N xc X W (hp.on h) (hx.on h) hb hN)
  have HCF := Lib.hid CF
  have CL := fun W (h : Below w.heap.size w W) (hN : N ≤ 1000) => Lib.hid (Value_any p hs xa N xc X W (hp.on h) (hx.on h) hb hN)
  have HCL := Lib.hid CL
  have CV := fun W (h : Below w.heap.size w W) => Lib.hid (pValid_any p hs ok hok W (hp.on h))
  have HCV := Lib.hid CV
  have CR := fun W (h : Below w.heap.size w W) => Lib.hid (rpValid_any p hs ok hok W (hp.on h))
  have HCR := Lib.hid CR
  have CX := fun W (h : Below w.heap.size w W) (hN : N ≤ 1000) => Lib.hid (rpAll_any xa N xc X W (hx.on h) hb hN al hal)
  have HCX := Lib.hid CX
  have HB := Lib.hid hb1
  have HXB := Lib.hid hB
  have HP := Lib.hid hp
  have HX := Lib.hid hx
  clear hb1 hB hv hu hok hal hp hx hb hs CW CH CF CL CV CR CX
  unfold PgD.val at HCW HCF HCL HCV HCR
  go_enter Tryz.func3, Tryz.ntmps3
  go_upto_region 1 with fail
  rw [← hxb, ← hw1]
  clear hxb hw1
  go_wp2_with fail
  (with_reducible refine ((CA.out).mono ?_))
  rintro e w2 ⟨rfl, hb2⟩
  have HXB := Lib.hid (HXB.out.on hb2)
  have HB := Lib.hid (below_on HB.out hb2)
  clear hb2 CA
  have q0 := HXB.out.2.1
  have q1 := HXB.out.2.2
  cases v
  · go_wp2_with fail
    (with_reducible refine (((HCW.out _ HB.out).out).mono ?_))
    rintro e w3 ⟨rfl, hb2⟩
    go_wp2_with fail
    go_ret
    exact ⟨rfl, below_on HB.out hb2⟩
  go_wp2_with fail
  (with_reducible refine (((HCW.out _ HB.out).out).mono ?_))
  rintro e w3 ⟨rfl, hb2⟩
  have HXB := Lib.hid (HXB.out.on hb2)
  have HB := Lib.hid (below_on HB.out hb2)
  clear hb2 HCW q0 q1
  have hb4 : Below w3.heap.size w3 (w3.alloc (Obj.cells #[Value.slice xa N xc] 26)) := (Below.refl _ _).alloc (Nat.le_refl _) _
  have H4 := Lib.hid hb4
  clear hb4
  cases u
  · go_wp2_with fail
    (with_reducible refine (((HCH.out w3).out).mono ?_))
    rintro e w4 ⟨rfl, hb2⟩
    have HB := Lib.hid (below_on HB.out (below_on H4.out hb2))
    clear hb2
    go_wp2_with fail
    go_ret
    exact ⟨rfl, HB.out⟩
  have hN : N ≤ 20 := HU.out.1 rfl 0 (by decide)
  go_wp2_with fail
  (with_reducible refine (((HCH.out w3).out).mono ?_))
  rintro e w4 ⟨rfl, hb2⟩
  have HXB := Lib.hid (HXB.out.on (below_on H4.out hb2))
  have HB := Lib.hid (below_on HB.out (below_on H4.out hb2))
  clear hb2 HCH H4 HU
  have q0 := HXB.out.2.1
  have q1 := HXB.out.2.2
  go_wp2_with fail
  (with_reducible refine (((HCR.out _ HB.out).out).mono ?_))
  rintro e w5 ⟨rfl, hb2⟩
  have HXB := Lib.hid (HXB.out.on hb2)
  have HB := Lib.hid (below_on HB.out hb2)
  clear hb2 HCR q0 q1
  have q0 := HXB.out.2.1
  have q1 := HXB.out.2.2
  go_wp2_with fail
  (with_reducible refine (((HCF.out _ HB.out (by omega)).out).mono ?_))
  rintro e w6 ⟨hb2, fv, fe, rfl, hfo⟩
  have HFO := Lib.hid hfo
  have HXB := Lib.hid (HXB.out.on hb2)
  have HB := Lib.hid (below_on HB.out hb2)
  clear hb2 HCF q0 q1 hfo
  have q0 := HXB.out.2.1
  have q1 := HXB.out.2.2
  go_wp2_with fail
  (with_reducible refine (((HCL.out _ HB.out (by omega)).out).mono ?_))
  rintro e w7 ⟨hb2, r, rfl, hvo⟩
  obtain ⟨ra, rd, re⟩ := r
  simp only
  have HVO := Lib.hid hvo
  have HXB := Lib.hid (HXB.out.on hb2)
  have HB := Lib.hid (below_on HB.out hb2)
  clear hb2 HCL q0 q1 hvo
  go_upto_region 8 with fail
  have hb2 : Below w7.heap.size w7 (w7.alloc (Obj.cells #[Value.int .i64 ra, .int .i64 rd] 34)) := (Below.refl _ _).alloc (Nat.le_refl _) _
  obtain ⟨w8, hw8⟩ : ∃ W, W = w7.alloc (Obj.cells #[Value.int .i64 ra, .int .i64 rd] 34) := ⟨_, rfl⟩
  obtain ⟨vb, hvb⟩ : ∃ x, x = w7.heap.size := ⟨_, rfl⟩
  rw [← hvb, ← hw8]
  rw [← hw8] at hb2
  have HRB : Hid (Blk w8 vb (.int .i64 ra) (.int .i64 rd)) := by rw [hw8, hvb]; exact Blk.new _ _ _ _
  have HXB := Lib.hid (HXB.out.on hb2)
  have HB := Lib.hid (below_on HB.out hb2)
  clear hw8 hvb hb2
  have q0 := HXB.out.2.1
  have q1 := HXB.out.2.2
  go_wp2_with fail
  (with_reducible refine (((HCV.out _ HB.out).out).mono ?_))
  rintro e w9 ⟨rfl, hb2⟩
  have HRB := Lib.hid (HRB.out.on hb2)
  have HXB := Lib.hid (HXB.out.on hb2)
  have HB := Lib.hid (below_on HB.out hb2)
  clear hb2 HCV q0 q1
  cases ok
  · have hno : ¬ (p.Ok ∧ FrV N X) := fun h => by have := HOK.out.2 h.1; cases this
    have h1 : fv = false ∧ fe = 1 := by
      rcases HFO.out with ⟨_, a, b⟩ | ⟨a, b, _⟩ | ⟨a, b, _⟩ | ⟨a, b, _⟩
      · exact ⟨a, b⟩
      · exact absurd ⟨a, b⟩ hno
      · exact absurd ⟨a, b⟩ hno
      · exact absurd ⟨a, b⟩ hno
    have h2 : (ra, rd, re) = (0, 0, 1) := by
      rcases HVO.out with ⟨_, a⟩ | ⟨a, b, _⟩ | ⟨a, b, _⟩
      · exact a
      · exact absurd ⟨a, b⟩ hno
      · exact absurd ⟨a, b⟩ hno
    obtain ⟨rfl, rfl⟩ := h1
    obtain ⟨rfl, rfl, rfl⟩ := three h2
    have k0 := HRB.out.2.1
    have k1 := HRB.out.2.2
    clear HFO HVO HCX HXB hno h2
    go_wp2_with fail
    go_ret
    exact ⟨rfl, HB.out⟩
  have hokp : p.Ok := HOK.out.1 rfl
  have HOKP := Lib.hid hokp
  clear hokp
  go_wp2_with fail
  (with_reducible refine (((HCX.out _ HB.out (by omega)).out).mono ?_))
  rintro e wA ⟨rfl, hb2⟩
  have HRB := Lib.hid (HRB.out.on hb2)
  have HXB := Lib.hid (HXB.out.on hb2)
  have HB := Lib.hid (below_on HB.out hb2)
  clear hb2 HCX
  cases al
  · have hno : ¬ (p.Ok ∧ FrV N X) := fun h => by have := HAL.out.2 h.2; cases this
    have h1 : fv = false ∧ fe = 1 := by
      rcases HFO.out with ⟨_, a, b⟩ | ⟨a, b, _⟩ | ⟨a, b, _⟩ | ⟨a, b, _⟩
      · exact ⟨a, b⟩
      · exact absurd ⟨a, b⟩ hno
      · exact absurd ⟨a, b⟩ hno
      · exact absurd ⟨a, b⟩ hno
    have h2 : (ra, rd, re) = (0, 0, 1) := by
      rcases HVO.out with ⟨_, a⟩ | ⟨a, b, _⟩ | ⟨a, b, _⟩
      · exact a
      · exact absurd ⟨a, b⟩ hno
      · exact absurd ⟨a, b⟩ hno
    obtain ⟨rfl, rfl⟩ := h1
    obtain ⟨rfl, rfl, rfl⟩ := three h2
    have k0 := HRB.out.2.1
    have k1 := HRB.out.2.2
    clear HFO HVO HXB hno h2
    go_wp2_with fail
    go_ret
    exact ⟨rfl, HB.out⟩
  have hfr : FrV N X := HAL.out.1 rfl
  have HFR := Lib.hid hfr
  clear hfr
  have q0 := HXB.out.2.1
  have q1 := HXB.out.2.2
  by_cases hne : N = p.n
  case neg =>
    have hne1 : ((N : Int) != (p.n : Int)) = true := by simp; omega
    have hne2 : ¬ ((N : Int) = (p.n : Int)) := by omega
    have HNE := Lib.hid hne
    clear hne
    have h1 : fv = false ∧ fe = 3 := by
      rcases HFO.out with ⟨a, _⟩ | ⟨_, _, _, a, b⟩ | ⟨_, _, a, _⟩ | ⟨_, _, a, _⟩
      · exact absurd ⟨HOKP.out, HFR.out⟩ a
      · exact ⟨a, b⟩
      · exact absurd a HNE.out
      · exact absurd a HNE.out
    have h2 : (ra, rd, re) = (0, 0, 3) := by
      rcases HVO.out with ⟨a, _⟩ | ⟨_, _, _, a⟩ | ⟨_, _, a, _⟩
      · exact absurd ⟨HOKP.out, HFR.out⟩ a
      · exact a
      · exact absurd a HNE.out
    obtain ⟨rfl, rfl⟩ := h1
    obtain ⟨rfl, rfl, rfl⟩ := three h2
    have k0 := HRB.out.2.1
    have k1 := HRB.out.2.2
    clear HFO HVO HXB h2
    go_wp2_with fail
    go_ret
    exact ⟨rfl, HB.out⟩
  subst hne
  have hne1 : ((p.n : Int) != (p.n : Int)) = false := by simp
  have HCQ := Lib.hid (rpFea_any p HOKP.out xa xc X wA (HP.out.on HB.out) (HX.out.on HB.out) HFR.out)
  unfold PgD.val at HCQ
  go_wp2_with fail
  (with_reducible refine ((HCQ.out).mono ?_))
  rintro e wB ⟨hb2, fv2, fe2, rfl, hfq⟩
  obtain ⟨rfl, rfl⟩ := fea_eq HOKP.out HFR.out HFO.out hfq
  have HRB := Lib.hid (HRB.out.on hb2)
  have HXB := Lib.hid (HXB.out.on hb2)
  have HB := Lib.hid (below_on HB.out hb2)
  clear hb2 HCQ q0 q1 hne1 hfq HFO
  have hvc : (ra, rd, re) = comS p.C X p.n := by
    rcases HVO.out with ⟨a, _⟩ | ⟨_, _, a, _⟩ | ⟨_, _, _, a⟩
    · exact absurd ⟨HOKP.out, HFR.out⟩ a
    · exact absurd rfl a
    · exact a
  have HVC := Lib.hid hvc
  have HCS := Lib.hid (rpSum_any p.ca p.n p.cc p.C xa p.n xc X wB (HP.out.on HB.out).cost (HX.out.on HB.out) (Nat.le_refl _) (by omega) HFR.out (fun j hj => by have := HOKP.out.c j hj; omega))
  have q0 := HXB.out.2.1
  clear hvc HVO
  go_wp2_with fail
  (with_reducible refine ((HCS.out).mono ?_))
  rintro e wC ⟨hb2, sa, sd, se, rfl, hse⟩
  have heq := three (HVC.out.trans hse)
  obtain ⟨rfl, rfl, rfl⟩ := heq
  have HRB := Lib.hid (HRB.out.on hb2)
  have HB := Lib.hid (below_on HB.out hb2)
  clear hb2 HCS q0 hse HVC HXB
  go_upto_region 16 with fail
  have hb2 : Below wC.heap.size wC (wC.alloc (Obj.cells #[Value.int .i64 ra, .int .i64 rd] 34)) := (Below.refl _ _).alloc (Nat.le_refl _) _
  obtain ⟨wD, hwD⟩ : ∃ W, W = wC.alloc (Obj.cells #[Value.int .i64 ra, .int .i64 rd] 34) := ⟨_, rfl⟩
  obtain ⟨tb, htb⟩ : ∃ x, x = wC.heap.size := ⟨_, rfl⟩
  rw [← htb, ← hwD]
  rw [← hwD] at hb2
  have l0 : wD.cell? ⟨tb, 0, none⟩ = some (.int .i64 ra) := by rw [hwD, htb]; simp [go_sem]
  have l1 : wD.cell? ⟨tb, 1, none⟩ = some (.int .i64 rd) := by rw [hwD, htb]; simp [go_sem]
  have HRB := Lib.hid (HRB.out.on hb2)
  have HB := Lib.hid (below_on HB.out hb2)
  clear hwD htb hb2
  have k0 := HRB.out.2.1
  have k1 := HRB.out.2.2
  cases fv
  · go_wp2_with fail
    go_ret
    exact ⟨rfl, HB.out⟩
  · go_wp2_with fail
    go_ret
    exact ⟨rfl, HB.out⟩
theorem forms_at (p : PgD) (xa : Option Addr) (N xc : Nat) (X : Nat → Int × Int) (w : World) (hp : p.At w) (hs : p.Sm) (hx : IFr w xa N X) (hf : ∀ k, k < N → FrI (X k)) (hn : N ≤ 9223372036854775807) :
    Calls Tryz.prog 3 #[p.val, .slice xa N xc] w fun e w' => e = .returned (.bool true) ∧ Below w.heap.size w w' :=
  lawForms_any p hs xa N xc X w hp hx (fun j hj => by have := hf j hj; obtain ⟨a, b, c, d⟩ := this; omega)
end Go.Proofs.YtdbmlkkpffoadaaGreat
