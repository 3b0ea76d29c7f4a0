/- Plain mathematics of the laws of fractions; and what a law carries from call to call. -/
import Derived.Test.YtdbmlkkpffoadaaRAwake
namespace Go.Proofs.Ytdbmlkkpffoadaa
set_option linter.unusedVariables false
open Go.RowKit Go.Shelf

/-- A variable of two cells that stands in the world. -/
def Blk (w : World) (b : Nat) (v0 v1 : Value) : Prop := b < w.heap.size ∧ w.cell? ⟨b, 0, none⟩ = some v0 ∧ w.cell? ⟨b, 1, none⟩ = some v1
theorem Blk.on {W w1 : World} {b : Nat} {v0 v1 : Value} (h : Blk W b v0 v1) (hb : Below W.heap.size W w1) : Blk w1 b v0 v1 :=
  ⟨Nat.lt_of_lt_of_le h.1 hb.size, (hb.cell (p := ⟨b, 0, none⟩) h.1).trans h.2.1, (hb.cell (p := ⟨b, 1, none⟩) h.1).trans h.2.2⟩
theorem Blk.alloc {W : World} {b : Nat} {v0 v1 : Value} (h : Blk W b v0 v1) (o : Obj) : Blk (W.alloc o) b v0 v1 := h.on ((Below.refl _ _).alloc (Nat.le_refl _) _)
theorem Blk.new (W : World) (v0 v1 : Value) (t : Nat) : Blk (W.alloc (Obj.cells #[v0, v1] t)) W.heap.size v0 v1 := ⟨by simp, by simp [go_sem], by simp [go_sem]⟩
theorem Blk.new1 (W : World) (o : Obj) (v0 v1 : Value) (t : Nat) : Blk ((W.alloc o).alloc (Obj.cells #[v0, v1] t)) (W.heap.size + 1) v0 v1 := by
  have h := Blk.new (W.alloc o) v0 v1 t
  rwa [World.size_alloc] at h
theorem Blk.new2 (W : World) (o o' : Obj) (v0 v1 : Value) (t : Nat) : Blk (((W.alloc o).alloc o').alloc (Obj.cells #[v0, v1] t)) (W.heap.size + 1 + 1) v0 v1 := by
  have h := Blk.new ((W.alloc o).alloc o') v0 v1 t
  rwa [World.size_alloc, World.size_alloc] at h
theorem below_on {w W w1 : World} (h : Below w.heap.size w W) (hb : Below W.heap.size W w1) : Below w.heap.size w w1 := h.trans (hb.mono h.size)
theorem pow_on {w W : World} (h : Pow10 w.heap.size w) (hb : Below w.heap.size w W) : Pow10 W.heap.size W := fun w' h' => h w' (hb.trans (h'.mono hb.size))

/-- A result: a valid fraction with the value, or an error and the zero value. -/
theorem okT_cases (an ad bn bd p q : Int) (hq : Vld an ad → Vld bn bd → 0 < q) :
    (∃ n d, okT an ad bn bd (redT p q) = (n, d, 0) ∧ Vld an ad ∧ Vld bn bd ∧ Vld n d ∧ n * q = p * d) ∨ (∃ e, okT an ad bn bd (redT p q) = (0, 0, e) ∧ e ≠ 0 ∧ (e = 1 ∨ e = 5)) := by
  by_cases ha : vB an ad = true
  · by_cases hb : vB bn bd = true
    · rw [okT_yes ha hb]
      rcases redT_cases p q (hq (vB_vld ha) (vB_vld hb)) with ⟨n, d, h1, h2, h3⟩ | h
      · exact .inl ⟨n, d, h1, vB_vld ha, vB_vld hb, h2, h3⟩
      · exact .inr ⟨5, h, by decide, .inr rfl⟩
    · exact .inr ⟨1, okT_b (by simpa using hb), by decide, .inl rfl⟩
  · exact .inr ⟨1, okT_a (by simpa using ha), by decide, .inl rfl⟩

theorem okT_vld {an ad bn bd : Int} {t : Int × Int × Int} (ha : Vld an ad) (hb : Vld bn bd) : okT an ad bn bd t = t := okT_yes (vB_yes ha) (vB_yes hb)
theorem dpos {a b c d : Int} (h1 : Vld a b) (h2 : Vld c d) : 0 < b * d := Int.mul_pos (by have := h1.d1; omega) (by have := h2.d1; omega)

theorem addT_cases (an ad bn bd : Int) : (∃ n d, addT an ad bn bd = (n, d, 0) ∧ Vld an ad ∧ Vld bn bd ∧ Vld n d ∧ n * (ad * bd) = (an * bd + bn * ad) * d) ∨ (∃ e, addT an ad bn bd = (0, 0, e) ∧ e ≠ 0 ∧ (e = 1 ∨ e = 5)) :=
  okT_cases _ _ _ _ _ _ dpos
theorem subT_cases (an ad bn bd : Int) : (∃ n d, subT an ad bn bd = (n, d, 0) ∧ Vld an ad ∧ Vld bn bd ∧ Vld n d ∧ n * (ad * bd) = (an * bd + -bn * ad) * d) ∨ (∃ e, subT an ad bn bd = (0, 0, e) ∧ e ≠ 0 ∧ (e = 1 ∨ e = 5)) :=
  okT_cases _ _ _ _ _ _ dpos
theorem mulT_cases (an ad bn bd : Int) : (∃ n d, mulT an ad bn bd = (n, d, 0) ∧ Vld an ad ∧ Vld bn bd ∧ Vld n d ∧ n * (ad * bd) = an * bn * d) ∨ (∃ e, mulT an ad bn bd = (0, 0, e) ∧ e ≠ 0 ∧ (e = 1 ∨ e = 5)) :=
  okT_cases _ _ _ _ _ _ dpos

theorem okT_comm (an ad bn bd : Int) (t : Int × Int × Int) : okT an ad bn bd t = okT bn bd an ad t := by
  unfold okT
  by_cases h1 : vB an ad = true <;> by_cases h2 : vB bn bd = true <;> simp [h1, h2]
theorem addT_comm (an ad bn bd : Int) : addT an ad bn bd = addT bn bd an ad := by
  unfold addT
  rw [okT_comm, Int.add_comm (an * bd), Int.mul_comm ad bd]
theorem mulT_comm (an ad bn bd : Int) : mulT an ad bn bd = mulT bn bd an ad := by
  unfold mulT
  rw [okT_comm, Int.mul_comm an bn, Int.mul_comm ad bd]

theorem sub_undo {an ad bn bd n d : Int} (va : Vld an ad) (vb : Vld bn bd) (v : Vld n d) (h : n * (ad * bd) = (an * bd + bn * ad) * d) : subT n d bn bd = (an, ad, 0) := by
  unfold subT
  rw [okT_vld v vb, ← redT_vld va]
  refine redT_eq (dpos v vb) (by have := va.d1; omega) ?_
  have hb : bd ≠ 0 := by have := vb.d1; omega
  grind

theorem div_undo {an ad bn bd n d : Int} (va : Vld an ad) (vb : Vld bn bd) (v : Vld n d) (h : n * (ad * bd) = an * bn * d) (hb : bn ≠ 0) : divT n d bn bd = (an, ad, 0) := by
  unfold divT
  rw [okT_vld v vb, if_neg hb, ← redT_vld va]
  have a1 := va.d1
  have b1 := vb.d1
  have d1 := v.d1
  split
  · refine redT_eq (Int.mul_pos (by omega) (by omega)) (by omega) ?_
    grind
  · refine redT_eq (Int.mul_pos (by omega) (by omega)) (by omega) ?_
    grind
theorem div_zero {an ad bn bd n d : Int} (va : Vld an ad) (vb : Vld bn bd) (v : Vld n d) (h : n * (ad * bd) = an * bn * d) (hb : bn = 0) : n = 0 ∧ divT n d bn bd = (0, 0, 16) := by
  subst hb
  refine ⟨?_, by unfold divT; rw [okT_vld v vb, if_pos rfl]⟩
  have hp := dpos va vb
  rw [Int.mul_zero, Int.zero_mul] at h
  rcases Int.mul_eq_zero.1 h with h | h
  · exact h
  · omega

theorem add_assoc {an ad bn bd cn cd n d m k : Int} (va : Vld an ad) (vb : Vld bn bd) (vc : Vld cn cd) (v : Vld n d) (v' : Vld m k) (h : n * (ad * bd) = (an * bd + bn * ad) * d) (h' : m * (bd * cd) = (bn * cd + cn * bd) * k) :
    addT n d cn cd = addT an ad m k := by
  unfold addT
  rw [okT_vld v vc, okT_vld va v']
  refine redT_eq (dpos v vc) (dpos va v') ?_
  have hb : bd ≠ 0 := by have := vb.d1; omega
  refine Int.eq_of_mul_eq_mul_right hb ?_
  grind
theorem mul_assoc {an ad bn bd cn cd n d m k : Int} (va : Vld an ad) (vb : Vld bn bd) (vc : Vld cn cd) (v : Vld n d) (v' : Vld m k) (h : n * (ad * bd) = an * bn * d) (h' : m * (bd * cd) = bn * cn * k) :
    mulT n d cn cd = mulT an ad m k := by
  unfold mulT
  rw [okT_vld v vc, okT_vld va v']
  refine redT_eq (dpos v vc) (dpos va v') ?_
  have hb : bd ≠ 0 := by have := vb.d1; omega
  refine Int.eq_of_mul_eq_mul_right hb ?_
  grind
theorem distrib {an ad bn bd cn cd pn pd rn rd dn dd : Int} (va : Vld an ad) (vb : Vld bn bd) (vc : Vld cn cd) (vp : Vld pn pd) (vr : Vld rn rd) (vd : Vld dn dd) (hp : pn * (ad * bd) = an * bn * pd) (hr : rn * (ad * cd) = an * cn * rd) (hd : dn * (bd * cd) = (bn * cd + cn * bd) * dd) :
    addT pn pd rn rd = mulT an ad dn dd := by
  unfold addT mulT
  rw [okT_vld vp vr, okT_vld va vd]
  refine redT_eq (dpos vp vr) (dpos va vd) ?_
  have ha : ad ≠ 0 := by have := va.d1; omega
  have hb : bd ≠ 0 := by have := vb.d1; omega
  have hc : cd ≠ 0 := by have := vc.d1; omega
  refine Int.eq_of_mul_eq_mul_right hb (Int.eq_of_mul_eq_mul_right hc (Int.eq_of_mul_eq_mul_right ha ?_))
  grind

end Go.Proofs.Ytdbmlkkpffoadaa
