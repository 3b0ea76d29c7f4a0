/- Plain mathematics of the laws of fractions; and what a law carries from call to call. -/
import Derived.Test.YtggpdhdbeokkcaaGreatRAwake
namespace Go.Proofs.YtggpdhdbeokkcaaGreat
set_option linter.unusedVariables false
open Go.RowKit Go.Shelf

/-- A variable of two cells that stands in the world. -/
def Blk (w : World) (b : Nat) (v0 v1 : Value) : Prop := b < w.heap.size ∧ w.cell? ⟨b, 0, none⟩ = some v0 ∧ w.cell? ⟨b, 1, none⟩ = some v1
theorem Blk.on {W w1 : World} {b : Nat} {v0 v1 : Value} (h : Blk W b v0 v1) (hb : Below W.heap.size W w1) : Blk w1 b v0 v1 :=
 ⟨Nat.lt_of_lt_of_le h.1 hb.size, (hb.cell (p := ⟨b, 0, none⟩) h.1).trans h.2.1, (hb.cell (p := ⟨b, 1, none⟩) h.1).trans h.2.2⟩
theorem Blk.alloc {W : World} {b : Nat} {v0 v1 : Value} (h : Blk W b v0 v1) (o : Obj) : Blk (W.alloc o) b v0 v1 := h.on ((Below.refl _ _).alloc (Nat.le_refl _) _)
theorem Blk.new (W : World) (v0 v1 : Value) (t : Nat) : Blk (W.alloc (Obj.cells #[v0, v1] t)) W.heap.size v0 v1 := ⟨by simp, by simp [go_sem], by simp [go_sem]⟩
theorem below_on {w W w1 : World} (h : Below w.heap.size w W) (hb : Below W.heap.size W w1) : Below w.heap.size w w1 := h.trans (hb.mono h.size)
/-- A result: a valid fraction with the value, or an error and the zero value. -/
theorem okT_cases (an ad bn bd p q : Int) (hq : Vld an ad → Vld bn bd → 0 < q) :
  (∃ n d, okT an ad bn bd (redT p q) = (n, d, 0) ∧ Vld an ad ∧ Vld bn bd ∧ Vld n d ∧ n * q = p * d) ∨ (∃ e, okT an ad bn bd (redT p q) = (0, 0, e) ∧ e ≠ 0 ∧ (e = 1 ∨ e = 5)) := by
 by_cases ha : vB an ad = true
 ·by_cases hb : vB bn bd = true
  ·rw [okT_yes ha hb]
   rcases redT_cases p q (hq (vB_vld ha) (vB_vld hb)) with ⟨n, d, h1, h2, h3⟩ | h
   ·exact .inl ⟨n, d, h1, vB_vld ha, vB_vld hb, h2, h3⟩
   ·exact .inr ⟨5, h, by decide, .inr rfl⟩
  ·exact .inr ⟨1, okT_b (by simpa using hb), by decide, .inl rfl⟩
 ·exact .inr ⟨1, okT_a (by simpa using ha), by decide, .inl rfl⟩

theorem okT_vld {an ad bn bd : Int} {t : Int × Int × Int} (ha : Vld an ad) (hb : Vld bn bd) : okT an ad bn bd t = t := okT_yes (vB_yes ha) (vB_yes hb)
theorem dpos {a b c d : Int} (h1 : Vld a b) (h2 : Vld c d) : 0 < b * d := Int.mul_pos (by have := h1.d1; omega) (by have := h2.d1; omega)

theorem addT_cases (an ad bn bd : Int) : (∃ n d, addT an ad bn bd = (n, d, 0) ∧ Vld an ad ∧ Vld bn bd ∧ Vld n d ∧ n * (ad * bd) = (an * bd + bn * ad) * d) ∨ (∃ e, addT an ad bn bd = (0, 0, e) ∧ e ≠ 0 ∧ (e = 1 ∨ e = 5)) :=
 okT_cases _ _ _ _ _ _ dpos
theorem mulT_cases (an ad bn bd : Int) : (∃ n d, mulT an ad bn bd = (n, d, 0) ∧ Vld an ad ∧ Vld bn bd ∧ Vld n d ∧ n * (ad * bd) = an * bn * d) ∨ (∃ e, mulT an ad bn bd = (0, 0, e) ∧ e ≠ 0 ∧ (e = 1 ∨ e = 5)) :=
 okT_cases _ _ _ _ _ _ dpos

end Go.Proofs.YtggpdhdbeokkcaaGreat
