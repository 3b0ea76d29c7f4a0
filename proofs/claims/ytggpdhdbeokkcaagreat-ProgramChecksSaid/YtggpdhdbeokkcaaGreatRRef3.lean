/- The reference of layer 2: the quotient and the remainder of two magnitudes. -/
import Derived.Test.YtggpdhdbeokkcaaGreatRRef2
import Derived.Test.YtggpdhdbeokkcaaGreatRLawStore
namespace Go.Proofs.YtggpdhdbeokkcaaGreat
set_option linter.unusedVariables false
open Go.RowKit Go.Shelf

theorem Blk.set1 {W : World} {b : Nat} {v0 v1 y : Value} (h : Blk W b v0 v1) : Blk (W.setCell ⟨b, 1, none⟩ y) b v0 y :=
 ⟨by simpa using h.1, by rw [World.cell?_setCell_other _ _ _ _ (by simp)]; exact h.2.1, World.cell?_setCell_same' _ _ _ (by rw [h.2.2]; rfl)⟩
theorem Blk.far1 {W : World} {b c o : Nat} {v0 v1 y : Value} (h : Blk W b v0 v1) (hne : c ≠ b) : Blk (W.setCell ⟨c, o, none⟩ y) b v0 v1 :=
 ⟨by simpa using h.1, by rw [World.cell?_setCell_far _ _ _ _ hne]; exact h.2.1, by rw [World.cell?_setCell_far _ _ _ _ hne]; exact h.2.2⟩
theorem Frz.set1 {W : World} {b c o : Nat} {y : Value} (h : Frz W b) : Frz (W.setCell ⟨c, o, none⟩ y) b := ⟨by simpa using h.1, by simpa using h.2⟩

/-- One step of the division by shifting and subtracting. -/
structure DivInv (A b n c Q R : Int) : Prop where
 eq : A * 2 ^ n.toNat = (Q * b + R) * 340282366920938463463374607431768211456 + c
 c0 : 0 ≤ c
 c1 : c < 340282366920938463463374607431768211456
 r0 : 0 ≤ R
 r1 : R < b
 q0 : 0 ≤ Q
 n0 : 0 ≤ n

theorem DivInv.step {A b n c Q R Q' R' : Int} (h : DivInv A b n c Q R) (hr : 0 ≤ R') (hr' : R' < b) (hq : 0 ≤ Q') (e : Q' * b + R' = 2 * (Q * b + R) + 2 * c / 340282366920938463463374607431768211456) :
  DivInv A b (n + 1) (2 * c % 340282366920938463463374607431768211456) Q' R' := by
 have h1 := h.eq
 have h2 := h.c0
 have h3 := h.c1
 have h4 := h.n0
 refine ⟨?_, by omega, by omega, hr, hr', hq, by omega⟩
 have e2 : (n + 1).toNat = n.toNat + 1 := by omega
 rw [e2, Int.pow_succ, ← Int.mul_assoc, h1, e]
 generalize Q * b = z at *
 omega
theorem DivInv.yes {A b n c Q R : Int} (h : DivInv A b n c Q R) (hX : b ≤ 2 * R + 2 * c / 340282366920938463463374607431768211456) : DivInv A b (n + 1) (2 * c % 340282366920938463463374607431768211456) (2 * Q + 1) (2 * R + 2 * c / 340282366920938463463374607431768211456 - b) := by
 have h1 := h.c0; have h2 := h.c1; have h3 := h.r1; have h4 := h.q0
 refine h.step (by omega) (by omega) (by omega) ?_
 rw [show (2 * Q + 1) * b = 2 * (Q * b) + b by grind]
 omega
theorem DivInv.no {A b n c Q R : Int} (h : DivInv A b n c Q R) (hX : ¬ b ≤ 2 * R + 2 * c / 340282366920938463463374607431768211456) : DivInv A b (n + 1) (2 * c % 340282366920938463463374607431768211456) (2 * Q) (2 * R + 2 * c / 340282366920938463463374607431768211456) := by
 have h1 := h.c0; have h2 := h.c1; have h3 := h.r0; have h4 := h.q0
 refine h.step (by omega) (by omega) (by omega) ?_
 rw [show (2 * Q) * b = 2 * (Q * b) by grind]
 omega
theorem DivInv.last {A b c Q R : Int} (hA : A < 340282366920938463463374607431768211456) (h : DivInv A b 128 c Q R) : Q = A / b ∧ R = A % b := by
 have h1 := h.eq; have h2 := h.c0; have h3 := h.c1; have h4 := h.r0; have h5 := h.r1
 have e : (2 : Int) ^ (128 : Int).toNat = 340282366920938463463374607431768211456 := by decide
 rw [e] at h1
 have e1 : A = Q * b + R := by
  generalize Q * b = z at *
  omega
 have e2 : A / b = Q := by rw [e1, Int.add_comm, Int.mul_comm, Int.add_mul_ediv_left _ _ (by omega), Int.ediv_eq_zero_of_lt h4 h5]; omega
 have e3 := Int.mul_ediv_add_emod A b
 rw [e2] at e3
 refine ⟨e2.symm, ?_⟩
 rw [Int.mul_comm] at e3
 generalize Q * b = z at *
 omega

/-- The words of what one round makes. -/
theorem div_words {c R : Int} (c0 : 0 ≤ c) (c1 : c < 340282366920938463463374607431768211456) (r0 : 0 ≤ R) (r1 : R < 340282366920938463463374607431768211456) :
  IntKind.u64.wrap (IntKind.u64.wrap (hiW R * 2) + loW R / 9223372036854775808) = hiW (2 * R + 2 * c / 340282366920938463463374607431768211456) ∧
  IntKind.u64.wrap (IntKind.u64.wrap (loW R * 2) + hiW c / 9223372036854775808) = loW (2 * R + 2 * c / 340282366920938463463374607431768211456) ∧
  IntKind.u64.wrap (IntKind.u64.wrap (hiW c * 2) + loW c / 9223372036854775808) = hiW (2 * c % 340282366920938463463374607431768211456) ∧
  IntKind.u64.wrap (loW c * 2) = loW (2 * c % 340282366920938463463374607431768211456) := by
 simp only [IntKind.wrap_u64]
 unfold hiW loW
 refine ⟨by omega, by omega, by omega, by omega⟩
theorem dbl_words (Q : Int) : IntKind.u64.wrap (IntKind.u64.wrap (hiW Q * 2) + loW Q / 9223372036854775808) = hiW (2 * Q) ∧ IntKind.u64.wrap (loW Q * 2) = loW (2 * Q) ∧ hiW (2 * Q) = hiW (2 * Q + 1) ∧ loW (2 * Q) + 1 = loW (2 * Q + 1) ∧ IntKind.u64.wrap (loW (2 * Q) + 1) = loW (2 * Q + 1) := by
 simp only [IntKind.wrap_u64]
 unfold hiW loW
 refine ⟨by omega, by omega, by omega, by omega, by omega⟩
theorem over_word {R : Int} (r0 : 0 ≤ R) (r1 : R < 340282366920938463463374607431768211456) : (hiW R / 9223372036854775808 = 1 ∧ 340282366920938463463374607431768211456 ≤ 2 * R) ∨ (hiW R / 9223372036854775808 = 0 ∧ 2 * R < 340282366920938463463374607431768211456) := by
 unfold hiW; omega

set_option maxHeartbeats 2000000 in
theorem rdiv_small (a b : Int) (w : World) (a0 : 0 ≤ a) (a1 : a < 18446744073709551616) (b0 : 0 < b) (b1 : b < 18446744073709551616) :
  Calls Tryz.prog 109 #[.agg #[.int .u64 0, .int .u64 a], .agg #[.int .u64 0, .int .u64 b]] w fun e w' => e = .returned (.tuple #[.agg #[.int .u64 0, .int .u64 (a / b)], .agg #[.int .u64 0, .int .u64 (a % b)]]) ∧ Below w.heap.size w w' := by
 have h1 : a.tdiv b = a / b := Int.tdiv_eq_ediv_of_nonneg a0
 have h2 : a.tmod b = a % b := Int.tmod_eq_emod_of_nonneg a0
 have q0 : 0 ≤ a / b := Int.ediv_nonneg a0 (by omega)
 have q1 : a / b < 18446744073709551616 := Int.lt_of_le_of_lt (Int.ediv_le_self _ a0) a1
 have hne : ¬ b = 0 := by omega
 obtain ⟨Q, hQ⟩ : ∃ Q, a / b = Q := ⟨_, rfl⟩
 obtain ⟨R, hR⟩ : ∃ R, a % b = R := ⟨_, rfl⟩
 rw [hQ] at h1 q0 q1 ⊢
 rw [hR] at h2 ⊢
 have wQ : IntKind.u64.wrap Q = Q := wrap_in q0 q1
 go_enter Tryz.func109, Tryz.ntmps109
 go_wp2
 go_region_held3 (fun w' => w'.cell? ⟨w.heap.size, 1, none⟩ = some (.int .u64 a) ∧ w'.cell? ⟨w.heap.size + 1, 1, none⟩ = some (.int .u64 b)) (go_keep) (fail)
 all_goals
  go_wp2
  go_returns
  exact ⟨rfl, (by repeat' (first | (with_reducible exact Below.refl _ _) | (with_reducible assumption) | (with_reducible refine Below.alloc ?_ ?_ _) | (with_reducible refine below_drew ?_ _) | (with_reducible refine Below.drew ?_) | (with_reducible refine Below.setCell ?_ ?_ _) | go_size))⟩

/-- The six variables of Div in a round's world. -/
def DivSt (w W : World) (B0 B1 c Q R : Int) : Prop := Blk W (w.heap.size) (.int .u64 (hiW c)) (.int .u64 (loW c)) ∧ Blk W (w.heap.size + 1) (.int .u64 B0) (.int .u64 B1) ∧ Blk W (w.heap.size + 1 + 1) (.int .u64 0) (.int .u64 0) ∧ Blk W (w.heap.size + 1 + 1 + 1) (.int .u64 0) (.int .u64 0) ∧ Blk W (w.heap.size + 1 + 1 + 1 + 1) (.int .u64 (hiW Q)) (.int .u64 (loW Q)) ∧ Blk W (w.heap.size + 1 + 1 + 1 + 1 + 1) (.int .u64 (hiW R)) (.int .u64 (loW R)) ∧ Frz W (w.heap.size) ∧ Frz W (w.heap.size + 1 + 1) ∧ Frz W (w.heap.size + 1 + 1 + 1) ∧ Frz W (w.heap.size + 1 + 1 + 1 + 1) ∧ Frz W (w.heap.size + 1 + 1 + 1 + 1 + 1) ∧ Below w.heap.size w W

theorem DivSt.start (w : World) (A B : Int) (W : World) (hW : W = (((((w.alloc (Obj.cells #[Value.int IntKind.u64 (hiW A), Value.int IntKind.u64 (loW A)] 68)).alloc (Obj.cells #[Value.int IntKind.u64 (hiW B), Value.int IntKind.u64 (loW B)] 68)).alloc (Obj.cells #[Value.int IntKind.u64 0, Value.int IntKind.u64 0] 68)).alloc (Obj.cells #[Value.int IntKind.u64 0, Value.int IntKind.u64 0] 68)).alloc (Obj.cells #[Value.int IntKind.u64 0, Value.int IntKind.u64 0] 68)).alloc (Obj.cells #[Value.int IntKind.u64 0, Value.int IntKind.u64 0] 68)) : DivSt w W (hiW B) (loW B) A 0 0 := by
 subst hW
 have z0 : hiW 0 = 0 := by decide
 have z1 : loW 0 = 0 := by decide
 unfold DivSt
 rw [z0, z1]
 have nw : ∀ (V : World) (n : Nat) (v0 v1 : Value) (t : Nat), V.heap.size = n → Blk (V.alloc (Obj.cells #[v0, v1] t)) n v0 v1 := fun V n v0 v1 t h => h ▸ Blk.new V v0 v1 t
 have nf : ∀ (V : World) (n : Nat) (v0 v1 : Value) (t : Nat), V.heap.size = n → Frz (V.alloc (Obj.cells #[v0, v1] t)) n := fun V n v0 v1 t h => h ▸ Frz.new V v0 v1 t
 have fa : ∀ (V : World) (n : Nat) (o : Obj) , Frz V n → n < V.heap.size → Frz (V.alloc o) n := fun V n o h hl => h.alloc hl o
 refine ⟨?_, ?_, ?_, ?_, ?_, ?_, ?_, ?_, ?_, ?_, ?_, (by repeat' (first | (with_reducible exact Below.refl _ _) | (with_reducible assumption) | (with_reducible refine Below.alloc ?_ ?_ _) | (with_reducible refine below_drew ?_ _) | (with_reducible refine Below.drew ?_) | (with_reducible refine Below.setCell ?_ ?_ _) | go_size))⟩
 ·exact (((((nw _ _ _ _ _ (by simp)).alloc _).alloc _).alloc _).alloc _).alloc _
 ·exact ((((nw _ _ _ _ _ (by simp)).alloc _).alloc _).alloc _).alloc _
 ·exact (((nw _ _ _ _ _ (by simp)).alloc _).alloc _).alloc _
 ·exact ((nw _ _ _ _ _ (by simp)).alloc _).alloc _
 ·exact (nw _ _ _ _ _ (by simp)).alloc _
 ·exact nw _ _ _ _ _ (by simp)
 ·exact fa _ _ _ (fa _ _ _ (fa _ _ _ (fa _ _ _ (fa _ _ _ (nf _ _ _ _ _ (by first | go_size | (simp; omega) | simp)) (by first | go_size | (simp; omega) | simp)) (by first | go_size | (simp; omega) | simp)) (by first | go_size | (simp; omega) | simp)) (by first | go_size | (simp; omega) | simp)) (by first | go_size | (simp; omega) | simp)
 ·exact fa _ _ _ (fa _ _ _ (fa _ _ _ (nf _ _ _ _ _ (by first | go_size | (simp; omega) | simp)) (by first | go_size | (simp; omega) | simp)) (by first | go_size | (simp; omega) | simp)) (by first | go_size | (simp; omega) | simp)
 ·exact fa _ _ _ (fa _ _ _ (nf _ _ _ _ _ (by first | go_size | (simp; omega) | simp)) (by first | go_size | (simp; omega) | simp)) (by first | go_size | (simp; omega) | simp)
 ·exact fa _ _ _ (nf _ _ _ _ _ (by first | go_size | (simp; omega) | simp)) (by first | go_size | (simp; omega) | simp)
 ·exact nf _ _ _ _ _ (by simp)

theorem DivSt.mid {w W : World} {B0 B1 c Q R XH XL CH CL QH QL : Int} (h : DivSt w W B0 B1 c Q R) {W2 : World} (hW : W2 = ((((((W.setCell ⟨w.heap.size + 1 + 1 + 1 + 1 + 1, 0, none⟩ (.int .u64 XH)).setCell ⟨w.heap.size + 1 + 1 + 1 + 1 + 1, 1, none⟩ (.int .u64 XL)).setCell ⟨w.heap.size, 0, none⟩ (.int .u64 CH)).setCell ⟨w.heap.size, 1, none⟩ (.int .u64 CL)).setCell ⟨w.heap.size + 1 + 1 + 1 + 1, 0, none⟩ (.int .u64 QH)).setCell ⟨w.heap.size + 1 + 1 + 1 + 1, 1, none⟩ (.int .u64 QL))) :
  Blk W2 (w.heap.size) (.int .u64 CH) (.int .u64 CL) ∧ Blk W2 (w.heap.size + 1) (.int .u64 B0) (.int .u64 B1) ∧ Blk W2 (w.heap.size + 1 + 1) (.int .u64 0) (.int .u64 0) ∧ Blk W2 (w.heap.size + 1 + 1 + 1) (.int .u64 0) (.int .u64 0) ∧ Blk W2 (w.heap.size + 1 + 1 + 1 + 1) (.int .u64 QH) (.int .u64 QL) ∧ Blk W2 (w.heap.size + 1 + 1 + 1 + 1 + 1) (.int .u64 XH) (.int .u64 XL) ∧ Frz W2 (w.heap.size) ∧ Frz W2 (w.heap.size + 1 + 1) ∧ Frz W2 (w.heap.size + 1 + 1 + 1) ∧ Frz W2 (w.heap.size + 1 + 1 + 1 + 1) ∧ Frz W2 (w.heap.size + 1 + 1 + 1 + 1 + 1) ∧ Below w.heap.size w W2 := by
 subst hW
 obtain ⟨ha, hb, hp, hs, hq, hr, fa, fp, fs, fq, fr, B⟩ := h
 exact ⟨(((ha).far (by omega)).set).far (by omega), (((hb).far (by omega)).far (by omega)).far (by omega), (((hp).far (by omega)).far (by omega)).far (by omega), (((hs).far (by omega)).far (by omega)).far (by omega), (((hq).far (by omega)).far (by omega)).set, (((hr).set).far (by omega)).far (by omega), ((fa.set).set).set, ((fp.set).set).set, ((fs.set).set).set, ((fq.set).set).set, ((fr.set).set).set, (((((B.setCell (by simp; omega) _).setCell (by simp; omega) _).setCell (by simp) _).setCell (by simp) _).setCell (by simp; omega) _).setCell (by simp; omega) _⟩

end Go.Proofs.YtggpdhdbeokkcaaGreat
