/- Layer 4: which matrices are valid. Layer 4: two rows, one behind the other. Layer 4: a matrix with its right-hand sides. Layer 4: shares of the last pivot. -/
import Derived.Test.YtjggnmbdgagkoaaLElm
import Derived.Test.YtjggnmbdgagkoaaShelfG
import Derived.Test.YtjggnmbdgagkoaaRMake
namespace Go.Proofs.Ytjggnmbdgagkoaa
set_option linter.unusedVariables false
open Go.RowKit Go.Shelf

/-- A row of integers that is read alone; nil, or empty, or not. -/
def IRow (W : World) (ra : Option Addr) (n : Nat) (f : Nat → Int) : Prop := 0 < n → ∃ g o, ra = some ⟨g, o, none⟩ ∧ g < W.heap.size ∧ ∀ j, j < n → W.cell? ⟨g, o + j, none⟩ = some (.int .i64 (f j))
theorem IRow.on {W W2 : World} {ra : Option Addr} {n : Nat} {f : Nat → Int} (h : IRow W ra n f) (hb : Below W.heap.size W W2) : IRow W2 ra n f := fun hn => by
  obtain ⟨g, o, h1, h2, h3⟩ := h hn
  exact ⟨g, o, h1, Nat.lt_of_lt_of_le h2 hb.size, fun j hj => (hb.cell (p := ⟨g, o + j, none⟩) h2).trans (h3 j hj)⟩

def wB (n : Nat) (f : Nat → Int) (most : Int) : Bool := decide (∀ j, j < n → - most ≤ f j ∧ f j ≤ most)

theorem within_pred (xb : Nat) (most : Int) (w : World) (hx : xb < w.heap.size) (hxc : w.cell? ⟨xb, 0, none⟩ = some (.int .i64 most)) (m0 : 0 ≤ most) (m1 : most ≤ 67108864) :
    PredAt Try.prog 72 #[.pointer (some ⟨xb, 0, none⟩)] (fun z : Int => Value.int .i64 z) (fun z => decide (z < -most) || decide (most < z)) w := fun W z hb => by
  have h0 := (hb.cell (p := ⟨xb, 0, none⟩) hx).trans hxc
  have wn : IntKind.i64.wrap (-most) = -most := IntWalk.i64_in _ (by omega)
  show Calls Try.prog 72 #[.int .i64 z, .pointer (some ⟨xb, 0, none⟩)] W _
  go_enter Try.func72, Try.ntmps72
  go_wp2
  all_goals (go_ret; exact ⟨by simp_all, 0, rfl⟩)

theorem wB_any (n : Nat) (f : Nat → Int) (most : Int) : (!(((List.range n).map f).take n).any (fun z => decide (z < -most) || decide (most < z))) = wB n f most := by
  rw [List.take_of_length_le (by simp)]
  unfold wB
  by_cases h : ∀ j, j < n → - most ≤ f j ∧ f j ≤ most
  · rw [decide_eq_true h, Bool.not_eq_true', List.any_eq_false]
    intro x hx
    obtain ⟨j, hj, rfl⟩ := List.mem_map.1 hx
    have := h j (by simpa using hj)
    simp
    omega
  · rw [decide_eq_false h]
    have ⟨j, hj, hn⟩ : ∃ j, j < n ∧ ¬ (- most ≤ f j ∧ f j ≤ most) := Classical.byContradiction fun q => h fun j hj => Classical.byContradiction fun g => q ⟨j, hj, g⟩
    have : ((List.range n).map f).any (fun z => decide (z < -most) || decide (most < z)) = true := by
      rw [List.any_eq_true]
      refine ⟨f j, List.mem_map.2 ⟨j, by simpa using hj, rfl⟩, ?_⟩
      simp
      omega
    rw [this]; rfl

theorem cont_row (ra : Option Addr) (n c : Nat) (f : Nat → Int) (xb : Nat) (most : Int) (w : World) (hr : IRow w ra n f) (hx : xb < w.heap.size) (hxc : w.cell? ⟨xb, 0, none⟩ = some (.int .i64 most)) (m0 : 0 ≤ most) (m1 : most ≤ 67108864) (hn : n ≤ 9223372036854775807) :
    Calls Try.prog 71 #[.slice ra n c, .func (.func 72) #[] #[.pointer (some ⟨xb, 0, none⟩)]] w fun e w' => e = .returned (.bool (!wB n f most)) ∧ Below w.heap.size w w' := by
  by_cases h0 : n = 0
  · subst h0
    refine (Try.slices_ContainsFunc_empty (α := Int) ra c _ w).mono ?_
    rintro e w' ⟨rfl, rfl⟩
    exact ⟨by simp [wB], Below.refl _ _⟩
  · obtain ⟨g, o, rfl, h2, h3⟩ := hr (by omega)
    have eg : ∀ args w, (callFunc 72 args).run Try.prog w = .ok (.enter 72 args) w := enters_of Try.func72 (by kernel_rfl) rfl
    refine (Try.slices_ContainsFunc (fun z : Int => Value.int .i64 z) _ _ #[.pointer (some ⟨xb, 0, none⟩)] eg g o n c ((List.range n).map f) w (within_pred xb most w hx hxc m0 m1) (by simp) hn (fun j hj => ?_)).mono ?_
    · have hj' : j < n := by simpa using hj
      rw [h3 j hj', getElem!_pos _ _ (by simpa using hj')]
      simp
    · rintro e w' ⟨rfl, q, rfl⟩
      refine ⟨?_, below_drewN' (Below.refl _ _) q⟩
      rw [← wB_any, Bool.not_not]

theorem within_any (ra : Option Addr) (n c : Nat) (f : Nat → Int) (most : Int) (w : World) (hr : IRow w ra n f) (m0 : 0 ≤ most) (m1 : most ≤ 67108864) (hn : n ≤ 9223372036854775807) :
    Calls Try.prog 48 #[.slice ra n c, .int .i64 most] w fun e w' => e = .returned (.bool (wB n f most)) ∧ Below w.heap.size w w' := by
  have hb1 : Below w.heap.size w (w.alloc (Obj.cells #[Value.int IntKind.i64 most] 3)) := (Below.refl _ _).alloc (Nat.le_refl _) _
  obtain ⟨w1, hw1⟩ : ∃ W, W = w.alloc (Obj.cells #[Value.int IntKind.i64 most] 3) := ⟨_, rfl⟩
  obtain ⟨xb, hxb⟩ : ∃ x, x = w.heap.size := ⟨_, rfl⟩
  have hx : xb < w1.heap.size := by rw [hw1, hxb]; simp
  have hxc : w1.cell? ⟨xb, 0, none⟩ = some (.int .i64 most) := by rw [hw1, hxb]; simp
  rw [← hw1] at hb1
  have CF := Lib.hid (cont_row ra n c f xb most w1 (hr.on hb1) hx hxc m0 m1 hn)
  have HB := Lib.hid hb1
  clear hb1 hr hx hxc
  go_enter Try.func48, Try.ntmps48
  go_upto_region 1 with fail
  rw [← hxb, ← hw1]
  clear hxb hw1
  go_wp2_with fail
  (with_reducible refine ((CF.out).mono ?_))
  rintro e w2 ⟨rfl, hb⟩
  go_wp2_with fail
  go_ret
  exact ⟨by simp, below_on HB.out hb⟩

theorem valid1_any (ra : Option Addr) (n c cols : Nat) (f : Nat → Int) (xb : Nat) (w : World) (hr : IRow w ra n f) (hx : xb < w.heap.size) (hxc : w.cell? ⟨xb, 0, none⟩ = some (.int .i64 (cols : Int))) (hn : n ≤ 9223372036854775807) :
    Calls Try.prog 47 #[.slice ra n c, .pointer (some ⟨xb, 0, none⟩)] w fun e w' => e = .returned (.bool (decide (n ≠ cols) || !wB n f 32)) ∧ Below w.heap.size w w' := by
  have CW := fun W h => Lib.hid (within_any ra n c f 32 W h (by omega) (by omega) hn)
  have HR := Lib.hid hr
  clear hr
  by_cases h : n = cols
  · subst h
    go_enter Try.func47, Try.ntmps47
    go_wp2_with fail
    (with_reducible refine (((CW _ HR.out).out).mono ?_))
    rintro e w2 ⟨rfl, hb⟩
    go_wp2_with fail
    go_ret
    exact ⟨by simp, hb⟩
  · have hne : ((n : Int) != (cols : Int)) = true := by simp; omega
    have hne2 : ¬ ((n : Int) = (cols : Int)) := by omega
    go_enter Try.func47, Try.ntmps47
    go_wp2_with fail
    go_ret
    exact ⟨by simp [h], Below.refl _ _⟩

/-- A matrix in memory, valid or not, that is read alone. -/
structure AMat (W : World) (ma : Option Addr) (R : Nat) (Ra : Nat → Option Addr) (Ln Ka : Nat → Nat) (Z : Nat → Nat → Int) : Prop where
  top : 0 < R → ∃ mb mo, ma = some ⟨mb, mo, none⟩ ∧ mb < W.heap.size ∧ ∀ i, i < R → W.cell? ⟨mb, mo + i, none⟩ = some (.slice (Ra i) (Ln i) (Ka i))
  row : ∀ i, i < R → IRow W (Ra i) (Ln i) (Z i)
  small : ∀ i, i < R → Ln i ≤ 9223372036854775807
theorem AMat.on {W W2 : World} {ma : Option Addr} {R : Nat} {Ra : Nat → Option Addr} {Ln Ka : Nat → Nat} {Z : Nat → Nat → Int} (h : AMat W ma R Ra Ln Ka Z) (hb : Below W.heap.size W W2) : AMat W2 ma R Ra Ln Ka Z where
  top hR := by
    obtain ⟨mb, mo, h1, h2, h3⟩ := h.top hR
    exact ⟨mb, mo, h1, Nat.lt_of_lt_of_le h2 hb.size, fun i hi => (hb.cell (p := ⟨mb, mo + i, none⟩) h2).trans (h3 i hi)⟩
  row i hi := (h.row i hi).on hb
  small := h.small

theorem idxM_any (fn xb mb mo mc R : Nat) (Ra : Nat → Option Addr) (Ln Ka : Nat → Nat) (q : Nat → Bool) (w : World) (hmb : mb < w.heap.size) (htop : ∀ i, i < R → w.cell? ⟨mb, mo + i, none⟩ = some (.slice (Ra i) (Ln i) (Ka i))) (hR : R ≤ 1000) (eg : ∀ args w, (callFunc fn args).run Try.prog w = .ok (.enter fn args) w)
    (CP : ∀ i, i < R → ∀ W, Below w.heap.size w W → Calls Try.prog fn #[.slice (Ra i) (Ln i) (Ka i), .pointer (some ⟨xb, 0, none⟩)] W fun e w' => e = .returned (.bool (q i)) ∧ Below W.heap.size W w') :
    Calls Try.prog 69 #[.slice (some ⟨mb, mo, none⟩) R mc, .func (.func fn) #[] #[.pointer (some ⟨xb, 0, none⟩)]] w fun e w' => Below w.heap.size w w' ∧ ((e = .returned (.int .i64 (-1)) ∧ ∀ i, i < R → q i = false) ∨ ∃ i, i < R ∧ e = .returned (.int .i64 (i : Nat)) ∧ q i = true) := by
  have HP := Lib.hid CP
  have HT := Lib.hid (And.intro hmb htop)
  clear CP hmb htop
  go_enter Try.func69, Try.ntmps69
  go_wp2_with fail
  have S0 : Hid (Below w.heap.size w w ∧ ∀ l, l < 0 → q l = false) := ⟨Below.refl _ _, fun l h => by omega⟩
  go_loopg [8] R (fun g s8 wx => ∃ i : Nat, s8 = .int .i64 i ∧ g = R - i ∧ i ≤ R ∧ Hid (Below w.heap.size w wx ∧ ∀ l, l < i → q l = false))
  case atStart => exact ⟨0, rfl, rfl, Nat.zero_le _, S0⟩
  case round =>
    clear S0
    obtain ⟨i, rfl, rfl, hi, S⟩ := hrel
    rename World => W1
    by_cases hlt : i < R
    · have wk : IntKind.i64.wrap ((i : Int) + 1) = ((i + 1 : Nat) : Int) := by rw [IntWalk.i64_in _ (by omega)]; omega
      have p1 := (S.out.1.cell (p := ⟨mb, mo + i, none⟩) HT.out.1).trans (HT.out.2 i hlt)
      have CI := Lib.hid (HP.out i hlt W1 S.out.1)
      go_wp2_with fail
      (with_reducible refine ((CI.out).mono ?_))
      rintro e w2 ⟨rfl, hb⟩
      have HB := Lib.hid (below_on S.out.1 hb)
      clear CI p1 hb
      cases hq : q i
      · have HQ := Lib.hid hq
        go_wp2_with fail
        have T : Hid (Below w.heap.size w w2 ∧ ∀ l, l < i + 1 → q l = false) := ⟨HB.out, fun l hl => by
          by_cases e : l = i
          · rw [e]; exact HQ.out
          · exact S.out.2 l (by omega)⟩
        go_roundg (R - (i + 1))
        case measure => omega
        case rel => exact ⟨i + 1, rfl, rfl, by omega, T⟩
      · have HQ := Lib.hid hq
        go_wp2_with fail
        go_ret
        exact ⟨HB.out, .inr ⟨i, hlt, rfl, HQ.out⟩⟩
    · have e : i = R := by omega
      subst e
      go_wp2_with fail
      go_ret
      exact ⟨S.out.1, .inl ⟨rfl, S.out.2⟩⟩

theorem contM_any (fn xb mb mo mc R : Nat) (Ra : Nat → Option Addr) (Ln Ka : Nat → Nat) (q : Nat → Bool) (w : World) (hmb : mb < w.heap.size) (htop : ∀ i, i < R → w.cell? ⟨mb, mo + i, none⟩ = some (.slice (Ra i) (Ln i) (Ka i))) (hR : R ≤ 1000) (eg : ∀ args w, (callFunc fn args).run Try.prog w = .ok (.enter fn args) w)
    (CP : ∀ i, i < R → ∀ W, Below w.heap.size w W → Calls Try.prog fn #[.slice (Ra i) (Ln i) (Ka i), .pointer (some ⟨xb, 0, none⟩)] W fun e w' => e = .returned (.bool (q i)) ∧ Below W.heap.size W w') :
    Calls Try.prog 42 #[.slice (some ⟨mb, mo, none⟩) R mc, .func (.func fn) #[] #[.pointer (some ⟨xb, 0, none⟩)]] w fun e w' => e = .returned (.bool (decide (∃ i, i < R ∧ q i = true))) ∧ Below w.heap.size w w' := by
  have CI := Lib.hid (idxM_any fn xb mb mo mc R Ra Ln Ka q w hmb htop hR eg CP)
  clear hmb htop eg CP
  go_enter Try.func42, Try.ntmps42
  go_wp2_with fail
  (with_reducible refine ((CI.out).mono ?_))
  rintro e w2 ⟨hb, ⟨rfl, h⟩ | ⟨i, hi, rfl, h⟩⟩
  · have hd : decide (∃ i, i < R ∧ q i = true) = false := decide_eq_false fun ⟨i, hi, hq⟩ => by rw [h i hi] at hq; cases hq
    have HD := Lib.hid hd
    clear hd h
    go_wp2_with fail
    go_ret
    exact ⟨by rw [HD.out]; simp, hb⟩
  · have hd : decide (∃ i, i < R ∧ q i = true) = true := decide_eq_true ⟨i, hi, h⟩
    have HD := Lib.hid hd
    clear hd h
    go_wp2_with fail
    go_ret
    exact ⟨by rw [HD.out]; simp, hb⟩

/-- Which matrices are valid. -/
def vMP (R : Nat) (Ln : Nat → Nat) (Z : Nat → Nat → Int) : Prop := 1 ≤ R ∧ R ≤ 6 ∧ 1 ≤ Ln 0 ∧ Ln 0 ≤ 12 ∧ ∀ i, i < R → Ln i = Ln 0 ∧ ∀ j, j < Ln i → -32 ≤ Z i j ∧ Z i j ≤ 32
instance (R : Nat) (Ln : Nat → Nat) (Z : Nat → Nat → Int) : Decidable (vMP R Ln Z) := by unfold vMP; exact inferInstance
def vM (R : Nat) (Ln : Nat → Nat) (Z : Nat → Nat → Int) : Bool := decide (vMP R Ln Z)
theorem vM_true {R : Nat} {Ln : Nat → Nat} {Z : Nat → Nat → Int} : vM R Ln Z = true ↔ vMP R Ln Z := by unfold vM; simp
theorem vM_no {R : Nat} {Ln : Nat → Nat} {Z : Nat → Nat → Int} (h : ¬ vMP R Ln Z) : vM R Ln Z = false := by unfold vM; simp [h]
theorem vM_rows {R : Nat} {Ln : Nat → Nat} {Z : Nat → Nat → Int} (h0 : 1 ≤ R) (h1 : R ≤ 6) (h2 : 1 ≤ Ln 0) (h3 : Ln 0 ≤ 12) : (!decide (∃ i, i < R ∧ (decide (Ln i ≠ Ln 0) || !wB (Ln i) (Z i) 32) = true)) = vM R Ln Z := by
  by_cases h : ∀ i, i < R → Ln i = Ln 0 ∧ ∀ j, j < Ln i → -32 ≤ Z i j ∧ Z i j ≤ 32
  · rw [vM_true.2 ⟨h0, h1, h2, h3, h⟩, Bool.not_eq_true', decide_eq_false_iff_not]
    rintro ⟨i, hi, hq⟩
    have := h i hi
    unfold wB at hq
    simp [this.1] at hq
    obtain ⟨j, hj, hq⟩ := hq
    have := this.2 j (by omega)
    omega
  · rw [vM_no fun g => h g.2.2.2.2, Bool.not_eq_false', decide_eq_true_iff]
    refine Classical.byContradiction fun g => h fun i hi => ?_
    have g2 : ¬ (decide (Ln i ≠ Ln 0) || !wB (Ln i) (Z i) 32) = true := fun q => g ⟨i, hi, q⟩
    unfold wB at g2
    simp at g2
    exact g2

set_option maxHeartbeats 4000000 in
theorem lValid_any (ma : Option Addr) (R mc : Nat) (Ra : Nat → Option Addr) (Ln Ka : Nat → Nat) (Z : Nat → Nat → Int) (w : World) (hM : AMat w ma R Ra Ln Ka Z) (hR : R ≤ 9223372036854775807) :
    Calls Try.prog 16 #[.slice ma R mc] w fun e w' => e = .returned (.bool (vM R Ln Z)) ∧ Below w.heap.size w w' := by
  by_cases h0 : 1 ≤ R ∧ R ≤ 6
  · obtain ⟨r0, r1⟩ := h0
    obtain ⟨mb, mo, rfl, h2, h3⟩ := hM.top (by omega)
    have hl0 := hM.small 0 (by omega)
    have hb1 : Below w.heap.size w (w.alloc (Obj.cells #[Value.int IntKind.i64 (Ln 0 : Int)] 3)) := (Below.refl _ _).alloc (Nat.le_refl _) _
    obtain ⟨w1, hw1⟩ : ∃ W, W = w.alloc (Obj.cells #[Value.int IntKind.i64 (Ln 0 : Int)] 3) := ⟨_, rfl⟩
    obtain ⟨xb, hxb⟩ : ∃ x, x = w.heap.size := ⟨_, rfl⟩
    have hx : xb < w1.heap.size := by rw [hw1, hxb]; simp
    have hxc : w1.cell? ⟨xb, 0, none⟩ = some (.int .i64 (Ln 0 : Int)) := by rw [hw1, hxb]; simp
    rw [← hw1] at hb1
    have HB := Lib.hid hb1
    have hM1 := hM.on hb1
    obtain ⟨mb1, mo1, e1, k2, k3⟩ := hM1.top (by omega)
    cases e1
    have eg : ∀ args w, (callFunc 47 args).run Try.prog w = .ok (.enter 47 args) w := enters_of Try.func47 (by kernel_rfl) rfl
    have CC := Lib.hid (contM_any 47 xb mb mo mc R Ra Ln Ka (fun i => decide (Ln i ≠ Ln 0) || !wB (Ln i) (Z i) 32) w1 k2 k3 (by omega) eg (fun i hi W hb => valid1_any (Ra i) (Ln i) (Ka i) (Ln 0) (Z i) xb W ((hM1.row i hi).on hb) (Nat.lt_of_lt_of_le hx hb.size) ((hb.cell (p := ⟨xb, 0, none⟩) hx).trans hxc) (hM1.small i hi)))
    have p0 := h3 0 (by omega)
    rw [Nat.add_zero] at p0
    have HX := Lib.hid hxc
    clear eg hM hM1 h2 h3 k2 k3 hb1 hx hxc
    have t0 : ¬ ((R : Int) < 1) := by omega
    have t1 : ¬ (6 < (R : Int)) := by omega
    go_enter Try.func16, Try.ntmps16
    go_upto_region 4 with fail
    rw [← hxb, ← hw1]
    clear hxb hw1 p0
    have p1 := HX.out
    by_cases h1 : 1 ≤ Ln 0 ∧ Ln 0 ≤ 12
    · have HV := Lib.hid (vM_rows (Z := Z) r0 r1 h1.1 h1.2)
      have t2 : ¬ ((Ln 0 : Int) < 1) := by omega
      have t3 : ¬ (12 < (Ln 0 : Int)) := by omega
      go_wp2_with fail
      (with_reducible refine ((CC.out).mono ?_))
      rintro e w2 ⟨rfl, hb⟩
      clear CC
      generalize (decide (∃ i, i < R ∧ (decide (Ln i ≠ Ln 0) || !wB (Ln i) (Z i) 32) = true)) = tb at *
      go_wp2_with fail
      go_ret
      exact ⟨by rw [← HV.out]; rfl, below_on HB.out hb⟩
    · have HV := Lib.hid (vM_no (R := R) (Ln := Ln) (Z := Z) fun g => h1 ⟨g.2.2.1, g.2.2.2.1⟩)
      clear CC
      by_cases h4 : Ln 0 < 1
      · have t2 : ((Ln 0 : Int) < 1) := by omega
        go_wp2_with fail
        go_ret
        exact ⟨by rw [HV.out]; rfl, HB.out⟩
      · have t2 : ¬ ((Ln 0 : Int) < 1) := by omega
        have t3 : (12 < (Ln 0 : Int)) := by omega
        go_wp2_with fail
        go_ret
        exact ⟨by rw [HV.out]; rfl, HB.out⟩
  · have HV := Lib.hid (vM_no (R := R) (Ln := Ln) (Z := Z) fun g => h0 ⟨g.1, g.2.1⟩)
    clear hM
    by_cases h4 : R < 1
    · have t2 : ((R : Int) < 1) := by omega
      go_enter Try.func16, Try.ntmps16
      go_wp2_with fail
      go_ret
      exact ⟨by rw [HV.out]; rfl, Below.refl _ _⟩
    · have t2 : ¬ ((R : Int) < 1) := by omega
      have t3 : (6 < (R : Int)) := by omega
      go_enter Try.func16, Try.ntmps16
      go_wp2_with fail
      go_ret
      exact ⟨by rw [HV.out]; rfl, Below.refl _ _⟩

end Go.Proofs.Ytjggnmbdgagkoaa

namespace Go.Proofs.Ytjggnmbdgagkoaa
set_option linter.unusedVariables false
open Go.RowKit Go.Shelf

theorem grow_any (k : Nat) (z : Int) (hz : z = (k : Nat)) (w : World) (h0 : 0 < k) (h1 : k ≤ 1000) :
    Calls Try.prog 87 #[.slice none 0 0, .int .i64 z] w fun e w' => ∃ v, e = .returned v ∧ w'.ownsRow w.heap.size 3 1 v 0 [] ∧ Below w.heap.size w w' := by
  subst hz
  obtain ⟨i0, hi0, hz0, hz1, hz2⟩ := info_parts (show (Try.prog.info? 3).map (fun i => (i.zero, i.size, i.bytes)) = some (some (Value.int IntKind.i64 0), 1, 8) by kernel_rfl)
  refine (show Calls Try.prog 87 _ _ _ from (Any8.slices_Grow_grow Try.layGrow i0 _ hi0 hz0 (by omega) none 0 0 k [] w (Nat.le_refl _) (by omega) (by rw [hz2]; omega) (by omega) (by simp) (fun _ => rfl) (fun a h => by cases h))).mono ?_
  rintro e w' ⟨rfl, rfl⟩
  refine ⟨_, rfl, ?_, ((Below.refl _ _).drew).alloc (by simp) _⟩
  refine World.ownsRow_made (base := w.heap.size) w.drew _ _ (by simp) (grownCap_le_maxLen _ _ _ _ (by unfold maxLen; omega)) ?_
  have := grownCap_ge w (0 + k) 0 (Try.layGrow_ren.t 25)
  generalize grownCap w (0 + k) 0 (Try.layGrow_ren.t 25) = gc at *
  simp [Builtin.zeroCells, Value.cells]
  omega

theorem below_grown {w W W2 : World} {t : TypeId} {size k : Nat} {v : Value} {xs : List Value} (hb : Below w.heap.size w W) (ho : W.ownsRow w.heap.size t size v k xs) (hg : W.grownBy W2 v.ownBlock) : Below w.heap.size w W2 :=
  hb.trans ((grown_only (Below.refl W.heap.size W) hg).below hb.size (fun q hq => (ho.lt q hq).1))
theorem one_news2 {W : World} {g o : Nat} {x : Value} (h : W.cell? ⟨g, o, none⟩ = some x) : ∀ j u, [x][j]? = some u → W.cell? ((⟨g, o, none⟩ : Addr).add j) = some u := fun j u hu => by
  cases j with
  | zero =>
    simp at hu
    subst hu
    exact h
  | succ j => simp at hu
theorem ints_map (n : Nat) (f : Nat → Int) : ((List.range n).map fun j => Value.int .i64 (f j)).length = n := by simp
theorem ints_news {W : World} {g o n : Nat} {f : Nat → Int} (h : ∀ j, j < n → W.cell? ⟨g, o + j, none⟩ = some (.int .i64 (f j))) : ∀ j u, ((List.range n).map fun j => Value.int .i64 (f j))[j]? = some u → W.cell? ((⟨g, o, none⟩ : Addr).add j) = some u := fun j u hu => by
  have hj : j < n := by
    rcases Nat.lt_or_ge j n with q | q
    · exact q
    · rw [List.getElem?_eq_none (by simpa using q)] at hu; cases hu
  have e : (⟨g, o, none⟩ : Addr).add j = ⟨g, o + j, none⟩ := by unfold Addr.add; split <;> simp_all
  rw [e, h j hj]
  simpa [hj] using hu
theorem ints_one {n : Nat} {f : Nat → Int} : ∀ u ∈ ((List.range n).map fun j => Value.int .i64 (f j)), u.oneCell' = true := fun u hu => by
  obtain ⟨j, _, rfl⟩ := List.mem_map.1 hu
  rfl
def catF (n : Nat) (f : Nat → Int) (x : Int) : Nat → Int := fun j => if j = n then x else f j
theorem cat_list (n : Nat) (f : Nat → Int) (x : Int) : ((List.range n).map fun j => Value.int .i64 (f j)) ++ [Value.int .i64 x] = (List.range (n + 1)).map fun j => Value.int .i64 (catF n f x j) := by
  rw [List.range_succ, List.map_append]
  congr 1
  · apply List.map_congr_left
    intro j hj
    have : j < n := by simpa using hj
    unfold catF
    rw [if_neg (by omega)]
  · simp [catF]

set_option maxHeartbeats 4000000 in
theorem concat_any (sb g1 o1 c1 g2 o2 c2 n : Nat) (f : Nat → Int) (x : Int) (w : World) (hs : sb < w.heap.size) (h0 : w.cell? ⟨sb, 0, none⟩ = some (.slice (some ⟨g1, o1, none⟩) n c1)) (h1 : w.cell? ⟨sb, 1, none⟩ = some (.slice (some ⟨g2, o2, none⟩) 1 c2))
    (k1 : g1 < w.heap.size) (r1 : ∀ j, j < n → w.cell? ⟨g1, o1 + j, none⟩ = some (.int .i64 (f j))) (k2 : g2 < w.heap.size) (r2 : w.cell? ⟨g2, o2, none⟩ = some (.int .i64 x)) (hn : 0 < n) (hn13 : n ≤ 13) :
    Calls Try.prog 74 #[.slice (some ⟨sb, 0, none⟩) 2 2] w fun e w' => ∃ g cp, e = .returned (.slice (some ⟨g, 0, none⟩) (n + 1) cp) ∧ NRow w.heap.size (n + 1) w' g cp (catF n f x) ∧ Below w.heap.size w w' := by
  obtain ⟨i0, hi0, hz0, hz1, hz2⟩ := info_parts (show (Try.prog.info? 3).map (fun i => (i.zero, i.size, i.bytes)) = some (some (Value.int IntKind.i64 0), 1, 8) by kernel_rfl)
  have H0 := Lib.hid (And.intro hs (And.intro h0 h1))
  have H1 := Lib.hid (And.intro k1 r1)
  have H2 := Lib.hid (And.intro k2 r2)
  have CG := fun W => Lib.hid (grow_any (n + 1) ((n : Int) + 1) (by omega) W (by omega) (by omega))
  clear hs h0 h1 k1 r1 k2 r2
  go_enter Try.func74, Try.ntmps74
  go_wp2_with fail
  go_loopg [11, 3] 2 (fun g s11 s3 wx => ∃ i : Nat, s11 = .int .i64 i ∧ g = 2 - i ∧ w = wx ∧ ((i = 0 ∧ s3 = .int .i64 0) ∨ (i = 1 ∧ s3 = .int .i64 (n : Int)) ∨ (i = 2 ∧ s3 = .int .i64 ((n : Int) + 1))))
  case atStart => exact ⟨0, rfl, rfl, rfl, .inl ⟨rfl, rfl⟩⟩
  case round =>
    obtain ⟨i, rfl, rfl, rfl, ⟨rfl, rfl⟩ | ⟨rfl, rfl⟩ | ⟨rfl, rfl⟩⟩ := hrel
    · have q0 := H0.out.2.1
      have wn : IntKind.i64.wrap (n : Int) = n := IntWalk.i64_in _ (by omega)
      have tn : ¬ ((n : Int) < 0) := by omega
      go_wp2_with fail
      go_roundg 1
      case measure => omega
      case rel => exact ⟨1, rfl, rfl, rfl, .inr (.inl ⟨rfl, rfl⟩)⟩
    · have q0 := H0.out.2.2
      have wn : IntKind.i64.wrap ((n : Int) + 1) = (n : Int) + 1 := IntWalk.i64_in _ (by omega)
      have tn : ¬ ((n : Int) + 1 < 0) := by omega
      go_wp2_with fail
      go_roundg 0
      case measure => omega
      case rel => exact ⟨2, rfl, rfl, rfl, .inr (.inr ⟨rfl, rfl⟩)⟩
    · go_wp2_with fail
      (with_reducible refine (((CG _).out).mono ?_))
      rintro e w1 ⟨v, rfl, ho, hb⟩
      have HB := Lib.hid hb
      have HO := Lib.hid ho
      clear CG hb ho
      go_wp2_with fail
      go_loopg [27, 6] 2 (fun g s27 s6 wx => ∃ i : Nat, s27 = .int .i64 i ∧ g = 2 - i ∧ Hid (Below w.heap.size w wx) ∧ ((i = 0 ∧ Hid (wx.ownsRow w.heap.size 3 1 s6 0 [])) ∨ (i = 1 ∧ Hid (wx.ownsRow w.heap.size 3 1 s6 n ((List.range n).map fun j => Value.int .i64 (f j)))) ∨ (i = 2 ∧ Hid (wx.ownsRow w.heap.size 3 1 s6 (n + 1) ((List.range (n + 1)).map fun j => Value.int .i64 (catF n f x j))))))
      case atStart => exact ⟨0, rfl, rfl, HB, .inl ⟨rfl, HO⟩⟩
      case round =>
        clear HB HO
        obtain ⟨i, rfl, rfl, HB, ⟨rfl, HO⟩ | ⟨rfl, HO⟩ | ⟨rfl, HO⟩⟩ := hrel
        · rename World => W2
          have q0 := (HB.out.cell (p := ⟨sb, 0, none⟩) H0.out.1).trans H0.out.2.1
          obtain ⟨pa, pc, hv⟩ := own_form HO.out
          subst hv
          go_wp2_with (at_builtin; refine wpList_append_own _ rfl _ _ 29 rfl w.heap.size 3 i0 (.int .i64 0) 1 8 Try.underlying29 hi0 hz0 hz1 hz2 rfl (by decide) _ _ _ rfl HO.out ⟨g1, o1, none⟩ n c1 ((List.range n).map fun j => Value.int .i64 (f j)) rfl (by simp) (ints_news fun j hj => (HB.out.cell (p := ⟨g1, o1 + j, none⟩) H1.out.1).trans (H1.out.2 j hj)) ints_one (by unfold maxLen; omega) (by omega) HB.out.size ?_; intro v' w2 hown' hgrow _)
          have HB2 := Lib.hid (below_grown HB.out HO.out hgrow)
          rw [Nat.zero_add, List.nil_append] at hown'
          have HO2 := Lib.hid hown'
          clear q0 hgrow hown' HB HO
          go_roundg 1
          case measure => omega
          case rel => exact ⟨1, rfl, rfl, HB2, .inr (.inl ⟨rfl, HO2⟩)⟩
        · rename World => W2
          have q0 := (HB.out.cell (p := ⟨sb, 1, none⟩) H0.out.1).trans H0.out.2.2
          obtain ⟨pa, pc, hv⟩ := own_form HO.out
          subst hv
          go_wp2_with (at_builtin; refine wpList_append_own _ rfl _ _ 29 rfl w.heap.size 3 i0 (.int .i64 0) 1 8 Try.underlying29 hi0 hz0 hz1 hz2 rfl (by decide) _ _ _ rfl HO.out ⟨g2, o2, none⟩ 1 c2 [.int .i64 x] rfl rfl (one_news2 ((HB.out.cell (p := ⟨g2, o2, none⟩) H2.out.1).trans H2.out.2)) (by intro u hu; simp at hu; subst hu; rfl) (by unfold maxLen; omega) (by omega) HB.out.size ?_; intro v' w2 hown' hgrow _)
          have HB2 := Lib.hid (below_grown HB.out HO.out hgrow)
          rw [cat_list] at hown'
          have HO2 := Lib.hid hown'
          clear q0 hgrow hown' HB HO
          go_roundg 0
          case measure => omega
          case rel => exact ⟨2, rfl, rfl, HB2, .inr (.inr ⟨rfl, HO2⟩)⟩
        · obtain ⟨g, cp, rfl, hN⟩ := own_nrow HO.out (by omega)
          have HN := Lib.hid hN
          clear hN HO
          go_wp2_with fail
          go_ret
          exact ⟨g, cp, rfl, HN.out, HB.out⟩

end Go.Proofs.Ytjggnmbdgagkoaa

namespace Go.Proofs.Ytjggnmbdgagkoaa
set_option linter.unusedVariables false
open Go.RowKit Go.Shelf

/-- Rows that are laid one after the other. -/
structure Ext (W : World) (ab R n1 i : Nat) (G C : Nat → Nat) (F : Nat → Nat → Int) : Prop where
  hb : ab < W.heap.size
  top : ∀ l, l < i → W.cell? ⟨ab, l, none⟩ = some (.slice (some ⟨G l, 0, none⟩) n1 (C l))
  rest : ∀ l, i ≤ l → l < R → W.cell? ⟨ab, l, none⟩ = some (.slice none 0 0)
  fz : ∀ l, l < R → W.frozen? ⟨ab, l, none⟩ = false
  row : ∀ l, l < i → NRow (ab + 1) n1 W (G l) (C l) (F l)
theorem Ext.on {W W2 : World} {ab R n1 i : Nat} {G C : Nat → Nat} {F : Nat → Nat → Int} (h : Ext W ab R n1 i G C F) (hb : Below W.heap.size W W2) : Ext W2 ab R n1 i G C F where
  hb := Nat.lt_of_lt_of_le h.hb hb.size
  top l hl := (hb.cell (p := ⟨ab, l, none⟩) h.hb).trans (h.top l hl)
  rest l hl hr := (hb.cell (p := ⟨ab, l, none⟩) h.hb).trans (h.rest l hl hr)
  fz l hl := (hb.frozen (p := ⟨ab, l, none⟩) h.hb).trans (h.fz l hl)
  row l hl := (h.row l hl).on hb
theorem Ext.push {W : World} {ab R n1 i : Nat} {G C : Nat → Nat} {F : Nat → Nat → Int} (h : Ext W ab R n1 i G C F) (g cp : Nat) (hi : i < R) (hr : NRow (ab + 1) n1 W g cp (F i)) :
    Ext (W.setCell ⟨ab, i, none⟩ (.slice (some ⟨g, 0, none⟩) n1 cp)) ab R n1 (i + 1) (updN G i g) (updN C i cp) F := by
  have o2 := only_set W ⟨ab, i, none⟩ (.slice (some ⟨g, 0, none⟩) n1 cp)
  have pick : ∀ l, l < i + 1 → (l = i ∧ updN G i g l = g ∧ updN C i cp l = cp) ∨ (l < i ∧ updN G i g l = G l ∧ updN C i cp l = C l) := fun l hl => by
    unfold updN
    by_cases e : l = i
    · exact .inl ⟨e, if_pos e, if_pos e⟩
    · exact .inr ⟨by omega, if_neg e, if_neg e⟩
  refine ⟨by simpa using h.hb, fun l hl => ?_, fun l hl hr => ?_, fun l hl => by simpa using h.fz l hl, fun l hl => ?_⟩
  · rcases pick l hl with ⟨e0, e1, e2⟩ | ⟨h1, e1, e2⟩
    · rw [e1, e2, e0]
      exact World.cell?_setCell_same' _ _ _ (by rw [h.rest i (Nat.le_refl _) hi]; rfl)
    · rw [e1, e2, World.cell?_setCell_other _ _ _ _ (adr_ne (b := ab) (i := i) (j := l) (by omega))]
      exact h.top l h1
  · rw [World.cell?_setCell_other _ _ _ _ (adr_ne (b := ab) (i := i) (j := l) (by omega))]
    exact h.rest l (by omega) hr
  · rcases pick l hl with ⟨e0, e1, e2⟩ | ⟨h1, e1, e2⟩
    · rw [e1, e2, e0]; exact hr.only o2 (fun e => by have e2 : g = ab := e; have := hr.lo; omega)
    · rw [e1, e2]; exact (h.row l h1).only o2 (fun e => by have e2 : G l = ab := e; have := (h.row l h1).lo; omega)
theorem Ext.mat {W : World} {ab R n1 : Nat} {G C : Nat → Nat} {F : Nat → Nat → Int} (h : Ext W ab R n1 R G C F) : Mat W ab 0 R n1 G (fun _ => 0) C F where
  hb := h.hb
  top i hi := by rw [Nat.zero_add]; exact h.top i hi
  row i hi := (h.row i hi).hb
  cell i j hi hj := by rw [Nat.zero_add]; exact (h.row i hi).cell j hj

def extE (n : Nat) (M : Nat → Nat → Int) (f : Nat → Int) : Nat → Nat → Int := fun i => catF n (M i) (f i)

set_option maxHeartbeats 4000000 in
theorem extended_any (mb mo mc R n rg ro rc : Nat) (Ga Oa Ka : Nat → Nat) (M : Nat → Nat → Int) (f : Nat → Int) (w : World) (hM : Mat w mb mo R n Ga Oa Ka M) (hg : rg < w.heap.size) (hf : ∀ j, j < R → w.cell? ⟨rg, ro + j, none⟩ = some (.int .i64 (f j))) (hR : R ≤ 13) (hn : 0 < n) (hn13 : n ≤ 12) (hrc : R ≤ rc) (hrc2 : rc ≤ 9223372036854775807) :
    Calls Try.prog 50 #[.slice (some ⟨mb, mo, none⟩) R mc, .slice (some ⟨rg, ro, none⟩) R rc] w fun e w' => ∃ ab G C, e = .returned (.slice (some ⟨ab, 0, none⟩) R R) ∧ Below w.heap.size w w' ∧ Mat w' ab 0 R (n + 1) G (fun _ => 0) C (extE n M f) := by
  have HM := Lib.hid hM
  have HF := Lib.hid (And.intro hg hf)
  clear hM hg hf
  go_enter Try.func50, Try.ntmps50
  obtain ⟨i0, hi0, hz0, hz1, hz2⟩ := info_parts (show (Try.prog.info? 29).map (fun i => (i.zero, i.size, i.bytes)) = some (some (Value.slice none 0 0), 1, 24) by kernel_rfl)
  go_upto_region 2 with (refine wpList_make_full _ rfl _ _ 23 rfl w.heap.size 29 i0 (.slice none 0 0) 1 Try.underlying23 hi0 hz0 hz1 _ _ _ _ R rfl rfl rfl rfl (by rw [hz2]; omega) (by unfold maxLen; omega) (Nat.le_refl _) ?_; intro w1 ho hg)
  have hb1 : Below w.heap.size w w1 := ⟨hg.os, hg.tape, hg.output, hg.size, fun k hk => hg.block k hk (by simp)⟩
  obtain ⟨ab, hab⟩ : ∃ x, x = w.heap.size := ⟨_, rfl⟩
  have S0 : Hid (Ext w1 ab R (n + 1) 0 (fun _ => 0) (fun _ => 0) (extE n M f) ∧ Below w.heap.size w w1) := by
    have hl : ab < w1.heap.size := by
      rcases ho.2 with ⟨e, _⟩ | ⟨g, cap, cur, hv, _, hgg, _⟩
      · cases e
      · cases hv
        rw [hab]; exact (Array.getElem?_eq_some_iff.1 hgg).1
    refine ⟨⟨hl, fun l h => by omega, fun l _ hr => ?_, fun l hr => own_frozen ho (by rw [hab]; rfl) l, fun l h => by omega⟩, hb1⟩
    have := ho.cells (g := w.heap.size) rfl l (.slice none 0 0) (by
      rw [show (Value.slice none 0 0).cells = #[Value.slice none 0 0] by rfl, Nat.mul_one, toList_madeCells_one, List.getElem?_replicate, if_pos hr])
    rw [hab]
    rwa [show (⟨w.heap.size, 0, none⟩ : Addr).add l = ⟨w.heap.size, l, none⟩ by unfold Addr.add; split <;> simp_all] at this
  have HA := Lib.hid hab
  rw [← hab]
  clear ho hg hb1 hab hi0 hz0 hz1 hz2 i0
  go_wp2_with fail
  go_loopg [13] R (fun g s13 wx => ∃ i : Nat, s13 = .int .i64 i ∧ g = R - i ∧ i ≤ R ∧ ∃ G C, Hid (Ext wx ab R (n + 1) i G C (extE n M f) ∧ Below w.heap.size w wx))
  case atStart => exact ⟨0, rfl, rfl, Nat.zero_le _, _, _, S0⟩
  case round =>
    clear S0
    obtain ⟨i, rfl, rfl, hi, G, C, S⟩ := hrel
    rename World => W1
    by_cases hlt : i < R
    · have wk : IntKind.i64.wrap ((i : Int) + 1) = ((i + 1 : Nat) : Int) := by rw [IntWalk.i64_in _ (by omega)]; omega
      have p1 := (HM.out.on S.out.2).top i hlt
      have nc : ¬ (rc = i) := by omega
      go_upto_region 5 with fail
      clear p1
      go_wp2_with fail
      have hb0 : Below W1.heap.size W1 (W1.alloc (Obj.cells #[Value.slice (some ⟨Ga i, Oa i, none⟩) n (Ka i), Value.slice (some ⟨rg, ro + i, none⟩) 1 (rc - i)] 29)) := (Below.refl _ _).alloc (Nat.le_refl _) _
      obtain ⟨W2, hW2⟩ : ∃ W, W = W1.alloc (Obj.cells #[Value.slice (some ⟨Ga i, Oa i, none⟩) n (Ka i), Value.slice (some ⟨rg, ro + i, none⟩) 1 (rc - i)] 29) := ⟨_, rfl⟩
      obtain ⟨sb, hsb⟩ : ∃ x, x = W1.heap.size := ⟨_, rfl⟩
      have HM2 := (HM.out.on S.out.2).on hb0
      have hrg := Nat.lt_of_lt_of_le HF.out.1 S.out.2.size
      have c2 := (hb0.cell (p := ⟨rg, ro + i, none⟩) hrg).trans ((S.out.2.cell (p := ⟨rg, ro + i, none⟩) HF.out.1).trans (HF.out.2 i hlt))
      have c0 : W2.cell? ⟨sb, 0, none⟩ = some (.slice (some ⟨Ga i, Oa i, none⟩) n (Ka i)) := by rw [hW2, hsb]; simp [go_sem]
      have c1 : W2.cell? ⟨sb, 1, none⟩ = some (.slice (some ⟨rg, ro + i, none⟩) 1 (rc - i)) := by rw [hW2, hsb]; simp [go_sem]
      have hs2 : sb < W2.heap.size := by rw [hW2, hsb]; simp
      rw [← hW2] at hb0 HM2 c2
      rw [← hW2, ← hsb]
      have CC := Lib.hid (concat_any sb (Ga i) (Oa i) (Ka i) rg (ro + i) (rc - i) n (M i) (f i) W2 hs2 c0 c1 (HM2.row i hlt) (fun j hj => HM2.cell i j hlt hj) (Nat.lt_of_lt_of_le hrg hb0.size) c2 hn (by omega))
      have HB0 := Lib.hid hb0
      clear hb0 HM2 c2 c0 c1 hs2 hW2 hsb hrg
      (with_reducible refine ((CC.out).mono ?_))
      rintro e w2 ⟨g, cp, rfl, hN, hb⟩
      have S2 := Lib.hid (S.out.1.on (below_on HB0.out hb))
      have HB2 := Lib.hid (below_on S.out.2 (below_on HB0.out hb))
      have HN := Lib.hid (hN.mono (lo2 := ab + 1) (by have := S.out.1.hb; have := HB0.out.size; omega))
      clear CC hN hb HB0 S
      have q1 := S2.out.rest i (Nat.le_refl _) hlt
      have q2 := S2.out.fz i hlt
      go_wp2_with fail
      have T : Hid (Ext (w2.setCell ⟨ab, i, none⟩ (.slice (some ⟨g, 0, none⟩) (n + 1) cp)) ab R (n + 1) (i + 1) (updN G i g) (updN C i cp) (extE n M f) ∧ Below w.heap.size w (w2.setCell ⟨ab, i, none⟩ (.slice (some ⟨g, 0, none⟩) (n + 1) cp))) :=
        ⟨S2.out.push g cp hlt HN.out, HB2.out.setCell (by show w.heap.size ≤ ab; rw [HA.out]; exact Nat.le_refl _) _⟩
      clear q1 q2 S2 HB2 HN
      go_roundg (R - (i + 1))
      case measure => omega
      case rel => exact ⟨i + 1, rfl, rfl, by omega, _, _, T⟩
    · have e : i = R := by omega
      subst e
      go_wp2_with fail
      go_ret
      exact ⟨ab, G, C, rfl, S.out.2, S.out.1.mat⟩

end Go.Proofs.Ytjggnmbdgagkoaa

namespace Go.Proofs.Ytjggnmbdgagkoaa
set_option linter.unusedVariables false
open Go.RowKit Go.Shelf

set_option maxHeartbeats 4000000 in
theorem share_any (eb : Nat) (v0 v1 : Value) (D n a d er : Int) (w : World) (hE : EBlk w eb v0 v1 (.int .i64 D)) (n0 : -9223372036854775808 ≤ n) (n1 : n ≤ 9223372036854775807) (d0 : -9223372036854775808 ≤ D) (d1 : D ≤ 9223372036854775807) (h : makeT n D = (a, d, er)) :
    Calls Try.prog 51 #[.pointer (some ⟨eb, 0, none⟩), .int .i64 n] w fun e w' => e = .returned (.agg #[.int .i64 a, .int .i64 d]) ∧ Below w.heap.size w w' := by
  have CM := fun W => Lib.hid (Make_any n D W n0 n1 d0 d1 a d er h)
  have q2 := hE.c2
  have hb := hE.hb
  clear hE
  go_enter Try.func51, Try.ntmps51
  have hb1 : Below w.heap.size w (w.alloc (Obj.cells #[Value.int IntKind.i64 0, Value.int IntKind.i64 0] 45)) := (Below.refl _ _).alloc (Nat.le_refl _) _
  obtain ⟨W1, hW1⟩ : ∃ W, W = w.alloc (Obj.cells #[Value.int IntKind.i64 0, Value.int IntKind.i64 0] 45) := ⟨_, rfl⟩
  obtain ⟨rb, hrb⟩ : ∃ x, x = w.heap.size := ⟨_, rfl⟩
  have B1 : Blk W1 rb (.int .i64 0) (.int .i64 0) := by rw [hW1, hrb]; exact Blk.new _ _ _ _
  have F1 : Frz W1 rb := by rw [hW1, hrb]; exact Frz.new _ _ _ _
  have e1 := (hb1.cell (p := ⟨eb, 2, none⟩) hb).trans q2
  have hl1 := Nat.lt_of_lt_of_le hb hb1.size
  go_upto_region 1 with fail
  rw [← hW1, ← hrb]
  rw [← hW1] at hb1 e1 hl1
  have HB1 := Lib.hid hb1
  have HR := Lib.hid (And.intro B1 F1)
  have HX := Lib.hid hrb
  clear hW1 hrb hb1 B1 F1 q2 hb
  go_wp2_with fail
  (with_reducible refine (((CM _).out).mono ?_))
  rintro e w2 ⟨rfl, hb2⟩
  have HB2 := Lib.hid (below_on HB1.out hb2)
  have HR2 := Lib.hid (And.intro (HR.out.1.on hb2) (HR.out.2.on HR.out.1.1 hb2))
  clear CM hb2 HR e1 hl1 HB1
  go_upto_region 2 with fail
  obtain ⟨W3, hW3⟩ : ∃ W, W = w2.alloc (Obj.cells #[Value.int IntKind.i64 a, Value.int IntKind.i64 d] 45) := ⟨_, rfl⟩
  have hb3 : Below w2.heap.size w2 (w2.alloc (Obj.cells #[Value.int IntKind.i64 a, Value.int IntKind.i64 d] 45)) := (Below.refl _ _).alloc (Nat.le_refl _) _
  have B3 := HR2.out.1.on hb3
  have F3 := HR2.out.2.on HR2.out.1.1 hb3
  have C3 : Blk (w2.alloc (Obj.cells #[Value.int IntKind.i64 a, Value.int IntKind.i64 d] 45)) w2.heap.size (.int .i64 a) (.int .i64 d) := Blk.new _ _ _ _
  rw [← hW3] at B3 F3 C3 hb3
  rw [← hW3]
  have HB3 := Lib.hid (below_on HB2.out hb3)
  clear hW3 hb3 HR2 HB2
  have B4 := Blk.set (x := .int .i64 a) (y := .int .i64 d) B3
  have HB4 := Lib.hid ((HB3.out.setCell (p := ⟨rb, 0, none⟩) (by show w.heap.size ≤ rb; rw [HX.out]; exact Nat.le_refl _) (.int .i64 a)).setCell (p := ⟨rb, 1, none⟩) (by show w.heap.size ≤ rb; rw [HX.out]; exact Nat.le_refl _) (.int .i64 d))
  have H4 := Lib.hid B4
  clear B4
  obtain ⟨_, b0, b1⟩ := B3
  obtain ⟨f0, f1⟩ := F3
  obtain ⟨_, c0, c1⟩ := C3
  go_wp2_with fail
  clear b0 b1 f0 f1 c0 c1
  generalize (W3.setCell ⟨rb, 0, none⟩ (.int .i64 a)).setCell ⟨rb, 1, none⟩ (.int .i64 d) = W4 at *
  have x0 := H4.out.2.1
  have x1 := H4.out.2.2
  (try simp only [Exit.inBlock, Exit.then])
  refine bodyPost_ret (by simp [results, Try.results51, x0, x1, go_sem]; rfl) rfl ?_
  exact ⟨rfl, HB4.out⟩

end Go.Proofs.Ytjggnmbdgagkoaa
