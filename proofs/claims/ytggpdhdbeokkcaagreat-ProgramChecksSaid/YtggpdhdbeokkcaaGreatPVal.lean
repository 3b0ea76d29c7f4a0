/- Layer 5: which programs are valid. -/
import Derived.Test.YtggpdhdbeokkcaaGreatPNew
namespace Go.Proofs.YtggpdhdbeokkcaaGreat
set_option linter.unusedVariables false
open Go.RowKit Go.Shelf

def wB (n : Nat) (f : Nat → Int) (most : Int) : Bool := decide (∀ j, j < n → - most ≤ f j ∧ f j ≤ most)
theorem pwithin_pred (xb : Nat) (most : Int) (w : World) (hx : xb < w.heap.size) (hxc : w.cell? ⟨xb, 0, none⟩ = some (.int .i64 most)) (m0 : 0 ≤ most) (m1 : most ≤ 1073741824) :
  PredAt Tryz.prog 98 #[.pointer (some ⟨xb, 0, none⟩)] (fun z : Int => Value.int .i64 z) (fun z => decide (z < -most) || decide (most < z)) w := fun W z hb => by
 have h0 := (hb.cell (p := ⟨xb, 0, none⟩) hx).trans hxc
 have wn : IntKind.i64.wrap (-most) = -most := IntWalk.i64_in _ (by omega)
 show Calls Tryz.prog 98 #[.int .i64 z, .pointer (some ⟨xb, 0, none⟩)] W _
 go_enter Tryz.func98, Tryz.ntmps98
 go_wp2
 all_goals (go_ret; exact ⟨by simp_all, 0, rfl⟩)
theorem wB_any (n : Nat) (f : Nat → Int) (most : Int) : (!(((List.range n).map f).take n).any (fun z => decide (z < -most) || decide (most < z))) = wB n f most := by
 rw [List.take_of_length_le (by simp)]
 unfold wB
 by_cases h : ∀ j, j < n → - most ≤ f j ∧ f j ≤ most
 ·rw [decide_eq_true h, Bool.not_eq_true', List.any_eq_false]
  intro x hx
  obtain ⟨j, hj, rfl⟩ := List.mem_map.1 hx
  have := h j (by simpa using hj)
  simp
  omega
 ·rw [decide_eq_false h]
  have ⟨j, hj, hn⟩ : ∃ j, j < n ∧ ¬ (- most ≤ f j ∧ f j ≤ most) := Classical.byContradiction fun q => h fun j hj => Classical.byContradiction fun g => q ⟨j, hj, g⟩
  have : ((List.range n).map f).any (fun z => decide (z < -most) || decide (most < z)) = true := by
   rw [List.any_eq_true]
   refine ⟨f j, List.mem_map.2 ⟨j, by simpa using hj, rfl⟩, ?_⟩
   simp
   omega
  rw [this]; rfl
theorem wB_true {n : Nat} {f : Nat → Int} {most : Int} : wB n f most = true ↔ ∀ j, j < n → - most ≤ f j ∧ f j ≤ most := by unfold wB; simp
theorem pcont_row (ra : Option Addr) (n c : Nat) (f : Nat → Int) (xb : Nat) (most : Int) (w : World) (hr : IRow w ra n f) (hx : xb < w.heap.size) (hxc : w.cell? ⟨xb, 0, none⟩ = some (.int .i64 most)) (m0 : 0 ≤ most) (m1 : most ≤ 1073741824) (hn : n ≤ 9223372036854775807) :
  Calls Tryz.prog 97 #[.slice ra n c, .func (.func 98) #[] #[.pointer (some ⟨xb, 0, none⟩)]] w fun e w' => e = .returned (.bool (!wB n f most)) ∧ Below w.heap.size w w' := by
 by_cases h0 : n = 0
 ·subst h0
  refine (Tryz.slices_ContainsFunc_empty (α := Int) ra c _ w).mono ?_
  rintro e w' ⟨rfl, rfl⟩
  exact ⟨by simp [wB], Below.refl _ _⟩
 ·obtain ⟨g, o, rfl, h2, h3⟩ := hr (by omega)
  have eg : ∀ args w, (callFunc 98 args).run Tryz.prog w = .ok (.enter 98 args) w := enters_of Tryz.func98 (by kernel_rfl) rfl
  refine (Tryz.slices_ContainsFunc (fun z : Int => Value.int .i64 z) _ _ #[.pointer (some ⟨xb, 0, none⟩)] eg g o n c ((List.range n).map f) w (pwithin_pred xb most w hx hxc m0 m1) (by simp) hn (fun j hj => ?_)).mono ?_
  ·have hj' : j < n := by simpa using hj
   rw [h3 j hj', getElem!_pos _ _ (by simpa using hj')]
   simp
  ·rintro e w' ⟨rfl, q, rfl⟩
   refine ⟨?_, below_drewN' (Below.refl _ _) q⟩
   rw [← wB_any, Bool.not_not]
theorem pwithin_any (ra : Option Addr) (n c : Nat) (f : Nat → Int) (most : Int) (w : World) (hr : IRow w ra n f) (m0 : 0 ≤ most) (m1 : most ≤ 1073741824) (hn : n ≤ 9223372036854775807) :
  Calls Tryz.prog 63 #[.int .i64 most, .slice ra n c] w fun e w' => e = .returned (.bool (wB n f most)) ∧ Below w.heap.size w w' := by
 have hb1 : Below w.heap.size w (w.alloc (Obj.cells #[Value.int IntKind.i64 most] 3)) := (Below.refl _ _).alloc (Nat.le_refl _) _
 obtain ⟨w1, hw1⟩ : ∃ W, W = w.alloc (Obj.cells #[Value.int IntKind.i64 most] 3) := ⟨_, rfl⟩
 obtain ⟨xb, hxb⟩ : ∃ x, x = w.heap.size := ⟨_, rfl⟩
 have hx : xb < w1.heap.size := by rw [hw1, hxb]; simp
 have hxc : w1.cell? ⟨xb, 0, none⟩ = some (.int .i64 most) := by rw [hw1, hxb]; simp
 rw [← hw1] at hb1
 have CF := Lib.hid (pcont_row ra n c f xb most w1 (hr.on hb1) hx hxc m0 m1 hn)
 have HB := Lib.hid hb1
 clear hb1 hr hx hxc
 go_enter Tryz.func63, Tryz.ntmps63
 go_upto_region 1 with fail
 rw [← hxb, ← hw1]
 clear hxb hw1
 go_wp2_with fail
 (with_reducible refine ((CF.out).mono ?_))
 rintro e w2 ⟨rfl, hb⟩
 go_wp2_with fail
 go_ret
 exact ⟨by simp, below_on HB.out hb⟩
theorem pwithin_one (z most : Int) (w : World) (m0 : 0 ≤ most) (m1 : most ≤ 1073741824) (b : Nat) (hb : b < w.heap.size) (hc : w.cell? ⟨b, 0, none⟩ = some (.int .i64 z)) :
  Calls Tryz.prog 63 #[.int .i64 most, .slice (some ⟨b, 0, none⟩) 1 1] w fun e w' => e = .returned (.bool (wB 1 (fun _ => z) most)) ∧ Below w.heap.size w w' :=
 pwithin_any _ 1 1 (fun _ => z) most w (fun _ => ⟨b, 0, rfl, hb, fun j hj => by rw [show 0 + j = 0 by omega]; exact hc⟩) m0 m1 (by omega)

/-- Sizes that the machine's integers hold, and numbers. -/
structure PgD.Sm (p : PgD) : Prop where
 n : p.n ≤ 9223372036854775807
 m : p.m ≤ 9223372036854775807
 l : ∀ i, i < p.m → p.Ln i ≤ 9223372036854775807

def badR (p : PgD) (i : Nat) : Bool := decide (p.Ln i ≠ p.n) || !wB (p.Ln i) (p.Z i) 1048576 || decide (p.Kd i < 1) || decide (3 < p.Kd i) || !wB 1 (fun _ => p.Rt i) 1073741824

set_option maxHeartbeats 4000000 in
theorem pvalid1_any (n cc : Nat) (ca ra : Option Addr) (L kc : Nat) (f : Nat → Int) (k r : Int) (xb : Nat) (w : World) (hr : IRow w ra L f) (hL : L ≤ 9223372036854775807) (hx : xb < w.heap.size) (hxc : w.cell? ⟨xb, 0, none⟩ = some (.slice ca n cc)) :
  Calls Tryz.prog 64 #[.agg #[.slice ra L kc, .int .i64 k, .int .i64 r], .pointer (some ⟨xb, 0, none⟩)] w fun e w' => e = .returned (.bool (decide (L ≠ n) || !wB L f 1048576 || decide (k < 1) || decide (3 < k) || !wB 1 (fun _ => r) 1073741824)) ∧ Below w.heap.size w w' := by
 have hb1 : Below w.heap.size w (w.alloc (Obj.cells #[Value.slice ra L kc, .int .i64 k, .int .i64 r] 53)) := (Below.refl _ _).alloc (Nat.le_refl _) _
 obtain ⟨w1, hw1⟩ : ∃ W, W = w.alloc (Obj.cells #[Value.slice ra L kc, .int .i64 k, .int .i64 r] 53) := ⟨_, rfl⟩
 obtain ⟨yb, hyb⟩ : ∃ x, x = w.heap.size := ⟨_, rfl⟩
 have hE : EBlk w1 yb (.slice ra L kc) (.int .i64 k) (.int .i64 r) := by
  rw [hw1, hyb]
  exact ⟨by simp, by simp [go_sem], by simp [go_sem], by simp [go_sem], by simp [go_sem], by simp [go_sem], by simp [go_sem]⟩
 rw [← hw1] at hb1
 have q1 := (hb1.cell (p := ⟨xb, 0, none⟩) hx).trans hxc
 have HR := Lib.hid (hr.on hb1)
 have HB := Lib.hid hb1
 have HE := Lib.hid hE
 clear hb1 hr hxc hE
 go_enter Tryz.func64, Tryz.ntmps64
 go_upto_region 1 with fail
 rw [← hyb, ← hw1]
 clear hyb hw1
 have e0 := HE.out.c0
 have e1 := HE.out.c1
 have e2 := HE.out.c2
 by_cases h : L = n
 ·subst h
  have CW := Lib.hid (pwithin_any ra L kc f 1048576 w1 HR.out (by omega) (by omega) hL)
  cases hw : wB L f 1048576
  ·rw [hw] at CW
   go_wp2_with fail
   (with_reducible refine ((CW.out).mono ?_))
   rintro e w2 ⟨rfl, hb⟩
   go_wp2_with fail
   go_ret
   exact ⟨by simp [hw], below_on HB.out hb⟩
  ·rw [hw] at CW
   have HB2 := fun w2 (hb : Below w1.heap.size w1 w2) => And.intro (below_on HB.out hb) (HE.out.on hb)
   have H2 := Lib.hid HB2
   clear HB2
   go_wp2_with fail
   (with_reducible refine ((CW.out).mono ?_))
   rintro e w2 ⟨rfl, hb⟩
   have H3 := Lib.hid (H2.out w2 hb)
   clear CW hb e0 e1 e2 HE HB H2 q1
   have e1 := H3.out.2.c1
   have e2 := H3.out.2.c2
   by_cases hk1 : k < 1
   ·have d1 : decide (k < 1) = true := decide_eq_true hk1
    go_wp2_with fail
    go_ret
    exact ⟨by simp [hw, hk1], H3.out.1⟩
   ·have d1 : decide (k < 1) = false := decide_eq_false hk1
    by_cases hk3 : 3 < k
    ·have d2 : decide (3 < k) = true := decide_eq_true hk3
     go_wp2_with fail
     go_ret
     exact ⟨by simp [hw, hk3], H3.out.1⟩
    ·have d2 : decide (3 < k) = false := decide_eq_false hk3
     have hb4 : Below w2.heap.size w2 (w2.alloc (Obj.cells #[Value.int IntKind.i64 r] 3)) := (Below.refl _ _).alloc (Nat.le_refl _) _
     have C4 := Lib.hid (pwithin_one r 1073741824 (w2.alloc (Obj.cells #[Value.int IntKind.i64 r] 3)) (by omega) (by omega) w2.heap.size (by simp) (by simp [go_sem]))
     have HB4 := Lib.hid (below_on H3.out.1 hb4)
     clear hb4
     go_wp2_with fail
     (with_reducible refine ((C4.out).mono ?_))
     rintro e w5 ⟨rfl, hb5⟩
     have HB5 := Lib.hid (below_on HB4.out hb5)
     clear hb5 C4 e1 e2
     obtain ⟨tt, htt⟩ : ∃ t, wB 1 (fun _ => r) 1073741824 = t := ⟨_, rfl⟩
     simp only [htt]
     go_wp2_with fail
     go_ret
     exact ⟨by simp [hw, htt]; intro h; omega, HB5.out⟩
 ·have hne : ((L : Int) != (n : Int)) = true := by simp; omega
  have hne2 : ¬ ((L : Int) = (n : Int)) := by omega
  go_wp2_with fail
  go_ret
  exact ⟨by simp [h], HB.out⟩

/-- Rows of a program, read one by one. -/
theorem idxR_any (fn : Nat) (bnd : Array Value) (g o m rc : Nat) (Ca : Nat → Option Addr) (Ln Kc : Nat → Nat) (Kd Rt : Nat → Int) (q : Nat → Bool) (w : World) (hg : g < w.heap.size)
  (hr : ∀ i, i < m → w.cell? ⟨g, o + i * 3, none⟩ = some (.slice (Ca i) (Ln i) (Kc i)) ∧ w.cell? ⟨g, o + i * 3 + 1, none⟩ = some (.int .i64 (Kd i)) ∧ w.cell? ⟨g, o + i * 3 + 2, none⟩ = some (.int .i64 (Rt i))) (hm : m ≤ 9223372036854775806) (eg : ∀ args w, (callFunc fn args).run Tryz.prog w = .ok (.enter fn args) w)
  (CP : ∀ i, i < m → ∀ W, Below w.heap.size w W → Calls Tryz.prog fn (#[.agg #[.slice (Ca i) (Ln i) (Kc i), .int .i64 (Kd i), .int .i64 (Rt i)]] ++ bnd) W fun e w' => e = .returned (.bool (q i)) ∧ Below W.heap.size W w') :
  Calls Tryz.prog 61 #[.slice (some ⟨g, o, none⟩) m rc, .func (.func fn) #[] bnd] w fun e w' => Below w.heap.size w w' ∧ ((e = .returned (.int .i64 (-1)) ∧ ∀ i, i < m → q i = false) ∨ ∃ i, i < m ∧ e = .returned (.int .i64 (i : Nat)) ∧ q i = true) := by
 have HP := Lib.hid CP
 have HT := Lib.hid (And.intro hg hr)
 clear CP hg hr
 go_enter Tryz.func61, Tryz.ntmps61
 go_wp2_with fail
 have S0 : Hid (Below w.heap.size w w ∧ ∀ l, l < 0 → q l = false) := ⟨Below.refl _ _, fun l h => by omega⟩
 go_loopg [8] m (fun g s8 wx => ∃ i : Nat, s8 = .int .i64 i ∧ g = m - i ∧ i ≤ m ∧ Hid (Below w.heap.size w wx ∧ ∀ l, l < i → q l = false))
 case atStart => exact ⟨0, rfl, rfl, Nat.zero_le _, S0⟩
 case round =>
  clear S0
  obtain ⟨i, rfl, rfl, hi, S⟩ := hrel
  rename World => W1
  by_cases hlt : i < m
  ·have wk : IntKind.i64.wrap ((i : Int) + 1) = ((i + 1 : Nat) : Int) := by rw [IntWalk.i64_in _ (by omega)]; omega
   have p1 := (S.out.1.cell (p := ⟨g, o + i * 3, none⟩) HT.out.1).trans (HT.out.2 i hlt).1
   have p2 := (S.out.1.cell (p := ⟨g, o + i * 3 + 1, none⟩) HT.out.1).trans (HT.out.2 i hlt).2.1
   have p3 := (S.out.1.cell (p := ⟨g, o + i * 3 + 2, none⟩) HT.out.1).trans (HT.out.2 i hlt).2.2
   have CI := Lib.hid (HP.out i hlt W1 S.out.1)
   go_wp2_with fail
   (with_reducible refine ((CI.out).mono ?_))
   rintro e w2 ⟨rfl, hb⟩
   have HB := Lib.hid (below_on S.out.1 hb)
   clear CI p1 p2 p3 hb
   cases hq : q i
   ·have HQ := Lib.hid hq
    go_wp2_with fail
    have T : Hid (Below w.heap.size w w2 ∧ ∀ l, l < i + 1 → q l = false) := ⟨HB.out, fun l hl => by
     by_cases e : l = i
     ·rw [e]; exact HQ.out
     ·exact S.out.2 l (by omega)⟩
    go_roundg (m - (i + 1))
    case measure => omega
    case rel => exact ⟨i + 1, rfl, rfl, by omega, T⟩
   ·have HQ := Lib.hid hq
    go_wp2_with fail
    go_ret
    exact ⟨HB.out, .inr ⟨i, hlt, rfl, HQ.out⟩⟩
  ·have e : i = m := by omega
   subst e
   go_wp2_with fail
   go_ret
   exact ⟨S.out.1, .inl ⟨rfl, S.out.2⟩⟩
theorem contR_any (fn : Nat) (bnd : Array Value) (p : PgD) (q : Nat → Bool) (w : World) (hp : p.At w) (hm : p.m ≤ 9223372036854775806) (eg : ∀ args w, (callFunc fn args).run Tryz.prog w = .ok (.enter fn args) w)
  (CP : ∀ i, i < p.m → ∀ W, Below w.heap.size w W → Calls Tryz.prog fn (#[.agg #[.slice (p.Ca i) (p.Ln i) (p.Kc i), .int .i64 (p.Kd i), .int .i64 (p.Rt i)]] ++ bnd) W fun e w' => e = .returned (.bool (q i)) ∧ Below W.heap.size W w') :
  Calls Tryz.prog 22 #[.slice p.ra p.m p.rc, .func (.func fn) #[] bnd] w fun e w' => e = .returned (.bool (decide (∃ i, i < p.m ∧ q i = true))) ∧ Below w.heap.size w w' := by
 have CI : Hid (Calls Tryz.prog 61 #[.slice p.ra p.m p.rc, .func (.func fn) #[] bnd] w fun e w' => Below w.heap.size w w' ∧ ((e = .returned (.int .i64 (-1)) ∧ ∀ i, i < p.m → q i = false) ∨ ∃ i, i < p.m ∧ e = .returned (.int .i64 (i : Nat)) ∧ q i = true)) := by
  by_cases h0 : 0 < p.m
  ·obtain ⟨g, o, e, hg, hr⟩ := hp.rows h0
   rw [e]
   exact idxR_any fn bnd g o p.m p.rc p.Ca p.Ln p.Kc p.Kd p.Rt q w hg hr hm eg CP
  ·have e0 : p.m = 0 := by omega
   rw [e0]
   show Calls _ _ _ _ _
   clear CP hp
   go_enter Tryz.func61, Tryz.ntmps61
   go_wp2_with fail
   go_loopg [8] 1 (fun g s8 wx => s8 = .int .i64 0 ∧ g = 1 ∧ wx = w)
   case atStart => exact ⟨rfl, rfl, rfl⟩
   case round =>
    obtain ⟨rfl, rfl, rfl⟩ := hrel
    go_wp2_with fail
    go_ret
    exact ⟨Below.refl _ _, .inl ⟨rfl, fun i hi => by omega⟩⟩
 clear hp eg CP
 go_enter Tryz.func22, Tryz.ntmps22
 go_wp2_with fail
 (with_reducible refine ((CI.out).mono ?_))
 rintro e w2 ⟨hb, ⟨rfl, h⟩ | ⟨i, hi, rfl, h⟩⟩
 ·have hd : decide (∃ i, i < p.m ∧ q i = true) = false := decide_eq_false fun ⟨i, hi, hq⟩ => by rw [h i hi] at hq; cases hq
  have HD := Lib.hid hd
  clear hd h
  go_wp2_with fail
  go_ret
  exact ⟨by rw [HD.out]; simp, hb⟩
 ·have hd : decide (∃ i, i < p.m ∧ q i = true) = true := decide_eq_true ⟨i, hi, h⟩
  have HD := Lib.hid hd
  clear hd h
  go_wp2_with fail
  go_ret
  exact ⟨by rw [HD.out]; simp, hb⟩

theorem ok_rows {p : PgD} : p.Ok ↔ (1 ≤ p.n ∧ p.n ≤ 12 ∧ p.m ≤ 6 ∧ wB p.n p.C 1048576 = true) ∧ ¬ ∃ i, i < p.m ∧ badR p i = true := by
 constructor
 ·intro h
  refine ⟨⟨h.n1, h.n2, h.m2, wB_true.2 h.c⟩, ?_⟩
  rintro ⟨i, hi, hb⟩
  unfold badR at hb
  have h1 : wB p.n (p.Z i) 1048576 = true := wB_true.2 (h.z i hi)
  rw [h.l i hi] at hb
  have h2 : wB 1 (fun _ => p.Rt i) 1073741824 = true := wB_true.2 (fun _ _ => h.r i hi)
  have h3 := h.k i hi
  simp [h1, h2] at hb
  omega
 ·rintro ⟨⟨h1, h2, h3, h4⟩, h5⟩
  have hb : ∀ i, i < p.m → badR p i = false := fun i hi => by
   cases h : badR p i
   ·rfl
   ·exact absurd ⟨i, hi, h⟩ h5
  have hx : ∀ i, i < p.m → p.Ln i = p.n ∧ wB (p.Ln i) (p.Z i) 1048576 = true ∧ ¬ p.Kd i < 1 ∧ ¬ 3 < p.Kd i ∧ wB 1 (fun _ => p.Rt i) 1073741824 = true := fun i hi => by
   have := hb i hi
   unfold badR at this
   simp only [Bool.or_eq_false_iff, decide_eq_false_iff_not, Bool.not_eq_false'] at this
   exact ⟨Classical.not_not.1 this.1.1.1.1, this.1.1.1.2, this.1.1.2, this.1.2, this.2⟩
  refine ⟨h1, h2, h3, wB_true.1 h4, fun i hi => (hx i hi).1, fun i hi => ?_, fun i hi => ?_, fun i hi => ?_⟩
  ·have := wB_true.1 (hx i hi).2.1
   rwa [(hx i hi).1] at this
  ·have := (hx i hi).2.2; omega
  ·exact wB_true.1 (hx i hi).2.2.2.2 0 (by omega)

set_option maxHeartbeats 4000000 in
theorem pValid_any (p : PgD) (hs : p.Sm) (v : Bool) (hv : v = true ↔ p.Ok) (w : World) (hp : p.At w) :
  Calls Tryz.prog 26 #[p.val] w fun e w' => e = .returned (.bool v) ∧ Below w.heap.size w w' := by
 unfold PgD.val
 have hb1 : Below w.heap.size w (w.alloc (Obj.cells #[Value.slice p.ca p.n p.cc, .slice p.ra p.m p.rc] 25)) := (Below.refl _ _).alloc (Nat.le_refl _) _
 obtain ⟨w1, hw1⟩ : ∃ W, W = w.alloc (Obj.cells #[Value.slice p.ca p.n p.cc, .slice p.ra p.m p.rc] 25) := ⟨_, rfl⟩
 obtain ⟨xb, hxb⟩ : ∃ x, x = w.heap.size := ⟨_, rfl⟩
 have hB : Blk w1 xb (.slice p.ca p.n p.cc) (.slice p.ra p.m p.rc) := by rw [hw1, hxb]; exact Blk.new _ _ _ _
 rw [← hw1] at hb1
 have HP := Lib.hid (hp.on hb1)
 have HB := Lib.hid hb1
 have HX := Lib.hid hB
 have HV := Lib.hid hv
 have HS := Lib.hid hs
 have hn := hs.n
 have hm := hs.m
 clear hb1 hp hB hv hs
 have eg : ∀ args w, (callFunc 64 args).run Tryz.prog w = .ok (.enter 64 args) w := enters_of Tryz.func64 (by kernel_rfl) rfl
 go_enter Tryz.func26, Tryz.ntmps26
 go_upto_region 1 with fail
 rw [← hxb, ← hw1]
 clear hxb hw1
 have q0 := HX.out.2.1
 have q1 := HX.out.2.2
 have no : ∀ (h : ¬ (1 ≤ p.n ∧ p.n ≤ 12 ∧ p.m ≤ 6 ∧ wB p.n p.C 1048576 = true)), v = false := fun h => by
  cases e : v
  ·rfl
  ·exact absurd (ok_rows.1 (HV.out.1 e)).1 h
 have HN := Lib.hid no
 clear no
 by_cases h1 : 1 ≤ p.n
 ·have t1 : decide (((p.n : Nat) : Int) < 1) = false := decide_eq_false (by omega)
  by_cases h2 : p.n ≤ 12
  ·have t2 : decide ((12 : Int) < ((p.n : Nat) : Int)) = false := decide_eq_false (by omega)
   by_cases h3 : p.m ≤ 6
   ·have t3 : decide ((6 : Int) < ((p.m : Nat) : Int)) = false := decide_eq_false (by omega)
    have CW := Lib.hid (pwithin_any p.ca p.n p.cc p.C 1048576 w1 HP.out.cost (by omega) (by omega) hn)
    cases hw : wB p.n p.C 1048576
    ·rw [hw] at CW
     have ev := HN.out (fun h => by rw [hw] at h; cases h.2.2.2)
     subst ev
     go_wp2_with fail
     (with_reducible refine ((CW.out).mono ?_))
     rintro e w2 ⟨rfl, hb⟩
     go_wp2_with fail
     go_ret
     exact ⟨rfl, below_on HB.out hb⟩
    ·rw [hw] at CW
     have HW := Lib.hid hw
     clear hw
     go_wp2_with fail
     (with_reducible refine ((CW.out).mono ?_))
     rintro e w2 ⟨rfl, hb⟩
     have HP2 := Lib.hid (HP.out.on hb)
     have HB2 := Lib.hid (below_on HB.out hb)
     have HX2 := Lib.hid (HX.out.on hb)
     clear CW hb HP HB HX q0 q1
     have q1 := HX2.out.2.2
     have CC := Lib.hid (contR_any 64 #[.pointer (some ⟨xb, 0, none⟩)] p (badR p) w2 HP2.out (by omega) eg (fun i hi W hb => pvalid1_any p.n p.cc p.ca (p.Ca i) (p.Ln i) (p.Kc i) (p.Z i) (p.Kd i) (p.Rt i) xb W ((HP2.out.coef i hi).on hb) (HS.out.l i hi) (Nat.lt_of_lt_of_le HX2.out.1 hb.size) ((hb.cell (p := ⟨xb, 0, none⟩) HX2.out.1).trans HX2.out.2.1)))
     have hfin : v = !decide (∃ i, i < p.m ∧ badR p i = true) := by
      by_cases h : ∃ i, i < p.m ∧ badR p i = true
      ·rw [decide_eq_true h]
       cases e : v
       ·rfl
       ·exact absurd h (ok_rows.1 (HV.out.1 e)).2
      ·rw [decide_eq_false h]
       exact HV.out.2 (ok_rows.2 ⟨⟨h1, h2, h3, HW.out⟩, h⟩)
     have HF := Lib.hid hfin
     clear hfin eg
     obtain ⟨t, ht⟩ : ∃ t, decide (∃ i, i < p.m ∧ badR p i = true) = t := ⟨_, rfl⟩
     rw [ht] at CC HF
     clear ht
     go_wp2_with fail
     (with_reducible refine ((CC.out).mono ?_))
     rintro e w3 ⟨rfl, hb⟩
     have HB3 := Lib.hid (below_on HB2.out hb)
     clear CC hb HB2 HP2 HX2 q1
     go_wp2_with fail
     go_ret
     exact ⟨by rw [HF.out]; rfl, HB3.out⟩
   ·have t3 : decide ((6 : Int) < ((p.m : Nat) : Int)) = true := decide_eq_true (by omega)
    have ev := HN.out (fun h => h3 h.2.2.1)
    subst ev
    go_wp2_with fail
    go_ret
    exact ⟨rfl, HB.out⟩
  ·have t2 : decide ((12 : Int) < ((p.n : Nat) : Int)) = true := decide_eq_true (by omega)
   have ev := HN.out (fun h => h2 h.2.1)
   subst ev
   go_wp2_with fail
   go_ret
   exact ⟨rfl, HB.out⟩
 ·have t1 : decide (((p.n : Nat) : Int) < 1) = true := decide_eq_true (by omega)
  have ev := HN.out (fun h => h1 h.1)
  subst ev
  go_wp2_with fail
  go_ret
  exact ⟨rfl, HB.out⟩
end Go.Proofs.YtggpdhdbeokkcaaGreat
