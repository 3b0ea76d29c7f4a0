/- Layer 5: the first table of a program. -/
import Derived.Test.YtggpdhdbeokkcaaGreatPLow
namespace Go.Proofs.YtggpdhdbeokkcaaGreat
set_option linter.unusedVariables false

/-- The number of the slack of a row, by its kind; the sign of a row, by its right side. -/
def slk (k : Int) : Int := if k = 1 then 1 else if k = 2 then -1 else 0
def sgR (r : Int) : Int := if r < 0 then -1 else 1
theorem slk_cases (k : Int) : slk k = 1 ∨ slk k = -1 ∨ slk k = 0 := by unfold slk; split <;> (try split) <;> simp
theorem sgR_cases (k : Int) : sgR k = 1 ∨ sgR k = -1 := by unfold sgR; split <;> simp
/-- A row without its lack, ahead of its turning. -/
def rawA (n m : Nat) (Z : Nat → Nat → Int) (Kd Rt : Nat → Int) : Nat → Nat → Int := fun i j => if j < n then Z i j else if j = n + i then slk (Kd i) else if j = n + m + m then Rt i else 0
def tabA (n m : Nat) (Z : Nat → Nat → Int) (Kd Rt : Nat → Int) : Nat → Nat → Int := fun i j => if j = n + m + i then 1 else sgR (Rt i) * rawA n m Z Kd Rt i j
def c0F (n : Nat) (C : Nat → Int) : Nat → Int := fun j => if j < n then C j else 0
def c1F (n m : Nat) : Nat → Int := fun j => if n + m ≤ j ∧ j < n + m + m then 1 else 0
def lckL (n m : Nat) (Z : Nat → Nat → Int) (Kd Rt : Nat → Int) (k : Nat) : Nat → Int := fun j => - sumN k fun l => sgR (Rt l) * rawA n m Z Kd Rt l j
def fP (n : Nat) (Z : Nat → Nat → Int) (Rt : Nat → Int) : Nat → Int := fun c => 1 + sumN n (fun j => ((Z c j).natAbs : Int)) + ((Rt c).natAbs : Int)
def sgP5 (Kd Rt : Nat → Int) : Nat → Int := fun k => sgR (Rt k) * slk (Kd k)
def b0P (n m : Nat) : Nat → Nat := fun l => if l < m then n + m + l else 0

section
variable (n m : Nat) (Z : Nat → Nat → Int) (Kd Rt C : Nat → Int)
theorem lpA : LpA n m (tabA n m Z Kd Rt) (fP n Z Rt) (sgP5 Kd Rt) := by
 refine ⟨fun c k hc hk => ?_, fun c k hc hk => ?_, fun k hk => ?_, fun c hc => ?_⟩
 ·unfold tabA rawA sgP5
  rw [if_neg (by omega), if_neg (by omega)]
  by_cases e : c = k
  ·subst e; rw [if_pos rfl, if_pos rfl]
  ·rw [if_neg (by omega), if_neg (by omega), if_neg e]; omega
 ·unfold tabA rawA
  by_cases e : c = k
  ·subst e; rw [if_pos rfl, if_pos rfl]
  ·rw [if_neg (by omega), if_neg (by omega), if_neg (by omega), if_neg (by omega), if_neg e]; omega
 ·unfold sgP5
  rcases sgR_cases (Rt k) with h | h <;> rcases slk_cases (Kd k) with g | g | g <;> rw [h, g] <;> decide
 ·unfold fP
  have e1 : (sumN n fun j => ((tabA n m Z Kd Rt c j).natAbs : Int)) = sumN n fun j => ((Z c j).natAbs : Int) := sumN_congr fun j hj => by
   unfold tabA rawA
   rw [if_neg (by omega), if_pos hj]
   rcases sgR_cases (Rt c) with h | h <;> rw [h] <;> omega
  have e2 : ((tabA n m Z Kd Rt c (n + m + m)).natAbs : Int) = ((Rt c).natAbs : Int) := by
   unfold tabA rawA
   rw [if_neg (by omega), if_neg (by omega), if_neg (by omega), if_pos rfl]
   rcases sgR_cases (Rt c) with h | h <;> rw [h] <;> omega
  rw [e1, e2]; exact Int.le_refl _
theorem b0_unit {A : Nat → Nat → Int} {f σ : Nat → Int} (h : LpA n m A f σ) (x : Vec) (i : Nat) : detN m (updV (bV A (b0P n m)) i x) = detN m (updV unitV i x) := det_congr m fun l hl c hc => by
 unfold updV
 split
 ·rfl
 ·unfold bV b0P unitV
  rw [if_pos hl, h.la c l hc hl]
theorem b0_dt {A : Nat → Nat → Int} {f σ : Nat → Int} (h : LpA n m A f σ) : dtP m A (b0P n m) = 1 := by
 rw [← det_one m]
 exact det_congr m fun l hl c hc => by
  unfold bV b0P unitV
  rw [if_pos hl, h.la c l hc hl]
theorem b0_sg {A : Nat → Nat → Int} {f σ : Nat → Int} (h : LpA n m A f σ) : sgB m A (b0P n m) = 1 := by
 unfold sgB; rw [b0_dt n m h]; rfl
theorem b0_dd {A : Nat → Nat → Int} {f σ : Nat → Int} (h : LpA n m A f σ) : ddP m A (b0P n m) = 1 := by
 unfold ddP; rw [b0_sg n m h, b0_dt n m h]; rfl
theorem b0_tt {A : Nat → Nat → Int} {f σ : Nat → Int} (h : LpA n m A f σ) (i j : Nat) (hi : i < m) : ttP m A (b0P n m) i j = A i j := by
 unfold ttP; rw [b0_sg n m h, b0_unit n m h, det_unit m i _ hi, Int.one_mul]; rfl
theorem b0_zz {A : Nat → Nat → Int} {f σ : Nat → Int} (h : LpA n m A f σ) (z : Nat → Int) (j : Nat) : zzP m A z (b0P n m) j = z j - sumN m fun k => z (n + m + k) * A k j := by
 unfold zzP
 rw [b0_dd n m h, Int.one_mul]
 congr 1
 exact sumN_congr fun k hk => by rw [b0_tt n m h k j hk]; unfold b0P; rw [if_pos hk]
theorem tab_start (i j : Nat) (hi : i < m + 2) (hj : j < n + m + m + 1) : tabE m (tabA n m Z Kd Rt) (c0F n C) (c1F n m) (b0P n m) i j = if i < m then tabA n m Z Kd Rt i j else if i = m then c0F n C j else lckL n m Z Kd Rt m j := by
 have h := lpA n m Z Kd Rt
 unfold tabE
 split
 ·rename_i g; exact b0_tt n m h i j g
 ·split
  ·rw [b0_zz n m h, sumN_zero (fun k hk => by unfold c0F; rw [if_neg (by omega), Int.zero_mul])]; omega
  ·rw [b0_zz n m h]
   unfold lckL
   have e1 : (sumN m fun k => c1F n m (n + m + k) * tabA n m Z Kd Rt k j) = sumN m fun k => tabA n m Z Kd Rt k j := sumN_congr fun k hk => by
    unfold c1F; rw [if_pos ⟨by omega, by omega⟩, Int.one_mul]
   rw [e1]
   by_cases hl : n + m ≤ j ∧ j < n + m + m
   ·have e2 : c1F n m j = 1 := if_pos hl
    rw [e2, sumN_one (n := m) (k := j - n - m) (by omega) (fun k hk hn => by
     unfold tabA rawA
     rw [if_neg (by omega), if_neg (by omega), if_neg (by omega), if_neg (by omega), Int.mul_zero]), sumN_zero (fun k hk => by
     unfold rawA
     rw [if_neg (by omega), if_neg (by omega), if_neg (by omega), Int.mul_zero])]
    unfold tabA
    rw [if_pos (by omega)]; rfl
   ·have e2 : c1F n m j = 0 := if_neg hl
    have e3 : (sumN m fun k => tabA n m Z Kd Rt k j) = sumN m fun l => sgR (Rt l) * rawA n m Z Kd Rt l j := sumN_congr fun k hk => by
     unfold tabA; rw [if_neg (by omega)]
    rw [e2, e3]; omega
theorem good_start : GoodP m (tabA n m Z Kd Rt) (n + m + m + 1) (n + m + m) (b0P n m) := by
 have h := lpA n m Z Kd Rt
 refine ⟨by rw [b0_dt n m h]; decide, fun l hl => by unfold b0P; rw [if_pos hl]; omega, fun i hi => ?_, fun l hl => if_neg (by omega)⟩
 rw [b0_tt n m h i _ hi]
 unfold tabA rawA
 rw [if_neg (by omega), if_neg (by omega), if_neg (by omega), if_pos rfl]
 unfold sgR
 split <;> omega
theorem c0_sum : (sumN (n + m + m + 1) fun j => ((c0F n C j).natAbs : Int)) = sumN n fun j => ((C j).natAbs : Int) := by
 rw [show n + m + m + 1 = n + (m + m + 1) by omega, sumN_app, sumN_zero (n := m + m + 1) (fun k hk => by unfold c0F; rw [if_neg (by omega)]; rfl)]
 rw [sumN_congr (n := n) (g := fun j => ((C j).natAbs : Int)) (fun j hj => by unfold c0F; rw [if_pos hj])]; omega
theorem sumN_ones : ∀ m : Nat, (sumN m fun _ => (1 : Int)) = (m : Int)
 | 0 => rfl
 | m + 1 => by show (sumN m fun _ => (1 : Int)) + 1 = _; rw [sumN_ones m]; omega
theorem c1_sum : (sumN (n + m + m + 1) fun j => ((c1F n m j).natAbs : Int)) = (m : Int) := by
 rw [show n + m + m + 1 = (n + m) + (m + 1) by omega, sumN_app, sumN_zero (n := n + m) (fun k hk => by unfold c1F; rw [if_neg (by omega)]; rfl)]
 show 0 + ((sumN m fun i => ((c1F n m (n + m + i)).natAbs : Int)) + ((c1F n m (n + m + m)).natAbs : Int)) = _
 rw [sumN_congr (n := m) (g := fun _ => (1 : Int)) (fun j hj => by unfold c1F; rw [if_pos ⟨by omega, by omega⟩]; rfl), sumN_ones]
 have : c1F n m (n + m + m) = 0 := if_neg (by omega)
 rw [this]
 show 0 + ((m : Int) + 0) = _
 omega
theorem prob_start (hn : 1 ≤ n ∧ n ≤ 12) (hm : m ≤ 6) (hP : (1 + sumN n fun j => ((C j).natAbs : Int)) * prodN m (fP n Z Rt) ≤ 17592186044416) : Prob n m (tabA n m Z Kd Rt) (fP n Z Rt) (sgP5 Kd Rt) (c0F n C) (c1F n m) := by
 have h := lpA n m Z Kd Rt
 have h1 := h.prod
 have h2 := sumN_nn (n := n) (f := fun j => ((C j).natAbs : Int)) (fun _ _ => by omega)
 have h3 : 0 ≤ (sumN n fun j => ((C j).natAbs : Int)) * prodN m (fP n Z Rt) := Int.mul_nonneg h2 (by omega)
 rw [Int.add_mul, Int.one_mul] at hP
 refine ⟨h, by omega, by rw [c0_sum]; omega, ?_, hn, hm⟩
 rw [c1_sum]
 have : (m : Int) * prodN m (fP n Z Rt) ≤ 6 * prodN m (fP n Z Rt) := Int.mul_le_mul_of_nonneg_right (by omega) (by omega)
 omega
end
end Go.Proofs.YtggpdhdbeokkcaaGreat
