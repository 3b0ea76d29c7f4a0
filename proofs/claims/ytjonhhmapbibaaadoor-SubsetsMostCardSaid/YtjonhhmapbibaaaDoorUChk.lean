/- Layer 7: subsets.Check, walked: isBalanced, subsetOf, Check over lists of numbers. -/
import Derived.Test.YtjonhhmapbibaaaDoorUPart
import Derived.Test.YtjonhhmapbibaaaDoorUAwk
namespace Go.Proofs.YtjonhhmapbibaaaDoor
open Go.ChangeShapes Go.WideShapes Go.ChangeAt Go.RowKit Go.Joins Go.Deep Go.Shelf
set_option linter.unusedVariables false

/-- The index ahead of the place j, or -1. -/
def lastI (zs : List Int) (j : Nat) : Int := if j = 0 then -1 else nth zs (j - 1)
theorem lastI_zero (zs : List Int) : lastI zs 0 = -1 := rfl
theorem lastI_succ (zs : List Int) (j : Nat) : lastI zs (j + 1) = nth zs j := rfl
/-- The first i indices ascend and lie in the list. -/
def UpP (n : Nat) (zs : List Int) (i : Nat) : Prop := ∀ j, j < i → lastI zs j < nth zs j ∧ nth zs j < n
theorem UpP.succ {n : Nat} {zs : List Int} {i : Nat} (h : UpP n zs i) (h1 : lastI zs i < nth zs i) (h2 : nth zs i < n) : UpP n zs (i + 1) := fun j hj => by
  by_cases q : j = i
  · rw [q]; exact ⟨h1, h2⟩
  · exact h j (by omega)
theorem UpP.ge {n : Nat} {zs : List Int} {i : Nat} (h : UpP n zs i) : ∀ j, j < i → (j : Int) ≤ nth zs j
  | 0, hj => by have := (h 0 hj).1; rw [lastI_zero] at this; omega
  | j + 1, hj => by
    have a := UpP.ge h j (by omega)
    have := (h (j + 1) hj).1
    rw [lastI_succ] at this
    omega
theorem UpP.le {n : Nat} {zs : List Int} {i : Nat} (h : UpP n zs i) : i ≤ n := by
  rcases Nat.eq_zero_or_pos i with q | q
  · omega
  · have a := h.ge (i - 1) (by omega)
    have := (h (i - 1) (by omega)).2
    omega
/-- The sum of the first i of the numbers that are named. -/
def sumZ (f : Nat → Int) (zs : List Int) : Nat → Int
  | 0 => 0
  | i + 1 => sumZ f zs i + f (nth zs i).toNat
theorem sumZ_bd {f : Nat → Int} {n : Nat} {zs : List Int} (hf : ∀ i, i < n → -1125899906842624 ≤ f i ∧ f i ≤ 1125899906842624) : ∀ i, UpP n zs i → -(i * 1125899906842624) ≤ sumZ f zs i ∧ sumZ f zs i ≤ i * 1125899906842624
  | 0, _ => by unfold sumZ; omega
  | i + 1, h => by
    have a := sumZ_bd hf i (fun j hj => h j (by omega))
    have g := h.ge i (by omega)
    have b := hf (nth zs i).toNat (by have := (h i (by omega)).2; omega)
    unfold sumZ
    omega
def Bal (n : Nat) (f : Nat → Int) (zs : List Int) : Prop := UpP n zs zs.length ∧ 0 < zs.length ∧ sumZ f zs zs.length = 0
instance (n : Nat) (f : Nat → Int) (zs : List Int) : Decidable (Bal n f zs) := by unfold Bal UpP; infer_instance
set_option maxHeartbeats 4000000 in
theorem isBal_any (ra : Option Addr) (n c : Nat) (f : Nat → Int) (pa : Option Addr) (pc : Nat) (zs : List Int) (w : World) (hr : IRow w ra n f) (hz : ZRow w pa zs) (hn : n ≤ 16) (hzn : zs.length ≤ 9223372036854775807) (hf : ∀ i, i < n → -1125899906842624 ≤ f i ∧ f i ≤ 1125899906842624) :
    Calls Tryd.prog 26 #[.slice ra n c, .slice pa zs.length pc] w fun e w' => e = .returned (.bool (decide (Bal n f zs))) ∧ w = w' := by
  have HR := Lib.hid hr
  have HZ := Lib.hid hz
  have HF := Lib.hid (fun i (h : UpP n zs i) => sumZ_bd hf i h)
  have S0 : Hid (UpP n zs 0) := fun j h => by omega
  clear hr hz hf
  go_enter Tryd.func26, Tryd.ntmps26
  go_wp2_with fail
  go_loopg [11, 5, 6] zs.length (fun g s11 s5 s6 wx => ∃ i : Nat, s11 = .int .i64 i ∧ s5 = .int .i64 (lastI zs i) ∧ s6 = .int .i64 (sumZ f zs i) ∧ g = zs.length - i ∧ i ≤ zs.length ∧ wx = w ∧ Hid (UpP n zs i))
  case atStart => exact ⟨0, rfl, rfl, rfl, rfl, Nat.zero_le _, rfl, S0⟩
  case round =>
    clear S0
    obtain ⟨i, rfl, rfl, rfl, rfl, hi, rfl, S⟩ := hrel
    rename World => W1
    by_cases hlt : i < zs.length
    · have wi : IntKind.i64.wrap ((i : Int) + 1) = ((i + 1 : Nat) : Int) := by rw [IntWalk.i64_in _ (by omega)]; omega
      have li : (i : Int) < (zs.length : Int) := by omega
      obtain ⟨pg, po, rfl, _, hpc⟩ := HZ.out (by omega)
      have p1 := hpc i hlt
      by_cases h1 : nth zs i ≤ lastI zs i
      · have q1 : decide (nth zs i ≤ lastI zs i) = true := decide_eq_true h1
        have hb : decide (Bal n f zs) = false := decide_eq_false (fun h => by have := (h.1 i hlt).1; omega)
        generalize nth zs i = x at *
        generalize lastI zs i = y at *
        generalize sumZ f zs i = u at *
        clear hpc S HF h1
        go_wp2_with fail
        go_ret
        exact ⟨by (first | rfl | (rw [hb]; rfl)), rfl⟩
      · have q1 : decide (nth zs i ≤ lastI zs i) = false := decide_eq_false h1
        by_cases h2 : nth zs i < n
        · have q2 : ¬ nth zs i ≥ (n : Int) := by omega
          have S2 := Lib.hid (S.out.succ (by omega) h2)
          have hge := S2.out.ge i (by omega)
          obtain ⟨k, hk⟩ : ∃ k : Nat, nth zs i = (k : Int) := ⟨(nth zs i).toNat, by omega⟩
          have hkn : k < n := by omega
          have hkl : (k : Int) < (n : Int) := by omega
          obtain ⟨rg, ro, rfl, _, hrc⟩ := HR.out (by omega)
          have p2 := hrc k hkn
          have hs : sumZ f zs (i + 1) = sumZ f zs i + f k := by rw [sumZ, hk]; rfl
          have ws : IntKind.i64.wrap (sumZ f zs i + f k) = sumZ f zs (i + 1) := by
            rw [← hs]
            have b := HF.out (i + 1) S2.out
            have := S2.out.le
            exact IntWalk.i64_in _ (by omega)
          have hl : lastI zs (i + 1) = (k : Int) := by rw [lastI_succ, hk]
          rw [hk] at p1 q1 q2
          generalize lastI zs i = y at *
          generalize sumZ f zs i = u at *
          generalize hu2 : sumZ f zs (i + 1) = u2 at *
          generalize f k = z at *
          clear hpc hrc S HF h1 h2 hge hk hs
          go_wp2_with fail
          go_roundg (zs.length - (i + 1))
          case measure => omega
          case rel => exact ⟨i + 1, rfl, by rw [hl], by rw [hu2], rfl, by omega, rfl, S2⟩
        · have q2 : nth zs i ≥ (n : Int) := by omega
          have hb : decide (Bal n f zs) = false := decide_eq_false (fun h => by have := (h.1 i hlt).2; omega)
          generalize nth zs i = x at *
          generalize lastI zs i = y at *
          generalize sumZ f zs i = u at *
          clear hpc S HF h1 h2
          go_wp2_with fail
          go_ret
          exact ⟨by (first | rfl | (rw [hb]; rfl)), rfl⟩
    · have li : ¬ (i : Int) < (zs.length : Int) := by omega
      have e : i = zs.length := by omega
      rw [e] at S ⊢
      by_cases h0 : 0 < zs.length
      · have q0 : (zs.length : Int) > 0 := by omega
        have hb : decide (Bal n f zs) = (sumZ f zs zs.length == 0) := by
          by_cases q : sumZ f zs zs.length = 0
          · rw [decide_eq_true ⟨S.out, h0, q⟩]; simp [q]
          · rw [decide_eq_false (fun h => q h.2.2)]; simp [q]
        generalize lastI zs zs.length = y at *
        generalize sumZ f zs zs.length = u at *
        clear e S HF hlt hi li
        have li : ¬ (zs.length : Int) < (zs.length : Int) := by omega
        go_wp2_with fail
        go_ret
        exact ⟨by (first | rfl | (rw [hb]; rfl)), rfl⟩
      · have q0 : ¬ (zs.length : Int) > 0 := by omega
        have hb : decide (Bal n f zs) = false := decide_eq_false (fun h => h0 h.2.1)
        generalize lastI zs zs.length = y at *
        generalize sumZ f zs zs.length = u at *
        clear e S HF hlt hi li
        have li : ¬ (zs.length : Int) < (zs.length : Int) := by omega
        go_wp2_with fail
        go_ret
        exact ⟨by (first | rfl | (rw [hb]; rfl)), rfl⟩
/-- The set of the first i indices. -/
def setZ (n : Nat) (zs : List Int) : Nat → Nat
  | 0 => 0
  | i + 1 => setZ n zs i ||| 2 ^ (n - 1 - (nth zs i).toNat)
theorem setZ_lt {n : Nat} {zs : List Int} : ∀ i, UpP n zs i → setZ n zs i < 2 ^ n
  | 0, _ => Nat.two_pow_pos n
  | i + 1, h => by
    have a := setZ_lt i (fun j hj => h j (by omega))
    have g := h.ge i (by omega)
    have b := (h i (by omega)).2
    unfold setZ
    exact Nat.or_lt_two_pow a (Nat.pow_lt_pow_right (by decide) (by omega))
set_option maxHeartbeats 4000000 in
theorem subsetOf_any (n : Nat) (pa : Option Addr) (pc : Nat) (zs : List Int) (w : World) (hz : ZRow w pa zs) (hn : n ≤ 16) (hu : UpP n zs zs.length) :
    Calls Tryd.prog 27 #[.int .i64 (n : Int), .slice pa zs.length pc] w fun e w' => e = .returned (.int .u64 (setZ n zs zs.length : Nat)) ∧ w = w' := by
  have HZ := Lib.hid hz
  have HU := Lib.hid hu
  have hlen := hu.le
  have h2 := p2_le hn
  clear hz hu
  go_enter Tryd.func27, Tryd.ntmps27
  go_wp2_with fail
  go_loopg [10, 5] zs.length (fun g s10 s5 wx => ∃ i : Nat, s10 = .int .i64 i ∧ s5 = .int .u64 (setZ n zs i : Nat) ∧ g = zs.length - i ∧ i ≤ zs.length ∧ wx = w)
  case atStart => exact ⟨0, rfl, rfl, rfl, Nat.zero_le _, rfl⟩
  case round =>
    obtain ⟨i, rfl, rfl, rfl, hi, rfl⟩ := hrel
    rename World => W1
    by_cases hlt : i < zs.length
    · have wi : IntKind.i64.wrap ((i : Int) + 1) = ((i + 1 : Nat) : Int) := by rw [IntWalk.i64_in _ (by omega)]; omega
      have li : (i : Int) < (zs.length : Int) := by omega
      obtain ⟨pg, po, rfl, _, hpc⟩ := HZ.out (by omega)
      have p1 := hpc i hlt
      have S2 := Lib.hid (show UpP n zs (i + 1) from fun j hj => HU.out j (by omega))
      have hge := S2.out.ge i (by omega)
      have hln := (HU.out i hlt).2
      obtain ⟨k, hk⟩ : ∃ k : Nat, nth zs i = (k : Int) := ⟨(nth zs i).toNat, by omega⟩
      have hkn : k < n := by omega
      obtain ⟨d, hd⟩ : ∃ d, d = n - 1 - k := ⟨_, rfl⟩
      have wn : IntKind.i64.wrap ((n : Int) - 1) = (n : Int) - 1 := IntWalk.i64_in _ (by omega)
      have wd : IntKind.i64.wrap ((n : Int) - 1 - (k : Int)) = (d : Int) := by rw [IntWalk.i64_in _ (by omega)]; omega
      have d0 : ¬ (d : Int) < 0 := by omega
      have dm : min d 64 = d := by omega
      have hs : setZ n zs (i + 1) = setZ n zs i ||| 2 ^ d := by rw [setZ, hk, hd]; rfl
      have a1 := setZ_lt i (fun j hj => HU.out j (by omega))
      have a2 : 2 ^ d < 65536 := Nat.lt_of_lt_of_le (Nat.pow_lt_pow_right (by decide) (show d < n by omega)) h2
      have e0 : (2 : Int) ^ d = ((2 ^ d : Nat) : Int) := p2_cast d
      have ws : bits .or .u64 ((setZ n zs i : Nat) : Int) ((2 ^ d : Nat) : Int) = ((setZ n zs (i + 1) : Nat) : Int) := by rw [hs]; exact u64_or_nat _ _ (by omega) (by omega)
      rw [hk] at p1
      generalize setZ n zs i = u at *
      generalize hu2 : setZ n zs (i + 1) = u2 at *
      generalize 2 ^ d = D at *
      have e1 : IntKind.u64.wrap (2 ^ d) = (D : Int) := by rw [e0, IntWalk.u64_in _ (by omega)]
      clear hpc HZ hge hln hk hd hs S2 HU a1 e0
      go_wp2_with (simp only [Int.toNat_natCast, dm, e1, ws])
      go_roundg (zs.length - (i + 1))
      case measure => omega
      case rel => exact ⟨i + 1, rfl, by (first | (rw [dm, e1, ws, hu2]) | (rw [hu2])), rfl, by omega, rfl⟩
    · have li : ¬ (i : Int) < (zs.length : Int) := by omega
      have e : i = zs.length := by omega
      have es : setZ n zs i = setZ n zs zs.length := by rw [e]
      rw [es]
      clear e es
      go_wp2_with fail
      go_ret
      exact ⟨rfl, rfl⟩
end Go.Proofs.YtjonhhmapbibaaaDoor
