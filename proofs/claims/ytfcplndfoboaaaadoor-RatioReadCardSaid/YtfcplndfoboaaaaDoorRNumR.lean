/- Layer 2: the reference's reading of digits. -/
import Derived.Test.YtfcplndfoboaaaaDoorRTxtR
import Derived.Laws.Bits64b
namespace Go.Proofs.YtfcplndfoboaaaaDoor
set_option linter.unusedVariables false
open Go.RowKit Go.Shelf

/-- The number that digits tell, on from a. -/
def nvG : List UInt8 → Nat → Option Nat
  | [], a => some a
  | c :: r, a => if 48 ≤ c.toNat ∧ c.toNat ≤ 57 then nvG r (10 * a + (c.toNat - 48)) else none
def numT (l : List UInt8) : Int × Bool := if l.length < 1 ∨ 19 < l.length then (0, false) else match nvG l 0 with | none => (0, false) | some v => (((v % 9223372036854775808 : Nat) : Int), decide (v ≤ 1152921504606846976))
theorem num_byte (s : ByteArray) (i : Nat) (h : i < s.size) : s.data.toList.drop i = s[i] :: s.data.toList.drop (i + 1) :=
  List.drop_eq_getElem_cons (l := s.data.toList) (by simpa using h)

set_option maxRecDepth 100000 in
set_option maxHeartbeats 2000000 in
theorem refNumber_any (s : ByteArray) (w : World) (v : Int) (ok : Bool) (h : numT s.data.toList = (v, ok)) :
    Calls Tryd.prog 30 #[.string s] w fun e w' => e = .returned (.tuple #[.int .i64 v, .bool ok]) ∧ w = w' := by
  unfold numT at h
  have hl : s.data.toList.length = s.size := by simp
  rw [hl] at h
  by_cases g1 : s.size < 1
  · rw [if_pos (.inl g1)] at h
    injection h with e1 e2
    subst e1; subst e2
    clear hl
    go_enter Tryd.func30, Tryd.ntmps30
    go_wp2
    go_ret2
    exact ⟨rfl, rfl⟩
  by_cases g2 : 19 < s.size
  · rw [if_pos (.inr g2)] at h
    injection h with e1 e2
    subst e1; subst e2
    clear hl
    go_enter Tryd.func30, Tryd.ntmps30
    go_wp2
    go_ret2
    exact ⟨rfl, rfl⟩
  rw [if_neg (by omega)] at h
  obtain ⟨T, hT⟩ : ∃ T, nvG s.data.toList 0 = T := ⟨_, rfl⟩
  rw [hT] at h
  have HH := Lib.hid h
  have HT := Lib.hid hT
  clear h hl hT
  go_enter Tryd.func30, Tryd.ntmps30
  go_wp2
  go_loop [4, 5] (fun s4 s5 => ∃ (k a : Nat), s4 = .int .u64 a ∧ s5 = .int .i64 k ∧ k ≤ s.size ∧ Hid (a < 10 ^ k) ∧ Hid (nvG (s.data.toList.drop k) a = T)) (fun s4 s5 => (s.size - (intOf s5).toNat))
  case atStart => exact ⟨0, 0, rfl, rfl, by omega, by show 0 < 10 ^ 0; decide, HT⟩
  case round =>
    obtain ⟨k, a, rfl, rfl, hk, HP, R⟩ := hrel
    by_cases hlt : k < s.size
    · have R2 := R.out
      rw [num_byte s k hlt] at R2
      unfold nvG at R2
      have hp : a < 1000000000000000000 := Nat.lt_of_lt_of_le HP.out (Nat.pow_le_pow_right (by decide) (show k ≤ 18 by omega))
      have HP2 : Hid (10 * a + 9 < 10 ^ (k + 1)) := by have h := HP.out; show _ < _; rw [Nat.pow_succ]; omega
      obtain ⟨c, hc⟩ : ∃ c, s[k] = c := ⟨_, rfl⟩
      rw [hc] at R2
      have cl := c.toNat_lt
      obtain ⟨t, ht⟩ : ∃ t, c.toNat = t := ⟨_, rfl⟩
      rw [ht] at R2 cl
      have wk : IntKind.i64.wrap ((k : Int) + 1) = ((k + 1 : Nat) : Int) := by rw [IntWalk.i64_in _ (by omega)]; omega
      by_cases gd : 48 ≤ t ∧ t ≤ 57
      · rw [if_pos gd] at R2
        obtain ⟨t2, ht2⟩ : ∃ z, t - 48 = z := ⟨_, rfl⟩
        rw [ht2] at R2
        have HR2 := Lib.hid R2
        obtain ⟨gd1, gd2⟩ := gd
        have wa : IntKind.u64.wrap (10 * (a : Int)) = 10 * (a : Int) := IntWalk.u64_in _ (by omega)
        have wb : IntKind.u8.wrap ((t : Int) - 48) = (t2 : Int) := by rw [IntWalk.u8_in _ (by omega)]; omega
        have wc : IntKind.u64.wrap (t2 : Int) = (t2 : Int) := IntWalk.u64_in _ (by omega)
        have wd : IntKind.u64.wrap (10 * (a : Int) + (t2 : Int)) = ((10 * a + t2 : Nat) : Int) := by rw [IntWalk.u64_in _ (by omega)]; omega
        have ht3 : t2 ≤ 9 := by omega
        clear R R2 HP ht2
        go_wp2_with fail
        go_round
        case rel => exact ⟨k + 1, 10 * a + t2, by go_num, by go_num, by omega, by have := HP2.out; show _ < _; omega, HR2⟩
        case measure => simp [intOf]; omega
      · rw [if_neg gd] at R2
        subst R2
        have h := HH.out
        injection h with e1 e2
        subst e1; subst e2
        clear R HP HP2 HT HH
        by_cases gd1 : t < 48
        · have d1 : decide ((t : Int) < 48) = true := decide_eq_true (by omega)
          go_wp2_with fail
          go_ret2
          exact ⟨rfl, rfl⟩
        · have d1 : decide ((t : Int) < 48) = false := decide_eq_false (by omega)
          have d2 : decide (57 < (t : Int)) = true := decide_eq_true (by omega)
          go_wp2_with fail
          go_ret2
          exact ⟨rfl, rfl⟩
    · have e : k = s.size := by omega
      subst e
      have R2 := R.out
      rw [List.drop_eq_nil_of_le (by simp)] at R2
      have R3 : some a = T := R2
      subst R3
      have h := HH.out
      injection h with e1 e2
      have hp : a < 10000000000000000000 := Nat.lt_of_lt_of_le HP.out (Nat.pow_le_pow_right (by decide) (show s.size ≤ 19 by omega))
      clear R R2 HP HT HH
      have hb : bits .and .u64 (a : Int) 9223372036854775807 = ((a % 9223372036854775808 : Nat) : Int) := by
        rw [show (9223372036854775807 : Int) = ((9223372036854775807 : Nat) : Int) from rfl, bits_and_u64_nat a 9223372036854775807 (by omega) (by decide)]
        rw [show 9223372036854775807 = 2 ^ 63 - 1 from rfl, Nat.and_two_pow_sub_one_eq_mod]
      obtain ⟨q, hq⟩ : ∃ q, a % 9223372036854775808 = q := ⟨_, rfl⟩
      obtain ⟨t, ht⟩ : ∃ t, decide (a ≤ 1152921504606846976) = t := ⟨_, rfl⟩
      have hd : decide ((a : Int) ≤ 1152921504606846976) = t := by rw [← ht]; exact decide_eq_decide.2 (by omega)
      have hq2 : q < 9223372036854775808 := by omega
      rw [hq] at hb
      have hw : IntKind.i64.wrap (q : Int) = (q : Int) := IntWalk.i64_in _ (by omega)
      have hw2 : wrap64 (q : Int) = (q : Int) := by unfold wrap64; omega
      rw [hq] at e1
      rw [ht] at e2
      subst e1; subst e2
      clear hq ht
      go_wp2_with fail
      go_ret2
      exact ⟨rfl, rfl⟩

end Go.Proofs.YtfcplndfoboaaaaDoor
