/- Layer 2: what is read of a decimal text is the number. -/
import Derived.Test.YtfcplndfoboaaaaDoorRNumR
namespace Go.Proofs.YtfcplndfoboaaaaDoor
set_option linter.unusedVariables false

theorem nvG_app : ∀ (l r : List UInt8) (a : Nat), nvG (l ++ r) a = (nvG l a).bind (nvG r)
  | [], r, a => rfl
  | c :: l, r, a => by
    rw [List.cons_append]
    unfold nvG
    split
    · exact nvG_app l r _
    · rfl
theorem dig_nat {k : Nat} (h : k < 10) : (UInt8.ofNat (48 + k)).toNat = 48 + k := UInt8.toNat_ofNat_of_lt' (by show 48 + k < 256; omega)
theorem nvG_one {k : Nat} (h : k < 10) (a : Nat) : nvG [UInt8.ofNat (48 + k)] a = some (10 * a + k) := by
  unfold nvG
  rw [dig_nat h, if_pos (by omega)]
  show some (10 * a + (48 + k - 48)) = _
  rw [show 48 + k - 48 = k by omega]
theorem nvG_dec (n : Nat) : nvG (Lib.decDigits n) 0 = some n := by
  induction n using Nat.strongRecOn with
  | ind n ih =>
    rw [Lib.decDigits]
    split
    · rename_i h
      rw [nvG_one h]; simp
    · rw [nvG_app, ih (n / 10) (by omega)]
      show nvG _ (n / 10) = _
      rw [nvG_one (by omega)]
      congr 1
      omega
theorem dec_le : ∀ (k n : Nat), n < 10 ^ (k + 1) → (Lib.decDigits n).length ≤ k + 1
  | 0, n, h => by rw [Lib.decDigits, dif_pos (by omega)]; simp
  | k + 1, n, h => by
    rw [Lib.decDigits]
    split
    · simp
    · have := dec_le k (n / 10) (by rw [Nat.pow_succ] at h; omega)
      rw [List.length_append]
      show _ + 1 ≤ _
      omega
theorem dec_pos (n : Nat) : 1 ≤ (Lib.decDigits n).length := by
  rw [Lib.decDigits]
  split
  · simp
  · rw [List.length_append]; show 1 ≤ _ + 1; omega
/-- What number reads of a decimal text. -/
theorem num_dec (n : Nat) (h : n ≤ 1152921504606846976) : numT (Lib.decDigits n) = ((n : Int), true) := by
  have a := dec_pos n
  have b := dec_le 18 n (by show n < 10 ^ 19; omega)
  unfold numT
  rw [if_neg (by omega), nvG_dec]
  show (((n % 9223372036854775808 : Nat) : Int), decide (n ≤ 1152921504606846976)) = _
  rw [Nat.mod_eq_of_lt (by omega), decide_eq_true h]

end Go.Proofs.YtfcplndfoboaaaaDoor
