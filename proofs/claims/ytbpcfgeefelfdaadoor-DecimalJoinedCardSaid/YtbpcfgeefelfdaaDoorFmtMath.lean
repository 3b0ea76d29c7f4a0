/- Plain mathematics of the decimal texts: the digits of a number, from its end, and the point among them. Nothing here speaks of Go. -/
import Derived.Lib.Hide
namespace Go.Proofs.YtbpcfgeefelfdaaDoor

def dig (m : Nat) : UInt8 := UInt8.ofNat (48 + m % 10)
/-- The last d digits of n, the first one first. -/
def lowD (n : Nat) : Nat → List UInt8
  | 0 => []
  | d + 1 => dig (n / 10 ^ d) :: lowD n d

theorem lowD_len (n : Nat) : ∀ d, (lowD n d).length = d
  | 0 => rfl
  | d + 1 => by simp [lowD, lowD_len n d]

theorem lowD_drop (n : Nat) (k : Nat) : ∀ d, k ≤ d → (lowD n d).drop (d - k) = lowD n k
  | 0, h => by obtain rfl : k = 0 := by omega
               rfl
  | d + 1, h => by
    rcases Nat.lt_or_ge d k with e | e
    · obtain rfl : k = d + 1 := by omega
      simp
    · rw [show d + 1 - k = (d - k) + 1 from by omega]
      simp only [lowD, List.drop_succ_cons]
      exact lowD_drop n k d e

/-- The last d digits, with a point before the last k ones as soon as there is one more. -/
def body (n k d : Nat) : List UInt8 := if k = 0 ∨ d ≤ k then lowD n d else (lowD n d).take (d - k) ++ 46 :: lowD n k

theorem body_zero (n k : Nat) : body n k 0 = [] := by simp [body, lowD]
theorem body_plain (n k d : Nat) (h : ¬ (d = k ∧ 0 < k)) : body n k (d + 1) = dig (n / 10 ^ d) :: body n k d := by
  unfold body
  by_cases a : k = 0
  · rw [if_pos (Or.inl a), if_pos (Or.inl a)]; rfl
  · rcases Nat.lt_or_ge d k with e | e
    · rw [if_pos (Or.inr (by omega)), if_pos (Or.inr (by omega))]; rfl
    · rw [if_neg (by omega), if_neg (by omega), show d + 1 - k = (d - k) + 1 from by omega]
      simp [lowD]
theorem body_point (n k : Nat) (h : 0 < k) : body n k (k + 1) = dig (n / 10 ^ k) :: 46 :: body n k k := by
  unfold body
  rw [if_neg (by omega), if_pos (Or.inr (by omega)), show k + 1 - k = 1 from by omega]
  simp [lowD]
theorem body_len (n k d : Nat) : (body n k d).length = if k = 0 ∨ d ≤ k then d else d + 1 := by
  unfold body
  split
  · exact lowD_len n d
  · simp [lowD_len]; omega

/-- Where the digits end: with the least number of digits that says all. -/
structure Ends (n k d : Nat) : Prop where
  more : k < d
  none : n / 10 ^ d = 0
  need : ∀ d', d' < d → d' ≤ k ∨ 0 < n / 10 ^ d'

theorem ends_one {n k d d' : Nat} (h : Ends n k d) (h' : Ends n k d') : d = d' := by
  rcases Nat.lt_trichotomy d d' with e | e | e
  · have := h'.need d e; have := h.more; have := h.none; omega
  · exact e
  · have := h.need d' e; have := h'.more; have := h'.none; omega

theorem need_le {n k d : Nat} (hn : n ≤ 1152921504606846976) (hk : k ≤ 9) (h : d ≤ k ∨ 0 < n / 10 ^ d) : d ≤ 18 := by
  rcases h with h | h
  · omega
  · rcases Nat.lt_or_ge 18 d with e | e
    · have h19 : 10 ^ 19 ≤ 10 ^ d := Nat.pow_le_pow_right (by omega) (by omega)
      have : n / 10 ^ d = 0 := Nat.div_eq_of_lt (by omega)
      omega
    · exact e

theorem ends_le {n k d : Nat} (hn : n ≤ 1152921504606846976) (hk : k ≤ 9) (h : Ends n k d) : d ≤ 19 := by
  have h1 := h.more
  have := need_le hn hk (h.need (d - 1) (by omega))
  omega

theorem div_step (n d : Nat) : n / 10 ^ d / 10 = n / 10 ^ (d + 1) := by
  rw [Nat.div_div_eq_div_mul, Nat.pow_succ]

theorem dig_int (m : Nat) : ((dig m).toNat : Int) = 48 + ((m : Int) % 10) := by
  unfold dig
  rw [UInt8.toNat_ofNat_of_lt' (by simp [UInt8.size]; omega)]
  omega

/-- The decimal text, d digits in all. -/
def fmtS (n : Int) (k d : Nat) : List UInt8 := (if n < 0 then [45] else []) ++ body n.natAbs k d
theorem fmtS_neg {n : Int} (h : n < 0) (k d : Nat) : fmtS n k d = 45 :: body n.natAbs k d := by unfold fmtS; rw [if_pos h]; rfl
theorem fmtS_pos {n : Int} (h : ¬ n < 0) (k d : Nat) : fmtS n k d = body n.natAbs k d := by unfold fmtS; rw [if_neg h]; rfl

end Go.Proofs.YtbpcfgeefelfdaaDoor
