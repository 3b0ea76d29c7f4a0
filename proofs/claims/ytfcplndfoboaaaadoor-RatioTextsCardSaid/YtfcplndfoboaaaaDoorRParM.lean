/- Layer 2: the fraction that a text is read as: the valid one that has this text, or none. -/
import Derived.Test.YtfcplndfoboaaaaDoorRNumM
namespace Go.Proofs.YtfcplndfoboaaaaDoor
set_option linter.unusedVariables false

/-- Where the first slash stands, or the length. -/
def slashAt (t : List UInt8) : Nat := (t.takeWhile fun c => c != 47).length
def restS (s : List UInt8) : List UInt8 := if s.head? = some 45 then s.tail else s
def numP (s : List UInt8) : Int × Bool := numT ((restS s).take (slashAt (restS s)))
def denP (s : List UInt8) : Int × Bool := if slashAt (restS s) < (restS s).length then numT ((restS s).drop (slashAt (restS s) + 1)) else (1, true)
def signP (s : List UInt8) : Int := if s.head? = some 45 then 0 - (numP s).1 else (numP s).1
def parP (s : List UInt8) : Option (Int × Int) :=
  if (numP s).2 = true ∧ (denP s).2 = true ∧ vB (signP s) (denP s).1 = true ∧ txt (signP s) (denP s).1 = s then some (signP s, (denP s).1) else none

theorem parP_some {s : List UInt8} {n d : Int} (h : parP s = some (n, d)) : Vld n d ∧ txt n d = s := by
  unfold parP at h
  split at h
  · rename_i g
    injection h with h
    injection h with h1 h2
    subst h1; subst h2
    exact ⟨vB_vld g.2.2.1, g.2.2.2⟩
  · cases h
theorem dec_dig : ∀ (n : Nat), ∀ c ∈ Lib.decDigits n, 48 ≤ c.toNat ∧ c.toNat ≤ 57 := by
  intro n
  induction n using Nat.strongRecOn with
  | ind n ih =>
    intro c hc
    rw [Lib.decDigits] at hc
    split at hc
    · rename_i h
      rw [List.mem_singleton.1 hc, dig_nat h]; omega
    · rcases List.mem_append.1 hc with hc | hc
      · exact ih (n / 10) (by omega) c hc
      · rw [List.mem_singleton.1 hc, dig_nat (by omega)]; omega
theorem dec_ne (n : Nat) (x : UInt8) (hx : x.toNat < 48 ∨ 57 < x.toNat) : ∀ c ∈ Lib.decDigits n, (c != x) = true := by
  intro c hc
  have := dec_dig n c hc
  simp
  rintro rfl
  omega
theorem take_all {p : UInt8 → Bool} : ∀ (l : List UInt8), (∀ c ∈ l, p c = true) → l.takeWhile p = l
  | [], _ => rfl
  | c :: r, h => by
    rw [List.takeWhile_cons, if_pos (h c (by simp)), take_all r (fun x hx => h x (by simp [hx]))]
theorem take_stop {p : UInt8 → Bool} : ∀ (l : List UInt8) (x : UInt8) (r : List UInt8), (∀ c ∈ l, p c = true) → p x = false → (l ++ x :: r).takeWhile p = l
  | [], x, r, _, hx => by rw [List.nil_append, List.takeWhile_cons, if_neg (by simp [hx])]
  | c :: l, x, r, h, hx => by
    rw [List.cons_append, List.takeWhile_cons, if_pos (h c (by simp)), take_stop l x r (fun y hy => h y (by simp [hy])) hx]
theorem dec_head (n : Nat) (r : List UInt8) : (Lib.decDigits n ++ r).head? ≠ some 45 := by
  intro h
  cases hd : Lib.decDigits n with
  | nil => have := dec_pos n; rw [hd] at this; simp at this
  | cons c q =>
    rw [hd] at h
    simp at h
    have := dec_dig n c (by rw [hd]; simp)
    rw [h] at this
    exact absurd this.1 (by decide)
/-- The text without its sign. -/
def bodyT (n d : Int) : List UInt8 := if d = 1 then Lib.decDigits n.natAbs else Lib.decDigits n.natAbs ++ 47 :: Lib.decDigits d.natAbs
theorem txt_body {n d : Int} (hd : 1 ≤ d) : txt n d = if n < 0 then 45 :: bodyT n d else bodyT n d := by
  have e2 : Lib.itoa d = Lib.decDigits d.natAbs := by
    unfold Lib.itoa
    rw [if_neg (by omega), show d.toNat = d.natAbs by omega]
  unfold txt bodyT
  rw [e2]
  by_cases h : n < 0
  · rw [if_pos h, show Lib.itoa n = 45 :: Lib.decDigits n.natAbs by unfold Lib.itoa; rw [if_pos h]]
    split <;> rfl
  · rw [if_neg h, show Lib.itoa n = Lib.decDigits n.natAbs by unfold Lib.itoa; rw [if_neg h, show n.toNat = n.natAbs by omega]]
theorem rest_txt {n d : Int} (hd : 1 ≤ d) : restS (txt n d) = bodyT n d := by
  rw [txt_body hd]
  by_cases h : n < 0
  · rw [if_pos h]; rfl
  · rw [if_neg h]
    unfold restS
    rw [if_neg]
    unfold bodyT
    split
    · have := dec_head n.natAbs []; rwa [List.append_nil] at this
    · exact dec_head _ _
theorem head_txt {n d : Int} (hd : 1 ≤ d) : (txt n d).head? = some 45 ↔ n < 0 := by
  rw [txt_body hd]
  by_cases h : n < 0
  · rw [if_pos h]; simp [h]
  · rw [if_neg h]
    refine ⟨fun g => absurd g ?_, fun g => absurd g h⟩
    unfold bodyT
    split
    · have := dec_head n.natAbs []; rwa [List.append_nil] at this
    · exact dec_head _ _
theorem slash_body (n d : Int) : slashAt (bodyT n d) = (Lib.decDigits n.natAbs).length := by
  unfold slashAt bodyT
  split
  · rw [take_all _ (dec_ne _ 47 (.inl (by decide)))]
  · rw [take_stop _ _ _ (dec_ne _ 47 (.inl (by decide))) (by decide)]
/-- The text of a valid fraction is read as this fraction. -/
theorem parP_txt {n d : Int} (v : Vld n d) : parP (txt n d) = some (n, d) := by
  have v1 := v.d1; have v2 := v.d2; have v3 := v.n1; have v4 := v.n2
  have a : numP (txt n d) = ((n.natAbs : Int), true) := by
    unfold numP
    rw [rest_txt v1, slash_body]
    have e : (bodyT n d).take (Lib.decDigits n.natAbs).length = Lib.decDigits n.natAbs := by
      unfold bodyT
      split
      · exact List.take_length
      · exact List.take_left
    rw [e]
    exact num_dec _ (by omega)
  have b : denP (txt n d) = (d, true) := by
    unfold denP
    rw [rest_txt v1, slash_body]
    by_cases h : d = 1
    · subst h
      rw [if_neg (by unfold bodyT; rw [if_pos rfl]; omega)]
    · have e : bodyT n d = Lib.decDigits n.natAbs ++ 47 :: Lib.decDigits d.natAbs := if_neg h
      rw [e, if_pos (by rw [List.length_append, List.length_cons]; omega)]
      rw [show (Lib.decDigits n.natAbs ++ 47 :: Lib.decDigits d.natAbs).drop ((Lib.decDigits n.natAbs).length + 1) = Lib.decDigits d.natAbs by simp]
      rw [num_dec _ (by omega), show ((d.natAbs : Nat) : Int) = d by omega]
  have c : signP (txt n d) = n := by
    unfold signP
    rw [a]
    by_cases h : n < 0
    · rw [if_pos ((head_txt v1).2 h)]; show 0 - (n.natAbs : Int) = n; omega
    · rw [if_neg (fun g => h ((head_txt v1).1 g))]; show (n.natAbs : Int) = n; omega
  unfold parP
  rw [a, b, c, if_pos ⟨rfl, rfl, vB_yes v, rfl⟩]
/-- No valid fraction has a text that is not read. -/
theorem parP_none {s : List UInt8} (h : parP s = none) {n d : Int} (v : Vld n d) : txt n d ≠ s := by
  rintro rfl
  rw [parP_txt v] at h
  cases h

theorem slash_le (t : List UInt8) : slashAt t ≤ t.length := by
  unfold slashAt
  exact List.Sublist.length_le (List.takeWhile_sublist _)
theorem slash_before : ∀ (t : List UInt8) (i : Nat), i < slashAt t → ∀ c, t[i]? = some c → c ≠ 47
  | [], i, h, c, hc => by simp at hc
  | x :: r, i, h, c, hc => by
    unfold slashAt at h
    rw [List.takeWhile_cons] at h
    split at h
    · rename_i g
      cases i with
      | zero => simp at hc; subst hc; simpa using g
      | succ i => exact slash_before r i (by unfold slashAt; simpa using h) c (by simpa using hc)
    · simp at h
theorem slash_at : ∀ (t : List UInt8), ∀ c, t[slashAt t]? = some c → c = 47
  | [], c, hc => by simp at hc
  | x :: r, c, hc => by
    unfold slashAt at hc
    rw [List.takeWhile_cons] at hc
    split at hc
    · exact slash_at r c (by unfold slashAt; simpa using hc)
    · rename_i g
      simp at hc
      subst hc
      simpa using g

end Go.Proofs.YtfcplndfoboaaaaDoor
