/- Plain mathematics: what is read from the decimal text of a number, and what text a number that was read has. Nothing here speaks of Go. -/
import Derived.Test.YtbpcfgeefelfdaaParMath
import Derived.Test.YtbpcfgeefelfdaaFmtMath
namespace Go.Proofs.Ytbpcfgeefelfdaa

def stepN (a : Nat) (c : UInt8) : Nat := 10 * a + (c.toNat - 48)
def valN (a : Nat) (l : List UInt8) : Nat := l.foldl stepN a
theorem valN_nil (a : Nat) : valN a [] = a := rfl
theorem valN_step (a : Nat) (c : UInt8) (r : List UInt8) : valN a (c :: r) = valN (stepN a c) r := by unfold valN; rw [List.foldl_cons]

theorem valN_cons (a : Nat) (c : UInt8) (r : List UInt8) : valN a (c :: r) = valN (10 * a + (c.toNat - 48)) r := by rw [valN_step, stepN]

theorem dg_rng {c : UInt8} (h : dg c = true) : 48 ≤ c.toNat ∧ c.toNat ≤ 57 := by
  unfold dg digB at h
  simp at h
  omega

theorem valN_ge : ∀ (l : List UInt8) (a : Nat), a ≤ valN a l
  | [], a => Nat.le_refl a
  | c :: r, a => by
    have := valN_ge r (10 * a + (c.toNat - 48))
    rw [valN_cons]
    omega

theorem valN_app : ∀ (l m : List UInt8) (a : Nat), valN a (l ++ m) = valN (valN a l) m
  | [], _, _ => rfl
  | c :: r, m, a => by rw [List.cons_append, valN_cons, valN_cons, valN_app r m]

theorem valGo_valN : ∀ (l : List UInt8) (a : Nat), (∀ c ∈ l, dg c = true) → a ≤ 1152921504606846976 →
    valGo (a : Int) l = if valN a l ≤ 1152921504606846976 then some ((valN a l : Nat) : Int) else none
  | [], a, _, ha => by
    rw [valN_nil, if_pos ha]
    rfl
  | c :: r, a, hd, ha => by
    have hc := dg_rng (hd c (by simp))
    have hv : dv c = ((c.toNat - 48 : Nat) : Int) := by unfold dv; omega
    rw [valN_cons, valGo, hv]
    have hge := valN_ge r (10 * a + (c.toNat - 48))
    by_cases hb : (1152921504606846976 - ((c.toNat - 48 : Nat) : Int)) / 10 < (a : Int)
    · rw [if_pos hb, if_neg (by omega)]
    · rw [if_neg hb]
      have := valGo_valN r (10 * a + (c.toNat - 48)) (fun x hx => hd x (by simp [hx])) (by omega)
      rw [← this]
      congr 1

theorem dig_nat (m : Nat) : (dig m).toNat = 48 + m % 10 := by
  have := dig_int m
  omega

theorem dig_dg (m : Nat) : dg (dig m) = true := by
  have h := dig_nat m
  unfold dg digB
  simp
  omega

theorem lowD_dg (n : Nat) : ∀ d, ∀ c ∈ lowD n d, dg c = true
  | 0, c, h => by simp [lowD] at h
  | d + 1, c, h => by
    simp only [lowD, List.mem_cons] at h
    rcases h with rfl | h
    · exact dig_dg _
    · exact lowD_dg n d c h

theorem valN_lowD (n : Nat) : ∀ (d a : Nat), valN a (lowD n d) = a * 10 ^ d + n % 10 ^ d
  | 0, a => by simp [lowD, valN_nil, Nat.mod_one]
  | d + 1, a => by
    rw [lowD, valN_cons, dig_nat, valN_lowD n d, Nat.mod_pow_succ, Nat.pow_succ, show 48 + n / 10 ^ d % 10 - 48 = n / 10 ^ d % 10 from by omega, Nat.add_mul]
    rw [show 10 * a * 10 ^ d = a * (10 ^ d * 10) from by rw [Nat.mul_comm 10 a, Nat.mul_assoc, Nat.mul_comm 10]]
    rw [Nat.mul_comm (n / 10 ^ d % 10)]
    omega

theorem valN_rep : ∀ (r a : Nat), valN a (List.replicate r 48) = a * 10 ^ r
  | 0, a => by simp [valN_nil]
  | r + 1, a => by
    have h48 : (48 : UInt8).toNat = 48 := rfl
    rw [List.replicate_succ, valN_cons, h48, valN_rep r, Nat.pow_succ, show 10 * a + (48 - 48) = a * 10 from by omega, Nat.mul_assoc, Nat.mul_comm 10]

theorem mod_lt_ends {n k d : Nat} (h : Ends n k d) : n % 10 ^ d = n := by
  have := h.none
  refine Nat.mod_eq_of_lt ?_
  rcases Nat.lt_or_ge n (10 ^ d) with e | e
  · exact e
  · have := Nat.div_pos e (Nat.pos_of_ne_zero (by simp : 10 ^ d ≠ 0)); omega

/-- The value of the digits of n, with r zeros behind them. -/
theorem val_text {n k d : Nat} (h : Ends n k d) (r : Nat) : valGo 0 (lowD n d ++ List.replicate r 48) = if n * 10 ^ r ≤ 1152921504606846976 then some ((n * 10 ^ r : Nat) : Int) else none := by
  have := valGo_valN (lowD n d ++ List.replicate r 48) 0 (fun c hc => by
    rw [List.mem_append] at hc
    rcases hc with hc | hc
    · exact lowD_dg n d c hc
    · obtain ⟨_, rfl⟩ := List.mem_replicate.1 hc; exact dg_48) (by omega)
  rw [valN_app, valN_lowD, valN_rep, mod_lt_ends h, Nat.zero_mul, Nat.zero_add, Int.natCast_zero] at this
  exact this

theorem head_low (n d : Nat) : (lowD n (d + 1)).head? = some (dig (n / 10 ^ d)) := rfl

/-- The first digit is no zero where there are more than are needed before the point. -/
theorem head_ends {n k d : Nat} (h : Ends n k d) (hd : k + 1 < d) : ¬ (lowD n d).head? = some 48 := by
  obtain ⟨e, rfl⟩ : ∃ e, d = e + 1 := ⟨d - 1, by omega⟩
  rw [head_low]
  intro hh
  injection hh with hh
  have h1 := dig_nat (n / 10 ^ e)
  rw [hh] at h1
  have h2 := h.need e (by omega)
  have h3 : n / 10 ^ e / 10 = 0 := by rw [div_step]; exact h.none
  have h4 : (48 : UInt8).toNat = 48 := rfl
  omega

theorem pre_app (p : UInt8 → Bool) (l : List UInt8) (c : UInt8) (r : List UInt8) (hl : ∀ x ∈ l, p x = true) (hc : p c = false) : pre p (l ++ c :: r) = l.length :=
  pre_eq p _ _ (by simp) (fun j hj x hx => by rw [List.getElem?_append_left hj] at hx; exact hl x (List.mem_of_getElem? hx))
    (fun x hx => by rw [List.getElem?_append_right (Nat.le_refl _)] at hx; simp at hx; rw [← hx]; exact hc)

theorem dsB_all {l : List UInt8} (h0 : l ≠ []) (h : ∀ c ∈ l, dg c = true) : dsB l = true := by
  unfold dsB
  rw [pre_of_all dg l h, List.isEmpty_eq_false_iff.mpr h0]
  simp

/-- The form of a decimal text. -/
theorem form_body {n k d j : Nat} (h : Ends n k d) (hj : k ≤ j) : formS (body n k d) j = some (lowD n d ++ List.replicate (j - k) 48) := by
  have hkd := h.more
  have hlen := lowD_len n d
  have hlk := lowD_len n k
  by_cases hk : k = 0
  · subst hk
    have hb : body n 0 d = lowD n d := by unfold body; rw [if_pos (Or.inl rfl)]
    have hp := pre_of_all dg _ (lowD_dg n d)
    rw [hb]
    unfold formS
    rw [hp, hlen, if_neg (by
      rintro (e | ⟨e1, e2⟩)
      · omega
      · exact head_ends h (by omega) e2), if_pos rfl]
    rfl
  · have hb : body n k d = (lowD n d).take (d - k) ++ 46 :: lowD n k := by unfold body; rw [if_neg (by omega)]
    have htl : ((lowD n d).take (d - k)).length = d - k := by rw [List.length_take, hlen]; omega
    have hp : pre dg (body n k d) = d - k := by
      rw [hb, pre_app dg _ 46 _ (fun x hx => lowD_dg n d x (List.mem_of_mem_take hx)) dg_46, htl]
    have hdrop : (body n k d).drop (d - k + 1) = lowD n k := by
      rw [hb, List.drop_append, htl, List.drop_eq_nil_of_le (by omega)]
      rw [show d - k + 1 - (d - k) = 1 from by omega]
      rfl
    have htake : (body n k d).take (d - k) = (lowD n d).take (d - k) := by
      rw [hb, List.take_append, htl, Nat.sub_self, List.take_zero, List.append_nil, List.take_take, Nat.min_self]
    have hget : (body n k d)[d - k]? = some 46 := by
      rw [hb, List.getElem?_append_right (by omega), htl, Nat.sub_self]
      rfl
    have hhead : (body n k d).head? = (lowD n d).head? := by
      rw [hb]
      obtain ⟨e, rfl⟩ : ∃ e, d = e + 1 := ⟨d - 1, by omega⟩
      obtain ⟨f, hf⟩ : ∃ f, e + 1 - k = f + 1 := ⟨e - k, by omega⟩
      rw [hf]
      rfl
    have hbl : (body n k d).length = d + 1 := by rw [body_len, if_neg (by omega)]
    have hne : lowD n k ≠ [] := fun e => by rw [e] at hlk; simp at hlk; omega
    have hpart : partB (lowD n k) j = true := by
      unfold partB
      rw [dsB_all hne (lowD_dg n k), hlk]
      simpa using hj
    unfold formS
    rw [hp, hbl, hdrop, htake, hget, hhead, hlk, if_neg (by
      rintro (e | ⟨e1, e2⟩)
      · omega
      · exact head_ends h (by omega) e2), if_neg (by omega), if_pos ⟨rfl, hpart⟩]
    congr 2
    have := List.take_append_drop (d - k) (lowD n d)
    rw [lowD_drop n k d (by omega)] at this
    exact this

theorem body_head {n k d : Nat} (h : Ends n k d) : ¬ (body n k d).head? = some 45 := by
  have hkd := h.more
  have hd : ∀ c, (lowD n d).head? = some c → dg c = true := fun c hc => lowD_dg n d c (List.mem_of_mem_head? hc)
  intro hh
  have : (lowD n d).head? = some 45 := by
    unfold body at hh
    split at hh
    · exact hh
    · obtain ⟨e, rfl⟩ : ∃ e, d = e + 1 := ⟨d - 1, by omega⟩
      obtain ⟨f, hf⟩ : ∃ f, e + 1 - k = f + 1 := ⟨e - k, by omega⟩
      rw [hf] at hh
      exact hh
  exact absurd (hd 45 this) (by decide)

def resN (neg : Bool) : Option Int → Int × Int
  | none => (0, 5)
  | some n => (if neg then -n else n, 0)

theorem parse_neg {l ds : List UInt8} {j : Nat} (hf : formS l j = some ds) : parseS (45 :: l) j = resN true (valGo 0 ds) := by
  have hu : unS (45 :: l) = l := rfl
  unfold parseS
  rw [hu, hf]
  cases h : valGo 0 ds <;> simp [resN, h]

theorem parse_pos {l ds : List UInt8} {j : Nat} (hh : ¬ l.head? = some 45) (hf : formS l j = some ds) : parseS l j = resN false (valGo 0 ds) := by
  have hu : unS l = l := by unfold unS; rw [if_neg hh]
  unfold parseS
  rw [hu, hf]
  cases h : valGo 0 ds <;> simp [resN, h, hh]

/-- What is read from the decimal text of n, with j digits behind the point. -/
theorem parse_fmt {n : Int} {k d j : Nat} (h : Ends n.natAbs k d) (hj : k ≤ j) :
    parseS (fmtS n k d) j = if n.natAbs * 10 ^ (j - k) ≤ 1152921504606846976 then (n * ((10 ^ (j - k) : Nat) : Int), 0) else (0, 5) := by
  have hv := val_text h (j - k)
  have hf := form_body h hj
  by_cases hn : n < 0
  · rw [fmtS_neg hn, parse_neg hf, hv]
    by_cases hb : n.natAbs * 10 ^ (j - k) ≤ 1152921504606846976
    · rw [if_pos hb, if_pos hb]
      simp only [resN, if_true]
      rw [Int.natCast_mul, ← Int.neg_mul, show -((n.natAbs : Nat) : Int) = n from by omega]
    · rw [if_neg hb, if_neg hb]; rfl
  · rw [fmtS_pos hn, parse_pos (body_head h) hf, hv]
    by_cases hb : n.natAbs * 10 ^ (j - k) ≤ 1152921504606846976
    · rw [if_pos hb, if_pos hb]
      simp only [resN, Bool.false_eq_true, if_false]
      rw [Int.natCast_mul, show ((n.natAbs : Nat) : Int) = n from by omega]
    · rw [if_neg hb, if_neg hb]; rfl

end Go.Proofs.Ytbpcfgeefelfdaa
