/- Plain mathematics: a text that is read, and has all digits, is that of its number. Nothing here speaks of Go. -/
import Derived.Test.YtbpcfgeefelfdaaBackMath
import Derived.Lib.IndexLaws
namespace Go.Proofs.Ytbpcfgeefelfdaa

theorem valN_lin : ∀ (l : List UInt8) (a : Nat), valN a l = a * 10 ^ l.length + valN 0 l
  | [], a => by simp [valN_nil]
  | c :: r, a => by
    rw [valN_cons, valN_cons, valN_lin r (10 * a + _), valN_lin r (10 * 0 + _), List.length_cons, Nat.pow_succ, Nat.mul_zero, Nat.zero_add, Nat.add_mul]
    rw [show 10 * a * 10 ^ r.length = a * (10 ^ r.length * 10) from by rw [Nat.mul_comm 10 a, Nat.mul_assoc, Nat.mul_comm 10]]
    omega

theorem lowD_congr {n m : Nat} : ∀ d, (∀ e, e < d → n / 10 ^ e % 10 = m / 10 ^ e % 10) → lowD n d = lowD m d
  | 0, _ => rfl
  | d + 1, h => by
    have hd : dig (n / 10 ^ d) = dig (m / 10 ^ d) := by unfold dig; rw [h d (by omega)]
    rw [lowD, lowD, hd, lowD_congr d (fun e he => h e (by omega))]

theorem lowD_add (q n d : Nat) : lowD (q * 10 ^ d + n) d = lowD n d :=
  lowD_congr d (fun e he => by
    obtain ⟨f, rfl⟩ : ∃ f, d = e + (f + 1) := ⟨d - e - 1, by omega⟩
    have h10 : 0 < 10 ^ e := Nat.pow_pos (by omega)
    rw [Nat.pow_add, Nat.pow_succ, show q * (10 ^ e * (10 ^ f * 10)) = 10 ^ e * (q * 10 ^ f * 10) from by
      rw [Nat.mul_left_comm, Nat.mul_assoc q], Nat.mul_add_div h10]
    omega)

theorem low_val : ∀ (l : List UInt8), (∀ c ∈ l, dg c = true) → lowD (valN 0 l) l.length = l ∧ valN 0 l < 10 ^ l.length
  | [], _ => ⟨rfl, by simp [valN_nil]⟩
  | c :: r, h => by
    obtain ⟨h1, h2⟩ := low_val r (fun x hx => h x (by simp [hx]))
    have hc := dg_rng (h c (by simp))
    have h10 : 0 < 10 ^ r.length := Nat.pow_pos (by omega)
    have hv : valN 0 (c :: r) = (c.toNat - 48) * 10 ^ r.length + valN 0 r := by rw [valN_cons, valN_lin r, Nat.mul_zero, Nat.zero_add]
    have hdiv : valN 0 (c :: r) / 10 ^ r.length = c.toNat - 48 := by
      rw [hv, Nat.mul_comm, Nat.mul_add_div h10, Nat.div_eq_of_lt h2]
      rfl
    have hdg : dig (c.toNat - 48) = c := by
      apply UInt8.toNat_inj.mp
      rw [dig_nat]
      omega
    refine ⟨?_, ?_⟩
    · rw [List.length_cons, lowD, hdiv, hdg, hv, lowD_add, h1]
    · rw [hv, List.length_cons, Nat.pow_succ]
      have : (c.toNat - 48) * 10 ^ r.length ≤ 9 * 10 ^ r.length := Nat.mul_le_mul_right _ (by omega)
      omega

theorem ends_of {l : List UInt8} {k a : Nat} (hd : ∀ c ∈ l, dg c = true) (hl : l.length = a + k) (ha : 0 < a) (hz : ¬ (1 < a ∧ l.head? = some 48)) : Ends (valN 0 l) k l.length := by
  have hlt := (low_val l hd).2
  refine ⟨by omega, Nat.div_eq_of_lt hlt, fun d' h => ?_⟩
  rcases Nat.lt_or_ge k d' with e | e
  · right
    match l, hd, hl, hz, hlt, h with
    | [], _, hl, _, _, h => simp at h
    | c :: r, hd, hl, hz, _, h =>
      have hc := dg_rng (hd c (by simp))
      have hne : ¬ c = 48 := fun e48 => hz ⟨by rw [List.length_cons] at hl h; omega, by rw [e48]; rfl⟩
      have hc49 : c.toNat ≠ 48 := fun e48 => hne (UInt8.toNat_inj.mp e48)
      have h1 : 1 * 10 ^ r.length ≤ (c.toNat - 48) * 10 ^ r.length := Nat.mul_le_mul_right _ (by omega)
      have h2 : valN 0 (c :: r) = (c.toNat - 48) * 10 ^ r.length + valN 0 r := by rw [valN_cons, valN_lin r, Nat.mul_zero, Nat.zero_add]
      have h3 : 10 ^ d' ≤ 10 ^ r.length := Nat.pow_le_pow_right (by omega) (by rw [List.length_cons] at h; omega)
      exact Nat.div_pos (by omega) (Nat.pow_pos (by omega))
  · exact .inl e

theorem index_at {l : List UInt8} {c : UInt8} {k : Nat} (h1 : l[k]? = some c) (h2 : ∀ j, j < k → ¬ l[j]? = some c) : Lib.indexByte l c = k := by
  by_cases h : 0 ≤ Lib.indexByte l c
  · obtain ⟨a, b⟩ := Lib.indexByte_some (l := l) (c := c) (o := (Lib.indexByte l c).toNat) (by omega)
    rcases Nat.lt_trichotomy (Lib.indexByte l c).toNat k with e | e | e
    · exact absurd a (h2 _ e)
    · omega
    · exact absurd h1 (b k e)
  · have hn : Lib.indexByte l c = -1 := by have := Lib.indexByte_ge l c; omega
    exact absurd h1 (Lib.indexByte_none hn k)

theorem index_no {l : List UInt8} {c : UInt8} (h : ∀ x ∈ l, ¬ x = c) : ¬ 0 ≤ Lib.indexByte l c := by
  intro h0
  obtain ⟨a, _⟩ := Lib.indexByte_some (l := l) (c := c) (o := (Lib.indexByte l c).toNat) (by omega)
  exact h c (List.mem_of_getElem? a) rfl

/-- The texts that have a form, and all digits behind the point (or none is asked). -/
theorem back_form {u ds : List UInt8} {k : Nat} (hf : formS u k = some ds) (full : k = 0 ∨ (¬ pre dg u = u.length ∧ u.length = pre dg u + 1 + k)) :
    (∀ c ∈ ds, dg c = true) ∧ Ends (valN 0 ds) k ds.length ∧ body (valN 0 ds) k ds.length = u := by
  unfold formS at hf
  by_cases h0 : pre dg u = 0 ∨ (1 < pre dg u ∧ u.head? = some 48)
  · rw [if_pos h0] at hf; cases hf
  · rw [if_neg h0] at hf
    by_cases h1 : pre dg u = u.length
    · rw [if_pos h1] at hf
      have hk : k = 0 := by
        rcases full with h | h
        · exact h
        · exact absurd h1 h.1
      subst hk
      rw [List.replicate_zero, List.append_nil] at hf
      injection hf with hf
      subst hf
      have hd := pre_all dg u h1
      refine ⟨hd, ends_of (a := u.length) hd rfl (by omega) (by rw [h1] at h0; exact fun h => h0 (.inr h)), ?_⟩
      unfold body
      rw [if_pos (Or.inl rfl), (low_val u hd).1]
    · rw [if_neg h1] at hf
      by_cases h2 : u[pre dg u]? = some 46 ∧ partB (u.drop (pre dg u + 1)) k = true
      · rw [if_pos h2] at hf
        have hp := h2.2
        unfold partB at hp
        simp only [Bool.and_eq_true, decide_eq_true_eq] at hp
        have hpd := hp.1
        unfold dsB at hpd
        simp only [Bool.and_eq_true] at hpd
        have hpall : pre dg (u.drop (pre dg u + 1)) = (u.drop (pre dg u + 1)).length := by simpa using hpd.2
        have hpne : 0 < (u.drop (pre dg u + 1)).length := by
          rcases Nat.eq_zero_or_pos (u.drop (pre dg u + 1)).length with e | e
          · have := List.eq_nil_of_length_eq_zero e; rw [this] at hpd; simp at hpd
          · exact e
        have hpl : (u.drop (pre dg u + 1)).length = k := by
          rcases full with h | h
          · omega
          · rw [List.length_drop]; omega
        have hle := pre_le dg u
        have htl : (u.take (pre dg u)).length = pre dg u := by rw [List.length_take]; omega
        rw [hpl, Nat.sub_self, List.replicate_zero, List.append_nil] at hf
        injection hf with hf
        have hlen : ds.length = pre dg u + k := by rw [← hf, List.length_append, htl, hpl]
        have hd : ∀ c ∈ ds, dg c = true := fun c hc => by
          rw [← hf, List.mem_append] at hc
          rcases hc with hc | hc
          · obtain ⟨j, hj, rfl⟩ := List.getElem_of_mem hc
            rw [htl] at hj
            refine pre_yes dg u j hj _ ?_
            rw [List.getElem_take]
            exact List.getElem?_eq_getElem (by omega)
          · exact pre_all dg _ hpall c hc
        have hhead : ds.head? = u.head? := by
          rw [← hf]
          cases u with
          | nil => simp at hpne
          | cons c r =>
            obtain ⟨q, hq⟩ : ∃ q, pre dg (c :: r) = q + 1 := ⟨pre dg (c :: r) - 1, by omega⟩
            rw [hq]
            rfl
        refine ⟨hd, ends_of (a := pre dg u) hd hlen (by omega) (by rw [hhead]; exact fun h => h0 (.inr h)), ?_⟩
        obtain ⟨hlow, _⟩ := low_val ds hd
        have hdrop := lowD_drop (valN 0 ds) k ds.length (by omega)
        rw [hlow] at hdrop
        unfold body
        rw [if_neg (by omega), hlow, ← hdrop, hlen, Nat.add_sub_cancel]
        have e1 : ds.take (pre dg u) = u.take (pre dg u) := by
          rw [← hf, List.take_append, htl, Nat.sub_self, List.take_zero, List.append_nil, List.take_take, Nat.min_self]
        have e2 : ds.drop (pre dg u) = u.drop (pre dg u + 1) := by
          rw [← hf, List.drop_append, htl, Nat.sub_self, List.drop_eq_nil_of_le (by omega)]
          rfl
        rw [e1, e2]
        have h46 : u.drop (pre dg u) = 46 :: u.drop (pre dg u + 1) := by
          rw [List.drop_eq_getElem_cons (by omega)]
          congr 1
          have := h2.1
          rw [List.getElem?_eq_getElem (by omega)] at this
          injection this
        rw [← h46, List.take_append_drop]
      · rw [if_neg h2] at hf; cases hf

theorem np46 {x : UInt8} (h : dg x = true) : ¬ x = 46 := fun e => by rw [e] at h; revert h; decide

/-- What 'all digits' says of a text that was read, with or without a sign. -/
theorem full_of {s ds : List UInt8} {k : Nat} (hf : formS (unS s) k = some ds) (full : k = 0 ∨ (0 ≤ Lib.indexByte s 46 ∧ (s.length : Int) - Lib.indexByte s 46 - 1 = k)) :
    k = 0 ∨ (¬ pre dg (unS s) = (unS s).length ∧ (unS s).length = pre dg (unS s) + 1 + k) := by
  rcases full with h | ⟨hp, hl⟩
  · exact .inl h
  · have hle := pre_le dg (unS s)
    by_cases hall : pre dg (unS s) = (unS s).length
    · exfalso
      have hd := pre_all dg _ hall
      refine index_no (l := s) (c := 46) (fun x hx => ?_) hp
      unfold unS at hd
      split at hd
      · rename_i h45
        cases s with
        | nil => cases hx
        | cons c r =>
          simp only [List.head?_cons] at h45
          injection h45 with h45
          rcases List.mem_cons.1 hx with e | e
          · rw [e, h45]; decide
          · exact np46 (hd x (by simpa using e))
      · exact np46 (hd x hx)
    · right
      refine ⟨hall, ?_⟩
      have h46 : (unS s)[pre dg (unS s)]? = some 46 := by
        unfold formS at hf
        by_cases h0 : pre dg (unS s) = 0 ∨ (1 < pre dg (unS s) ∧ (unS s).head? = some 48)
        · rw [if_pos h0] at hf; cases hf
        · rw [if_neg h0, if_neg hall] at hf
          by_cases h2 : (unS s)[pre dg (unS s)]? = some 46 ∧ partB ((unS s).drop (pre dg (unS s) + 1)) k = true
          · exact h2.1
          · rw [if_neg h2] at hf; cases hf
      have hbefore : ∀ j, j < pre dg (unS s) → ¬ (unS s)[j]? = some 46 := fun j hj hx => absurd (pre_yes dg (unS s) j hj 46 hx) (by decide)
      by_cases h45 : s.head? = some 45
      · have hu : unS s = s.drop 1 := by unfold unS; rw [if_pos h45]
        cases s with
        | nil => cases h45
        | cons c r =>
          simp only [List.head?_cons] at h45
          injection h45 with h45
          have hu' : unS (c :: r) = r := hu
          rw [hu'] at h46 hbefore hle ⊢
          have hi := index_at (l := c :: r) (c := 46) (k := pre dg r + 1) (by simpa using h46) (fun j hj hx => by
            match j, hx with
            | 0, hx => simp at hx; rw [h45] at hx; revert hx; decide
            | j + 1, hx => exact hbefore j (by omega) (by simpa using hx))
          rw [hi, List.length_cons] at hl
          omega
      · have hu : unS s = s := by unfold unS; rw [if_neg h45]
        rw [hu] at h46 hbefore hle ⊢
        have hi := index_at h46 hbefore
        rw [hi] at hl
        omega

/-- A text that is read, and has all digits, is that of its number, but for a minus sign before zero. -/
theorem back_text {s : List UInt8} {k : Nat} {v : Int} (hp : parseS s k = (v, 0)) (full : k = 0 ∨ (0 ≤ Lib.indexByte s 46 ∧ (s.length : Int) - Lib.indexByte s 46 - 1 = k)) :
    ∃ d, Ends v.natAbs k d ∧ (s = fmtS v k d ∨ (v = 0 ∧ s = 45 :: fmtS v k d)) := by
  unfold parseS at hp
  cases hf : formS (unS s) k with
  | none => rw [hf] at hp; simp at hp
  | some ds =>
    rw [hf] at hp
    simp only at hp
    obtain ⟨hd, he, hb⟩ := back_form hf (full_of hf full)
    have hv := valGo_valN ds 0 hd (by omega)
    rw [Int.natCast_zero] at hv
    by_cases hm : valN 0 ds ≤ 1152921504606846976
    · rw [if_pos hm] at hv
      rw [hv] at hp
      simp only [Prod.mk.injEq, and_true] at hp
      by_cases h45 : s.head? = some 45
      · rw [if_pos h45] at hp
        have hs : s = 45 :: unS s := by
          unfold unS
          rw [if_pos h45]
          cases s with
          | nil => cases h45
          | cons c r => simp only [List.head?_cons] at h45; injection h45 with h45; rw [h45]; rfl
        have hna : v.natAbs = valN 0 ds := by omega
        refine ⟨ds.length, by rw [hna]; exact he, ?_⟩
        by_cases hz : valN 0 ds = 0
        · right
          have hv0 : v = 0 := by omega
          refine ⟨hv0, ?_⟩
          rw [fmtS_pos (by omega), hna, hb]
          exact hs
        · left
          rw [fmtS_neg (by omega), hna, hb]
          exact hs
      · rw [if_neg h45] at hp
        have hu : unS s = s := by unfold unS; rw [if_neg h45]
        have hna : v.natAbs = valN 0 ds := by omega
        refine ⟨ds.length, by rw [hna]; exact he, .inl ?_⟩
        rw [fmtS_pos (by omega), hna, hb, hu]
    · rw [if_neg hm] at hv
      rw [hv] at hp
      simp at hp

/-- With an error the number is zero; without one it fits. -/
theorem parse_err {s : List UInt8} {k : Nat} (h : ¬ (parseS s k).2 = 0) : (parseS s k).1 = 0 := by
  unfold parseS at h ⊢
  cases hf : formS (unS s) k with
  | none => rfl
  | some ds =>
    rw [hf] at h
    simp only at h ⊢
    cases hv : valGo 0 ds with
    | none => rfl
    | some n => rw [hv] at h; simp at h

end Go.Proofs.Ytbpcfgeefelfdaa
