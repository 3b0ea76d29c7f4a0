/- Layer 7: math of packings: the greatest number of parts. -/
import Derived.Test.YtjonhhmapbibaaaDoorUFp
namespace Go.Proofs.YtjonhhmapbibaaaDoor
set_option linter.unusedVariables false

/-- a has no index that s has not. -/
def Sub (a s : Nat) : Prop := a &&& s = a
theorem Sub.bit {a s : Nat} (h : Sub a s) {i : Nat} (hb : a.testBit i = true) : s.testBit i = true := by
  have := Nat.testBit_and a s i
  rw [show a &&& s = a from h, hb] at this
  simpa using this.symm
theorem sub_of {a s : Nat} (h : ∀ i, a.testBit i = true → s.testBit i = true) : Sub a s := Nat.eq_of_testBit_eq fun i => by
  rw [Nat.testBit_and]
  cases hb : a.testBit i with
  | false => rfl
  | true => rw [h i hb]; rfl
theorem Sub.refl (s : Nat) : Sub s s := Nat.and_self s
theorem Sub.trans {a b c : Nat} (h : Sub a b) (k : Sub b c) : Sub a c := sub_of fun i hi => k.bit (h.bit hi)
theorem Sub.le {a s : Nat} (h : Sub a s) : a ≤ s := by rw [← show a &&& s = a from h]; exact Nat.and_le_right
theorem ab_bit {a b : Nat} (ha : a < 65536) (hb : b < 65536) (i : Nat) : (anb a b).testBit i = (a.testBit i && !b.testBit i) := anb_bit (by omega) (by omega) i
theorem cb_bit {s k : Nat} (hs : s < 65536) (hk : k < 64) (i : Nat) : (clrb s k).testBit i = (s.testBit i && decide (i ≠ k)) := clrb_bit (by omega) hk i
theorem anb_sub {a b : Nat} (ha : a < 65536) (hb : b < 65536) : Sub (anb a b) a := sub_of fun i hi => by
  rw [ab_bit ha hb] at hi
  simp at hi
  exact hi.1
theorem bit_lt {s j n : Nat} (hs : s < 2 ^ n) (hb : s.testBit j = true) : j < n := by
  rcases Nat.lt_or_ge j n with h | h
  · exact h
  · rw [Nat.testBit_lt_two_pow (Nat.lt_of_lt_of_le hs (Nat.pow_le_pow_right (by decide) h))] at hb
    cases hb
theorem has_bit {s : Nat} (h : s ≠ 0) : ∃ j, s.testBit j = true := by
  obtain ⟨i, hi⟩ := Nat.exists_testBit_of_ne_zero h
  exact ⟨i, hi⟩

/-- An additive function of sets that is 0 at none. -/
structure AddF (n : Nat) (F : Nat → Int) : Prop where
  zero : F 0 = 0
  add : ∀ s q, s < 2 ^ n → Sub q s → F s = F q + F (anb s q)
theorem smS_add {p q r : Nat → Bool} {f : Nat → Int} : ∀ {n : Nat}, (∀ i, i < n → r i = (p i || q i)) → (∀ i, i < n → (p i && q i) = false) → smS r f n = smS p f n + smS q f n
  | 0, _, _ => rfl
  | n + 1, h, g => by
    unfold smS
    rw [smS_add (fun i hi => h i (by omega)) (fun i hi => g i (by omega)), h n (by omega)]
    have e := g n (by omega)
    generalize smS p f n = x
    generalize smS q f n = y
    cases hp : p n <;> cases hq : q n
    · simp
    · simp; omega
    · simp; omega
    · rw [hp, hq] at e; cases e
theorem smS_addF (n : Nat) (f : Nat → Int) (hn : n ≤ 16) : AddF n (fun s => smS (bitI n s) f n) where
  zero := smS_zero n f
  add s q hs h := by
    have h2 := p2_le hn
    have hq := h.le
    refine smS_add (fun i hi => ?_) (fun i hi => ?_) <;> unfold bitI <;> rw [ab_bit (by omega) (by omega)]
    · cases hb : q.testBit (n - 1 - i) with
      | false => simp
      | true => rw [h.bit hb]; rfl
    · cases hb : q.testBit (n - 1 - i) <;> simp

/-- k parts of a set, without a common index, with the sum 0. -/
def Pk (F : Nat → Int) : Nat → Nat → Prop
  | _, 0 => True
  | s, k + 1 => ∃ q, Sub q s ∧ q ≠ 0 ∧ F q = 0 ∧ Pk F (anb s q) k
theorem anb_mono {a s q : Nat} (hs : s < 65536) (hq : q < 65536) (h : Sub a s) : Sub (anb a q) (anb s q) := sub_of fun i hi => by
  have ha := h.le
  rw [ab_bit (by omega) hq] at hi
  rw [ab_bit hs hq]
  simp at hi ⊢
  exact ⟨h.bit hi.1, hi.2⟩
theorem Pk.mono {F : Nat → Int} : ∀ {k a s : Nat}, s < 65536 → Sub a s → Pk F a k → Pk F s k
  | 0, _, _, _, _, _ => trivial
  | k + 1, a, s, hs, h, ⟨q, h1, h2, h3, h4⟩ => by
    have hqs := h1.trans h
    have hq := hqs.le
    have ha := h.le
    refine ⟨q, hqs, h2, h3, Pk.mono (Nat.lt_of_le_of_lt (anb_le _ _) hs) (anb_mono hs (by omega) h) h4⟩
theorem Pk.ext {F : Nat → Int} {n : Nat} (hn : n ≤ 16) (hF : AddF n F) : ∀ {k a s : Nat}, s < 2 ^ n → Sub a s → a ≠ s → F s = 0 → Pk F a k → Pk F s (k + 1)
  | 0, a, s, hs, h, hne, h0, _ => ⟨s, Sub.refl s, fun e => hne (by
      subst e
      have := h.le
      omega), h0, trivial⟩
  | k + 1, a, s, hs, h, hne, h0, ⟨q, h1, h2, h3, h4⟩ => by
    have h2' := p2_le hn
    have hqs := h1.trans h
    have hq := hqs.le
    have ha := h.le
    have hFa : F (anb s q) = 0 := by
      have := hF.add s q hs hqs
      omega
    refine ⟨q, hqs, h2, h3, Pk.ext hn hF (Nat.lt_of_le_of_lt (anb_le _ _) hs) (anb_mono (by omega) (by omega) h) (fun e => hne ?_) hFa h4⟩
    refine Nat.eq_of_testBit_eq fun i => ?_
    have e1 : (anb a q).testBit i = (anb s q).testBit i := by rw [e]
    rw [ab_bit (by omega) (by omega), ab_bit (by omega) (by omega)] at e1
    cases hb : q.testBit i with
    | true => rw [h1.bit hb, hqs.bit hb]
    | false => rw [hb] at e1; simpa using e1
theorem clrb_anb {s q j : Nat} (hs : s < 65536) (hq : q < 65536) (hj : j < 64) : anb (clrb s j) q = clrb (anb s q) j := by
  have h1 : clrb s j ≤ s := Nat.and_le_left
  have h2 := anb_le s q
  refine Nat.eq_of_testBit_eq fun i => ?_
  rw [ab_bit (by omega) hq, cb_bit hs hj, cb_bit (by omega) hj, ab_bit hs hq]
  cases s.testBit i <;> cases q.testBit i <;> simp
theorem Pk.unc {F : Nat → Int} {n : Nat} (hn : n ≤ 16) (hF : AddF n F) : ∀ {k s : Nat}, s < 2 ^ n → F s ≠ 0 → Pk F s k → ∃ j, s.testBit j = true ∧ Pk F (clrb s j) k
  | 0, s, hs, h0, _ => by
    obtain ⟨j, hj⟩ := has_bit (s := s) (fun e => h0 (by rw [e]; exact hF.zero))
    exact ⟨j, hj, trivial⟩
  | k + 1, s, hs, h0, ⟨q, h1, h2, h3, h4⟩ => by
    have h2' := p2_le hn
    have hq := h1.le
    have hFa : F (anb s q) ≠ 0 := by
      have := hF.add s q hs h1
      omega
    obtain ⟨j, hj, hk⟩ := Pk.unc hn hF (Nat.lt_of_le_of_lt (anb_le _ _) hs) hFa h4
    rw [ab_bit (by omega) (by omega)] at hj
    simp at hj
    have hjn := bit_lt hs hj.1
    refine ⟨j, hj.1, q, sub_of fun i hi => ?_, h2, h3, ?_⟩
    · rw [cb_bit (by omega) (by omega), h1.bit hi]
      have : i ≠ j := fun e => by rw [e] at hi; rw [hi] at hj; simp at hj
      simp [this]
    · rw [clrb_anb (by omega) (by omega) (by omega)]
      exact hk

theorem mxB_ge {g : Nat → Nat} {s j : Nat} (hb : s.testBit j = true) : ∀ {k : Nat}, j < k → g (clrb s j) ≤ mxB g s k
  | k + 1, h => by
    rw [mxB_succ]
    by_cases e : j = k
    · subst e
      rw [if_pos hb]
      exact Nat.le_max_right _ _
    · have := mxB_ge (g := g) hb (k := k) (by omega)
      split
      · exact Nat.le_trans this (Nat.le_max_left _ _)
      · exact this
theorem mxB_at {g : Nat → Nat} {s : Nat} : ∀ {k : Nat}, mxB g s k = 0 ∨ ∃ j, j < k ∧ s.testBit j = true ∧ mxB g s k = g (clrb s j)
  | 0 => .inl rfl
  | k + 1 => by
    rw [mxB_succ]
    have ih := mxB_at (g := g) (s := s) (k := k)
    by_cases hb : s.testBit k = true
    · rw [if_pos hb]
      rcases Nat.le_total (mxB g s k) (g (clrb s k)) with q | q
      · exact .inr ⟨k, by omega, hb, Nat.max_eq_right q⟩
      · rw [Nat.max_eq_left q]
        rcases ih with z | ⟨j, h1, h2, h3⟩
        · exact .inl z
        · exact .inr ⟨j, by omega, h2, h3⟩
    · rw [if_neg hb]
      rcases ih with z | ⟨j, h1, h2, h3⟩
      · exact .inl z
      · exact .inr ⟨j, by omega, h2, h3⟩
theorem clrb_sub {s j : Nat} (hs : s < 65536) (hj : j < 64) : Sub (clrb s j) s := sub_of fun i hi => by
  rw [cb_bit hs hj] at hi
  simp at hi
  exact hi.1
/-- The number of mostParts is reached, and no greater one is. -/
theorem mst_pk {F : Nat → Int} {n : Nat} (hn : n ≤ 16) (hF : AddF n F) : ∀ s, s < 2 ^ n → Pk F s (mst n F s) := by
  have h2 := p2_le hn
  intro s
  induction s using Nat.strongRecOn with
  | ind s ih =>
    intro hs
    by_cases h0 : s = 0
    · subst h0; rw [mst_zero]; trivial
    · rw [mst_step (by omega) (by omega) h0]
      have key : Pk F s (mxB (mst n F) s n) ∧ (F s = 0 → Pk F s (mxB (mst n F) s n + 1)) := by
        rcases mxB_at (g := mst n F) (s := s) (k := n) with e | ⟨j, h1, h2b, h3⟩
        · rw [e]
          exact ⟨trivial, fun hz => ⟨s, Sub.refl s, h0, hz, trivial⟩⟩
        · rw [h3]
          have hl := clrb_lt (s := s) (k := j) (by omega) (by omega) h2b
          have hp := ih _ hl (by omega)
          have hsub := clrb_sub (s := s) (j := j) (by omega) (by omega)
          exact ⟨hp.mono (by omega) hsub, fun hz => hp.ext hn hF hs hsub (by omega) hz⟩
      split
      · rename_i hz; exact key.2 hz
      · exact key.1
theorem mst_max {F : Nat → Int} {n : Nat} (hn : n ≤ 16) (hF : AddF n F) : ∀ s, s < 2 ^ n → ∀ k, Pk F s k → k ≤ mst n F s := by
  have h2 := p2_le hn
  intro s
  induction s using Nat.strongRecOn with
  | ind s ih =>
    intro hs k hk
    cases k with
    | zero => exact Nat.zero_le _
    | succ k =>
      obtain ⟨q, h1, h2q, h3, h4⟩ := hk
      have h0 : s ≠ 0 := fun e => by
        have := h1.le
        omega
      have hq := h1.le
      rw [mst_step (by omega) (by omega) h0]
      by_cases hz : F s = 0
      · rw [if_pos hz]
        obtain ⟨j, hj⟩ := has_bit h2q
        have hjs := h1.bit hj
        have hjn := bit_lt hs hjs
        have hl := clrb_lt (s := s) (k := j) (by omega) (by omega) hjs
        have hs2 : Sub (anb s q) (clrb s j) := sub_of fun i hi => by
          rw [ab_bit (by omega) (by omega)] at hi
          rw [cb_bit (by omega) (by omega)]
          simp at hi
          have : i ≠ j := fun e => by rw [e, hj] at hi; simp at hi
          simp [hi.1, this]
        have := ih _ hl (by omega) k (h4.mono (by omega) hs2)
        have := mxB_ge (g := mst n F) hjs hjn
        omega
      · rw [if_neg hz, Nat.add_zero]
        obtain ⟨j, hj, hk⟩ := Pk.unc hn hF hs hz (k := k + 1) ⟨q, h1, h2q, h3, h4⟩
        have hjn := bit_lt hs hj
        have hl := clrb_lt (s := s) (k := j) (by omega) (by omega) hj
        exact Nat.le_trans (ih _ hl (by omega) _ hk) (mxB_ge hj hjn)
/-- There is a part that may be taken. -/
theorem fp_ex {F : Nat → Int} {n left : Nat} (hn : n ≤ 16) (hF : AddF n F) (hl : left < 2 ^ n) (h0 : left ≠ 0) (hz : F left = 0) : ∃ q, q &&& left = q ∧ FpC F (fun s => (mst n F s : Int)) left q := by
  have h2 := p2_le hn
  have hp := mst_pk hn hF left hl
  have h1 : 1 ≤ mst n F left := mst_max hn hF left hl 1 ⟨left, Sub.refl left, h0, hz, trivial⟩
  obtain ⟨K, hK⟩ : ∃ K, mst n F left = K + 1 := ⟨mst n F left - 1, by omega⟩
  rw [hK] at hp
  obtain ⟨q, h3, h4, h5, h6⟩ := hp
  have hal := Nat.lt_of_le_of_lt (anb_le left q) hl
  have a1 := mst_max hn hF _ hal K h6
  have a2 := mst_max hn hF left hl (mst n F (anb left q) + 1) ⟨q, h3, h4, h5, mst_pk hn hF _ hal⟩
  refine ⟨q, h3, h5, ?_⟩
  show ((mst n F (anb left q) : Nat) : Int) = ((mst n F left : Nat) : Int) - 1
  omega
end Go.Proofs.YtjonhhmapbibaaaDoor
