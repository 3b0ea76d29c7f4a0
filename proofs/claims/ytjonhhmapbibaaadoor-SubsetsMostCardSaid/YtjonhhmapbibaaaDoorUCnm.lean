/- Layer 7: what the reference counts is the most parts. -/
import Derived.Test.YtjonhhmapbibaaaDoorUCnt
namespace Go.Proofs.YtjonhhmapbibaaaDoor
open Go.ChangeShapes Go.WideShapes Go.ChangeAt Go.RowKit Go.Joins Go.Deep Go.Shelf
set_option linter.unusedVariables false

theorem sub_half {q s : Nat} (h : Sub q s) : Sub (q / 2) (s / 2) := sub_of fun i hi => by
  rw [← Nat.testBit_succ] at hi ⊢
  exact h.bit hi
theorem sub_minus : ∀ (s q : Nat), Sub q s → s < 65536 → s - q = anb s q := by
  intro s
  induction s using Nat.strongRecOn with
  | ind s ih =>
    intro q h hs
    have hle := h.le
    by_cases h0 : s = 0
    · subst h0
      unfold anb
      simp
    · have i1 := ih (s / 2) (by omega) (q / 2) (sub_half h) (by omega)
      have hb : q % 2 = 1 → s % 2 = 1 := fun e => by
        have := h.bit (i := 0) (by rw [Nat.testBit_zero]; simp [e])
        rw [Nat.testBit_zero] at this
        simpa using this
      have e2 : anb s q / 2 = anb (s / 2) (q / 2) := Nat.eq_of_testBit_eq fun i => by
        rw [← Nat.testBit_succ, ab_bit hs (by omega), ab_bit (by omega) (by omega), Nat.testBit_succ, Nat.testBit_succ]
      have e0 : anb s q % 2 = (s - q) % 2 := by
        have := ab_bit (a := s) (b := q) hs (by omega) 0
        rw [Nat.testBit_zero, Nat.testBit_zero, Nat.testBit_zero] at this
        rcases Nat.mod_two_eq_zero_or_one s with a | a <;> rcases Nat.mod_two_eq_zero_or_one q with b | b <;> rw [a, b] at this <;> simp at this <;> first | omega | (have := hb b; omega)
      have e3 : (s - q) / 2 = s / 2 - q / 2 := by
        rcases Nat.mod_two_eq_zero_or_one q with b | b
        · omega
        · have := hb b; omega
      omega
theorem Pt_pk {F : Nat → Int} : ∀ {j s : Nat}, s < 65536 → Pt F s j → Pk F s j
  | 0, _, _, _ => trivial
  | j + 1, s, hs, h => by
    obtain ⟨q, hq, hp⟩ := h
    rw [sub_minus s q hq.1 hs] at hp
    exact ⟨q, hq.1, by have := hq.pos; omega, hq.2.2, Pt_pk (Nat.lt_of_le_of_lt (anb_le _ _) hs) hp⟩
theorem low_in {s q : Nat} (h0 : 0 < s) (hs : s < 65536) : q &&& lowS s ≠ 0 ↔ ∃ t, LowB 64 s t ∧ q.testBit t = true := by
  obtain ⟨t, ht⟩ := low_tz (n := 64) h0 (by omega) (by decide)
  have e : lowS s = 2 ^ t := ht.low
  rw [e]
  constructor
  · intro h
    refine ⟨t, ht, ?_⟩
    obtain ⟨i, hi⟩ := has_bit h
    rw [Nat.testBit_and, Nat.testBit_two_pow] at hi
    simp at hi
    rw [hi.2]; exact hi.1
  · rintro ⟨t', ht', hb⟩ h
    have et : t' = t := by
      rcases Nat.lt_trichotomy t' t with l | l | l
      · have := ht.off t' l; rw [ht'.on] at this; cases this
      · exact l
      · have := ht'.off t l; rw [ht.on] at this; cases this
    have : (q &&& 2 ^ t).testBit t = true := by rw [Nat.testBit_and, ← et, hb, Nat.testBit_two_pow]; simp
    rw [h] at this; simp at this
theorem Pk.front {F : Nat → Int} {n : Nat} (hn : n ≤ 16) (hF : AddF n F) : ∀ {k s : Nat}, s < 2 ^ n → s ≠ 0 → F s = 0 → Pk F s k → ∃ q, Qt F s q ∧ Pk F (anb s q) (k - 1)
  | 0, s, hs, h0, hz, _ => by
    have h2 := p2_le hn
    obtain ⟨t, ht⟩ := low_tz (n := 64) (s := s) (by omega) (by omega) (by decide)
    exact ⟨s, ⟨Nat.and_self s, (low_in (by omega) (by omega)).2 ⟨t, ht, ht.on⟩, hz⟩, trivial⟩
  | k + 1, s, hs, h0, hz, ⟨q1, h1, h2, h3, h4⟩ => by
    have h2' := p2_le hn
    have hq1 := h1.le
    obtain ⟨t, ht⟩ := low_tz (n := 64) (s := s) (by omega) (by omega) (by decide)
    cases hb : q1.testBit t with
    | true => exact ⟨q1, ⟨h1, (low_in (by omega) (by omega)).2 ⟨t, ht, hb⟩, h3⟩, h4⟩
    | false =>
      have hs1 : anb s q1 < 2 ^ n := Nat.lt_of_le_of_lt (anb_le _ _) hs
      have hb1 : (anb s q1).testBit t = true := by rw [ab_bit (by omega) (by omega), ht.on, hb]; rfl
      have hne : anb s q1 ≠ 0 := fun e => by rw [e] at hb1; simp at hb1
      have hz1 : F (anb s q1) = 0 := by have := hF.add s q1 hs h1; omega
      obtain ⟨q, hq, hp⟩ := Pk.front hn hF hs1 hne hz1 h4
      have hqs : Sub q s := Sub.trans hq.1 (anb_sub (by omega) (by omega))
      have hql := hqs.le
      obtain ⟨t', ht', hbt⟩ := (low_in (by omega) (by omega)).1 hq.2.1
      have et : t' = t := by
        rcases Nat.lt_trichotomy t' t with l | l | l
        · have := ht.off t' l
          have h5 := ht'.on
          rw [ab_bit (by omega) (by omega), this] at h5; cases h5
        · exact l
        · have := ht'.off t l; rw [hb1] at this; cases this
      refine ⟨q, ⟨hqs, (low_in (by omega) (by omega)).2 ⟨t, ht, by rw [← et]; exact hbt⟩, hq.2.2⟩, ?_⟩
      cases k with
      | zero => trivial
      | succ k =>
        have hd : ∀ i, q.testBit i = true → q1.testBit i = false := fun i hi => by
          have := Sub.bit hq.1 hi
          rw [ab_bit (by omega) (by omega)] at this
          simp at this
          exact this.2
        refine ⟨q1, sub_of fun i hi => ?_, h2, h3, ?_⟩
        · rw [ab_bit (by omega) (by omega), h1.bit hi]
          cases hqi : q.testBit i with
          | true => rw [hd i hqi] at hi; cases hi
          | false => rfl
        · have e : anb (anb s q) q1 = anb (anb s q1) q := Nat.eq_of_testBit_eq fun i => by
            have l1 := anb_le s q
            have l2 := anb_le s q1
            rw [ab_bit (by omega) (by omega), ab_bit (by omega) (by omega), ab_bit (by omega) (by omega), ab_bit (by omega) (by omega)]
            cases s.testBit i <;> cases q.testBit i <;> cases q1.testBit i <;> rfl
          rw [e]; exact hp
theorem Pk_pt {F : Nat → Int} {n : Nat} (hn : n ≤ 16) (hF : AddF n F) : ∀ s, s < 2 ^ n → F s = 0 → ∀ k, Pk F s k → ∃ j, k ≤ j ∧ Pt F s j := by
  intro s
  induction s using Nat.strongRecOn with
  | ind s ih =>
    intro hs hz k hk
    have h2' := p2_le hn
    by_cases h0 : s = 0
    · refine ⟨0, ?_, h0⟩
      cases k with
      | zero => omega
      | succ k =>
        obtain ⟨q, h1, h2, _⟩ := hk
        have := h1.le; omega
    · obtain ⟨q, hq, hp⟩ := Pk.front hn hF hs h0 hz hk
      have hql := hq.le
      have hqp := hq.pos
      have em := sub_minus s q hq.1 (by omega)
      have hz1 : F (anb s q) = 0 := by have := hF.add s q hs hq.1; have := hq.2.2; omega
      obtain ⟨j, hj, hpt⟩ := ih (anb s q) (by omega) (by omega) hz1 _ hp
      exact ⟨j + 1, by omega, q, hq, by rw [em]; exact hpt⟩
/-- What is counted of a set whose sum is 0 is the most parts that it holds. -/
theorem IsCnt.mst {F : Nat → Int} {n s : Nat} {c : Int} (hn : n ≤ 16) (hF : AddF n F) (hs : s < 2 ^ n) (hz : F s = 0) (h : IsCnt F s c) : c = (mst n F s : Nat) := by
  have h2' := p2_le hn
  obtain ⟨j, hj, hp⟩ := Pk_pt hn hF s hs hz _ (mst_pk hn hF s hs)
  have hm := mst_max hn hF s hs j (Pt_pk (by omega) hp)
  rcases h with ⟨_, hno⟩ | ⟨i, e, hi, hmax⟩
  · exact absurd hp (hno j)
  · have a := hmax j hp
    have b := mst_max hn hF s hs i (Pt_pk (by omega) hi)
    omega
end Go.Proofs.YtjonhhmapbibaaaDoor
