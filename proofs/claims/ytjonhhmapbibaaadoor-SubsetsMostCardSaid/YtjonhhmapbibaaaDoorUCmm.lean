/- Layer 7: the reference's parts and Parts' parts: sets mirrored. -/
import Derived.Test.YtjonhhmapbibaaaDoorUCnm
import Derived.Test.YtjonhhmapbibaaaDoorUOrdM
import Derived.Test.YtjonhhmapbibaaaDoorURFst
namespace Go.Proofs.YtjonhhmapbibaaaDoor
open Go.ChangeShapes Go.WideShapes Go.ChangeAt Go.RowKit Go.Joins Go.Deep Go.Shelf
set_option linter.unusedVariables false

theorem top_bit {n s : Nat} (h : s < 2 ^ n * 2) : s.testBit n = decide (2 ^ n ≤ s) := by
  rw [Nat.testBit_eq_decide_div_mod_eq]
  refine decide_eq_decide.2 ⟨fun q => ?_, fun q => ?_⟩
  · rcases Nat.lt_or_ge s (2 ^ n) with z | z
    · rw [Nat.div_eq_of_lt z] at q; omega
    · exact z
  · have : s / 2 ^ n = 1 := by
      rw [Nat.div_eq_iff (Nat.two_pow_pos n)]; omega
    rw [this]
/-- The greater number comes first, but where the lesser one lies in it. -/
theorem num_earl : ∀ (n s t : Nat), s < 2 ^ n → t < 2 ^ n → t < s → earl (ixs (bitI n s) n) (ixs (bitI n t) n) = true ∨ Sub t s
  | 0, s, t, h, _, k => by simp at h; omega
  | n + 1, s, t, h, g, k => by
    rw [ixs_succ, ixs_succ]
    rw [Nat.pow_succ] at h g
    have ms := Nat.mod_lt s (Nat.two_pow_pos n)
    have mt := Nat.mod_lt t (Nat.two_pow_pos n)
    have bs := top_bit h
    have bt := top_bit g
    have lift : Sub (t % 2 ^ n) (s % 2 ^ n) → (t.testBit n = true → s.testBit n = true) → Sub t s := fun hs hb => sub_of fun i hi => by
      rcases Nat.lt_trichotomy i n with z | z | z
      · have := hs.bit (i := i) (by rw [Nat.testBit_mod_two_pow, decide_eq_true z]; exact hi)
        rw [Nat.testBit_mod_two_pow, decide_eq_true z] at this
        exact this
      · subst z; exact hb hi
      · rw [Nat.testBit_lt_two_pow (Nat.lt_of_lt_of_le (show t < 2 ^ (n + 1) by rw [Nat.pow_succ]; exact g) (Nat.pow_le_pow_right (by decide) (by omega)))] at hi
        cases hi
    by_cases p : 2 ^ n ≤ s <;> by_cases q : 2 ^ n ≤ t
    · rw [bs, bt, if_pos (decide_eq_true p), if_pos (decide_eq_true q)]
      simp only [List.cons_append, List.nil_append]
      unfold earl
      rw [if_pos rfl, earl_succ]
      refine (num_earl n _ _ ms mt ?_).imp id (fun hs => lift hs (fun _ => by rw [bs]; exact decide_eq_true p))
      rw [Nat.mod_eq_sub_mod p, Nat.mod_eq_of_lt (show s - 2 ^ n < 2 ^ n by omega), Nat.mod_eq_sub_mod q, Nat.mod_eq_of_lt (show t - 2 ^ n < 2 ^ n by omega)]
      omega
    · by_cases h0 : t = 0
      · subst h0; exact .inr (sub_of fun i hi => by simp at hi)
      · rw [bs, bt, if_pos (decide_eq_true p), if_neg (by simpa using q)]
        simp only [List.cons_append, List.nil_append]
        refine .inl ?_
        cases hx : ixs (bitI n (t % 2 ^ n)) n with
        | nil =>
          exfalso
          rw [Nat.mod_eq_of_lt (show t < 2 ^ n by omega)] at hx
          have := ixs_pos (n := n) (s := t) (by omega) h0
          rw [hx] at this; simp at this
        | cons a l =>
          simp only [List.map_cons]
          unfold earl
          rw [if_neg (by omega)]
          exact decide_eq_true (by omega)
    · omega
    · rw [bs, bt, if_neg (by simpa using p), if_neg (by simpa using q)]
      simp only [List.nil_append]
      rw [earl_succ]
      refine (num_earl n _ _ ms mt ?_).imp id (fun hs => lift hs (fun e => by rw [bt] at e; exact absurd (of_decide_eq_true e) q))
      rw [Nat.mod_eq_of_lt (show s < 2 ^ n by omega), Nat.mod_eq_of_lt (show t < 2 ^ n by omega)]
      exact k
theorem smS_addR (n : Nat) (f : Nat → Int) (hn : n ≤ 16) : AddF n (fun s => smS (bitR s) f n) where
  zero := by
    have := smS_zero n f
    refine (smS_congr fun i hi => ?_).trans this
    unfold bitR bitI; simp
  add s q hs h := by
    have h2 := p2_le hn
    have hq := h.le
    refine smS_add (fun i hi => ?_) (fun i hi => ?_) <;> unfold bitR <;> rw [ab_bit (by omega) (by omega)]
    · cases hb : q.testBit i with
      | false => simp
      | true => rw [h.bit hb]; rfl
    · cases hb : q.testBit i <;> simp
theorem bitI_rv {n s i : Nat} (hi : i < n) : bitI n (rv n s) i = bitR s i := by
  unfold bitI bitR
  rw [rv_bit _ _ _ (by omega)]
  congr 1
  omega
theorem F_rv (n s : Nat) (f : Nat → Int) : smS (bitI n (rv n s)) f n = smS (bitR s) f n := smS_congr fun i hi => bitI_rv hi
theorem LR_rv (n s : Nat) : ixs (bitI n (rv n s)) n = LR n s := ixs_congr fun i hi => bitI_rv hi
theorem rv_rv {n s : Nat} (hs : s < 2 ^ n) : rv n (rv n s) = s := Nat.eq_of_testBit_eq fun i => by
  rcases Nat.lt_or_ge i n with z | z
  · rw [rv_bit _ _ _ z, rv_bit _ _ _ (by omega)]; congr 1; omega
  · rw [rv_hi _ _ _ z, Nat.testBit_lt_two_pow (Nat.lt_of_lt_of_le hs (Nat.pow_le_pow_right (by decide) z))]
theorem sub_rv {n q s : Nat} (h : Sub q s) : Sub (rv n q) (rv n s) := sub_of fun i hi => by
  rcases Nat.lt_or_ge i n with z | z
  · rw [rv_bit _ _ _ z] at hi ⊢; exact h.bit hi
  · rw [rv_hi _ _ _ z] at hi; cases hi
theorem anb_rv {n q s : Nat} (hn : n ≤ 16) (hs : s < 2 ^ n) (hq : q < 2 ^ n) : rv n (anb s q) = anb (rv n s) (rv n q) := by
  have h2 := p2_le hn
  have l1 := rv_lt n s
  have l2 := rv_lt n q
  refine Nat.eq_of_testBit_eq fun i => ?_
  rw [ab_bit (by omega) (by omega)]
  rcases Nat.lt_or_ge i n with z | z
  · rw [rv_bit _ _ _ z, rv_bit _ _ _ z, rv_bit _ _ _ z, ab_bit (by omega) (by omega)]
  · rw [rv_hi _ _ _ z, rv_hi _ _ _ z]; rfl
theorem ne_rv {n q : Nat} (hq : q < 2 ^ n) (h0 : q ≠ 0) : rv n q ≠ 0 := fun e => by
  have := rv_rv hq
  rw [e] at this
  obtain ⟨j, hj⟩ := has_bit h0
  rw [← this] at hj
  rcases Nat.lt_or_ge j n with z | z
  · rw [rv_bit _ _ _ z] at hj; simp at hj
  · rw [rv_hi _ _ _ z] at hj; cases hj
theorem pk_rv {n : Nat} {F G : Nat → Int} (hn : n ≤ 16) (h : ∀ q, q < 2 ^ n → F q = 0 → G (rv n q) = 0) : ∀ {k s : Nat}, s < 2 ^ n → Pk F s k → Pk G (rv n s) k
  | 0, _, _, _ => trivial
  | k + 1, s, hs, ⟨q, h1, h2, h3, h4⟩ => by
    have hq := h1.le
    refine ⟨rv n q, sub_rv h1, ne_rv (by omega) h2, h q (by omega) h3, ?_⟩
    rw [← anb_rv hn hs (by omega)]
    exact pk_rv hn h (Nat.lt_of_le_of_lt (anb_le _ _) hs) h4
/-- The most parts of a set are those of the mirrored one. -/
theorem mst_rv {n s : Nat} {f : Nat → Int} (hn : n ≤ 16) (hs : s < 2 ^ n) : mst n (fun s => smS (bitI n s) f n) (rv n s) = mst n (fun s => smS (bitR s) f n) s := by
  refine Nat.le_antisymm ?_ ?_
  · refine mst_max hn (smS_addR n f hn) s hs _ ?_
    have := pk_rv (F := fun s => smS (bitI n s) f n) (G := fun s => smS (bitR s) f n) hn (fun q hq e => ?_) (rv_lt n s) (mst_pk hn (smS_addF n f hn) (rv n s) (rv_lt n s))
    · rw [rv_rv hs] at this; exact this
    · show smS (bitR (rv n q)) f n = 0
      rw [← F_rv, rv_rv hq]; exact e
  · refine mst_max hn (smS_addF n f hn) _ (rv_lt n s) _ (pk_rv (F := fun s => smS (bitR s) f n) (G := fun s => smS (bitI n s) f n) hn (fun q hq e => ?_) hs (mst_pk hn (smS_addR n f hn) s hs))
    show smS (bitI n (rv n q)) f n = 0
    rw [F_rv]; exact e
theorem mst_more {n : Nat} {F : Nat → Int} (hn : n ≤ 16) (hF : AddF n F) {s q : Nat} (hs : s < 2 ^ n) (h : Sub q s) (h0 : q ≠ 0) (hz : F q = 0) : mst n F (anb s q) + 1 ≤ mst n F s :=
  mst_max hn hF s hs _ ⟨q, h, h0, hz, mst_pk hn hF _ (Nat.lt_of_le_of_lt (anb_le _ _) hs)⟩
/-- The part that Parts takes is the one that the reference takes. -/
theorem part_same {n left p q : Nat} {f : Nat → Int} (hn : n ≤ 16) (hl : left < 2 ^ n) (h0 : left ≠ 0) (hz : smS (bitR left) f n = 0)
    (p1 : Sub p (rv n left)) (p2 : FpC (fun s => smS (bitI n s) f n) (fun s => (mst n (fun s => smS (bitI n s) f n) s : Int)) (rv n left) p)
    (p3 : ∀ r, Sub r (rv n left) → FpC (fun s => smS (bitI n s) f n) (fun s => (mst n (fun s => smS (bitI n s) f n) s : Int)) (rv n left) r → r ≤ p)
    (q1 : Qt (fun s => smS (bitR s) f n) left q) (q2 : mst n (fun s => smS (bitR s) f n) (anb left q) + 1 = mst n (fun s => smS (bitR s) f n) left)
    (q3 : ∀ r, Qt (fun s => smS (bitR s) f n) left r → mst n (fun s => smS (bitR s) f n) (anb left r) + 1 = mst n (fun s => smS (bitR s) f n) left → r = q ∨ earl (LR n q) (LR n r) = true) : rv n q = p := by
  have h2 := p2_le hn
  have aR := smS_addR n f hn
  have aI := smS_addF n f hn
  have hpl : p < 2 ^ n := Nat.lt_of_le_of_lt p1.le (rv_lt n left)
  have hfp : ∀ r, r < 2 ^ n → Sub r left → smS (bitR r) f n = 0 → mst n (fun s => smS (bitR s) f n) (anb left r) + 1 = mst n (fun s => smS (bitR s) f n) left → rv n r ≤ p := fun r hr hs hz2 hm => by
    refine p3 _ (sub_rv hs) ⟨?_, ?_⟩
    · show smS (bitI n (rv n r)) f n = 0
      rw [F_rv]; exact hz2
    · show ((mst n (fun s => smS (bitI n s) f n) (anb (rv n left) (rv n r)) : Nat) : Int) = ((mst n (fun s => smS (bitI n s) f n) (rv n left) : Nat) : Int) - 1
      rw [← anb_rv hn hl hr, mst_rv hn (Nat.lt_of_le_of_lt (anb_le _ _) hl), mst_rv hn hl]
      omega
  have hql : q < 2 ^ n := Nat.lt_of_le_of_lt q1.le hl
  have hqp := hfp q hql q1.1 q1.2.2 q2
  have er : rv n (rv n p) = p := rv_rv hpl
  have rl := rv_lt n p
  have rs : Sub (rv n p) left := by
    have := sub_rv (n := n) p1
    rw [rv_rv hl] at this; exact this
  have rz : smS (bitR (rv n p)) f n = 0 := by
    rw [← F_rv, er]; exact p2.1
  have rm : mst n (fun s => smS (bitR s) f n) (anb left (rv n p)) + 1 = mst n (fun s => smS (bitR s) f n) left := by
    have e := p2.2
    simp only at e
    rw [← er, ← anb_rv hn hl rl, mst_rv hn (Nat.lt_of_le_of_lt (anb_le _ _) hl), mst_rv hn hl] at e
    have : 0 < mst n (fun s => smS (bitR s) f n) left := by omega
    omega
  obtain ⟨t, ht⟩ := low_tz (n := 64) (s := left) (by omega) (by omega) (by decide)
  have htn : t < n := bit_lt hl ht.on
  have rb : (rv n p).testBit t = true := by
    cases hb : (rv n p).testBit t with
    | true => rfl
    | false =>
      exfalso
      obtain ⟨q0, hq0, hp0⟩ := Pk.front hn aR hl h0 hz (mst_pk hn aR left hl)
      have hq0l : q0 < 2 ^ n := Nat.lt_of_le_of_lt hq0.le hl
      have a := mst_max hn aR (anb left q0) (Nat.lt_of_le_of_lt (anb_le _ _) hl) _ hp0
      have b := mst_more hn aR hl hq0.1 (by have := hq0.pos; omega) hq0.2.2
      have c := hfp q0 hq0l hq0.1 hq0.2.2 (by omega)
      obtain ⟨t', ht', hbt⟩ := (low_in (by omega) (by omega)).1 hq0.2.1
      have et : t' = t := by
        rcases Nat.lt_trichotomy t' t with l | l | l
        · have := ht.off t' l; rw [ht'.on] at this; cases this
        · exact l
        · have := ht'.off t l; rw [ht.on] at this; cases this
      rw [et] at hbt
      have d1 : (rv n q0).testBit (n - 1 - t) = true := by rw [rv_bit _ _ _ (by omega), show n - 1 - (n - 1 - t) = t by omega]; exact hbt
      have d2 : p < 2 ^ (n - 1 - t) := Nat.lt_pow_two_of_testBit _ fun i hi => by
        rcases Nat.lt_or_ge i n with z | z
        · have e1 : p.testBit i = (rv n p).testBit (n - 1 - i) := by
            have := rv_bit n p (n - 1 - i) (by omega)
            rw [show n - 1 - (n - 1 - i) = i by omega] at this
            exact this.symm
          rw [e1]
          rcases Nat.lt_or_ge (n - 1 - i) t with y | y
          · cases hx : (rv n p).testBit (n - 1 - i) with
            | false => rfl
            | true => have := rs.bit hx; rw [ht.off _ y] at this; cases this
          · rw [show n - 1 - i = t by omega]; exact hb
        · exact Nat.testBit_lt_two_pow (Nat.lt_of_lt_of_le hpl (Nat.pow_le_pow_right (by decide) z))
      have d3 : (rv n q0).testBit (n - 1 - t) = false := Nat.testBit_lt_two_pow (by omega)
      rw [d1] at d3; cases d3
  have rQ : Qt (fun s => smS (bitR s) f n) left (rv n p) := ⟨rs, (low_in (by omega) (by omega)).2 ⟨t, ht, rb⟩, rz⟩
  rcases q3 _ rQ rm with e | e
  · rw [← e]; exact er
  · rcases Nat.lt_or_ge (rv n q) p with l | l
    · exfalso
      have e1 : ixs (bitI n p) n = LR n (rv n p) := by
        have := LR_rv n (rv n p)
        rw [er] at this; exact this
      rcases num_earl n p (rv n q) hpl (rv_lt n q) l with k | k
      · rw [e1, LR_rv] at k
        have := earl_trans k e
        rw [earl_irr] at this; cases this
      · have hs1 : Sub q (rv n p) := by
          have := sub_rv (n := n) k
          rw [rv_rv hql] at this; exact this
        have hne : anb (rv n p) q ≠ 0 := fun e0 => by
          have h3 := sub_minus (rv n p) q hs1 (by omega)
          have h4 := hs1.le
          have : rv n p = q := by omega
          rw [← this, er] at l
          omega
        have hz3 : smS (bitR (anb (rv n p) q)) f n = 0 := by
          have := aR.add (rv n p) q rl hs1
          have h5 := q1.2.2
          simp only at this h5
          omega
        have hsub : Sub (anb (rv n p) q) (anb left q) := anb_mono (by omega) (by omega) rs
        have m1 := mst_more hn aR (Nat.lt_of_le_of_lt (anb_le left q) hl) hsub hne hz3
        have ee : anb (anb left q) (anb (rv n p) q) = anb left (rv n p) := Nat.eq_of_testBit_eq fun i => by
          have l1 := anb_le left q
          have l2 := anb_le (rv n p) q
          rw [ab_bit (by omega) (by omega), ab_bit (by omega) (by omega), ab_bit (by omega) (by omega), ab_bit (by omega) (by omega)]
          cases hq : q.testBit i with
          | true => rw [hs1.bit hq]; simp
          | false => simp
        rw [ee] at m1
        omega
    · omega
end Go.Proofs.YtjonhhmapbibaaaDoor
