/- Layer 7, SubsetsMost: math: Parts' parts are a balanced partition, and none can be divided. -/
import Derived.Test.YtjonhhmapbibaaaDoorUCmm
import Derived.Test.YtjonhhmapbibaaaDoorUPart
import Derived.Test.YtjonhhmapbibaaaDoorUChr
namespace Go.Proofs.YtjonhhmapbibaaaDoor
set_option linter.unusedVariables false

/-- No part can be divided. -/
theorem part_min {n left p r : Nat} {f : Nat → Int} (hn : n ≤ 16) (hl : left < 2 ^ n) (hp : Sub p left) (hf : FpC (fun s => smS (bitI n s) f n) (fun s => (mst n (fun s => smS (bitI n s) f n) s : Int)) left p)
    (hr : Sub r p) (h0 : r ≠ 0) (hz : smS (bitI n r) f n = 0) : r = p := by
  have h2 := p2_le hn
  have aF := smS_addF n f hn
  have hpl := hp.le
  have hrl := hr.le
  refine Classical.byContradiction fun hne => ?_
  have hd : anb p r ≠ 0 := fun e => hne (Nat.eq_of_testBit_eq fun i => by
    have := ab_bit (a := p) (b := r) (by omega) (by omega) i
    rw [e] at this
    cases hpi : p.testBit i with
    | false =>
      cases hri : r.testBit i with
      | false => rfl
      | true => have := hr.bit hri; rw [hpi] at this; cases this
    | true =>
      rw [hpi] at this
      simp at this
      exact this.symm ▸ rfl)
  have hdz : smS (bitI n (anb p r)) f n = 0 := by
    have := aF.add p r (by omega) hr
    have h5 := hf.1
    simp only at this h5
    omega
  have m1 := mst_more hn aF hl (hr.trans hp) h0 hz
  have hs : Sub (anb p r) (anb left r) := anb_mono (by omega) (by omega) hp
  have m2 := mst_more hn aF (Nat.lt_of_le_of_lt (anb_le left r) hl) hs hd hdz
  have e : anb (anb left r) (anb p r) = anb left p := Nat.eq_of_testBit_eq fun i => by
    have l1 := anb_le left r
    have l2 := anb_le p r
    rw [ab_bit (by omega) (by omega), ab_bit (by omega) (by omega), ab_bit (by omega) (by omega), ab_bit (by omega) (by omega)]
    cases hri : r.testBit i with
    | true => rw [hr.bit hri]; simp
    | false => simp
  rw [e] at m2
  have := hf.2
  simp only at this
  omega
/-- The part that is taken has the first index that is left. -/
theorem part_top {n left p : Nat} {f : Nat → Int} (hn : n ≤ 16) (hl : left < 2 ^ n) (h0 : left ≠ 0) (hz : smS (bitR left) f n = 0)
    (p1 : Sub p (rv n left))
    (p3 : ∀ r, Sub r (rv n left) → FpC (fun s => smS (bitI n s) f n) (fun s => (mst n (fun s => smS (bitI n s) f n) s : Int)) (rv n left) r → r ≤ p) :
    ∃ t, t < n ∧ bitI n p t = true ∧ ∀ j, j < n → bitI n (rv n left) j = true → t ≤ j := by
  have h2 := p2_le hn
  have aR := smS_addR n f hn
  have hpl : p < 2 ^ n := Nat.lt_of_le_of_lt p1.le (rv_lt n left)
  have hfp : ∀ r, r < 2 ^ n → Sub r left → smS (bitR r) f n = 0 → mst n (fun s => smS (bitR s) f n) (anb left r) + 1 = mst n (fun s => smS (bitR s) f n) left → rv n r ≤ p := fun r hr hs hz2 hm => by
    refine p3 _ (sub_rv hs) ⟨?_, ?_⟩
    · show smS (bitI n (rv n r)) f n = 0
      rw [F_rv]; exact hz2
    · show ((mst n (fun s => smS (bitI n s) f n) (anb (rv n left) (rv n r)) : Nat) : Int) = ((mst n (fun s => smS (bitI n s) f n) (rv n left) : Nat) : Int) - 1
      rw [← anb_rv hn hl hr, mst_rv hn (Nat.lt_of_le_of_lt (anb_le _ _) hl), mst_rv hn hl]
      omega
  have rs : Sub (rv n p) left := by
    have := sub_rv (n := n) p1
    rw [rv_rv hl] at this; exact this
  obtain ⟨t, ht⟩ := low_tz (n := 64) (s := left) (by omega) (by omega) (by decide)
  have htn : t < n := bit_lt hl ht.on
  have rb : (rv n p).testBit t = true := by
    cases hb : (rv n p).testBit t with
    | true => rfl
    | false =>
      exfalso
      obtain ⟨q0, hq0, hp0⟩ := Pk.front hn aR hl h0 hz (mst_pk hn aR left hl)
      have hq0l : q0 < 2 ^ n := Nat.lt_of_le_of_lt hq0.le hl
      have a := mst_max hn aR (anb left q0) (Nat.lt_of_le_of_lt (anb_le _ _) hl) _ hp0
      have b := mst_more hn aR hl hq0.1 (by have := hq0.pos; omega) hq0.2.2
      have c := hfp q0 hq0l hq0.1 hq0.2.2 (by omega)
      obtain ⟨t', ht', hbt⟩ := (low_in (by omega) (by omega)).1 hq0.2.1
      have et : t' = t := by
        rcases Nat.lt_trichotomy t' t with l | l | l
        · have := ht.off t' l; rw [ht'.on] at this; cases this
        · exact l
        · have := ht'.off t l; rw [ht.on] at this; cases this
      rw [et] at hbt
      have d1 : (rv n q0).testBit (n - 1 - t) = true := by rw [rv_bit _ _ _ (by omega), show n - 1 - (n - 1 - t) = t by omega]; exact hbt
      have d2 : p < 2 ^ (n - 1 - t) := Nat.lt_pow_two_of_testBit _ fun i hi => by
        rcases Nat.lt_or_ge i n with z | z
        · have e1 : p.testBit i = (rv n p).testBit (n - 1 - i) := by
            have := rv_bit n p (n - 1 - i) (by omega)
            rw [show n - 1 - (n - 1 - i) = i by omega] at this
            exact this.symm
          rw [e1]
          rcases Nat.lt_or_ge (n - 1 - i) t with y | y
          · cases hx : (rv n p).testBit (n - 1 - i) with
            | false => rfl
            | true => have := rs.bit hx; rw [ht.off _ y] at this; cases this
          · rw [show n - 1 - i = t by omega]; exact hb
        · exact Nat.testBit_lt_two_pow (Nat.lt_of_lt_of_le hpl (Nat.pow_le_pow_right (by decide) z))
      have d3 : (rv n q0).testBit (n - 1 - t) = false := Nat.testBit_lt_two_pow (by omega)
      rw [d1] at d3; cases d3
  refine ⟨t, htn, ?_, fun j hj hb => ?_⟩
  · have := rv_bit n p t htn
    rw [rb] at this
    exact this.symm
  · have e := rv_bit n left (n - 1 - j) (by omega)
    rw [show n - 1 - (n - 1 - j) = j by omega] at e
    have hb2 : (rv n left).testBit (n - 1 - j) = true := hb
    rw [e] at hb2
    rcases Nat.lt_or_ge j t with z | z
    · rw [ht.off j z] at hb2; cases hb2
    · exact z
/-- The places of a list of indices. -/
theorem ixs_rank {p : Nat → Bool} : ∀ {n i : Nat}, i < (ixs p n).length → (ixs p n).getD i 0 < n ∧ p ((ixs p n).getD i 0) = true ∧ (ixs p ((ixs p n).getD i 0)).length = i
  | 0, i, h => by simp [ixs] at h
  | n + 1, i, h => by
    rw [ixs_step] at h ⊢
    by_cases hp : p n = true
    · rw [if_pos hp] at h ⊢
      rw [List.getD_eq_getElem?_getD]
      rcases Nat.lt_or_ge i (ixs p n).length with z | z
      · rw [List.getElem?_append_left z, ← List.getD_eq_getElem?_getD]
        obtain ⟨a, b, c⟩ := ixs_rank z
        exact ⟨by omega, b, c⟩
      · rw [List.length_append] at h
        simp at h
        rw [List.getElem?_append_right z, show i - (ixs p n).length = 0 by omega]
        exact ⟨by simp, by simpa using hp, by simp; omega⟩
    · rw [if_neg hp, List.append_nil] at h ⊢
      obtain ⟨a, b, c⟩ := ixs_rank h
      exact ⟨by omega, b, c⟩
theorem ixs_mono {p : Nat → Bool} {a : Nat} : ∀ {b : Nat}, a ≤ b → (ixs p a).length ≤ (ixs p b).length
  | 0, h => by rw [show a = 0 by omega]; exact Nat.le_refl _
  | b + 1, h => by
    rcases Nat.lt_or_ge a (b + 1) with z | z
    · rw [ixs_step, List.length_append]
      have := ixs_mono (p := p) (show a ≤ b by omega)
      omega
    · rw [show a = b + 1 by omega]; exact Nat.le_refl _
theorem ixs_asc {p : Nat → Bool} {n i j : Nat} (h : j < (ixs p n).length) (hij : i < j) : (ixs p n).getD i 0 < (ixs p n).getD j 0 := by
  obtain ⟨_, _, c1⟩ := ixs_rank (show i < (ixs p n).length by omega)
  obtain ⟨_, _, c2⟩ := ixs_rank h
  rcases Nat.lt_or_ge ((ixs p n).getD i 0) ((ixs p n).getD j 0) with z | z
  · exact z
  · have := ixs_mono (p := p) z
    omega
/-- Each index has its place. -/
theorem ixs_at {p : Nat → Bool} {n j : Nat} (hj : j < n) (hp : p j = true) : (ixs p j).length < (ixs p n).length ∧ (ixs p n).getD (ixs p j).length 0 = j := by
  induction n with
  | zero => omega
  | succ n ih =>
    rw [ixs_step]
    by_cases e : j = n
    · subst e
      rw [if_pos hp, List.length_append, List.getD_eq_getElem?_getD, List.getElem?_append_right (Nat.le_refl _)]
      simp
    · obtain ⟨a, b⟩ := ih (by omega)
      rw [List.length_append, List.getD_eq_getElem?_getD, List.getElem?_append_left a, ← List.getD_eq_getElem?_getD]
      exact ⟨by omega, b⟩
/-- A sum over places. -/
theorem smS_places (p q : Nat → Bool) (f : Nat → Int) : ∀ n, smS (fun i => q ((ixs p n).getD i 0)) (fun i => f ((ixs p n).getD i 0)) (ixs p n).length = smS (fun i => p i && q i) f n
  | 0 => rfl
  | n + 1 => by
    have ih := smS_places p q f n
    by_cases hp : p n = true
    · have e : ixs p (n + 1) = ixs p n ++ [n] := by rw [ixs_step, if_pos hp]
      have hL : (ixs p (n + 1)).length = (ixs p n).length + 1 := by rw [e]; simp
      have ga : ∀ i, i < (ixs p n).length → (ixs p (n + 1)).getD i 0 = (ixs p n).getD i 0 := fun i hi => by
        rw [e, List.getD_eq_getElem?_getD, List.getElem?_append_left hi, ← List.getD_eq_getElem?_getD]
      have gb : (ixs p (n + 1)).getD (ixs p n).length 0 = n := by
        rw [e, List.getD_eq_getElem?_getD, List.getElem?_append_right (Nat.le_refl _)]; simp
      rw [hL]
      unfold smS
      rw [gb, hp, Bool.true_and]
      congr 1
      rw [← ih, smS_congr (q := fun i => q ((ixs p n).getD i 0)) (fun i hi => by rw [ga i hi])]
      exact smS_fcongr fun i hi => by rw [ga i hi]
    · have e : ixs p (n + 1) = ixs p n := by rw [ixs_step, if_neg hp, List.append_nil]
      have e2 : smS (fun i => p i && q i) f (n + 1) = smS (fun i => p i && q i) f n + if (p n && q n) = true then f n else 0 := rfl
      rw [e, e2, if_neg (by simp [hp]), Int.add_zero]
      exact ih
/-- A part's numbers: only all of them sum up to 0. -/
theorem zero_whole {n left p : Nat} {f : Nat → Int} (hn : n ≤ 16) (hl : left < 2 ^ n) (hp : Sub p left) (h0 : p ≠ 0) (hf : FpC (fun s => smS (bitI n s) f n) (fun s => (mst n (fun s => smS (bitI n s) f n) s : Int)) left p)
    {l : List Nat} (h : Fam (fun i => f ((ixs (bitI n p) n).getD i 0)) (ixs (bitI n p) n).length 0 1 l) : l.length = (ixs (bitI n p) n).length := by
  obtain ⟨T, rfl, hs, hlen⟩ := h
  have hpl := hp.le
  obtain ⟨q, hq⟩ : ∃ q : Nat → Bool, ∀ j, q j = T (ixs (bitI n p) j).length := ⟨_, fun _ => rfl⟩
  have e1 : ∀ i, i < (ixs (bitI n p) n).length → q ((ixs (bitI n p) n).getD i 0) = T i := fun i hi => by rw [hq, (ixs_rank hi).2.2]
  rw [← smS_congr e1, smS_places (bitI n p) q f n] at hs
  obtain ⟨r, hr, hb⟩ := bitI_all (fun j => bitI n p j && q j) n
  rw [← smS_congr hb] at hs
  have hrs : Sub r p := sub_of fun i hi => by
    have hin := bit_lt hr hi
    have := hb (n - 1 - i) (by omega)
    unfold bitI at this
    rw [show n - 1 - (n - 1 - i) = i by omega, hi] at this
    simp at this
    exact this.1
  have hr0 : r ≠ 0 := fun e => by
    obtain ⟨hm1, hm2, _⟩ := ixs_rank (p := T) (n := (ixs (bitI n p) n).length) (i := 0) (by omega)
    generalize (ixs T (ixs (bitI n p) n).length).getD 0 0 = i at hm1 hm2
    obtain ⟨a, b, _⟩ := ixs_rank hm1
    have c := hb _ a
    rw [e1 i hm1, hm2, b, e] at c
    unfold bitI at c
    simp at c
  have er := part_min hn hl hp hf hrs hr0 hs
  subst er
  rw [ixs_full]
  intro i hi
  obtain ⟨a, b, _⟩ := ixs_rank hi
  have c := hb _ a
  rw [e1 i hi, b] at c
  simpa using c.symm
def intZ (x : List Nat) : List Int := x.map fun (i : Nat) => (i : Int)
theorem nth_intZ (x : List Nat) {j : Nat} (hj : j < x.length) : nth (intZ x) j = ((x.getD j 0 : Nat) : Int) := by
  unfold nth intZ
  rw [List.getD_eq_getElem?_getD, List.getElem?_map, List.getD_eq_getElem?_getD]
  simp [hj]
theorem intZ_len (x : List Nat) : (intZ x).length = x.length := by unfold intZ; simp
theorem up_intZ {n p : Nat} : ∀ i, i ≤ (ixs (bitI n p) n).length → UpP n (intZ (ixs (bitI n p) n)) i
  | 0, _ => fun j hj => absurd hj (Nat.not_lt_zero j)
  | i + 1, h => (up_intZ i (by omega)).succ (by
      rw [nth_intZ _ (by omega)]
      cases i with
      | zero => rw [lastI_zero]; omega
      | succ i =>
        rw [lastI_succ, nth_intZ _ (by omega)]
        have := ixs_asc (p := bitI n p) (n := n) (i := i) (j := i + 1) (by omega) (by omega)
        omega) (by
      rw [nth_intZ _ (by omega)]
      have := (ixs_rank (p := bitI n p) (n := n) (i := i) (by omega)).1
      omega)
theorem sum_intZ {n p : Nat} {f : Nat → Int} : ∀ i, i ≤ (ixs (bitI n p) n).length → sumZ f (intZ (ixs (bitI n p) n)) i = smS (fun _ => true) (fun i => f ((ixs (bitI n p) n).getD i 0)) i
  | 0, _ => rfl
  | i + 1, h => by
    unfold sumZ smS
    rw [sum_intZ i (by omega), nth_intZ _ (by omega), if_pos rfl]; rfl
theorem bal_intZ {n p : Nat} {f : Nat → Int} (hp : p < 2 ^ n) (h0 : p ≠ 0) (hz : smS (bitI n p) f n = 0) : Bal n f (intZ (ixs (bitI n p) n)) := by
  refine ⟨by rw [intZ_len]; exact up_intZ _ (Nat.le_refl _), by rw [intZ_len]; exact ixs_pos hp h0, ?_⟩
  rw [intZ_len, sum_intZ _ (Nat.le_refl _)]
  have := smS_places (bitI n p) (fun _ => true) f n
  rw [this, ← hz]
  exact smS_congr fun i hi => by simp
theorem set_intZ {n p : Nat} (hp : p < 2 ^ n) : setZ n (intZ (ixs (bitI n p) n)) (intZ (ixs (bitI n p) n)).length = p := Nat.eq_of_testBit_eq fun d => by
  refine Bool.eq_iff_iff.2 ?_
  rw [setZ_bit, intZ_len]
  constructor
  · rintro ⟨j, hj, e⟩
    obtain ⟨a, b, _⟩ := ixs_rank hj
    rw [nth_intZ _ hj, Int.toNat_natCast] at e
    rw [← e]; exact b
  · intro hb
    have hd := bit_lt hp hb
    have hb2 : bitI n p (n - 1 - d) = true := by unfold bitI; rw [show n - 1 - (n - 1 - d) = d by omega]; exact hb
    obtain ⟨a, b⟩ := ixs_at (show n - 1 - d < n by omega) hb2
    exact ⟨_, a, by rw [nth_intZ _ a, b, Int.toNat_natCast]; omega⟩
theorem metZ_succ (n : Nat) (zss : List (List Int)) (j : Nat) : metZ n zss (j + 1) = metZ n zss j ||| stZ n zss j := rfl
theorem rowZ_left {zss : List (List Int)} {zs : List Int} {j : Nat} (h : j < zss.length) : rowZ (zss ++ [zs]) j = rowZ zss j := by
  unfold rowZ
  rw [List.getD_eq_getElem?_getD, List.getElem?_append_left h, ← List.getD_eq_getElem?_getD]
theorem rowZ_last (zss : List (List Int)) (zs : List Int) : rowZ (zss ++ [zs]) zss.length = zs := by
  unfold rowZ
  rw [List.getD_eq_getElem?_getD, List.getElem?_append_right (Nat.le_refl _)]; simp
theorem metZ_left {n : Nat} {zss : List (List Int)} {zs : List Int} : ∀ {j : Nat}, j ≤ zss.length → metZ n (zss ++ [zs]) j = metZ n zss j
  | 0, _ => rfl
  | j + 1, h => by
    unfold metZ stZ
    rw [metZ_left (by omega), rowZ_left (by omega)]
theorem leastI_left {zss : List (List Int)} {zs : List Int} {j : Nat} (h : j ≤ zss.length) : leastI (zss ++ [zs]) j = leastI zss j := by
  cases j with
  | zero => rfl
  | succ j => rw [leastI_succ, leastI_succ, rowZ_left (by omega)]
theorem ChkP.left {n : Nat} {f : Nat → Int} {zss : List (List Int)} {zs : List Int} (h : ChkP n f zss zss.length) : ChkP n f (zss ++ [zs]) zss.length := fun j hj => by
  unfold stZ
  rw [rowZ_left hj, leastI_left (by omega), metZ_left (by omega)]
  exact h j hj
/-- Parts' parts are a balanced partition. -/
theorem chk_parts {n : Nat} {f : Nat → Int} (hn : n ≤ 16) : ∀ (ps : List Nat) (left : Nat) (zss : List (List Int)), left < 2 ^ n → smS (bitI n left) f n = 0 →
    PtR (fun s => smS (bitI n s) f n) (fun s => (mst n (fun s => smS (bitI n s) f n) s : Int)) left ps →
    ChkP n f zss zss.length → metZ n zss zss.length &&& left = 0 → metZ n zss zss.length ||| left = 2 ^ n - 1 →
    (∀ j, j < n → bitI n left j = true → leastI zss zss.length ≤ (j : Int)) → ChkS n f (zss ++ (idxs n ps).map intZ)
  | [], left, zss, hl, hz, h, hc, hd, hu, hm => by
    have e : left = 0 := h
    subst e
    rw [Nat.or_zero] at hu
    have : (idxs n []).map intZ = [] := rfl
    rw [this, List.append_nil]
    exact ⟨hc, hu⟩
  | p :: ps, left, zss, hl, hz, h, hc, hd, hu, hm => by
    have h2 := p2_le hn
    obtain ⟨h0, hs, hf, hmx, hr⟩ := h
    have hpl := hs.le
    have er : rv n (rv n left) = left := rv_rv hl
    have hrl := rv_lt n left
    obtain ⟨t, htn, htb, htm⟩ := part_top (f := f) hn hrl (ne_rv hl h0) (by rw [← F_rv, er]; exact hz) (by rw [er]; exact hs) (by rw [er]; exact hmx)
    rw [er] at htm
    have hp0 : p ≠ 0 := fun e => by rw [e] at htb; unfold bitI at htb; simp at htb
    have hbal : Bal n f (intZ (ixs (bitI n p) n)) := bal_intZ (by omega) hp0 hf.1
    have hfirst : nth (intZ (ixs (bitI n p) n)) 0 ≤ (t : Int) := by
      obtain ⟨a, b⟩ := ixs_at htn htb
      rw [nth_intZ _ (by omega)]
      rcases Nat.eq_zero_or_pos (ixs (bitI n p) t).length with z | z
      · rw [z] at b; omega
      · have := ixs_asc a z
        omega
    have hx : 0 < (ixs (bitI n p) n).length := ixs_pos (by omega) hp0
    obtain ⟨x1, x2, _⟩ := ixs_rank hx
    have hst : stZ n (zss ++ [intZ (ixs (bitI n p) n)]) zss.length = p := by unfold stZ; rw [rowZ_last]; exact set_intZ (by omega)
    have hlast : leastI zss zss.length ≤ nth (intZ (ixs (bitI n p) n)) 0 := by
      rw [nth_intZ _ hx]
      refine hm _ x1 ?_
      unfold bitI at x2 ⊢
      exact hs.bit x2
    have hdp : metZ n zss zss.length &&& p = 0 := Nat.eq_of_testBit_eq fun i => by
      have h5 : (metZ n zss zss.length &&& left).testBit i = false := by rw [hd]; simp
      rw [Nat.testBit_and] at h5 ⊢
      rw [Nat.zero_testBit]
      cases hpi : p.testBit i with
      | false => simp
      | true => rw [hs.bit hpi] at h5; simpa using h5
    have hlen : (zss ++ [intZ (ixs (bitI n p) n)]).length = zss.length + 1 := by simp
    have hc2 : ChkP n f (zss ++ [intZ (ixs (bitI n p) n)]) (zss ++ [intZ (ixs (bitI n p) n)]).length := by
      rw [hlen]
      exact hc.left.succ (by rw [rowZ_last]; exact hbal) (by rw [leastI_left (Nat.le_refl _), rowZ_last]; exact hlast) (by rw [metZ_left (Nat.le_refl _), hst]; exact hdp)
    have hmet : metZ n (zss ++ [intZ (ixs (bitI n p) n)]) (zss ++ [intZ (ixs (bitI n p) n)]).length = metZ n zss zss.length ||| p := by
      rw [hlen, metZ_succ, metZ_left (Nat.le_refl _), hst]
    have hbits : ∀ i, (anb left p).testBit i = (left.testBit i && !p.testBit i) := fun i => ab_bit (by omega) (by omega) i
    have ih := chk_parts hn ps (anb left p) (zss ++ [intZ (ixs (bitI n p) n)]) (Nat.lt_of_le_of_lt (anb_le _ _) hl) (by
        have := (smS_addF n f hn).add left p hl hs
        have h5 := hf.1
        simp only at this h5
        omega) hr hc2 (by
        rw [hmet]
        refine Nat.eq_of_testBit_eq fun i => ?_
        have h5 : (metZ n zss zss.length &&& left).testBit i = false := by rw [hd]; simp
        rw [Nat.testBit_and] at h5
        rw [Nat.testBit_and, Nat.testBit_or, hbits, Nat.zero_testBit]
        cases hpi : p.testBit i with
        | true => simp
        | false => simpa using h5) (by
        rw [hmet, ← hu]
        refine Nat.eq_of_testBit_eq fun i => ?_
        rw [Nat.testBit_or, Nat.testBit_or, Nat.testBit_or, hbits]
        cases hpi : p.testBit i with
        | true => rw [hs.bit hpi]; simp
        | false => simp) (fun j hj hb => by
        rw [hlen, leastI_succ, rowZ_last]
        have hb2 : bitI n left j = true := by
          unfold bitI at hb ⊢
          rw [hbits] at hb
          simp at hb
          exact hb.1
        have := htm j hj hb2
        omega)
    have e : (idxs n (p :: ps)).map intZ = [intZ (ixs (bitI n p) n)] ++ (idxs n ps).map intZ := rfl
    rw [e, ← List.append_assoc]
    exact ih
/-- The sum of a row is that of its set. -/
theorem set_sum {n : Nat} {f : Nat → Int} {zs : List Int} : ∀ {i : Nat}, UpP n zs i → sumZ f zs i = smS (bitI n (setZ n zs i)) f n
  | 0, _ => by
    unfold sumZ setZ
    rw [smS_none]
    intro i hi; unfold bitI; simp
  | i + 1, h => by
    have hi : UpP n zs i := fun j hj => h j (by omega)
    have ih := set_sum (f := f) hi
    have hx := h i (by omega)
    have hg := h.ge i (by omega)
    obtain ⟨x, hx2⟩ : ∃ x : Nat, nth zs i = (x : Int) := ⟨(nth zs i).toNat, by omega⟩
    have hxn : x < n := by omega
    have hnew : (setZ n zs i).testBit (n - 1 - x) = false := by
      cases hb : (setZ n zs i).testBit (n - 1 - x) with
      | false => rfl
      | true =>
        exfalso
        obtain ⟨j, hj, e⟩ := setZ_bit.1 hb
        have hjx : nth zs j < nth zs i := by
          have hlt : ∀ a b, a < b → b ≤ i → nth zs a < nth zs b := fun a b hab => by
            induction b with
            | zero => omega
            | succ b ihb =>
              intro hb
              have := (h (b + 1) (by omega)).1
              rw [lastI_succ] at this
              rcases Nat.lt_or_ge a b with q | q
              · have := ihb q (by omega); omega
              · rw [show a = b by omega]; exact this
          exact hlt j i hj (Nat.le_refl _)
        have gj := hi.ge j hj
        omega
    unfold sumZ setZ
    rw [ih, hx2, Int.toNat_natCast]
    symm
    refine smS_upd (d := x) ?_ ?_ (fun j hj hne => ?_) hxn
    · unfold bitI; rw [Nat.testBit_or, Nat.testBit_two_pow]; simp
    · unfold bitI; exact hnew
    · unfold bitI
      rw [Nat.testBit_or, Nat.testBit_two_pow, decide_eq_false (by omega), Bool.or_false]
/-- A balanced partition has no more parts than the most. -/
theorem chk_most {n : Nat} {f : Nat → Int} (hn : n ≤ 16) {zss : List (List Int)} (h : ChkS n f zss) : zss.length ≤ mst n (fun s => smS (bitI n s) f n) (2 ^ n - 1) := by
  have h2 := p2_le hn
  have h0 := Nat.two_pow_pos n
  have aF := smS_addF n f hn
  -- the parts from row i on are a packing of what is left
  have key : ∀ k i, i + k = zss.length → Pk (fun s => smS (bitI n s) f n) (anb (2 ^ n - 1) (metZ n zss i)) k := by
    intro k
    induction k with
    | zero => intro i _; exact trivial
    | succ k ih =>
      intro i hik
      have hi : i < zss.length := by omega
      obtain ⟨⟨hu, hpos, hsum⟩, _, hdis⟩ := h.1 i hi
      have hst : stZ n zss i < 2 ^ n := setZ_lt _ hu
      have hml : metZ n zss i < 2 ^ n := metZ_lt i (fun j hj => h.1 j (by omega))
      have hone : (2 ^ n - 1) < 65536 := by omega
      have hdb : ∀ d, (stZ n zss i).testBit d = true → (metZ n zss i).testBit d = false := fun d hd => by
        have h5 : (metZ n zss i &&& stZ n zss i).testBit d = false := by rw [hdis]; simp
        rw [Nat.testBit_and, hd] at h5
        simpa using h5
      refine ⟨stZ n zss i, sub_of fun d hd => ?_, fun e => ?_, ?_, ?_⟩
      · rw [ab_bit hone (by omega), Nat.testBit_two_pow_sub_one, decide_eq_true (bit_lt hst hd), hdb d hd]; rfl
      · have : (stZ n zss i).testBit (n - 1 - (nth (rowZ zss i) 0).toNat) = true := setZ_bit.2 ⟨0, hpos, rfl⟩
        rw [e] at this; simp at this
      · show smS (bitI n (stZ n zss i)) f n = 0
        rw [← hsum]
        exact (set_sum hu).symm
      · have e : anb (anb (2 ^ n - 1) (metZ n zss i)) (stZ n zss i) = anb (2 ^ n - 1) (metZ n zss (i + 1)) := Nat.eq_of_testBit_eq fun d => by
          have l1 := anb_le (2 ^ n - 1) (metZ n zss i)
          have hm1 : metZ n zss (i + 1) < 2 ^ n := metZ_lt (i + 1) (fun j hj => h.1 j (by omega))
          rw [ab_bit (by omega) (by omega), ab_bit hone (by omega), ab_bit hone (by omega)]
          rw [metZ_succ, Nat.testBit_or]
          cases (2 ^ n - 1).testBit d <;> cases (metZ n zss i).testBit d <;> cases (stZ n zss i).testBit d <;> rfl
        rw [e]
        exact ih (i + 1) (by omega)
  have := key zss.length 0 (by omega)
  have e : anb (2 ^ n - 1) (metZ n zss 0) = 2 ^ n - 1 := Nat.eq_of_testBit_eq fun d => by
    show (anb (2 ^ n - 1) 0).testBit d = _
    rw [ab_bit (by omega) (by omega), Nat.zero_testBit]; simp
  rw [e] at this
  exact mst_max hn aF (2 ^ n - 1) (by omega) _ this
end Go.Proofs.YtjonhhmapbibaaaDoor
