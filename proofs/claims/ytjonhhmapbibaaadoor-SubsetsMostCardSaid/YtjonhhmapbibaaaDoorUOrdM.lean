/- Layer 7: math of sums of other lists: the sums of all subsets as a set, lists turned around, negated, longer; packings carried over. -/
import Derived.Test.YtjonhhmapbibaaaDoorUPart
import Derived.Test.YtjonhhmapbibaaaDoorUSort
namespace Go.Proofs.YtjonhhmapbibaaaDoor
set_option linter.unusedVariables false

/-! Ascending lists. -/
def Asc (l : List Int) : Prop := l.Pairwise (· < ·)
theorem asc_eq : ∀ {l m : List Int}, Asc l → Asc m → (∀ x, x ∈ l ↔ x ∈ m) → l = m
  | [], [], _, _, _ => rfl
  | [], b :: m, _, _, h => by have := (h b).2 (by simp); cases this
  | a :: l, [], _, _, h => by have := (h a).1 (by simp); cases this
  | a :: l, b :: m, h1, h2, h => by
    obtain ⟨p1, p2⟩ := List.pairwise_cons.1 h1
    obtain ⟨q1, q2⟩ := List.pairwise_cons.1 h2
    have e : a = b := by
      rcases List.mem_cons.1 ((h a).1 (by simp)) with z | z
      · exact z
      · rcases List.mem_cons.1 ((h b).2 (by simp)) with y | y
        · exact y.symm
        · have := p1 b y; have := q1 a z; omega
    subst e
    rw [asc_eq p2 q2 fun x => ⟨fun hx => by
      rcases List.mem_cons.1 ((h x).1 (List.mem_cons_of_mem _ hx)) with z | z
      · have := p1 x hx; omega
      · exact z, fun hx => by
      rcases List.mem_cons.1 ((h x).2 (List.mem_cons_of_mem _ hx)) with z | z
      · have := q1 x hx; omega
      · exact z⟩]
theorem upto_succ (d : Array Int) (m : Nat) : Go.Lib.compactUpTo d (m + 1) = Go.Lib.compactUpTo d m ++ if Go.Lib.keeps d m = true then [d[m]!] else [] := by
  unfold Go.Lib.compactUpTo
  rw [List.range_succ, List.filter_append, List.map_append]
  congr 1
  rw [List.filter_cons]
  split <;> simp
theorem upto_inv (d : Array Int) (hs : ∀ i j, i ≤ j → j < d.size → d[i]! ≤ d[j]!) : ∀ m, m ≤ d.size → Asc (Go.Lib.compactUpTo d m) ∧ ∀ x, x ∈ Go.Lib.compactUpTo d m ↔ ∃ j, j < m ∧ d[j]! = x
  | 0, _ => ⟨List.Pairwise.nil, fun x => ⟨fun h => (by cases h), fun ⟨j, h, _⟩ => by omega⟩⟩
  | m + 1, hm => by
    obtain ⟨h1, h2⟩ := upto_inv d hs m (by omega)
    rw [upto_succ]
    by_cases hk : Go.Lib.keeps d m = true
    · rw [if_pos hk]
      refine ⟨List.pairwise_append.2 ⟨h1, List.pairwise_singleton _ _, fun a ha b hb => ?_⟩, fun x => ?_⟩
      · rw [List.mem_singleton.1 hb]
        obtain ⟨j, hj, rfl⟩ := (h2 a).1 ha
        have a1 := hs j (m - 1) (by omega) (by omega)
        have a2 := hs (m - 1) m (by omega) (by omega)
        have a3 : d[m]! ≠ d[m - 1]! := fun e => by
          rw [Go.Lib.keeps_neg (by omega) e] at hk; cases hk
        show d[j]! < d[m]!
        omega
      · rw [List.mem_append, h2, List.mem_singleton]
        constructor
        · rintro (⟨j, h, e⟩ | e)
          · exact ⟨j, by omega, e⟩
          · exact ⟨m, by omega, e.symm⟩
        · rintro ⟨j, h, e⟩
          by_cases q : j = m
          · right; rw [← e, q]
          · exact .inl ⟨j, by omega, e⟩
    · rw [if_neg hk, List.append_nil]
      refine ⟨h1, fun x => ?_⟩
      rw [h2]
      constructor
      · rintro ⟨j, h, e⟩; exact ⟨j, by omega, e⟩
      · rintro ⟨j, h, e⟩
        by_cases q : j = m
        · subst q
          rcases Nat.eq_zero_or_pos j with z | z
          · subst z
            exact absurd (Go.Lib.keeps_lt_one d 0 (by decide)) hk
          · refine ⟨j - 1, by omega, ?_⟩
            rw [← e]
            exact Classical.byContradiction fun w => hk (Go.Lib.keeps_pos fun u => w u.symm)
        · exact ⟨j, by omega, e⟩
theorem mySort_sorted (zs : List Int) : (mySort zs).Pairwise (· ≤ ·) := by
  have := List.pairwise_mergeSort (le := fun x y : Int => decide (x ≤ y)) (fun a b c h1 h2 => decide_eq_true (Int.le_trans (of_decide_eq_true h1) (of_decide_eq_true h2))) (fun a b => by
    rcases Int.le_total a b with h | h
    · simp [h]
    · simp [h]) zs
  exact this.imp fun h => of_decide_eq_true h
theorem mySort_mem (zs : List Int) (x : Int) : x ∈ mySort zs ↔ x ∈ zs := (List.mergeSort_perm _ _).mem_iff
theorem compact_sorted (zs : List Int) (h : zs.Pairwise (· ≤ ·)) : Asc (Go.Lib.compact zs) ∧ ∀ x, x ∈ Go.Lib.compact zs ↔ x ∈ zs := by
  have hs : ∀ i j, i ≤ j → j < zs.toArray.size → zs.toArray[i]! ≤ zs.toArray[j]! := fun i j hij hj => by
    have hj' : j < zs.length := by simpa using hj
    rw [getElem!_pos zs.toArray i (by simp; omega), getElem!_pos zs.toArray j (by simp; omega)]
    rcases Nat.lt_or_ge i j with q | q
    · have := List.pairwise_iff_getElem.1 h i j (by omega) hj' q
      simpa using this
    · have : i = j := by omega
      subst this
      exact Int.le_refl _
  obtain ⟨h1, h2⟩ := upto_inv zs.toArray hs zs.length (by simp)
  refine ⟨h1, fun x => ?_⟩
  unfold Go.Lib.compact
  rw [h2]
  constructor
  · rintro ⟨j, hj, e⟩
    rw [getElem!_pos zs.toArray j (by simp; omega)] at e
    rw [← e]
    simp
  · intro hx
    obtain ⟨j, hj, e⟩ := List.getElem_of_mem hx
    exact ⟨j, hj, by rw [getElem!_pos zs.toArray j (by simp; omega)]; simpa using e⟩
theorem allS_asc (f : Nat → Int) (n : Nat) : Asc (allS f n) := (compact_sorted _ (mySort_sorted _)).1
theorem allS_mem (f : Nat → Int) (n : Nat) (x : Int) : x ∈ allS f n ↔ ∃ p : Nat → Bool, smS p f n = x := by
  unfold allS
  rw [(compact_sorted _ (mySort_sorted _)).2, mySort_mem, List.mem_map]
  constructor
  · rintro ⟨s, _, e⟩; exact ⟨bitI n s, e⟩
  · rintro ⟨p, e⟩
    obtain ⟨s, h1, h2⟩ := bitI_all p n
    exact ⟨s, List.mem_range.2 h1, by rw [← e]; exact smS_congr h2⟩

/-! Other lists. -/
theorem smS_fcongr {p : Nat → Bool} {f g : Nat → Int} : ∀ {n : Nat}, (∀ i, i < n → f i = g i) → smS p f n = smS p g n
  | 0, _ => rfl
  | n + 1, h => by unfold smS; rw [smS_fcongr fun i hi => h i (by omega), h n (by omega)]
theorem smS_neg (p : Nat → Bool) (f : Nat → Int) : ∀ n, smS p (fun i => -f i) n = -smS p f n
  | 0 => rfl
  | n + 1 => by
    unfold smS
    rw [smS_neg p f n]
    split <;> omega
theorem smS_front (p : Nat → Bool) (f : Nat → Int) : ∀ n, smS p f (n + 1) = (if p 0 = true then f 0 else 0) + smS (fun i => p (i + 1)) (fun i => f (i + 1)) n
  | 0 => by unfold smS smS; omega
  | n + 1 => by
    have ih := smS_front p f n
    show smS p f (n + 1) + (if p (n + 1) = true then f (n + 1) else 0) = _ + (smS (fun i => p (i + 1)) (fun i => f (i + 1)) n + (if p (n + 1) = true then f (n + 1) else 0))
    rw [ih]; omega
theorem smS_rev : ∀ (n : Nat) (p : Nat → Bool) (f : Nat → Int), smS p (fun i => f (n - 1 - i)) n = smS (fun i => p (n - 1 - i)) f n
  | 0, _, _ => rfl
  | n + 1, p, f => by
    rw [smS_front (fun i => p (n + 1 - 1 - i)) f n]
    show smS p (fun i => f (n + 1 - 1 - i)) n + (if p n = true then f (n + 1 - 1 - n) else 0) = _
    have e1 : smS p (fun i => f (n + 1 - 1 - i)) n = smS p (fun i => (fun j => f (j + 1)) (n - 1 - i)) n := smS_fcongr fun i hi => by
      show f _ = f _
      congr 1; omega
    rw [e1, smS_rev n p fun j => f (j + 1)]
    have e2 : smS (fun i => p (n - 1 - i)) (fun j => f (j + 1)) n = smS (fun i => p (n + 1 - 1 - (i + 1))) (fun i => f (i + 1)) n := smS_congr fun i hi => by
      show p _ = p _
      congr 1; omega
    rw [e2]
    simp only [Nat.add_sub_cancel, Nat.sub_self, Nat.sub_zero]
    omega
theorem allS_rev (f g : Nat → Int) (n : Nat) (h : ∀ i, i < n → g i = f (n - 1 - i)) : allS g n = allS f n := by
  refine asc_eq (allS_asc _ _) (allS_asc _ _) fun x => ?_
  rw [allS_mem, allS_mem]
  have e : ∀ p, smS p g n = smS (fun i => p (n - 1 - i)) f n := fun p => by rw [← smS_rev]; exact smS_fcongr h
  constructor
  · rintro ⟨p, rfl⟩; exact ⟨_, (e p).symm⟩
  · rintro ⟨p, rfl⟩
    refine ⟨fun i => p (n - 1 - i), ?_⟩
    rw [e]
    exact smS_congr fun i hi => by
      show p _ = p _
      congr 1; omega
theorem allS_neg (f g : Nat → Int) (n : Nat) (h : ∀ i, i < n → g i = -f i) : allS g n = ((allS f n).map fun x => -x).reverse := by
  refine asc_eq (allS_asc _ _) ?_ fun x => ?_
  · unfold Asc
    rw [List.pairwise_reverse, List.pairwise_map]
    exact (allS_asc f n).imp fun h => by omega
  · rw [allS_mem, List.mem_reverse, List.mem_map]
    have e : ∀ p, smS p g n = -smS p f n := fun p => by rw [← smS_neg]; exact smS_fcongr h
    constructor
    · rintro ⟨p, rfl⟩; exact ⟨_, (allS_mem f n _).2 ⟨p, rfl⟩, (e p).symm⟩
    · rintro ⟨y, hy, rfl⟩
      obtain ⟨p, rfl⟩ := (allS_mem f n y).1 hy
      exact ⟨p, e p⟩

/-! Packings carried over. -/
theorem Pk.carry {F G : Nat → Int} {n : Nat} (T : Nat → Nat) (hsub : ∀ q s, s < 2 ^ n → Sub q s → Sub (T q) (T s)) (hne : ∀ q, q < 2 ^ n → q ≠ 0 → T q ≠ 0) (hz : ∀ q, q < 2 ^ n → F q = 0 → G (T q) = 0) (ha : ∀ q s, s < 2 ^ n → Sub q s → T (anb s q) = anb (T s) (T q)) :
    ∀ {k s : Nat}, s < 2 ^ n → Pk F s k → Pk G (T s) k
  | 0, _, _, _ => trivial
  | k + 1, s, hs, ⟨q, h1, h2, h3, h4⟩ => by
    have hq := h1.le
    refine ⟨T q, hsub q s hs h1, hne q (by omega) h2, hz q (by omega) h3, ?_⟩
    rw [← ha q s hs h1]
    exact Pk.carry T hsub hne hz ha (Nat.lt_of_le_of_lt (anb_le _ _) hs) h4
/-- How many parts Parts takes. -/
theorem PtR.len {F : Nat → Int} {n : Nat} : ∀ {ps : List Nat} {left : Nat}, PtR F (fun s => (mst n F s : Int)) left ps → ps.length = mst n F left
  | [], left, h => by rw [show left = 0 from h, mst_zero]; rfl
  | p :: ps, left, ⟨_, _, h2, _, h3⟩ => by
    have := PtR.len h3
    have := h2.2
    simp only [List.length_cons] at *
    omega
theorem whole_bit (n i : Nat) : (2 ^ n - 1).testBit i = decide (i < n) := Nat.testBit_two_pow_sub_one n i
/-- The bits turned around. -/
def rv (n s : Nat) : Nat := ofB (fun i => s.testBit (n - 1 - i)) n
theorem rv_lt (n s : Nat) : rv n s < 2 ^ n := ofB_lt _ _
theorem rv_bit (n s i : Nat) (h : i < n) : (rv n s).testBit i = s.testBit (n - 1 - i) := ofB_bit _ _ _ h
theorem rv_hi (n s i : Nat) (h : n ≤ i) : (rv n s).testBit i = false := Nat.testBit_lt_two_pow (Nat.lt_of_lt_of_le (rv_lt n s) (Nat.pow_le_pow_right (by decide) h))
theorem rv_F (n s : Nat) (f g : Nat → Int) (h : ∀ i, i < n → g i = f (n - 1 - i)) : smS (bitI n s) g n = smS (bitI n (rv n s)) f n := by
  have e : smS (bitI n s) g n = smS (fun i => bitI n s (n - 1 - i)) f n := by rw [← smS_rev]; exact smS_fcongr h
  rw [e]
  refine smS_congr fun i hi => ?_
  show s.testBit (n - 1 - (n - 1 - i)) = (rv n s).testBit (n - 1 - i)
  rw [rv_bit n s _ (by omega)]
theorem rv_whole (n : Nat) : rv n (2 ^ n - 1) = 2 ^ n - 1 := Nat.eq_of_testBit_eq fun i => by
  rw [whole_bit]
  rcases Nat.lt_or_ge i n with h | h
  · rw [rv_bit _ _ _ h, whole_bit, decide_eq_true h, decide_eq_true (by omega)]
  · rw [rv_hi _ _ _ h, decide_eq_false (by omega)]
theorem rv_le {n : Nat} (hn : n ≤ 16) {f g : Nat → Int} (h : ∀ i, i < n → g i = f (n - 1 - i)) : mst n (fun s => smS (bitI n s) g n) (2 ^ n - 1) ≤ mst n (fun s => smS (bitI n s) f n) (2 ^ n - 1) := by
  have h2 := p2_le hn
  have h0 := Nat.two_pow_pos n
  refine mst_max hn (smS_addF n f hn) _ (by omega) _ ?_
  have := Pk.carry (F := fun s => smS (bitI n s) g n) (G := fun s => smS (bitI n s) f n) (n := n) (rv n) (fun q s hs hq => ?_) (fun q hq h0 e => ?_) (fun q _ hz => ?_) (fun q s hs hq => ?_) (by omega) (mst_pk hn (smS_addF n g hn) (2 ^ n - 1) (by omega))
  · rw [rv_whole] at this
    exact this
  · refine sub_of fun i hi => ?_
    rcases Nat.lt_or_ge i n with z | z
    · rw [rv_bit _ _ _ z] at hi ⊢; exact hq.bit hi
    · rw [rv_hi _ _ _ z] at hi; cases hi
  · obtain ⟨j, hj⟩ := has_bit h0
    have hjn := bit_lt hq hj
    have := rv_bit n q (n - 1 - j) (by omega)
    rw [e, Nat.zero_testBit, show n - 1 - (n - 1 - j) = j by omega, hj] at this
    cases this
  · show smS (bitI n (rv n q)) f n = 0
    rw [← rv_F n q f g h]; exact hz
  · have hql := hq.le
    have l1 := rv_lt n s
    have l2 := rv_lt n q
    refine Nat.eq_of_testBit_eq fun i => ?_
    rw [ab_bit (by omega) (by omega)]
    rcases Nat.lt_or_ge i n with z | z
    · rw [rv_bit _ _ _ z, rv_bit _ _ _ z, rv_bit _ _ _ z, ab_bit (by omega) (by omega)]
    · rw [rv_hi _ _ _ z, rv_hi _ _ _ z]; rfl
theorem rv_mst {n : Nat} (hn : n ≤ 16) {f g : Nat → Int} (h : ∀ i, i < n → g i = f (n - 1 - i)) : mst n (fun s => smS (bitI n s) g n) (2 ^ n - 1) = mst n (fun s => smS (bitI n s) f n) (2 ^ n - 1) :=
  Nat.le_antisymm (rv_le hn h) (rv_le hn fun i hi => by rw [h _ (by omega)]; congr 1; omega)
/-- The parts depend on the sets with the sum 0 alone. -/
theorem mst_zeros {n : Nat} {F G : Nat → Int} (hn : n ≤ 64) (h : ∀ s, F s = 0 ↔ G s = 0) : ∀ s, s < 18446744073709551616 → mst n F s = mst n G s := by
  intro s
  induction s using Nat.strongRecOn with
  | ind s ih =>
    intro hs
    by_cases h0 : s = 0
    · rw [h0, mst_zero, mst_zero]
    · rw [mst_step hn hs h0, mst_step hn hs h0]
      have e : mxB (mst n F) s n = mxB (mst n G) s n := mxB_congr fun j hj hb => by
        have hl := clrb_lt hs (by omega) hb
        exact ih _ hl (by omega)
      rw [e]
      by_cases hz : F s = 0
      · rw [if_pos hz, if_pos ((h s).1 hz)]
      · rw [if_neg hz, if_neg (fun q => hz ((h s).2 q))]
theorem ptr_uniq {F G : Nat → Int} {m k : Nat → Int} (h : ∀ s, F s = 0 ↔ G s = 0) (hm : ∀ s, s < 65536 → m s = k s) : ∀ {ps qs : List Nat} {left : Nat}, left < 65536 → PtR F m left ps → PtR G k left qs → ps = qs
  | [], [], _, _, _, _ => rfl
  | [], q :: qs, left, _, h1, h2 => absurd (show left = 0 from h1) h2.1
  | p :: ps, [], left, _, h1, h2 => absurd (show left = 0 from h2) h1.1
  | p :: ps, q :: qs, left, hl, ⟨_, a1, a2, a3, a4⟩, ⟨_, b1, b2, b3, b4⟩ => by
    have key : ∀ q, FpC F m left q ↔ FpC G k left q := fun q => by
      unfold FpC
      rw [h q, hm _ (Nat.lt_of_le_of_lt (anb_le _ _) hl), hm _ hl]
    have e1 := a3 q b1 ((key q).2 b2)
    have e2 := b3 p a1 ((key p).1 a2)
    have e : p = q := by omega
    subst e
    rw [ptr_uniq h hm (Nat.lt_of_le_of_lt (anb_le _ _) hl) a4 b4]
/-- A number and its opposite more: a part more. -/
theorem more_mst {n : Nat} (hn : n ≤ 14) {f g : Nat → Int} (h : ∀ i, i < n → g i = f i) (h2 : g n + g (n + 1) = 0) : mst n (fun s => smS (bitI n s) f n) (2 ^ n - 1) + 1 ≤ mst (n + 2) (fun s => smS (bitI (n + 2) s) g (n + 2)) (2 ^ (n + 2) - 1) := by
  have hb := p2_le (show n ≤ 16 by omega)
  have hb2 := p2_le (show n + 2 ≤ 16 by omega)
  have h0 := Nat.two_pow_pos n
  have hp : 2 ^ (n + 2) = 4 * 2 ^ n := by rw [Nat.pow_add]; omega
  have bits : ∀ s i, (4 * s).testBit i = (decide (2 ≤ i) && s.testBit (i - 2)) := fun s i => by
    rw [show 4 * s = s * 2 ^ 2 by omega, Nat.testBit_mul_two_pow]
  refine mst_max (by omega) (smS_addF (n + 2) g (by omega)) _ (by omega) _ ?_
  refine ⟨3, sub_of fun i hi => ?_, by decide, ?_, ?_⟩
  · rw [whole_bit]
    rw [show (3 : Nat) = 2 ^ 2 - 1 by decide, whole_bit] at hi
    have := of_decide_eq_true hi
    exact decide_eq_true (by omega)
  · have e0 : smS (bitI (n + 2) 3) g n = 0 := smS_none fun i hi => by
      unfold bitI
      rw [show (3 : Nat) = 2 ^ 2 - 1 by decide, whole_bit]
      exact decide_eq_false (by omega)
    show smS (bitI (n + 2) 3) g n + (if bitI (n + 2) 3 n = true then g n else 0) + (if bitI (n + 2) 3 (n + 1) = true then g (n + 1) else 0) = 0
    have b0 : bitI (n + 2) 3 n = true := by unfold bitI; rw [show n + 2 - 1 - n = 1 by omega]; decide
    have b1 : bitI (n + 2) 3 (n + 1) = true := by unfold bitI; rw [show n + 2 - 1 - (n + 1) = 0 by omega]; decide
    rw [e0, if_pos b0, if_pos b1]
    omega
  · have e : anb (2 ^ (n + 2) - 1) 3 = 4 * (2 ^ n - 1) := Nat.eq_of_testBit_eq fun i => by
      rw [ab_bit (by omega) (by decide), whole_bit, bits, whole_bit, show (3 : Nat) = 2 ^ 2 - 1 by decide, whole_bit]
      by_cases q : 2 ≤ i
      · rw [decide_eq_true q, decide_eq_false (show ¬ i < 2 by omega), Bool.true_and, Bool.not_false, Bool.and_true]
        exact decide_eq_decide.2 (by omega)
      · rw [decide_eq_false q, decide_eq_true (show i < 2 by omega)]; simp
    rw [e]
    refine Pk.carry (F := fun s => smS (bitI n s) f n) (n := n) (fun s => 4 * s) (fun q s hs hq => ?_) (fun q _ h0 => by omega) (fun q hq hz => ?_) (fun q s hs hq => ?_) (by omega) (mst_pk (by omega) (smS_addF n f (by omega)) _ (by omega))
    · refine sub_of fun i hi => ?_
      rw [bits] at hi ⊢
      simp at hi ⊢
      exact ⟨hi.1, hq.bit hi.2⟩
    · show smS (bitI (n + 2) (4 * q)) g n + (if bitI (n + 2) (4 * q) n = true then g n else 0) + (if bitI (n + 2) (4 * q) (n + 1) = true then g (n + 1) else 0) = 0
      have b0 : bitI (n + 2) (4 * q) n = false := by unfold bitI; rw [bits, decide_eq_false (by omega)]; rfl
      have b1 : bitI (n + 2) (4 * q) (n + 1) = false := by unfold bitI; rw [bits, decide_eq_false (by omega)]; rfl
      rw [if_neg (by rw [b0]; decide), if_neg (by rw [b1]; decide), Int.add_zero, Int.add_zero, ← hz, smS_fcongr h]
      refine smS_congr fun i hi => ?_
      unfold bitI
      rw [bits, decide_eq_true (by omega), Bool.true_and]
      congr 1; omega
    · have hql := hq.le
      refine Nat.eq_of_testBit_eq fun i => ?_
      rw [ab_bit (by omega) (by omega), bits, bits, bits, ab_bit (by omega) (by omega)]
      cases decide (2 ≤ i) <;> simp
end Go.Proofs.YtjonhhmapbibaaaDoor
