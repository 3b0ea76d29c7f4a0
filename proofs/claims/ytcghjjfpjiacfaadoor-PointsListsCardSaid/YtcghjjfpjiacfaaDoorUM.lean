/- Layer 7: math of subsets: lists of indices, their order, bits of numbers. -/
import Derived.Lib.BitFns
import Derived.Lib.TrailingZeros
namespace Go.Proofs.YtcghjjfpjiacfaaDoor

/-- The indices below n that a set has, ascending. -/
def ixs (p : Nat → Bool) (n : Nat) : List Nat := (List.range n).filter p
/-- The sum of a set. -/
def smS (p : Nat → Bool) (f : Nat → Int) : Nat → Int
  | 0 => 0
  | n + 1 => smS p f n + if p n = true then f n else 0
/-- The set of a number, the last index being the lowest bit. -/
def bitI (n s : Nat) : Nat → Bool := fun i => s.testBit (n - 1 - i)

theorem ixs_congr {p q : Nat → Bool} {n : Nat} (h : ∀ i, i < n → p i = q i) : ixs p n = ixs q n :=
  List.filter_congr fun i hi => h i (List.mem_range.1 hi)
theorem smS_congr {p q : Nat → Bool} {f : Nat → Int} : ∀ {n : Nat}, (∀ i, i < n → p i = q i) → smS p f n = smS q f n
  | 0, _ => rfl
  | n + 1, h => by unfold smS; rw [smS_congr fun i hi => h i (by omega), h n (by omega)]
theorem smS_upd {p q : Nat → Bool} {f : Nat → Int} {d : Nat} (hp : p d = true) (hq : q d = false) : ∀ {n : Nat}, (∀ i, i < n → i ≠ d → p i = q i) → d < n → smS p f n = smS q f n + f d
  | n + 1, he, h => by
    unfold smS
    by_cases e : d = n
    · subst e
      rw [smS_congr fun i hi => he i (by omega) (by omega), if_pos hp, if_neg (by simp [hq])]
      omega
    · rw [smS_upd hp hq (n := n) (fun i hi hn => he i (by omega) hn) (by omega), he n (by omega) (fun k => e k.symm)]
      omega
theorem smS_none {p : Nat → Bool} {f : Nat → Int} : ∀ {n : Nat}, (∀ i, i < n → p i = false) → smS p f n = 0
  | 0, _ => rfl
  | n + 1, h => by unfold smS; rw [smS_none fun i hi => h i (by omega), if_neg (by simp [h n (by omega)])]; rfl
theorem smS_bd {p : Nat → Bool} {f : Nat → Int} {B : Int} (hB : 0 ≤ B) : ∀ {n : Nat}, (∀ i, i < n → -B ≤ f i ∧ f i ≤ B) → -(n * B) ≤ smS p f n ∧ smS p f n ≤ n * B
  | 0, _ => by unfold smS; omega
  | n + 1, h => by
    unfold smS
    have ⟨a, b⟩ := smS_bd (p := p) hB (n := n) fun i hi => h i (by omega)
    have ⟨c, d⟩ := h n (by omega)
    have e : ((n + 1 : Nat) : Int) * B = n * B + B := by rw [Int.natCast_add, Int.add_mul]; omega
    rw [e]
    split <;> omega

/-- The sets of numbers are all sets. -/
def ofB (p : Nat → Bool) : Nat → Nat
  | 0 => 0
  | n + 1 => ofB p n + if p n = true then 2 ^ n else 0
theorem ofB_lt (p : Nat → Bool) : ∀ n, ofB p n < 2 ^ n
  | 0 => by simp [ofB]
  | n + 1 => by
    unfold ofB
    have := ofB_lt p n
    rw [Nat.pow_succ]
    split <;> omega
theorem ofB_bit (p : Nat → Bool) : ∀ n i, i < n → (ofB p n).testBit i = p i
  | n + 1, i, h => by
    unfold ofB
    have l := ofB_lt p n
    by_cases e : i = n
    · subst e
      by_cases hp : p i = true
      · rw [if_pos hp, Nat.add_comm, Nat.testBit_two_pow_add_eq, Nat.testBit_lt_two_pow l, hp]; rfl
      · rw [if_neg hp, Nat.add_zero, Nat.testBit_lt_two_pow l]; simpa using hp
    · rw [← ofB_bit p n i (by omega)]
      by_cases hp : p n = true
      · rw [if_pos hp, Nat.add_comm, Nat.testBit_two_pow_add_gt (by omega)]
      · rw [if_neg hp, Nat.add_zero]
theorem bitI_all (p : Nat → Bool) (n : Nat) : ∃ s, s < 2 ^ n ∧ ∀ i, i < n → bitI n s i = p i := by
  refine ⟨ofB (fun i => p (n - 1 - i)) n, ofB_lt _ _, fun i hi => ?_⟩
  unfold bitI
  rw [ofB_bit _ _ _ (by omega)]
  congr 1
  omega

/-- The order of lists, letter by letter. -/
def earl : List Nat → List Nat → Bool
  | [], [] => false
  | [], _ :: _ => true
  | _ :: _, [] => false
  | a :: l, b :: m => if a = b then earl l m else decide (a < b)
theorem earl_irr : ∀ l, earl l l = false
  | [] => rfl
  | a :: l => by unfold earl; rw [if_pos rfl]; exact earl_irr l
theorem earl_trans : ∀ {l m k : List Nat}, earl l m = true → earl m k = true → earl l k = true
  | [], [], _, h, _ => by cases h
  | [], _ :: _, [], _, h => by cases h
  | [], _ :: _, _ :: _, _, _ => rfl
  | _ :: _, [], _, h, _ => by cases h
  | _ :: _, _ :: _, [], _, h => by cases h
  | a :: l, b :: m, c :: k, h, g => by
    unfold earl at h g ⊢
    by_cases e : a = b
    · subst e
      rw [if_pos rfl] at h
      by_cases e2 : a = c
      · rw [if_pos e2] at g ⊢; exact earl_trans h g
      · rw [if_neg e2] at g ⊢; exact g
    · rw [if_neg e] at h
      by_cases e2 : b = c
      · subst e2; rw [if_neg e]; exact h
      · rw [if_neg e2] at g
        have h := of_decide_eq_true h
        have g := of_decide_eq_true g
        rw [if_neg (by omega)]
        exact decide_eq_true (by omega)
theorem earl_tot : ∀ {l m : List Nat}, l ≠ m → earl l m = true ∨ earl m l = true
  | [], [], h => absurd rfl h
  | [], _ :: _, _ => .inl rfl
  | _ :: _, [], _ => .inr rfl
  | a :: l, b :: m, h => by
    unfold earl
    by_cases e : a = b
    · subst e
      rw [if_pos rfl, if_pos rfl]
      exact earl_tot fun k => h (by rw [k])
    · rw [if_neg e, if_neg (fun k => e k.symm)]
      rcases Nat.lt_or_ge a b with q | q
      · exact .inl (decide_eq_true q)
      · exact .inr (decide_eq_true (by omega))
theorem earl_succ : ∀ l m, earl (l.map (· + 1)) (m.map (· + 1)) = earl l m
  | [], [] => rfl
  | [], _ :: _ => rfl
  | _ :: _, [] => rfl
  | a :: l, b :: m => by
    simp only [List.map_cons]
    unfold earl
    by_cases e : a = b
    · rw [if_pos e, if_pos (by omega)]; exact earl_succ l m
    · rw [if_neg e, if_neg (by omega)]
      exact decide_eq_decide.2 (by omega)

/-- The order of subsets: by their lengths, then letter by letter. -/
def bef (a b : List Nat) : Prop := a.length < b.length ∨ a.length = b.length ∧ earl a b = true
theorem bef_trans {a b c : List Nat} (h : bef a b) (k : bef b c) : bef a c := by
  rcases h with h | ⟨h, h2⟩ <;> rcases k with k | ⟨k, k2⟩
  · exact .inl (by omega)
  · exact .inl (by omega)
  · exact .inl (by omega)
  · exact .inr ⟨by omega, earl_trans h2 k2⟩
theorem bef_irr {a : List Nat} (h : bef a a) : False := by
  rcases h with h | ⟨_, h⟩
  · omega
  · rw [earl_irr] at h; cases h
theorem bef_tot {a b : List Nat} (h : a ≠ b) : bef a b ∨ bef b a := by
  rcases Nat.lt_trichotomy a.length b.length with q | q | q
  · exact .inl (.inl q)
  · rcases earl_tot h with e | e
    · exact .inl (.inr ⟨q, e⟩)
    · exact .inr (.inr ⟨q.symm, e⟩)
  · exact .inr (.inl q)
/-- The first one of a family. -/
def IsFst (F : List Nat → Prop) (r : List Nat) : Prop := F r ∧ ∀ x, F x → x = r ∨ bef r x
theorem IsFst.uniq {F : List Nat → Prop} {r s : List Nat} (h : IsFst F r) (k : IsFst F s) : r = s := by
  rcases h.2 s k.1 with e | e
  · exact e.symm
  · rcases k.2 r h.1 with e2 | e2
    · exact e2
    · exact (bef_irr (bef_trans e e2)).elim

theorem ixs_succ (n s : Nat) : ixs (bitI (n + 1) s) (n + 1) = (if s.testBit n = true then [0] else []) ++ (ixs (bitI n (s % 2 ^ n)) n).map (· + 1) := by
  unfold ixs
  rw [List.range_succ_eq_map, List.filter_cons, List.filter_map]
  have e0 : bitI (n + 1) s 0 = s.testBit n := by unfold bitI; rfl
  have e1 : (List.range n).filter (bitI (n + 1) s ∘ Nat.succ) = (List.range n).filter (bitI n (s % 2 ^ n)) := by
    refine List.filter_congr fun i hi => ?_
    have hi := List.mem_range.1 hi
    show bitI (n + 1) s (i + 1) = _
    unfold bitI
    rw [Nat.testBit_mod_two_pow, decide_eq_true (by omega), Bool.true_and]
    congr 1
    omega
  rw [e0, e1]
  split <;> rfl

/-- Of as many indices, the greater number comes first. -/
theorem earl_num : ∀ (n s t : Nat), s < 2 ^ n → t < 2 ^ n → t < s → (ixs (bitI n s) n).length = (ixs (bitI n t) n).length → earl (ixs (bitI n s) n) (ixs (bitI n t) n) = true
  | 0, s, t, h, _, k, _ => by simp at h; omega
  | n + 1, s, t, h, g, k, e => by
    rw [ixs_succ, ixs_succ] at e ⊢
    rw [Nat.pow_succ] at h g
    have hs := Nat.div_add_mod s (2 ^ n)
    have ht := Nat.div_add_mod t (2 ^ n)
    have ms := Nat.mod_lt s (Nat.two_pow_pos n)
    have mt := Nat.mod_lt t (Nat.two_pow_pos n)
    have bs : s.testBit n = decide (2 ^ n ≤ s) := by
      rw [Nat.testBit_eq_decide_div_mod_eq]
      refine decide_eq_decide.2 ⟨fun q => ?_, fun q => ?_⟩
      · rcases Nat.lt_or_ge s (2 ^ n) with z | z
        · rw [Nat.div_eq_of_lt z] at q; omega
        · exact z
      · have : s / 2 ^ n = 1 := by
          rw [Nat.div_eq_iff (Nat.two_pow_pos n)]; omega
        rw [this]
    have bt : t.testBit n = decide (2 ^ n ≤ t) := by
      rw [Nat.testBit_eq_decide_div_mod_eq]
      refine decide_eq_decide.2 ⟨fun q => ?_, fun q => ?_⟩
      · rcases Nat.lt_or_ge t (2 ^ n) with z | z
        · rw [Nat.div_eq_of_lt z] at q; omega
        · exact z
      · have : t / 2 ^ n = 1 := by
          rw [Nat.div_eq_iff (Nat.two_pow_pos n)]; omega
        rw [this]
    rw [bs, bt] at e ⊢
    by_cases p : 2 ^ n ≤ s <;> by_cases q : 2 ^ n ≤ t
    · rw [if_pos (decide_eq_true p), if_pos (decide_eq_true q)] at e ⊢
      simp only [List.cons_append, List.nil_append, List.length_cons, List.length_map, Nat.add_right_cancel_iff] at e ⊢
      unfold earl
      rw [if_pos rfl, earl_succ]
      refine earl_num n _ _ ms mt ?_ e
      rw [Nat.mod_eq_sub_mod p, Nat.mod_eq_of_lt (show s - 2 ^ n < 2 ^ n by omega), Nat.mod_eq_sub_mod q, Nat.mod_eq_of_lt (show t - 2 ^ n < 2 ^ n by omega)]
      omega
    · rw [if_pos (decide_eq_true p), if_neg (by simpa using q)] at e ⊢
      simp only [List.cons_append, List.nil_append, List.length_cons, List.length_map] at e ⊢
      cases hx : ixs (bitI n (t % 2 ^ n)) n with
      | nil => rw [hx] at e; simp at e
      | cons a l =>
        simp only [List.map_cons]
        unfold earl
        rw [if_neg (by omega)]
        exact decide_eq_true (by omega)
    · omega
    · rw [if_neg (by simpa using p), if_neg (by simpa using q)] at e ⊢
      simp only [List.nil_append, List.length_map] at e ⊢
      rw [earl_succ]
      refine earl_num n _ _ ms mt ?_ e
      rw [Nat.mod_eq_of_lt (show s < 2 ^ n by omega), Nat.mod_eq_of_lt (show t < 2 ^ n by omega)]
      exact k

/-! Bits. -/
theorem anb_bit {a b : Nat} (hb : b < 18446744073709551616) (ha : a < 18446744073709551616) (i : Nat) : (a &&& (18446744073709551615 - b)).testBit i = (a.testBit i && !b.testBit i) := by
  have e : 18446744073709551615 - b = 2 ^ 64 - (b + 1) := by omega
  rw [Nat.testBit_and, e, Nat.testBit_two_pow_sub_succ (by omega)]
  rcases Nat.lt_or_ge i 64 with h | h
  · rw [decide_eq_true h, Bool.true_and]
  · rw [Nat.testBit_lt_two_pow (x := a) (i := i) (Nat.lt_of_lt_of_le (show a < 2 ^ 64 by omega) (Nat.pow_le_pow_right (by decide) h))]
    rfl

/-- The lowest bit of a number. -/
structure LowB (n s t : Nat) : Prop where
  lt : t < n
  tz : Go.Lib.ctz 64 s = t
  on : s.testBit t = true
  off : ∀ i, i < t → s.testBit i = false
  cut : ∀ i, (s &&& (s - 1)).testBit i = (s.testBit i && decide (i ≠ t))
  low : s &&& (18446744073709551616 - s) = 2 ^ t
theorem low_tz {n s : Nat} (h0 : 0 < s) (h : s < 2 ^ n) (hn : n ≤ 64) : ∃ t, LowB n s t := by
  have h64 : s < 2 ^ 64 := Nat.lt_of_lt_of_le h (Nat.pow_le_pow_right (by decide) hn)
  obtain ⟨m, hm, hk⟩ := Go.Lib.ctzFrom_spec 64 s h0 h64
  have hl := (Go.Lib.lowest_bit 64 s (by omega) h64).1
  have e : Go.Lib.ctz 64 s = Go.Lib.ctzFrom 64 s := by simp [Go.Lib.ctz]; omega
  rw [e] at hl
  generalize Go.Lib.ctzFrom 64 s = t at *
  have on : s.testBit t = true := by
    rw [hm, Nat.mul_comm, Nat.testBit_mul_two_pow]
    simp
  have off : ∀ i, i < t → s.testBit i = false := fun i hi => by
    rw [hm, Nat.mul_comm, Nat.testBit_mul_two_pow, decide_eq_false (by omega)]
    rfl
  have htn : t < n := by
    rcases Nat.lt_or_ge t n with q | q
    · exact q
    · rw [Nat.testBit_lt_two_pow (Nat.lt_of_lt_of_le h (Nat.pow_le_pow_right (by decide) q))] at on
      cases on
  refine ⟨t, htn, e, on, off, fun i => ?_, hl⟩
  have e1 : s - 1 = 2 ^ t * (2 * m) + (2 ^ t - 1) := by
    have := Nat.two_pow_pos t
    rw [hm, Nat.mul_add, Nat.mul_one]
    omega
  rw [Nat.testBit_and]
  rcases Nat.lt_trichotomy i t with q | q | q
  · rw [off i q, Bool.false_and, Bool.false_and]
  · subst q
    rw [e1, Nat.testBit_two_pow_mul_add _ (by have := Nat.two_pow_pos i; omega), if_neg (Nat.lt_irrefl _), Nat.sub_self]
    simp
  · rw [decide_eq_true (by omega), Bool.and_true, e1, Nat.testBit_two_pow_mul_add _ (by have := Nat.two_pow_pos t; omega), if_neg (by omega)]
    rw [hm, Nat.mul_comm (2 ^ t), Nat.testBit_mul_two_pow, decide_eq_true (by omega), Bool.true_and]
    obtain ⟨j, hj⟩ : ∃ j, i - t = j + 1 := ⟨i - t - 1, by omega⟩
    rw [hj, Nat.testBit_succ, Nat.testBit_succ, show (2 * m + 1) / 2 = m by omega, show 2 * m / 2 = m by omega, Bool.and_self]

/-- A sum is that of the set without its last index, and its number. -/
theorem sum_low {n s : Nat} {f : Nat → Int} (h0 : 0 < s) (h : s < 2 ^ n) (hn : n ≤ 64) : smS (bitI n s) f n = smS (bitI n (s &&& (s - 1))) f n + f (n - 1 - Go.Lib.ctz 64 s) := by
  obtain ⟨t, ht⟩ := low_tz h0 h hn
  rw [ht.tz]
  have lt := ht.lt
  have e : n - 1 - (n - 1 - t) = t := by omega
  refine smS_upd ?_ ?_ (fun i hi hne => ?_) (by omega)
  · unfold bitI; rw [e]; exact ht.on
  · unfold bitI; rw [e, ht.cut]; simp
  · unfold bitI
    rw [ht.cut, decide_eq_true (by omega), Bool.and_true]

theorem len_succ (n s : Nat) : (ixs (bitI (n + 1) s) (n + 1)).length = s % 2 + (ixs (bitI n (s / 2)) n).length := by
  unfold ixs
  rw [List.range_succ, List.filter_append, List.length_append]
  have e1 : (List.range n).filter (bitI (n + 1) s) = (List.range n).filter (bitI n (s / 2)) := by
    refine List.filter_congr fun i hi => ?_
    have hi := List.mem_range.1 hi
    unfold bitI
    rw [Nat.testBit_div_two]
    congr 1
    omega
  have e2 : bitI (n + 1) s n = decide (s % 2 = 1) := by
    unfold bitI
    rw [show n + 1 - 1 - n = 0 by omega, Nat.testBit_zero]
  rw [e1, List.filter_cons, e2]
  rcases Nat.mod_two_eq_zero_or_one s with q | q <;> rw [q] <;> simp <;> omega
theorem pop_len : ∀ (n k s : Nat), s < 2 ^ n → n ≤ k → Go.Lib.popAux k s = (ixs (bitI n s) n).length
  | 0, k, s, h, _ => by
    have : s = 0 := by simp at h; exact h
    subst this
    have z : ∀ k, Go.Lib.popAux k 0 = 0 := fun k => by
      induction k with
      | zero => rfl
      | succ k ih => unfold Go.Lib.popAux; rw [Nat.zero_div, ih]
    rw [z]; rfl
  | n + 1, 0, s, _, h => by omega
  | n + 1, k + 1, s, h, hk => by
    rw [len_succ]
    unfold Go.Lib.popAux
    rw [Nat.pow_succ] at h
    rw [pop_len n k (s / 2) (by omega) (by omega)]

/-- Of the numbers below one that have no other bits than some number, the greatest. -/
theorem prev_sub : ∀ (p q left : Nat), p &&& left = p → q &&& left = q → q < p → q ≤ (p - 1) &&& left := by
  intro p
  induction p using Nat.strongRecOn with
  | ind p ih =>
    intro q left hp hq h
    have d2 : ∀ x y : Nat, (x &&& y) / 2 = (x / 2) &&& (y / 2) := fun x y => Nat.and_div_two
    have m2 : ∀ x y : Nat, (x &&& y) % 2 = (x % 2) * (y % 2) := fun x y => by
      have h := Nat.testBit_and x y 0
      rw [Nat.testBit_zero, Nat.testBit_zero, Nat.testBit_zero] at h
      have hz := Nat.mod_lt (x &&& y) (show 0 < 2 by decide)
      generalize (x &&& y) % 2 = z at *
      rcases Nat.mod_two_eq_zero_or_one x with a | a <;> rcases Nat.mod_two_eq_zero_or_one y with b | b <;> rw [a, b] at h ⊢ <;> simp at h <;> omega
    have a1 := d2 p left
    have a2 := d2 q left
    have a3 := d2 (p - 1) left
    have b1 := m2 p left
    have b2 := m2 q left
    have b3 := m2 (p - 1) left
    rw [hp] at a1 b1
    rw [hq] at a2 b2
    generalize hr : (p - 1) &&& left = r at *
    rcases Nat.mod_two_eq_zero_or_one p with e | e
    · have c : (p - 1) / 2 = p / 2 - 1 := by omega
      have c2 : (p - 1) % 2 = 1 := by omega
      rw [c] at a3
      rw [c2, Nat.one_mul] at b3
      have := ih (p / 2) (by omega) (q / 2) (left / 2) a1.symm a2.symm (by rcases Nat.mod_two_eq_zero_or_one q with z | z <;> omega)
      rw [← a3] at this
      have b4 : q % 2 ≤ left % 2 := by
        rcases Nat.mod_two_eq_zero_or_one q with z | z
        · omega
        · rw [z, Nat.one_mul] at b2; omega
      omega
    · have c : (p - 1) / 2 = p / 2 := by omega
      rw [c, ← a1] at a3
      omega
end Go.Proofs.YtcghjjfpjiacfaaDoor
