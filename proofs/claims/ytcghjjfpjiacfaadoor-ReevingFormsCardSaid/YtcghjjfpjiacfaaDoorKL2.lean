/- Layer 2: fractions, their texts, the reference (for layer 10: the texts RMath to RRef9 in one); regions that draw; memory. -/
import Derived.Lib.BitFns
import Derived.Lib.TrailingZeros
import Derived.Test.YtcghjjfpjiacfaaDoorRows
import Derived.WalkKit
import Derived.WalkSpells
import Derived.WalkLawsBesides
import Derived.Deep.QuietTactic
import Derived.BigQuiet
import Derived.Lib.Hide
import Derived.Test.YtcghjjfpjiacfaaDoorShelf
import Derived.Shelf.Spec.BitsCarry
import Derived.StillTactics
import Derived.Deep.RegionHeld3
import Derived.RowKit3
import Derived.Handy
import Derived.Lib.ItoaNum
import Derived.Deep.DeepCutAuto
import Derived.Lib.AppendIntMem
import Derived.Lib.ItoaLen
import Derived.Laws.Concat
import Derived.ProofKit
import Derived.Deep.Cut
import Derived.Laws.AppendOwn
import Derived.Deep.AppendLies
import Derived.Laws.CopyOwn
import Derived.OpenShut
import Derived.Carry
import Derived.Lib.SmallJoins
import Derived.Lib.AtoiErrMem
import Derived.Deep.Draws
import Derived.Laws.BitsAllLaws
namespace Go.Proofs.YtcghjjfpjiacfaaDoor

/-- The indices below n that a set has, ascending. -/
def ixs (p : Nat → Bool) (n : Nat) : List Nat := (List.range n).filter p
/-- The sum of a set. -/
def smS (p : Nat → Bool) (f : Nat → Int) : Nat → Int
  | 0 => 0
  | n + 1 => smS p f n + if p n = true then f n else 0
/-- The set of a number, the last index being the lowest bit. -/
def bitI (n s : Nat) : Nat → Bool := fun i => s.testBit (n - 1 - i)

theorem ixs_congr {p q : Nat → Bool} {n : Nat} (h : ∀ i, i < n → p i = q i) : ixs p n = ixs q n :=
  List.filter_congr fun i hi => h i (List.mem_range.1 hi)
theorem smS_congr {p q : Nat → Bool} {f : Nat → Int} : ∀ {n : Nat}, (∀ i, i < n → p i = q i) → smS p f n = smS q f n
  | 0, _ => rfl
  | n + 1, h => by unfold smS; rw [smS_congr fun i hi => h i (by omega), h n (by omega)]
theorem smS_upd {p q : Nat → Bool} {f : Nat → Int} {d : Nat} (hp : p d = true) (hq : q d = false) : ∀ {n : Nat}, (∀ i, i < n → i ≠ d → p i = q i) → d < n → smS p f n = smS q f n + f d
  | n + 1, he, h => by
    unfold smS
    by_cases e : d = n
    · subst e
      rw [smS_congr fun i hi => he i (by omega) (by omega), if_pos hp, if_neg (by simp [hq])]
      omega
    · rw [smS_upd hp hq (n := n) (fun i hi hn => he i (by omega) hn) (by omega), he n (by omega) (fun k => e k.symm)]
      omega
theorem smS_none {p : Nat → Bool} {f : Nat → Int} : ∀ {n : Nat}, (∀ i, i < n → p i = false) → smS p f n = 0
  | 0, _ => rfl
  | n + 1, h => by unfold smS; rw [smS_none fun i hi => h i (by omega), if_neg (by simp [h n (by omega)])]; rfl
theorem smS_bd {p : Nat → Bool} {f : Nat → Int} {B : Int} (hB : 0 ≤ B) : ∀ {n : Nat}, (∀ i, i < n → -B ≤ f i ∧ f i ≤ B) → -(n * B) ≤ smS p f n ∧ smS p f n ≤ n * B
  | 0, _ => by unfold smS; omega
  | n + 1, h => by
    unfold smS
    have ⟨a, b⟩ := smS_bd (p := p) hB (n := n) fun i hi => h i (by omega)
    have ⟨c, d⟩ := h n (by omega)
    have e : ((n + 1 : Nat) : Int) * B = n * B + B := by rw [Int.natCast_add, Int.add_mul]; omega
    rw [e]
    split <;> omega

/-- The sets of numbers are all sets. -/
def ofB (p : Nat → Bool) : Nat → Nat
  | 0 => 0
  | n + 1 => ofB p n + if p n = true then 2 ^ n else 0
theorem ofB_lt (p : Nat → Bool) : ∀ n, ofB p n < 2 ^ n
  | 0 => by simp [ofB]
  | n + 1 => by
    unfold ofB
    have := ofB_lt p n
    rw [Nat.pow_succ]
    split <;> omega
theorem ofB_bit (p : Nat → Bool) : ∀ n i, i < n → (ofB p n).testBit i = p i
  | n + 1, i, h => by
    unfold ofB
    have l := ofB_lt p n
    by_cases e : i = n
    · subst e
      by_cases hp : p i = true
      · rw [if_pos hp, Nat.add_comm, Nat.testBit_two_pow_add_eq, Nat.testBit_lt_two_pow l, hp]; rfl
      · rw [if_neg hp, Nat.add_zero, Nat.testBit_lt_two_pow l]; simpa using hp
    · rw [← ofB_bit p n i (by omega)]
      by_cases hp : p n = true
      · rw [if_pos hp, Nat.add_comm, Nat.testBit_two_pow_add_gt (by omega)]
      · rw [if_neg hp, Nat.add_zero]
theorem bitI_all (p : Nat → Bool) (n : Nat) : ∃ s, s < 2 ^ n ∧ ∀ i, i < n → bitI n s i = p i := by
  refine ⟨ofB (fun i => p (n - 1 - i)) n, ofB_lt _ _, fun i hi => ?_⟩
  unfold bitI
  rw [ofB_bit _ _ _ (by omega)]
  congr 1
  omega

/-- The order of lists, letter by letter. -/
def earl : List Nat → List Nat → Bool
  | [], [] => false
  | [], _ :: _ => true
  | _ :: _, [] => false
  | a :: l, b :: m => if a = b then earl l m else decide (a < b)
theorem earl_irr : ∀ l, earl l l = false
  | [] => rfl
  | a :: l => by unfold earl; rw [if_pos rfl]; exact earl_irr l
theorem earl_trans : ∀ {l m k : List Nat}, earl l m = true → earl m k = true → earl l k = true
  | [], [], _, h, _ => by cases h
  | [], _ :: _, [], _, h => by cases h
  | [], _ :: _, _ :: _, _, _ => rfl
  | _ :: _, [], _, h, _ => by cases h
  | _ :: _, _ :: _, [], _, h => by cases h
  | a :: l, b :: m, c :: k, h, g => by
    unfold earl at h g ⊢
    by_cases e : a = b
    · subst e
      rw [if_pos rfl] at h
      by_cases e2 : a = c
      · rw [if_pos e2] at g ⊢; exact earl_trans h g
      · rw [if_neg e2] at g ⊢; exact g
    · rw [if_neg e] at h
      by_cases e2 : b = c
      · subst e2; rw [if_neg e]; exact h
      · rw [if_neg e2] at g
        have h := of_decide_eq_true h
        have g := of_decide_eq_true g
        rw [if_neg (by omega)]
        exact decide_eq_true (by omega)
theorem earl_tot : ∀ {l m : List Nat}, l ≠ m → earl l m = true ∨ earl m l = true
  | [], [], h => absurd rfl h
  | [], _ :: _, _ => .inl rfl
  | _ :: _, [], _ => .inr rfl
  | a :: l, b :: m, h => by
    unfold earl
    by_cases e : a = b
    · subst e
      rw [if_pos rfl, if_pos rfl]
      exact earl_tot fun k => h (by rw [k])
    · rw [if_neg e, if_neg (fun k => e k.symm)]
      rcases Nat.lt_or_ge a b with q | q
      · exact .inl (decide_eq_true q)
      · exact .inr (decide_eq_true (by omega))
theorem earl_succ : ∀ l m, earl (l.map (· + 1)) (m.map (· + 1)) = earl l m
  | [], [] => rfl
  | [], _ :: _ => rfl
  | _ :: _, [] => rfl
  | a :: l, b :: m => by
    simp only [List.map_cons]
    unfold earl
    by_cases e : a = b
    · rw [if_pos e, if_pos (by omega)]; exact earl_succ l m
    · rw [if_neg e, if_neg (by omega)]
      exact decide_eq_decide.2 (by omega)

/-- The order of subsets: by their lengths, then letter by letter. -/
def bef (a b : List Nat) : Prop := a.length < b.length ∨ a.length = b.length ∧ earl a b = true
theorem bef_trans {a b c : List Nat} (h : bef a b) (k : bef b c) : bef a c := by
  rcases h with h | ⟨h, h2⟩ <;> rcases k with k | ⟨k, k2⟩
  · exact .inl (by omega)
  · exact .inl (by omega)
  · exact .inl (by omega)
  · exact .inr ⟨by omega, earl_trans h2 k2⟩
theorem bef_irr {a : List Nat} (h : bef a a) : False := by
  rcases h with h | ⟨_, h⟩
  · omega
  · rw [earl_irr] at h; cases h
theorem bef_tot {a b : List Nat} (h : a ≠ b) : bef a b ∨ bef b a := by
  rcases Nat.lt_trichotomy a.length b.length with q | q | q
  · exact .inl (.inl q)
  · rcases earl_tot h with e | e
    · exact .inl (.inr ⟨q, e⟩)
    · exact .inr (.inr ⟨q.symm, e⟩)
  · exact .inr (.inl q)
/-- The first one of a family. -/
def IsFst (F : List Nat → Prop) (r : List Nat) : Prop := F r ∧ ∀ x, F x → x = r ∨ bef r x
theorem IsFst.uniq {F : List Nat → Prop} {r s : List Nat} (h : IsFst F r) (k : IsFst F s) : r = s := by
  rcases h.2 s k.1 with e | e
  · exact e.symm
  · rcases k.2 r h.1 with e2 | e2
    · exact e2
    · exact (bef_irr (bef_trans e e2)).elim

theorem ixs_succ (n s : Nat) : ixs (bitI (n + 1) s) (n + 1) = (if s.testBit n = true then [0] else []) ++ (ixs (bitI n (s % 2 ^ n)) n).map (· + 1) := by
  unfold ixs
  rw [List.range_succ_eq_map, List.filter_cons, List.filter_map]
  have e0 : bitI (n + 1) s 0 = s.testBit n := by unfold bitI; rfl
  have e1 : (List.range n).filter (bitI (n + 1) s ∘ Nat.succ) = (List.range n).filter (bitI n (s % 2 ^ n)) := by
    refine List.filter_congr fun i hi => ?_
    have hi := List.mem_range.1 hi
    show bitI (n + 1) s (i + 1) = _
    unfold bitI
    rw [Nat.testBit_mod_two_pow, decide_eq_true (by omega), Bool.true_and]
    congr 1
    omega
  rw [e0, e1]
  split <;> rfl

/-- Of as many indices, the greater number comes first. -/
theorem earl_num : ∀ (n s t : Nat), s < 2 ^ n → t < 2 ^ n → t < s → (ixs (bitI n s) n).length = (ixs (bitI n t) n).length → earl (ixs (bitI n s) n) (ixs (bitI n t) n) = true
  | 0, s, t, h, _, k, _ => by simp at h; omega
  | n + 1, s, t, h, g, k, e => by
    rw [ixs_succ, ixs_succ] at e ⊢
    rw [Nat.pow_succ] at h g
    have hs := Nat.div_add_mod s (2 ^ n)
    have ht := Nat.div_add_mod t (2 ^ n)
    have ms := Nat.mod_lt s (Nat.two_pow_pos n)
    have mt := Nat.mod_lt t (Nat.two_pow_pos n)
    have bs : s.testBit n = decide (2 ^ n ≤ s) := by
      rw [Nat.testBit_eq_decide_div_mod_eq]
      refine decide_eq_decide.2 ⟨fun q => ?_, fun q => ?_⟩
      · rcases Nat.lt_or_ge s (2 ^ n) with z | z
        · rw [Nat.div_eq_of_lt z] at q; omega
        · exact z
      · have : s / 2 ^ n = 1 := by
          rw [Nat.div_eq_iff (Nat.two_pow_pos n)]; omega
        rw [this]
    have bt : t.testBit n = decide (2 ^ n ≤ t) := by
      rw [Nat.testBit_eq_decide_div_mod_eq]
      refine decide_eq_decide.2 ⟨fun q => ?_, fun q => ?_⟩
      · rcases Nat.lt_or_ge t (2 ^ n) with z | z
        · rw [Nat.div_eq_of_lt z] at q; omega
        · exact z
      · have : t / 2 ^ n = 1 := by
          rw [Nat.div_eq_iff (Nat.two_pow_pos n)]; omega
        rw [this]
    rw [bs, bt] at e ⊢
    by_cases p : 2 ^ n ≤ s <;> by_cases q : 2 ^ n ≤ t
    · rw [if_pos (decide_eq_true p), if_pos (decide_eq_true q)] at e ⊢
      simp only [List.cons_append, List.nil_append, List.length_cons, List.length_map, Nat.add_right_cancel_iff] at e ⊢
      unfold earl
      rw [if_pos rfl, earl_succ]
      refine earl_num n _ _ ms mt ?_ e
      rw [Nat.mod_eq_sub_mod p, Nat.mod_eq_of_lt (show s - 2 ^ n < 2 ^ n by omega), Nat.mod_eq_sub_mod q, Nat.mod_eq_of_lt (show t - 2 ^ n < 2 ^ n by omega)]
      omega
    · rw [if_pos (decide_eq_true p), if_neg (by simpa using q)] at e ⊢
      simp only [List.cons_append, List.nil_append, List.length_cons, List.length_map] at e ⊢
      cases hx : ixs (bitI n (t % 2 ^ n)) n with
      | nil => rw [hx] at e; simp at e
      | cons a l =>
        simp only [List.map_cons]
        unfold earl
        rw [if_neg (by omega)]
        exact decide_eq_true (by omega)
    · omega
    · rw [if_neg (by simpa using p), if_neg (by simpa using q)] at e ⊢
      simp only [List.nil_append, List.length_map] at e ⊢
      rw [earl_succ]
      refine earl_num n _ _ ms mt ?_ e
      rw [Nat.mod_eq_of_lt (show s < 2 ^ n by omega), Nat.mod_eq_of_lt (show t < 2 ^ n by omega)]
      exact k

/-! Bits. -/
theorem anb_bit {a b : Nat} (hb : b < 18446744073709551616) (ha : a < 18446744073709551616) (i : Nat) : (a &&& (18446744073709551615 - b)).testBit i = (a.testBit i && !b.testBit i) := by
  have e : 18446744073709551615 - b = 2 ^ 64 - (b + 1) := by omega
  rw [Nat.testBit_and, e, Nat.testBit_two_pow_sub_succ (by omega)]
  rcases Nat.lt_or_ge i 64 with h | h
  · rw [decide_eq_true h, Bool.true_and]
  · rw [Nat.testBit_lt_two_pow (x := a) (i := i) (Nat.lt_of_lt_of_le (show a < 2 ^ 64 by omega) (Nat.pow_le_pow_right (by decide) h))]
    rfl

/-- The lowest bit of a number. -/
structure LowB (n s t : Nat) : Prop where
  lt : t < n
  tz : Go.Lib.ctz 64 s = t
  on : s.testBit t = true
  off : ∀ i, i < t → s.testBit i = false
  cut : ∀ i, (s &&& (s - 1)).testBit i = (s.testBit i && decide (i ≠ t))
  low : s &&& (18446744073709551616 - s) = 2 ^ t
theorem low_tz {n s : Nat} (h0 : 0 < s) (h : s < 2 ^ n) (hn : n ≤ 64) : ∃ t, LowB n s t := by
  have h64 : s < 2 ^ 64 := Nat.lt_of_lt_of_le h (Nat.pow_le_pow_right (by decide) hn)
  obtain ⟨m, hm, hk⟩ := Go.Lib.ctzFrom_spec 64 s h0 h64
  have hl := (Go.Lib.lowest_bit 64 s (by omega) h64).1
  have e : Go.Lib.ctz 64 s = Go.Lib.ctzFrom 64 s := by simp [Go.Lib.ctz]; omega
  rw [e] at hl
  generalize Go.Lib.ctzFrom 64 s = t at *
  have on : s.testBit t = true := by
    rw [hm, Nat.mul_comm, Nat.testBit_mul_two_pow]
    simp
  have off : ∀ i, i < t → s.testBit i = false := fun i hi => by
    rw [hm, Nat.mul_comm, Nat.testBit_mul_two_pow, decide_eq_false (by omega)]
    rfl
  have htn : t < n := by
    rcases Nat.lt_or_ge t n with q | q
    · exact q
    · rw [Nat.testBit_lt_two_pow (Nat.lt_of_lt_of_le h (Nat.pow_le_pow_right (by decide) q))] at on
      cases on
  refine ⟨t, htn, e, on, off, fun i => ?_, hl⟩
  have e1 : s - 1 = 2 ^ t * (2 * m) + (2 ^ t - 1) := by
    have := Nat.two_pow_pos t
    rw [hm, Nat.mul_add, Nat.mul_one]
    omega
  rw [Nat.testBit_and]
  rcases Nat.lt_trichotomy i t with q | q | q
  · rw [off i q, Bool.false_and, Bool.false_and]
  · subst q
    rw [e1, Nat.testBit_two_pow_mul_add _ (by have := Nat.two_pow_pos i; omega), if_neg (Nat.lt_irrefl _), Nat.sub_self]
    simp
  · rw [decide_eq_true (by omega), Bool.and_true, e1, Nat.testBit_two_pow_mul_add _ (by have := Nat.two_pow_pos t; omega), if_neg (by omega)]
    rw [hm, Nat.mul_comm (2 ^ t), Nat.testBit_mul_two_pow, decide_eq_true (by omega), Bool.true_and]
    obtain ⟨j, hj⟩ : ∃ j, i - t = j + 1 := ⟨i - t - 1, by omega⟩
    rw [hj, Nat.testBit_succ, Nat.testBit_succ, show (2 * m + 1) / 2 = m by omega, show 2 * m / 2 = m by omega, Bool.and_self]

/-- A sum is that of the set without its last index, and its number. -/
theorem sum_low {n s : Nat} {f : Nat → Int} (h0 : 0 < s) (h : s < 2 ^ n) (hn : n ≤ 64) : smS (bitI n s) f n = smS (bitI n (s &&& (s - 1))) f n + f (n - 1 - Go.Lib.ctz 64 s) := by
  obtain ⟨t, ht⟩ := low_tz h0 h hn
  rw [ht.tz]
  have lt := ht.lt
  have e : n - 1 - (n - 1 - t) = t := by omega
  refine smS_upd ?_ ?_ (fun i hi hne => ?_) (by omega)
  · unfold bitI; rw [e]; exact ht.on
  · unfold bitI; rw [e, ht.cut]; simp
  · unfold bitI
    rw [ht.cut, decide_eq_true (by omega), Bool.and_true]

theorem len_succ (n s : Nat) : (ixs (bitI (n + 1) s) (n + 1)).length = s % 2 + (ixs (bitI n (s / 2)) n).length := by
  unfold ixs
  rw [List.range_succ, List.filter_append, List.length_append]
  have e1 : (List.range n).filter (bitI (n + 1) s) = (List.range n).filter (bitI n (s / 2)) := by
    refine List.filter_congr fun i hi => ?_
    have hi := List.mem_range.1 hi
    unfold bitI
    rw [Nat.testBit_div_two]
    congr 1
    omega
  have e2 : bitI (n + 1) s n = decide (s % 2 = 1) := by
    unfold bitI
    rw [show n + 1 - 1 - n = 0 by omega, Nat.testBit_zero]
  rw [e1, List.filter_cons, e2]
  rcases Nat.mod_two_eq_zero_or_one s with q | q <;> rw [q] <;> simp <;> omega
theorem pop_len : ∀ (n k s : Nat), s < 2 ^ n → n ≤ k → Go.Lib.popAux k s = (ixs (bitI n s) n).length
  | 0, k, s, h, _ => by
    have : s = 0 := by simp at h; exact h
    subst this
    have z : ∀ k, Go.Lib.popAux k 0 = 0 := fun k => by
      induction k with
      | zero => rfl
      | succ k ih => unfold Go.Lib.popAux; rw [Nat.zero_div, ih]
    rw [z]; rfl
  | n + 1, 0, s, _, h => by omega
  | n + 1, k + 1, s, h, hk => by
    rw [len_succ]
    unfold Go.Lib.popAux
    rw [Nat.pow_succ] at h
    rw [pop_len n k (s / 2) (by omega) (by omega)]

/-- Of the numbers below one that have no other bits than some number, the greatest. -/
theorem prev_sub : ∀ (p q left : Nat), p &&& left = p → q &&& left = q → q < p → q ≤ (p - 1) &&& left := by
  intro p
  induction p using Nat.strongRecOn with
  | ind p ih =>
    intro q left hp hq h
    have d2 : ∀ x y : Nat, (x &&& y) / 2 = (x / 2) &&& (y / 2) := fun x y => Nat.and_div_two
    have m2 : ∀ x y : Nat, (x &&& y) % 2 = (x % 2) * (y % 2) := fun x y => by
      have h := Nat.testBit_and x y 0
      rw [Nat.testBit_zero, Nat.testBit_zero, Nat.testBit_zero] at h
      have hz := Nat.mod_lt (x &&& y) (show 0 < 2 by decide)
      generalize (x &&& y) % 2 = z at *
      rcases Nat.mod_two_eq_zero_or_one x with a | a <;> rcases Nat.mod_two_eq_zero_or_one y with b | b <;> rw [a, b] at h ⊢ <;> simp at h <;> omega
    have a1 := d2 p left
    have a2 := d2 q left
    have a3 := d2 (p - 1) left
    have b1 := m2 p left
    have b2 := m2 q left
    have b3 := m2 (p - 1) left
    rw [hp] at a1 b1
    rw [hq] at a2 b2
    generalize hr : (p - 1) &&& left = r at *
    rcases Nat.mod_two_eq_zero_or_one p with e | e
    · have c : (p - 1) / 2 = p / 2 - 1 := by omega
      have c2 : (p - 1) % 2 = 1 := by omega
      rw [c] at a3
      rw [c2, Nat.one_mul] at b3
      have := ih (p / 2) (by omega) (q / 2) (left / 2) a1.symm a2.symm (by rcases Nat.mod_two_eq_zero_or_one q with z | z <;> omega)
      rw [← a3] at this
      have b4 : q % 2 ≤ left % 2 := by
        rcases Nat.mod_two_eq_zero_or_one q with z | z
        · omega
        · rw [z, Nat.one_mul] at b2; omega
      omega
    · have c : (p - 1) / 2 = p / 2 := by omega
      rw [c, ← a1] at a3
      omega
end Go.Proofs.YtcghjjfpjiacfaaDoor

namespace Go.Proofs.YtcghjjfpjiacfaaDoor
set_option linter.unusedVariables false

/-- What a pair of coprime integers, the second one positive, gives as a fraction with an error number. -/
def fitT (n d : Int) : Int × Int × Int :=
  if -1152921504606846976 ≤ n ∧ n ≤ 1152921504606846976 ∧ d ≤ 1152921504606846976 then (n, d, 0) else (0, 0, 5)

/-- The fraction with the value p / q, q positive. -/
def redT (p q : Int) : Int × Int × Int := fitT (p / (Int.gcd p q : Nat)) (q / (Int.gcd p q : Nat))

structure Vld (n d : Int) : Prop where
  d1 : 1 ≤ d
  d2 : d ≤ 1152921504606846976
  n1 : -1152921504606846976 ≤ n
  n2 : n ≤ 1152921504606846976
  co : Int.gcd n d = 1

theorem uniq {n d n' d' : Int} (hd : 0 < d) (hd' : 0 < d') (c : Int.gcd n d = 1) (c' : Int.gcd n' d' = 1) (h : n * d' = n' * d) : n = n' ∧ d = d' := by
  have e : n.natAbs * d'.natAbs = n'.natAbs * d.natAbs := by rw [← Int.natAbs_mul, ← Int.natAbs_mul, h]
  have c1 : Nat.Coprime d.natAbs n.natAbs := Nat.Coprime.symm c
  have c2 : Nat.Coprime d'.natAbs n'.natAbs := Nat.Coprime.symm c'
  have a1 : d.natAbs ∣ d'.natAbs := c1.dvd_of_dvd_mul_left (by rw [e]; exact Nat.dvd_mul_left _ _)
  have a2 : d'.natAbs ∣ d.natAbs := c2.dvd_of_dvd_mul_left (by rw [← e]; exact Nat.dvd_mul_left _ _)
  have a3 : d = d' := by have := Nat.dvd_antisymm a1 a2; omega
  subst a3
  exact ⟨Int.eq_of_mul_eq_mul_right (by omega) h, rfl⟩

theorem gcd_parts (p q : Int) (hq : 0 < q) : ∃ g : Int, 0 < g ∧ g = ((Int.gcd p q : Nat) : Int) ∧ p = g * (p / g) ∧ q = g * (q / g) ∧ Int.gcd (p / g) (q / g) = 1 ∧ 0 < q / g := by
  have hg : 0 < Int.gcd p q := Int.gcd_pos_of_ne_zero_right _ (by omega)
  have hgi : (0 : Int) < ((Int.gcd p q : Nat) : Int) := by omega
  have e1 := (Int.mul_ediv_cancel' (Int.gcd_dvd_left p q)).symm
  have e2 := (Int.mul_ediv_cancel' (Int.gcd_dvd_right p q)).symm
  refine ⟨_, hgi, rfl, e1, e2, Int.gcd_ediv_gcd_ediv_gcd (by omega), ?_⟩
  refine Int.lt_of_mul_lt_mul_left (a := ((Int.gcd p q : Nat) : Int)) ?_ (by omega)
  omega

/-- The main lemma: a pair of coprime integers with the value p / q. -/
theorem redT_of {p q n d : Int} (hq : 0 < q) (hd : 0 < d) (c : Int.gcd n d = 1) (h : n * q = p * d) : redT p q = fitT n d := by
  obtain ⟨g, hg, hge, e1, e2, hc, hp⟩ := gcd_parts p q hq
  have := uniq hp hd hc c (by
    have : g * (p / g * d) = g * (n * (q / g)) := by
      calc g * (p / g * d) = (g * (p / g)) * d := by grind
        _ = p * d := by rw [← e1]
        _ = n * q := h.symm
        _ = n * (g * (q / g)) := by rw [← e2]
        _ = g * (n * (q / g)) := by grind
    exact Int.eq_of_mul_eq_mul_left (by omega) this)
  unfold redT
  rw [← hge, this.1, this.2]

theorem redT_eq {p q p' q' : Int} (hq : 0 < q) (hq' : 0 < q') (h : p * q' = p' * q) : redT p q = redT p' q' := by
  obtain ⟨g, hg, hge, e1, e2, hc, hp⟩ := gcd_parts p' q' hq'
  rw [redT_of hq hp hc]
  · unfold redT; rw [← hge]
  · refine Int.eq_of_mul_eq_mul_left (a := g) (by omega) ?_
    calc g * (p' / g * q) = (g * (p' / g)) * q := by grind
      _ = p' * q := by rw [← e1]
      _ = p * q' := h.symm
      _ = p * (g * (q' / g)) := by rw [← e2]
      _ = g * (p * (q' / g)) := by grind

theorem fitT_vld {n d : Int} (h : Vld n d) : fitT n d = (n, d, 0) := by
  unfold fitT; rw [if_pos ⟨h.n1, h.n2, h.d2⟩]

theorem redT_vld {n d : Int} (h : Vld n d) : redT n d = (n, d, 0) := by
  rw [redT_of (by have := h.d1; omega) (by have := h.d1; omega) h.co rfl, fitT_vld h]

/-- A value that fits: the fraction is valid and has the value; and a value that does not fit. -/
theorem redT_cases (p q : Int) (hq : 0 < q) : (∃ n d, redT p q = (n, d, 0) ∧ Vld n d ∧ n * q = p * d) ∨ redT p q = (0, 0, 5) := by
  obtain ⟨g, hg, hge, e1, e2, hc, hp⟩ := gcd_parts p q hq
  have hr : redT p q = fitT (p / g) (q / g) := by unfold redT; rw [← hge]
  rw [hr]
  unfold fitT
  split
  · rename_i h
    refine .inl ⟨_, _, rfl, ⟨by omega, h.2.2, h.1, h.2.1, hc⟩, ?_⟩
    calc p / g * q = p / g * (g * (q / g)) := by rw [← e2]
      _ = (g * (p / g)) * (q / g) := by grind
      _ = p * (q / g) := by rw [← e1]
  · exact .inr rfl

/-- The sum: what is shared with the common divisor of the denominators. -/
theorem plus_co {an ad bn bd c s : Nat} {N : Int} {a b : Int} (ha : a.natAbs = an) (hb : b.natAbs = bn) (ca : Nat.Coprime an ad) (cb : Nat.Coprime bn bd)
    (hc : c = Nat.gcd ad bd) (hc0 : 0 < c) (hN : N = a * ((bd / c : Nat) : Int) + b * ((ad / c : Nat) : Int)) (hs : s = Nat.gcd c N.natAbs) :
    Nat.Coprime (N.natAbs / s) (ad / c * (bd / s)) := by
  have k1 : c ∣ ad := hc ▸ Nat.gcd_dvd_left _ _
  have k2 : c ∣ bd := hc ▸ Nat.gcd_dvd_right _ _
  have hs0 : 0 < s := hs ▸ Nat.gcd_pos_of_pos_left _ hc0
  have k3 : s ∣ c := hs ▸ Nat.gcd_dvd_left _ _
  have k4 : s ∣ N.natAbs := hs ▸ Nat.gcd_dvd_right _ _
  have cd : Nat.Coprime (ad / c) (bd / c) := by
    rw [hc]; exact Nat.coprime_div_gcd_div_gcd (by omega)
  -- any common divisor of N and ad / c divides a * (bd / c)
  have n1 : Nat.Coprime N.natAbs (ad / c) := by
    refine Nat.Coprime.symm ?_
    have x1 : Nat.Coprime (ad / c) (an * (bd / c)) :=
      Nat.Coprime.mul_right (Nat.Coprime.coprime_dvd_left (Nat.div_dvd_of_dvd k1) ca.symm) cd
    have x2 : Nat.gcd (ad / c) N.natAbs ∣ an * (bd / c) := by
      have y1 : (((Nat.gcd (ad / c) N.natAbs : Nat)) : Int) ∣ N := Int.ofNat_dvd_left.2 (Nat.gcd_dvd_right _ _)
      have y2 : (((Nat.gcd (ad / c) N.natAbs : Nat)) : Int) ∣ b * ((ad / c : Nat) : Int) := Int.dvd_mul_of_dvd_right (Int.natCast_dvd_natCast.2 (Nat.gcd_dvd_left _ _))
      have y3 : (((Nat.gcd (ad / c) N.natAbs : Nat)) : Int) ∣ a * ((bd / c : Nat) : Int) := by
        have : a * ((bd / c : Nat) : Int) = N - b * ((ad / c : Nat) : Int) := by rw [hN]; omega
        rw [this]; exact Int.dvd_sub y1 y2
      have := Int.ofNat_dvd_left.1 y3
      rwa [Int.natAbs_mul, ha, Int.natAbs_natCast] at this
    exact Nat.eq_one_of_dvd_one (x1 ▸ Nat.dvd_gcd (Nat.gcd_dvd_left _ _) x2)
  have n2 : Nat.Coprime N.natAbs (bd / c) := by
    refine Nat.Coprime.symm ?_
    have x1 : Nat.Coprime (bd / c) (bn * (ad / c)) :=
      Nat.Coprime.mul_right (Nat.Coprime.coprime_dvd_left (Nat.div_dvd_of_dvd k2) cb.symm) cd.symm
    have x2 : Nat.gcd (bd / c) N.natAbs ∣ bn * (ad / c) := by
      have y1 : (((Nat.gcd (bd / c) N.natAbs : Nat)) : Int) ∣ N := Int.ofNat_dvd_left.2 (Nat.gcd_dvd_right _ _)
      have y2 : (((Nat.gcd (bd / c) N.natAbs : Nat)) : Int) ∣ a * ((bd / c : Nat) : Int) := Int.dvd_mul_of_dvd_right (Int.natCast_dvd_natCast.2 (Nat.gcd_dvd_left _ _))
      have y3 : (((Nat.gcd (bd / c) N.natAbs : Nat)) : Int) ∣ b * ((ad / c : Nat) : Int) := by
        have : b * ((ad / c : Nat) : Int) = N - a * ((bd / c : Nat) : Int) := by rw [hN]; omega
        rw [this]; exact Int.dvd_sub y1 y2
      have := Int.ofNat_dvd_left.1 y3
      rwa [Int.natAbs_mul, hb, Int.natAbs_natCast] at this
    exact Nat.eq_one_of_dvd_one (x1 ▸ Nat.dvd_gcd (Nat.gcd_dvd_left _ _) x2)
  have n3 : Nat.Coprime (N.natAbs / s) (c / s) := by
    have := Nat.coprime_div_gcd_div_gcd (m := c) (n := N.natAbs) (by omega)
    rw [← hs] at this
    exact this.symm
  have hd : N.natAbs / s ∣ N.natAbs := Nat.div_dvd_of_dvd k4
  have hb : bd / s = bd / c * (c / s) := by
    obtain ⟨u, rfl⟩ := k2
    obtain ⟨v, rfl⟩ := k3
    have hv : 0 < s * v := hc0
    rw [Nat.mul_div_cancel_left _ hv, Nat.mul_div_cancel_left _ hs0, Nat.mul_assoc, Nat.mul_div_cancel_left _ hs0, Nat.mul_comm]
  rw [hb]
  exact Nat.Coprime.mul_right (Nat.Coprime.coprime_dvd_left hd n1) (Nat.Coprime.mul_right (Nat.Coprime.coprime_dvd_left hd n2) n3)

/-- The product: each numerator without what it shares with the other denominator. -/
theorem times_co {an ad bn bd l r : Nat} (ca : Nat.Coprime an ad) (cb : Nat.Coprime bn bd) (hl : l = Nat.gcd an bd) (hr : r = Nat.gcd bn ad) (h1 : 0 < ad) (h2 : 0 < bd) :
    Nat.Coprime (an / l * (bn / r)) (ad / r * (bd / l)) := by
  have l0 : 0 < l := hl ▸ Nat.gcd_pos_of_pos_right _ h2
  have r0 : 0 < r := hr ▸ Nat.gcd_pos_of_pos_right _ h1
  have l1 : l ∣ an := hl ▸ Nat.gcd_dvd_left _ _
  have l2 : l ∣ bd := hl ▸ Nat.gcd_dvd_right _ _
  have r1 : r ∣ bn := hr ▸ Nat.gcd_dvd_left _ _
  have r2 : r ∣ ad := hr ▸ Nat.gcd_dvd_right _ _
  have a1 : Nat.Coprime (an / l) (bd / l) := by rw [hl]; exact Nat.coprime_div_gcd_div_gcd (by omega)
  have a2 : Nat.Coprime (bn / r) (ad / r) := by rw [hr]; exact Nat.coprime_div_gcd_div_gcd (by omega)
  have a3 : Nat.Coprime (an / l) (ad / r) := (ca.coprime_dvd_left (Nat.div_dvd_of_dvd l1)).coprime_dvd_right (Nat.div_dvd_of_dvd r2)
  have a4 : Nat.Coprime (bn / r) (bd / l) := (cb.coprime_dvd_left (Nat.div_dvd_of_dvd r1)).coprime_dvd_right (Nat.div_dvd_of_dvd l2)
  exact Nat.Coprime.mul_left (Nat.Coprime.mul_right a3 a1) (Nat.Coprime.mul_right a2 a4)

/-! Integers of 128 bits in two words. -/
def hiW (z : Int) : Int := z / 18446744073709551616 % 18446744073709551616
def loW (z : Int) : Int := z % 18446744073709551616
def bor (x y : Int) : Int := if x < y then 1 else 0
def sgn (z : Int) : Int := if z = 0 then 0 else if z < 0 then -1 else 1

theorem hiW_bd (z : Int) : 0 ≤ hiW z ∧ hiW z < 18446744073709551616 := by unfold hiW; omega
theorem loW_bd (z : Int) : 0 ≤ loW z ∧ loW z < 18446744073709551616 := by unfold loW; omega
theorem W_of {z : Int} (h0 : 0 ≤ z) (h1 : z < 340282366920938463463374607431768211456) : z = hiW z * 18446744073709551616 + loW z := by unfold hiW loW; omega
theorem W_eq {z h l : Int} (h0 : 0 ≤ h) (h1 : h < 18446744073709551616) (l0 : 0 ≤ l) (l1 : l < 18446744073709551616) (e : z = h * 18446744073709551616 + l) : hiW z = h ∧ loW z = l := by unfold hiW loW; omega
theorem W_small {z : Int} (h0 : 0 ≤ z) (h1 : z < 18446744073709551616) : hiW z = 0 ∧ loW z = z := by unfold hiW loW; omega

theorem plus_lo (x y : Int) : (loW x + loW y) % 18446744073709551616 = loW (x + y) := by unfold loW; omega
theorem plus_hi (x y : Int) : (hiW x + hiW y + (loW x + loW y) / 18446744073709551616) % 18446744073709551616 = hiW (x + y) := by unfold hiW loW; omega
theorem neg_lo (x : Int) : (-loW x) % 18446744073709551616 = loW (-x) := by unfold loW; omega
theorem neg_hi (x : Int) : (-hiW x - bor 0 (loW x)) % 18446744073709551616 = hiW (-x) := by
  unfold hiW loW bor
  split <;> omega
theorem bor_bd (x y : Int) : 0 ≤ bor x y ∧ bor x y ≤ 1 := by unfold bor; split <;> omega
theorem sub_lo (x y : Int) : (loW x - loW y) % 18446744073709551616 = loW (x - y) := by unfold loW; omega
theorem sub_hi (x y : Int) : (hiW x - hiW y - bor (loW x) (loW y)) % 18446744073709551616 = hiW (x - y) := by
  unfold hiW loW bor
  split <;> omega
theorem sgn_zero {z : Int} (h0 : -170141183460469231731687303715884105728 ≤ z) (h1 : z < 170141183460469231731687303715884105728) : (hiW z = 0 ∧ loW z = 0) ↔ z = 0 := by unfold hiW loW; omega
theorem sgn_neg {z : Int} (h0 : -170141183460469231731687303715884105728 ≤ z) (h1 : z < 170141183460469231731687303715884105728) : 9223372036854775808 ≤ hiW z ↔ z < 0 := by unfold hiW; omega
theorem num_no {z : Int} (h0 : 0 ≤ z) (h1 : z < 170141183460469231731687303715884105728) : (hiW z = 0 ∧ loW z ≤ 1152921504606846976) ↔ z ≤ 1152921504606846976 := by unfold hiW loW; omega

/-! One half of a long division: a guess of a quotient's digit, lowered at most twice. -/
structure Guess (v1 v0 u d q r : Int) : Prop where
  eq : q * v1 + r = u
  ge : u * 4294967296 + d < (q + 1) * (v1 * 4294967296 + v0)
  q0 : 0 ≤ q
  q1 : q ≤ 4294967297
  r0 : 0 ≤ r

/-- The digit: the quotient of u * 2^32 + d by v1 * 2^32 + v0. -/
structure Digit (v u d q : Int) : Prop where
  lo : q * v ≤ u * 4294967296 + d
  hi : u * 4294967296 + d < q * v + v
  q0 : 0 ≤ q
  q1 : q < 4294967296

theorem guess_start {v1 v0 u d : Int} (h1 : 2147483648 ≤ v1) (h00 : 0 ≤ v0) (h0 : v0 < 4294967296) (hu0 : 0 ≤ u) (hu : u < v1 * 4294967296 + v0) (hd0 : 0 ≤ d) (hd : d < 4294967296) :
    Guess v1 v0 u d (u / v1) (u - u / v1 * v1) ∧ u - u / v1 * v1 < v1 := by
  have e := Int.mul_ediv_add_emod u v1
  have m0 := Int.emod_nonneg u (show v1 ≠ 0 by omega)
  have m1 := Int.emod_lt_of_pos u (show 0 < v1 by omega)
  have q0 : 0 ≤ u / v1 := Int.ediv_nonneg hu0 (by omega)
  have q1 : u / v1 < 4294967298 := Int.ediv_lt_of_lt_mul (by omega) (by omega)
  generalize u / v1 = q at *
  generalize u % v1 = r at *
  have c : v1 * q = q * v1 := Int.mul_comm _ _
  have z : 0 ≤ q * v0 := Int.mul_nonneg q0 h00
  have x : (q + 1) * (v1 * 4294967296 + v0) = (q * v1) * 4294967296 + q * v0 + v1 * 4294967296 + v0 := by grind
  refine ⟨⟨by omega, ?_, q0, by omega, by omega⟩, by omega⟩
  rw [x]
  omega

theorem guess_down {v1 v0 u d q r : Int} (h1 : 2147483648 ≤ v1) (h00 : 0 ≤ v0) (hu0 : 0 ≤ u) (hu : u < v1 * 4294967296 + v0) (hd0 : 0 ≤ d) (hd : d < 4294967296) (g : Guess v1 v0 u d q r)
    (ht : 4294967296 ≤ q ∨ 4294967296 * r + d < q * v0) : 1 ≤ q ∧ Guess v1 v0 u d (q - 1) (r + v1) := by
  have e := g.eq
  have x : (q - 1 + 1) * (v1 * 4294967296 + v0) = (q * v1) * 4294967296 + q * v0 := by grind
  have x' : (q - 1) * v1 = q * v1 - v1 := by grind
  have lt : u * 4294967296 + d < (q * v1) * 4294967296 + q * v0 := by
    rcases ht with h | h
    · have := Int.mul_le_mul_of_nonneg_right h (show 0 ≤ v1 * 4294967296 + v0 by omega)
      have y : q * (v1 * 4294967296 + v0) = (q * v1) * 4294967296 + q * v0 := by grind
      rw [y] at this
      omega
    · omega
  have q1 : 1 ≤ q := by
    have := g.q0
    by_cases h : q = 0
    · subst h; simp at lt; omega
    · omega
  exact ⟨q1, by omega, by rw [x]; exact lt, by omega, by have := g.q1; omega, by have := g.r0; omega⟩

theorem guess_end {v1 v0 u d q r : Int} (h1 : 2147483648 ≤ v1) (h00 : 0 ≤ v0) (hu : u < v1 * 4294967296 + v0) (hd : d < 4294967296) (g : Guess v1 v0 u d q r) (ht : q * v0 ≤ 4294967296 * r + d) : Digit (v1 * 4294967296 + v0) u d q := by
  have e := g.eq
  have y : q * (v1 * 4294967296 + v0) = (q * v1) * 4294967296 + q * v0 := by grind
  have z : (q + 1) * (v1 * 4294967296 + v0) = q * (v1 * 4294967296 + v0) + (v1 * 4294967296 + v0) := by grind
  have ge := g.ge
  rw [z] at ge
  have lo : q * (v1 * 4294967296 + v0) ≤ u * 4294967296 + d := by rw [y]; omega
  refine ⟨lo, ge, g.q0, ?_⟩
  refine Int.lt_of_mul_lt_mul_right (a := v1 * 4294967296 + v0) ?_ (by omega)
  omega

theorem guess_break {v1 v0 u d q r : Int} (h1 : 2147483648 ≤ v1) (h00 : 0 ≤ v0) (h0 : v0 < 4294967296) (hu : u < v1 * 4294967296 + v0) (hd0 : 0 ≤ d) (hd : d < 4294967296) (g : Guess v1 v0 u d q r) (hq : q ≤ 4294967296) (hr : 4294967296 ≤ r) : Digit (v1 * 4294967296 + v0) u d q := by
  refine guess_end h1 h00 hu hd g ?_
  have := Int.mul_le_mul hq (show v0 ≤ 4294967295 by omega) h00 (by omega)
  omega

theorem guess_prod {v0 q : Int} (h00 : 0 ≤ v0) (h0 : v0 < 4294967296) (q0 : 0 ≤ q) (hq : q < 4294967296) : 0 ≤ q * v0 ∧ q * v0 < 18446744073709551616 := by
  have := Int.mul_le_mul (show q ≤ 4294967295 by omega) (show v0 ≤ 4294967295 by omega) h00 (by omega)
  exact ⟨Int.mul_nonneg q0 h00, by omega⟩

/-- The shift ahead of the division, and the one behind it. p = 2^s, p' = 2^(64 - s). -/
theorem norm_eq {hi lo p p' : Int} (hp : 0 < p) (hpp : p * p' = 18446744073709551616) : (hi * 18446744073709551616 + lo) * p = (hi * p + lo / p') * 18446744073709551616 + lo * p % 18446744073709551616 := by
  have e := Int.mul_ediv_add_emod (lo * p) 18446744073709551616
  have d : lo * p / 18446744073709551616 = lo / p' := by rw [← hpp, Int.mul_comm lo p, Int.mul_ediv_mul_of_pos _ _ hp]
  rw [d] at e
  grind

theorem norm_lt {hi lo p p' y : Int} (hp : 0 < p) (hpp : p * p' = 18446744073709551616) (h : hi < y) (l0 : 0 ≤ lo) (l1 : lo < 18446744073709551616) : 0 ≤ lo / p' ∧ lo / p' < p ∧ hi * p + lo / p' < y * p := by
  have hp' : 0 < p' := by
    rcases Int.lt_or_le 0 p' with h | h
    · exact h
    · have := Int.mul_le_mul_of_nonneg_left h (Int.le_of_lt hp)
      rw [Int.mul_zero] at this
      omega
  have a : lo / p' < p := Int.ediv_lt_of_lt_mul hp' (by omega)
  have b : (hi + 1) * p ≤ y * p := Int.mul_le_mul_of_nonneg_right (by omega) (by omega)
  have c : (hi + 1) * p = hi * p + p := by grind
  exact ⟨Int.ediv_nonneg l0 (by omega), a, by omega⟩

theorem norm_end {N p y Q R : Int} (hp : 0 < p) (hy : 0 < y) (h : N * p = y * p * Q + R) (r0 : 0 ≤ R) (r1 : R < y * p) : Q = N / y ∧ R / p = N % y := by
  have e : R = p * (N - y * Q) := by grind
  have s0 : 0 ≤ N - y * Q := by
    refine Int.le_of_mul_le_mul_left (a := p) ?_ hp
    omega
  have s1 : N - y * Q < y := by
    refine Int.lt_of_mul_lt_mul_left (a := p) ?_ (by omega)
    rw [← e, Int.mul_comm p y]; exact r1
  have q : N / y = Q := by
    have : N = (N - y * Q) + y * Q := by omega
    rw [this, Int.add_mul_ediv_left _ _ (by omega), Int.ediv_eq_zero_of_lt s0 s1]; omega
  refine ⟨q.symm, ?_⟩
  rw [e, Int.mul_ediv_cancel_left _ (by omega), Int.emod_def, q]

/-! The reference's binary algorithm. -/
theorem gcd_half_left {a b : Nat} (ha : a % 2 = 0) (hb : b % 2 = 1) : Nat.gcd (a / 2) b = Nat.gcd a b := by
  have e : a = 2 * (a / 2) := by omega
  have c : Nat.Coprime 2 b := by
    unfold Nat.Coprime; rw [Nat.gcd_rec, hb]; rfl
  conv => rhs; rw [e]
  exact (c.gcd_mul_left_cancel _).symm
theorem gcd_half_right {a b : Nat} (ha : a % 2 = 1) (hb : b % 2 = 0) : Nat.gcd a (b / 2) = Nat.gcd a b := by
  rw [Nat.gcd_comm, gcd_half_left hb ha, Nat.gcd_comm]
theorem gcd_half_both {a b : Nat} (ha : a % 2 = 0) (hb : b % 2 = 0) : 2 * Nat.gcd (a / 2) (b / 2) = Nat.gcd a b := by
  rw [← Nat.gcd_mul_left]
  congr 1 <;> omega
theorem gcd_minus {a b : Nat} (h : b ≤ a) : Nat.gcd (a - b) b = Nat.gcd a b := Nat.gcd_sub_self_left h
theorem odd_gcd_half_left {a b : Nat} (ha : a % 2 = 0) (hg : Nat.gcd a b % 2 = 1) : b % 2 = 1 := by
  by_cases h : b % 2 = 1
  · exact h
  · have := gcd_half_both ha (show b % 2 = 0 by omega)
    omega
theorem gcd_odd {a b : Nat} (h : a % 2 = 1 ∨ b % 2 = 1) : Nat.gcd a b % 2 = 1 := by
  have h1 := Nat.gcd_dvd_left a b
  have h2 := Nat.gcd_dvd_right a b
  obtain ⟨u, hu⟩ := h1
  obtain ⟨v, hv⟩ := h2
  by_cases e : Nat.gcd a b % 2 = 1
  · exact e
  · have e' : Nat.gcd a b = 2 * (Nat.gcd a b / 2) := by omega
    rw [e', Nat.mul_assoc] at hu hv
    omega

end Go.Proofs.YtcghjjfpjiacfaaDoor

namespace Go.Proofs.YtcghjjfpjiacfaaDoor
set_option linter.unusedVariables false
open Go.RowKit

theorem r_int {k : IntKind} {a b : Int} (h : a = b) : Ending.returned (.int k a) = .returned (.int k b) := by rw [h]
theorem abs_bd {n : Int} (h0 : -9223372036854775808 ≤ n) (h1 : n ≤ 9223372036854775807) : (n.natAbs : Int) ≤ 9223372036854775808 := by omega

set_option maxHeartbeats 400000 in
theorem size_any (n : Int) (w : World) (h0 : -9223372036854775808 ≤ n) (h1 : n ≤ 9223372036854775807) :
    Calls Tryd.prog 150 #[.int .i64 n] w fun e w' => e = .returned (.int .u64 (n.natAbs : Int)) ∧ w = w' := by
  go_enter Tryd.func150, Tryd.ntmps150
  go_wp2
  all_goals (go_ret; exact ⟨r_int (by first | omega | (simp only [IntKind.wrap_u64]; omega)), rfl⟩)

set_option maxHeartbeats 1000000 in
theorem gcd_any (a b : Nat) (w : World) (ha : a < 18446744073709551616) (hb : b < 18446744073709551616) :
    Calls Tryd.prog 149 #[.int .u64 a, .int .u64 b] w fun e w' => e = .returned (.int .u64 (Nat.gcd a b : Int)) ∧ ∃ k, w' = w.drewN k := by
  go_enter Tryd.func149, Tryd.ntmps149
  go_wp2
  go_loopw [0, 1] (fun x y wr => ∃ (u v k : Nat), x = .int .u64 u ∧ y = .int .u64 v ∧ u < 18446744073709551616 ∧ v < 18446744073709551616 ∧ Nat.gcd u v = Nat.gcd a b ∧ wr = w.drewN k) (fun _ y _ => (intOf y).toNat)
  case atStart => exact ⟨a, b, 0, rfl, rfl, ha, hb, rfl, rfl⟩
  case round =>
    obtain ⟨u, v, k, rfl, rfl, hu, hv, hg, rfl⟩ := hrel
    by_cases hz : v = 0
    · subst hz
      go_wp2
      go_ret
      exact ⟨r_int (by rw [← hg]; simp), k, rfl⟩
    · have h1 : (0 : Int) < v := by omega
      have H1 : Hid (((u : Int).tmod v) = ((u % v : Nat) : Int)) := by rw [Int.tmod_eq_emod_of_nonneg (by omega)]; exact (Int.natCast_emod u v).symm
      have H2 : Hid (u % v < v ∧ Nat.gcd v (u % v) = Nat.gcd a b) := ⟨Nat.mod_lt _ (by omega), by rw [← hg, Nat.gcd_comm u v, Nat.gcd_rec v u, Nat.gcd_comm]⟩
      have hne : ((v : Int) == 0) = false := by simp; omega
      have Hg := Lib.hid hg
      clear hg
      go_wp2
      have hm := H1.out
      go_quiet (fail)
      clear hm
      go_wp2
      go_roundw
      case rel => exact ⟨v, u % v, _, rfl, by rw [Int.natCast_emod], by omega, by have := H2.out.1; omega, H2.out.2, World.drewN_drewN _ _ _⟩
      case measure => have := H2.out.1; simp [intOf]; omega

end Go.Proofs.YtcghjjfpjiacfaaDoor

namespace Go.Proofs.YtcghjjfpjiacfaaDoor
set_option linter.unusedVariables false
open Go.RowKit Go.Shelf

/-- What stands behind a call that has turned nothing of what was there: for a function that has laid one, two, .. blocks of its own. -/
theorem after0 {a W w1 : World} (hb : Below W.heap.size W w1) (h : Below a.heap.size a W) : Below a.heap.size a w1 ∧ (∀ b o, b < W.heap.size → w1.cell? ⟨b, o, none⟩ = W.cell? ⟨b, o, none⟩) ∧ (∀ b o, b < W.heap.size → w1.frozen? ⟨b, o, none⟩ = W.frozen? ⟨b, o, none⟩) :=
  ⟨h.trans (hb.mono h.size), fun b o hh => hb.cell (p := ⟨b, o, none⟩) hh, fun b o hh => hb.frozen (p := ⟨b, o, none⟩) hh⟩
theorem after1 {a W w1 : World} (hb : Below W.heap.size W w1) (h : Below a.heap.size a W) (hk : a.heap.size + 1 ≤ W.heap.size) : Below a.heap.size a w1 ∧ (∀ b o, b < W.heap.size → w1.cell? ⟨b, o, none⟩ = W.cell? ⟨b, o, none⟩) ∧ (∀ b o, b < W.heap.size → w1.frozen? ⟨b, o, none⟩ = W.frozen? ⟨b, o, none⟩) ∧ a.heap.size < w1.heap.size ∧ a.heap.size + 1 ≤ w1.heap.size :=
  ⟨(after0 hb h).1, (after0 hb h).2.1, (after0 hb h).2.2, by have := hb.size; omega, by have := hb.size; omega⟩
theorem after2 {a W w1 : World} (hb : Below W.heap.size W w1) (h : Below a.heap.size a W) (hk : a.heap.size + 2 ≤ W.heap.size) : Below a.heap.size a w1 ∧ (∀ b o, b < W.heap.size → w1.cell? ⟨b, o, none⟩ = W.cell? ⟨b, o, none⟩) ∧ (∀ b o, b < W.heap.size → w1.frozen? ⟨b, o, none⟩ = W.frozen? ⟨b, o, none⟩) ∧ a.heap.size < w1.heap.size ∧ a.heap.size + 1 < w1.heap.size ∧ a.heap.size + 2 ≤ w1.heap.size :=
  ⟨(after0 hb h).1, (after0 hb h).2.1, (after0 hb h).2.2, by have := hb.size; omega, by have := hb.size; omega, by have := hb.size; omega⟩
theorem after3 {a W w1 : World} (hb : Below W.heap.size W w1) (h : Below a.heap.size a W) (hk : a.heap.size + 3 ≤ W.heap.size) : Below a.heap.size a w1 ∧ (∀ b o, b < W.heap.size → w1.cell? ⟨b, o, none⟩ = W.cell? ⟨b, o, none⟩) ∧ (∀ b o, b < W.heap.size → w1.frozen? ⟨b, o, none⟩ = W.frozen? ⟨b, o, none⟩) ∧ a.heap.size < w1.heap.size ∧ a.heap.size + 1 < w1.heap.size ∧ a.heap.size + 2 < w1.heap.size ∧ a.heap.size + 3 ≤ w1.heap.size :=
  ⟨(after0 hb h).1, (after0 hb h).2.1, (after0 hb h).2.2, by have := hb.size; omega, by have := hb.size; omega, by have := hb.size; omega, by have := hb.size; omega⟩

theorem add64 (x y c : Int) (hx : 0 ≤ x) (hy : 0 ≤ y) (hc0 : 0 ≤ c) (hc : c ≤ 1) (w : World) : (callFunc 108 #[.int .u64 x, .int .u64 y, .int .u64 c]).run Tryd.prog w =
    .ok (.value (.tuple #[.int .u64 ((x + y + c) % 18446744073709551616), .int .u64 ((x + y + c) / 18446744073709551616)])) w := by
  rw [run_callFunc_extern Tryd.func108 (by kernel_rfl) (by kernel_rfl) (by kernel_rfl) (e := add64Entry) (by kernel_rfl), run_add64 x y c hx hy hc0 hc]
  rfl
theorem add64_0 (x y : Int) (hx : 0 ≤ x) (hy : 0 ≤ y) (w : World) : (callFunc 108 #[.int .u64 x, .int .u64 y, .int .u64 0]).run Tryd.prog w =
    .ok (.value (.tuple #[.int .u64 ((x + y) % 18446744073709551616), .int .u64 ((x + y) / 18446744073709551616)])) w := by
  simpa using add64 x y 0 hx hy (Int.le_refl 0) (by decide) w
theorem ret_w {h l h' l' : Int} (e1 : h = h') (e2 : l = l') : Ending.returned (.agg #[.int .u64 h, .int .u64 l]) = .returned (.agg #[.int .u64 h', .int .u64 l']) := by rw [e1, e2]

theorem sgn_lt {z : Int} : (sgn z < 0) ↔ z < 0 := by unfold sgn; split <;> (try split) <;> omega
theorem size_neg {z : Int} (h : z < 0) : -z = (z.natAbs : Int) := by omega
theorem size_pos {z : Int} (h : ¬ z < 0) : z = (z.natAbs : Int) := by omega

end Go.Proofs.YtcghjjfpjiacfaaDoor

namespace Go.Proofs.YtcghjjfpjiacfaaDoor
set_option linter.unusedVariables false
open Go.RowKit Go.Shelf

theorem mul_w {x y : Nat} (hx : x < 18446744073709551616) (hy : y < 18446744073709551616) : ((x * y / 18446744073709551616 : Nat) : Int) = hiW ((x : Int) * y) ∧ ((x * y % 18446744073709551616 : Nat) : Int) = loW ((x : Int) * y) := by
  have h := Nat.mul_le_mul (Nat.le_sub_one_of_lt hx) (Nat.le_sub_one_of_lt hy)
  rw [← Int.natCast_mul]
  generalize x * y = z at *
  unfold hiW loW
  omega

theorem mul64 (x y : Int) (w : World) (x0 : 0 ≤ x) (x1 : x < 18446744073709551616) (y0 : 0 ≤ y) (y1 : y < 18446744073709551616) :
    Calls Tryd.prog 106 #[.int .u64 x, .int .u64 y] w fun e w' => e = .returned (.tuple #[.int .u64 (hiW (x * y)), .int .u64 (loW (x * y))]) ∧ w = w' := by
  obtain ⟨x, rfl⟩ := Int.eq_ofNat_of_zero_le x0
  obtain ⟨y, rfl⟩ := Int.eq_ofNat_of_zero_le y0
  obtain ⟨e1, e2⟩ := mul_w (x := x) (y := y) (by omega) (by omega)
  refine (Tryd.bits_Mul64 x y (by omega) (by omega) w).mono fun e w' ⟨he, hw⟩ => ⟨?_, hw.symm⟩
  rw [he, e1, e2]

theorem abs_mul_same {a b : Int} (h : (a < 0 ∧ b < 0) ∨ (0 ≤ a ∧ 0 ≤ b)) : (a.natAbs : Int) * b.natAbs = a * b := by
  rcases h with ⟨h1, h2⟩ | ⟨h1, h2⟩
  · rw [show (a.natAbs : Int) = -a by omega, show (b.natAbs : Int) = -b by omega, Int.neg_mul_neg]
  · rw [show (a.natAbs : Int) = a by omega, show (b.natAbs : Int) = b by omega]
theorem abs_mul_other {a b : Int} (h : (a < 0 ∧ 0 ≤ b) ∨ (0 ≤ a ∧ b < 0)) : (a.natAbs : Int) * b.natAbs = -(a * b) := by
  rcases h with ⟨h1, h2⟩ | ⟨h1, h2⟩
  · rw [show (a.natAbs : Int) = -a by omega, show (b.natAbs : Int) = b by omega, Int.neg_mul]
  · rw [show (a.natAbs : Int) = a by omega, show (b.natAbs : Int) = -b by omega, Int.mul_neg]

theorem ret_ib {k : IntKind} {a b : Int} {t : Bool} (h : a = b) : Ending.returned (.tuple #[.int k a, .bool t]) = .returned (.tuple #[.int k b, .bool t]) := by rw [h]

end Go.Proofs.YtcghjjfpjiacfaaDoor

namespace Go.Proofs.YtcghjjfpjiacfaaDoor
set_option linter.unusedVariables false
open Go.RowKit Go.Shelf

theorem ret_u2 {a b c d : Int} (h : a = c) (h' : b = d) : Ending.returned (.tuple #[.int .u64 a, .int .u64 b]) = .returned (.tuple #[.int .u64 c, .int .u64 d]) := by rw [h, h']

/-- The low half of a word; two words of which one has the low bits alone. -/
theorem and_low {Y : Int} (h0 : 0 ≤ Y) (h1 : Y < 18446744073709551616) : bits .and .u64 Y 4294967295 = Y % 4294967296 := by
  obtain ⟨n, rfl⟩ := Int.eq_ofNat_of_zero_le h0
  rw [Mul64.maskN n (by omega)]
  omega
theorem or_add {a p b : Int} {k : Nat} (hp : p = 2 ^ k) (a0 : 0 ≤ a) (b0 : 0 ≤ b) (hb : b < p) (h : a * p + b < 18446744073709551616) : bits .or .u64 (a * p) b = a * p + b := by
  obtain ⟨n, rfl⟩ := Int.eq_ofNat_of_zero_le a0
  obtain ⟨m, rfl⟩ := Int.eq_ofNat_of_zero_le b0
  have hp' : p = ((2 ^ k : Nat) : Int) := by rw [hp]; simp
  rw [hp'] at hb h ⊢
  rw [← Int.natCast_mul]
  have e : n * 2 ^ k ||| m = n * 2 ^ k + m := by
    rw [Nat.mul_comm, ← Nat.two_pow_add_eq_or_of_lt (by omega)]
  rw [bits_or_u64_nat _ _ (by omega) (by omega), e]
  omega

/-- What shifts y to the left: its leading zeros. -/
theorem lz_norm {y : Int} (h0 : 0 < y) (h1 : y < 18446744073709551616) : ∃ s : Int, s = 64 - (Lib.bitLen y.toNat : Int) ∧ 0 ≤ s ∧ s < 64 ∧ 9223372036854775808 ≤ y * 2 ^ s.toNat ∧ y * 2 ^ s.toNat < 18446744073709551616 := by
  obtain ⟨n, rfl⟩ := Int.eq_ofNat_of_zero_le (show 0 ≤ y by omega)
  obtain ⟨a, b, c⟩ := Lib.bitLenAux_bounds 64 n (by simp; omega) (by omega)
  have hb : Lib.bitLen ((n : Int)).toNat = Lib.bitLenAux 64 n := rfl
  rw [hb]
  generalize Lib.bitLenAux 64 n = L at *
  have hL : L ≤ 64 := by
    rcases Nat.lt_or_ge 64 L with h | h
    · have := Nat.pow_le_pow_right (n := 2) (by omega) (show 64 ≤ L - 1 by omega)
      have e : (2 : Nat) ^ 64 = 18446744073709551616 := by decide
      omega
    · exact h
  refine ⟨64 - (L : Int), rfl, by omega, by omega, ?_, ?_⟩
  · have e : (64 - (L : Int)).toNat = 64 - L := by omega
    have m := Nat.mul_le_mul_right (2 ^ (64 - L)) b
    rw [← Nat.pow_add, show L - 1 + (64 - L) = 63 by omega] at m
    have e2 : (2 : Nat) ^ 63 = 9223372036854775808 := by decide
    have e3 : (n : Int) * 2 ^ (64 - L) = ((n * 2 ^ (64 - L) : Nat) : Int) := by simp
    rw [e, e3]
    omega
  · have e : (64 - (L : Int)).toNat = 64 - L := by omega
    have m := Nat.mul_lt_mul_of_pos_right c (show 0 < 2 ^ (64 - L) from Nat.two_pow_pos _)
    rw [← Nat.pow_add, show L + (64 - L) = 64 by omega] at m
    have e2 : (2 : Nat) ^ 64 = 18446744073709551616 := by decide
    have e3 : (n : Int) * 2 ^ (64 - L) = ((n * 2 ^ (64 - L) : Nat) : Int) := by simp
    rw [e, e3]
    omega

theorem wrap_in {x : Int} (h0 : 0 ≤ x) (h1 : x < 18446744073709551616) : IntKind.u64.wrap x = x := by rw [IntKind.wrap_u64]; omega

/-- What is left for the second digit: reckoned modulo 2^64. -/
theorem rest_eq {v u d q R : Int} (D : Digit v u d q) (v1 : v < 18446744073709551616) (hR : R = u * 4294967296 + d - q * v) : IntKind.u64.wrap (IntKind.u64.wrap (IntKind.u64.wrap (u * 4294967296) + d) - IntKind.u64.wrap (q * v)) = R ∧ 0 ≤ R ∧ R < v := by
  have a := D.lo
  have b := D.hi
  simp only [IntKind.wrap_u64]
  omega

end Go.Proofs.YtcghjjfpjiacfaaDoor

namespace Go.Proofs.YtcghjjfpjiacfaaDoor
set_option linter.unusedVariables false
open Go.RowKit Go.Shelf

theorem below_drew {a w : World} (h : Below a.heap.size a w) (k : Nat) : Below a.heap.size a (w.drewN k) := h.trans ⟨rfl, rfl, rfl, Nat.le_refl _, fun _ _ => rfl⟩

/-- The value modulo y does not hang on the high word's own multiple of y. -/
theorem rem_eq {z y : Int} (z0 : 0 ≤ z) (z1 : z < 340282366920938463463374607431768211456) (hy : 0 < y) : (hiW z % y * 18446744073709551616 + loW z) % y = z % y := by
  have e := W_of z0 z1
  rw [Int.add_emod, Int.mul_emod, Int.emod_emod_of_dvd _ (Int.dvd_refl y), ← Int.mul_emod, ← Int.add_emod, ← e]
theorem quo_eq {z y : Int} (z0 : 0 ≤ z) (z1 : z < 340282366920938463463374607431768211456) (hy : 0 < y) (y1 : y < 18446744073709551616) : hiW (z / y) = hiW z / y ∧ loW (z / y) = (hiW z % y * 18446744073709551616 + loW z) / y := by
  have e := W_of z0 z1
  obtain ⟨a1, a2⟩ := hiW_bd z
  obtain ⟨b1, b2⟩ := loW_bd z
  have m0 := Int.emod_nonneg (hiW z) (show y ≠ 0 by omega)
  have m1 := Int.emod_lt_of_pos (hiW z) hy
  have d0 : 0 ≤ hiW z / y := Int.ediv_nonneg a1 (by omega)
  have d1 : hiW z / y ≤ hiW z := Int.ediv_le_self _ a1
  have q0 : 0 ≤ (hiW z % y * 18446744073709551616 + loW z) / y := Int.ediv_nonneg (by omega) (by omega)
  have q1 : (hiW z % y * 18446744073709551616 + loW z) / y < 18446744073709551616 := Int.ediv_lt_of_lt_mul hy (by omega)
  refine W_eq d0 (by omega) q0 q1 ?_
  have f := Int.mul_ediv_add_emod (hiW z) y
  have g : z = (hiW z % y * 18446744073709551616 + loW z) + y * (hiW z / y * 18446744073709551616) := by
    have : y * (hiW z / y * 18446744073709551616) = y * (hiW z / y) * 18446744073709551616 := by grind
    rw [this]
    omega
  conv => lhs; rw [g]
  rw [Int.add_mul_ediv_left _ _ (by omega)]
  omega

theorem over_neg {z y : Int} (h : z < 0) : -((z.natAbs : Int) / y) = z.tdiv y := by
  have e : z = -(z.natAbs : Int) := by omega
  conv => rhs; rw [e, Int.neg_tdiv, Int.tdiv_eq_ediv_of_nonneg (by omega)]
theorem over_pos {z y : Int} (h : ¬ z < 0) : (z.natAbs : Int) / y = z.tdiv y := by
  have e : z = (z.natAbs : Int) := by omega
  conv => rhs; rw [e, Int.tdiv_eq_ediv_of_nonneg (by omega)]

end Go.Proofs.YtcghjjfpjiacfaaDoor

namespace Go.Proofs.YtcghjjfpjiacfaaDoor
set_option linter.unusedVariables false
open Go.RowKit Go.Shelf


theorem vld_iff (n d : Int) : Vld n d ↔ 1 ≤ d ∧ d ≤ 1152921504606846976 ∧ -1152921504606846976 ≤ n ∧ n ≤ 1152921504606846976 ∧ Int.gcd n d = 1 :=
  ⟨fun h => ⟨h.d1, h.d2, h.n1, h.n2, h.co⟩, fun ⟨a, b, c, d, e⟩ => ⟨a, b, c, d, e⟩⟩

set_option maxHeartbeats 1000000 in
theorem divisor_any (a b : Int) (w : World) (a0 : -9223372036854775808 ≤ a) (a1 : a ≤ 9223372036854775807) (b0 : 0 < b) (b1 : b ≤ 1152921504606846976) :
    Calls Tryd.prog 137 #[.int .i64 a, .int .i64 b] w fun e w' => e = .returned (.int .i64 (Int.gcd a b : Nat)) ∧ ∃ k, w' = w.drewN k := by
  have hg : Int.gcd a b ≤ b.natAbs := Nat.le_of_dvd (by omega) (Nat.gcd_dvd_right _ _)
  have hgd : Int.gcd a b = Nat.gcd a.natAbs b.natAbs := rfl
  obtain ⟨g, hgg⟩ : ∃ g : Int, g = (Int.gcd a b : Nat) := ⟨_, rfl⟩
  have g0 : 0 ≤ g := by omega
  have g1 : g ≤ 1152921504606846976 := by omega
  have CG : ∀ w, Hid (Calls Tryd.prog 149 #[.int .u64 (a.natAbs : Int), .int .u64 (b.natAbs : Int)] w fun e w' => e = .returned (.int .u64 g) ∧ ∃ k, w' = w.drewN k) := fun w => by
    rw [hgg, hgd]; exact gcd_any a.natAbs b.natAbs w (by omega) (by omega)
  rw [← hgg]
  obtain ⟨x, hx⟩ : ∃ x : Int, x = a.natAbs := ⟨_, rfl⟩
  obtain ⟨y, hy⟩ : ∃ y : Int, y = b.natAbs := ⟨_, rfl⟩
  have x0 : 0 ≤ x := by omega
  have x1 : x < 18446744073709551616 := by omega
  have y0 : 0 ≤ y := by omega
  have y1 : y < 18446744073709551616 := by omega
  have CA : ∀ w, Hid (Calls Tryd.prog 150 #[.int .i64 a] w fun e w' => e = .returned (.int .u64 x) ∧ w = w') := fun w => by rw [hx]; exact size_any a w a0 a1
  have CB : ∀ w, Hid (Calls Tryd.prog 150 #[.int .i64 b] w fun e w' => e = .returned (.int .u64 y) ∧ w = w') := fun w => by rw [hy]; exact size_any b w (by omega) (by omega)
  rw [← hx, ← hy] at CG
  clear hx hy hgg hgd hg
  go_enter Tryd.func137, Tryd.ntmps137
  go_wp2_with (first
    | (go_at_call 150; (with_reducible refine ((CA _).out).mono ?_); rintro e w' ⟨rfl, rfl⟩)
    | (go_at_call 150; (with_reducible refine ((CB _).out).mono ?_); rintro e w' ⟨rfl, rfl⟩)
    | (go_at_call 149; (with_reducible refine ((CG _).out).mono ?_); rintro e w' ⟨rfl, nk, rfl⟩))
  go_ret
  exact ⟨rfl, _, rfl⟩

instance (n d : Int) : Decidable (Vld n d) := decidable_of_iff _ (vld_iff n d).symm
/-- Is it a valid fraction? -/
def vB (n d : Int) : Bool := decide (Vld n d)
theorem vB_yes {n d : Int} (h : Vld n d) : vB n d = true := by simp [vB, h]
theorem vB_no {n d : Int} (h : ¬ Vld n d) : vB n d = false := by simp [vB, h]
theorem vB_vld {n d : Int} (h : vB n d = true) : Vld n d := by simpa [vB] using h
theorem vB_not {n d : Int} (h : vB n d = false) : ¬ Vld n d := by simpa [vB] using h

set_option maxHeartbeats 1000000 in
theorem Valid_any (n d : Int) (w : World) (n0 : -9223372036854775808 ≤ n) (n1 : n ≤ 9223372036854775807) (d0 : -9223372036854775808 ≤ d) (d1 : d ≤ 9223372036854775807) :
    Calls Tryd.prog 118 #[.agg #[.int .i64 n, .int .i64 d]] w fun e w' => e = .returned (.bool (vB n d)) ∧ Below w.heap.size w w' := by
  by_cases h1 : d < 1
  · have hv := Lib.hid (vB_no (n := n) (d := d) (fun h => by have := h.d1; omega))
    go_enter Tryd.func118, Tryd.ntmps118
    go_wp2
    go_ret
    exact ⟨by rw [hv.out]; rfl, by go_grown⟩
  have h1' : decide (d < 1) = false := by simp; omega
  by_cases h2 : 1152921504606846976 < d
  · have hv := Lib.hid (vB_no (n := n) (d := d) (fun h => by have := h.d2; omega))
    go_enter Tryd.func118, Tryd.ntmps118
    go_wp2
    go_ret
    exact ⟨by rw [hv.out]; rfl, by go_grown⟩
  have h2' : decide (1152921504606846976 < d) = false := by simp; omega
  by_cases h3 : n < -1152921504606846976
  · have hv := Lib.hid (vB_no (n := n) (d := d) (fun h => by have := h.n1; omega))
    go_enter Tryd.func118, Tryd.ntmps118
    go_wp2
    go_ret
    exact ⟨by rw [hv.out]; rfl, by go_grown⟩
  have h3' : decide (n < -1152921504606846976) = false := by simp; omega
  by_cases h4 : 1152921504606846976 < n
  · have hv := Lib.hid (vB_no (n := n) (d := d) (fun h => by have := h.n2; omega))
    go_enter Tryd.func118, Tryd.ntmps118
    go_wp2
    go_ret
    exact ⟨by rw [hv.out]; rfl, by go_grown⟩
  have h4' : decide (1152921504606846976 < n) = false := by simp; omega
  have hv : Hid (vB n d = (((Int.gcd n d : Nat) : Int) == 1)) := by
    unfold vB Hid
    rw [Bool.eq_iff_iff]
    simp only [decide_eq_true_eq, vld_iff, beq_iff_eq]
    omega
  rw [hv.out]
  obtain ⟨g, hg⟩ : ∃ g : Int, g = (Int.gcd n d : Nat) := ⟨_, rfl⟩
  have C : ∀ w, Hid (Calls Tryd.prog 137 #[.int .i64 n, .int .i64 d] w fun e w' => e = .returned (.int .i64 g) ∧ ∃ k, w' = w.drewN k) := fun w => by rw [hg]; exact divisor_any n d w n0 n1 (by omega) (by omega)
  rw [← hg]
  clear hv hg
  go_enter Tryd.func118, Tryd.ntmps118
  go_wp2_with (first
    | (go_at_call 137; (with_reducible refine ((C _).out).mono ?_); rintro e w' ⟨rfl, nk, rfl⟩))
  go_ret
  exact ⟨rfl, below_drew (by go_grown) _⟩

end Go.Proofs.YtcghjjfpjiacfaaDoor

namespace Go.Proofs.YtcghjjfpjiacfaaDoor
set_option linter.unusedVariables false

theorem gcd_mod (c m : Nat) : Nat.gcd c (m % c) = Nat.gcd c m := by rw [Nat.gcd_rec c m, Nat.gcd_comm]

theorem tdiv_exact {a l : Int} (hl : 0 < l) (h : l ∣ a) : l * a.tdiv l = a ∧ (a.tdiv l).natAbs = a.natAbs / l.natAbs := ⟨Int.mul_tdiv_cancel' h, Int.natAbs_tdiv _ _⟩

theorem abs_le_mul {a b A B : Int} (ha : a.natAbs ≤ A.toNat) (hb : b.natAbs ≤ B.toNat) : (a * b).natAbs ≤ A.toNat * B.toNat := by
  rw [Int.natAbs_mul]; exact Nat.mul_le_mul ha hb

theorem mul_bd {a b : Int} (ha0 : -1152921504606846976 ≤ a) (ha1 : a ≤ 1152921504606846976) (hb0 : -1152921504606846976 ≤ b) (hb1 : b ≤ 1152921504606846976) : -1329227995784915872903807060280344576 ≤ a * b ∧ a * b ≤ 1329227995784915872903807060280344576 := by
  have h := Nat.mul_le_mul (show a.natAbs ≤ 1152921504606846976 by omega) (show b.natAbs ≤ 1152921504606846976 by omega)
  rw [← Int.natAbs_mul] at h
  omega

theorem plus_fit {an ad bn bd c N s : Int} (va : Vld an ad) (vb : Vld bn bd) (hc : c = (Int.gcd ad bd : Nat)) (hN : N = an * (bd / c) + bn * (ad / c)) (hs : s = (Nat.gcd c.natAbs N.natAbs : Nat)) :
    0 < c ∧ c ≤ ad ∧ c ≤ bd ∧ 0 < s ∧ s ≤ c ∧ 0 < ad / c ∧ ad / c ≤ ad ∧ 0 < bd / c ∧ bd / c ≤ bd ∧ 0 < bd / s ∧ bd / s ≤ bd ∧ fitT (N.tdiv s) (ad / c * (bd / s)) = redT (an * bd + bn * ad) (ad * bd) := by
  have a1 := va.d1
  have b1 := vb.d1
  obtain ⟨A, rfl⟩ := Int.eq_ofNat_of_zero_le (show 0 ≤ ad by omega)
  obtain ⟨B, rfl⟩ := Int.eq_ofNat_of_zero_le (show 0 ≤ bd by omega)
  have hcn : c = ((Nat.gcd A B : Nat) : Int) := by rw [hc]; rfl
  clear hc
  subst hcn
  rw [Int.natAbs_natCast] at hs
  subst hs
  have c0 : 0 < Nat.gcd A B := Nat.gcd_pos_of_pos_left _ (by omega)
  have k1 : Nat.gcd A B ∣ A := Nat.gcd_dvd_left _ _
  have k2 : Nat.gcd A B ∣ B := Nat.gcd_dvd_right _ _
  have co := plus_co (an := an.natAbs) (ad := A) (bn := bn.natAbs) (bd := B) (c := Nat.gcd A B) (N := N) (a := an) (b := bn) rfl rfl va.co vb.co rfl c0 (by rw [hN]; simp) rfl
  generalize hg : Nat.gcd A B = c at *
  have s0 : 0 < Nat.gcd c N.natAbs := Nat.gcd_pos_of_pos_left _ c0
  have k3 : Nat.gcd c N.natAbs ∣ c := Nat.gcd_dvd_left _ _
  have k4 : Nat.gcd c N.natAbs ∣ N.natAbs := Nat.gcd_dvd_right _ _
  generalize hs : Nat.gcd c N.natAbs = s at *
  obtain ⟨u, hu⟩ := k1
  obtain ⟨v, hv⟩ := k2
  obtain ⟨t, ht⟩ := k3
  have e1 : (A : Int) / (c : Int) = (u : Int) := by rw [hu, Int.natCast_mul, Int.mul_ediv_cancel_left _ (by omega)]
  have e2 : (B : Int) / (c : Int) = (v : Int) := by rw [hv, Int.natCast_mul, Int.mul_ediv_cancel_left _ (by omega)]
  have hBs : B = s * (t * v) := by rw [hv, ht, Nat.mul_assoc]
  have e3 : (B : Int) / (s : Int) = ((t * v : Nat) : Int) := by rw [hBs, Int.natCast_mul, Int.mul_ediv_cancel_left _ (by omega)]
  have u0 : 0 < u := Nat.pos_of_ne_zero (fun h => by subst h; simp at hu; omega)
  have v0 : 0 < v := Nat.pos_of_ne_zero (fun h => by subst h; simp at hv; omega)
  have t0 : 0 < t := Nat.pos_of_ne_zero (fun h => by subst h; simp at ht; omega)
  have tv0 : 0 < t * v := Nat.mul_pos t0 v0
  have l1 : c ≤ A := by rw [hu]; exact Nat.le_mul_of_pos_right _ u0
  have l2 : c ≤ B := by rw [hv]; exact Nat.le_mul_of_pos_right _ v0
  have l3 : s ≤ c := by rw [ht]; exact Nat.le_mul_of_pos_right _ t0
  have l4 : u ≤ A := by rw [hu]; exact Nat.le_mul_of_pos_left _ c0
  have l5 : v ≤ B := by rw [hv]; exact Nat.le_mul_of_pos_left _ c0
  have l6 : t * v ≤ B := by rw [hBs]; exact Nat.le_mul_of_pos_left _ s0
  rw [e1, e2, e3]
  rw [e1, e2] at hN
  obtain ⟨x1, x2⟩ := tdiv_exact (a := N) (l := (s : Int)) (by omega) (Int.ofNat_dvd_left.2 k4)
  rw [Int.natAbs_natCast] at x2
  refine ⟨by omega, by omega, by omega, by omega, by omega, by omega, by omega, by omega, by omega, by omega, by omega, ?_⟩
  refine (redT_of (Int.mul_pos (by omega) (by omega)) (Int.mul_pos (by omega) (by omega)) ?_ ?_).symm
  · have e4 : A / c = u := by rw [hu]; exact Nat.mul_div_cancel_left _ c0
    have e5 : B / s = t * v := by rw [hBs]; exact Nat.mul_div_cancel_left _ s0
    rw [e4, e5, ← x2] at co
    have : Int.gcd (N.tdiv ↑s) ((u : Int) * ((t * v : Nat) : Int)) = Nat.gcd (N.tdiv ↑s).natAbs (u * (t * v)) := by
      unfold Int.gcd
      rw [Int.natAbs_mul, Int.natAbs_natCast, Int.natAbs_natCast]
    rw [this]; exact co
  · have y1 : (an * (B : Int) + bn * (A : Int)) = (c : Int) * N := by
      rw [hN, hu, hv]
      simp only [Int.natCast_mul]
      grind
    have y2 : (A : Int) = (c : Int) * u := by rw [hu]; simp
    have y3 : (B : Int) = (s : Int) * ((t * v : Nat) : Int) := by rw [hBs]; simp
    rw [y1]
    generalize N.tdiv ↑s = n at *
    generalize ((t * v : Nat) : Int) = tv at *
    rw [← x1, y3, y2]
    grind

theorem times_fit {an ad bn bd l r : Int} (va : Vld an ad) (vb : Vld bn bd) (hl : l = (Int.gcd an bd : Nat)) (hr : r = (Int.gcd bn ad : Nat)) :
    0 < l ∧ l ≤ bd ∧ 0 < r ∧ r ≤ ad ∧ (an.tdiv l).natAbs ≤ an.natAbs ∧ (bn.tdiv r).natAbs ≤ bn.natAbs ∧ 0 < ad / r ∧ ad / r ≤ ad ∧ 0 < bd / l ∧ bd / l ≤ bd ∧ fitT (an.tdiv l * bn.tdiv r) (ad / r * (bd / l)) = redT (an * bn) (ad * bd) := by
  have a1 := va.d1
  have b1 := vb.d1
  have hl0 : 0 < Int.gcd an bd := Int.gcd_pos_of_ne_zero_right _ (by omega)
  have hr0 : 0 < Int.gcd bn ad := Int.gcd_pos_of_ne_zero_right _ (by omega)
  have l1 : l ∣ an := hl ▸ Int.gcd_dvd_left _ _
  have l2 : l ∣ bd := hl ▸ Int.gcd_dvd_right _ _
  have r1 : r ∣ bn := hr ▸ Int.gcd_dvd_left _ _
  have r2 : r ∣ ad := hr ▸ Int.gcd_dvd_right _ _
  have co := times_co (an := an.natAbs) (ad := ad.natAbs) (bn := bn.natAbs) (bd := bd.natAbs) (l := l.natAbs) (r := r.natAbs) va.co vb.co (by rw [hl]; rfl) (by rw [hr]; rfl) (by omega) (by omega)
  have l0 : 0 < l := by omega
  have r0 : 0 < r := by omega
  clear hl hr hl0 hr0
  obtain ⟨x1, x2⟩ := tdiv_exact l0 l1
  obtain ⟨y1, y2⟩ := tdiv_exact r0 r1
  have z1 := Int.mul_ediv_cancel' r2
  have z2 := Int.mul_ediv_cancel' l2
  have p1 : 0 < ad / r := by
    rcases Int.lt_or_le 0 (ad / r) with h | h
    · exact h
    · have := Int.mul_le_mul_of_nonneg_left h (Int.le_of_lt r0); rw [z1, Int.mul_zero] at this; omega
  have p2 : 0 < bd / l := by
    rcases Int.lt_or_le 0 (bd / l) with h | h
    · exact h
    · have := Int.mul_le_mul_of_nonneg_left h (Int.le_of_lt l0); rw [z2, Int.mul_zero] at this; omega
  have q1 : (ad / r).natAbs = ad.natAbs / r.natAbs := by have h := Int.natAbs_tdiv ad r; rw [Int.tdiv_eq_ediv_of_nonneg (by omega)] at h; exact h
  have q2 : (bd / l).natAbs = bd.natAbs / l.natAbs := by have h := Int.natAbs_tdiv bd l; rw [Int.tdiv_eq_ediv_of_nonneg (by omega)] at h; exact h
  refine ⟨l0, Int.le_of_dvd (by omega) l2, r0, Int.le_of_dvd (by omega) r2, by rw [x2]; exact Nat.div_le_self _ _, by rw [y2]; exact Nat.div_le_self _ _, p1, Int.ediv_le_self _ (by omega), p2, Int.ediv_le_self _ (by omega), ?_⟩
  refine (redT_of (Int.mul_pos (by omega) (by omega)) (Int.mul_pos p1 p2) ?_ ?_).symm
  · unfold Int.gcd
    rw [Int.natAbs_mul, Int.natAbs_mul, x2, y2, q1, q2]
    exact co
  · generalize an.tdiv l = n1 at *
    generalize bn.tdiv r = n2 at *
    generalize ad / r = d1 at *
    generalize bd / l = d2 at *
    rw [← x1, ← y1, ← z1, ← z2]
    grind

/-- A number over a number that is not 0. -/
theorem make_fit {num den : Int} {g : Nat} (h : den ≠ 0) (hg : g = Nat.gcd num.natAbs den.natAbs) : 0 < g ∧ g ≤ den.natAbs ∧
    fitT (if (num < 0 ∧ den < 0) ∨ (0 ≤ num ∧ 0 ≤ den) then ((num.natAbs / g : Nat) : Int) else -((num.natAbs / g : Nat) : Int)) ((den.natAbs / g : Nat) : Int) = redT (if den < 0 then -num else num) (den.natAbs : Int) := by
  have g0 : 0 < g := hg ▸ Nat.gcd_pos_of_pos_right _ (by omega)
  have k1 : g ∣ num.natAbs := hg ▸ Nat.gcd_dvd_left _ _
  have k2 : g ∣ den.natAbs := hg ▸ Nat.gcd_dvd_right _ _
  have co : Nat.Coprime (num.natAbs / g) (den.natAbs / g) := by rw [hg]; exact Nat.coprime_div_gcd_div_gcd (by omega)
  have x1 := Nat.mul_div_cancel' k1
  have x2 := Nat.mul_div_cancel' k2
  have le := Nat.le_of_dvd (by omega) k2
  generalize num.natAbs / g = n at *
  generalize den.natAbs / g = d at *
  have d0 : 0 < d := Nat.pos_of_ne_zero (fun h => by subst h; simp at x2; omega)
  refine ⟨g0, le, (redT_of (by omega) (by omega) ?_ ?_).symm⟩
  · split
    · exact co
    · unfold Int.gcd; rw [Int.natAbs_neg]; exact co
  · have y1 : (num.natAbs : Int) = (g : Int) * n := by rw [← x1]; simp
    have y2 : (den.natAbs : Int) = (g : Int) * d := by rw [← x2]; simp
    have e : (if den < 0 then -num else num) = if (num < 0 ∧ den < 0) ∨ (0 ≤ num ∧ 0 ≤ den) then (num.natAbs : Int) else -(num.natAbs : Int) := by
      split <;> split <;> omega
    rw [e, y2, y1]
    split <;> grind

end Go.Proofs.YtcghjjfpjiacfaaDoor

namespace Go.Proofs.YtcghjjfpjiacfaaDoor
set_option linter.unusedVariables false
open Go.RowKit Go.Shelf

/-- What is carried through a statement that draws its order: the two parameters' cells, the result's variable, the frame. -/
theorem keepS {w W w2 : World} {v0 v1 v2 v3 : Value} (h : W.cell? ⟨w.heap.size, 0, none⟩ = some v0 ∧ W.cell? ⟨w.heap.size, 1, none⟩ = some v1 ∧ W.cell? ⟨w.heap.size + 1, 0, none⟩ = some v2 ∧ W.cell? ⟨w.heap.size + 1, 1, none⟩ = some v3 ∧ Below w.heap.size w W ∧ w.heap.size + 2 < W.heap.size ∧
      (W.cell? ⟨w.heap.size + 1 + 1, 0, none⟩).isSome = true ∧ (W.cell? ⟨w.heap.size + 1 + 1, 1, none⟩).isSome = true ∧ W.frozen? ⟨w.heap.size + 1 + 1, 0, none⟩ = false ∧ W.frozen? ⟨w.heap.size + 1 + 1, 1, none⟩ = false) (hb : Below W.heap.size W w2) :
    w2.cell? ⟨w.heap.size, 0, none⟩ = some v0 ∧ w2.cell? ⟨w.heap.size, 1, none⟩ = some v1 ∧ w2.cell? ⟨w.heap.size + 1, 0, none⟩ = some v2 ∧ w2.cell? ⟨w.heap.size + 1, 1, none⟩ = some v3 ∧ Below w.heap.size w w2 ∧ w.heap.size + 2 < w2.heap.size ∧
      (w2.cell? ⟨w.heap.size + 1 + 1, 0, none⟩).isSome = true ∧ (w2.cell? ⟨w.heap.size + 1 + 1, 1, none⟩).isSome = true ∧ w2.frozen? ⟨w.heap.size + 1 + 1, 0, none⟩ = false ∧ w2.frozen? ⟨w.heap.size + 1 + 1, 1, none⟩ = false := by
  obtain ⟨h0, h1, h2, h3, hB, hz, h4, h5, h6, h7⟩ := h
  obtain ⟨B, hc, hf⟩ := after0 (a := w) hb hB
  have := hb.size
  refine ⟨?_, ?_, ?_, ?_, B, by omega, ?_, ?_, ?_, ?_⟩
  · rw [hc _ _ (by omega)]; exact h0
  · rw [hc _ _ (by omega)]; exact h1
  · rw [hc _ _ (by omega)]; exact h2
  · rw [hc _ _ (by omega)]; exact h3
  · rw [hc _ _ (by omega)]; exact h4
  · rw [hc _ _ (by omega)]; exact h5
  · rw [hf _ _ (by omega)]; exact h6
  · rw [hf _ _ (by omega)]; exact h7

theorem keepR {w W w2 : World} {v0 v1 v2 v3 : Value} (h : W.cell? ⟨w.heap.size, 0, none⟩ = some v0 ∧ W.cell? ⟨w.heap.size, 1, none⟩ = some v1 ∧ W.cell? ⟨w.heap.size + 1, 0, none⟩ = some v2 ∧ W.cell? ⟨w.heap.size + 1, 1, none⟩ = some v3 ∧ Below w.heap.size w W ∧ w.heap.size + 2 < W.heap.size ∧
      (W.cell? ⟨w.heap.size + 1 + 1, 0, none⟩).isSome = true ∧ (W.cell? ⟨w.heap.size + 1 + 1, 1, none⟩).isSome = true ∧ W.frozen? ⟨w.heap.size + 1 + 1, 0, none⟩ = false ∧ W.frozen? ⟨w.heap.size + 1 + 1, 1, none⟩ = false) (hb : Below W.heap.size W w2) : ∃ r0 r1, w2.cell? ⟨w.heap.size + 1 + 1, 0, none⟩ = some r0 ∧ w2.cell? ⟨w.heap.size + 1 + 1, 1, none⟩ = some r1 := by
  obtain ⟨_, _, _, _, _, _, h4, h5, _, _⟩ := keepS h hb
  obtain ⟨r0, h0⟩ := Option.isSome_iff_exists.1 h4
  obtain ⟨r1, h1⟩ := Option.isSome_iff_exists.1 h5
  exact ⟨r0, r1, h0, h1⟩

theorem storeS {w W : World} {v0 v1 v2 v3 x y : Value} (h : W.cell? ⟨w.heap.size, 0, none⟩ = some v0 ∧ W.cell? ⟨w.heap.size, 1, none⟩ = some v1 ∧ W.cell? ⟨w.heap.size + 1, 0, none⟩ = some v2 ∧ W.cell? ⟨w.heap.size + 1, 1, none⟩ = some v3 ∧ Below w.heap.size w W ∧ w.heap.size + 2 < W.heap.size ∧
      (W.cell? ⟨w.heap.size + 1 + 1, 0, none⟩).isSome = true ∧ (W.cell? ⟨w.heap.size + 1 + 1, 1, none⟩).isSome = true ∧ W.frozen? ⟨w.heap.size + 1 + 1, 0, none⟩ = false ∧ W.frozen? ⟨w.heap.size + 1 + 1, 1, none⟩ = false) : ((W.setCell ⟨w.heap.size + 1 + 1, 0, none⟩ x).setCell ⟨w.heap.size + 1 + 1, 1, none⟩ y).cell? ⟨w.heap.size, 0, none⟩ = some v0 ∧ ((W.setCell ⟨w.heap.size + 1 + 1, 0, none⟩ x).setCell ⟨w.heap.size + 1 + 1, 1, none⟩ y).cell? ⟨w.heap.size, 1, none⟩ = some v1 ∧ ((W.setCell ⟨w.heap.size + 1 + 1, 0, none⟩ x).setCell ⟨w.heap.size + 1 + 1, 1, none⟩ y).cell? ⟨w.heap.size + 1, 0, none⟩ = some v2 ∧ ((W.setCell ⟨w.heap.size + 1 + 1, 0, none⟩ x).setCell ⟨w.heap.size + 1 + 1, 1, none⟩ y).cell? ⟨w.heap.size + 1, 1, none⟩ = some v3 ∧ Below w.heap.size w ((W.setCell ⟨w.heap.size + 1 + 1, 0, none⟩ x).setCell ⟨w.heap.size + 1 + 1, 1, none⟩ y) ∧ w.heap.size + 2 < ((W.setCell ⟨w.heap.size + 1 + 1, 0, none⟩ x).setCell ⟨w.heap.size + 1 + 1, 1, none⟩ y).heap.size ∧
      (((W.setCell ⟨w.heap.size + 1 + 1, 0, none⟩ x).setCell ⟨w.heap.size + 1 + 1, 1, none⟩ y).cell? ⟨w.heap.size + 1 + 1, 0, none⟩).isSome = true ∧ (((W.setCell ⟨w.heap.size + 1 + 1, 0, none⟩ x).setCell ⟨w.heap.size + 1 + 1, 1, none⟩ y).cell? ⟨w.heap.size + 1 + 1, 1, none⟩).isSome = true ∧ ((W.setCell ⟨w.heap.size + 1 + 1, 0, none⟩ x).setCell ⟨w.heap.size + 1 + 1, 1, none⟩ y).frozen? ⟨w.heap.size + 1 + 1, 0, none⟩ = false ∧ ((W.setCell ⟨w.heap.size + 1 + 1, 0, none⟩ x).setCell ⟨w.heap.size + 1 + 1, 1, none⟩ y).frozen? ⟨w.heap.size + 1 + 1, 1, none⟩ = false := by
  obtain ⟨h0, h1, h2, h3, hB, hz, h4, h5, h6, h7⟩ := h
  have e0 : ∀ o, (⟨w.heap.size + 1 + 1, o, none⟩ : Addr) ≠ ⟨w.heap.size, 0, none⟩ := fun o h => by injection h; omega
  have far : ∀ (p : Addr) (b o : Nat) (V : World) (v : Value), p.block ≠ b → (V.setCell p v).cell? ⟨b, o, none⟩ = V.cell? ⟨b, o, none⟩ := fun p b o V v hne => World.cell?_setCell_far V p ⟨b, o, none⟩ v hne
  refine ⟨?_, ?_, ?_, ?_, ?_, ?_, ?_, ?_, ?_, ?_⟩
  · rw [far _ _ _ _ _ (by simp; omega), far _ _ _ _ _ (by simp; omega)]; exact h0
  · rw [far _ _ _ _ _ (by simp; omega), far _ _ _ _ _ (by simp; omega)]; exact h1
  · rw [far _ _ _ _ _ (by simp), far _ _ _ _ _ (by simp)]; exact h2
  · rw [far _ _ _ _ _ (by simp), far _ _ _ _ _ (by simp)]; exact h3
  · exact (hB.setCell (by simp; omega) _).setCell (by simp; omega) _
  · simpa using hz
  · have e1 := World.cell?_setCell_same' W _ x h4
    rw [World.cell?_setCell_other _ _ _ _ (by simp), e1]; rfl
  · rw [World.cell?_setCell_same' _ _ _ (by rw [World.cell?_setCell_other _ _ _ _ (by simp)]; exact h5)]; rfl
  · simpa using h6
  · simpa using h7

theorem farS {w W : World} {v0 v1 v2 v3 x y : Value} {g : Nat} (h : W.cell? ⟨w.heap.size, 0, none⟩ = some v0 ∧ W.cell? ⟨w.heap.size, 1, none⟩ = some v1 ∧ W.cell? ⟨w.heap.size + 1, 0, none⟩ = some v2 ∧ W.cell? ⟨w.heap.size + 1, 1, none⟩ = some v3 ∧ Below w.heap.size w W ∧ w.heap.size + 2 < W.heap.size ∧
      (W.cell? ⟨w.heap.size + 1 + 1, 0, none⟩).isSome = true ∧ (W.cell? ⟨w.heap.size + 1 + 1, 1, none⟩).isSome = true ∧ W.frozen? ⟨w.heap.size + 1 + 1, 0, none⟩ = false ∧ W.frozen? ⟨w.heap.size + 1 + 1, 1, none⟩ = false) (hg : w.heap.size + 2 < g) : ((W.setCell ⟨g, 0, none⟩ x).setCell ⟨g, 1, none⟩ y).cell? ⟨w.heap.size, 0, none⟩ = some v0 ∧ ((W.setCell ⟨g, 0, none⟩ x).setCell ⟨g, 1, none⟩ y).cell? ⟨w.heap.size, 1, none⟩ = some v1 ∧ ((W.setCell ⟨g, 0, none⟩ x).setCell ⟨g, 1, none⟩ y).cell? ⟨w.heap.size + 1, 0, none⟩ = some v2 ∧ ((W.setCell ⟨g, 0, none⟩ x).setCell ⟨g, 1, none⟩ y).cell? ⟨w.heap.size + 1, 1, none⟩ = some v3 ∧ Below w.heap.size w ((W.setCell ⟨g, 0, none⟩ x).setCell ⟨g, 1, none⟩ y) ∧ w.heap.size + 2 < ((W.setCell ⟨g, 0, none⟩ x).setCell ⟨g, 1, none⟩ y).heap.size ∧
      (((W.setCell ⟨g, 0, none⟩ x).setCell ⟨g, 1, none⟩ y).cell? ⟨w.heap.size + 1 + 1, 0, none⟩).isSome = true ∧ (((W.setCell ⟨g, 0, none⟩ x).setCell ⟨g, 1, none⟩ y).cell? ⟨w.heap.size + 1 + 1, 1, none⟩).isSome = true ∧ ((W.setCell ⟨g, 0, none⟩ x).setCell ⟨g, 1, none⟩ y).frozen? ⟨w.heap.size + 1 + 1, 0, none⟩ = false ∧ ((W.setCell ⟨g, 0, none⟩ x).setCell ⟨g, 1, none⟩ y).frozen? ⟨w.heap.size + 1 + 1, 1, none⟩ = false := by
  obtain ⟨h0, h1, h2, h3, hB, hz, h4, h5, h6, h7⟩ := h
  have far : ∀ (p : Addr) (b o : Nat) (V : World) (v : Value), p.block ≠ b → (V.setCell p v).cell? ⟨b, o, none⟩ = V.cell? ⟨b, o, none⟩ := fun p b o V v hne => World.cell?_setCell_far V p ⟨b, o, none⟩ v hne
  refine ⟨?_, ?_, ?_, ?_, ?_, ?_, ?_, ?_, ?_, ?_⟩
  · rw [far _ _ _ _ _ (by simp; omega), far _ _ _ _ _ (by simp; omega)]; exact h0
  · rw [far _ _ _ _ _ (by simp; omega), far _ _ _ _ _ (by simp; omega)]; exact h1
  · rw [far _ _ _ _ _ (by simp; omega), far _ _ _ _ _ (by simp; omega)]; exact h2
  · rw [far _ _ _ _ _ (by simp; omega), far _ _ _ _ _ (by simp; omega)]; exact h3
  · exact (hB.setCell (by simp; omega) _).setCell (by simp; omega) _
  · simpa using hz
  · rw [far _ _ _ _ _ (by simp; omega), far _ _ _ _ _ (by simp; omega)]; exact h4
  · rw [far _ _ _ _ _ (by simp; omega), far _ _ _ _ _ (by simp; omega)]; exact h5
  · simpa using h6
  · simpa using h7

theorem newS {w W : World} {v0 v1 v2 v3 : Value} {o : Obj} (h : W.cell? ⟨w.heap.size, 0, none⟩ = some v0 ∧ W.cell? ⟨w.heap.size, 1, none⟩ = some v1 ∧ W.cell? ⟨w.heap.size + 1, 0, none⟩ = some v2 ∧ W.cell? ⟨w.heap.size + 1, 1, none⟩ = some v3 ∧ Below w.heap.size w W ∧ w.heap.size + 2 < W.heap.size ∧
      (W.cell? ⟨w.heap.size + 1 + 1, 0, none⟩).isSome = true ∧ (W.cell? ⟨w.heap.size + 1 + 1, 1, none⟩).isSome = true ∧ W.frozen? ⟨w.heap.size + 1 + 1, 0, none⟩ = false ∧ W.frozen? ⟨w.heap.size + 1 + 1, 1, none⟩ = false) : (W.alloc o).cell? ⟨w.heap.size, 0, none⟩ = some v0 ∧ (W.alloc o).cell? ⟨w.heap.size, 1, none⟩ = some v1 ∧ (W.alloc o).cell? ⟨w.heap.size + 1, 0, none⟩ = some v2 ∧ (W.alloc o).cell? ⟨w.heap.size + 1, 1, none⟩ = some v3 ∧ Below w.heap.size w (W.alloc o) ∧ w.heap.size + 2 < (W.alloc o).heap.size ∧
      ((W.alloc o).cell? ⟨w.heap.size + 1 + 1, 0, none⟩).isSome = true ∧ ((W.alloc o).cell? ⟨w.heap.size + 1 + 1, 1, none⟩).isSome = true ∧ (W.alloc o).frozen? ⟨w.heap.size + 1 + 1, 0, none⟩ = false ∧ (W.alloc o).frozen? ⟨w.heap.size + 1 + 1, 1, none⟩ = false := by
  obtain ⟨h0, h1, h2, h3, hB, hz, h4, h5, h6, h7⟩ := h
  have B : Below W.heap.size W (W.alloc o) := (Below.refl _ _).alloc (Nat.le_refl _) _
  exact keepS ⟨h0, h1, h2, h3, hB, hz, h4, h5, h6, h7⟩ B

theorem swapS {w W : World} {v0 v1 v2 v3 : Value} {o o' : Obj} (h : (W.alloc o).cell? ⟨w.heap.size, 0, none⟩ = some v0 ∧ (W.alloc o).cell? ⟨w.heap.size, 1, none⟩ = some v1 ∧ (W.alloc o).cell? ⟨w.heap.size + 1, 0, none⟩ = some v2 ∧ (W.alloc o).cell? ⟨w.heap.size + 1, 1, none⟩ = some v3 ∧ Below w.heap.size w (W.alloc o) ∧ w.heap.size + 2 < (W.alloc o).heap.size ∧
      ((W.alloc o).cell? ⟨w.heap.size + 1 + 1, 0, none⟩).isSome = true ∧ ((W.alloc o).cell? ⟨w.heap.size + 1 + 1, 1, none⟩).isSome = true ∧ (W.alloc o).frozen? ⟨w.heap.size + 1 + 1, 0, none⟩ = false ∧ (W.alloc o).frozen? ⟨w.heap.size + 1 + 1, 1, none⟩ = false) (hg : w.heap.size + 2 < W.heap.size) : (W.alloc o').cell? ⟨w.heap.size, 0, none⟩ = some v0 ∧ (W.alloc o').cell? ⟨w.heap.size, 1, none⟩ = some v1 ∧ (W.alloc o').cell? ⟨w.heap.size + 1, 0, none⟩ = some v2 ∧ (W.alloc o').cell? ⟨w.heap.size + 1, 1, none⟩ = some v3 ∧ Below w.heap.size w (W.alloc o') ∧ w.heap.size + 2 < (W.alloc o').heap.size ∧
      ((W.alloc o').cell? ⟨w.heap.size + 1 + 1, 0, none⟩).isSome = true ∧ ((W.alloc o').cell? ⟨w.heap.size + 1 + 1, 1, none⟩).isSome = true ∧ (W.alloc o').frozen? ⟨w.heap.size + 1 + 1, 0, none⟩ = false ∧ (W.alloc o').frozen? ⟨w.heap.size + 1 + 1, 1, none⟩ = false := by
  obtain ⟨h0, h1, h2, h3, hB, hz, h4, h5, h6, h7⟩ := h
  have hb : Below W.heap.size W (W.alloc o) := (Below.refl _ _).alloc (Nat.le_refl _) _
  have hc := fun b i (hh : b < W.heap.size) => hb.cell (p := ⟨b, i, none⟩) hh
  have hf := fun b i (hh : b < W.heap.size) => hb.frozen (p := ⟨b, i, none⟩) hh
  refine newS ⟨?_, ?_, ?_, ?_, ⟨hB.os, hB.tape, hB.output, by omega, fun k hk => ?_⟩, hg, ?_, ?_, ?_, ?_⟩
  · rw [← hc _ _ (by omega)]; exact h0
  · rw [← hc _ _ (by omega)]; exact h1
  · rw [← hc _ _ (by omega)]; exact h2
  · rw [← hc _ _ (by omega)]; exact h3
  · rw [← hB.block k hk, Below.heap_alloc _ _ _ (by omega)]
  · rw [← hc _ _ (by omega)]; exact h4
  · rw [← hc _ _ (by omega)]; exact h5
  · rw [← hf _ _ (by omega)]; exact h6
  · rw [← hf _ _ (by omega)]; exact h7

theorem startS (w : World) (a0 a1 b0 b1 r0 r1 : Value) (t n : Nat) (W : World) (hW : W = ((((w.alloc (Obj.cells #[a0, a1] t)).alloc (Obj.cells #[b0, b1] t)).alloc (Obj.cells #[r0, r1] t)).drewN n)) :
    W.drew.cell? ⟨w.heap.size, 0, none⟩ = some a0 ∧ W.drew.cell? ⟨w.heap.size, 1, none⟩ = some a1 ∧ W.drew.cell? ⟨w.heap.size + 1, 0, none⟩ = some b0 ∧ W.drew.cell? ⟨w.heap.size + 1, 1, none⟩ = some b1 ∧ Below w.heap.size w W.drew ∧ w.heap.size + 2 < W.drew.heap.size ∧
      (W.drew.cell? ⟨w.heap.size + 1 + 1, 0, none⟩).isSome = true ∧ (W.drew.cell? ⟨w.heap.size + 1 + 1, 1, none⟩).isSome = true ∧ W.drew.frozen? ⟨w.heap.size + 1 + 1, 0, none⟩ = false ∧ W.drew.frozen? ⟨w.heap.size + 1 + 1, 1, none⟩ = false := by
  subst hW
  have e : ((w.alloc (Obj.cells #[a0, a1] t)).alloc (Obj.cells #[b0, b1] t)).heap.size = w.heap.size + 1 + 1 := by simp
  generalize hV : (w.alloc (Obj.cells #[a0, a1] t)).alloc (Obj.cells #[b0, b1] t) = V at *
  have c0 : V.cell? ⟨w.heap.size, 0, none⟩ = some a0 := by rw [← hV]; simp [go_sem]
  have c1 : V.cell? ⟨w.heap.size, 1, none⟩ = some a1 := by rw [← hV]; simp [go_sem]
  have c2 : V.cell? ⟨w.heap.size + 1, 0, none⟩ = some b0 := by rw [← hV]; simp [go_sem]
  have c3 : V.cell? ⟨w.heap.size + 1, 1, none⟩ = some b1 := by rw [← hV]; simp [go_sem]
  have B : Below w.heap.size w V := by rw [← hV]; exact (by repeat' (first | (with_reducible exact Below.refl _ _) | (with_reducible assumption) | (with_reducible refine Below.alloc ?_ ?_ _) | (with_reducible refine below_drew ?_ _) | (with_reducible refine Below.drew ?_) | (with_reducible refine Below.setCell ?_ ?_ _) | go_size))
  clear hV
  rw [← e]
  refine ⟨?_, ?_, ?_, ?_, ?_, ?_, ?_, ?_, ?_, ?_⟩
  · rw [World.cell?_drew, World.cell?_drewN, World.cell?_alloc_past _ _ _ (by omega)]; exact c0
  · rw [World.cell?_drew, World.cell?_drewN, World.cell?_alloc_past _ _ _ (by omega)]; exact c1
  · rw [World.cell?_drew, World.cell?_drewN, World.cell?_alloc_past _ _ _ (by omega)]; exact c2
  · rw [World.cell?_drew, World.cell?_drewN, World.cell?_alloc_past _ _ _ (by omega)]; exact c3
  · exact Below.drew (below_drew (B.alloc (by omega) _) _)
  · first | (simp; done) | (simp; omega)
  · simp [go_sem]
  · simp [go_sem]
  · simp [go_sem]
  · simp [go_sem]

end Go.Proofs.YtcghjjfpjiacfaaDoor

namespace Go.Proofs.YtcghjjfpjiacfaaDoor
set_option linter.unusedVariables false
open Go.RowKit Go.Shelf

theorem afterZ {W w1 : World} (hb : Below W.heap.size W w1) : (∀ b o, b < W.heap.size → w1.cell? ⟨b, o, none⟩ = W.cell? ⟨b, o, none⟩) ∧ (∀ b o, b < W.heap.size → w1.frozen? ⟨b, o, none⟩ = W.frozen? ⟨b, o, none⟩) ∧ (∀ n, n < W.heap.size → n < w1.heap.size) :=
  ⟨fun b o hh => hb.cell (p := ⟨b, o, none⟩) hh, fun b o hh => hb.frozen (p := ⟨b, o, none⟩) hh, fun n h => Nat.lt_of_lt_of_le h hb.size⟩

theorem two0 {W : World} {g : Nat} {x y : Value} (h : (W.cell? ⟨g, 0, none⟩).isSome = true) : ((W.setCell ⟨g, 0, none⟩ x).setCell ⟨g, 1, none⟩ y).cell? ⟨g, 0, none⟩ = some x := by
  rw [World.cell?_setCell_other _ _ _ _ (by simp), World.cell?_setCell_same' W _ x h]
theorem two1 {W : World} {g : Nat} {x y : Value} (h : (W.cell? ⟨g, 1, none⟩).isSome = true) : ((W.setCell ⟨g, 0, none⟩ x).setCell ⟨g, 1, none⟩ y).cell? ⟨g, 1, none⟩ = some y := by
  rw [World.cell?_setCell_same' _ _ _ (by rw [World.cell?_setCell_other _ _ _ _ (by simp)]; exact h)]

theorem keepT {w W w2 : World} {v0 v1 v2 v3 c0 c1 : Value} {g : Nat} (h : (W.cell? ⟨w.heap.size, 0, none⟩ = some v0 ∧ W.cell? ⟨w.heap.size, 1, none⟩ = some v1 ∧ W.cell? ⟨w.heap.size + 1, 0, none⟩ = some v2 ∧ W.cell? ⟨w.heap.size + 1, 1, none⟩ = some v3 ∧ Below w.heap.size w W ∧ w.heap.size + 2 < W.heap.size ∧
      (W.cell? ⟨w.heap.size + 1 + 1, 0, none⟩).isSome = true ∧ (W.cell? ⟨w.heap.size + 1 + 1, 1, none⟩).isSome = true ∧ W.frozen? ⟨w.heap.size + 1 + 1, 0, none⟩ = false ∧ W.frozen? ⟨w.heap.size + 1 + 1, 1, none⟩ = false) ∧ W.cell? ⟨g, 0, none⟩ = some c0 ∧ W.cell? ⟨g, 1, none⟩ = some c1 ∧ g < W.heap.size) (hb : Below W.heap.size W w2) : (w2.cell? ⟨w.heap.size, 0, none⟩ = some v0 ∧ w2.cell? ⟨w.heap.size, 1, none⟩ = some v1 ∧ w2.cell? ⟨w.heap.size + 1, 0, none⟩ = some v2 ∧ w2.cell? ⟨w.heap.size + 1, 1, none⟩ = some v3 ∧ Below w.heap.size w w2 ∧ w.heap.size + 2 < w2.heap.size ∧
      (w2.cell? ⟨w.heap.size + 1 + 1, 0, none⟩).isSome = true ∧ (w2.cell? ⟨w.heap.size + 1 + 1, 1, none⟩).isSome = true ∧ w2.frozen? ⟨w.heap.size + 1 + 1, 0, none⟩ = false ∧ w2.frozen? ⟨w.heap.size + 1 + 1, 1, none⟩ = false) ∧ w2.cell? ⟨g, 0, none⟩ = some c0 ∧ w2.cell? ⟨g, 1, none⟩ = some c1 ∧ g < w2.heap.size :=
  ⟨keepS h.1 hb, (hb.cell (p := ⟨g, 0, none⟩) h.2.2.2).trans h.2.1, (hb.cell (p := ⟨g, 1, none⟩) h.2.2.2).trans h.2.2.1, Nat.lt_of_lt_of_le h.2.2.2 hb.size⟩

theorem keepTR {w W w2 : World} {v0 v1 v2 v3 c0 c1 : Value} {g : Nat} (h : (W.cell? ⟨w.heap.size, 0, none⟩ = some v0 ∧ W.cell? ⟨w.heap.size, 1, none⟩ = some v1 ∧ W.cell? ⟨w.heap.size + 1, 0, none⟩ = some v2 ∧ W.cell? ⟨w.heap.size + 1, 1, none⟩ = some v3 ∧ Below w.heap.size w W ∧ w.heap.size + 2 < W.heap.size ∧
      (W.cell? ⟨w.heap.size + 1 + 1, 0, none⟩).isSome = true ∧ (W.cell? ⟨w.heap.size + 1 + 1, 1, none⟩).isSome = true ∧ W.frozen? ⟨w.heap.size + 1 + 1, 0, none⟩ = false ∧ W.frozen? ⟨w.heap.size + 1 + 1, 1, none⟩ = false) ∧ W.cell? ⟨g, 0, none⟩ = some c0 ∧ W.cell? ⟨g, 1, none⟩ = some c1 ∧ g < W.heap.size) (hb : Below W.heap.size W w2) : ∃ r0 r1, w2.cell? ⟨w.heap.size + 1 + 1, 0, none⟩ = some r0 ∧ w2.cell? ⟨w.heap.size + 1 + 1, 1, none⟩ = some r1 :=
  keepR h.1 hb

theorem storeT {w W : World} {v0 v1 v2 v3 c0 c1 x y : Value} {g : Nat} (h : (W.cell? ⟨w.heap.size, 0, none⟩ = some v0 ∧ W.cell? ⟨w.heap.size, 1, none⟩ = some v1 ∧ W.cell? ⟨w.heap.size + 1, 0, none⟩ = some v2 ∧ W.cell? ⟨w.heap.size + 1, 1, none⟩ = some v3 ∧ Below w.heap.size w W ∧ w.heap.size + 2 < W.heap.size ∧
      (W.cell? ⟨w.heap.size + 1 + 1, 0, none⟩).isSome = true ∧ (W.cell? ⟨w.heap.size + 1 + 1, 1, none⟩).isSome = true ∧ W.frozen? ⟨w.heap.size + 1 + 1, 0, none⟩ = false ∧ W.frozen? ⟨w.heap.size + 1 + 1, 1, none⟩ = false) ∧ W.cell? ⟨g, 0, none⟩ = some c0 ∧ W.cell? ⟨g, 1, none⟩ = some c1 ∧ g < W.heap.size) (hg : w.heap.size + 2 < g) : (((W.setCell ⟨w.heap.size + 1 + 1, 0, none⟩ x).setCell ⟨w.heap.size + 1 + 1, 1, none⟩ y).cell? ⟨w.heap.size, 0, none⟩ = some v0 ∧ ((W.setCell ⟨w.heap.size + 1 + 1, 0, none⟩ x).setCell ⟨w.heap.size + 1 + 1, 1, none⟩ y).cell? ⟨w.heap.size, 1, none⟩ = some v1 ∧ ((W.setCell ⟨w.heap.size + 1 + 1, 0, none⟩ x).setCell ⟨w.heap.size + 1 + 1, 1, none⟩ y).cell? ⟨w.heap.size + 1, 0, none⟩ = some v2 ∧ ((W.setCell ⟨w.heap.size + 1 + 1, 0, none⟩ x).setCell ⟨w.heap.size + 1 + 1, 1, none⟩ y).cell? ⟨w.heap.size + 1, 1, none⟩ = some v3 ∧ Below w.heap.size w ((W.setCell ⟨w.heap.size + 1 + 1, 0, none⟩ x).setCell ⟨w.heap.size + 1 + 1, 1, none⟩ y) ∧ w.heap.size + 2 < ((W.setCell ⟨w.heap.size + 1 + 1, 0, none⟩ x).setCell ⟨w.heap.size + 1 + 1, 1, none⟩ y).heap.size ∧
      (((W.setCell ⟨w.heap.size + 1 + 1, 0, none⟩ x).setCell ⟨w.heap.size + 1 + 1, 1, none⟩ y).cell? ⟨w.heap.size + 1 + 1, 0, none⟩).isSome = true ∧ (((W.setCell ⟨w.heap.size + 1 + 1, 0, none⟩ x).setCell ⟨w.heap.size + 1 + 1, 1, none⟩ y).cell? ⟨w.heap.size + 1 + 1, 1, none⟩).isSome = true ∧ ((W.setCell ⟨w.heap.size + 1 + 1, 0, none⟩ x).setCell ⟨w.heap.size + 1 + 1, 1, none⟩ y).frozen? ⟨w.heap.size + 1 + 1, 0, none⟩ = false ∧ ((W.setCell ⟨w.heap.size + 1 + 1, 0, none⟩ x).setCell ⟨w.heap.size + 1 + 1, 1, none⟩ y).frozen? ⟨w.heap.size + 1 + 1, 1, none⟩ = false) ∧ ((W.setCell ⟨w.heap.size + 1 + 1, 0, none⟩ x).setCell ⟨w.heap.size + 1 + 1, 1, none⟩ y).cell? ⟨g, 0, none⟩ = some c0 ∧ ((W.setCell ⟨w.heap.size + 1 + 1, 0, none⟩ x).setCell ⟨w.heap.size + 1 + 1, 1, none⟩ y).cell? ⟨g, 1, none⟩ = some c1 ∧ g < ((W.setCell ⟨w.heap.size + 1 + 1, 0, none⟩ x).setCell ⟨w.heap.size + 1 + 1, 1, none⟩ y).heap.size := by
  have far : ∀ (p : Addr) (b o : Nat) (V : World) (v : Value), p.block ≠ b → (V.setCell p v).cell? ⟨b, o, none⟩ = V.cell? ⟨b, o, none⟩ := fun p b o V v hne => World.cell?_setCell_far V p ⟨b, o, none⟩ v hne
  refine ⟨storeS h.1, ?_, ?_, by simpa using h.2.2.2⟩
  · rw [far _ _ _ _ _ (by simp; omega), far _ _ _ _ _ (by simp; omega)]; exact h.2.1
  · rw [far _ _ _ _ _ (by simp; omega), far _ _ _ _ _ (by simp; omega)]; exact h.2.2.1

end Go.Proofs.YtcghjjfpjiacfaaDoor

namespace Go.Proofs.YtcghjjfpjiacfaaDoor
set_option linter.unusedVariables false
open Go.RowKit Go.Shelf

/-- ErrArg unless both fractions are valid. -/
def okT (an ad bn bd : Int) (t : Int × Int × Int) : Int × Int × Int := if vB an ad = true ∧ vB bn bd = true then t else (0, 0, 1)
def addT (an ad bn bd : Int) : Int × Int × Int := okT an ad bn bd (redT (an * bd + bn * ad) (ad * bd))
def subT (an ad bn bd : Int) : Int × Int × Int := okT an ad bn bd (redT (an * bd + -bn * ad) (ad * bd))
def mulT (an ad bn bd : Int) : Int × Int × Int := okT an ad bn bd (redT (an * bn) (ad * bd))
def divT (an ad bn bd : Int) : Int × Int × Int := okT an ad bn bd (if bn = 0 then (0, 0, 16) else if bn < 0 then redT (an * -bd) (ad * -bn) else redT (an * bd) (ad * bn))

theorem okT_yes {an ad bn bd : Int} {t : Int × Int × Int} (ha : vB an ad = true) (hb : vB bn bd = true) : okT an ad bn bd t = t := by unfold okT; rw [if_pos ⟨ha, hb⟩]
theorem okT_a {an ad bn bd : Int} {t : Int × Int × Int} (ha : vB an ad = false) : okT an ad bn bd t = (0, 0, 1) := by unfold okT; rw [if_neg (by simp [ha])]
theorem okT_b {an ad bn bd : Int} {t : Int × Int × Int} (hb : vB bn bd = false) : okT an ad bn bd t = (0, 0, 1) := by unfold okT; rw [if_neg (by simp [hb])]
theorem three {a b c n d e : Int} (h : (a, b, c) = (n, d, e)) : a = n ∧ b = d ∧ c = e := by injection h with h1 h2; injection h2 with h2 h3; exact ⟨h1, h2, h3⟩

theorem Vld.neg {n d : Int} (h : Vld n d) : Vld (-n) d := ⟨h.d1, h.d2, by have := h.n2; omega, by have := h.n1; omega, by rw [Int.neg_gcd]; exact h.co⟩
theorem Vld.inv {n d : Int} (h : Vld n d) (h0 : 0 < n) : Vld d n := ⟨by omega, h.n2, by have := h.d1; omega, h.d2, by rw [Int.gcd_comm]; exact h.co⟩

end Go.Proofs.YtcghjjfpjiacfaaDoor

namespace Go.Proofs.YtcghjjfpjiacfaaDoor
set_option linter.unusedVariables false
open Go.RowKit Go.Shelf

def cmpT (an ad bn bd : Int) : Int × Int := if vB an ad = true ∧ vB bn bd = true then (sgn (an * bd + -bn * ad), 0) else (0, 1)
def floorT (n d : Int) : Int × Int := if vB n d = true then (n / d, 0) else (0, 1)
def ceilT (n d : Int) : Int × Int := if vB n d = true then (-(-n / d), 0) else (0, 1)
def makeT (num den : Int) : Int × Int × Int := if den = 0 then (0, 0, 16) else redT (if den < 0 then -num else num) (den.natAbs : Int)
theorem two {a b c d : Int} (h : (a, b) = (c, d)) : a = c ∧ b = d := by injection h with h1 h2; exact ⟨h1, h2⟩

theorem ret_k {k k' e : Int} (h : k' = k) : Ending.returned (.tuple #[.int .i64 k, .int .i64 e]) = .returned (.tuple #[.int .i64 k', .int .i64 e]) := by rw [h]

theorem floor_go {n d q r : Int} (hd : 0 < d) (h : d * q + r = n) (h1 : r < d) (h2 : -d < r) : n / d = if r < 0 then q - 1 else q := by
  split
  · have e : n = (r + d) + d * (q - 1) := by rw [Int.mul_sub, Int.mul_one]; omega
    rw [e, Int.add_mul_ediv_left _ _ (by omega), Int.ediv_eq_zero_of_lt (by omega) (by omega)]; omega
  · have e : n = r + d * q := by omega
    rw [e, Int.add_mul_ediv_left _ _ (by omega), Int.ediv_eq_zero_of_lt (by omega) (by omega)]; omega
theorem ceil_go {n d q r : Int} (hd : 0 < d) (h : d * q + r = n) (h1 : r < d) (h2 : -d < r) : -(-n / d) = if 0 < r then q + 1 else q := by
  have := floor_go (n := -n) (d := d) (q := -q) (r := -r) hd (by rw [Int.mul_neg]; omega) (by omega) (by omega)
  rw [this]
  split <;> split <;> omega

theorem tq_bd {n d : Int} (h1 : -1152921504606846976 ≤ n) (h2 : n ≤ 1152921504606846976) : -1152921504606846976 ≤ n.tdiv d ∧ n.tdiv d ≤ 1152921504606846976 := by
  have := Int.natAbs_tdiv_le_natAbs n d
  omega

end Go.Proofs.YtcghjjfpjiacfaaDoor

namespace Go.Proofs.YtcghjjfpjiacfaaDoor
set_option linter.unusedVariables false
open Go.RowKit Go.Shelf

theorem keepU {w W w2 : World} {v0 v1 v2 v3 : Value} (h : W.cell? ⟨w.heap.size, 0, none⟩ = some v0 ∧ W.cell? ⟨w.heap.size, 1, none⟩ = some v1 ∧ W.cell? ⟨w.heap.size + 1, 0, none⟩ = some v2 ∧ W.cell? ⟨w.heap.size + 1, 1, none⟩ = some v3 ∧ Below w.heap.size w W ∧ w.heap.size + 1 < W.heap.size) (hb : Below W.heap.size W w2) : w2.cell? ⟨w.heap.size, 0, none⟩ = some v0 ∧ w2.cell? ⟨w.heap.size, 1, none⟩ = some v1 ∧ w2.cell? ⟨w.heap.size + 1, 0, none⟩ = some v2 ∧ w2.cell? ⟨w.heap.size + 1, 1, none⟩ = some v3 ∧ Below w.heap.size w w2 ∧ w.heap.size + 1 < w2.heap.size := by
  obtain ⟨h0, h1, h2, h3, hB, hz⟩ := h
  obtain ⟨B, hc, hf⟩ := after0 (a := w) hb hB
  have := hb.size
  exact ⟨by rw [hc _ _ (by omega)]; exact h0, by rw [hc _ _ (by omega)]; exact h1, by rw [hc _ _ (by omega)]; exact h2, by rw [hc _ _ (by omega)]; exact h3, B, by omega⟩
theorem keepM {w W w2 : World} {v0 v1 : Value} (h : W.cell? ⟨w.heap.size + 1, 0, none⟩ = some v0 ∧ W.cell? ⟨w.heap.size + 1, 1, none⟩ = some v1 ∧ Below w.heap.size w W ∧ w.heap.size + 1 < W.heap.size ∧ (W.cell? ⟨w.heap.size, 0, none⟩).isSome = true ∧ (W.cell? ⟨w.heap.size, 1, none⟩).isSome = true ∧ W.frozen? ⟨w.heap.size, 0, none⟩ = false ∧ W.frozen? ⟨w.heap.size, 1, none⟩ = false) (hb : Below W.heap.size W w2) : w2.cell? ⟨w.heap.size + 1, 0, none⟩ = some v0 ∧ w2.cell? ⟨w.heap.size + 1, 1, none⟩ = some v1 ∧ Below w.heap.size w w2 ∧ w.heap.size + 1 < w2.heap.size ∧ (w2.cell? ⟨w.heap.size, 0, none⟩).isSome = true ∧ (w2.cell? ⟨w.heap.size, 1, none⟩).isSome = true ∧ w2.frozen? ⟨w.heap.size, 0, none⟩ = false ∧ w2.frozen? ⟨w.heap.size, 1, none⟩ = false := by
  obtain ⟨h0, h1, hB, hz, h4, h5, h6, h7⟩ := h
  obtain ⟨B, hc, hf⟩ := after0 (a := w) hb hB
  have := hb.size
  exact ⟨by rw [hc _ _ (by omega)]; exact h0, by rw [hc _ _ (by omega)]; exact h1, B, by omega, by rw [hc _ _ (by omega)]; exact h4, by rw [hc _ _ (by omega)]; exact h5, by rw [hf _ _ (by omega)]; exact h6, by rw [hf _ _ (by omega)]; exact h7⟩
theorem keepMR {w W w2 : World} {v0 v1 : Value} (h : W.cell? ⟨w.heap.size + 1, 0, none⟩ = some v0 ∧ W.cell? ⟨w.heap.size + 1, 1, none⟩ = some v1 ∧ Below w.heap.size w W ∧ w.heap.size + 1 < W.heap.size ∧ (W.cell? ⟨w.heap.size, 0, none⟩).isSome = true ∧ (W.cell? ⟨w.heap.size, 1, none⟩).isSome = true ∧ W.frozen? ⟨w.heap.size, 0, none⟩ = false ∧ W.frozen? ⟨w.heap.size, 1, none⟩ = false) (hb : Below W.heap.size W w2) : ∃ r0 r1, w2.cell? ⟨w.heap.size, 0, none⟩ = some r0 ∧ w2.cell? ⟨w.heap.size, 1, none⟩ = some r1 := by
  obtain ⟨_, _, _, _, h4, h5, _, _⟩ := keepM h hb
  obtain ⟨r0, h0⟩ := Option.isSome_iff_exists.1 h4
  obtain ⟨r1, h1⟩ := Option.isSome_iff_exists.1 h5
  exact ⟨r0, r1, h0, h1⟩
theorem storeM {w W : World} {v0 v1 x y : Value} (h : W.cell? ⟨w.heap.size + 1, 0, none⟩ = some v0 ∧ W.cell? ⟨w.heap.size + 1, 1, none⟩ = some v1 ∧ Below w.heap.size w W ∧ w.heap.size + 1 < W.heap.size ∧ (W.cell? ⟨w.heap.size, 0, none⟩).isSome = true ∧ (W.cell? ⟨w.heap.size, 1, none⟩).isSome = true ∧ W.frozen? ⟨w.heap.size, 0, none⟩ = false ∧ W.frozen? ⟨w.heap.size, 1, none⟩ = false) : ((W.setCell ⟨w.heap.size, 0, none⟩ x).setCell ⟨w.heap.size, 1, none⟩ y).cell? ⟨w.heap.size + 1, 0, none⟩ = some v0 ∧ ((W.setCell ⟨w.heap.size, 0, none⟩ x).setCell ⟨w.heap.size, 1, none⟩ y).cell? ⟨w.heap.size + 1, 1, none⟩ = some v1 ∧ Below w.heap.size w ((W.setCell ⟨w.heap.size, 0, none⟩ x).setCell ⟨w.heap.size, 1, none⟩ y) ∧ w.heap.size + 1 < ((W.setCell ⟨w.heap.size, 0, none⟩ x).setCell ⟨w.heap.size, 1, none⟩ y).heap.size ∧ (((W.setCell ⟨w.heap.size, 0, none⟩ x).setCell ⟨w.heap.size, 1, none⟩ y).cell? ⟨w.heap.size, 0, none⟩).isSome = true ∧ (((W.setCell ⟨w.heap.size, 0, none⟩ x).setCell ⟨w.heap.size, 1, none⟩ y).cell? ⟨w.heap.size, 1, none⟩).isSome = true ∧ ((W.setCell ⟨w.heap.size, 0, none⟩ x).setCell ⟨w.heap.size, 1, none⟩ y).frozen? ⟨w.heap.size, 0, none⟩ = false ∧ ((W.setCell ⟨w.heap.size, 0, none⟩ x).setCell ⟨w.heap.size, 1, none⟩ y).frozen? ⟨w.heap.size, 1, none⟩ = false := by
  obtain ⟨h0, h1, hB, hz, h4, h5, h6, h7⟩ := h
  have far : ∀ (p : Addr) (b o : Nat) (V : World) (v : Value), p.block ≠ b → (V.setCell p v).cell? ⟨b, o, none⟩ = V.cell? ⟨b, o, none⟩ := fun p b o V v hne => World.cell?_setCell_far V p ⟨b, o, none⟩ v hne
  refine ⟨?_, ?_, ?_, ?_, ?_, ?_, ?_, ?_⟩
  · rw [far _ _ _ _ _ (by simp), far _ _ _ _ _ (by simp)]; exact h0
  · rw [far _ _ _ _ _ (by simp), far _ _ _ _ _ (by simp)]; exact h1
  · exact (hB.setCell (by simp) _).setCell (by simp) _
  · simpa using hz
  · rw [two0 h4]; rfl
  · rw [two1 h5]; rfl
  · simpa using h6
  · simpa using h7

end Go.Proofs.YtcghjjfpjiacfaaDoor

namespace Go.Proofs.YtcghjjfpjiacfaaDoor
set_option linter.unusedVariables false
open Go.RowKit Go.Shelf

theorem startM (w : World) (r0 r1 a0 a1 : Value) (t t' n : Nat) : ∀ W, W = ((w.alloc (Obj.cells #[r0, r1] t)).drewN n).alloc (Obj.cells #[a0, a1] t') → W.cell? ⟨w.heap.size + 1, 0, none⟩ = some a0 ∧ W.cell? ⟨w.heap.size + 1, 1, none⟩ = some a1 ∧ Below w.heap.size w W ∧ w.heap.size + 1 < W.heap.size ∧ (W.cell? ⟨w.heap.size, 0, none⟩).isSome = true ∧ (W.cell? ⟨w.heap.size, 1, none⟩).isSome = true ∧ W.frozen? ⟨w.heap.size, 0, none⟩ = false ∧ W.frozen? ⟨w.heap.size, 1, none⟩ = false := by
  intro W hW
  subst hW
  refine ⟨by simp [go_sem], by simp [go_sem], (by repeat' (first | (with_reducible exact Below.refl _ _) | (with_reducible assumption) | (with_reducible refine Below.alloc ?_ ?_ _) | (with_reducible refine below_drew ?_ _) | (with_reducible refine Below.drew ?_) | (with_reducible refine Below.setCell ?_ ?_ _) | go_size)), by simp, ?_, ?_, ?_, ?_⟩
  · rw [World.cell?_alloc_past _ _ _ (by simp)]; simp [go_sem]
  · rw [World.cell?_alloc_past _ _ _ (by simp)]; simp [go_sem]
  · simp [go_sem]
  · simp [go_sem]
theorem storeN {w W : World} {v0 v1 x y : Value} (h : W.cell? ⟨w.heap.size + 1, 0, none⟩ = some v0 ∧ W.cell? ⟨w.heap.size + 1, 1, none⟩ = some v1 ∧ Below w.heap.size w W ∧ w.heap.size + 1 < W.heap.size ∧ (W.cell? ⟨w.heap.size, 0, none⟩).isSome = true ∧ (W.cell? ⟨w.heap.size, 1, none⟩).isSome = true ∧ W.frozen? ⟨w.heap.size, 0, none⟩ = false ∧ W.frozen? ⟨w.heap.size, 1, none⟩ = false) : ((W.setCell ⟨w.heap.size + 1, 0, none⟩ x).setCell ⟨w.heap.size + 1, 1, none⟩ y).cell? ⟨w.heap.size + 1, 0, none⟩ = some x ∧ ((W.setCell ⟨w.heap.size + 1, 0, none⟩ x).setCell ⟨w.heap.size + 1, 1, none⟩ y).cell? ⟨w.heap.size + 1, 1, none⟩ = some y ∧ Below w.heap.size w ((W.setCell ⟨w.heap.size + 1, 0, none⟩ x).setCell ⟨w.heap.size + 1, 1, none⟩ y) ∧ w.heap.size + 1 < ((W.setCell ⟨w.heap.size + 1, 0, none⟩ x).setCell ⟨w.heap.size + 1, 1, none⟩ y).heap.size ∧ (((W.setCell ⟨w.heap.size + 1, 0, none⟩ x).setCell ⟨w.heap.size + 1, 1, none⟩ y).cell? ⟨w.heap.size, 0, none⟩).isSome = true ∧ (((W.setCell ⟨w.heap.size + 1, 0, none⟩ x).setCell ⟨w.heap.size + 1, 1, none⟩ y).cell? ⟨w.heap.size, 1, none⟩).isSome = true ∧ ((W.setCell ⟨w.heap.size + 1, 0, none⟩ x).setCell ⟨w.heap.size + 1, 1, none⟩ y).frozen? ⟨w.heap.size, 0, none⟩ = false ∧ ((W.setCell ⟨w.heap.size + 1, 0, none⟩ x).setCell ⟨w.heap.size + 1, 1, none⟩ y).frozen? ⟨w.heap.size, 1, none⟩ = false := by
  obtain ⟨h0, h1, hB, hz, h4, h5, h6, h7⟩ := h
  have far : ∀ (p : Addr) (b o : Nat) (V : World) (v : Value), p.block ≠ b → (V.setCell p v).cell? ⟨b, o, none⟩ = V.cell? ⟨b, o, none⟩ := fun p b o V v hne => World.cell?_setCell_far V p ⟨b, o, none⟩ v hne
  refine ⟨two0 (by rw [h0]; rfl), two1 (by rw [h1]; rfl), ?_, ?_, ?_, ?_, ?_, ?_⟩
  · exact (hB.setCell (by simp) _).setCell (by simp) _
  · simpa using hz
  · rw [far _ _ _ _ _ (by simp), far _ _ _ _ _ (by simp)]; exact h4
  · rw [far _ _ _ _ _ (by simp), far _ _ _ _ _ (by simp)]; exact h5
  · simpa using h6
  · simpa using h7

end Go.Proofs.YtcghjjfpjiacfaaDoor

namespace Go.Proofs.YtcghjjfpjiacfaaDoor
set_option linter.unusedVariables false
open Go.RowKit Go.Shelf

/-- The table of the powers of ten reads as it is laid, whatever is done from block B on. -/
abbrev Pow10 (B : Nat) (w : World) : Prop := Lib.TabBelow Tryd.prog B w "internal/strconv.uint64pow10" .u64 Lib.pow10Tab

/-- The text of a fraction. -/
def txt (n d : Int) : List UInt8 := if d = 1 then Lib.itoa n else Lib.itoa n ++ 47 :: Lib.itoa d
def textT (n d : Int) : List UInt8 × Int := if vB n d = true then (txt n d, 0) else ([], 1)

theorem Itoa_b (n : Int) (h0 : -9223372036854775808 ≤ n) (h1 : n ≤ 9223372036854775807) (w : World) (htab : Lib.TabIs Tryd.prog w "internal/strconv.uint64pow10" .u64 Lib.pow10Tab) :
    Calls Tryd.prog 93 #[.int .i64 n] w fun e w' => e = .returned (.string ⟨(Lib.itoa n).toArray⟩) ∧ Below w.heap.size w w' :=
  (Tryd.strconv_Itoa n h0 h1 w htab).mono fun e w' ⟨he, k, os, hw⟩ => ⟨he, by rw [hw]; exact Lib.below_grow _ _ (Nat.le_refl _) _ _⟩

theorem keepX {w W w2 : World} {v0 v1 : Value} (h : W.cell? ⟨w.heap.size, 0, none⟩ = some v0 ∧ W.cell? ⟨w.heap.size, 1, none⟩ = some v1 ∧ Below w.heap.size w W ∧ w.heap.size < W.heap.size) (hb : Below W.heap.size W w2) : w2.cell? ⟨w.heap.size, 0, none⟩ = some v0 ∧ w2.cell? ⟨w.heap.size, 1, none⟩ = some v1 ∧ Below w.heap.size w w2 ∧ w.heap.size < w2.heap.size := by
  obtain ⟨h0, h1, hB, hz⟩ := h
  obtain ⟨B, hc, hf⟩ := after0 (a := w) hb hB
  have := hb.size
  exact ⟨by rw [hc _ _ (by omega)]; exact h0, by rw [hc _ _ (by omega)]; exact h1, B, by omega⟩
theorem tabX {w W : World} {v0 v1 : Value} {B : Nat} (hT : Pow10 B w) (hB : B ≤ w.heap.size) (h : W.cell? ⟨w.heap.size, 0, none⟩ = some v0 ∧ W.cell? ⟨w.heap.size, 1, none⟩ = some v1 ∧ Below w.heap.size w W ∧ w.heap.size < W.heap.size) : Lib.TabIs Tryd.prog W "internal/strconv.uint64pow10" .u64 Lib.pow10Tab :=
  hT _ (h.2.2.1.mono hB)

set_option maxHeartbeats 4000000 in
theorem Text_any (n d : Int) (w : World) (B : Nat) (hBw : B ≤ w.heap.size) (hT : Hid (Pow10 B w)) (n0 : -9223372036854775808 ≤ n) (n1 : n ≤ 9223372036854775807) (d0 : -9223372036854775808 ≤ d) (d1 : d ≤ 9223372036854775807) (s : List UInt8) (e : Int) (h : textT n d = (s, e)) :
    Calls Tryd.prog 115 #[.agg #[.int .i64 n, .int .i64 d]] w fun r w' => r = .returned (.tuple #[.string ⟨s.toArray⟩, .int .i64 e]) ∧ Below w.heap.size w w' := by
  have CV := fun w => Lib.hid (Valid_any n d w n0 n1 d0 d1)
  have IN := fun w h => Lib.hid (Itoa_b n n0 n1 w h)
  have ID := fun w h => Lib.hid (Itoa_b d d0 d1 w h)
  have ln := Lib.itoa_length_le n n0 n1
  have ld := Lib.itoa_length_le d d0 d1
  unfold textT at h
  by_cases hv : vB n d = true
  · rw [if_pos hv] at h
    obtain ⟨q1, q2⟩ : txt n d = s ∧ (0 : Int) = e := by injection h with h1 h2; exact ⟨h1, h2⟩
    subst q2
    simp only [hv] at CV
    clear h hv
    by_cases h1 : d = 1
    · have Q : Hid (Lib.itoa n = s) := by rw [← q1]; unfold txt; rw [if_pos h1]; rfl
      subst h1
      clear q1
      go_enter Tryd.func115, Tryd.ntmps115
      go_wp2_with (first
        | (go_at_call 118; (with_reducible refine ((CV _).out).mono ?_); rintro e w1 ⟨rfl, hb1⟩; obtain ⟨B1, hc1, hf1, p1, z1⟩ := after1 (a := w) hb1 (by go_grown) (by go_size); clear hb1)
        | (go_at_call 93; have T1 := hT.out _ (B1.mono hBw); (with_reducible refine ((IN _ T1).out).mono ?_); rintro e w2 ⟨rfl, hb2⟩; have B2 := B1.trans (hb2.mono B1.size); clear hb2))
      go_ret2
      exact ⟨by rw [Q.out]; rfl, B2⟩
    · have Q : Hid (Lib.itoa n ++ 47 :: Lib.itoa d = s) := by rw [← q1]; unfold txt; rw [if_neg h1]; rfl
      have h2 : (d == 1) = false := by simpa using h1
      clear q1
      obtain ⟨u, hu⟩ : ∃ u, Lib.itoa n = u := ⟨_, rfl⟩
      obtain ⟨v, hv⟩ : ∃ v, Lib.itoa d = v := ⟨_, rfl⟩
      obtain ⟨m, hm⟩ : ∃ m, u ++ [47] = m := ⟨_, rfl⟩
      simp only [hu] at IN ln
      simp only [hv] at ID ld
      rw [hu, hv] at Q
      have lm : m.length = u.length + 1 := by rw [← hm]; simp
      have A1 : ∀ (w : World), (Op.stringOp .add ⟨u.toArray⟩ ⟨#[47]⟩).run Tryd.prog w = .ok (.string ⟨m.toArray⟩) w := fun w => by rw [← hm]; exact run_string_add_lists w u [47] (by omega) (by simp)
      have A2 : ∀ (w : World), (Op.stringOp .add ⟨m.toArray⟩ ⟨v.toArray⟩).run Tryd.prog w = .ok (.string ⟨s.toArray⟩) w := fun w => by
        rw [← Q.out, show u ++ 47 :: v = m ++ v by rw [← hm]; simp]
        exact run_string_add_lists w m v (by omega) (by omega)
      have Hx := Lib.hid (And.intro hu (And.intro hv (And.intro hm lm)))
      clear hu hv hm lm ln ld
      go_enter Tryd.func115, Tryd.ntmps115
      go_wp2_with (first
        | (go_at_call 118; (with_reducible refine ((CV _).out).mono ?_); rintro e w1 ⟨rfl, hb1⟩; obtain ⟨B1, hc1, hf1, p1, z1⟩ := after1 (a := w) hb1 (by go_grown) (by go_size); have HS := Lib.hid (show w1.cell? ⟨w.heap.size, 0, none⟩ = some (Value.int .i64 n) ∧ w1.cell? ⟨w.heap.size, 1, none⟩ = some (Value.int .i64 d) ∧ Below w.heap.size w w1 ∧ w.heap.size < w1.heap.size from ⟨(hc1 _ _ (by go_size)).trans (by simp [go_sem]), (hc1 _ _ (by go_size)).trans (by simp [go_sem]), B1, p1⟩); clear hb1))
      go_region_held3 (fun WX => WX.cell? ⟨w.heap.size, 0, none⟩ = some (Value.int .i64 n) ∧ WX.cell? ⟨w.heap.size, 1, none⟩ = some (Value.int .i64 d) ∧ Below w.heap.size w WX ∧ w.heap.size < WX.heap.size)
        (first | exact keepX (by assumption) hb | exact keepX HS.out (Below.drew (Below.refl _ _)) | go_keep)
        (first
          | (go_at_call 93; have T1 := tabX (w := w) (v0 := .int .i64 n) (v1 := .int .i64 d) hT.out hBw (by assumption); (with_reducible refine ((IN _ T1).out).mono ?_); clear T1; rintro e w2 ⟨rfl, hb⟩)
          | (go_at_call 93; have T1 := tabX (w := w) (v0 := .int .i64 n) (v1 := .int .i64 d) hT.out hBw (by assumption); (with_reducible refine ((ID _ T1).out).mono ?_); clear T1; rintro e w2 ⟨rfl, hb⟩))
      all_goals
        rename_i hS
        have hB := hS.2.2.1
        clear hS
        go_wp2
        go_ret2
        exact ⟨rfl, hB⟩
  · rw [if_neg hv] at h
    obtain ⟨q1, q2⟩ : ([] : List UInt8) = s ∧ (1 : Int) = e := by injection h with h1 h2; exact ⟨h1, h2⟩
    subst q1; subst q2
    simp only [show vB n d = false by simpa using hv] at CV
    clear h hv
    go_enter Tryd.func115, Tryd.ntmps115
    go_wp2_with (first
      | (go_at_call 118; (with_reducible refine ((CV _).out).mono ?_); rintro e w1 ⟨rfl, hb1⟩; obtain ⟨B1, hc1, hf1, p1, z1⟩ := after1 (a := w) hb1 (by go_grown) (by go_size); clear hb1))
    go_ret2
    exact ⟨rfl, B1⟩

end Go.Proofs.YtcghjjfpjiacfaaDoor

namespace Go.Proofs.YtcghjjfpjiacfaaDoor
set_option linter.unusedVariables false
open Go.RowKit Go.Shelf

theorem ex_add : addT 1 6 1 10 = (4, 15, 0) := by decide +kernel
theorem ex_mul : mulT 1152921504606846976 1 1 1152921504606846976 = (1, 1, 0) := by decide +kernel
theorem ex_make : makeT (-6) 4 = (-3, 2, 0) := by decide +kernel
theorem ex_valid : vB 4 15 = true := by decide +kernel
theorem ex_text : textT (-3) 2 = ([45, 51, 47, 50], 0) := by
  have h : vB (-3) 2 = true := by decide +kernel
  unfold textT txt
  rw [if_pos h, if_neg (by decide)]
  have h1 : Lib.itoa (-3) = [45, 51] := by
    unfold Lib.itoa
    rw [if_pos (by decide)]
    simp [Lib.decDigits_one]
  have h2 : Lib.itoa 2 = [50] := by
    unfold Lib.itoa
    rw [if_neg (by decide)]
    exact Lib.decDigits_one (i := 2) (by decide)
  rw [h1, h2]; rfl

end Go.Proofs.YtcghjjfpjiacfaaDoor

namespace Go.Proofs.YtcghjjfpjiacfaaDoor
set_option linter.unusedVariables false
open Go.RowKit Go.Shelf

/-- A variable of two cells that stands in the world. -/
def Blk (w : World) (b : Nat) (v0 v1 : Value) : Prop := b < w.heap.size ∧ w.cell? ⟨b, 0, none⟩ = some v0 ∧ w.cell? ⟨b, 1, none⟩ = some v1
theorem Blk.on {W w1 : World} {b : Nat} {v0 v1 : Value} (h : Blk W b v0 v1) (hb : Below W.heap.size W w1) : Blk w1 b v0 v1 :=
  ⟨Nat.lt_of_lt_of_le h.1 hb.size, (hb.cell (p := ⟨b, 0, none⟩) h.1).trans h.2.1, (hb.cell (p := ⟨b, 1, none⟩) h.1).trans h.2.2⟩
theorem Blk.alloc {W : World} {b : Nat} {v0 v1 : Value} (h : Blk W b v0 v1) (o : Obj) : Blk (W.alloc o) b v0 v1 := h.on ((Below.refl _ _).alloc (Nat.le_refl _) _)
theorem Blk.new (W : World) (v0 v1 : Value) (t : Nat) : Blk (W.alloc (Obj.cells #[v0, v1] t)) W.heap.size v0 v1 := ⟨by simp, by simp [go_sem], by simp [go_sem]⟩
theorem Blk.new1 (W : World) (o : Obj) (v0 v1 : Value) (t : Nat) : Blk ((W.alloc o).alloc (Obj.cells #[v0, v1] t)) (W.heap.size + 1) v0 v1 := by
  have h := Blk.new (W.alloc o) v0 v1 t
  rwa [World.size_alloc] at h
theorem Blk.new2 (W : World) (o o' : Obj) (v0 v1 : Value) (t : Nat) : Blk (((W.alloc o).alloc o').alloc (Obj.cells #[v0, v1] t)) (W.heap.size + 1 + 1) v0 v1 := by
  have h := Blk.new ((W.alloc o).alloc o') v0 v1 t
  rwa [World.size_alloc, World.size_alloc] at h
theorem below_on {w W w1 : World} (h : Below w.heap.size w W) (hb : Below W.heap.size W w1) : Below w.heap.size w w1 := h.trans (hb.mono h.size)
theorem pow_on {w W : World} (h : Pow10 w.heap.size w) (hb : Below w.heap.size w W) : Pow10 W.heap.size W := fun w' h' => h w' (hb.trans (h'.mono hb.size))

/-- A result: a valid fraction with the value, or an error and the zero value. -/
theorem okT_cases (an ad bn bd p q : Int) (hq : Vld an ad → Vld bn bd → 0 < q) :
    (∃ n d, okT an ad bn bd (redT p q) = (n, d, 0) ∧ Vld an ad ∧ Vld bn bd ∧ Vld n d ∧ n * q = p * d) ∨ (∃ e, okT an ad bn bd (redT p q) = (0, 0, e) ∧ e ≠ 0 ∧ (e = 1 ∨ e = 5)) := by
  by_cases ha : vB an ad = true
  · by_cases hb : vB bn bd = true
    · rw [okT_yes ha hb]
      rcases redT_cases p q (hq (vB_vld ha) (vB_vld hb)) with ⟨n, d, h1, h2, h3⟩ | h
      · exact .inl ⟨n, d, h1, vB_vld ha, vB_vld hb, h2, h3⟩
      · exact .inr ⟨5, h, by decide, .inr rfl⟩
    · exact .inr ⟨1, okT_b (by simpa using hb), by decide, .inl rfl⟩
  · exact .inr ⟨1, okT_a (by simpa using ha), by decide, .inl rfl⟩

theorem okT_vld {an ad bn bd : Int} {t : Int × Int × Int} (ha : Vld an ad) (hb : Vld bn bd) : okT an ad bn bd t = t := okT_yes (vB_yes ha) (vB_yes hb)
theorem dpos {a b c d : Int} (h1 : Vld a b) (h2 : Vld c d) : 0 < b * d := Int.mul_pos (by have := h1.d1; omega) (by have := h2.d1; omega)

theorem addT_cases (an ad bn bd : Int) : (∃ n d, addT an ad bn bd = (n, d, 0) ∧ Vld an ad ∧ Vld bn bd ∧ Vld n d ∧ n * (ad * bd) = (an * bd + bn * ad) * d) ∨ (∃ e, addT an ad bn bd = (0, 0, e) ∧ e ≠ 0 ∧ (e = 1 ∨ e = 5)) :=
  okT_cases _ _ _ _ _ _ dpos
theorem subT_cases (an ad bn bd : Int) : (∃ n d, subT an ad bn bd = (n, d, 0) ∧ Vld an ad ∧ Vld bn bd ∧ Vld n d ∧ n * (ad * bd) = (an * bd + -bn * ad) * d) ∨ (∃ e, subT an ad bn bd = (0, 0, e) ∧ e ≠ 0 ∧ (e = 1 ∨ e = 5)) :=
  okT_cases _ _ _ _ _ _ dpos
theorem mulT_cases (an ad bn bd : Int) : (∃ n d, mulT an ad bn bd = (n, d, 0) ∧ Vld an ad ∧ Vld bn bd ∧ Vld n d ∧ n * (ad * bd) = an * bn * d) ∨ (∃ e, mulT an ad bn bd = (0, 0, e) ∧ e ≠ 0 ∧ (e = 1 ∨ e = 5)) :=
  okT_cases _ _ _ _ _ _ dpos

theorem okT_comm (an ad bn bd : Int) (t : Int × Int × Int) : okT an ad bn bd t = okT bn bd an ad t := by
  unfold okT
  by_cases h1 : vB an ad = true <;> by_cases h2 : vB bn bd = true <;> simp [h1, h2]
theorem addT_comm (an ad bn bd : Int) : addT an ad bn bd = addT bn bd an ad := by
  unfold addT
  rw [okT_comm, Int.add_comm (an * bd), Int.mul_comm ad bd]
theorem mulT_comm (an ad bn bd : Int) : mulT an ad bn bd = mulT bn bd an ad := by
  unfold mulT
  rw [okT_comm, Int.mul_comm an bn, Int.mul_comm ad bd]

theorem sub_undo {an ad bn bd n d : Int} (va : Vld an ad) (vb : Vld bn bd) (v : Vld n d) (h : n * (ad * bd) = (an * bd + bn * ad) * d) : subT n d bn bd = (an, ad, 0) := by
  unfold subT
  rw [okT_vld v vb, ← redT_vld va]
  refine redT_eq (dpos v vb) (by have := va.d1; omega) ?_
  have hb : bd ≠ 0 := by have := vb.d1; omega
  grind

theorem div_undo {an ad bn bd n d : Int} (va : Vld an ad) (vb : Vld bn bd) (v : Vld n d) (h : n * (ad * bd) = an * bn * d) (hb : bn ≠ 0) : divT n d bn bd = (an, ad, 0) := by
  unfold divT
  rw [okT_vld v vb, if_neg hb, ← redT_vld va]
  have a1 := va.d1
  have b1 := vb.d1
  have d1 := v.d1
  split
  · refine redT_eq (Int.mul_pos (by omega) (by omega)) (by omega) ?_
    grind
  · refine redT_eq (Int.mul_pos (by omega) (by omega)) (by omega) ?_
    grind
theorem div_zero {an ad bn bd n d : Int} (va : Vld an ad) (vb : Vld bn bd) (v : Vld n d) (h : n * (ad * bd) = an * bn * d) (hb : bn = 0) : n = 0 ∧ divT n d bn bd = (0, 0, 16) := by
  subst hb
  refine ⟨?_, by unfold divT; rw [okT_vld v vb, if_pos rfl]⟩
  have hp := dpos va vb
  rw [Int.mul_zero, Int.zero_mul] at h
  rcases Int.mul_eq_zero.1 h with h | h
  · exact h
  · omega

theorem add_assoc {an ad bn bd cn cd n d m k : Int} (va : Vld an ad) (vb : Vld bn bd) (vc : Vld cn cd) (v : Vld n d) (v' : Vld m k) (h : n * (ad * bd) = (an * bd + bn * ad) * d) (h' : m * (bd * cd) = (bn * cd + cn * bd) * k) :
    addT n d cn cd = addT an ad m k := by
  unfold addT
  rw [okT_vld v vc, okT_vld va v']
  refine redT_eq (dpos v vc) (dpos va v') ?_
  have hb : bd ≠ 0 := by have := vb.d1; omega
  refine Int.eq_of_mul_eq_mul_right hb ?_
  grind
theorem mul_assoc {an ad bn bd cn cd n d m k : Int} (va : Vld an ad) (vb : Vld bn bd) (vc : Vld cn cd) (v : Vld n d) (v' : Vld m k) (h : n * (ad * bd) = an * bn * d) (h' : m * (bd * cd) = bn * cn * k) :
    mulT n d cn cd = mulT an ad m k := by
  unfold mulT
  rw [okT_vld v vc, okT_vld va v']
  refine redT_eq (dpos v vc) (dpos va v') ?_
  have hb : bd ≠ 0 := by have := vb.d1; omega
  refine Int.eq_of_mul_eq_mul_right hb ?_
  grind
theorem distrib {an ad bn bd cn cd pn pd rn rd dn dd : Int} (va : Vld an ad) (vb : Vld bn bd) (vc : Vld cn cd) (vp : Vld pn pd) (vr : Vld rn rd) (vd : Vld dn dd) (hp : pn * (ad * bd) = an * bn * pd) (hr : rn * (ad * cd) = an * cn * rd) (hd : dn * (bd * cd) = (bn * cd + cn * bd) * dd) :
    addT pn pd rn rd = mulT an ad dn dd := by
  unfold addT mulT
  rw [okT_vld vp vr, okT_vld va vd]
  refine redT_eq (dpos vp vr) (dpos va vd) ?_
  have ha : ad ≠ 0 := by have := va.d1; omega
  have hb : bd ≠ 0 := by have := vb.d1; omega
  have hc : cd ≠ 0 := by have := vc.d1; omega
  refine Int.eq_of_mul_eq_mul_right hb (Int.eq_of_mul_eq_mul_right hc (Int.eq_of_mul_eq_mul_right ha ?_))
  grind

end Go.Proofs.YtcghjjfpjiacfaaDoor

namespace Go.Proofs.YtcghjjfpjiacfaaDoor
set_option linter.unusedVariables false

theorem sgn_zero_iff {z : Int} : sgn z = 0 ↔ z = 0 := by unfold sgn; split <;> (try split) <;> omega
theorem sgn_pos_iff {z : Int} : 0 < sgn z ↔ 0 < z := by unfold sgn; split <;> (try split) <;> omega
theorem sgn_neg_iff {z : Int} : sgn z < 0 ↔ z < 0 := by unfold sgn; split <;> (try split) <;> omega
theorem sgn_le {z : Int} : sgn z ≤ 0 ↔ z ≤ 0 := by unfold sgn; split <;> (try split) <;> omega
theorem sgn_opp (z : Int) : sgn (-z) = -sgn z := by unfold sgn; split <;> (try split) <;> (try split) <;> (try split) <;> omega
theorem sgn_bd (z : Int) : -1 ≤ sgn z ∧ sgn z ≤ 1 := by unfold sgn; split <;> (try split) <;> omega
theorem sgn_eq {u v : Int} (h1 : 0 < u ↔ 0 < v) (h2 : u < 0 ↔ v < 0) : sgn u = sgn v := by unfold sgn; split <;> split <;> (try split) <;> (try split) <;> omega
theorem pos_scale {z P : Int} (hP : 0 < P) : (0 < z * P ↔ 0 < z) ∧ (z * P < 0 ↔ z < 0) := by
  constructor
  · constructor
    · intro h
      rcases Int.lt_or_le 0 z with h' | h'
      · exact h'
      · have := Int.mul_le_mul_of_nonneg_right h' (Int.le_of_lt hP); rw [Int.zero_mul] at this; omega
    · intro h; exact Int.mul_pos h hP
  · constructor
    · intro h
      rcases Int.lt_or_le z 0 with h' | h'
      · exact h'
      · have := Int.mul_le_mul_of_nonneg_right h' (Int.le_of_lt hP); rw [Int.zero_mul] at this; omega
    · intro h; exact Int.mul_neg_of_neg_of_pos h hP
theorem sgn_scale {u v P Q : Int} (hP : 0 < P) (hQ : 0 < Q) (h : u * P = v * Q) : sgn u = sgn v := by
  obtain ⟨a1, a2⟩ := pos_scale (z := u) hP
  obtain ⟨b1, b2⟩ := pos_scale (z := v) hQ
  rw [h] at a1 a2
  exact sgn_eq (a1.symm.trans b1) (a2.symm.trans b2)
theorem sgn_mul (a b : Int) : sgn (a * b) = sgn a * sgn b := by
  rcases Int.lt_trichotomy a 0 with ha | ha | ha
  · have e : a * b = -b * -a := by grind
    rw [show sgn a = -1 by unfold sgn; rw [if_neg (by omega), if_pos ha], e, sgn_scale (u := -b * -a) (v := -b) (P := 1) (Q := -a) (by decide) (by omega) (by omega), sgn_opp]
    omega
  · subst ha; simp [sgn]
  · have e : a * b = b * a := Int.mul_comm _ _
    rw [show sgn a = 1 by unfold sgn; rw [if_neg (by omega), if_neg (by omega)], e, sgn_scale (u := b * a) (v := b) (P := 1) (Q := a) (by decide) ha (by omega)]
    omega

theorem cmp_vld {an ad bn bd : Int} (va : Vld an ad) (vb : Vld bn bd) : cmpT an ad bn bd = (sgn (an * bd + -bn * ad), 0) := by
  unfold cmpT; rw [if_pos ⟨vB_yes va, vB_yes vb⟩]
theorem cmp_bad {an ad bn bd : Int} (h : ¬ (Vld an ad ∧ Vld bn bd)) : cmpT an ad bn bd = (0, 1) := by
  unfold cmpT
  rw [if_neg]
  rintro ⟨h1, h2⟩
  exact h ⟨vB_vld h1, vB_vld h2⟩
theorem cmp_swap {an ad bn bd : Int} (va : Vld an ad) (vb : Vld bn bd) : cmpT bn bd an ad = (-sgn (an * bd + -bn * ad), 0) := by
  rw [cmp_vld vb va, ← sgn_opp]
  congr 2
  grind
theorem cmp_zero {an ad bn bd : Int} (va : Vld an ad) (vb : Vld bn bd) : sgn (an * bd + -bn * ad) = 0 ↔ (an = bn ∧ ad = bd) := by
  rw [sgn_zero_iff]
  constructor
  · intro h
    exact uniq (by have := va.d1; omega) (by have := vb.d1; omega) va.co vb.co (by grind)
  · rintro ⟨rfl, rfl⟩; grind
theorem sub_sign {an ad bn bd n d : Int} (va : Vld an ad) (vb : Vld bn bd) (v : Vld n d) (h : n * (ad * bd) = (an * bd + -bn * ad) * d) : (0 < n ↔ 0 < sgn (an * bd + -bn * ad)) ∧ (n < 0 ↔ sgn (an * bd + -bn * ad) < 0) := by
  have e := sgn_scale (dpos va vb) (show 0 < d by have := v.d1; omega) h
  rw [← e]
  exact ⟨sgn_pos_iff.symm, sgn_neg_iff.symm⟩
theorem cmp_add {an ad bn bd cn cd xn xd yn yd : Int} (va : Vld an ad) (vb : Vld bn bd) (vc : Vld cn cd) (vx : Vld xn xd) (vy : Vld yn yd) (hx : xn * (ad * cd) = (an * cd + cn * ad) * xd) (hy : yn * (bd * cd) = (bn * cd + cn * bd) * yd) :
    cmpT xn xd yn yd = (sgn (an * bd + -bn * ad), 0) := by
  rw [cmp_vld vx vy, sgn_scale (u := xn * yd + -yn * xd) (v := an * bd + -bn * ad) (P := ad * cd * (bd * cd)) (Q := cd * cd * (xd * yd)) (Int.mul_pos (dpos va vc) (dpos vb vc)) (Int.mul_pos (dpos vc vc) (dpos vx vy)) ?_]
  calc (xn * yd + -yn * xd) * (ad * cd * (bd * cd)) = (xn * (ad * cd)) * yd * (bd * cd) - (yn * (bd * cd)) * xd * (ad * cd) := by grind
    _ = (an * cd + cn * ad) * xd * yd * (bd * cd) - (bn * cd + cn * bd) * yd * xd * (ad * cd) := by rw [hx, hy]
    _ = (an * bd + -bn * ad) * (cd * cd * (xd * yd)) := by grind
theorem cmp_mul {an ad bn bd cn cd xn xd yn yd : Int} (va : Vld an ad) (vb : Vld bn bd) (vc : Vld cn cd) (vx : Vld xn xd) (vy : Vld yn yd) (hx : xn * (ad * cd) = an * cn * xd) (hy : yn * (bd * cd) = bn * cn * yd) :
    cmpT xn xd yn yd = (sgn cn * sgn (an * bd + -bn * ad), 0) := by
  rw [cmp_vld vx vy, ← sgn_mul, sgn_scale (u := xn * yd + -yn * xd) (v := cn * (an * bd + -bn * ad)) (P := ad * cd * (bd * cd)) (Q := cd * (xd * yd)) (Int.mul_pos (dpos va vc) (dpos vb vc)) (Int.mul_pos (by have := vc.d1; omega) (dpos vx vy)) ?_]
  calc (xn * yd + -yn * xd) * (ad * cd * (bd * cd)) = (xn * (ad * cd)) * yd * (bd * cd) - (yn * (bd * cd)) * xd * (ad * cd) := by grind
    _ = (an * cn * xd) * yd * (bd * cd) - (bn * cn * yd) * xd * (ad * cd) := by rw [hx, hy]
    _ = (cn * (an * bd + -bn * ad)) * (cd * (xd * yd)) := by grind

theorem make_int {p : Int} (h0 : -1152921504606846976 ≤ p) (h1 : p ≤ 1152921504606846976) : Vld p 1 ∧ makeT p 1 = (p, 1, 0) := by
  have v : Vld p 1 := ⟨by decide, by decide, h0, h1, by simp⟩
  refine ⟨v, ?_⟩
  unfold makeT
  rw [if_neg (by decide), if_neg (by decide)]
  exact redT_vld v

/-- What Floor and Ceil are: the numbers around a fraction. -/
structure Around (n d p q : Int) : Prop where
  p0 : -1152921504606846976 ≤ p
  p1 : p ≤ 1152921504606846976
  q0 : -1152921504606846976 ≤ q
  q1 : q ≤ 1152921504606846976
  lo : p * d + -n * 1 ≤ 0
  hi : n * 1 + -q * d ≤ 0
  le : p * d + -n * 1 = 0 ↔ d = 1
  he : n * 1 + -q * d = 0 ↔ d = 1
  pq : p = q ↔ d = 1
  df : q - p ≤ 1

theorem around {n d : Int} (v : Vld n d) : Around n d (n / d) (-(-n / d)) := by
  have d1 := v.d1
  have n1 := v.n1
  have n2 := v.n2
  have e1 := Int.mul_ediv_add_emod n d
  have e2 := Int.mul_ediv_add_emod (-n) d
  have r0 := Int.emod_nonneg n (show d ≠ 0 by omega)
  have r1 := Int.emod_lt_of_pos n (show 0 < d by omega)
  have s0 := Int.emod_nonneg (-n) (show d ≠ 0 by omega)
  have s1 := Int.emod_lt_of_pos (-n) (show 0 < d by omega)
  have a1 : (n / d).natAbs ≤ n.natAbs := Int.natAbs_ediv_le_natAbs _ _
  have a2 : (-n / d).natAbs ≤ (-n).natAbs := Int.natAbs_ediv_le_natAbs _ _
  have one : d ∣ n → d = 1 := fun h => by
    have h1 : d.natAbs ∣ Int.gcd n d := Nat.dvd_gcd (Int.natAbs_dvd_natAbs.2 h) (Nat.dvd_refl _)
    rw [v.co] at h1
    have := Nat.le_of_dvd (by decide) h1
    omega
  generalize hp : n / d = p at *
  generalize hq : -n / d = q at *
  generalize n % d = r at *
  generalize -n % d = s at *
  have c1 : d * p = p * d := Int.mul_comm _ _
  have c2 : d * q = q * d := Int.mul_comm _ _
  have c3 : -(-q) * d = q * d := by rw [Int.neg_neg]
  have sum : (p + q) * d = -(r + s) := by rw [Int.add_mul]; omega
  have pqle : p + q ≤ 0 := by
    rcases Int.lt_or_le 0 (p + q) with h | h
    · have := Int.mul_pos h (show 0 < d by omega); omega
    · exact h
  have pqge : -2 < p + q := by
    rcases Int.lt_or_le (-2) (p + q) with h | h
    · exact h
    · have := Int.mul_le_mul_of_nonneg_right h (show 0 ≤ d by omega); omega
  refine ⟨by omega, by omega, by omega, by omega, by omega, by omega, ?_, ?_, ?_, by omega⟩
  · constructor
    · intro h; exact one ⟨p, by omega⟩
    · intro h; subst h; omega
  · constructor
    · intro h; exact one ⟨-q, by rw [Int.mul_neg]; omega⟩
    · intro h; subst h; omega
  · constructor
    · intro h
      have : p + q = 0 := by omega
      rw [this, Int.zero_mul] at sum
      exact one ⟨p, by omega⟩
    · intro h; subst h; omega

end Go.Proofs.YtcghjjfpjiacfaaDoor

namespace Go.Proofs.YtcghjjfpjiacfaaDoor
set_option linter.unusedVariables false
open Go.RowKit Go.Shelf

def Frz (w : World) (b : Nat) : Prop := w.frozen? ⟨b, 0, none⟩ = false ∧ w.frozen? ⟨b, 1, none⟩ = false
theorem Frz.on {W w1 : World} {b : Nat} (h : Frz W b) (hl : b < W.heap.size) (hb : Below W.heap.size W w1) : Frz w1 b :=
  ⟨(hb.frozen (p := ⟨b, 0, none⟩) hl).trans h.1, (hb.frozen (p := ⟨b, 1, none⟩) hl).trans h.2⟩
theorem Frz.alloc {W : World} {b : Nat} (h : Frz W b) (hl : b < W.heap.size) (o : Obj) : Frz (W.alloc o) b := h.on hl ((Below.refl _ _).alloc (Nat.le_refl _) _)
theorem Frz.new (W : World) (v0 v1 : Value) (t : Nat) : Frz (W.alloc (Obj.cells #[v0, v1] t)) W.heap.size := ⟨by simp [go_sem], by simp [go_sem]⟩
theorem Frz.set {W : World} {b c : Nat} {x y : Value} (h : Frz W b) : Frz ((W.setCell ⟨c, 0, none⟩ x).setCell ⟨c, 1, none⟩ y) b := ⟨by simpa using h.1, by simpa using h.2⟩
theorem Blk.set {W : World} {b : Nat} {v0 v1 x y : Value} (h : Blk W b v0 v1) : Blk ((W.setCell ⟨b, 0, none⟩ x).setCell ⟨b, 1, none⟩ y) b x y :=
  ⟨by simpa using h.1, two0 (by rw [h.2.1]; rfl), two1 (by rw [h.2.2]; rfl)⟩
theorem Blk.far {W : World} {b c : Nat} {v0 v1 x y : Value} (h : Blk W b v0 v1) (hne : c ≠ b) : Blk ((W.setCell ⟨c, 0, none⟩ x).setCell ⟨c, 1, none⟩ y) b v0 v1 := by
  have far : ∀ (p : Addr) (b o : Nat) (V : World) (v : Value), p.block ≠ b → (V.setCell p v).cell? ⟨b, o, none⟩ = V.cell? ⟨b, o, none⟩ := fun p b o V v hne => World.cell?_setCell_far V p ⟨b, o, none⟩ v hne
  exact ⟨by simpa using h.1, by rw [far _ _ _ _ _ hne, far _ _ _ _ _ hne]; exact h.2.1, by rw [far _ _ _ _ _ hne, far _ _ _ _ _ hne]; exact h.2.2⟩

end Go.Proofs.YtcghjjfpjiacfaaDoor

namespace Go.Proofs.YtcghjjfpjiacfaaDoor
set_option linter.unusedVariables false
open Go.RowKit Go.Shelf

section
variable {P : Program} {ops : Array Oper} {Q : Exit → Act → World → Prop}

/-- One operation more has been carried out. -/
def upd (L : Nat → Bool) (i : Nat) : Nat → Bool := fun j => if j = i then true else L j
/-- What holds once operation j has been carried out. -/
def Had (L : Nat → Bool) (j : Nat) (p : Prop) : Prop := L j = true → p
theorem Had.keep {L : Nat → Bool} {i j : Nat} {p : Prop} (h : Had L j p) (hne : (j == i) = false) : Had (upd L i) j p := fun hl => h (by
  unfold upd at hl
  rw [if_neg (by simpa using hne)] at hl
  exact hl)
theorem Had.keepM {L : Nat → Bool} {i j : Nat} {p q : Prop} (h : Had L j p) (hne : (j == i) = false) (hpq : p → q) : Had (upd L i) j q := fun hl => hpq (h.keep hne hl)
theorem Had.new {L : Nat → Bool} {i : Nat} {p : Prop} (h : p) : Had (upd L i) i p := fun _ => h
theorem Had.none {j : Nat} {p : Prop} : Had (fun _ => false) j p := fun h => by cases h
/-- Two operations have been carried out. -/
def Had2 (L : Nat → Bool) (i j : Nat) (p : Prop) : Prop := L i = true → L j = true → p

theorem Had2.keep {L : Nat → Bool} {i j k : Nat} {p : Prop} (h : Had2 L j k p) (h1 : (j == i) = false) (h2 : (k == i) = false) : Had2 (upd L i) j k p := fun a b => h (by
  unfold upd at a
  rw [if_neg (by simpa using h1)] at a
  exact a) (by
  unfold upd at b
  rw [if_neg (by simpa using h2)] at b
  exact b)
theorem upd_on {L : Nat → Bool} {i j : Nat} (h : L j = true) : upd L i j = true := by unfold upd; split <;> simp [h]
theorem Had.o {L : Nat → Bool} {i j : Nat} {l : List Nat} (h : Had L j (∀ k ∈ l, L k = true)) (hne : (j == i) = false := by rfl) : Had (upd L i) j (∀ k ∈ l, upd L i k = true) := h.keepM hne (fun h j hj => upd_on (h j hj))
theorem Had.k {L : Nat → Bool} {i j : Nat} {p : Prop} (h : Had L j p) (hne : (j == i) = false := by rfl) : Had (upd L i) j p := h.keep hne
theorem upd_self {L : Nat → Bool} {i : Nat} : upd L i i = true := by unfold upd; simp
theorem upd_false {L : Nat → Bool} {i j : Nat} (h : upd L i j = false) : L j = false := by
  unfold upd at h
  split at h
  · cases h
  · exact h
theorem upd_back {L : Nat → Bool} {i j : Nat} (h : upd L i j = true) (hne : (j == i) = false) : L j = true := by
  unfold upd at h
  rw [if_neg (by simpa using hne)] at h
  exact h
/-- What waits for j has not been carried out, as j has not. -/
theorem Had.not {L : Nat → Bool} {j k : Nat} {js : List Nat} (h : Had L k (∀ j ∈ js, L j = true)) (hj : L j = false) (hm : js.contains j = true) : L k = false := by
  cases hk : L k
  · rfl
  · have := h hk j (by simpa using hm)
    rw [hj] at this; cases this

/-- Operation i waits for operation k. -/
def waits (ops : Array Oper) (i k : Nat) : Bool := ((ops[i]?).map fun o => o.after.any fun e => e.on == k && Region.binds .any e).getD false
/-- Each operation waits for earlier ones alone. -/
def onward (ops : Array Oper) : Bool := (List.range ops.size).all fun i => ((ops[i]?).map fun o => o.after.all fun e => !Region.binds .any e || decide (e.on < i)).getD true

theorem ready_all {listed : Array Bool} (hon : onward ops = true) (hs : listed.size = ops.size) (hr : Region.ready .any ops listed = []) : ∀ i, i < ops.size → listed.getD i false = true := by
  intro i
  induction i using Nat.strongRecOn with
  | ind i ih =>
    intro hi
    by_cases h : listed.getD i false = true
    · exact h
    · exfalso
      have h2 : listed.getD i true = false := by
        have hl : i < listed.size := by omega
        simp [hl] at h ⊢
        exact h
      have hm : i ∈ Region.ready .any ops listed := by
        refine mem_ready.2 ⟨h2, ops[i], by simp [hi], fun e he hb => ?_⟩
        have h3 := (List.all_eq_true.1 hon) i (by simpa using hi)
        simp only [Array.getElem?_eq_getElem hi, Option.map_some, Option.getD_some, Array.all_eq_true_iff_forall_mem] at h3
        have h4 := h3 e he
        rw [hb] at h4
        have h5 : e.on < i := by simpa using h4
        exact ih _ h5 (by omega)
      rw [hr] at hm
      cases hm

theorem wpAny_each (J : (Nat → Bool) → Act → World → Prop) (hon : onward ops = true)
    (hend : ∀ L a w, J L a w → (∀ i, i < ops.size → L i = true) → Q .normal a w)
    (hstep : ∀ i, i < ops.size → ∀ L a w, J L a w → L i = false → (∀ k, waits ops i k = true → L k = true) → wpOp P ops Q i (fun a' w' => J (upd L i) a' w') a w) :
    ∀ (fuel : Nat) (listed : Array Bool) (a : Act) (w : World), listed.size = ops.size → listed.toList.count false ≤ fuel → J (fun i => listed.getD i false) a w → wpAny P .any ops Q fuel listed a w := by
  intro fuel
  induction fuel with
  | zero =>
    intro listed a w hs hc hJ
    have hz : ∀ i, i < ops.size → listed.getD i false = true := fun i hi => by
      have hl : i < listed.size := by omega
      have h0 : listed.toList.count false = 0 := by omega
      have h1 := (List.count_eq_zero.1 h0)
      have h2 : listed[i] ∈ listed.toList := by simp
      simp [hl]
      cases hb : listed[i]
      · rw [hb] at h2; exact absurd h2 h1
      · rfl
    refine ⟨?_, hend _ _ _ hJ hz⟩
    cases hr : Region.ready .any ops listed with
    | nil => rfl
    | cons j r =>
      have hm : j ∈ Region.ready .any ops listed := by rw [hr]; simp
      obtain ⟨h0, o, ho, _⟩ := mem_ready.1 hm
      have hj : j < ops.size := (Array.getElem?_eq_some_iff.1 ho).1
      have h1 := hz j hj
      have hl : j < listed.size := by omega
      simp [hl] at h0 h1
      rw [h0] at h1; cases h1
  | succ fuel ih =>
    intro listed a w hs hc hJ
    refine ⟨fun hr => hend _ _ _ hJ (ready_all hon hs hr), fun i hi => ?_⟩
    obtain ⟨h0, o, ho, hall⟩ := mem_ready.1 hi
    have hj : i < ops.size := (Array.getElem?_eq_some_iff.1 ho).1
    have hl : i < listed.size := by omega
    have hw : ∀ k, waits ops i k = true → listed.getD k false = true := fun k hk => by
      unfold waits at hk
      rw [ho] at hk
      simp only [Option.map_some, Option.getD_some, Array.any_eq_true'] at hk
      obtain ⟨e, he, hb⟩ := hk
      simp only [Bool.and_eq_true, beq_iff_eq] at hb
      rw [← hb.1]
      exact hall e he hb.2
    refine wpOp_mono (fun a' w' h => ih (listed.setIfInBounds i true) a' w' (by simpa using hs) ?_ ?_) (hstep i hj _ a w hJ (by simpa [hl] using h0) hw)
    · have h1 : listed[i] = false := by simpa [hl] using h0
      have h2 : (listed.setIfInBounds i true).toList.count false + 1 = listed.toList.count false := by
        rw [Array.toList_setIfInBounds, List.count_set (by simpa using hl)]
        have h3 : 0 < listed.toList.count false := List.count_pos_iff.2 (by rw [← h1]; simp)
        rw [Array.getElem_toList, h1, if_pos (by rfl), if_neg (by simp)]
        omega
      omega
    · have e : (fun j => (listed.setIfInBounds i true).getD j false) = upd (fun j => listed.getD j false) i := by
        funext j
        unfold upd
        by_cases hji : j = i
        · subst hji; simp [hl]
        · rw [if_neg hji, getD_set_ne false (Ne.symm hji)]
      rw [e]
      exact h

/-- The operations of a list, each walked once. -/
def EachOf (P : Program) (ops : Array Oper) (Q : Exit → Act → World → Prop) (J : (Nat → Bool) → Act → World → Prop) (rs : List Nat) : Prop :=
  ∀ i ∈ rs, ∀ L a w, J L a w → L i = false → (∀ k, waits ops i k = true → L k = true) → wpOp P ops Q i (fun a' w' => J (upd L i) a' w') a w
theorem EachOf.nil {J : (Nat → Bool) → Act → World → Prop} : EachOf P ops Q J [] := fun _ h => by cases h
theorem EachOf.cons {J : (Nat → Bool) → Act → World → Prop} {i : Nat} {o : Oper} {rs : List Nat} (ds : List Nat) (ho : ops[i]? = some o) (hds : ds.all (waits ops i) = true)
    (h : ∀ L a w, J L a w → L i = false → (∀ k ∈ ds, L k = true) → ∀ K' : Act → World → Prop, Shut (∀ a w, J (upd L i) a w → K' a w) → if Region.wanted o (yielded ops a.tmps) = true then Oper.wp P o a w K' Q else K' (a.put o.dst undef) w)
    (hs : EachOf P ops Q J rs) : EachOf P ops Q J (i :: rs) := fun j hj => by
  rcases List.mem_cons.1 hj with rfl | hj
  · exact fun L a w hJ hi hw => wpOp_step ho (fun K' hK => h L a w hJ hi (fun k hk => hw k (List.all_eq_true.1 hds k hk)) K' hK)
  · exact hs j hj

theorem wp_region_each {id : Nat} {a : Act} {w : World} (J : (Nat → Bool) → Act → World → Prop) (hm : P.follows .mixedOrders = true) (hon : onward ops = true)
    (h0 : J (fun _ => false) a w.drew) {rs : List Nat} (hrs : List.range ops.size = rs) (hstep : EachOf P ops Q J rs)
    (hend : ∀ L a w, J L a w → (∀ i ∈ rs, L i = true) → Q .normal a w) : (Code.region id ops true).wp P Q a w := by
  refine wp_region_any hm (wpAny_each J hon (fun L a w hJ hL => hend L a w hJ (fun i hi => hL i (by rw [← hrs] at hi; simpa using hi))) (fun i hi => hstep i (by rw [← hrs]; simpa using hi)) ops.size _ a _ (by simp) ?_ ?_)
  · simp
  · have e : (fun i => (Array.replicate ops.size false).getD i false) = fun _ => false := by
      funext i
      by_cases hi : i < ops.size
      · simp [hi]
      · simp [hi]
    rw [e]
    exact h0
end

/-- A block that the region has made itself. -/
def Own (n : Nat) (W : World) (g : Nat) : Prop := n ≤ g ∧ (∃ v0 v1, Blk W g v0 v1) ∧ Frz W g
theorem Own.on {n : Nat} {W W2 : World} {g : Nat} (h : Own n W g) (hb : Below W.heap.size W W2) : Own n W2 g := by
  obtain ⟨h0, ⟨v0, v1, h1⟩, h2⟩ := h
  exact ⟨h0, ⟨v0, v1, h1.on hb⟩, h2.on h1.1 hb⟩
theorem Own.set {n : Nat} {W : World} {g c : Nat} {x y : Value} (h : Own n W g) : Own n ((W.setCell ⟨c, 0, none⟩ x).setCell ⟨c, 1, none⟩ y) g := by
  obtain ⟨h0, ⟨v0, v1, h1⟩, h2⟩ := h
  by_cases hc : c = g
  · subst hc
    exact ⟨h0, ⟨_, _, h1.set⟩, h2.set⟩
  · exact ⟨h0, ⟨_, _, h1.far hc⟩, h2.set⟩
theorem Own.new {n : Nat} (W : World) (v0 v1 : Value) (t : Nat) (h : n ≤ W.heap.size) : Own n (W.alloc (Obj.cells #[v0, v1] t)) W.heap.size := ⟨h, ⟨_, _, Blk.new _ _ _ _⟩, Frz.new _ _ _ _⟩
theorem Own.lt {n : Nat} {W : World} {g : Nat} (h : Own n W g) : g < W.heap.size := by
  obtain ⟨_, ⟨_, _, h1⟩, _⟩ := h
  exact h1.1
theorem Own.setw {n : Nat} {W : World} {g : Nat} {x y : Value} (h : Own n W g) : Blk ((W.setCell ⟨g, 0, none⟩ x).setCell ⟨g, 1, none⟩ y) g x y := by
  obtain ⟨h0, ⟨v0, v1, h1⟩, h2⟩ := h
  exact h1.set

end Go.Proofs.YtcghjjfpjiacfaaDoor

namespace Go.Proofs.YtcghjjfpjiacfaaDoor
open Go.ChangeShapes Go.WideShapes Go.ChangeAt Go.RowKit Go.Joins Go.Deep Go.Shelf
set_option linter.unusedVariables false
/-- Of the old blocks only those of S have changed. -/
structure Only (S : Nat → Prop) (W W' : World) : Prop where
  os : W'.os = W.os
  tape : W'.tape = W.tape
  output : W'.output = W.output
  size : W.heap.size ≤ W'.heap.size
  block : ∀ c, c < W.heap.size → ¬ S c → W'.heap[c]? = W.heap[c]?
theorem Only.refl (S : Nat → Prop) (W : World) : Only S W W := ⟨rfl, rfl, rfl, Nat.le_refl _, fun _ _ _ => rfl⟩
theorem Only.trans {S : Nat → Prop} {a b c : World} (h : Only S a b) (k : Only S b c) : Only S a c :=
  ⟨k.os.trans h.os, k.tape.trans h.tape, k.output.trans h.output, Nat.le_trans h.size k.size, fun x hx hn => (k.block x (Nat.lt_of_lt_of_le hx h.size) hn).trans (h.block x hx hn)⟩
theorem Only.of_below {S : Nat → Prop} {W W' : World} (h : Below W.heap.size W W') : Only S W W' := ⟨h.os, h.tape, h.output, h.size, fun c hc _ => h.block c hc⟩
theorem Only.mono {S T : Nat → Prop} {W W' : World} (h : Only S W W') (hs : ∀ c, S c → T c) : Only T W W' := ⟨h.os, h.tape, h.output, h.size, fun c hc hn => h.block c hc fun k => hn (hs c k)⟩
theorem Only.below {S : Nat → Prop} {W W' : World} (h : Only S W W') {B : Nat} (hB : B ≤ W.heap.size) (hs : ∀ c, S c → B ≤ c) : Below B W W' := ⟨h.os, h.tape, h.output, h.size, fun c hc => h.block c (Nat.lt_of_lt_of_le hc hB) fun k => by have := hs c k; omega⟩
theorem Only.setCell {S : Nat → Prop} {W W' : World} (h : Only S W W') (p : Addr) (hp : S p.block) (v : Value) : Only S W (W'.setCell p v) := by
  refine h.trans ⟨rfl, rfl, rfl, by simp, fun c hc hn => ?_⟩
  exact Below.heap_setCell W' p v c (fun e => hn (by rw [e]; exact hp))
theorem Only.on {S : Nat → Prop} {W W' W2 : World} (h : Only S W W') (hb : Below W'.heap.size W' W2) : Only S W W2 := h.trans (Only.of_below hb)
theorem Only.cell {S : Nat → Prop} {W W' : World} (h : Only S W W') {p : Addr} (hp : p.block < W.heap.size) (hn : ¬ S p.block) : W'.cell? p = W.cell? p := World.cell?_of_block (w := W) (h.block p.block hp hn)
theorem Only.frozen {S : Nat → Prop} {W W' : World} (h : Only S W W') {p : Addr} (hp : p.block < W.heap.size) (hn : ¬ S p.block) : W'.frozen? p = W.frozen? p := World.frozen?_of_block (w := W) (h.block p.block hp hn)

theorem adr_ne {b i j : Nat} (h : i ≠ j) : (⟨b, i, none⟩ : Addr) ≠ ⟨b, j, none⟩ := by
  intro e
  injection e with e1 e2 e3
  exact h e2

theorem own_only {S : Nat → Prop} {W W2 : World} {base : Nat} {t : TypeId} {size : Nat} {v : Value} {n : Nat} {xs : List Value} (h : W.ownsRow base t size v n xs) (hb : Only S W W2) (hn : ∀ q, v.ownBlock = some q → ¬ S q) : W2.ownsRow base t size v n xs := by
  obtain ⟨h1, h2⟩ := h
  refine ⟨h1, ?_⟩
  rcases h2 with h2 | ⟨g, cap, cur, hv, hg, hh, r⟩
  · exact .inl h2
  · exact .inr ⟨g, cap, cur, hv, hg, by rw [hb.block g (Array.getElem?_eq_some_iff.1 hh).1 (hn g (by rw [hv]; rfl))]; exact hh, r⟩
theorem below_on2 {B : Nat} {a b c : World} (h : Below B a b) (hB : B ≤ a.heap.size) (k : Below b.heap.size b c) : Below B a c := h.trans (k.mono (Nat.le_trans hB h.size))
theorem own_form {W : World} {base : Nat} {t : TypeId} {size k : Nat} {pv : Value} {xs : List Value} (h : W.ownsRow base t size pv k xs) : ∃ pa pc, pv = .slice pa k pc := by
  rcases h.2 with ⟨h1, h2⟩ | ⟨g, cap, cur, hv, _⟩
  · exact ⟨none, 0, by rw [h1, h2]⟩
  · exact ⟨_, _, hv⟩
theorem own_frozen {W : World} {base : Nat} {t : TypeId} {size k g : Nat} {pv : Value} {xs : List Value} (h : W.ownsRow base t size pv k xs) (hg : pv.ownBlock = some g) (j : Nat) : W.frozen? ⟨g, j, none⟩ = false := by
  rcases h.2 with ⟨rfl, _⟩ | ⟨g', cap, cur, rfl, _, hgg, _⟩
  · simp [Value.ownBlock] at hg
  · simp [Value.ownBlock] at hg
    subst hg
    simp [World.frozen?, hgg]
theorem grown_only {Wc W W2 : World} {row : Option Nat} (hb : Below Wc.heap.size Wc W) (hg : W.grownBy W2 row) : Only (fun q => row = some q) Wc W2 :=
  (Only.of_below hb).trans ⟨hg.os, hg.tape, hg.output, hg.size, fun c hc hn => hg.block c hc (fun e => hn e.symm)⟩
structure AppW (Wc W : World) (B0 t : Nat) (pv : Value) (k : Nat) (ys : List Value) (z : Value) : Prop where
  only : Only (fun q => pv.ownBlock = some q) Wc W
  own : W.ownsRow B0 t 1 z (k + 1) ys
  form : ∃ g cap, z = .slice (some ⟨g, 0, none⟩) (k + 1) cap ∧ (pv.ownBlock = some g ∨ Wc.heap.size ≤ g) ∧ g < W.heap.size
theorem AppW.make {Wc W W2 : World} {B0 t : Nat} {pv : Value} {k : Nat} {ys : List Value} {g cap : Nat} (hb : Below Wc.heap.size Wc W) (hg : W.grownBy W2 pv.ownBlock) (ho : W2.ownsRow B0 t 1 (.slice (some ⟨g, 0, none⟩) (k + 1) cap) (k + 1) ys) (ha : pv.ownBlock = some g ∨ g = W.heap.size) (hl : g < W2.heap.size) :
    AppW Wc W2 B0 t pv k ys (.slice (some ⟨g, 0, none⟩) (k + 1) cap) :=
  ⟨grown_only hb hg, ho, g, cap, rfl, ha.imp id (fun e => by rw [e]; exact hb.size), hl⟩
theorem only_set (W : World) (p : Addr) (v : Value) : Only (fun q => q = p.block) W (W.setCell p v) := (Only.refl (fun q => q = p.block) W).setCell p rfl v
def IRow (W : World) (ra : Option Addr) (n : Nat) (f : Nat → Int) : Prop := 0 < n → ∃ g o, ra = some ⟨g, o, none⟩ ∧ g < W.heap.size ∧ ∀ j, j < n → W.cell? ⟨g, o + j, none⟩ = some (.int .i64 (f j))
theorem IRow.on {W W2 : World} {ra : Option Addr} {n : Nat} {f : Nat → Int} (h : IRow W ra n f) (hb : Below W.heap.size W W2) : IRow W2 ra n f := fun hn => by
  obtain ⟨g, o, h1, h2, h3⟩ := h hn
  exact ⟨g, o, h1, Nat.lt_of_lt_of_le h2 hb.size, fun j hj => (hb.cell (p := ⟨g, o + j, none⟩) h2).trans (h3 j hj)⟩
theorem below_grown {w W W2 : World} {t : TypeId} {size k : Nat} {v : Value} {xs : List Value} (hb : Below w.heap.size w W) (ho : W.ownsRow w.heap.size t size v k xs) (hg : W.grownBy W2 v.ownBlock) : Below w.heap.size w W2 :=
  hb.trans ((grown_only (Below.refl W.heap.size W) hg).below hb.size (fun q hq => (ho.lt q hq).1))
theorem ints_map (n : Nat) (f : Nat → Int) : ((List.range n).map fun j => Value.int .i64 (f j)).length = n := by simp
theorem ints_news {W : World} {g o n : Nat} {f : Nat → Int} (h : ∀ j, j < n → W.cell? ⟨g, o + j, none⟩ = some (.int .i64 (f j))) : ∀ j u, ((List.range n).map fun j => Value.int .i64 (f j))[j]? = some u → W.cell? ((⟨g, o, none⟩ : Addr).add j) = some u := fun j u hu => by
  have hj : j < n := by
    rcases Nat.lt_or_ge j n with q | q
    · exact q
    · rw [List.getElem?_eq_none (by simpa using q)] at hu; cases hu
  have e : (⟨g, o, none⟩ : Addr).add j = ⟨g, o + j, none⟩ := by unfold Addr.add; split <;> simp_all
  rw [e, h j hj]
  simpa [hj] using hu
theorem ints_one {n : Nat} {f : Nat → Int} : ∀ u ∈ ((List.range n).map fun j => Value.int .i64 (f j)), u.oneCell' = true := fun u hu => by
  obtain ⟨j, _, rfl⟩ := List.mem_map.1 hu
  rfl
theorem one_news {W : World} {B : Nat} {x : Value} (h : W.cell? ⟨B, 0, none⟩ = some x) : ∀ j u, [x][j]? = some u → W.cell? ((⟨B, 0, none⟩ : Addr).add j) = some u := fun j u hu => by
  cases j with
  | zero =>
    simp at hu
    subst hu
    exact h
  | succ j => simp at hu
structure NRow (lo n : Nat) (W : World) (g cp : Nat) (f : Nat → Int) : Prop where
  lo : lo ≤ g
  hb : g < W.heap.size
  cap : n ≤ cp
  cell : ∀ j, j < n → W.cell? ⟨g, j, none⟩ = some (.int .i64 (f j))
  fz : ∀ j, j < n → W.frozen? ⟨g, j, none⟩ = false
theorem NRow.on {lo n : Nat} {W W2 : World} {g cp : Nat} {f : Nat → Int} (h : NRow lo n W g cp f) (hb : Below W.heap.size W W2) : NRow lo n W2 g cp f :=
  ⟨h.lo, Nat.lt_of_lt_of_le h.hb hb.size, h.cap, fun j hj => (hb.cell (p := ⟨g, j, none⟩) h.hb).trans (h.cell j hj), fun j hj => (hb.frozen (p := ⟨g, j, none⟩) h.hb).trans (h.fz j hj)⟩
theorem NRow.only {S : Nat → Prop} {lo n : Nat} {W W2 : World} {g cp : Nat} {f : Nat → Int} (h : NRow lo n W g cp f) (hb : Only S W W2) (hn : ¬ S g) : NRow lo n W2 g cp f :=
  ⟨h.lo, Nat.lt_of_lt_of_le h.hb hb.size, h.cap, fun j hj => (hb.cell (p := ⟨g, j, none⟩) h.hb hn).trans (h.cell j hj), fun j hj => (hb.frozen (p := ⟨g, j, none⟩) h.hb hn).trans (h.fz j hj)⟩
theorem NRow.mono {lo lo2 n : Nat} {W : World} {g cp : Nat} {f : Nat → Int} (h : NRow lo n W g cp f) (hl : lo2 ≤ lo) : NRow lo2 n W g cp f := ⟨Nat.le_trans hl h.lo, h.hb, h.cap, h.cell, h.fz⟩
theorem own_nrow {W : World} {base n : Nat} {v : Value} {f : Nat → Int} (h : W.ownsRow base 3 1 v n ((List.range n).map fun j => Value.int .i64 (f j))) (hn : 0 < n) : ∃ g cp, v = .slice (some ⟨g, 0, none⟩) n cp ∧ NRow base n W g cp f := by
  have h2 := h
  rcases h.2 with ⟨_, h0⟩ | ⟨g, cap, cur, hv, hb, hg, hc, _⟩
  · omega
  · refine ⟨g, cap, hv, hb, (Array.getElem?_eq_some_iff.1 hg).1, hc, fun j hj => ?_, fun j hj => own_frozen h2 (by rw [hv]; rfl) j⟩
    have := h2.cells (g := g) (by rw [hv]; rfl) j (.int .i64 (f j)) (by simp [hj])
    rwa [show (⟨g, 0, none⟩ : Addr).add j = ⟨g, j, none⟩ by unfold Addr.add; split <;> simp_all] at this
theorem NRow.made {W : World} {base g n : Nat} (h : W.ownsRow base 3 1 (.slice (some ⟨g, 0, none⟩) n n) n (madeCells (Value.int .i64 0).cells (n * 1)).toList) (lo : Nat) (hl : lo ≤ g) : NRow lo n W g n (fun _ => 0) := by
  refine ⟨hl, (h.lt g rfl).2, Nat.le_refl _, fun j hj => ?_, fun j hj => own_frozen h rfl j⟩
  have := h.cells (g := g) rfl j (.int .i64 0) (by
    rw [show (Value.int .i64 0).cells = #[Value.int .i64 0] by rfl, Nat.mul_one, toList_madeCells_one, List.getElem?_replicate, if_pos hj])
  rwa [show (⟨g, 0, none⟩ : Addr).add j = ⟨g, j, none⟩ by unfold Addr.add; split <;> simp_all] at this
theorem NRow.set {lo n : Nat} {W : World} {g cp : Nat} {f f2 : Nat → Int} (h : NRow lo n W g cp f) (j : Nat) (v : Int) (hj : j < n) (e1 : f2 j = v) (e2 : ∀ l, l < n → l ≠ j → f2 l = f l) : NRow lo n (W.setCell ⟨g, j, none⟩ (.int .i64 v)) g cp f2 :=
  ⟨h.lo, by simpa using h.hb, h.cap, fun l hl => by
    by_cases e : l = j
    · subst e
      rw [e1]
      exact World.cell?_setCell_same' _ _ _ (by rw [h.cell l hl]; rfl)
    · rw [e2 l hl e, World.cell?_setCell_other _ _ _ _ (adr_ne (b := g) (i := j) (j := l) (fun q => e q.symm))]
      exact h.cell l hl, fun l hl => by simpa using h.fz l hl⟩
theorem NRow.irow {lo n : Nat} {W : World} {g cp : Nat} {f : Nat → Int} (h : NRow lo n W g cp f) : IRow W (some ⟨g, 0, none⟩) n f := fun _ => ⟨g, 0, rfl, h.hb, fun j hj => by rw [Nat.zero_add]; exact h.cell j hj⟩
theorem NRow.cong {lo n : Nat} {W : World} {g cp : Nat} {f f2 : Nat → Int} (h : NRow lo n W g cp f) (e : ∀ l, l < n → f2 l = f l) : NRow lo n W g cp f2 := ⟨h.lo, h.hb, h.cap, fun l hl => by rw [e l hl]; exact h.cell l hl, h.fz⟩
theorem NRow.below {lo n : Nat} {W : World} {g cp : Nat} {f : Nat → Int} (h : NRow lo n W g cp f) {j : Nat} (v : Value) {B : Nat} {w : World} (hb : Below B w W) (hl : B ≤ lo) : Below B w (W.setCell ⟨g, j, none⟩ v) := hb.setCell (Nat.le_trans hl h.lo) _
theorem intsD_succ (n : Nat) (f : Nat → Int) : ((List.range (n + 1)).map fun j => Value.int .i64 (f j)) = ((List.range n).map fun j => Value.int .i64 (f j)) ++ [.int .i64 (f n)] := by
  rw [List.range_succ, List.map_append]; rfl
end Go.Proofs.YtcghjjfpjiacfaaDoor

namespace Go.Proofs.YtcghjjfpjiacfaaDoor
set_option linter.unusedVariables false
open Go.RowKit Go.Shelf

set_option maxHeartbeats 400000 in
theorem refSize_any (n : Int) (w : World) (h0 : -9223372036854775808 ≤ n) (h1 : n ≤ 9223372036854775807) :
    Calls Tryd.prog 90 #[.int .i64 n] w fun e w' => e = .returned (.int .u64 (n.natAbs : Int)) ∧ w = w' := by
  go_enter Tryd.func90, Tryd.ntmps90
  go_wp2
  all_goals (go_ret; exact ⟨r_int (by first | omega | (simp only [IntKind.wrap_u64]; omega)), rfl⟩)

theorem less_w {x y : Int} (x0 : 0 ≤ x) (x1 : x < 340282366920938463463374607431768211456) (y0 : 0 ≤ y) (y1 : y < 340282366920938463463374607431768211456) : (x < y) ↔ (hiW x < hiW y ∨ (hiW x = hiW y ∧ loW x < loW y)) := by
  unfold hiW loW; omega

set_option maxHeartbeats 1000000 in
theorem less_any (x y : Int) (w : World) (x0 : 0 ≤ x) (x1 : x < 340282366920938463463374607431768211456) (y0 : 0 ≤ y) (y1 : y < 340282366920938463463374607431768211456) :
    Calls Tryd.prog 161 #[.agg #[.int .u64 (hiW x), .int .u64 (loW x)], .agg #[.int .u64 (hiW y), .int .u64 (loW y)]] w fun e w' => e = .returned (.bool (decide (x < y))) ∧ Below w.heap.size w w' := by
  have E := Lib.hid (less_w x0 x1 y0 y1)
  clear x0 x1 y0 y1
  generalize hiW x = h at *
  generalize loW x = l at *
  generalize hiW y = h' at *
  generalize loW y = l' at *
  rcases Int.lt_trichotomy h h' with g | g | g
  · have e : Hid (decide (x < y) = true) := decide_eq_true (E.out.2 (.inl g))
    rw [e.out]
    go_enter Tryd.func161, Tryd.ntmps161
    go_wp2
    go_ret
    exact ⟨rfl, by go_grown⟩
  · subst g
    by_cases k : l < l'
    · have e : Hid (decide (x < y) = true) := decide_eq_true (E.out.2 (.inr ⟨rfl, k⟩))
      rw [e.out]
      have f : decide (h < h) = false := by simp
      go_enter Tryd.func161, Tryd.ntmps161
      go_wp2
      go_ret
      exact ⟨rfl, by go_grown⟩
    · have e : Hid (decide (x < y) = false) := decide_eq_false (fun c => by rcases E.out.1 c with c | c <;> omega)
      rw [e.out]
      have f : decide (h < h) = false := by simp
      have f2 : decide (l < l') = false := by simpa using k
      go_enter Tryd.func161, Tryd.ntmps161
      go_wp2
      go_ret
      exact ⟨rfl, by go_grown⟩
  · have e : Hid (decide (x < y) = false) := decide_eq_false (fun c => by rcases E.out.1 c with c | c <;> omega)
    rw [e.out]
    have f : decide (h < h') = false := by simp; omega
    have f2 : (h == h') = false := by simp; omega
    go_enter Tryd.func161, Tryd.ntmps161
    go_wp2
    go_ret
    exact ⟨rfl, by go_grown⟩

theorem rplus_w (x y : Int) : (if 18446744073709551616 ≤ loW x + loW y then IntKind.u64.wrap (IntKind.u64.wrap (hiW x + hiW y) + 1) else IntKind.u64.wrap (hiW x + hiW y)) = hiW (x + y) ∧ IntKind.u64.wrap (loW x + loW y) = loW (x + y) := by
  simp only [IntKind.wrap_u64]
  unfold hiW loW
  split <;> omega
theorem rminus_w (x y : Int) : (if loW x < loW y then IntKind.u64.wrap (IntKind.u64.wrap (hiW x - hiW y) - 1) else IntKind.u64.wrap (hiW x - hiW y)) = hiW (x - y) ∧ IntKind.u64.wrap (loW x - loW y) = loW (x - y) := by
  simp only [IntKind.wrap_u64]
  unfold hiW loW
  split <;> omega

set_option maxHeartbeats 1000000 in
theorem refPlus_any (x y : Int) (w : World) :
    Calls Tryd.prog 91 #[.agg #[.int .u64 (hiW x), .int .u64 (loW x)], .agg #[.int .u64 (hiW y), .int .u64 (loW y)]] w fun e w' => e = .returned (.agg #[.int .u64 (hiW (x + y)), .int .u64 (loW (x + y))]) ∧ Below w.heap.size w w' := by
  obtain ⟨E1, E2⟩ := rplus_w x y
  obtain ⟨b1, b2⟩ := loW_bd x
  obtain ⟨d1, d2⟩ := loW_bd y
  have c := hiW_bd x
  generalize hiW x = h at *
  generalize loW x = l at *
  generalize hiW y = h' at *
  generalize loW y = l' at *
  generalize hiW (x + y) = H at *
  generalize loW (x + y) = L at *
  obtain ⟨H0, e0⟩ : ∃ H0, IntKind.u64.wrap (h + h') = H0 := ⟨_, rfl⟩
  rw [e0] at E1
  by_cases k : 18446744073709551616 ≤ l + l'
  · rw [if_pos k] at E1
    have f : decide (L < l) = true := by rw [← E2, IntKind.wrap_u64]; simp; omega
    clear c k
    go_enter Tryd.func91, Tryd.ntmps91
    go_wp2
    go_returns
    exact ⟨rfl, by go_grown⟩
  · rw [if_neg k] at E1
    have f0 : l + l' = L := by rw [← E2, IntKind.wrap_u64]; omega
    have f : decide (L < l) = false := by rw [← f0]; simp; omega
    have f1 : IntKind.u64.wrap L = L := by rw [← f0]; exact wrap_in (by omega) (by omega)
    subst E1
    clear c k
    go_enter Tryd.func91, Tryd.ntmps91
    go_wp2
    go_returns
    exact ⟨rfl, by go_grown⟩

set_option maxHeartbeats 1000000 in
theorem refMinus_any (x y : Int) (w : World) :
    Calls Tryd.prog 162 #[.agg #[.int .u64 (hiW x), .int .u64 (loW x)], .agg #[.int .u64 (hiW y), .int .u64 (loW y)]] w fun e w' => e = .returned (.agg #[.int .u64 (hiW (x - y)), .int .u64 (loW (x - y))]) ∧ Below w.heap.size w w' := by
  obtain ⟨E1, E2⟩ := rminus_w x y
  generalize hiW x = h at *
  generalize loW x = l at *
  generalize hiW y = h' at *
  generalize loW y = l' at *
  generalize hiW (x - y) = H at *
  generalize loW (x - y) = L at *
  obtain ⟨H0, e0⟩ : ∃ H0, IntKind.u64.wrap (h - h') = H0 := ⟨_, rfl⟩
  rw [e0] at E1
  by_cases k : l < l'
  · rw [if_pos k] at E1
    have f : decide (l < l') = true := by simpa using k
    clear k
    go_enter Tryd.func162, Tryd.ntmps162
    go_wp2
    go_returns
    exact ⟨rfl, by go_grown⟩
  · rw [if_neg k] at E1
    have f : decide (l < l') = false := by simpa using k
    subst E1
    clear k
    go_enter Tryd.func162, Tryd.ntmps162
    go_wp2
    go_returns
    exact ⟨rfl, by go_grown⟩

theorem half_w {x : Int} (x0 : 0 ≤ x) (x1 : x < 340282366920938463463374607431768211456) : hiW x / 2 = hiW (x / 2) ∧ IntKind.u64.wrap (loW x / 2 + IntKind.u64.wrap (hiW x * 9223372036854775808)) = loW (x / 2) := by
  simp only [IntKind.wrap_u64]
  unfold hiW loW
  omega

set_option maxHeartbeats 1000000 in
theorem half_any (x : Int) (w : World) (x0 : 0 ≤ x) (x1 : x < 340282366920938463463374607431768211456) :
    Calls Tryd.prog 160 #[.agg #[.int .u64 (hiW x), .int .u64 (loW x)]] w fun e w' => e = .returned (.agg #[.int .u64 (hiW (x / 2)), .int .u64 (loW (x / 2))]) ∧ Below w.heap.size w w' := by
  obtain ⟨E1, E2⟩ := half_w x0 x1
  clear x0 x1
  generalize hiW x = h at *
  generalize loW x = l at *
  generalize hiW (x / 2) = H at *
  generalize loW (x / 2) = L at *
  go_enter Tryd.func160, Tryd.ntmps160
  go_wp2
  go_returns
  exact ⟨rfl, by go_grown⟩

end Go.Proofs.YtcghjjfpjiacfaaDoor

namespace Go.Proofs.YtcghjjfpjiacfaaDoor
set_option linter.unusedVariables false
open Go.RowKit Go.Shelf

theorem half_mul {a b : Int} (a0 : 0 ≤ a) (a1 : a < 4294967296) (b0 : 0 ≤ b) (b1 : b < 4294967296) : 0 ≤ a * b ∧ a * b ≤ 18446744065119617025 := by
  have := Int.mul_le_mul (show a ≤ 4294967295 by omega) (show b ≤ 4294967295 by omega) b0 (by omega)
  exact ⟨Int.mul_nonneg a0 b0, by omega⟩

set_option maxHeartbeats 2000000 in
theorem refMul_any (x y : Int) (w : World) (x0 : 0 ≤ x) (x1 : x < 18446744073709551616) (y0 : 0 ≤ y) (y1 : y < 18446744073709551616) :
    Calls Tryd.prog 89 #[.int .u64 x, .int .u64 y] w fun e w' => e = .returned (.agg #[.int .u64 (hiW (x * y)), .int .u64 (loW (x * y))]) ∧ Below w.heap.size w w' := by
  obtain ⟨a1, ha1⟩ : ∃ a, x / 4294967296 = a := ⟨_, rfl⟩
  obtain ⟨a0, ha0⟩ : ∃ a, x % 4294967296 = a := ⟨_, rfl⟩
  obtain ⟨b1, hb1⟩ : ∃ a, y / 4294967296 = a := ⟨_, rfl⟩
  obtain ⟨b0, hb0⟩ : ∃ a, y % 4294967296 = a := ⟨_, rfl⟩
  have e1 : bits .and .u64 x 4294967295 = a0 := by rw [and_low x0 x1, ha0]
  have e2 : bits .and .u64 y 4294967295 = b0 := by rw [and_low y0 y1, hb0]
  obtain ⟨p0, q0⟩ := half_mul (a := a0) (b := b0) (by omega) (by omega) (by omega) (by omega)
  obtain ⟨p1, q1⟩ := half_mul (a := a1) (b := b0) (by omega) (by omega) (by omega) (by omega)
  obtain ⟨p2, q2⟩ := half_mul (a := a0) (b := b1) (by omega) (by omega) (by omega) (by omega)
  obtain ⟨p3, q3⟩ := half_mul (a := a1) (b := b1) (by omega) (by omega) (by omega) (by omega)
  have hxy : x * y = a1 * b1 * 18446744073709551616 + (a1 * b0 + a0 * b1) * 4294967296 + a0 * b0 := by
    have hx : x = a1 * 4294967296 + a0 := by omega
    have hy : y = b1 * 4294967296 + b0 := by omega
    rw [hx, hy]; grind
  have f0 : IntKind.u64.wrap (a0 * b0) = a0 * b0 := wrap_in p0 (by omega)
  have f1 : IntKind.u64.wrap (a1 * b0) = a1 * b0 := wrap_in p1 (by omega)
  have f2 : IntKind.u64.wrap (a0 * b1) = a0 * b1 := wrap_in p2 (by omega)
  have f3 : IntKind.u64.wrap (a1 * b1) = a1 * b1 := wrap_in p3 (by omega)
  obtain ⟨P0, g0⟩ : ∃ P, a0 * b0 = P := ⟨_, rfl⟩
  obtain ⟨P1, g1⟩ : ∃ P, a1 * b0 = P := ⟨_, rfl⟩
  obtain ⟨P2, g2⟩ : ∃ P, a0 * b1 = P := ⟨_, rfl⟩
  obtain ⟨P3, g3⟩ : ∃ P, a1 * b1 = P := ⟨_, rfl⟩
  rw [g0] at p0 q0 f0; rw [g1] at p1 q1 f1; rw [g2] at p2 q2 f2; rw [g3] at p3 q3 f3
  rw [g0, g1, g2, g3] at hxy
  obtain ⟨m2, h2⟩ : ∃ m, (P1 + P0 / 4294967296) % 4294967296 = m := ⟨_, rfl⟩
  obtain ⟨m0, h0⟩ : ∃ m, P0 % 4294967296 = m := ⟨_, rfl⟩
  have e3 : bits .and .u64 (P1 + P0 / 4294967296) 4294967295 = m2 := by rw [and_low (by omega) (by omega), h2]
  have e4 : bits .and .u64 P0 4294967295 = m0 := by rw [and_low (by omega) (by omega), h0]
  have m20 : 0 ≤ m2 := by omega
  have m21 : m2 < 4294967296 := by omega
  have HX := Lib.hid (And.intro hxy (And.intro h2 h0))
  obtain ⟨Z, hZ⟩ : ∃ Z, x * y = Z := ⟨_, rfl⟩
  rw [hZ] at HX ⊢
  have Hx := Lib.hid (And.intro hb0 (And.intro ha0 (And.intro f0 (And.intro f1 (And.intro f2 (And.intro f3 hZ))))))
  clear hxy h2 h0 hZ ha0 hb0 x0 x1 y0 y1
  go_enter Tryd.func89, Tryd.ntmps89
  go_wp2
  go_returns
  refine ⟨ret_w ?_ ?_, by go_grown⟩
  · obtain ⟨h1, h2, h3⟩ := HX.out
    unfold hiW
    first | omega | go_arith
  · obtain ⟨h1, h2, h3⟩ := HX.out
    unfold loW
    first | omega | go_arith

set_option maxHeartbeats 400000 in
theorem refOf_any (n : Int) (w : World) :
    Calls Tryd.prog 120 #[.int .i64 n] w fun e w' => e = .returned (.agg #[.int .i64 n, .int .i64 1]) ∧ Below w.heap.size w w' := by
  go_enter Tryd.func120, Tryd.ntmps120
  go_wp2
  go_returns
  exact ⟨rfl, by go_grown⟩

end Go.Proofs.YtcghjjfpjiacfaaDoor

namespace Go.Proofs.YtcghjjfpjiacfaaDoor
set_option linter.unusedVariables false
open Go.RowKit Go.Shelf

theorem Blk.set1 {W : World} {b : Nat} {v0 v1 y : Value} (h : Blk W b v0 v1) : Blk (W.setCell ⟨b, 1, none⟩ y) b v0 y :=
  ⟨by simpa using h.1, by rw [World.cell?_setCell_other _ _ _ _ (by simp)]; exact h.2.1, World.cell?_setCell_same' _ _ _ (by rw [h.2.2]; rfl)⟩
theorem Blk.far1 {W : World} {b c o : Nat} {v0 v1 y : Value} (h : Blk W b v0 v1) (hne : c ≠ b) : Blk (W.setCell ⟨c, o, none⟩ y) b v0 v1 :=
  ⟨by simpa using h.1, by rw [World.cell?_setCell_far _ _ _ _ hne]; exact h.2.1, by rw [World.cell?_setCell_far _ _ _ _ hne]; exact h.2.2⟩
theorem Frz.set1 {W : World} {b c o : Nat} {y : Value} (h : Frz W b) : Frz (W.setCell ⟨c, o, none⟩ y) b := ⟨by simpa using h.1, by simpa using h.2⟩

/-- One step of the division by shifting and subtracting. -/
structure DivInv (A b n c Q R : Int) : Prop where
  eq : A * 2 ^ n.toNat = (Q * b + R) * 340282366920938463463374607431768211456 + c
  c0 : 0 ≤ c
  c1 : c < 340282366920938463463374607431768211456
  r0 : 0 ≤ R
  r1 : R < b
  q0 : 0 ≤ Q
  n0 : 0 ≤ n

theorem DivInv.step {A b n c Q R Q' R' : Int} (h : DivInv A b n c Q R) (hr : 0 ≤ R') (hr' : R' < b) (hq : 0 ≤ Q') (e : Q' * b + R' = 2 * (Q * b + R) + 2 * c / 340282366920938463463374607431768211456) :
    DivInv A b (n + 1) (2 * c % 340282366920938463463374607431768211456) Q' R' := by
  have h1 := h.eq
  have h2 := h.c0
  have h3 := h.c1
  have h4 := h.n0
  refine ⟨?_, by omega, by omega, hr, hr', hq, by omega⟩
  have e2 : (n + 1).toNat = n.toNat + 1 := by omega
  rw [e2, Int.pow_succ, ← Int.mul_assoc, h1, e]
  generalize Q * b = z at *
  omega
theorem DivInv.yes {A b n c Q R : Int} (h : DivInv A b n c Q R) (hX : b ≤ 2 * R + 2 * c / 340282366920938463463374607431768211456) : DivInv A b (n + 1) (2 * c % 340282366920938463463374607431768211456) (2 * Q + 1) (2 * R + 2 * c / 340282366920938463463374607431768211456 - b) := by
  have h1 := h.c0; have h2 := h.c1; have h3 := h.r1; have h4 := h.q0
  refine h.step (by omega) (by omega) (by omega) ?_
  rw [show (2 * Q + 1) * b = 2 * (Q * b) + b by grind]
  omega
theorem DivInv.no {A b n c Q R : Int} (h : DivInv A b n c Q R) (hX : ¬ b ≤ 2 * R + 2 * c / 340282366920938463463374607431768211456) : DivInv A b (n + 1) (2 * c % 340282366920938463463374607431768211456) (2 * Q) (2 * R + 2 * c / 340282366920938463463374607431768211456) := by
  have h1 := h.c0; have h2 := h.c1; have h3 := h.r0; have h4 := h.q0
  refine h.step (by omega) (by omega) (by omega) ?_
  rw [show (2 * Q) * b = 2 * (Q * b) by grind]
  omega
theorem DivInv.last {A b c Q R : Int} (hA : A < 340282366920938463463374607431768211456) (h : DivInv A b 128 c Q R) : Q = A / b ∧ R = A % b := by
  have h1 := h.eq; have h2 := h.c0; have h3 := h.c1; have h4 := h.r0; have h5 := h.r1
  have e : (2 : Int) ^ (128 : Int).toNat = 340282366920938463463374607431768211456 := by decide
  rw [e] at h1
  have e1 : A = Q * b + R := by
    generalize Q * b = z at *
    omega
  have e2 : A / b = Q := by rw [e1, Int.add_comm, Int.mul_comm, Int.add_mul_ediv_left _ _ (by omega), Int.ediv_eq_zero_of_lt h4 h5]; omega
  have e3 := Int.mul_ediv_add_emod A b
  rw [e2] at e3
  refine ⟨e2.symm, ?_⟩
  rw [Int.mul_comm] at e3
  generalize Q * b = z at *
  omega

/-- The words of what one round makes. -/
theorem div_words {c R : Int} (c0 : 0 ≤ c) (c1 : c < 340282366920938463463374607431768211456) (r0 : 0 ≤ R) (r1 : R < 340282366920938463463374607431768211456) :
    IntKind.u64.wrap (IntKind.u64.wrap (hiW R * 2) + loW R / 9223372036854775808) = hiW (2 * R + 2 * c / 340282366920938463463374607431768211456) ∧
    IntKind.u64.wrap (IntKind.u64.wrap (loW R * 2) + hiW c / 9223372036854775808) = loW (2 * R + 2 * c / 340282366920938463463374607431768211456) ∧
    IntKind.u64.wrap (IntKind.u64.wrap (hiW c * 2) + loW c / 9223372036854775808) = hiW (2 * c % 340282366920938463463374607431768211456) ∧
    IntKind.u64.wrap (loW c * 2) = loW (2 * c % 340282366920938463463374607431768211456) := by
  simp only [IntKind.wrap_u64]
  unfold hiW loW
  refine ⟨by omega, by omega, by omega, by omega⟩
theorem dbl_words (Q : Int) : IntKind.u64.wrap (IntKind.u64.wrap (hiW Q * 2) + loW Q / 9223372036854775808) = hiW (2 * Q) ∧ IntKind.u64.wrap (loW Q * 2) = loW (2 * Q) ∧ hiW (2 * Q) = hiW (2 * Q + 1) ∧ loW (2 * Q) + 1 = loW (2 * Q + 1) ∧ IntKind.u64.wrap (loW (2 * Q) + 1) = loW (2 * Q + 1) := by
  simp only [IntKind.wrap_u64]
  unfold hiW loW
  refine ⟨by omega, by omega, by omega, by omega, by omega⟩
theorem over_word {R : Int} (r0 : 0 ≤ R) (r1 : R < 340282366920938463463374607431768211456) : (hiW R / 9223372036854775808 = 1 ∧ 340282366920938463463374607431768211456 ≤ 2 * R) ∨ (hiW R / 9223372036854775808 = 0 ∧ 2 * R < 340282366920938463463374607431768211456) := by
  unfold hiW; omega

/-- The six variables of Div in a round's world. -/
def DivSt (w W : World) (B0 B1 c Q R : Int) : Prop := Blk W (w.heap.size) (.int .u64 (hiW c)) (.int .u64 (loW c)) ∧ Blk W (w.heap.size + 1) (.int .u64 B0) (.int .u64 B1) ∧ Blk W (w.heap.size + 1 + 1) (.int .u64 0) (.int .u64 0) ∧ Blk W (w.heap.size + 1 + 1 + 1) (.int .u64 0) (.int .u64 0) ∧ Blk W (w.heap.size + 1 + 1 + 1 + 1) (.int .u64 (hiW Q)) (.int .u64 (loW Q)) ∧ Blk W (w.heap.size + 1 + 1 + 1 + 1 + 1) (.int .u64 (hiW R)) (.int .u64 (loW R)) ∧ Frz W (w.heap.size) ∧ Frz W (w.heap.size + 1 + 1) ∧ Frz W (w.heap.size + 1 + 1 + 1) ∧ Frz W (w.heap.size + 1 + 1 + 1 + 1) ∧ Frz W (w.heap.size + 1 + 1 + 1 + 1 + 1) ∧ Below w.heap.size w W

theorem DivSt.start (w : World) (A B : Int) (W : World) (hW : W = (((((w.alloc (Obj.cells #[Value.int IntKind.u64 (hiW A), Value.int IntKind.u64 (loW A)] 129)).alloc (Obj.cells #[Value.int IntKind.u64 (hiW B), Value.int IntKind.u64 (loW B)] 129)).alloc (Obj.cells #[Value.int IntKind.u64 0, Value.int IntKind.u64 0] 129)).alloc (Obj.cells #[Value.int IntKind.u64 0, Value.int IntKind.u64 0] 129)).alloc (Obj.cells #[Value.int IntKind.u64 0, Value.int IntKind.u64 0] 129)).alloc (Obj.cells #[Value.int IntKind.u64 0, Value.int IntKind.u64 0] 129)) : DivSt w W (hiW B) (loW B) A 0 0 := by
  subst hW
  have z0 : hiW 0 = 0 := by decide
  have z1 : loW 0 = 0 := by decide
  unfold DivSt
  rw [z0, z1]
  have nw : ∀ (V : World) (n : Nat) (v0 v1 : Value) (t : Nat), V.heap.size = n → Blk (V.alloc (Obj.cells #[v0, v1] t)) n v0 v1 := fun V n v0 v1 t h => h ▸ Blk.new V v0 v1 t
  have nf : ∀ (V : World) (n : Nat) (v0 v1 : Value) (t : Nat), V.heap.size = n → Frz (V.alloc (Obj.cells #[v0, v1] t)) n := fun V n v0 v1 t h => h ▸ Frz.new V v0 v1 t
  have fa : ∀ (V : World) (n : Nat) (o : Obj) , Frz V n → n < V.heap.size → Frz (V.alloc o) n := fun V n o h hl => h.alloc hl o
  refine ⟨?_, ?_, ?_, ?_, ?_, ?_, ?_, ?_, ?_, ?_, ?_, (by repeat' (first | (with_reducible exact Below.refl _ _) | (with_reducible assumption) | (with_reducible refine Below.alloc ?_ ?_ _) | (with_reducible refine below_drew ?_ _) | (with_reducible refine Below.drew ?_) | (with_reducible refine Below.setCell ?_ ?_ _) | go_size))⟩
  · exact (((((nw _ _ _ _ _ (by simp)).alloc _).alloc _).alloc _).alloc _).alloc _
  · exact ((((nw _ _ _ _ _ (by simp)).alloc _).alloc _).alloc _).alloc _
  · exact (((nw _ _ _ _ _ (by simp)).alloc _).alloc _).alloc _
  · exact ((nw _ _ _ _ _ (by simp)).alloc _).alloc _
  · exact (nw _ _ _ _ _ (by simp)).alloc _
  · exact nw _ _ _ _ _ (by simp)
  · exact fa _ _ _ (fa _ _ _ (fa _ _ _ (fa _ _ _ (fa _ _ _ (nf _ _ _ _ _ (by first | go_size | (simp; omega) | simp)) (by first | go_size | (simp; omega) | simp)) (by first | go_size | (simp; omega) | simp)) (by first | go_size | (simp; omega) | simp)) (by first | go_size | (simp; omega) | simp)) (by first | go_size | (simp; omega) | simp)
  · exact fa _ _ _ (fa _ _ _ (fa _ _ _ (nf _ _ _ _ _ (by first | go_size | (simp; omega) | simp)) (by first | go_size | (simp; omega) | simp)) (by first | go_size | (simp; omega) | simp)) (by first | go_size | (simp; omega) | simp)
  · exact fa _ _ _ (fa _ _ _ (nf _ _ _ _ _ (by first | go_size | (simp; omega) | simp)) (by first | go_size | (simp; omega) | simp)) (by first | go_size | (simp; omega) | simp)
  · exact fa _ _ _ (nf _ _ _ _ _ (by first | go_size | (simp; omega) | simp)) (by first | go_size | (simp; omega) | simp)
  · exact nf _ _ _ _ _ (by simp)

theorem DivSt.mid {w W : World} {B0 B1 c Q R XH XL CH CL QH QL : Int} (h : DivSt w W B0 B1 c Q R) {W2 : World} (hW : W2 = ((((((W.setCell ⟨w.heap.size + 1 + 1 + 1 + 1 + 1, 0, none⟩ (.int .u64 XH)).setCell ⟨w.heap.size + 1 + 1 + 1 + 1 + 1, 1, none⟩ (.int .u64 XL)).setCell ⟨w.heap.size, 0, none⟩ (.int .u64 CH)).setCell ⟨w.heap.size, 1, none⟩ (.int .u64 CL)).setCell ⟨w.heap.size + 1 + 1 + 1 + 1, 0, none⟩ (.int .u64 QH)).setCell ⟨w.heap.size + 1 + 1 + 1 + 1, 1, none⟩ (.int .u64 QL))) :
    Blk W2 (w.heap.size) (.int .u64 CH) (.int .u64 CL) ∧ Blk W2 (w.heap.size + 1) (.int .u64 B0) (.int .u64 B1) ∧ Blk W2 (w.heap.size + 1 + 1) (.int .u64 0) (.int .u64 0) ∧ Blk W2 (w.heap.size + 1 + 1 + 1) (.int .u64 0) (.int .u64 0) ∧ Blk W2 (w.heap.size + 1 + 1 + 1 + 1) (.int .u64 QH) (.int .u64 QL) ∧ Blk W2 (w.heap.size + 1 + 1 + 1 + 1 + 1) (.int .u64 XH) (.int .u64 XL) ∧ Frz W2 (w.heap.size) ∧ Frz W2 (w.heap.size + 1 + 1) ∧ Frz W2 (w.heap.size + 1 + 1 + 1) ∧ Frz W2 (w.heap.size + 1 + 1 + 1 + 1) ∧ Frz W2 (w.heap.size + 1 + 1 + 1 + 1 + 1) ∧ Below w.heap.size w W2 := by
  subst hW
  obtain ⟨ha, hb, hp, hs, hq, hr, fa, fp, fs, fq, fr, B⟩ := h
  exact ⟨(((ha).far (by omega)).set).far (by omega), (((hb).far (by omega)).far (by omega)).far (by omega), (((hp).far (by omega)).far (by omega)).far (by omega), (((hs).far (by omega)).far (by omega)).far (by omega), (((hq).far (by omega)).far (by omega)).set, (((hr).set).far (by omega)).far (by omega), ((fa.set).set).set, ((fp.set).set).set, ((fs.set).set).set, ((fq.set).set).set, ((fr.set).set).set, (((((B.setCell (by simp; omega) _).setCell (by simp; omega) _).setCell (by simp) _).setCell (by simp) _).setCell (by simp; omega) _).setCell (by simp; omega) _⟩

end Go.Proofs.YtcghjjfpjiacfaaDoor

namespace Go.Proofs.YtcghjjfpjiacfaaDoor
set_option linter.unusedVariables false
open Go.RowKit Go.Shelf

def DivMid (w W : World) (B0 B1 CH CL QH QL XH XL : Int) : Prop := Blk W (w.heap.size) (.int .u64 CH) (.int .u64 CL) ∧ Blk W (w.heap.size + 1) (.int .u64 B0) (.int .u64 B1) ∧ Blk W (w.heap.size + 1 + 1) (.int .u64 0) (.int .u64 0) ∧ Blk W (w.heap.size + 1 + 1 + 1) (.int .u64 0) (.int .u64 0) ∧ Blk W (w.heap.size + 1 + 1 + 1 + 1) (.int .u64 QH) (.int .u64 QL) ∧ Blk W (w.heap.size + 1 + 1 + 1 + 1 + 1) (.int .u64 XH) (.int .u64 XL) ∧ Frz W (w.heap.size) ∧ Frz W (w.heap.size + 1 + 1) ∧ Frz W (w.heap.size + 1 + 1 + 1) ∧ Frz W (w.heap.size + 1 + 1 + 1 + 1) ∧ Frz W (w.heap.size + 1 + 1 + 1 + 1 + 1) ∧ Below w.heap.size w W
theorem DivMid.on {w W W2 : World} {B0 B1 CH CL QH QL XH XL : Int} (h : DivMid w W B0 B1 CH CL QH QL XH XL) (hb : Below W.heap.size W W2) : DivMid w W2 B0 B1 CH CL QH QL XH XL := by
  obtain ⟨ha, hB, hp, hs, hq, hr, fa, fp, fs, fq, fr, B⟩ := h
  exact ⟨ha.on hb, hB.on hb, hp.on hb, hs.on hb, hq.on hb, hr.on hb, fa.on ha.1 hb, fp.on hp.1 hb, fs.on hs.1 hb, fq.on hq.1 hb, fr.on hr.1 hb, below_on B hb⟩
theorem DivMid.fin {w W : World} {b c' Q' R' CH CL QH QL XH XL MH ML Q1 : Int} (h : DivMid w W (hiW b) (loW b) CH CL QH QL XH XL) (h1 : CH = hiW c') (h2 : CL = loW c') (h3 : QH = hiW Q') (h4 : Q1 = loW Q') (h5 : MH = hiW R') (h6 : ML = loW R') :
    DivSt w (((W.setCell ⟨w.heap.size + 1 + 1 + 1 + 1 + 1, 0, none⟩ (.int .u64 MH)).setCell ⟨w.heap.size + 1 + 1 + 1 + 1 + 1, 1, none⟩ (.int .u64 ML)).setCell ⟨w.heap.size + 1 + 1 + 1 + 1, 1, none⟩ (.int .u64 Q1)) (hiW b) (loW b) c' Q' R' := by
  obtain ⟨ha, hb, hp, hs, hq, hr, fa, fp, fs, fq, fr, B⟩ := h
  unfold DivSt
  rw [← h1, ← h2, ← h3, ← h4, ← h5, ← h6]
  exact ⟨(ha.far (by omega)).far1 (by omega), (hb.far (by omega)).far1 (by omega), (hp.far (by omega)).far1 (by omega), (hs.far (by omega)).far1 (by omega), (hq.far (by omega)).set1, (hr.set).far1 (by omega), fa.set.set1, fp.set.set1, fs.set.set1, fq.set.set1, fr.set.set1, ((B.setCell (by simp; omega) _).setCell (by simp; omega) _).setCell (by simp; omega) _⟩
theorem DivMid.fin0 {w W : World} {b c' Q' R' CH CL QH QL XH XL : Int} (h : DivMid w W (hiW b) (loW b) CH CL QH QL XH XL) (h1 : CH = hiW c') (h2 : CL = loW c') (h3 : QH = hiW Q') (h4 : QL = loW Q') (h5 : XH = hiW R') (h6 : XL = loW R') :
    DivSt w W (hiW b) (loW b) c' Q' R' := by
  unfold DivSt
  rw [← h1, ← h2, ← h3, ← h4, ← h5, ← h6]
  exact h

end Go.Proofs.YtcghjjfpjiacfaaDoor

namespace Go.Proofs.YtcghjjfpjiacfaaDoor
set_option linter.unusedVariables false
open Go.RowKit Go.Shelf

/-- The two variables of Gcd, and its result. -/
def GcdSt (w W : World) (x y : Int) : Prop := (Blk W (w.heap.size) (.int .u64 (hiW x)) (.int .u64 (loW x)) ∧ Blk W (w.heap.size + 1) (.int .u64 (hiW y)) (.int .u64 (loW y)) ∧ Blk W (w.heap.size + 1 + 1) (.int .u64 0) (.int .u64 0) ∧ Frz W (w.heap.size) ∧ Frz W (w.heap.size + 1) ∧ Frz W (w.heap.size + 1 + 1) ∧ Below w.heap.size w W)
theorem GcdSt.on {w W W2 : World} {x y : Int} (h : GcdSt w W x y) (hb : Below W.heap.size W W2) : GcdSt w W2 x y := by
  obtain ⟨ha, hB, hr, fa, fb, fr, B⟩ := h
  exact ⟨ha.on hb, hB.on hb, hr.on hb, fa.on ha.1 hb, fb.on hB.1 hb, fr.on hr.1 hb, below_on B hb⟩
theorem GcdSt.drew {w W : World} {x y : Int} (h : GcdSt w W x y) : GcdSt w W.drew x y := h.on (Below.drew (Below.refl _ _))
theorem GcdSt.setx {w W : World} {x y : Int} (h : GcdSt w W x y) (z : Int) : GcdSt w ((W.setCell ⟨w.heap.size, 0, none⟩ (.int .u64 (hiW (z)))).setCell ⟨w.heap.size, 1, none⟩ (.int .u64 (loW (z)))) z y := by
  obtain ⟨ha, hB, hr, fa, fb, fr, B⟩ := h
  exact ⟨ha.set, hB.far (by omega), hr.far (by omega), fa.set, fb.set, fr.set, (B.setCell (by simp) _).setCell (by simp) _⟩
theorem GcdSt.sety {w W : World} {x y : Int} (h : GcdSt w W x y) (z : Int) : GcdSt w ((W.setCell ⟨w.heap.size + 1, 0, none⟩ (.int .u64 (hiW (z)))).setCell ⟨w.heap.size + 1, 1, none⟩ (.int .u64 (loW (z)))) x z := by
  obtain ⟨ha, hB, hr, fa, fb, fr, B⟩ := h
  exact ⟨ha.far (by omega), hB.set, hr.far (by omega), fa.set, fb.set, fr.set, (B.setCell (by simp) _).setCell (by simp) _⟩
theorem GcdSt.start (w : World) (x y : Int) (W : World) (hW : W = ((w.alloc (Obj.cells #[Value.int IntKind.u64 (hiW x), Value.int IntKind.u64 (loW x)] 129)).alloc (Obj.cells #[Value.int IntKind.u64 (hiW y), Value.int IntKind.u64 (loW y)] 129)).alloc (Obj.cells #[Value.int IntKind.u64 0, Value.int IntKind.u64 0] 129)) : GcdSt w W x y := by
  subst hW
  have nw : ∀ (V : World) (n : Nat) (v0 v1 : Value) (t : Nat), V.heap.size = n → Blk (V.alloc (Obj.cells #[v0, v1] t)) n v0 v1 := fun V n v0 v1 t h => h ▸ Blk.new V v0 v1 t
  have nf : ∀ (V : World) (n : Nat) (v0 v1 : Value) (t : Nat), V.heap.size = n → Frz (V.alloc (Obj.cells #[v0, v1] t)) n := fun V n v0 v1 t h => h ▸ Frz.new V v0 v1 t
  have fa : ∀ (V : World) (n : Nat) (o : Obj) , Frz V n → n < V.heap.size → Frz (V.alloc o) n := fun V n o h hl => h.alloc hl o
  refine ⟨?_, ?_, ?_, ?_, ?_, ?_, (by repeat' (first | (with_reducible exact Below.refl _ _) | (with_reducible assumption) | (with_reducible refine Below.alloc ?_ ?_ _) | (with_reducible refine below_drew ?_ _) | (with_reducible refine Below.drew ?_) | (with_reducible refine Below.setCell ?_ ?_ _) | go_size))⟩
  · exact ((nw _ _ _ _ _ (by simp)).alloc _).alloc _
  · exact (nw _ _ _ _ _ (by simp)).alloc _
  · exact nw _ _ _ _ _ (by simp)
  · exact fa _ _ _ (fa _ _ _ (nf _ _ _ _ _ (by simp)) (by first | go_size | (simp; omega) | simp)) (by first | go_size | (simp; omega) | simp)
  · exact fa _ _ _ (nf _ _ _ _ _ (by simp)) (by first | go_size | (simp; omega) | simp)
  · exact nf _ _ _ _ _ (by simp)

/-- Both numbers are halved as long as both are even. -/
structure Gcd1 (A B k x y : Int) : Prop where
  k0 : 0 ≤ k
  x0 : 0 < x
  y0 : 0 < y
  ea : A = x * 2 ^ k.toNat
  eb : B = y * 2 ^ k.toNat
theorem Gcd1.half {A B k x y : Int} (h : Gcd1 A B k x y) (hx : x % 2 = 0) (hy : y % 2 = 0) : Gcd1 A B (k + 1) (x / 2) (y / 2) := by
  obtain ⟨k0, x0, y0, ea, eb⟩ := h
  have e : (k + 1).toNat = k.toNat + 1 := by omega
  have ex : x / 2 * 2 = x := by omega
  have ey : y / 2 * 2 = y := by omega
  refine ⟨by omega, by omega, by omega, ?_, ?_⟩
  · rw [ea, e, Int.pow_succ, Int.mul_comm (2 ^ _) 2, ← Int.mul_assoc, ex]
  · rw [eb, e, Int.pow_succ, Int.mul_comm (2 ^ _) 2, ← Int.mul_assoc, ey]
theorem Gcd1.small {A B k x y : Int} (h : Gcd1 A B k x y) (hA : A < 340282366920938463463374607431768211456) (hB : B < 340282366920938463463374607431768211456) : k < 128 ∧ x < 340282366920938463463374607431768211456 ∧ y < 340282366920938463463374607431768211456 := by
  obtain ⟨k0, x0, y0, ea, eb⟩ := h
  have p0 : (0 : Int) < 2 ^ k.toNat := Int.pow_pos (by omega)
  have l4 : 128 ≤ k → (2 : Int) ^ 128 ≤ 2 ^ k.toNat := fun c => by
    have h := Int.ofNat_le.2 (Nat.pow_le_pow_right (show 2 > 0 by omega) (show 128 ≤ k.toNat by omega))
    rw [Int.natCast_pow, Int.natCast_pow] at h; exact h
  have e : (2 : Int) ^ 128 = 340282366920938463463374607431768211456 := by decide
  rw [e] at l4
  generalize (2 : Int) ^ k.toNat = p at *
  have l1 := Int.mul_le_mul_of_nonneg_left (show 1 ≤ p by omega) (show 0 ≤ x by omega)
  have l2 := Int.mul_le_mul_of_nonneg_left (show 1 ≤ p by omega) (show 0 ≤ y by omega)
  have l3 := Int.mul_le_mul_of_nonneg_right (show 1 ≤ x by omega) (show 0 ≤ p by omega)
  rw [Int.one_mul] at l3
  rw [Int.mul_one] at l1 l2
  rw [← ea] at l1 l3
  rw [← eb] at l2
  refine ⟨?_, by omega, by omega⟩
  by_cases c : k < 128
  · exact c
  · have := l4 (by omega)
    omega
theorem Gcd1.gcd {A B k x y : Int} (h : Gcd1 A B k x y) : (Int.gcd A B : Int) = (Int.gcd x y : Int) * 2 ^ k.toNat := by
  rw [h.ea, h.eb, Int.gcd_mul_right]
  simp [Int.natAbs_pow]

/-- One number at least is odd: the greatest common divisor stays, whatever is halved or taken away. -/
structure Gcd2 (g : Nat) (x y : Int) : Prop where
  x0 : 0 ≤ x
  y0 : 0 < y
  og : g % 2 = 1
  e : Int.gcd x y = g
theorem Gcd1.turn {A B k x y : Int} (h : Gcd1 A B k x y) (ho : ¬ (x % 2 = 0 ∧ y % 2 = 0)) : Gcd2 (Int.gcd x y) x y := by
  refine ⟨by have := h.x0; omega, h.y0, ?_, rfl⟩
  rw [Int.gcd]
  exact gcd_odd (by omega)
theorem Gcd2.hx {g : Nat} {x y : Int} (h : Gcd2 g x y) (hx : x % 2 = 0) : Gcd2 g (x / 2) y := by
  obtain ⟨x0, y0, og, e⟩ := h
  rw [Int.gcd] at e
  have h2 : y.natAbs % 2 = 1 := odd_gcd_half_left (a := x.natAbs) (by omega) (by rw [e]; exact og)
  refine ⟨by omega, y0, og, ?_⟩
  rw [Int.gcd, show (x / 2).natAbs = x.natAbs / 2 by omega, gcd_half_left (by omega) h2, e]
theorem Gcd2.hy {g : Nat} {x y : Int} (h : Gcd2 g x y) (hx : x % 2 = 1) (hy : y % 2 = 0) : Gcd2 g x (y / 2) := by
  obtain ⟨x0, y0, og, e⟩ := h
  rw [Int.gcd] at e
  refine ⟨x0, by omega, og, ?_⟩
  rw [Int.gcd, show (y / 2).natAbs = y.natAbs / 2 by omega, gcd_half_right (by omega) (by omega), e]
theorem Gcd2.swap {g : Nat} {x y : Int} (h : Gcd2 g x y) (hx : 0 < x) : Gcd2 g y x := ⟨by have := h.y0; omega, hx, h.og, by rw [Int.gcd_comm]; exact h.e⟩
theorem Gcd2.minus {g : Nat} {x y : Int} (h : Gcd2 g x y) (hl : y ≤ x) : Gcd2 g (x - y) y := by
  obtain ⟨x0, y0, og, e⟩ := h
  rw [Int.gcd] at e
  refine ⟨by omega, y0, og, ?_⟩
  rw [Int.gcd, show (x - y).natAbs = x.natAbs - y.natAbs by omega, gcd_minus (by omega), e]
theorem Gcd2.last {g : Nat} {y : Int} (h : Gcd2 g 0 y) : y = g := by
  have := h.e
  have := h.y0
  rw [Int.gcd] at *
  simp at *
  omega

theorem and_one {Y : Int} (h0 : 0 ≤ Y) (h1 : Y < 18446744073709551616) : bits .and .u64 Y 1 = Y % 2 := by
  obtain ⟨n, rfl⟩ := Int.eq_ofNat_of_zero_le h0
  have h := bits_and_u64_nat n 1 (by omega) (by omega)
  rw [Nat.and_one_is_mod] at h
  rw [show ((n : Int) % 2) = ((n % 2 : Nat) : Int) by omega]
  exact h
theorem low_bit (x : Int) : loW x % 2 = x % 2 := by unfold loW; omega
/-- A magnitude that is not 0 is not the zero struct. -/
theorem words_ne {x : Int} (h0 : 0 < x) (h1 : x < 340282366920938463463374607431768211456) : hiW x ≠ 0 ∨ (hiW x = 0 ∧ loW x ≠ 0) := by unfold hiW loW; omega

end Go.Proofs.YtcghjjfpjiacfaaDoor

namespace Go.Proofs.YtcghjjfpjiacfaaDoor
set_option linter.unusedVariables false
open Go.RowKit Go.Shelf

set_option maxRecDepth 100000 in
set_option maxHeartbeats 4000000 in
theorem rgcd_any (A B : Int) (w : World) (A0 : 0 ≤ A) (A1 : A < 340282366920938463463374607431768211456) (B0 : 0 < B) (B1 : B < 340282366920938463463374607431768211456) :
    Calls Tryd.prog 151 #[.agg #[.int .u64 (hiW (A)), .int .u64 (loW (A))], .agg #[.int .u64 (hiW (B)), .int .u64 (loW (B))]] w fun e w' => e = .returned (.agg #[.int .u64 (hiW ((Int.gcd A B : Int))), .int .u64 (loW ((Int.gcd A B : Int)))]) ∧ Below w.heap.size w w' := by
  by_cases hz : A = 0
  · subst hz
    have e1 : (Int.gcd 0 B : Int) = B := by simp; omega
    rw [e1]
    have z0 : hiW 0 = 0 := by decide
    have z1 : loW 0 = 0 := by decide
    rw [z0, z1]
    clear A0 A1 B0 B1 e1
    generalize hiW B = b1
    generalize loW B = b2
    go_enter Tryd.func151, Tryd.ntmps151
    go_wp2
    go_returns
    exact ⟨rfl, (by repeat' (first | (with_reducible exact Below.refl _ _) | (with_reducible assumption) | (with_reducible refine Below.alloc ?_ ?_ _) | (with_reducible refine below_drew ?_ _) | (with_reducible refine Below.drew ?_) | (with_reducible refine Below.setCell ?_ ?_ _) | go_size))⟩
  · have I0 : Hid (Gcd1 A B 0 A B) := ⟨by omega, by omega, B0, by simp, by simp⟩
    have hA := words_ne (x := A) (by omega) A1
    have HB := Lib.hid (And.intro A1 B1)
    have hA2 : (hiW A == 0) = false ∨ ((hiW A == 0) = true ∧ (loW A == 0) = false) := by
      rcases hA with h | ⟨h, h2⟩
      · exact .inl (by simpa using h)
      · exact .inr ⟨by simpa using h, by simpa using h2⟩
    clear hA A0 A1 B0 B1 hz
    go_enter Tryd.func151, Tryd.ntmps151
    go_upto_region 1 with fail
    obtain ⟨W0, hW0⟩ : ∃ W0, W0 = ((w.alloc (Obj.cells #[Value.int IntKind.u64 (hiW A), Value.int IntKind.u64 (loW A)] 129)).alloc (Obj.cells #[Value.int IntKind.u64 (hiW B), Value.int IntKind.u64 (loW B)] 129)).alloc (Obj.cells #[Value.int IntKind.u64 0, Value.int IntKind.u64 0] 129) := ⟨_, rfl⟩
    rw [← hW0]
    have S0 := Lib.hid (GcdSt.start w A B W0 hW0)
    clear hW0
    go_cut [8] (fun s8 wx => wx = W0 ∧ s8 = .bool false)
    case first =>
      obtain ⟨⟨_, c0, c1⟩, _⟩ := S0.out
      rcases hA2 with g | ⟨g, g2⟩
      all_goals
        go_wp2_with fail
        go_meet
        exact ⟨rfl, rfl⟩
    case rest =>
    clear hA2
    obtain ⟨rfl, rfl⟩ := hcut
    go_wp2_with fail
    go_loopg [5] A.toNat (fun g s5 wx => ∃ k x y : Int, s5 = .int .i64 k ∧ g = x.toNat ∧ Hid (Gcd1 A B k x y) ∧ Hid (GcdSt w wx x y))
    case atStart => exact ⟨0, A, B, rfl, rfl, I0, S0⟩
    case round =>
      clear S0 I0
      obtain ⟨k, x, y, rfl, rfl, I, S⟩ := hrel
      obtain ⟨⟨_, c0, c1⟩, ⟨_, c2, c3⟩, _, ⟨c4, c5⟩, ⟨c6, c7⟩, _, _⟩ := S.out
      have k0 : 0 ≤ k := I.out.k0
      have kw : IntKind.i64.wrap (k + 1) = k + 1 := IntWalk.i64_in _ (by have := (I.out.small HB.out.1 HB.out.2).1; omega)
      have bx := and_one (loW_bd x).1 (loW_bd x).2
      have by' := and_one (loW_bd y).1 (loW_bd y).2
      rw [low_bit] at bx by'
      go_upto_region 4 with fail
      go_cut [19] (fun s19 wx => wx = wr ∧ s19 = .bool (decide (x % 2 = 0 ∧ y % 2 = 0)))
      case first =>
        by_cases hx : x % 2 = 0
        · by_cases hy : y % 2 = 0
          · go_wp2_with fail
            go_meet
            exact ⟨rfl, by simp [hx, hy]⟩
          · have hy' : (y % 2 == 0) = false := by simpa using hy
            go_wp2_with fail
            go_meet
            exact ⟨rfl, by simp [hx, hy]⟩
        · have hx' : (x % 2 == 0) = false := by simpa using hx
          go_wp2_with fail
          go_meet
          exact ⟨rfl, by simp [hx]⟩
      case rest =>
        obtain ⟨rfl, rfl⟩ := hcut
        by_cases hxy : x % 2 = 0 ∧ y % 2 = 0
        · have I' := Lib.hid (I.out.half hxy.1 hxy.2)
          have hm : Hid ((x / 2).toNat < x.toNat) := by have := I.out.x0; show _ < _; omega
          have hd : decide (x % 2 = 0 ∧ y % 2 = 0) = true := by simpa using hxy
          rw [hd]
          have CX := fun w => Lib.hid (half_any x w (by have := I.out.x0; omega) (I.out.small HB.out.1 HB.out.2).2.1)
          have CY := fun w => Lib.hid (half_any y w (by have := I.out.y0; omega) (I.out.small HB.out.1 HB.out.2).2.2)
          clear bx by' hxy hd
          go_wp2_with fail
          go_region_with (go_at_call 160; (first | (with_reducible refine ((CX _).out).mono ?_) | (with_reducible refine ((CY _).out).mono ?_)); rintro e w1 ⟨rfl, hb⟩; have T1 := Lib.hid (GcdSt.on (by first | exact T1.out | exact T1.out.drew | exact T1.out.drew.drew | exact S.out | exact S.out.drew | exact S.out.drew.drew) hb); clear hb; obtain ⟨⟨_, t0, t1⟩, ⟨_, t2, t3⟩, _, ⟨t4, t5⟩, ⟨t6, t7⟩, _, _⟩ := T1.out)
          all_goals
            go_wp2_with fail
            go_roundg ((x / 2).toNat)
            case measure => exact hm.out
            case rel => exact ⟨k + 1, x / 2, y / 2, rfl, rfl, I', Lib.hid ((T1.out.setx _).sety _)⟩
        · have hd : decide (x % 2 = 0 ∧ y % 2 = 0) = false := by simpa using hxy
          rw [hd]
          have J := Lib.hid (I.out.turn hxy)
          have hN := Lib.hid (I.out.gcd)
          have HX := Lib.hid (I.out.small HB.out.1 HB.out.2)
          clear bx by' hxy hd c0 c1 c2 c3 c4 c5 c6 c7
          obtain ⟨G, hG⟩ : ∃ G : Nat, Int.gcd x y = G := ⟨_, rfl⟩
          rw [hG] at J hN
          clear hG I kw
          go_wp2_with fail
          go_loopg [] (x + y).toNat (fun g wx => ∃ a b : Int, g = (a + b).toNat ∧ a < 340282366920938463463374607431768211456 ∧ b < 340282366920938463463374607431768211456 ∧ Hid (Gcd2 G a b) ∧ Hid (GcdSt w wx a b))
          case atStart => exact ⟨x, y, rfl, HX.out.2.1, HX.out.2.2, J, S⟩
          case round =>
            clear J S
            have kk := Lib.hid HX.out.1
            clear HX
            obtain ⟨a, b, rfl, a1, b1, J, S⟩ := hrel
            obtain ⟨⟨_, c0, c1⟩, ⟨_, c2, c3⟩, _, ⟨c4, c5⟩, ⟨c6, c7⟩, _, _⟩ := S.out
            go_upto_region 6 with fail
            go_cut [28] (fun s28 wx => wx = wr ∧ s28 = .bool (decide (¬ a = 0)))
            case first =>
              by_cases hz : a = 0
              · have z0 : hiW a = 0 := by rw [hz]; decide
                have z1 : loW a = 0 := by rw [hz]; decide
                rw [z0] at c0
                rw [z1] at c1
                go_wp2_with fail
                go_meet
                exact ⟨rfl, by simp [hz]⟩
              · have hA2 : (hiW a == 0) = false ∨ ((hiW a == 0) = true ∧ (loW a == 0) = false) := by
                  rcases words_ne (x := a) (by have := J.out.x0; omega) a1 with h | ⟨h, h2⟩
                  · exact .inl (by simpa using h)
                  · exact .inr ⟨by simpa using h, by simpa using h2⟩
                rcases hA2 with g | ⟨g, g2⟩
                all_goals
                  go_wp2_with fail
                  go_meet
                  exact ⟨rfl, by simp [hz]⟩
            case rest =>
              obtain ⟨rfl, rfl⟩ := hcut
              by_cases hz : a = 0
              · have hd : decide (¬ a = 0) = false := by simp [hz]
                rw [hd]
                subst hz
                have hy := Lib.hid J.out.last
                have y0 := Lib.hid J.out.y0
                clear hd J c0 c1 c2 c3 c4 c5 c6 c7
                go_wp2_with fail
                go_loopg [5] k.toNat (fun g s5 wx => ∃ j z : Int, s5 = .int .i64 j ∧ 0 ≤ j ∧ j ≤ k ∧ g = j.toNat ∧ Hid ((Int.gcd A B : Int) = z * 2 ^ j.toNat) ∧ Hid (GcdSt w wx 0 z))
                case atStart => exact ⟨k, b, rfl, k0, by omega, rfl, by rw [hy.out]; exact hN, S⟩
                case round =>
                  clear S
                  obtain ⟨j, z, rfl, j0, j1, rfl, E, S⟩ := hrel
                  obtain ⟨⟨_, c0, c1⟩, ⟨_, c2, c3⟩, ⟨_, c8, c9⟩, ⟨c4, c5⟩, ⟨c6, c7⟩, ⟨f8, f9⟩, _⟩ := S.out
                  by_cases hj : 0 < j
                  · have CP := fun w => Lib.hid (refPlus_any z z w)
                    have jw : IntKind.i64.wrap (j - 1) = j - 1 := IntWalk.i64_in _ (by have := kk.out; omega)
                    have hj' : decide (0 < j) = true := by simpa using hj
                    go_wp2_with (first | (go_at_call 91; (first | (with_reducible refine ((CP _).out).mono ?_)); rintro e w1 ⟨rfl, hb⟩; have T1 := Lib.hid (GcdSt.on (by first | exact T1.out | exact T1.out.drew | exact T1.out.drew.drew | exact S.out | exact S.out.drew | exact S.out.drew.drew) hb); clear hb; obtain ⟨⟨_, t0, t1⟩, ⟨_, t2, t3⟩, _, ⟨t4, t5⟩, ⟨t6, t7⟩, _, _⟩ := T1.out))
                    go_roundg ((j - 1).toNat)
                    case measure => omega
                    case rel => exact ⟨j - 1, z + z, rfl, by omega, by omega, rfl, by rw [E.out, show j.toNat = (j - 1).toNat + 1 by omega, Int.pow_succ]; show _ = _; grind, Lib.hid (T1.out.sety _)⟩
                  · have hj' : decide (0 < j) = false := by simpa using hj
                    have e0 : j = 0 := by omega
                    subst e0
                    have E2 : Hid (z = (Int.gcd A B : Int)) := by rw [E.out]; show _ = _; simp
                    clear E
                    go_wp2_with fail
                    refine bodyPost_ret (by simp [results, Tryd.results151, go_sem, c8, c9]; try rfl) rfl ?_
                    refine ⟨by rw [← E2.out], ?_⟩
                    exact (S.out.2.2.2.2.2.2.setCell (by simp; omega) _).setCell (by simp; omega) _
              · have hd : decide (¬ a = 0) = true := by simp [hz]
                rw [hd]
                have a0 : 0 < a := by have := J.out.x0; omega
                clear hd hz c0 c1 c2 c3 c4 c5 c6 c7
                go_wp2_with fail
                go_loopg [] a.toNat (fun g wx => ∃ c : Int, g = c.toNat ∧ 0 < c ∧ c ≤ a ∧ Hid (Gcd2 G c b) ∧ Hid (GcdSt w wx c b))
                case atStart => exact ⟨a, rfl, a0, by omega, J, S⟩
                case round =>
                  clear J S
                  obtain ⟨c, rfl, cc0, cc1, J, S⟩ := hrel
                  obtain ⟨⟨_, c0, c1⟩, ⟨_, c2, c3⟩, _, ⟨c4, c5⟩, ⟨c6, c7⟩, _, _⟩ := S.out
                  have bx := and_one (loW_bd c).1 (loW_bd c).2
                  rw [low_bit] at bx
                  by_cases hx : c % 2 = 0
                  · have CX := fun w => Lib.hid (half_any c w (by omega) (by omega))
                    have CY := CX
                    go_wp2_with (first | (go_at_call 160; (first | (with_reducible refine ((CX _).out).mono ?_) | (with_reducible refine ((CY _).out).mono ?_)); rintro e w1 ⟨rfl, hb⟩; have T1 := Lib.hid (GcdSt.on (by first | exact T1.out | exact T1.out.drew | exact T1.out.drew.drew | exact S.out | exact S.out.drew | exact S.out.drew.drew) hb); clear hb; obtain ⟨⟨_, t0, t1⟩, ⟨_, t2, t3⟩, _, ⟨t4, t5⟩, ⟨t6, t7⟩, _, _⟩ := T1.out))
                    go_roundg ((c / 2).toNat)
                    case measure => omega
                    case rel => exact ⟨c / 2, rfl, by omega, by omega, Lib.hid (J.out.hx hx), Lib.hid (T1.out.setx _)⟩
                  · have hx' : (c % 2 == 0) = false := by simpa using hx
                    have hx2 : c % 2 = 1 := by omega
                    have HX := Lib.hid hx2
                    clear hx hx2
                    go_wp2_with fail
                    clear hx' bx c0 c1 c2 c3 c4 c5 c6 c7
                    go_loopg [] b.toNat (fun g wx => ∃ d : Int, g = d.toNat ∧ d ≤ b ∧ Hid (Gcd2 G c d) ∧ Hid (GcdSt w wx c d))
                    case atStart => exact ⟨b, rfl, by omega, J, S⟩
                    case round =>
                      clear J S
                      obtain ⟨d, rfl, dd1, J, S⟩ := hrel
                      obtain ⟨⟨_, c0, c1⟩, ⟨_, c2, c3⟩, _, ⟨c4, c5⟩, ⟨c6, c7⟩, _, _⟩ := S.out
                      have dd0 := J.out.y0
                      have bx := and_one (loW_bd d).1 (loW_bd d).2
                      rw [low_bit] at bx
                      by_cases hy : d % 2 = 0
                      · have CX := fun w => Lib.hid (half_any d w (by omega) (by omega))
                        have CY := CX
                        go_wp2_with (first | (go_at_call 160; (first | (with_reducible refine ((CX _).out).mono ?_) | (with_reducible refine ((CY _).out).mono ?_)); rintro e w1 ⟨rfl, hb⟩; have T1 := Lib.hid (GcdSt.on (by first | exact T1.out | exact T1.out.drew | exact T1.out.drew.drew | exact S.out | exact S.out.drew | exact S.out.drew.drew) hb); clear hb; obtain ⟨⟨_, t0, t1⟩, ⟨_, t2, t3⟩, _, ⟨t4, t5⟩, ⟨t6, t7⟩, _, _⟩ := T1.out))
                        go_roundg ((d / 2).toNat)
                        case measure => omega
                        case rel => exact ⟨d / 2, rfl, by omega, Lib.hid (J.out.hy HX.out hy), Lib.hid (T1.out.sety _)⟩
                      · have hy' : (d % 2 == 0) = false := by simpa using hy
                        have CL := fun w => Lib.hid (less_any c d w (by omega) (by omega) (by omega) (by omega))
                        by_cases hlt : c < d
                        · have hl : decide (c < d) = true := by simpa using hlt
                          have CM := fun w => Lib.hid (refMinus_any d c w)
                          simp only [hl] at CL
                          have J' := Lib.hid ((J.out.swap cc0).minus (Int.le_of_lt hlt))
                          clear hy hlt hl
                          go_wp2_with (first | (go_at_call 161; (first | (with_reducible refine ((CL _).out).mono ?_)); rintro e w1 ⟨rfl, hb⟩; have T1 := Lib.hid (GcdSt.on (by first | exact T1.out | exact T1.out.drew | exact T1.out.drew.drew | exact S.out | exact S.out.drew | exact S.out.drew.drew) hb); clear hb; obtain ⟨⟨_, t0, t1⟩, ⟨_, t2, t3⟩, _, ⟨t4, t5⟩, ⟨t6, t7⟩, _, _⟩ := T1.out) | (go_at_call 162; (first | (with_reducible refine ((CM _).out).mono ?_)); rintro e w1 ⟨rfl, hb⟩; have T1 := Lib.hid (GcdSt.on (by first | exact (T1.out.setx _).sety _ | exact T1.out) hb); clear hb; obtain ⟨⟨_, t0, t1⟩, ⟨_, t2, t3⟩, _, ⟨t4, t5⟩, ⟨t6, t7⟩, _, _⟩ := T1.out))
                          go_roundg ((d - c + c).toNat)
                          case measure => omega
                          case rel => exact ⟨d - c, c, rfl, by omega, by omega, J', Lib.hid (T1.out.setx _)⟩
                        · have hl : decide (c < d) = false := by simpa using hlt
                          have CM := fun w => Lib.hid (refMinus_any c d w)
                          simp only [hl] at CL
                          have J' := Lib.hid (J.out.minus (Int.not_lt.1 hlt))
                          clear hy hlt hl
                          go_wp2_with (first | (go_at_call 161; (first | (with_reducible refine ((CL _).out).mono ?_)); rintro e w1 ⟨rfl, hb⟩; have T1 := Lib.hid (GcdSt.on (by first | exact T1.out | exact T1.out.drew | exact T1.out.drew.drew | exact S.out | exact S.out.drew | exact S.out.drew.drew) hb); clear hb; obtain ⟨⟨_, t0, t1⟩, ⟨_, t2, t3⟩, _, ⟨t4, t5⟩, ⟨t6, t7⟩, _, _⟩ := T1.out) | (go_at_call 162; (first | (with_reducible refine ((CM _).out).mono ?_)); rintro e w1 ⟨rfl, hb⟩; have T1 := Lib.hid (GcdSt.on (by first | exact T1.out) hb); clear hb; obtain ⟨⟨_, t0, t1⟩, ⟨_, t2, t3⟩, _, ⟨t4, t5⟩, ⟨t6, t7⟩, _, _⟩ := T1.out))
                          go_roundg ((c - d + d).toNat)
                          case measure => omega
                          case rel => exact ⟨c - d, d, rfl, by omega, by omega, J', Lib.hid (T1.out.setx _)⟩

end Go.Proofs.YtcghjjfpjiacfaaDoor

namespace Go.Proofs.YtcghjjfpjiacfaaDoor
set_option linter.unusedVariables false
open Go.RowKit Go.Shelf

theorem small_words {z : Int} (h : hiW z = 0) (h0 : 0 ≤ z) (h1 : z < 340282366920938463463374607431768211456) : loW z = z ∧ z < 18446744073709551616 := by
  unfold hiW at h; unfold loW; omega
theorem words_small {z : Int} (h0 : 0 ≤ z) (h1 : z < 18446744073709551616) : hiW z = 0 ∧ loW z = z := by unfold hiW loW; omega

theorem words_gt {z : Int} (h0 : 0 ≤ z) (h1 : z < 340282366920938463463374607431768211456) : (decide (0 < hiW z) = true ∧ 1152921504606846976 < z) ∨ (decide (0 < hiW z) = false ∧ decide (1152921504606846976 < loW z) = true ∧ 1152921504606846976 < z) ∨ (decide (0 < hiW z) = false ∧ decide (1152921504606846976 < loW z) = false ∧ z ≤ 1152921504606846976) := by
  simp only [decide_eq_true_eq, decide_eq_false_iff_not]
  unfold hiW loW
  omega

/-- The fraction with a value of two magnitudes and a sign. -/
def madeT (N : Int) (neg : Bool) (D : Int) : Int × Int × Int := if D = 0 then (0, 0, 16) else redT (if neg = true then -N else N) D

theorem made_parts {N D : Int} {neg : Bool} (N0 : 0 ≤ N) (D0 : 0 < D) : madeT N neg D = fitT (if neg = true then -(N / (Int.gcd N D : Int)) else N / (Int.gcd N D : Int)) (D / (Int.gcd N D : Int)) := by
  unfold madeT redT
  rw [if_neg (by omega)]
  cases neg
  · simp
  · simp only [if_true]
    rw [Int.neg_gcd, Int.neg_ediv_of_dvd (Int.gcd_dvd_left N D)]

/-- What is carried from the entry on. -/
def MadeSt (w W : World) (N D : Int) : Prop := Blk W w.heap.size (.int .u64 (hiW N)) (.int .u64 (loW N)) ∧ Blk W (w.heap.size + 1) (.int .u64 (hiW D)) (.int .u64 (loW D)) ∧ Blk W (w.heap.size + 1 + 1) (.int .i64 0) (.int .i64 0) ∧ Frz W (w.heap.size + 1 + 1) ∧ Below w.heap.size w W
theorem MadeSt.on {w W W2 : World} {x y : Int} (h : MadeSt w W x y) (hb : Below W.heap.size W W2) : MadeSt w W2 x y := by
  obtain ⟨ha, hB, hr, fr, B⟩ := h
  exact ⟨ha.on hb, hB.on hb, hr.on hb, fr.on hr.1 hb, below_on B hb⟩
theorem MadeSt.alloc {w W : World} {x y : Int} (h : MadeSt w W x y) (o : Obj) : MadeSt w (W.alloc o) x y := h.on ((Below.refl _ _).alloc (Nat.le_refl _) _)
theorem MadeSt.start (w : World) (N D : Int) (W : World) (hW : W = ((w.alloc (Obj.cells #[Value.int IntKind.u64 (hiW (N)), Value.int IntKind.u64 (loW (N))] 129)).alloc (Obj.cells #[Value.int IntKind.u64 (hiW (D)), Value.int IntKind.u64 (loW (D))] 129)).alloc (Obj.cells #[Value.int IntKind.i64 0, Value.int IntKind.i64 0] 62)) : MadeSt w W N D := by
  subst hW
  have nw : ∀ (V : World) (n : Nat) (v0 v1 : Value) (t : Nat), V.heap.size = n → Blk (V.alloc (Obj.cells #[v0, v1] t)) n v0 v1 := fun V n v0 v1 t h => h ▸ Blk.new V v0 v1 t
  have nf : ∀ (V : World) (n : Nat) (v0 v1 : Value) (t : Nat), V.heap.size = n → Frz (V.alloc (Obj.cells #[v0, v1] t)) n := fun V n v0 v1 t h => h ▸ Frz.new V v0 v1 t
  refine ⟨?_, ?_, ?_, ?_, (by repeat' (first | (with_reducible exact Below.refl _ _) | (with_reducible assumption) | (with_reducible refine Below.alloc ?_ ?_ _) | (with_reducible refine below_drew ?_ _) | (with_reducible refine Below.drew ?_) | (with_reducible refine Below.setCell ?_ ?_ _) | go_size))⟩
  · exact ((nw _ _ _ _ _ (by simp)).alloc _).alloc _
  · exact (nw _ _ _ _ _ (by simp)).alloc _
  · exact nw _ _ _ _ _ (by simp)
  · exact nf _ _ _ _ _ (by simp)

end Go.Proofs.YtcghjjfpjiacfaaDoor

namespace Go.Proofs.YtcghjjfpjiacfaaDoor
set_option linter.unusedVariables false
open Go.RowKit Go.Shelf

set_option maxHeartbeats 2000000 in
theorem refValid_any (n d : Int) (w : World) (n0 : -9223372036854775808 ≤ n) (n1 : n ≤ 9223372036854775807) (d0 : -9223372036854775808 ≤ d) (d1 : d ≤ 9223372036854775807) :
    Calls Tryd.prog 138 #[.agg #[.int .i64 n, .int .i64 d]] w fun e w' => e = .returned (.bool (vB n d)) ∧ Below w.heap.size w w' := by
  by_cases h1 : d < 1
  · have hv := Lib.hid (vB_no (n := n) (d := d) (fun h => by have := h.d1; omega))
    go_enter Tryd.func138, Tryd.ntmps138
    go_wp2
    go_ret
    exact ⟨by rw [hv.out]; rfl, by go_grown⟩
  have h1' : decide (d < 1) = false := by simp; omega
  by_cases h2 : 1152921504606846976 < d
  · have hv := Lib.hid (vB_no (n := n) (d := d) (fun h => by have := h.d2; omega))
    go_enter Tryd.func138, Tryd.ntmps138
    go_wp2
    go_ret
    exact ⟨by rw [hv.out]; rfl, by go_grown⟩
  have h2' : decide (1152921504606846976 < d) = false := by simp; omega
  by_cases h3 : n < -1152921504606846976
  · have hv := Lib.hid (vB_no (n := n) (d := d) (fun h => by have := h.n1; omega))
    go_enter Tryd.func138, Tryd.ntmps138
    go_wp2
    go_ret
    exact ⟨by rw [hv.out]; rfl, by go_grown⟩
  have h3' : decide (n < -1152921504606846976) = false := by simp; omega
  by_cases h4 : 1152921504606846976 < n
  · have hv := Lib.hid (vB_no (n := n) (d := d) (fun h => by have := h.n2; omega))
    go_enter Tryd.func138, Tryd.ntmps138
    go_wp2
    go_ret
    exact ⟨by rw [hv.out]; rfl, by go_grown⟩
  have h4' : decide (1152921504606846976 < n) = false := by simp; omega

  have hv : Hid (vB n d = (((Int.gcd n d : Nat) : Int) == 1)) := by
    unfold vB Hid
    rw [Bool.eq_iff_iff]
    simp only [decide_eq_true_eq, vld_iff, beq_iff_eq]
    omega
  rw [hv.out]
  obtain ⟨s1, s2⟩ := words_small (z := (n.natAbs : Int)) (by omega) (by omega)
  obtain ⟨s3, s4⟩ := words_small (z := (d.natAbs : Int)) (by omega) (by omega)
  have CG := fun w => Lib.hid (rgcd_any (n.natAbs : Int) (d.natAbs : Int) w (by omega) (by omega) (by omega) (by omega))
  have eg : (Int.gcd (n.natAbs : Int) (d.natAbs : Int) : Int) = (Int.gcd n d : Int) := rfl
  have g1 : (Int.gcd n d : Int) ≤ d := Int.le_of_dvd (by omega) (Int.gcd_dvd_right n d)
  obtain ⟨s5, s6⟩ := words_small (z := (Int.gcd n d : Int)) (by omega) (by omega)
  rw [eg] at CG
  simp only [s1, s2, s3, s4, s5, s6] at CG
  have CA := fun w => Lib.hid (refSize_any n w n0 n1)
  have CB := fun w => Lib.hid (refSize_any d w d0 d1)
  obtain ⟨a, ha⟩ : ∃ a : Int, a = (n.natAbs : Int) := ⟨_, rfl⟩
  obtain ⟨b, hb⟩ : ∃ a : Int, a = (d.natAbs : Int) := ⟨_, rfl⟩
  obtain ⟨g, hg⟩ : ∃ g : Int, g = (Int.gcd n d : Int) := ⟨_, rfl⟩
  simp only [← ha] at CA CG
  simp only [← hb] at CB CG
  simp only [← hg] at CG
  rw [← hg]
  clear hv hg ha hb s1 s2 s3 s4 s5 s6 eg g1
  by_cases hg1 : g = 1
  · subst hg1
    go_enter Tryd.func138, Tryd.ntmps138
    go_wp2_with fail
    go_region_with (first | (go_at_call 90; (first | (with_reducible refine ((CA _).out).mono ?_) | (with_reducible refine ((CB _).out).mono ?_)); rintro e w' ⟨rfl, rfl⟩) | (go_at_call 151; (with_reducible refine ((CG _).out).mono ?_); rintro e w1 ⟨rfl, hb⟩))
    all_goals
      go_wp2_with fail
      go_ret
      first | exact ⟨rfl, below_on (w := w) (by repeat' (first | (with_reducible exact Below.refl _ _) | (with_reducible assumption) | (with_reducible refine Below.alloc ?_ ?_ _) | (with_reducible refine below_drew ?_ _) | (with_reducible refine Below.drew ?_) | (with_reducible refine Below.setCell ?_ ?_ _) | go_size)) hb⟩ | exact ⟨rfl, below_on (w := w) (Below.drew (by repeat' (first | (with_reducible exact Below.refl _ _) | (with_reducible assumption) | (with_reducible refine Below.alloc ?_ ?_ _) | (with_reducible refine below_drew ?_ _) | (with_reducible refine Below.drew ?_) | (with_reducible refine Below.setCell ?_ ?_ _) | go_size))) hb⟩
  · have hg2 : (g == 1) = false := by simpa using hg1
    rw [hg2]
    go_enter Tryd.func138, Tryd.ntmps138
    go_wp2_with fail
    go_region_with (first | (go_at_call 90; (first | (with_reducible refine ((CA _).out).mono ?_) | (with_reducible refine ((CB _).out).mono ?_)); rintro e w' ⟨rfl, rfl⟩) | (go_at_call 151; (with_reducible refine ((CG _).out).mono ?_); rintro e w1 ⟨rfl, hb⟩))
    all_goals
      go_wp2_with fail
      go_ret
      first | exact ⟨rfl, below_on (w := w) (by repeat' (first | (with_reducible exact Below.refl _ _) | (with_reducible assumption) | (with_reducible refine Below.alloc ?_ ?_ _) | (with_reducible refine below_drew ?_ _) | (with_reducible refine Below.drew ?_) | (with_reducible refine Below.setCell ?_ ?_ _) | go_size)) hb⟩ | exact ⟨rfl, below_on (w := w) (Below.drew (by repeat' (first | (with_reducible exact Below.refl _ _) | (with_reducible assumption) | (with_reducible refine Below.alloc ?_ ?_ _) | (with_reducible refine below_drew ?_ _) | (with_reducible refine Below.drew ?_) | (with_reducible refine Below.setCell ?_ ?_ _) | go_size))) hb⟩

end Go.Proofs.YtcghjjfpjiacfaaDoor
