/- Layer 4: what two eliminations of one matrix share; sums of products are exact. -/
import Derived.Test.YtdbmlkkpffoadaaLM
import Derived.Test.YtdbmlkkpffoadaaRLawMath
namespace Go.Proofs.Ytdbmlkkpffoadaa
set_option linter.unusedVariables false

theorem sumN_cut {l k : Nat} {f : Nat → Int} (h : l ≤ k) (z : ∀ i, l ≤ i → i < k → f i = 0) : sumN k f = sumN l f := by
  induction k with
  | zero =>
    have : l = 0 := by omega
    subst this; rfl
  | succ k ih =>
    by_cases e : l = k + 1
    · subst e; rfl
    · show sumN k f + f k = _
      rw [z k (by omega) (by omega), ih (by omega) (fun i h1 h2 => z i h1 (by omega))]
      omega
theorem sumN_upd {n : Nat} (z g : Nat → Int) (q : Nat) (v : Int) (hq : q < n) : sumN n (fun j => z j * (if j = q then v else g j)) = sumN n (fun j => z j * g j) + z q * (v - g q) := by
  have e : sumN n (fun j => z j * (if j = q then v else g j)) = sumN n (fun j => z j * g j + (if j = q then z q * (v - g q) else 0)) := sumN_congr fun j hj => by
    by_cases h : j = q
    · subst h; rw [if_pos rfl, if_pos rfl]; grind
    · rw [if_neg h, if_neg h]; omega
  rw [e, sumN_add, sumN_one (k := q) hq (fun j hj hn => if_neg hn), if_pos rfl]

theorem FinE.first {R n : Nat} {M : Nat → Nat → Int} {k k' : Nat} {p p' : Nat → Nat} {E E' : Nat → Nat → Int} {D D' : Int} (h : FinE R n M k p E D) (h' : FinE R n M k' p' E' D') (l : Nat) (hl : l < k) (he : ∀ i, i < l → i < k' ∧ p i = p' i) : l < k' ∧ p' l ≤ p l := by
  refine Classical.byContradiction fun q => ?_
  have hlk : l ≤ k' := by
    cases l with
    | zero => omega
    | succ l => have := (he l (by omega)).1; omega
  have gt : ∀ l', l ≤ l' → l' < k' → p l < p' l' := fun l' h1 h2 => by
    have h3 : p l < p' l := by
      rcases Nat.lt_or_ge (p l) (p' l) with g | g
      · exact g
      · exact absurd ⟨by omega, g⟩ q
    by_cases e : l' = l
    · rw [e]; exact h3
    · have := h'.up l l' (by omega) h2; omega
  have np : ∀ l', l' < k' → p' l' ≠ p l := fun l' hl' => by
    rcases Nat.lt_or_ge l' l with g | g
    · have := (he l' g).2; have := h.up l' l g hl; omega
    · have := gt l' g hl'; omega
  have jn := h.lt l hl
  have a := h.ind (fun x => if x < l then E' x (p l) else if x = l then -D' else 0) (fun i hi => by
    have r := h'.rel i hi (p l) jn
    rw [sumN_cut hlk (fun x h1 h2 => by rw [h'.left (p l) jn np x h2 (gt x h1 h2), Int.zero_mul])] at r
    rw [sumN_cut (l := l + 1) (k := k) (by omega) (fun x h1 h2 => by rw [if_neg (by omega), if_neg (by omega), Int.zero_mul])]
    show sumN l _ + (if l < l then E' l (p l) else if l = l then -D' else 0) * M i (p l) = 0
    rw [if_neg (by omega), if_pos rfl, Int.neg_mul, r]
    have e : sumN l (fun x => (if x < l then E' x (p l) else if x = l then -D' else 0) * M i (p x)) = sumN l (fun x => E' x (p l) * M i (p' x)) := sumN_congr fun x hx => by rw [if_pos hx, (he x hx).2]
    rw [e]
    omega) l hl
  simp at a
  exact h'.nz a
theorem FinE.uniq {R n : Nat} {M : Nat → Nat → Int} {k k' : Nat} {p p' : Nat → Nat} {E E' : Nat → Nat → Int} {D D' : Int} (h : FinE R n M k p E D) (h' : FinE R n M k' p' E' D') : k = k' ∧ ∀ l, l < k → p l = p' l := by
  have h1 : ∀ l, l < k → l < k' ∧ p l = p' l := by
    intro l
    induction l using Nat.strongRecOn with
    | ind l ih =>
      intro hl
      have a := h.first h' l hl (fun i hi => ih i hi (by omega))
      have b := h'.first h l a.1 (fun i hi => ⟨by omega, (ih i hi (by omega)).2.symm⟩)
      exact ⟨a.1, by omega⟩
  have h2 : ∀ l, l < k' → l < k := by
    intro l
    induction l using Nat.strongRecOn with
    | ind l ih =>
      intro hl
      exact (h'.first h l hl (fun i hi => ⟨ih i hi (by omega), (h1 i (ih i hi (by omega))).2.symm⟩)).1
  refine ⟨?_, fun l hl => (h1 l hl).2⟩
  rcases Nat.lt_trichotomy k k' with g | g | g
  · have := h2 k g; omega
  · exact g
  · have := (h1 k' g).1; omega

theorem FinE.front {R n : Nat} {M M' : Nat → Nat → Int} {k : Nat} {p : Nat → Nat} {E : Nat → Nat → Int} {D : Int} (h : FinE R (n + 1) M k p E D) (hp : ∀ l, l < k → p l ≠ n) (e : ∀ i j, j < n → M' i j = M i j) : FinE R n M' k p E D := by
  have lt : ∀ l, l < k → p l < n := fun l hl => by have := h.lt l hl; have := hp l hl; omega
  refine ⟨h.nz, h.kR, h.up, lt, fun i hi j hj => ?_, fun a ha => h.ind a (fun i hi => ?_), h.piv, fun j hj => h.left j (by omega), fun i j h1 h2 h3 => h.low i j h1 h2 (by omega), fun ek => ?_, h.dD, fun i j hi hj => h.dE i j hi (by omega)⟩
  · rw [e i j hj, h.rel i hi j (by omega)]
    exact sumN_congr fun l hl => by rw [e i (p l) (lt l hl)]
  · rw [← ha i hi]
    exact sumN_congr fun l hl => by rw [e i (p l) (lt l hl)]
  · rw [h.det ek]
    exact det_congr R fun l hl i _ => (e i (p l) (lt l (by omega))).symm

/-- The share of a number is a valid fraction, and exact. -/
theorem make_val (a D : Int) (hD : D ≠ 0) (a0 : -1152921504606846976 ≤ a) (a1 : a ≤ 1152921504606846976) (d0 : -1152921504606846976 ≤ D) (d1 : D ≤ 1152921504606846976) : ∃ x y, makeT a D = (x, y, 0) ∧ Vld x y ∧ x * D = a * y := by
  unfold makeT
  rw [if_neg hD]
  obtain ⟨P, hP⟩ : ∃ P, (if D < 0 then -a else a) = P := ⟨_, rfl⟩
  obtain ⟨Q, hQ⟩ : ∃ Q, (D.natAbs : Int) = Q := ⟨_, rfl⟩
  rw [hP, hQ]
  have q0 : 0 < Q := by omega
  have q1 : Q ≤ 1152921504606846976 := by omega
  have p0 : -1152921504606846976 ≤ P ∧ P ≤ 1152921504606846976 := by
    rw [← hP]; split <;> omega
  obtain ⟨g, g0, eg, e1, e2, co, d⟩ := gcd_parts P Q q0
  unfold redT
  rw [← eg]
  have b1 : ∀ z : Int, 0 ≤ z → z ≤ g * z := fun z hz => by
    have := Int.mul_le_mul_of_nonneg_right (show 1 ≤ g by omega) hz
    omega
  have c1 : P / g ≤ 1152921504606846976 := by
    rcases Int.lt_or_le 0 (P / g) with h | h
    · have := b1 (P / g) (by omega); omega
    · omega
  have c2 : -1152921504606846976 ≤ P / g := by
    rcases Int.lt_or_le (P / g) 0 with h | h
    · have := b1 (-(P / g)) (by omega)
      rw [Int.mul_neg] at this
      omega
    · omega
  have c3 : Q / g ≤ 1152921504606846976 := by have := b1 (Q / g) (by omega); omega
  refine ⟨P / g, Q / g, by unfold fitT; rw [if_pos ⟨c2, c1, c3⟩], ⟨by omega, c3, c2, c1, co⟩, ?_⟩
  have key : P / g * Q = P * (Q / g) := by
    have h1 : P / g * Q = P / g * (g * (Q / g)) := by rw [← e2]
    have h2 : P * (Q / g) = (g * (P / g)) * (Q / g) := by rw [← e1]
    rw [h1, h2]; grind
  rcases Int.lt_or_le D 0 with h | h
  · rw [if_pos h] at hP
    have hQ2 : Q = -D := by omega
    rw [hQ2] at key ⊢
    rw [← hP] at key ⊢
    rw [Int.mul_neg, Int.neg_mul] at key
    omega
  · rw [if_neg (by omega)] at hP
    have hQ2 : Q = D := by omega
    rw [hQ2] at key ⊢
    rw [← hP] at key ⊢
    exact key

/-- A sum on the way is exact. -/
theorem step_val {s t z x y q r n d D S e : Int} (vt : 0 < t) (vy : 0 < y) (vr : 0 < r) (h1 : s * D = S * t) (h2 : x * D = e * y) (h3 : q * (1 * y) = z * x * r) (h4 : n * (t * r) = (s * r + q * t) * d) : n * D = (S + z * e) * d := by
  have e1 : q * D = z * e * r := by
    have : (q * D - z * e * r) * y = 0 := by grind
    rcases Int.mul_eq_zero.1 this with g | g
    · omega
    · omega
  have : (n * D - (S + z * e) * d) * (t * r) = 0 := by grind
  rcases Int.mul_eq_zero.1 this with g | g
  · omega
  · have := Int.mul_pos vt vr; omega

end Go.Proofs.Ytdbmlkkpffoadaa
