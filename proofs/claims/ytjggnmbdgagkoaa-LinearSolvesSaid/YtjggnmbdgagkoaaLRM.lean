/- Layer 4: the reference's elimination, which exchanges rows with their signs; what eliminations of matrices with the same relations share; the rank of rows and that of columns. -/
import Derived.Test.YtjggnmbdgagkoaaLHm
namespace Go.Proofs.Ytjggnmbdgagkoaa
set_option linter.unusedVariables false
open Go.RowKit Go.Shelf

theorem elim_swp {R : Nat} {U : Nat → Nat → Int} {k : Nat} {p : Nat → Nat} {E : Nat → Nat → Int} {D : Int} (h : ElimI R U k p E D) (a : Nat) (hk : k < a) (ha : a < R) : ElimI R (swE k a U) k p (swE k a E) D := by
  have eU : ∀ i j, i < k → swE k a U i j = U i j := fun i j hi => by unfold swE; rw [if_neg (by omega), if_neg (by omega)]
  have eE : ∀ i j, i < k → swE k a E i j = E i j := fun i j hi => by unfold swE; rw [if_neg (by omega), if_neg (by omega)]
  refine ⟨?_, h.nz, fun i j hi => ?_, fun i j hi hR => ?_⟩
  · rw [h.d]
    exact det_congr k fun l _ c hc => (eU c (p l) hc).symm
  · rw [eE i j hi, h.top i j hi]
    refine det_congr k fun l _ c hc => ?_
    unfold updV
    split
    · exact (eU c j hc).symm
    · exact (eU c (p l) hc).symm
  · have key : ∀ b, k ≤ b → b < R → swE k a U i = U b → swE k a E i = E b → swE k a E i j = D * swE k a U i j - sumN k (fun l => swE k a E l j * swE k a U i (p l)) := fun b hb hbR e1 e2 => by
      rw [e1, e2, h.low b j hb hbR]
      congr 1
      exact sumN_congr fun l hl => by rw [eE l j hl]
    by_cases h1 : i = k
    · exact key a (by omega) ha (by funext j; exact if_pos h1) (by funext j; exact if_pos h1)
    · by_cases h2 : i = a
      · exact key k (Nat.le_refl _) (by omega) (by funext j; unfold swE; rw [if_neg h1, if_pos h2]) (by funext j; unfold swE; rw [if_neg h1, if_pos h2])
      · exact key i hi hR (by funext j; unfold swE; rw [if_neg h1, if_neg h2]) (by funext j; unfold swE; rw [if_neg h1, if_neg h2])

/-- Rows exchanged, with the sign that this gives determinants. -/
inductive Exs (R : Nat) (M : Nat → Nat → Int) : (Nat → Nat → Int) → Int → Prop
  | refl : Exs R M M 1
  | step (U : Nat → Nat → Int) (s : Int) (k a : Nat) : Exs R M U s → k < a → a < R → Exs R M (swE k a U) (-s)
theorem swE_pick (k a i : Nat) (U : Nat → Nat → Int) : (i = k ∧ swE k a U i = U a) ∨ (i = a ∧ swE k a U i = U k) ∨ swE k a U i = U i := by
  by_cases h1 : i = k
  · exact .inl ⟨h1, by funext j; exact if_pos h1⟩
  · by_cases h2 : i = a
    · exact .inr (.inl ⟨h2, by funext j; unfold swE; rw [if_neg h1, if_pos h2]⟩)
    · exact .inr (.inr (by funext j; unfold swE; rw [if_neg h1, if_neg h2]))
theorem Exs.all {R : Nat} {M U : Nat → Nat → Int} {s : Int} (h : Exs R M U s) (T : (Nat → Int) → Prop) (h0 : ∀ i, i < R → T (M i)) : ∀ i, i < R → T (U i) := by
  induction h with
  | refl => exact h0
  | step U s k a _ hk ha ih =>
    intro i hi
    rcases swE_pick k a i U with ⟨_, e⟩ | ⟨_, e⟩ | e <;> rw [e]
    · exact ih a ha
    · exact ih k (by omega)
    · exact ih i hi
theorem Exs.back {R : Nat} {M U : Nat → Nat → Int} {s : Int} (h : Exs R M U s) (T : (Nat → Int) → Prop) (h0 : ∀ i, i < R → T (U i)) : ∀ i, i < R → T (M i) := by
  induction h with
  | refl => exact h0
  | step U s k a _ hk ha ih =>
    refine ih fun i hi => ?_
    have ek : swE k a U k = U a := by funext j; exact if_pos rfl
    have ea : swE k a U a = U k := by funext j; unfold swE; rw [if_neg (by omega), if_pos rfl]
    rcases swE_pick k a i U with ⟨e0, e⟩ | ⟨e0, e⟩ | e
    · rw [e0, ← ea]; exact h0 a ha
    · rw [e0, ← ek]; exact h0 k (by omega)
    · rw [← e]; exact h0 i hi
theorem detC_sw (m : Nat) (U : Sys) (k a : Nat) (hk : k < m) (ha : a < m) (hne : k ≠ a) : detC m (swE k a U) = - detC m U := by
  have e : swE k a U = updV (updV U k (U a)) a (U k) := by
    funext i j
    unfold swE updV
    by_cases h2 : i = a
    · rw [if_neg (by omega), if_pos h2, if_pos h2]
    · by_cases h1 : i = k
      · rw [if_pos h1, if_neg h2, if_pos h1]
      · rw [if_neg h1, if_neg h2, if_neg h2, if_neg h1]
  rw [e, detC_swap m U k a _ _ hk ha hne, updV_own, updV_own]
theorem Exs.det {R : Nat} {M U : Nat → Nat → Int} {s : Int} (h : Exs R M U s) (p : Nat → Nat) : detN R (fun l i => U i (p l)) = s * detN R (fun l i => M i (p l)) := by
  induction h with
  | refl => omega
  | step U s k a _ hk ha ih =>
    have e := detC_sw R (fun i l => U i (p l)) k a (by omega) ha (by omega)
    have e2 : detC R (swE k a (fun i l => U i (p l))) = detN R (fun l i => swE k a U i (p l)) := rfl
    rw [e2] at e
    rw [e]
    show - detN R (fun l i => U i (p l)) = _
    rw [ih, Int.neg_mul]
theorem Exs.sgn {R : Nat} {M U : Nat → Nat → Int} {s : Int} (h : Exs R M U s) : s = 1 ∨ s = -1 := by
  induction h with
  | refl => exact .inl rfl
  | step U s k a _ hk ha ih => omega
theorem Exs.small {R n m : Nat} {M U : Nat → Nat → Int} {s : Int} (h : Exs R M U s) (h0 : ∀ i j, i < R → j < n → - cB m j ≤ M i j ∧ M i j ≤ cB m j) : ∀ i j, i < R → j < n → - cB m j ≤ U i j ∧ U i j ≤ cB m j := fun i j hi hj =>
  h.all (fun r => ∀ j, j < n → - cB m j ≤ r j ∧ r j ≤ cB m j) (fun i hi j hj => h0 i j hi hj) i hi j hj

/-- The state ahead of the column c. -/
structure RInv (R n m : Nat) (M U : Nat → Nat → Int) (s : Int) (k c : Nat) (p : Nat → Nat) (E : Nat → Nat → Int) (D : Int) : Prop where
  el : ElimI R U k p E D
  ex : Exs R M U s
  kR : k ≤ R
  up : ∀ l l', l < l' → l' < k → p l < p l'
  lt : ∀ l, l < k → p l < c
  fr : ∀ j, j < c → (∀ l, l < k → p l ≠ j) → ∀ i, i < R → (∀ l, l < k → p l < j → l < i) → E i j = 0
  sm : ∀ i j, i < R → j < n → - cB m j ≤ M i j ∧ M i j ≤ cB m j
  r6 : R ≤ 6 ∨ n ≤ 6
  cn : c ≤ n
theorem RInv.start {R n m : Nat} {M : Nat → Nat → Int} (sm : ∀ i j, i < R → j < n → - cB m j ≤ M i j ∧ M i j ≤ cB m j) (r6 : R ≤ 6 ∨ n ≤ 6) (p : Nat → Nat) : RInv R n m M M 1 0 0 p M 1 :=
  ⟨elim_start R M p, .refl, Nat.zero_le _, fun _ _ _ h => absurd h (Nat.not_lt_zero _), fun _ h => absurd h (Nat.not_lt_zero _), fun _ h => absurd h (Nat.not_lt_zero _), sm, r6, Nat.zero_le _⟩
theorem RInv.small {R n m k c : Nat} {M U E : Nat → Nat → Int} {p : Nat → Nat} {D s : Int} (h : RInv R n m M U s k c p E D) :
    (-1152921504606846976 ≤ D ∧ D ≤ 1152921504606846976) ∧ ∀ i j, i < R → j < n → -1152921504606846976 ≤ E i j ∧ E i j ≤ 1152921504606846976 :=
  elim_small h.el (h.ex.small h.sm) h.up (fun l hl => by have := h.lt l hl; have := h.cn; omega) h.kR h.r6
theorem RInv.free {R n m k c : Nat} {M U E : Nat → Nat → Int} {p : Nat → Nat} {D s : Int} (h : RInv R n m M U s k c p E D) (hc : c < n) (z : ∀ i, k ≤ i → i < R → E i c = 0) : RInv R n m M U s k (c + 1) p E D where
  el := h.el
  ex := h.ex
  kR := h.kR
  up := h.up
  lt l hl := by have := h.lt l hl; omega
  fr j hj hne i hi hl := by
    by_cases e : j = c
    · subst e
      refine z i ?_ hi
      cases k with
      | zero => omega
      | succ k => have := hl k (by omega) (h.lt k (by omega)); omega
    · exact h.fr j (by omega) hne i hi hl
  sm := h.sm
  r6 := h.r6
  cn := hc
theorem RInv.swap {R n m k c : Nat} {M U E : Nat → Nat → Int} {p : Nat → Nat} {D s : Int} (h : RInv R n m M U s k c p E D) (a : Nat) (hk : k < a) (ha : a < R) : RInv R n m M (swE k a U) (-s) k c p (swE k a E) D where
  el := elim_swp h.el a hk ha
  ex := .step U s k a h.ex hk ha
  kR := h.kR
  up := h.up
  lt := h.lt
  fr j hj hne i hi hl := by
    unfold swE
    split
    · exact h.fr j hj hne a ha fun l hl _ => by omega
    · split
      · exact h.fr j hj hne k (by omega) fun l hl _ => hl
      · exact h.fr j hj hne i hi hl
  sm := h.sm
  r6 := h.r6
  cn := h.cn
theorem RInv.pivot {R n m k c : Nat} {M U E : Nat → Nat → Int} {p : Nat → Nat} {D s : Int} (h : RInv R n m M U s k c p E D) (hn : c < n) (hk : k < R) (hc : E k c ≠ 0) :
    ∃ E', RInv R n m M U s (k + 1) (c + 1) (updP p k c) E' (E k c) ∧ (∀ j, E' k j = E k j) ∧ ∀ i j, i < R → i ≠ k → E' i j * D = E k c * E i j - E i c * E k j := by
  obtain ⟨E', h1, h2, h3⟩ := elim_step h.el hk c hc
  have pk : updP p k c k = c := if_pos rfl
  have pl : ∀ l, l < k → updP p k c l = p l := fun l hl => if_neg (by omega)
  refine ⟨E', ⟨h1, h.ex, hk, fun l l' g hl' => ?_, fun l hl => ?_, fun j hj hne i hi hl => ?_, h.sm, h.r6, hn⟩, h2, h3⟩
  · by_cases e : l' = k
    · subst e; rw [pk, pl l g]; exact h.lt l g
    · rw [pl l (by omega), pl l' (by omega)]; exact h.up l l' g (by omega)
  · by_cases e : l = k
    · subst e; rw [pk]; omega
    · rw [pl l (by omega)]; have := h.lt l (by omega); omega
  · have hjc : j ≠ c := fun e => hne k (by omega) (by rw [pk, e])
    have hne' : ∀ l, l < k → p l ≠ j := fun l hl e => hne l (by omega) (by rw [pl l hl]; exact e)
    have ek : E k j = 0 := h.fr j (by omega) hne' k hk fun l hl _ => hl
    by_cases e : i = k
    · subst e; rw [h2]; exact ek
    · have ei : E i j = 0 := h.fr j (by omega) hne' i hi fun l hl' g => hl l (by omega) (by rw [pl l hl']; exact g)
      have := h3 i j hi e
      rw [ek, ei] at this
      rcases Int.mul_eq_zero.1 (show E' i j * D = 0 by rw [this]; simp) with g | g
      · exact g
      · exact absurd g h.el.nz

/-- All columns are done when all rows have pivots. -/
theorem RInv.skip {R n m c : Nat} {M U E : Nat → Nat → Int} {p : Nat → Nat} {D s : Int} (h : RInv R n m M U s R c p E D) (c2 : Nat) (h1 : c ≤ c2) (h2 : c2 ≤ n) : RInv R n m M U s R c2 p E D where
  el := h.el
  ex := h.ex
  kR := h.kR
  up := h.up
  lt l hl := by have := h.lt l hl; omega
  fr j hj hne i hi hl := by
    by_cases g : j < c
    · exact h.fr j g hne i hi hl
    · have := hl i hi (by have := h.lt i hi; omega); omega
  sm := h.sm
  r6 := h.r6
  cn := h2

/-- What an elimination says of the relations of the columns. -/
structure FinW (R n : Nat) (M : Nat → Nat → Int) (k : Nat) (p : Nat → Nat) (E : Nat → Nat → Int) (D : Int) : Prop where
  nz : D ≠ 0
  kR : k ≤ R
  up : ∀ l l', l < l' → l' < k → p l < p l'
  lt : ∀ l, l < k → p l < n
  rel : ∀ i, i < R → ∀ j, j < n → D * M i j = sumN k (fun l => E l j * M i (p l))
  ind : ∀ a : Nat → Int, (∀ i, i < R → sumN k (fun l => a l * M i (p l)) = 0) → ∀ l, l < k → a l = 0
  piv : ∀ i l, i < k → l < k → E i (p l) = if i = l then D else 0
  left : ∀ j, j < n → (∀ l, l < k → p l ≠ j) → ∀ l, l < k → j < p l → E l j = 0
theorem FinE.w {R n : Nat} {M : Nat → Nat → Int} {k : Nat} {p : Nat → Nat} {E : Nat → Nat → Int} {D : Int} (h : FinE R n M k p E D) : FinW R n M k p E D := ⟨h.nz, h.kR, h.up, h.lt, h.rel, h.ind, h.piv, h.left⟩

theorem RInv.fin {R n m k : Nat} {M U E : Nat → Nat → Int} {p : Nat → Nat} {D s : Int} (h : RInv R n m M U s k n p E D) :
    FinW R n M k p E D ∧ (k = R → D = s * detN R (fun l i => M i (p l))) ∧ ∀ i j, k ≤ i → i < R → j < n → E i j = 0 := by
  have low : ∀ i j, k ≤ i → i < R → j < n → E i j = 0 := fun i j hk hi hj => by
    by_cases q : ∀ l, l < k → p l ≠ j
    · exact h.fr j hj q i hi (fun l hl _ => by omega)
    · have ⟨l, hl, e⟩ : ∃ l, l < k ∧ p l = j := Classical.byContradiction fun g => q fun l hl e => g ⟨l, hl, e⟩
      rw [← e, elim_piv h.el i l hl hi, if_neg (by omega)]
  have relU : ∀ i, i < R → ∀ j, j < n → D * U i j = sumN k (fun l => E l j * U i (p l)) := fun i hi j hj => by
    rcases Nat.lt_or_ge i k with g | g
    · rw [h.el.d, cramer k (fun l i => U i (p l)) (fun c => U c j) i g]
      exact sumN_congr fun l hl => by rw [h.el.top l j hl]
    · have e := h.el.low i j g hi
      rw [low i j g hi hj] at e
      omega
  refine ⟨⟨h.el.nz, h.kR, h.up, h.lt, fun i hi j hj => ?_, fun a ha => ?_, fun i l hi hl => elim_piv h.el i l hl (by have := h.kR; omega), fun j hj q l hl hlt => ?_⟩, fun e => ?_, low⟩
  · exact h.ex.back (fun r => D * r j = sumN k (fun l => E l j * r (p l))) (fun i hi => relU i hi j hj) i hi
  · have hU := h.ex.all (fun r => sumN k (fun l => a l * r (p l)) = 0) ha
    exact nondeg k (fun l i => U i (p l)) (by rw [← h.el.d]; exact h.el.nz) a (fun i hi => hU i (by have := h.kR; omega))
  · refine h.fr j hj q l (by have := h.kR; omega) (fun l' hl' hlt' => ?_)
    rcases Nat.lt_or_ge l' l with g | g
    · exact g
    · rcases Nat.lt_or_ge l l' with g2 | g2
      · have := h.up l l' g2 hl'; omega
      · have e : l' = l := by omega
        subst e; omega
  · subst e
    rw [h.el.d]
    exact h.ex.det p

/-- Relations of the columns of M are relations of those of M'. -/
def Trn (n R R' : Nat) (M M' : Nat → Nat → Int) : Prop := ∀ (m : Nat) (a : Nat → Int) (q : Nat → Nat), (∀ x, x < m → q x < n) → (∀ i, i < R → sumN m (fun x => a x * M i (q x)) = 0) → ∀ i, i < R' → sumN m (fun x => a x * M' i (q x)) = 0
theorem Trn.refl (n R : Nat) (M : Nat → Nat → Int) : Trn n R R M M := fun _ _ _ _ h => h
theorem FinW.relT {R R' n : Nat} {M M' : Nat → Nat → Int} {k : Nat} {p : Nat → Nat} {E : Nat → Nat → Int} {D : Int} (h : FinW R n M k p E D) (t : Trn n R R' M M') : ∀ i, i < R' → ∀ j, j < n → D * M' i j = sumN k (fun l => E l j * M' i (p l)) := by
  intro i hi j hj
  have cut : ∀ X : Nat → Nat → Int, sumN (k + 1) (fun x => (if x < k then E x j else -D) * X i (if x < k then p x else j)) = sumN k (fun l => E l j * X i (p l)) - D * X i j := fun X => by
    show sumN k _ + (if k < k then E k j else -D) * X i (if k < k then p k else j) = _
    rw [if_neg (by omega), if_neg (by omega), sumN_congr (g := fun l => E l j * X i (p l)) (fun x hx => by rw [if_pos hx, if_pos hx]), Int.neg_mul]
    omega
  have := t (k + 1) (fun x => if x < k then E x j else -D) (fun x => if x < k then p x else j) (fun x hx => by
    show (if x < k then p x else j) < n
    split
    · rename_i g; exact h.lt x g
    · exact hj) (fun i hi => by
    have r := h.rel i hi j hj
    show sumN (k + 1) (fun x => (if x < k then E x j else -D) * M i (if x < k then p x else j)) = 0
    have c : sumN (k + 1) (fun x => (if x < k then E x j else -D) * M i (if x < k then p x else j)) = sumN k (fun l => E l j * M i (p l)) - D * M i j := by
      show sumN k _ + (if k < k then E k j else -D) * M i (if k < k then p k else j) = _
      rw [if_neg (by omega), if_neg (by omega), sumN_congr (g := fun l => E l j * M i (p l)) (fun x hx => by rw [if_pos hx, if_pos hx]), Int.neg_mul]
      omega
    rw [c, r]; omega) i hi
  have c := cut M'
  have e : sumN (k + 1) (fun x => (if x < k then E x j else -D) * M' i (if x < k then p x else j)) = 0 := this
  rw [e] at c
  omega

theorem FinW.first {R R' n : Nat} {M M' : Nat → Nat → Int} {k k' : Nat} {p p' : Nat → Nat} {E E' : Nat → Nat → Int} {D D' : Int} (h : FinW R n M k p E D) (h' : FinW R' n M' k' p' E' D') (t : Trn n R' R M' M) (l : Nat) (hl : l < k) (he : ∀ i, i < l → i < k' ∧ p i = p' i) : l < k' ∧ p' l ≤ p l := by
  refine Classical.byContradiction fun q => ?_
  have hlk : l ≤ k' := by
    cases l with
    | zero => omega
    | succ l => have := (he l (by omega)).1; omega
  have gt : ∀ l', l ≤ l' → l' < k' → p l < p' l' := fun l' h1 h2 => by
    have h3 : p l < p' l := by
      rcases Nat.lt_or_ge (p l) (p' l) with g | g
      · exact g
      · exact absurd ⟨by omega, g⟩ q
    by_cases e : l' = l
    · rw [e]; exact h3
    · have := h'.up l l' (by omega) h2; omega
  have np : ∀ l', l' < k' → p' l' ≠ p l := fun l' hl' => by
    rcases Nat.lt_or_ge l' l with g | g
    · have := (he l' g).2; have := h.up l' l g hl; omega
    · have := gt l' g hl'; omega
  have jn := h.lt l hl
  have a := h.ind (fun x => if x < l then E' x (p l) else if x = l then -D' else 0) (fun i hi => by
    have r := h'.relT t i hi (p l) jn
    rw [sumN_cut hlk (fun x h1 h2 => by rw [h'.left (p l) jn np x h2 (gt x h1 h2), Int.zero_mul])] at r
    rw [sumN_cut (l := l + 1) (k := k) (by omega) (fun x h1 h2 => by rw [if_neg (by omega), if_neg (by omega), Int.zero_mul])]
    show sumN l _ + (if l < l then E' l (p l) else if l = l then -D' else 0) * M i (p l) = 0
    rw [if_neg (by omega), if_pos rfl, Int.neg_mul, r]
    have e : sumN l (fun x => (if x < l then E' x (p l) else if x = l then -D' else 0) * M i (p x)) = sumN l (fun x => E' x (p l) * M i (p' x)) := sumN_congr fun x hx => by rw [if_pos hx, (he x hx).2]
    rw [e]
    omega) l hl
  simp at a
  exact h'.nz a
theorem FinW.uniq {R R' n : Nat} {M M' : Nat → Nat → Int} {k k' : Nat} {p p' : Nat → Nat} {E E' : Nat → Nat → Int} {D D' : Int} (h : FinW R n M k p E D) (h' : FinW R' n M' k' p' E' D') (t : Trn n R R' M M') (t' : Trn n R' R M' M) : k = k' ∧ ∀ l, l < k → p l = p' l := by
  have h1 : ∀ l, l < k → l < k' ∧ p l = p' l := by
    intro l
    induction l using Nat.strongRecOn with
    | ind l ih =>
      intro hl
      have a := h.first h' t' l hl (fun i hi => ih i hi (by omega))
      have b := h'.first h t l a.1 (fun i hi => ⟨by omega, (ih i hi (by omega)).2.symm⟩)
      exact ⟨a.1, by omega⟩
  have h2 : ∀ l, l < k' → l < k := by
    intro l
    induction l using Nat.strongRecOn with
    | ind l ih =>
      intro hl
      exact (h'.first h t l hl (fun i hi => ⟨ih i hi (by omega), (h1 i (ih i hi (by omega))).2.symm⟩)).1
  refine ⟨?_, fun l hl => (h1 l hl).2⟩
  rcases Nat.lt_trichotomy k k' with g | g | g
  · have := h2 k g; omega
  · exact g
  · have := (h1 k' g).1; omega
/-- The shares are the same. -/
theorem FinW.shr {R R' n : Nat} {M M' : Nat → Nat → Int} {k : Nat} {p p' : Nat → Nat} {E E' : Nat → Nat → Int} {D D' : Int} (h : FinW R n M k p E D) (h' : FinW R' n M' k p' E' D') (t' : Trn n R' R M' M) (hp : ∀ l, l < k → p l = p' l) : ∀ l j, l < k → j < n → D' * E l j = D * E' l j := by
  intro l j hl hj
  have z := h.ind (fun l => D' * E l j + (-D) * E' l j) (fun i hi => by
    have r := h.rel i hi j hj
    have r' := h'.relT t' i hi j hj
    have e : sumN k (fun l => (D' * E l j + (-D) * E' l j) * M i (p l)) = D' * sumN k (fun l => E l j * M i (p l)) + (-D) * sumN k (fun l => E' l j * M i (p' l)) := by
      rw [← sumN_mul, ← sumN_mul, ← sumN_add]
      refine sumN_congr fun x hx => ?_
      rw [← hp x hx]; grind
    show sumN k (fun l => (D' * E l j + (-D) * E' l j) * M i (p l)) = 0
    rw [e, ← r, ← r']; grind) l hl
  have z : D' * E l j + (-D) * E' l j = 0 := z
  grind
theorem shF_same {a D a' D' : Int} (hD : D ≠ 0) (hD' : D' ≠ 0) (a0 : -1152921504606846976 ≤ a ∧ a ≤ 1152921504606846976) (d0 : -1152921504606846976 ≤ D ∧ D ≤ 1152921504606846976) (a0' : -1152921504606846976 ≤ a' ∧ a' ≤ 1152921504606846976) (d0' : -1152921504606846976 ≤ D' ∧ D' ≤ 1152921504606846976) (h : D' * a = D * a') : shF a D = shF a' D' := by
  obtain ⟨v, e⟩ := shF_val a D hD a0 d0
  obtain ⟨v', e'⟩ := shF_val a' D' hD' a0' d0'
  generalize shF a D = x at *
  generalize shF a' D' = y at *
  have k : x.1 * y.2 = y.1 * x.2 := by
    have : (x.1 * y.2 - y.1 * x.2) * (D * D') = 0 := by grind
    rcases Int.mul_eq_zero.1 this with g | g
    · omega
    · rcases Int.mul_eq_zero.1 g with g | g
      · exact absurd g hD
      · exact absurd g hD'
  obtain ⟨e1, e2⟩ := uniq (by have := v.d1; omega) (by have := v'.d1; omega) v.co v'.co k
  exact Prod.ext e1 e2

theorem sumN_skip : ∀ (k : Nat) (f : Nat → Int) (l0 : Nat), l0 ≤ k → sumN (k + 1) f = sumN k (fun l => f (if l < l0 then l else l + 1)) + f l0 := by
  intro k
  induction k with
  | zero => intro f l0 h; have : l0 = 0 := by omega
            subst this; rfl
  | succ k ih =>
    intro f l0 h
    by_cases e : l0 = k + 1
    · subst e
      show sumN (k + 1) f + f (k + 1) = _
      rw [sumN_congr (n := k + 1) (f := f) (g := fun l => f (if l < k + 1 then l else l + 1)) (fun l hl => by rw [if_pos hl])]
    · show sumN (k + 1) f + f (k + 1) = sumN k (fun l => f (if l < l0 then l else l + 1)) + f (if k < l0 then k else k + 1) + f l0
      rw [ih f l0 (by omega), if_neg (by omega)]
      omega
theorem sumN_comm (s t : Nat) (f : Nat → Nat → Int) : sumN s (fun l => sumN t (fun x => f l x)) = sumN t (fun x => sumN s (fun l => f l x)) := by
  induction s with
  | zero => exact (sumN_zero fun x _ => rfl).symm
  | succ s ih =>
    show sumN s (fun l => sumN t (fun x => f l x)) + sumN t (fun x => f s x) = sumN t (fun x => sumN s (fun l => f l x) + f s x)
    rw [ih, sumN_add]
/-- Fewer equations than unknowns have a solution that is not zero. -/
theorem ker : ∀ (m k : Nat) (A : Nat → Nat → Int), m < k → ∃ a : Nat → Int, (∃ l, l < k ∧ a l ≠ 0) ∧ ∀ r, r < m → sumN k (fun l => a l * A r l) = 0 := by
  intro m
  induction m with
  | zero => intro k A h; exact ⟨fun _ => 1, ⟨0, h, by decide⟩, fun r hr => by omega⟩
  | succ m ih =>
    intro k A h
    by_cases hz : ∀ l, l < k → A m l = 0
    · obtain ⟨a, ha, hs⟩ := ih k A (by omega)
      refine ⟨a, ha, fun r hr => ?_⟩
      by_cases e : r = m
      · subst e
        exact sumN_zero fun l hl => by rw [hz l hl, Int.mul_zero]
      · exact hs r (by omega)
    · have ⟨l0, hl0, hn⟩ : ∃ l, l < k ∧ A m l ≠ 0 := Classical.byContradiction fun g => hz fun l hl => Classical.byContradiction fun e => g ⟨l, hl, e⟩
      obtain ⟨K, rfl⟩ : ∃ K, k = K + 1 := ⟨k - 1, by omega⟩
      obtain ⟨b, ⟨l1, hl1, hb1⟩, hs⟩ := ih K (fun r l => A m l0 * A r (if l < l0 then l else l + 1) - A m (if l < l0 then l else l + 1) * A r l0) (by omega)
      obtain ⟨S, hS⟩ : ∃ S, sumN K (fun l => b l * A m (if l < l0 then l else l + 1)) = S := ⟨_, rfl⟩
      have av : ∀ l, (fun j => if j = l0 then -S else A m l0 * b (if j < l0 then j else j - 1)) (if l < l0 then l else l + 1) = A m l0 * b l := fun l => by
        by_cases g : l < l0
        · simp only [if_pos g]
          rw [if_neg (by omega)]
        · simp only [if_neg g]
          rw [if_neg (by omega), if_neg (by omega), show l + 1 - 1 = l by omega]
      refine ⟨fun j => if j = l0 then -S else A m l0 * b (if j < l0 then j else j - 1), ⟨if l1 < l0 then l1 else l1 + 1, by split <;> omega, ?_⟩, fun r hr => ?_⟩
      · rw [av l1]
        exact Int.mul_ne_zero hn hb1
      · rw [sumN_skip K _ l0 (by omega)]
        have e1 : sumN K (fun l => (fun j => if j = l0 then -S else A m l0 * b (if j < l0 then j else j - 1)) (if l < l0 then l else l + 1) * A r (if l < l0 then l else l + 1)) = sumN K (fun l => b l * (A m l0 * A r (if l < l0 then l else l + 1) - A m (if l < l0 then l else l + 1) * A r l0)) + A r l0 * sumN K (fun l => b l * A m (if l < l0 then l else l + 1)) := by
          rw [← sumN_mul, ← sumN_add]
          refine sumN_congr fun l _ => ?_
          rw [av l]; grind
        rw [e1, hS]
        simp only [if_pos]
        by_cases e : r = m
        · subst e
          rw [sumN_zero (fun l _ => by grind)]
          grind
        · rw [hs r (by omega)]
          grind

theorem FinW.le_rows {R n : Nat} {G : Nat → Nat → Int} {s : Nat} {q : Nat → Nat} {E : Nat → Nat → Int} {D : Int} (h : FinW R n G s q E D) (t : Nat) (B : Nat → Nat → Int) (D0 : Int) (hD : D0 ≠ 0) (e : Nat → Nat → Int) (hc : ∀ r, r < R → ∀ j, j < n → D0 * G r j = sumN t (fun x => e r x * B x j)) : s ≤ t := by
  refine Classical.byContradiction fun g => ?_
  obtain ⟨a, ⟨l0, hl0, ha⟩, hs⟩ := ker t s (fun x l => B x (q l)) (by omega)
  refine ha (h.ind a (fun i hi => ?_) l0 hl0)
  have e1 : D0 * sumN s (fun l => a l * G i (q l)) = sumN t (fun x => e i x * sumN s (fun l => a l * B x (q l))) := by
    rw [← sumN_mul]
    have : ∀ l, l < s → D0 * (a l * G i (q l)) = sumN t (fun x => e i x * (a l * B x (q l))) := fun l hl => by
      have := hc i hi (q l) (h.lt l hl)
      have e2 : D0 * (a l * G i (q l)) = a l * (D0 * G i (q l)) := by grind
      rw [e2, this, ← sumN_mul]
      exact sumN_congr fun x _ => by grind
    rw [sumN_congr this, sumN_comm]
    exact sumN_congr fun x _ => sumN_mul _ _ _
  rw [sumN_zero (f := fun x => e i x * sumN s (fun l => a l * B x (q l))) (fun x hx => by rw [hs x hx, Int.mul_zero])] at e1
  rcases Int.mul_eq_zero.1 e1 with g | g
  · exact absurd g hD
  · exact g
theorem FinW.ge_rows {R n : Nat} {G : Nat → Nat → Int} {s : Nat} {q : Nat → Nat} {E : Nat → Nat → Int} {D : Int} (h : FinW R n G s q E D) (t : Nat) (σ : Nat → Nat) (hσ : ∀ x, x < t → σ x < R) (hi : ∀ b : Nat → Int, (∀ j, j < n → sumN t (fun x => b x * G (σ x) j) = 0) → ∀ x, x < t → b x = 0) : t ≤ s := by
  refine Classical.byContradiction fun g => ?_
  obtain ⟨b, ⟨x0, hx0, hb⟩, hs⟩ := ker s t (fun l x => G (σ x) (q l)) (by omega)
  refine hb (hi b (fun j hj => ?_) x0 hx0)
  have e1 : D * sumN t (fun x => b x * G (σ x) j) = sumN s (fun l => E l j * sumN t (fun x => b x * G (σ x) (q l))) := by
    rw [← sumN_mul]
    have : ∀ x, x < t → D * (b x * G (σ x) j) = sumN s (fun l => E l j * (b x * G (σ x) (q l))) := fun x hx => by
      have := h.rel (σ x) (hσ x hx) j hj
      have e2 : D * (b x * G (σ x) j) = b x * (D * G (σ x) j) := by grind
      rw [e2, this, ← sumN_mul]
      exact sumN_congr fun l _ => by grind
    rw [sumN_congr this, sumN_comm]
    exact sumN_congr fun l _ => sumN_mul _ _ _
  rw [sumN_zero (f := fun l => E l j * sumN t (fun x => b x * G (σ x) (q l))) (fun l hl => by rw [hs l hl, Int.mul_zero])] at e1
  rcases Int.mul_eq_zero.1 e1 with g | g
  · exact absurd g h.nz
  · exact g
theorem rank_turned {R n : Nat} {M M2 : Nat → Nat → Int} {k k2 : Nat} {p p2 : Nat → Nat} {E E2 : Nat → Nat → Int} {D D2 : Int} (h : FinW R n M k p E D) (h2 : FinW n R M2 k2 p2 E2 D2) (e : ∀ i j, i < R → j < n → M2 j i = M i j) : k = k2 := by
  have a : k ≤ k2 := h.le_rows k2 (fun x j => M (p2 x) j) D2 h2.nz (fun r x => E2 x r) (fun r hr j hj => by
    have := h2.rel j hj r hr
    rw [e r j hr hj] at this
    rw [this]
    exact sumN_congr fun x hx => by rw [e (p2 x) j (h2.lt x hx) hj])
  have b : k2 ≤ k := h.ge_rows k2 p2 h2.lt (fun b hb => h2.ind b (fun i hi => by
    rw [← hb i hi]
    exact sumN_congr fun x hx => by rw [e (p2 x) i (h2.lt x hx) hi]))
  omega
theorem cut_at {k n : Nat} {p : Nat → Nat} (up : ∀ l l', l < l' → l' < k → p l < p l') (c : Nat) : ∃ t, t ≤ k ∧ (∀ l, l < t → p l < c) ∧ ∀ l, t ≤ l → l < k → c ≤ p l := by
  have : ∀ s, s ≤ k → ∃ t, t ≤ s ∧ (∀ l, l < t → p l < c) ∧ ∀ l, t ≤ l → l < s → c ≤ p l := by
    intro s
    induction s with
    | zero => exact fun _ => ⟨0, by omega, fun l h => by omega, fun l _ h => by omega⟩
    | succ s ih =>
      intro hs
      obtain ⟨t, ht, h1, h2⟩ := ih (by omega)
      by_cases g : p s < c
      · refine ⟨s + 1, by omega, fun l hl => ?_, fun l h3 h4 => by omega⟩
        by_cases e : l = s
        · rw [e]; exact g
        · have := up l s (by omega) (by omega); omega
      · refine ⟨t, by omega, h1, fun l h3 h4 => ?_⟩
        by_cases e : l = s
        · rw [e]; omega
        · exact h2 l h3 (by omega)
  exact this k (Nat.le_refl _)
theorem FinW.pre {R n : Nat} {M : Nat → Nat → Int} {k : Nat} {p : Nat → Nat} {E : Nat → Nat → Int} {D : Int} (h : FinW R n M k p E D) (c : Nat) (hc : c ≤ n) (t : Nat) (ht : t ≤ k) (h1 : ∀ l, l < t → p l < c) (h2 : ∀ l, t ≤ l → l < k → c ≤ p l) : FinW R c M t p E D := by
  refine ⟨h.nz, by have := h.kR; omega, fun l l' a b => h.up l l' a (by omega), h1, fun i hi j hj => ?_, fun a ha l hl => ?_, fun i l hi hl => h.piv i l (by omega) (by omega), fun j hj q l hl g => ?_⟩
  · rw [h.rel i hi j (by omega)]
    refine sumN_cut ht fun l hl hk => ?_
    have : E l j = 0 := by
      by_cases q : ∀ l', l' < k → p l' ≠ j
      · exact h.left j (by omega) q l hk (by have := h2 l hl hk; omega)
      · have ⟨l', hl', e⟩ : ∃ l', l' < k ∧ p l' = j := Classical.byContradiction fun g => q fun l hl e => g ⟨l, hl, e⟩
        rw [← e, h.piv l l' hk hl', if_neg (fun g => by subst g; have := h2 l hl hk; omega)]
    rw [this, Int.zero_mul]
  · have := h.ind (fun l => if l < t then a l else 0) (fun i hi => by
      rw [sumN_cut ht (fun l hl hk => by rw [if_neg (by omega), Int.zero_mul]), ← ha i hi]
      exact sumN_congr fun l hl => by rw [if_pos hl]) l (by omega)
    simpa [hl] using this
  · refine h.left j (by omega) (fun l' hl' e => ?_) l (by omega) g
    rcases Nat.lt_or_ge l' t with g' | g'
    · exact q l' g' e
    · have := h2 l' g' hl'; omega
/-- A column that is a combination of those before it is free. -/
theorem FinW.not_piv {R n : Nat} {M : Nat → Nat → Int} {k : Nat} {p : Nat → Nat} {E : Nat → Nat → Int} {D : Int} (h : FinW R n M k p E D) (c : Nat) (hc : c < n) (D0 : Int) (hD : D0 ≠ 0) (y : Nat → Int) (hy : ∀ i, i < R → D0 * M i c = sumN c (fun j => y j * M i j)) : ∀ l, l < k → p l ≠ c := by
  intro l0 hl0 e0
  obtain ⟨t, ht, h1, h2⟩ := cut_at (n := n) h.up c
  have hp := h.pre c (by omega) t ht h1 h2
  have e : ∀ i, i < R → D * (D0 * M i c) = sumN t (fun l => sumN c (fun j => y j * E l j) * M i (p l)) := fun i hi => by
    rw [hy i hi, ← sumN_mul, sumN_congr (g := fun j => sumN t (fun l => y j * E l j * M i (p l))) (fun j hj => by
      have e2 : D * (y j * M i j) = y j * (D * M i j) := by grind
      rw [e2, hp.rel i hi j hj, ← sumN_mul]
      exact sumN_congr fun l _ => by grind), sumN_comm]
    refine sumN_congr fun l _ => ?_
    have : sumN c (fun j => y j * E l j) * M i (p l) = M i (p l) * sumN c (fun j => y j * E l j) := Int.mul_comm _ _
    rw [this, ← sumN_mul]
    exact sumN_congr fun j _ => by grind
  have l0t : t ≤ l0 := by
    rcases Nat.lt_or_ge l0 t with g | g
    · have := h1 l0 g; omega
    · exact g
  have a := h.ind (fun l => if l < t then sumN c (fun j => y j * E l j) else if l = l0 then -(D * D0) else 0) (fun i hi => by
    have s : sumN k (fun l => (if l < t then sumN c (fun j => y j * E l j) else if l = l0 then -(D * D0) else 0) * M i (p l)) = sumN k (fun l => (if l < t then sumN c (fun j => y j * E l j) * M i (p l) else 0) + (if l = l0 then -(D * D0) * M i (p l) else 0)) := sumN_congr fun l hl => by
      by_cases g : l < t
      · simp only [if_pos g]; rw [if_neg (by omega)]; omega
      · simp only [if_neg g]
        split <;> omega
    show sumN k (fun l => (if l < t then sumN c (fun j => y j * E l j) else if l = l0 then -(D * D0) else 0) * M i (p l)) = 0
    rw [s, sumN_add, sumN_cut ht (fun l hl _ => if_neg (by omega)), sumN_one (k := l0) hl0 (fun l _ hn => if_neg hn), if_pos rfl, sumN_congr (g := fun l => sumN c (fun j => y j * E l j) * M i (p l)) (fun l hl => if_pos hl), ← e i hi, e0]
    grind) l0 hl0
  have a : (if l0 < t then sumN c (fun j => y j * E l0 j) else if l0 = l0 then -(D * D0) else 0) = 0 := a
  rw [if_neg (by omega), if_pos rfl] at a
  exact Int.mul_ne_zero h.nz hD (by omega)
/-- A row is laid to those that do not depend on the ones before them. -/
theorem grown_rank {R n : Nat} {M M2 G : Nat → Nat → Int} {k s : Nat} {p q : Nat → Nat} {E F : Nat → Nat → Int} {D D' : Int} (h : FinW n R M2 k p E D) (e : ∀ i j, i < R → j < n → M2 j i = M i j) (i : Nat) (hi : i < R) (t : Nat) (ht : t ≤ k) (h1 : ∀ l, l < t → p l < i) (h2 : ∀ l, t ≤ l → l < k → i ≤ p l) (hG : ∀ x j, x < t → j < n → G x j = M (p x) j) (hGt : ∀ j, j < n → G t j = M i j) (hs : FinW (t + 1) n G s q F D') :
    ((t < k ∧ p t = i) → s = t + 1) ∧ (¬ (t < k ∧ p t = i) → s ≤ t) := by
  refine ⟨fun ⟨hk, hp⟩ => ?_, fun hn => ?_⟩
  · have a : t + 1 ≤ s := hs.ge_rows (t + 1) (fun x => x) (fun x hx => hx) (fun b hb x hx => by
      have := h.ind (fun l => if l < t + 1 then b l else 0) (fun j hj => by
        rw [sumN_cut (l := t + 1) (k := k) (by omega) (fun l hl _ => by rw [if_neg (by omega), Int.zero_mul]), ← hb j hj]
        refine sumN_congr fun l hl => ?_
        rw [if_pos hl]
        by_cases g : l = t
        · subst g
          rw [hp, hGt j hj, e i j hi hj]
        · rw [hG l j (by omega) hj, e (p l) j (h.lt l (by omega)) hj]) x (by omega)
      simpa [hx] using this)
    have := hs.kR
    omega
  · have np : ∀ l, l < k → p l ≠ i := fun l hl e => by
      rcases Nat.lt_or_ge l t with g | g
      · have := h1 l g; omega
      · have a := h2 t (Nat.le_refl _) (by omega)
        refine hn ⟨by omega, ?_⟩
        by_cases g' : l = t
        · rw [← g']; exact e
        · have := h.up t l (by omega) hl; omega
    refine hs.le_rows t (fun x j => M (p x) j) D h.nz (fun r x => if r < t then (if x = r then D else 0) else E x i) (fun r hr j hj => ?_)
    by_cases g : r < t
    · simp only [if_pos g]
      rw [sumN_one (k := r) g (fun x hx hne => by rw [if_neg hne, Int.zero_mul]), if_pos rfl, hG r j g hj]
    · simp only [if_neg g]
      have er : r = t := by omega
      subst er
      have := h.rel j hj i hi
      rw [e i j hi hj, sumN_cut ht (fun l hl hk => by rw [h.left i hi np l hk (by have := h2 l hl hk; have := np l hk; omega), Int.zero_mul])] at this
      rw [hGt j hj, this]
      exact sumN_congr fun x hx => by rw [e (p x) j (h.lt x (by omega)) hj]
theorem movC_step (k : Nat) (V : Sys) (x : Vec) (r t : Nat) (h : r ≤ t) (ht : t + 1 < k) : detC k (movY V x r (t + 1)) = - detC k (movY V x r t) := by
  have e1 : movY V x r (t + 1) = updV (updV (movY V x r t) t (V (t + 1))) (t + 1) x := by
    funext l
    unfold updV movY
    (repeat' split) <;> first | rfl | (exfalso; omega) | (congr 1; omega)
  have e2 : movY V x r t = updV (updV (movY V x r t) t x) (t + 1) (V (t + 1)) := by
    funext l
    unfold updV movY
    (repeat' split) <;> first | rfl | (exfalso; omega) | (congr 1 <;> omega)
  rw [e1, detC_swap1 k _ t _ _ ht, ← e2]
theorem movC_all (k : Nat) (V : Sys) (x : Vec) (r : Nat) : ∀ d, r + d < k → detC k (movY V x r (r + d)) = sgP d * detC k (updV V r x)
  | 0, h => by
    rw [show sgP 0 = 1 from rfl, Int.one_mul]
    congr 1
    funext l
    unfold movY updV
    by_cases h1 : l < r
    · rw [if_pos h1, if_neg (by omega)]
    · rw [if_neg h1, if_neg (by omega)]
      rfl
  | d + 1, h => by
    rw [← Nat.add_assoc, movC_step k V x r (r + d) (by omega) (by omega), movC_all k V x r d (by omega), sgP_succ, Int.neg_mul]
/-- The determinant along its last vector. -/
theorem det_last (m : Nat) (U : Sys) : detN (m + 1) U = sumN (m + 1) (fun j => sgP (m + j) * (U m j * detN m (fun l i => if i < j then U l i else U l (i + 1)))) := by
  have e0 : detN (m + 1) U = detN (m + 1) (updV U m (fun c => sumN (m + 1) fun j => U m j * unitV j c)) := det_congr (m + 1) fun l hl c hc => by
    unfold updV
    split
    · rename_i g
      subst g
      show U l c = sumN (l + 1) fun j => U l j * unitV j c
      rw [sumN_one (k := c) hc (fun i _ hn => by rw [show unitV i c = 0 from if_neg (fun e => hn e.symm), Int.mul_zero]), show unitV c c = 1 from if_pos rfl, Int.mul_one]
    · rfl
  rw [e0, det_sum (m + 1) U m (by omega)]
  refine sumN_congr fun j hj => ?_
  obtain ⟨W, hW⟩ : ∃ W, updV U m (unitV j) = W := ⟨_, rfl⟩
  rw [hW]
  have Wm : W m = unitV j := by rw [← hW]; exact updV_self _ _ _
  have Wl : ∀ l, l < m → W l = U l := fun l hl => by rw [← hW]; exact updV_ne _ _ (by omega)
  have c := movC_all (m + 1) (fun i l => W l i) (fun l => W l j) j (m - j) (by omega)
  rw [show j + (m - j) = m by omega, show updV (fun i l => W l i) j (fun l => W l j) = (fun i l => W l i) from updV_own (fun i l => W l i) j] at c
  have c1 : detC (m + 1) (fun i l => W l i) = detN (m + 1) W := rfl
  rw [c1] at c
  obtain ⟨Y, hY⟩ : ∃ Y : Sys, (fun l i => movY (fun i l => W l i) (fun l => W l j) j m i l) = Y := ⟨_, rfl⟩
  have c2 : detC (m + 1) (movY (fun i l => W l i) (fun l => W l j) j m) = detN (m + 1) Y := by rw [← hY]; rfl
  rw [c2] at c
  have Yv : ∀ l i, i < m → Y l i = if i < j then W l i else W l (i + 1) := fun l i hi => by
    rw [← hY]
    show (if i < j then (fun i l => W l i) i else if i < m then (fun i l => W l i) (i + 1) else if i = m then (fun l => W l j) else (fun i l => W l i) i) l = _
    by_cases g : i < j
    · rw [if_pos g, if_pos g]
    · rw [if_neg g, if_neg g, if_pos hi]
  have Ym : ∀ l, Y l m = W l j := fun l => by
    rw [← hY]
    show (if m < j then (fun i l => W l i) m else if m < m then (fun i l => W l i) (m + 1) else if m = m then (fun l => W l j) else (fun i l => W l i) m) l = _
    rw [if_neg (by omega), if_neg (by omega), if_pos rfl]
  have z : ∀ i, i < m → Y m i = 0 := fun i hi => by
    rw [Yv m i hi, Wm]
    split
    · exact if_neg (by omega)
    · exact if_neg (by omega)
  have b := border m Y (Y m)
  rw [show (fun l => if l = m then Y m else Y l) = Y by funext l; split; (rename_i g; rw [g]); rfl] at b
  rw [sumN_zero (f := fun r => detN m (updV Y r (Y m)) * Y r m) (fun r hr => by rw [det_zero m _ r hr (fun c hc => by rw [updV_self]; exact z c hc), Int.zero_mul]), Ym m, Wm, show unitV j j = 1 from if_pos rfl] at b
  have d : detN m Y = detN m (fun l i => if i < j then U l i else U l (i + 1)) := det_congr m fun l hl i hi => by
    rw [Yv l i hi, Wl l hl]
  have s : sgP (m - j) = sgP (m + j) := by
    rw [show m + j = (m - j) + (j + j) by omega, sgP_add, sgP_two, Int.mul_one]
  have s2 : sgP (m + j) * sgP (m + j) = 1 := by rcases sgP_cases (m + j) with g | g <;> rw [g] <;> rfl
  rw [b, d, s] at c
  generalize detN m (fun l i => if i < j then U l i else U l (i + 1)) = X at *
  generalize detN (m + 1) W = Z at *
  generalize sgP (m + j) = S at *
  have : Z = S * X := by
    have : S * (S * Z) = S * X := by rw [← c]; grind
    rw [← Int.mul_assoc, s2] at this
    omega
  rw [this]; grind
theorem det_trans : ∀ (m : Nat) (U : Sys), detN m (fun l i => U i l) = detN m U := by
  intro m
  induction m with
  | zero => intro U; rfl
  | succ m ih =>
    intro U
    rw [det_last m U]
    show sumN (m + 1) (fun k => sgP (m + k) * (U m k * detN m (skipV k (fun l i => U i l)))) = _
    refine sumN_congr fun k hk => ?_
    congr 2
    rw [← ih (fun l i => if i < k then U l i else U l (i + 1))]
    congr 1
    funext l i
    unfold skipV
    split <;> rfl

end Go.Proofs.Ytjggnmbdgagkoaa
