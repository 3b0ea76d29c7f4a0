/- Plain mathematics of DecimalJoined: the tokens of a text, each at its place, and the tokens of their texts with blanks between them. -/
import Derived.Test.YtbpcfgeefelfdaaDoorJoinMath
namespace Go.Proofs.YtbpcfgeefelfdaaDoor

/-- What a text begins with holds no newline, but a newline itself. -/
theorem first_no10 : ∀ (l : List UInt8), (firstS l).1 ≠ -1 → (firstS l).1 ≠ 4 → ∀ c ∈ l.take (firstS l).2, c ≠ 10
  | [], hk, _ => absurd rfl hk
  | d :: r, hk, h4 => by
    by_cases h0 : d = 10
    · subst h0; exact absurd rfl h4
    have one : ∀ c ∈ (d :: r).take 1, c ≠ 10 := by
      intro c hc
      simp at hc
      rw [hc]; exact h0
    simp only [firstS] at hk h4 ⊢
    split
    · exact one
    · rename_i h1
      rw [if_neg h1] at hk h4
      split
      · intro c hc
        exact ne10 (by rfl) (pre_take nl _ c hc)
      · rename_i h2
        rw [if_neg h2] at hk h4
        split
        · rename_i h3
          rw [if_pos h3] at h4
          exact absurd rfl h4
        · rename_i h3
          rw [if_neg h3] at hk h4
          split
          · split
            · rename_i h5
              cases r with
              | nil => simp at h5
              | cons e r =>
                intro c hc
                simp at hc h5
                rcases hc with rfl | rfl
                · exact h0
                · subst h5; decide
            · exact one
          · rename_i h4'
            rw [if_neg h4'] at hk h4
            split
            · exact one
            · rename_i h5
              rw [if_neg h5] at hk h4
              split
              · exact num_no10 _
              · rename_i h6
                rw [if_neg h6] at hk h4
                split
                · rename_i h7
                  rw [if_pos h7] at hk h4
                  split
                  · rename_i h8
                    rw [if_pos h8] at hk
                    exact absurd rfl hk
                  · intro c hc
                    exact ne10 (by rfl) (pre_take wd _ c hc)
                · rename_i h7
                  rw [if_neg h7] at hk
                  exact absurd rfl hk

/-- A newline has the size 1. -/
theorem first_four : ∀ (l : List UInt8), (firstS l).1 = 4 → ∃ r, l = 10 :: r ∧ (firstS l).2 = 1
  | [], h => by simp [firstS] at h
  | d :: r, h => by
    simp only [firstS] at h
    by_cases h0 : d = 10
    · subst h0; exact ⟨r, rfl, rfl⟩
    · exfalso
      have h3 : ¬ (d.toNat : Int) = 10 := fun e => h0 (UInt8.toNat_inj.1 (show d.toNat = (10 : UInt8).toNat from by have : (10 : UInt8).toNat = 10 := rfl; omega))
      simp only [beq_iff_eq, h3, if_false] at h
      repeat' (split at h)
      all_goals first | (simp at h; done) | (exact absurd h (by decide))

theorem first_five (l : List UInt8) : (firstS l).1 ≠ 5 := by
  cases l with
  | nil => decide
  | cons d r =>
    simp only [firstS]
    repeat' split
    all_goals (simp only; decide)

theorem cons_take {c : UInt8} {r : List UInt8} {n : Nat} (h : 1 ≤ n) : (c :: r).take n = c :: r.take (n - 1) := by
  obtain ⟨m, rfl⟩ : ∃ m, n = m + 1 := ⟨n - 1, by omega⟩
  rfl

theorem first_digit {c : UInt8} {r : List UInt8} (h : dg c = true) : firstS (c :: r) = (2, numS (c :: r)) := by
  have hd : digB (c.toNat : Int) = true := h
  have hr : (48 : Int) ≤ c.toNat ∧ (c.toNat : Int) ≤ 57 := by simpa [digB] using hd
  have ha : ¬ aloneB (c.toNat : Int) = true := by simp [aloneB]; omega
  simp only [firstS]
  rw [if_neg (by simp; omega), if_neg (by simp; omega), if_neg (by simp; omega), if_neg (by simp; omega), if_neg ha, if_pos hd]
theorem first_letter {c : UInt8} {r : List UInt8} (h : lt' c = true) : firstS (c :: r) = if 20 < pre wd (c :: r) then (-1, 0) else (1, pre wd (c :: r)) := by
  have hd : letB (c.toNat : Int) = true := h
  have hr : ((97 : Int) ≤ c.toNat ∧ (c.toNat : Int) ≤ 122) ∨ ((65 : Int) ≤ c.toNat ∧ (c.toNat : Int) ≤ 90) := by simpa [letB] using hd
  have hn : ¬ digB (c.toNat : Int) = true := by simp [digB]; omega
  have ha : ¬ aloneB (c.toNat : Int) = true := by simp [aloneB]; omega
  simp only [firstS]
  rw [if_neg (by simp; omega), if_neg (by simp; omega), if_neg (by simp; omega), if_neg (by simp; omega), if_neg ha, if_neg hn, if_pos hd]

/-- What a token's text is, it is again before a blank. -/
theorem first_again : ∀ (l : List UInt8), (firstS l).1 ≠ -1 → (firstS l).1 ≠ 0 → (firstS l).1 ≠ 4 → ∀ r', firstS (l.take (firstS l).2 ++ 32 :: r') = firstS l
  | [], hk, _, _ => absurd rfl hk
  | d :: r, hk, h0, h4 => by
    intro r'
    have hbd := first_bd (d :: r) (by simp) hk
    by_cases hdg : dg d = true
    · have e := first_digit (r := r) hdg
      rw [e] at hbd ⊢
      simp only at hbd ⊢
      rw [cons_take hbd.1, List.cons_append, first_digit hdg, ← List.cons_append, ← cons_take hbd.1, num_again]
    by_cases hlt : lt' d = true
    · have e := first_letter (r := r) hlt
      rw [e] at hbd hk ⊢
      split at hbd
      · rename_i h8
        rw [if_pos h8] at hk
        exact absurd rfl hk
      · rename_i h8
        simp only at hbd
        rw [if_neg h8]
        simp only
        have hp := pre_app wd 32 r' (by rfl) ((d :: r).take (pre wd (d :: r))) (pre_take wd _)
        rw [List.length_take, Nat.min_eq_left hbd.2] at hp
        rw [cons_take hbd.1, List.cons_append, first_letter hlt, ← List.cons_append, ← cons_take hbd.1, hp, if_neg h8]
    have hdg' : ¬ digB (d.toNat : Int) = true := hdg
    have hlt' : ¬ letB (d.toNat : Int) = true := hlt
    simp only [firstS] at hk h0 h4 ⊢
    by_cases h1 : ((d.toNat : Int) == 32 || (d.toNat : Int) == 9) = true
    · rw [if_pos h1] at h0; exact absurd rfl h0
    rw [if_neg h1] at hk h0 h4 ⊢
    by_cases h2 : ((d.toNat : Int) == 35) = true
    · rw [if_pos h2] at h0; exact absurd rfl h0
    rw [if_neg h2] at hk h0 h4 ⊢
    by_cases h3 : ((d.toNat : Int) == 10) = true
    · rw [if_pos h3] at h4; exact absurd rfl h4
    rw [if_neg h3] at hk h0 h4 ⊢
    by_cases h5 : ((d.toNat : Int) == 62 || (d.toNat : Int) == 60 || (d.toNat : Int) == 58) = true
    · rw [if_pos h5] at hk h0 h4 ⊢
      by_cases h6 : r.head? = some 61
      · rw [if_pos h6]
        cases r with
        | nil => simp at h6
        | cons e r =>
          simp at h6
          subst h6
          simp only [List.take_succ_cons, List.take_zero, List.cons_append, List.nil_append]
          rw [if_neg h1, if_neg h2, if_neg h3, if_pos h5, if_pos (by rfl)]
      · rw [if_neg h6]
        simp only [List.take_succ_cons, List.take_zero, List.cons_append, List.nil_append]
        rw [if_neg h1, if_neg h2, if_neg h3, if_pos h5, if_neg (by simp)]
    rw [if_neg h5] at hk h0 h4 ⊢
    by_cases h6 : aloneB (d.toNat : Int) = true
    · rw [if_pos h6]
      simp only [List.take_succ_cons, List.take_zero, List.cons_append, List.nil_append]
      rw [if_neg h1, if_neg h2, if_neg h3, if_neg h5, if_pos h6]
    rw [if_neg h6, if_neg hdg', if_neg hlt'] at hk
    exact absurd rfl hk

/-- A token's own bytes in the joined text. -/
def part (t : Tok) : List UInt8 := if t.kind = 4 then [10] else t.text
def joinedL (ts : List Tok) : List UInt8 := ts.flatMap (fun t => part t ++ [32])

/-- A token whose text before a blank is that token. -/
def Fine (t : Tok) : Prop := (t.kind = 4 ∧ t.text = []) ∨ (t.kind ≠ 4 ∧ t.kind ≠ -1 ∧ t.kind ≠ 0 ∧ t.kind ≠ 5 ∧ t.text ≠ [] ∧ ∀ r', firstS (t.text ++ 32 :: r') = (t.kind, t.text.length))

theorem joinedL_cons (t : Tok) (r : List Tok) : joinedL (t :: r) = part t ++ 32 :: joinedL r := by simp [joinedL]

theorem tok_blank (r : List UInt8) (acc : List Tok) (line col : Nat) : tokGo (32 :: r).length acc line col (32 :: r) = tokGo r.length acc line (col + 1) r := by
  rw [tok_step _ (by simp)]
  have e : firstS (32 :: r) = (0, 1) := rfl
  rw [e]
  rfl

theorem again : ∀ (ts : List Tok), (∀ t ∈ ts, Fine t) → ∀ (acc : List Tok) (line col : Nat), ∃ ts' line' col', tokGo (joinedL ts).length acc line col (joinedL ts) = .all (acc ++ (ts' ++ [⟨5, [], line', col'⟩])) ∧ ts'.map (fun t => (t.kind, t.text)) = ts.map (fun t => (t.kind, t.text))
  | [], _, acc, line, col => ⟨[], line, col, rfl, rfl⟩
  | t :: r, h, acc, line, col => by
    rw [joinedL_cons]
    have hr := again r (fun x hx => h x (List.mem_cons_of_mem _ hx))
    rcases h t (List.mem_cons_self ..) with ⟨k4, te⟩ | ⟨k4, k1, k0, k5, tne, tf⟩
    · have hp : part t = [10] := by rw [part, if_pos k4]
      rw [hp, tok_step _ (by simp)]
      have e : firstS ([10] ++ 32 :: joinedL r) = (4, 1) := rfl
      rw [e]
      simp only [List.cons_append, List.nil_append, List.drop_succ_cons, List.drop_zero]
      rw [if_neg (by decide), if_neg (by decide), if_pos trivial, tok_blank]
      obtain ⟨ts', l', c', e1, e2⟩ := hr (acc ++ [⟨4, [], line, col⟩]) (line + 1) (1 + 1)
      refine ⟨⟨4, [], line, col⟩ :: ts', l', c', by rw [e1]; simp, by simp [e2, k4, te]⟩
    · have hp : part t = t.text := by rw [part, if_neg k4]
      have e := tf (joinedL r)
      rw [hp, tok_step _ (by simp), e]
      simp only
      rw [if_neg k1, if_neg k0, if_neg k4, List.drop_append_of_le_length (Nat.le_refl _), List.drop_length, List.nil_append, List.take_append_of_le_length (Nat.le_refl _), List.take_length, tok_blank]
      obtain ⟨ts', l', c', e1, e2⟩ := hr (acc ++ [⟨t.kind, t.text, line, col⟩]) line (col + t.text.length + 1)
      refine ⟨⟨t.kind, t.text, line, col⟩ :: ts', l', c', by rw [e1]; simp, by simp [e2]⟩

/-- The places ascend. -/
def Asc : Nat → Nat → List Tok → Prop
  | _, _, [] => True
  | line, col, t :: r => (line < t.line ∨ line = t.line ∧ col ≤ t.col) ∧ Asc t.line (t.col + 1) r

theorem Asc.weaker : ∀ {ts : List Tok} {l c l0 c0 : Nat}, Asc l c ts → (l0 < l ∨ l0 = l ∧ c0 ≤ c) → Asc l0 c0 ts
  | [], _, _, _, _, _, _ => trivial
  | t :: r, l, c, l0, c0, ⟨h, h'⟩, hl => ⟨by omega, h'⟩

theorem Asc.next : ∀ {ts : List Tok} {l c : Nat}, Asc l c ts → ∀ i a b, ts[i]? = some a → ts[i + 1]? = some b → a.line < b.line ∨ a.line = b.line ∧ a.col < b.col
  | [], _, _, _, _, _, _, ha, _ => by simp at ha
  | [t], _, _, _, 0, a, b, _, hb => by simp at hb
  | t :: u :: r, _, _, ⟨_, h⟩, 0, a, b, ha, hb => by
    simp at ha hb
    subst ha hb
    have := h.1
    omega
  | t :: r, _, _, ⟨_, h⟩, i + 1, a, b, ha, hb => Asc.next h i a b (by simpa using ha) (by simpa using hb)

/-- What the tokens of a text are: each at its place, ascending, each found again, and not too many bytes. -/
theorem tok_facts (L : List UInt8) : ∀ (n : Nat) (l : List UInt8) (acc res : List Tok) (line col : Nat), l.length ≤ n → Spot L line col l → tokGo l.length acc line col l = .all res →
    ∃ ts line' col', res = acc ++ (ts ++ [⟨5, [], line', col'⟩]) ∧ (∀ t ∈ ts, Fine t) ∧ (∀ t ∈ ts ++ [⟨5, [], line', col'⟩], Placed L t.line t.col t.text) ∧ Asc line col (ts ++ [⟨5, [], line', col'⟩]) ∧ (joinedL ts).length ≤ 2 * l.length
  | _, [], acc, res, line, col, _, S, h => by
    simp only [List.length_nil, tokGo, Toks.all.injEq] at h
    refine ⟨[], line, col, h.symm, by simp, ?_, ⟨.inr ⟨rfl, Nat.le_refl _⟩, trivial⟩, by simp [joinedL]⟩
    intro t ht
    simp at ht
    subst ht
    exact S.placed 0 (by simp)
  | 0, c :: r, _, _, _, _, h, _, _ => by simp at h
  | n + 1, c :: r, acc, res, line, col, hn, S, h => by
    rw [tok_step _ (by simp)] at h
    generalize hl : c :: r = l at *
    have hne : l ≠ [] := by rw [← hl]; simp
    by_cases hk : (firstS l).1 = -1
    · rw [if_pos hk] at h; cases h
    rw [if_neg hk] at h
    have hb := first_bd l hne hk
    have hd : (l.drop (firstS l).2).length + (firstS l).2 = l.length := by rw [List.length_drop]; omega
    by_cases h0 : (firstS l).1 = 0
    · rw [if_pos h0] at h
      have h10 := first_no10 l hk (by rw [h0]; decide)
      obtain ⟨ts, l', c', e1, e2, e3, e4, e5⟩ := tok_facts L n _ acc res line _ (by omega) (S.go _ h10 hb.2) h
      exact ⟨ts, l', c', e1, e2, e3, e4.weaker (.inr ⟨rfl, by omega⟩), by omega⟩
    rw [if_neg h0] at h
    by_cases h4 : (firstS l).1 = 4
    · rw [if_pos h4] at h
      obtain ⟨r', hr, h1⟩ := first_four l h4
      rw [h1] at h hd hb
      have P := (S.placed 0 (by simp))
      rw [hr] at S
      obtain ⟨ts, l', c', e1, e2, e3, e4, e5⟩ := tok_facts L n (l.drop 1) _ res (line + 1) 1 (by omega) (by rw [hr]; exact S.line) h
      refine ⟨⟨4, [], line, col⟩ :: ts, l', c', by rw [e1]; simp, ?_, ?_, ⟨.inr ⟨rfl, Nat.le_refl _⟩, e4.weaker (.inl (by simp))⟩, ?_⟩
      · intro t ht
        rcases List.mem_cons.1 ht with rfl | ht
        · exact .inl ⟨rfl, rfl⟩
        · exact e2 t ht
      · intro t ht
        rcases List.mem_cons.1 ht with rfl | ht
        · exact P
        · exact e3 t ht
      · rw [joinedL_cons, part, if_pos rfl]; simp only [List.length_append, List.length_cons, List.length_nil]; omega
    rw [if_neg h4] at h
    have h10 := first_no10 l hk h4
    have ha := first_again l hk h0 h4
    have hlen : (l.take (firstS l).2).length = (firstS l).2 := by rw [List.length_take]; omega
    have hk5 := first_five l
    obtain ⟨ts, l', c', e1, e2, e3, e4, e5⟩ := tok_facts L n _ _ res line _ (by omega) (S.go _ h10 hb.2) h
    refine ⟨⟨(firstS l).1, l.take (firstS l).2, line, col⟩ :: ts, l', c', by rw [e1]; simp, ?_, ?_, ⟨.inr ⟨rfl, Nat.le_refl _⟩, e4.weaker (.inr ⟨rfl, by simp; omega⟩)⟩, ?_⟩
    · intro t ht
      rcases List.mem_cons.1 ht with rfl | ht
      · refine .inr ⟨h4, hk, h0, hk5, fun e => ?_, fun r' => by rw [ha r', hlen]⟩
        simp only at e
        rw [e] at hlen
        simp at hlen
        omega
      · exact e2 t ht
    · intro t ht
      rcases List.mem_cons.1 ht with rfl | ht
      · exact S.placed _ h10
      · exact e3 t ht
    · rw [joinedL_cons, part, if_neg h4]; simp only [List.length_append, List.length_cons, hlen]; omega

theorem join_tail : ∀ ts : List Tok, Lib.joinTail [32] (ts.map part ++ [[]]) = 32 :: joinedL ts
  | [] => rfl
  | t :: r => by
    have ih := join_tail r
    rw [joinedL_cons, ← ih]
    simp [Lib.joinTail]
theorem join_parts (ts : List Tok) : Lib.join (ts.map part ++ [[]]) [32] = joinedL ts := by
  cases ts with
  | nil => rfl
  | cons t r => rw [List.map_cons, List.cons_append, Lib.join_cons, join_tail, joinedL_cons]

end Go.Proofs.YtbpcfgeefelfdaaDoor
