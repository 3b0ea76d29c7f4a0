/- Plain mathematics of DecimalJoined: the lines of a text, where its tokens stand, and the tokens of their texts with blanks between them. -/
import Derived.Test.YtbpcfgeefelfdaaDoorMath2
import Derived.Lib.Split
import Derived.Lib.Join
namespace Go.Proofs.YtbpcfgeefelfdaaDoor

/-- The lines of a text. -/
def spl : List UInt8 → List (List UInt8)
  | [] => [[]]
  | c :: r => if c = 10 then [] :: spl r else match spl r with
    | [] => [[c]]
    | h :: t => (c :: h) :: t

theorem spl_nl (r : List UInt8) : spl (10 :: r) = [] :: spl r := by rw [spl, if_pos rfl]
theorem spl_other {c : UInt8} {r h : List UInt8} {t : List (List UInt8)} (hc : c ≠ 10) (e : spl r = h :: t) : spl (c :: r) = (c :: h) :: t := by rw [spl, if_neg hc, e]

theorem spl_cons : ∀ l : List UInt8, ∃ h t, spl l = h :: t
  | [] => ⟨_, _, rfl⟩
  | c :: r => by
    obtain ⟨h, t, e⟩ := spl_cons r
    by_cases hc : c = 10
    · subst hc; exact ⟨_, _, spl_nl r⟩
    · exact ⟨_, _, spl_other hc e⟩

theorem spl_len : ∀ l : List UInt8, (spl l).length ≤ l.length + 1
  | [] => by simp [spl]
  | c :: r => by
    have ih := spl_len r
    obtain ⟨h, t, e⟩ := spl_cons r
    by_cases hc : c = 10
    · subst hc; rw [spl_nl]; simp only [List.length_cons]; omega
    · rw [spl_other hc e]; rw [e] at ih; simp only [List.length_cons] at ih ⊢; omega

theorem spl_each : ∀ (l : List UInt8), ∀ x ∈ spl l, x.length ≤ l.length
  | [], x, hx => by simp [spl] at hx; simp [hx]
  | c :: r, x, hx => by
    have ih := spl_each r
    obtain ⟨h, t, e⟩ := spl_cons r
    by_cases hc : c = 10
    · subst hc
      rw [spl_nl] at hx
      rcases List.mem_cons.1 hx with rfl | hx
      · simp
      · have := ih x hx; simp only [List.length_cons]; omega
    · rw [spl_other hc e] at hx
      rw [e] at ih
      rcases List.mem_cons.1 hx with rfl | hx
      · have := ih h (List.mem_cons_self ..); simp only [List.length_cons]; omega
      · have := ih x (List.mem_cons_of_mem _ hx); simp only [List.length_cons]; omega

theorem index_miss_split {l : List UInt8} (h : Lib.index l [10] = -1) : Lib.split l [10] = [l] := by
  unfold Lib.split
  rw [Lib.count_miss h]
  rfl
theorem index_hit_split {l : List UInt8} {i : Nat} (h : Lib.index l [10] = i) : Lib.split l [10] = l.take i :: Lib.split (l.drop (i + 1)) [10] := by
  unfold Lib.split
  rw [Lib.count_hit (by simp) h, Nat.add_comm 1, Lib.splitK, if_neg (by rw [h]; simp), h]
  simp

theorem spl_split : ∀ l : List UInt8, Lib.split l [10] = spl l
  | [] => by rw [index_miss_split (by rfl)]; rfl
  | c :: r => by
    have ih := spl_split r
    by_cases hc : c = 10
    · subst hc
      rw [index_hit_split (i := 0) (by simp [Lib.index]), spl_nl, ← ih]
      simp
    · have hp : ¬ ([10] : List UInt8).isPrefixOf (c :: r) = true := by simp [List.isPrefixOf]; exact fun h => hc h.symm
      by_cases hm : Lib.index r [10] = -1
      · rw [index_miss_split hm] at ih
        rw [index_miss_split (by rw [Lib.index, if_neg hp, if_pos (by rw [hm]; rfl)]), spl_other hc ih.symm]
      · have hg := Lib.index_ge r [10]
        obtain ⟨i, hi⟩ : ∃ i : Nat, Lib.index r [10] = i := ⟨(Lib.index r [10]).toNat, by omega⟩
        rw [index_hit_split hi] at ih
        rw [index_hit_split (i := i + 1) (by rw [Lib.index, if_neg hp, if_neg (by rw [hi]; simp), hi]; simp), spl_other hc ih.symm]
        simp

theorem spl_app : ∀ (x y h : List UInt8) (t : List (List UInt8)), (∀ c ∈ x, c ≠ 10) → spl y = h :: t → spl (x ++ y) = (x ++ h) :: t
  | [], _, _, _, _, e => e
  | c :: r, y, h, t, hx, e => by
    rw [List.cons_append, spl_other (hx c (List.mem_cons_self ..)) (spl_app r y h t (fun d hd => hx d (List.mem_cons_of_mem _ hd)) e)]
    rfl

/-- The rest l of the text L stands at line and column. -/
structure Spot (L : List UInt8) (line col : Nat) (l : List UInt8) : Prop where
  line1 : 1 ≤ line
  col1 : 1 ≤ col
  split : ∃ b h t, spl l = h :: t ∧ (spl L).drop (line - 1) = (b ++ h) :: t ∧ b.length = col - 1

theorem Spot.start (L : List UInt8) : Spot L 1 1 L := by
  obtain ⟨h, t, e⟩ := spl_cons L
  exact ⟨Nat.le_refl _, Nat.le_refl _, [], h, t, e, by simpa using e, rfl⟩

theorem Spot.go {L l : List UInt8} {line col : Nat} (S : Spot L line col l) (n : Nat) (hn : ∀ c ∈ l.take n, c ≠ 10) (hl : n ≤ l.length) : Spot L line (col + n) (l.drop n) := by
  obtain ⟨a, b', b, h, t, e1, e2, e3⟩ := S
  obtain ⟨h', t', e'⟩ := spl_cons (l.drop n)
  have e := spl_app (l.take n) (l.drop n) h' t' hn e'
  rw [List.take_append_drop, e1] at e
  injection e with eh et
  subst eh et
  refine ⟨a, by omega, b ++ l.take n, h', t, e', by rw [e2, List.append_assoc], ?_⟩
  rw [List.length_append, List.length_take]
  omega

theorem Spot.line {L r : List UInt8} {line col : Nat} (S : Spot L line col (10 :: r)) : Spot L (line + 1) 1 r := by
  obtain ⟨a, b', b, h, t, e1, e2, e3⟩ := S
  rw [spl_nl] at e1
  injection e1 with eh et
  obtain ⟨h', t', e'⟩ := spl_cons r
  refine ⟨by omega, Nat.le_refl _, [], h', t', e', ?_, rfl⟩
  have : (spl L).drop (line + 1 - 1) = ((spl L).drop (line - 1)).drop 1 := by rw [List.drop_drop]; congr 1; omega
  rw [this, e2, ← et, e']
  rfl

/-- A text stands at its line and column. -/
def Placed (L : List UInt8) (line col : Nat) (text : List UInt8) : Prop :=
  1 ≤ line ∧ 1 ≤ col ∧ ∃ x, (spl L)[line - 1]? = some x ∧ col ≤ x.length + 1 ∧ text.isPrefixOf (x.drop (col - 1)) = true

theorem Spot.placed {L l : List UInt8} {line col : Nat} (S : Spot L line col l) (n : Nat) (hn : ∀ c ∈ l.take n, c ≠ 10) : Placed L line col (l.take n) := by
  obtain ⟨a, b', b, h, t, e1, e2, e3⟩ := S
  obtain ⟨h', t', e'⟩ := spl_cons (l.drop n)
  have e := spl_app (l.take n) (l.drop n) h' t' hn e'
  rw [List.take_append_drop, e1] at e
  injection e with eh et
  refine ⟨a, b', b ++ h, ?_, by rw [List.length_append]; omega, ?_⟩
  · have := congrArg (·[0]?) e2
    simpa using this
  · rw [List.drop_append_of_le_length (by omega), ← e3, List.drop_length, List.nil_append, eh]
    simp

theorem Placed.nil {L text : List UInt8} {line col : Nat} (h : Placed L line col text) : Placed L line col [] := by
  obtain ⟨a, b, x, h1, h2, _⟩ := h
  exact ⟨a, b, x, h1, h2, rfl⟩

theorem pre_take (p : UInt8 → Bool) : ∀ (l : List UInt8), ∀ c ∈ l.take (pre p l), p c = true := by
  intro l c hc
  obtain ⟨j, hj⟩ := List.mem_iff_getElem?.1 hc
  have hlt : j < pre p l := by
    rcases Nat.lt_or_ge j (pre p l) with h | h
    · exact h
    · rw [List.getElem?_eq_none (by rw [List.length_take]; omega)] at hj; cases hj
  rw [List.getElem?_take_of_lt hlt] at hj
  exact pre_yes p l j hlt c hj

theorem pre_app (p : UInt8 → Bool) (d : UInt8) (r : List UInt8) (hd : p d = false) : ∀ (x : List UInt8), (∀ c ∈ x, p c = true) → pre p (x ++ d :: r) = x.length
  | [], _ => by rw [List.nil_append, pre, if_neg (by simp [hd])]; rfl
  | c :: x, h => by
    rw [List.cons_append, pre, if_pos (h c (List.mem_cons_self ..)), pre_app p d r hd x (fun e he => h e (List.mem_cons_of_mem _ he)), List.length_cons]

theorem ne10 {p : UInt8 → Bool} (hp : p 10 = false) {c : UInt8} (h : p c = true) : c ≠ 10 := by
  rintro rfl
  rw [hp] at h
  cases h

theorem take_mid (x y : List UInt8) (d : UInt8) (b : Nat) : (x ++ d :: y).take (x.length + 1 + b) = x ++ d :: y.take b := by
  rw [List.take_append, List.take_of_length_le (by omega), show x.length + 1 + b - x.length = b + 1 from by omega, List.take_succ_cons]

/-- The two forms that a number has. -/
theorem num_form (l : List UInt8) : (numS l = pre dg l) ∨ ∃ y, l.take (numS l) = l.take (pre dg l) ++ 46 :: y ∧ y ≠ [] ∧ (∀ c ∈ y, dg c = true) ∧ numS l = pre dg l + 1 + y.length ∧ pre dg l < l.length := by
  unfold numS
  simp only
  split
  · exact .inl rfl
  · rename_i h
    split
    · exact .inl rfl
    · rename_i h2
      right
      have hlt : pre dg l < l.length := by have := pre_le dg l; omega
      have h46 : l[pre dg l]? = some 46 := by
        rcases Classical.em (l[pre dg l]? = some 46) with e | e
        · exact e
        · exact absurd (.inr e) h
      have hle := pre_le dg (l.drop (pre dg l + 1))
      rw [List.length_drop] at hle
      refine ⟨(l.drop (pre dg l + 1)).take (pre dg (l.drop (pre dg l + 1))), ?_, ?_, pre_take dg _, ?_, hlt⟩
      · have e1 : l = l.take (pre dg l) ++ 46 :: l.drop (pre dg l + 1) := by
          have : l[pre dg l] = 46 := by rw [List.getElem?_eq_getElem hlt] at h46; exact Option.some.inj h46
          rw [← this, List.getElem_cons_drop, List.take_append_drop]
        have hlen : (l.take (pre dg l)).length = pre dg l := by rw [List.length_take]; omega
        generalize pre dg (l.drop (pre dg l + 1)) = b
        have := take_mid (l.take (pre dg l)) (l.drop (pre dg l + 1)) 46 b
        rw [hlen, ← e1] at this
        exact this
      · intro hn
        have := congrArg List.length hn
        rw [List.length_take, List.length_drop] at this
        simp only [List.length_nil] at this
        omega
      · rw [List.length_take, List.length_drop]; omega

theorem num_again (l r : List UInt8) : numS (l.take (numS l) ++ 32 :: r) = numS l := by
  rcases num_form l with h | ⟨y, h1, h2, h3, h4, h5⟩
  · have hle := pre_le dg l
    have hlen : (l.take (pre dg l)).length = pre dg l := by rw [List.length_take]; omega
    have hp := pre_app dg 32 r (by rfl) (l.take (pre dg l)) (pre_take dg l)
    rw [h]
    unfold numS
    simp only
    rw [hp, hlen, if_pos]
    right
    rw [List.getElem?_append_right (by omega), hlen]
    simp
  · have hle := pre_le dg l
    have hlen : (l.take (pre dg l)).length = pre dg l := by rw [List.length_take]; omega
    rw [h1, List.append_assoc, List.cons_append]
    have hp := pre_app dg 46 (y ++ 32 :: r) (by rfl) (l.take (pre dg l)) (pre_take dg l)
    have hq := pre_app dg 32 r (by rfl) y h3
    have hd : (l.take (pre dg l) ++ 46 :: (y ++ 32 :: r)).drop (pre dg l + 1) = y ++ 32 :: r := by
      rw [List.drop_append, hlen, List.drop_of_length_le (by omega)]
      simp
    conv => lhs; unfold numS
    simp only
    rw [hp, hlen, hd, hq, if_neg, if_neg, h4]
    · intro e; exact h2 (List.eq_nil_of_length_eq_zero e)
    · rintro (e | e)
      · simp [List.length_append, hlen] at e
      · apply e
        rw [List.getElem?_append_right (by omega), hlen]
        simp

theorem num_no10 (l : List UInt8) : ∀ c ∈ l.take (numS l), c ≠ 10 := by
  intro c hc
  rcases num_form l with h | ⟨y, h1, h2, h3, h4, h5⟩
  · rw [h] at hc; exact ne10 (by rfl) (pre_take dg l c hc)
  · rw [h1] at hc
    rcases List.mem_append.1 hc with hc | hc
    · exact ne10 (by rfl) (pre_take dg l c hc)
    · rcases List.mem_cons.1 hc with rfl | hc
      · decide
      · exact ne10 (by rfl) (h3 c hc)

end Go.Proofs.YtbpcfgeefelfdaaDoor
