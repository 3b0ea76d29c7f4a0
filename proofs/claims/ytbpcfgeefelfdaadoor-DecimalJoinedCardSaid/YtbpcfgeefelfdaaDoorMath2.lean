/- Plain mathematics: each step of the tokens takes at least one byte, and at most what is there. -/
import Derived.Test.YtbpcfgeefelfdaaDoorMath
namespace Go.Proofs.YtbpcfgeefelfdaaDoor

theorem pre_pos (p : UInt8 → Bool) (c : UInt8) (r : List UInt8) (h : p c = true) : 1 ≤ pre p (c :: r) := by
  unfold pre; rw [if_pos h]; omega

theorem numS_bd (l : List UInt8) : pre dg l ≤ numS l ∧ numS l ≤ l.length := by
  unfold numS
  have h1 := pre_le dg l
  have h2 := pre_le dg (l.drop (pre dg l + 1))
  rw [List.length_drop] at h2
  simp only
  by_cases a : pre dg l = l.length ∨ l[pre dg l]? ≠ some 46
  · rw [if_pos a]; omega
  · rw [if_neg a]
    split <;> omega

theorem first_bd : ∀ (l : List UInt8), l ≠ [] → (firstS l).1 ≠ -1 → 1 ≤ (firstS l).2 ∧ (firstS l).2 ≤ l.length
  | [], h, _ => absurd rfl h
  | c :: r, _, hk => by
    simp only [firstS] at hk ⊢
    split
    · simp
    · rename_i h1
      rw [if_neg h1] at hk
      split
      · rename_i h2
        have hn : nl c = true := by
          have : (c.toNat : Int) = 35 := by simpa using h2
          unfold nl; rw [this]; rfl
        exact ⟨pre_pos nl c r hn, pre_le _ _⟩
      · rename_i h2
        rw [if_neg h2] at hk
        split
        · simp
        · rename_i h3
          rw [if_neg h3] at hk
          split
          · split
            · rename_i h5
              cases r with
              | nil => simp at h5
              | cons d r => simp
            · simp
          · rename_i h4
            rw [if_neg h4] at hk
            split
            · simp
            · rename_i h5
              rw [if_neg h5] at hk
              split
              · rename_i h6
                have := pre_pos dg c r h6
                have := numS_bd (c :: r)
                exact ⟨by simp only; omega, this.2⟩
              · rename_i h6
                rw [if_neg h6] at hk
                split
                · rename_i h7
                  rw [if_pos h7] at hk
                  have hw : wd c = true := by unfold wd worB; rw [h7]; rfl
                  have := pre_pos wd c r hw
                  have := pre_le wd (c :: r)
                  split
                  · rename_i h8
                    rw [if_pos h8] at hk
                    exact absurd rfl hk
                  · exact ⟨by simp only; omega, this⟩
                · rename_i h7
                  rw [if_neg h7] at hk
                  exact absurd rfl hk

theorem tokGo_fuel : ∀ (n : Nat) (l : List UInt8) (f : Nat) (acc : List Tok) (line col : Nat), l.length ≤ n → l.length ≤ f → tokGo f acc line col l = tokGo l.length acc line col l
  | _, [], f, acc, line, col, _, _ => by cases f <;> simp [tokGo]
  | 0, c :: r, _, _, _, _, h, _ => by simp at h
  | n + 1, c :: r, 0, _, _, _, _, h => by simp at h
  | n + 1, c :: r, f + 1, acc, line, col, hn, hf => by
    simp only [List.length_cons] at hn hf
    rw [List.length_cons]
    unfold tokGo
    by_cases hk : (firstS (c :: r)).1 = -1
    · simp only [hk, if_true]
    · have hb := first_bd (c :: r) (by simp) hk
      have hd : ((c :: r).drop (firstS (c :: r)).2).length ≤ r.length := by
        rw [List.length_drop]; simp only [List.length_cons]; omega
      have e : ∀ acc line col, tokGo f acc line col ((c :: r).drop (firstS (c :: r)).2) = tokGo r.length acc line col ((c :: r).drop (firstS (c :: r)).2) := fun acc line col => by
        rw [tokGo_fuel n _ f acc line col (by omega) (by omega), tokGo_fuel n _ r.length acc line col (by omega) hd]
      simp only [e]

/-- One step, with the fuel that is the length. -/
theorem tok_step (l : List UInt8) (h : l ≠ []) (acc : List Tok) (line col : Nat) :
    tokGo l.length acc line col l =
      if (firstS l).1 = -1 then .bad line col
      else if (firstS l).1 = 0 then tokGo (l.drop (firstS l).2).length acc line (col + (firstS l).2) (l.drop (firstS l).2)
      else if (firstS l).1 = 4 then tokGo (l.drop (firstS l).2).length (acc ++ [⟨4, [], line, col⟩]) (line + 1) 1 (l.drop (firstS l).2)
      else tokGo (l.drop (firstS l).2).length (acc ++ [⟨(firstS l).1, l.take (firstS l).2, line, col⟩]) line (col + (firstS l).2) (l.drop (firstS l).2) := by
  match l, h with
  | c :: r, _ =>
    rw [List.length_cons]
    conv => lhs; unfold tokGo
    by_cases hk : (firstS (c :: r)).1 = -1
    · simp only [hk, if_true]
    · have hb := first_bd (c :: r) (by simp) hk
      have hd : ((c :: r).drop (firstS (c :: r)).2).length ≤ r.length := by
        rw [List.length_drop]; simp only [List.length_cons]; omega
      have e : ∀ acc line col, tokGo r.length acc line col ((c :: r).drop (firstS (c :: r)).2) = tokGo ((c :: r).drop (firstS (c :: r)).2).length acc line col ((c :: r).drop (firstS (c :: r)).2) := fun acc line col =>
        tokGo_fuel r.length _ r.length acc line col hd hd
      simp only [e]

end Go.Proofs.YtbpcfgeefelfdaaDoor
