/- Layer 1: names (for layer 10: the texts Math to KN in one). -/
import Derived.Lib.Hide
import Derived.Test.YtcghjjfpjiacfaaDoorRows
import Derived.WalkKit
import Derived.WalkSpells
import Derived.WalkLawsBesides
import Derived.Deep.QuietTactic
import Derived.BigQuiet
import Derived.RegionTactic
import Derived.Test.YtcghjjfpjiacfaaDoorShelf
import Derived.WalkSmall
import Derived.Lib.IndexLaws
import Derived.Lib.IndexBytes
namespace Go.Proofs.YtcghjjfpjiacfaaDoor

def digB (c : Int) : Bool := decide (48 ≤ c) && decide (c ≤ 57)
def letB (c : Int) : Bool := (decide (97 ≤ c) && decide (c ≤ 122)) || (decide (65 ≤ c) && decide (c ≤ 90))
def worB (c : Int) : Bool := letB c || digB c || (c == 95)
def bi (c : UInt8) : Int := (c.toNat : Int)
def dg (c : UInt8) : Bool := digB (c.toNat : Int)
def lt' (c : UInt8) : Bool := letB (c.toNat : Int)
def wd (c : UInt8) : Bool := worB (c.toNat : Int)
def nl (c : UInt8) : Bool := !((c.toNat : Int) == 10)

/-- How many elements at the beginning have the property. -/
def pre (p : UInt8 → Bool) : List UInt8 → Nat
  | [] => 0
  | c :: r => if p c then pre p r + 1 else 0

theorem pre_le (p : UInt8 → Bool) : ∀ l, pre p l ≤ l.length
  | [] => by simp [pre]
  | c :: r => by
    have := pre_le p r
    unfold pre
    split <;> simp <;> omega

theorem pre_eq (p : UInt8 → Bool) : ∀ (l : List UInt8) (k : Nat), k ≤ l.length → (∀ j, j < k → ∀ c, l[j]? = some c → p c = true) → (∀ c, l[k]? = some c → p c = false) → pre p l = k
  | [], k, hk, _, _ => by simp at hk; simp [pre, hk]
  | c :: r, 0, _, _, h2 => by
    have := h2 c (by simp)
    simp [pre, this]
  | c :: r, k + 1, hk, h1, h2 => by
    have h0 := h1 0 (by omega) c (by simp)
    have ih := pre_eq p r k (by simpa using hk) (fun j hj d hd => h1 (j + 1) (by omega) d (by simpa using hd)) (fun d hd => h2 d (by simpa using hd))
    simp [pre, h0, ih]

theorem pre_yes (p : UInt8 → Bool) : ∀ (l : List UInt8) (j : Nat), j < pre p l → ∀ c, l[j]? = some c → p c = true
  | [], j, hj, _, _ => by simp [pre] at hj
  | d :: r, j, hj, c, hc => by
    unfold pre at hj
    split at hj
    · match j with
      | 0 => simp at hc; subst hc; assumption
      | j + 1 => exact pre_yes p r j (by omega) c (by simpa using hc)
    · omega

theorem pre_no (p : UInt8 → Bool) : ∀ (l : List UInt8), ∀ c, l[pre p l]? = some c → p c = false
  | [], c, hc => by simp [pre] at hc
  | d :: r, c, hc => by
    unfold pre at hc
    split at hc
    · exact pre_no p r c (by simpa using hc)
    · simp at hc; subst hc; simp_all

/-- A number at the beginning: its digits, and those behind a point. -/
def numS (l : List UInt8) : Nat :=
  let a := pre dg l
  if a = l.length ∨ l[a]? ≠ some 46 then a
  else if pre dg (l.drop (a + 1)) = 0 then a else a + 1 + pre dg (l.drop (a + 1))

/-- Bytes that are symbols alone, whatever follows. -/
def aloneB (c : Int) : Bool := c == 45 || c == 43 || c == 44 || c == 59 || c == 47 || c == 61 || c == 40 || c == 41 || c == 42

/-- The kind and the size of what a list begins with. -/
def firstS : List UInt8 → Int × Nat
  | [] => (-1, 0)
  | c :: r =>
    if ((c.toNat : Int) == 32) || ((c.toNat : Int) == 9) then (0, 1)
    else if (c.toNat : Int) == 35 then (0, pre nl (c :: r))
    else if (c.toNat : Int) == 10 then (4, 1)
    else if ((c.toNat : Int) == 62) || ((c.toNat : Int) == 60) || ((c.toNat : Int) == 58) then (if r.head? = some 61 then (3, 2) else (3, 1))
    else if aloneB c.toNat then (3, 1)
    else if digB c.toNat then (2, numS (c :: r))
    else if letB c.toNat then (if 20 < pre wd (c :: r) then (-1, 0) else (1, pre wd (c :: r)))
    else (-1, 0)

structure Tok where
  kind : Int
  text : List UInt8
  line : Nat
  col : Nat

/-- The tokens: the list, or the place of the error. -/
inductive Toks where
  | all (l : List Tok)
  | bad (line col : Nat)

def tokGo : Nat → List Tok → Nat → Nat → List UInt8 → Toks
  | _, acc, line, col, [] => .all (acc ++ [⟨5, [], line, col⟩])
  | 0, _, line, col, _ => .bad line col
  | f + 1, acc, line, col, c :: r =>
    let k := (firstS (c :: r)).1
    let n := (firstS (c :: r)).2
    if k = -1 then .bad line col
    else if k = 0 then tokGo f acc line (col + n) ((c :: r).drop n)
    else if k = 4 then tokGo f (acc ++ [⟨4, [], line, col⟩]) (line + 1) 1 ((c :: r).drop n)
    else tokGo f (acc ++ [⟨k, (c :: r).take n, line, col⟩]) line (col + n) ((c :: r).drop n)

end Go.Proofs.YtcghjjfpjiacfaaDoor

namespace Go.Proofs.YtcghjjfpjiacfaaDoor
open Go.RowKit

def cntB (d : Int) : Bool := decide (0 ≤ d) && decide (d ≤ 9)
def numB (n : Int) : Bool := decide (-1152921504606846976 ≤ n) && decide (n ≤ 1152921504606846976)

theorem ret_int {k : IntKind} {a b : Int} (h : a = b) : Ending.returned (.int k a) = .returned (.int k b) := by rw [h]
theorem ret_bool {a b : Bool} (h : a = b) : Ending.returned (.bool a) = .returned (.bool b) := by rw [h]
theorem ret_two {k k' : IntKind} {a b c d : Int} (h : a = c) (h' : b = d) : Ending.returned (.tuple #[.int k a, .int k' b]) = .returned (.tuple #[.int k c, .int k' d]) := by rw [h, h']
theorem cntB_yes {d : Int} (h : 0 ≤ d ∧ d ≤ 9) : cntB d = true := by simp [cntB, h.1, h.2]
theorem cntB_no {d : Int} (h : ¬ (0 ≤ d ∧ d ≤ 9)) : cntB d = false := by
  unfold cntB; by_cases a : 0 ≤ d <;> by_cases b : d ≤ 9 <;> simp_all
theorem numB_yes {d : Int} (h : -1152921504606846976 ≤ d ∧ d ≤ 1152921504606846976) : numB d = true := by simp [numB, h.1, h.2]
theorem numB_no {d : Int} (h : ¬ (-1152921504606846976 ≤ d ∧ d ≤ 1152921504606846976)) : numB d = false := by
  unfold numB; by_cases a : -1152921504606846976 ≤ d <;> by_cases b : d ≤ 1152921504606846976 <;> simp_all

set_option maxHeartbeats 400000 in
theorem isDigit_any (d : Int) (w : World) :
    Calls Tryd.prog 132 #[.int .u8 d] w fun e w' => e = .returned (.bool (digB d)) ∧ w = w' := by
  go_enter Tryd.func132, Tryd.ntmps132
  go_wp2
  all_goals (go_ret; exact ⟨by simp [digB, *] <;> omega, rfl⟩)

set_option maxHeartbeats 400000 in
theorem isLetter_any (d : Int) (w : World) :
    Calls Tryd.prog 134 #[.int .u8 d] w fun e w' => e = .returned (.bool (letB d)) ∧ w = w' := by
  go_enter Tryd.func134, Tryd.ntmps134
  go_wp2
  all_goals (go_ret; exact ⟨by simp [letB, *] <;> omega, rfl⟩)

set_option maxHeartbeats 400000 in
theorem isWord_any (d : Int) (w : World) :
    Calls Tryd.prog 147 #[.int .u8 d] w fun e w' => e = .returned (.bool (worB d)) ∧ w = w' := by
  go_enter Tryd.func147, Tryd.ntmps147
  go_wp2_with (first | (go_at_call 134; refine (isLetter_any _ _).mono ?_; rintro e w' ⟨rfl, rfl⟩) | (go_at_call 132; refine (isDigit_any _ _).mono ?_; rintro e w' ⟨rfl, rfl⟩))
  all_goals (go_ret; exact ⟨by simp [worB, *], rfl⟩)

set_option maxHeartbeats 400000 in
theorem refDigit_any (d : Int) (w : World) :
    Calls Tryd.prog 119 #[.int .u8 d] w fun e w' => e = .returned (.bool (digB d)) ∧ w = w' := by
  go_enter Tryd.func119, Tryd.ntmps119
  go_wp2
  all_goals (go_ret; exact ⟨by simp [digB, *] <;> omega, rfl⟩)

set_option maxHeartbeats 400000 in
theorem refLetter_any (d : Int) (w : World) :
    Calls Tryd.prog 100 #[.int .u8 d] w fun e w' => e = .returned (.bool (letB d)) ∧ w = w' := by
  go_enter Tryd.func100, Tryd.ntmps100
  go_wp2
  all_goals (go_ret; exact ⟨by simp [letB, *] <;> omega, rfl⟩)

end Go.Proofs.YtcghjjfpjiacfaaDoor

namespace Go.Proofs.YtcghjjfpjiacfaaDoor
open Go.RowKit

set_option maxHeartbeats 400000 in
theorem prefix_dig (s : ByteArray) (w : World) (hs : s.size ≤ maxLen) :
    Calls Tryd.prog 146 #[.string s, .func (.func 132) #[] #[]] w fun e w' => e = .returned (.int .i64 (pre dg s.data.toList)) ∧ w = w' := by
  unfold maxLen at hs
  go_enter Tryd.func146, Tryd.ntmps146
  go_wp2
  go_loop [8] (fun i => ∃ k : Nat, k ≤ s.size ∧ i = .int .i64 k ∧ ∀ j, j < k → ∀ c, s.data.toList[j]? = some c → dg c = true) (fun i => s.size - (intOf i).toNat)
  case atStart => exact ⟨0, Nat.zero_le _, rfl, fun j hj => absurd hj (by omega)⟩
  case round =>
    obtain ⟨k, hk, rfl, hall⟩ := hrel
    have Hall := Lib.hid hall
    clear hall
    by_cases hlt : k < s.size
    · have hget : s.data.toList[k]? = some s[k] := by
        rw [List.getElem?_eq_getElem (by simpa using hlt)]; rfl
      have Hget := Lib.hid hget
      clear hget
      by_cases hp : digB (s[k].toNat : Int) = true
      · have Hp := Lib.hid hp
        clear hp
        go_wp2_with (go_at_call 132; refine ((isDigit_any _ _).mono ?_); rintro e w' ⟨rfl, rfl⟩; rw [Hp.out])
        go_round
        case rel => exact ⟨k + 1, by omega, by go_num, fun j hj c hc => by
          by_cases e : j = k
          · subst e; rw [Hget.out] at hc; cases hc; exact Hp.out
          · exact Hall.out j (by omega) c hc⟩
        case measure => simp [intOf]; omega
      · have hf : digB (s[k].toNat : Int) = false := by simpa using hp
        have hfin := pre_eq dg s.data.toList k (by simpa using hk) Hall.out (fun c hc => by rw [Hget.out] at hc; cases hc; exact hf)
        have Hfin := Lib.hid hfin
        have Hp := Lib.hid hf
        clear hp hf hfin
        go_wp2_with (go_at_call 132; refine ((isDigit_any _ _).mono ?_); rintro e w' ⟨rfl, rfl⟩; rw [Hp.out])
        go_ret
        exact ⟨ret_int (by rw [Hfin.out]), rfl⟩
    · have hke : k = s.data.toList.length := by simp; omega
      have hfin := pre_eq dg s.data.toList k (by simpa using hk) Hall.out (fun c hc => by rw [List.getElem?_eq_none (by omega)] at hc; cases hc)
      have hks : k = s.size := by omega
      have Hfin := Lib.hid hfin
      have Hks := Lib.hid hks
      clear hfin hks hke
      go_wp2
      go_ret
      exact ⟨ret_int (by rw [Hfin.out]; rw [Hks.out]), rfl⟩

set_option maxHeartbeats 400000 in
theorem prefix_wor (s : ByteArray) (w : World) (hs : s.size ≤ maxLen) :
    Calls Tryd.prog 146 #[.string s, .func (.func 147) #[] #[]] w fun e w' => e = .returned (.int .i64 (pre wd s.data.toList)) ∧ w = w' := by
  unfold maxLen at hs
  go_enter Tryd.func146, Tryd.ntmps146
  go_wp2
  go_loop [8] (fun i => ∃ k : Nat, k ≤ s.size ∧ i = .int .i64 k ∧ ∀ j, j < k → ∀ c, s.data.toList[j]? = some c → wd c = true) (fun i => s.size - (intOf i).toNat)
  case atStart => exact ⟨0, Nat.zero_le _, rfl, fun j hj => absurd hj (by omega)⟩
  case round =>
    obtain ⟨k, hk, rfl, hall⟩ := hrel
    have Hall := Lib.hid hall
    clear hall
    by_cases hlt : k < s.size
    · have hget : s.data.toList[k]? = some s[k] := by
        rw [List.getElem?_eq_getElem (by simpa using hlt)]; rfl
      have Hget := Lib.hid hget
      clear hget
      by_cases hp : worB (s[k].toNat : Int) = true
      · have Hp := Lib.hid hp
        clear hp
        go_wp2_with (go_at_call 147; refine ((isWord_any _ _).mono ?_); rintro e w' ⟨rfl, rfl⟩; rw [Hp.out])
        go_round
        case rel => exact ⟨k + 1, by omega, by go_num, fun j hj c hc => by
          by_cases e : j = k
          · subst e; rw [Hget.out] at hc; cases hc; exact Hp.out
          · exact Hall.out j (by omega) c hc⟩
        case measure => simp [intOf]; omega
      · have hf : worB (s[k].toNat : Int) = false := by simpa using hp
        have hfin := pre_eq wd s.data.toList k (by simpa using hk) Hall.out (fun c hc => by rw [Hget.out] at hc; cases hc; exact hf)
        have Hfin := Lib.hid hfin
        have Hp := Lib.hid hf
        clear hp hf hfin
        go_wp2_with (go_at_call 147; refine ((isWord_any _ _).mono ?_); rintro e w' ⟨rfl, rfl⟩; rw [Hp.out])
        go_ret
        exact ⟨ret_int (by rw [Hfin.out]), rfl⟩
    · have hke : k = s.data.toList.length := by simp; omega
      have hfin := pre_eq wd s.data.toList k (by simpa using hk) Hall.out (fun c hc => by rw [List.getElem?_eq_none (by omega)] at hc; cases hc)
      have hks : k = s.size := by omega
      have Hfin := Lib.hid hfin
      have Hks := Lib.hid hks
      clear hfin hks hke
      go_wp2
      go_ret
      exact ⟨ret_int (by rw [Hfin.out]; rw [Hks.out]), rfl⟩

end Go.Proofs.YtcghjjfpjiacfaaDoor

namespace Go.Proofs.YtcghjjfpjiacfaaDoor

def dsB (l : List UInt8) : Bool := !l.isEmpty && (pre dg l == l.length)
def wholeB (l : List UInt8) : Bool := dsB l && (l == [48] || !(l.head? == some 48))
def partB (l : List UInt8) (k : Nat) : Bool := dsB l && decide (l.length ≤ k)

/-- What a digit is worth. -/
def dv (c : UInt8) : Int := (c.toNat : Int) - 48

/-- The value of digits behind a number; none where it does not fit. -/
def valGo : Int → List UInt8 → Option Int
  | n, [] => some n
  | n, c :: r => if (1152921504606846976 - dv c) / 10 < n then none else valGo (10 * n + dv c) r

/-- The digits that a text without a sign stands for, with k of them behind the point. -/
def formS (u : List UInt8) (k : Nat) : Option (List UInt8) :=
  if pre dg u = 0 ∨ (1 < pre dg u ∧ u.head? = some 48) then none
  else if pre dg u = u.length then some (u ++ List.replicate k 48)
  else if u[pre dg u]? = some 46 ∧ partB (u.drop (pre dg u + 1)) k = true then some (u.take (pre dg u) ++ u.drop (pre dg u + 1) ++ List.replicate (k - (u.drop (pre dg u + 1)).length) 48)
  else none

def unS (l : List UInt8) : List UInt8 := if l.head? = some 45 then l.drop 1 else l

/-- The number of a text, and the number of the error. -/
def parseS (l : List UInt8) (k : Nat) : Int × Int :=
  match formS (unS l) k with
  | none => (0, 7)
  | some ds => match valGo 0 ds with
    | none => (0, 5)
    | some n => (if l.head? = some 45 then -n else n, 0)

theorem pre_all (p : UInt8 → Bool) (l : List UInt8) (h : pre p l = l.length) : ∀ c ∈ l, p c = true := by
  intro c hc
  obtain ⟨j, hj, rfl⟩ := List.getElem_of_mem hc
  exact pre_yes p l j (by omega) _ (List.getElem?_eq_getElem hj)

theorem pre_of_all (p : UInt8 → Bool) (l : List UInt8) (h : ∀ c ∈ l, p c = true) : pre p l = l.length :=
  pre_eq p l l.length (Nat.le_refl _) (fun j hj c hc => h c (List.mem_of_getElem? hc)) (fun c hc => by rw [List.getElem?_eq_none (Nat.le_refl _)] at hc; cases hc)

theorem valGo_bd : ∀ (l : List UInt8) (n m : Int), (∀ c ∈ l, dg c = true) → 0 ≤ n → n ≤ 1152921504606846976 → valGo n l = some m → 0 ≤ m ∧ m ≤ 1152921504606846976
  | [], n, m, _, h0, h1, h => by simp [valGo] at h; omega
  | c :: r, n, m, hd, h0, h1, h => by
    have hc := hd c (by simp)
    have hv : 0 ≤ dv c ∧ dv c ≤ 9 := by
      simp [dg, digB] at hc; unfold dv; omega
    unfold valGo at h
    split at h
    · cases h
    · exact valGo_bd r _ m (fun x hx => hd x (by simp [hx])) (by omega) (by omega) h

theorem dg_46 : dg 46 = false := by decide
theorem dg_48 : dg 48 = true := by decide

end Go.Proofs.YtcghjjfpjiacfaaDoor

namespace Go.Proofs.YtcghjjfpjiacfaaDoor

theorem pre_pos (p : UInt8 → Bool) (c : UInt8) (r : List UInt8) (h : p c = true) : 1 ≤ pre p (c :: r) := by
  unfold pre; rw [if_pos h]; omega

theorem numS_bd (l : List UInt8) : pre dg l ≤ numS l ∧ numS l ≤ l.length := by
  unfold numS
  have h1 := pre_le dg l
  have h2 := pre_le dg (l.drop (pre dg l + 1))
  rw [List.length_drop] at h2
  simp only
  by_cases a : pre dg l = l.length ∨ l[pre dg l]? ≠ some 46
  · rw [if_pos a]; omega
  · rw [if_neg a]
    split <;> omega

theorem first_bd : ∀ (l : List UInt8), l ≠ [] → (firstS l).1 ≠ -1 → 1 ≤ (firstS l).2 ∧ (firstS l).2 ≤ l.length
  | [], h, _ => absurd rfl h
  | c :: r, _, hk => by
    simp only [firstS] at hk ⊢
    split
    · simp
    · rename_i h1
      rw [if_neg h1] at hk
      split
      · rename_i h2
        have hn : nl c = true := by
          have : (c.toNat : Int) = 35 := by simpa using h2
          unfold nl; rw [this]; rfl
        exact ⟨pre_pos nl c r hn, pre_le _ _⟩
      · rename_i h2
        rw [if_neg h2] at hk
        split
        · simp
        · rename_i h3
          rw [if_neg h3] at hk
          split
          · split
            · rename_i h5
              cases r with
              | nil => simp at h5
              | cons d r => simp
            · simp
          · rename_i h4
            rw [if_neg h4] at hk
            split
            · simp
            · rename_i h5
              rw [if_neg h5] at hk
              split
              · rename_i h6
                have := pre_pos dg c r h6
                have := numS_bd (c :: r)
                exact ⟨by simp only; omega, this.2⟩
              · rename_i h6
                rw [if_neg h6] at hk
                split
                · rename_i h7
                  rw [if_pos h7] at hk
                  have hw : wd c = true := by unfold wd worB; rw [h7]; rfl
                  have := pre_pos wd c r hw
                  have := pre_le wd (c :: r)
                  split
                  · rename_i h8
                    rw [if_pos h8] at hk
                    exact absurd rfl hk
                  · exact ⟨by simp only; omega, this⟩
                · rename_i h7
                  rw [if_neg h7] at hk
                  exact absurd rfl hk

theorem tokGo_fuel : ∀ (n : Nat) (l : List UInt8) (f : Nat) (acc : List Tok) (line col : Nat), l.length ≤ n → l.length ≤ f → tokGo f acc line col l = tokGo l.length acc line col l
  | _, [], f, acc, line, col, _, _ => by cases f <;> simp [tokGo]
  | 0, c :: r, _, _, _, _, h, _ => by simp at h
  | n + 1, c :: r, 0, _, _, _, _, h => by simp at h
  | n + 1, c :: r, f + 1, acc, line, col, hn, hf => by
    simp only [List.length_cons] at hn hf
    rw [List.length_cons]
    unfold tokGo
    by_cases hk : (firstS (c :: r)).1 = -1
    · simp only [hk, if_true]
    · have hb := first_bd (c :: r) (by simp) hk
      have hd : ((c :: r).drop (firstS (c :: r)).2).length ≤ r.length := by
        rw [List.length_drop]; simp only [List.length_cons]; omega
      have e : ∀ acc line col, tokGo f acc line col ((c :: r).drop (firstS (c :: r)).2) = tokGo r.length acc line col ((c :: r).drop (firstS (c :: r)).2) := fun acc line col => by
        rw [tokGo_fuel n _ f acc line col (by omega) (by omega), tokGo_fuel n _ r.length acc line col (by omega) hd]
      simp only [e]

/-- One step, with the fuel that is the length. -/
theorem tok_step (l : List UInt8) (h : l ≠ []) (acc : List Tok) (line col : Nat) :
    tokGo l.length acc line col l =
      if (firstS l).1 = -1 then .bad line col
      else if (firstS l).1 = 0 then tokGo (l.drop (firstS l).2).length acc line (col + (firstS l).2) (l.drop (firstS l).2)
      else if (firstS l).1 = 4 then tokGo (l.drop (firstS l).2).length (acc ++ [⟨4, [], line, col⟩]) (line + 1) 1 (l.drop (firstS l).2)
      else tokGo (l.drop (firstS l).2).length (acc ++ [⟨(firstS l).1, l.take (firstS l).2, line, col⟩]) line (col + (firstS l).2) (l.drop (firstS l).2) := by
  match l, h with
  | c :: r, _ =>
    rw [List.length_cons]
    conv => lhs; unfold tokGo
    by_cases hk : (firstS (c :: r)).1 = -1
    · simp only [hk, if_true]
    · have hb := first_bd (c :: r) (by simp) hk
      have hd : ((c :: r).drop (firstS (c :: r)).2).length ≤ r.length := by
        rw [List.length_drop]; simp only [List.length_cons]; omega
      have e : ∀ acc line col, tokGo r.length acc line col ((c :: r).drop (firstS (c :: r)).2) = tokGo ((c :: r).drop (firstS (c :: r)).2).length acc line col ((c :: r).drop (firstS (c :: r)).2) := fun acc line col =>
        tokGo_fuel r.length _ r.length acc line col hd hd
      simp only [e]

end Go.Proofs.YtcghjjfpjiacfaaDoor

namespace Go.Proofs.YtcghjjfpjiacfaaDoor
open Go.RowKit Go.Shelf
set_option linter.unusedVariables false

theorem str_nil {s : ByteArray} (h : s.data.toList = []) : s.size = 0 := by
  have : s.data.toList.length = 0 := by rw [h]; rfl
  simpa using this
theorem empty_yes {s : ByteArray} (h : s.data.toList = []) : s.toList.isEmpty = true := by rw [Lib.toList_data, h]; rfl
theorem empty_no {s : ByteArray} (h : s.data.toList ≠ []) : s.toList.isEmpty = false := by
  rw [Lib.toList_data]; exact List.isEmpty_eq_false_iff.mpr h
theorem nl_index (l : List UInt8) : pre nl l = if 0 ≤ Lib.indexByte l 10 then (Lib.indexByte l 10).toNat else l.length := by
  by_cases h : 0 ≤ Lib.indexByte l 10
  · rw [if_pos h]
    obtain ⟨h1, h2⟩ := Lib.indexByte_some (l := l) (c := 10) (o := (Lib.indexByte l 10).toNat) (by omega)
    have hl : (Lib.indexByte l 10).toNat < l.length := by
      rcases Nat.lt_or_ge (Lib.indexByte l 10).toNat l.length with a | a
      · exact a
      · rw [List.getElem?_eq_none a] at h1; cases h1
    refine pre_eq nl l _ (by omega) (fun j hj c hc => ?_) (fun c hc => ?_)
    · have := h2 j hj
      unfold nl
      by_cases e : (c.toNat : Int) = 10
      · have : c = 10 := by apply UInt8.toNat_inj.mp; simp; omega
        subst this
        exact absurd hc (h2 j hj)
      · simpa using e
    · rw [h1] at hc; cases hc; rfl
  · rw [if_neg h]
    have hn : Lib.indexByte l 10 = -1 := by have := Lib.indexByte_ge l 10; omega
    refine pre_eq nl l _ (Nat.le_refl _) (fun j hj c hc => ?_) (fun c hc => by rw [List.getElem?_eq_none (Nat.le_refl _)] at hc; cases hc)
    have h2 := Lib.indexByte_none hn j
    unfold nl
    by_cases e : (c.toNat : Int) = 10
    · have : c = 10 := by apply UInt8.toNat_inj.mp; simp; omega
      subst this
      exact absurd hc h2
    · simpa using e
set_option maxHeartbeats 400000 in
theorem comment_any (s : ByteArray) (w : World) :
    Calls Tryd.prog 131 #[.string s] w fun e w' => e = .returned (.int .i64 (pre nl s.data.toList)) ∧ w = w' := by
  have hx := nl_index s.data.toList
  have Hx := Lib.hid hx
  clear hx
  go_enter Tryd.func131, Tryd.ntmps131
  go_wp2_with (go_at_call 145; refine ((Tryd.strings_IndexByte _ _ _).mono ?_); rintro e w' ⟨rfl, rfl⟩)
  all_goals
    go_ret
    exact ⟨ret_int (by rw [Hx.out]; first | (rw [if_pos (by assumption)]; simp; done) | (rw [if_neg (by omega)]; simp; done) | (rw [if_pos (by assumption)]; simp; omega)), rfl⟩
theorem get_byte (s : ByteArray) (k : Nat) (h : k < s.size) : s.data.toList[k]? = some s[k] := by
  rw [List.getElem?_eq_getElem (by simpa using h)]; rfl
theorem byte_46 (c : UInt8) : c = 46 ↔ (c.toNat : Int) = 46 := by
  constructor
  · rintro rfl; rfl
  · intro h; apply UInt8.toNat_inj.mp; simp; omega
set_option maxHeartbeats 400000 in
theorem dnumber_any (s : ByteArray) (w : World) (hs : s.size ≤ maxLen) :
    Calls Tryd.prog 133 #[.string s] w fun e w' => e = .returned (.int .i64 (numS s.data.toList)) ∧ w = w' := by
  have hle : pre dg s.data.toList ≤ s.size := by simpa using pre_le dg s.data.toList
  have hfin : numS s.data.toList = numS s.data.toList := rfl
  conv at hfin => rhs; unfold numS
  generalize hA : pre dg s.data.toList = a at *
  have hsz : s.data.toList.length = s.size := by simp
  simp only [hsz] at hfin
  have HA := Lib.hid hA
  clear hA hsz
  by_cases h1 : a = s.size
  · rw [if_pos (Or.inl h1)] at hfin
    have Hfin := Lib.hid hfin
    clear hfin
    have hb : ((a : Int) == (s.size : Int)) = true := beq_iff_eq.2 (by omega)
    clear h1
    go_enter Tryd.func133, Tryd.ntmps133
    go_wp2_with (go_at_call 146; refine ((prefix_dig _ _ hs).mono ?_); rintro e w' ⟨rfl, rfl⟩; rw [HA.out])
    go_ret
    exact ⟨ret_int (by rw [Hfin.out]), rfl⟩
  · have hlt : a < s.size := by omega
    have hg := get_byte s a hlt
    by_cases h2 : s[a] = 46
    · rw [h2] at hg
      rw [if_neg (by rw [hg]; simp; omega)] at hfin
      have hd : s.data.toList.drop (a + 1) = (s.extract (a + 1) s.size).data.toList := by
        rw [Lib.extract_to_end]
      rw [hd] at hfin
      generalize hB : pre dg (s.extract (a + 1) s.size).data.toList = b at *
      have hbl : b ≤ s.size - (a + 1) := by
        rw [← hB, Lib.extract_to_end]; have := pre_le dg (s.data.toList.drop (a + 1))
        simpa using this
      have h46 : (s[a].toNat : Int) = 46 := (byte_46 _).1 h2
      have hn : ((s[a].toNat : Int) != 46) = false := by rw [h46]; rfl
      have hne : ((a : Int) == (s.size : Int)) = false := beq_eq_false_iff_ne.2 (by omega)
      have HB := Lib.hid hB
      clear hB h2 h46 h1 hg hd
      unfold maxLen at hs
      by_cases h3 : b = 0
      · rw [if_pos h3] at hfin
        have Hfin := Lib.hid hfin
        have hb0 : ((b : Int) == 0) = true := by simpa using h3
        clear hfin h3
        go_enter Tryd.func133, Tryd.ntmps133
        go_wp2_with fail
        refine ((prefix_dig _ _ (by unfold maxLen; omega)).mono ?_); rintro e w' ⟨rfl, rfl⟩; rw [HA.out]
        go_wp2_with fail
        refine ((prefix_dig _ _ (by unfold maxLen; simp; omega)).mono ?_); rintro e w' ⟨rfl, rfl⟩; rw [HB.out]
        go_wp2_with fail
        go_ret
        exact ⟨ret_int (by rw [Hfin.out]), rfl⟩
      · rw [if_neg h3] at hfin
        have Hfin := Lib.hid hfin
        have hb0 : ((b : Int) == 0) = false := beq_eq_false_iff_ne.2 (by omega)
        clear hfin h3
        go_enter Tryd.func133, Tryd.ntmps133
        go_wp2_with fail
        refine ((prefix_dig _ _ (by unfold maxLen; omega)).mono ?_); rintro e w' ⟨rfl, rfl⟩; rw [HA.out]
        go_wp2_with fail
        refine ((prefix_dig _ _ (by unfold maxLen; simp; omega)).mono ?_); rintro e w' ⟨rfl, rfl⟩; rw [HB.out]
        go_wp2_with fail
        go_ret
        exact ⟨ret_int (by rw [Hfin.out]; omega), rfl⟩
    · rw [if_pos (by rw [hg]; right; simpa using h2)] at hfin
      have hn : ((s[a].toNat : Int) != 46) = true := by
        rw [bne_iff_ne]; intro h; exact h2 ((byte_46 _).2 h)
      have hne : ((a : Int) == (s.size : Int)) = false := beq_eq_false_iff_ne.2 (by omega)
      have Hfin := Lib.hid hfin
      clear hfin h2 hg h1
      unfold maxLen at hs
      go_enter Tryd.func133, Tryd.ntmps133
      go_wp2_with fail
      refine ((prefix_dig _ _ (by unfold maxLen; omega)).mono ?_); rintro e w' ⟨rfl, rfl⟩; rw [HA.out]
      go_wp2_with fail
      go_ret
      exact ⟨ret_int (by rw [Hfin.out]), rfl⟩
set_option maxHeartbeats 400000 in
theorem word_any (s : ByteArray) (w : World) (hs : s.size ≤ maxLen) :
    Calls Tryd.prog 135 #[.string s] w fun e w' => e = .returned (.tuple #[.int .i64 (if 20 < pre wd s.data.toList then -1 else 1), .int .i64 (if 20 < pre wd s.data.toList then 0 else pre wd s.data.toList)]) ∧ w = w' := by
  generalize hA : pre wd s.data.toList = a at *
  have HA := Lib.hid hA
  clear hA
  by_cases h : 20 < a
  · rw [if_pos h, if_pos h]
    go_enter Tryd.func135, Tryd.ntmps135
    go_wp2_with (go_at_call 146; refine ((prefix_wor _ _ hs).mono ?_); rintro e w' ⟨rfl, rfl⟩; rw [HA.out])
    go_ret2
    exact ⟨rfl, rfl⟩
  · rw [if_neg h, if_neg h]
    go_enter Tryd.func135, Tryd.ntmps135
    go_wp2_with (go_at_call 146; refine ((prefix_wor _ _ hs).mono ?_); rintro e w' ⟨rfl, rfl⟩; rw [HA.out])
    go_ret2
    exact ⟨rfl, rfl⟩
theorem list_cons (s : ByteArray) (h : 0 < s.size) : s.data.toList = s[0] :: s.data.toList.drop 1 := by
  have hg := get_byte s 0 h
  cases hl : s.data.toList with
  | nil => rw [hl] at hg; cases hg
  | cons c r => rw [hl] at hg; simp at hg; simp [hg]
theorem head_drop (s : ByteArray) : (s.data.toList.drop 1).head? = s.data.toList[1]? := by simp
set_option maxHeartbeats 1000000 in
theorem first_any (s : ByteArray) (w : World) (hs : s.size ≤ maxLen) (h0 : 0 < s.size) :
    Calls Tryd.prog 116 #[.string s] w fun e w' => e = .returned (.tuple #[.int .i64 (firstS s.data.toList).1, .int .i64 ((firstS s.data.toList).2 : Nat)]) ∧ w = w' := by
  have hl := list_cons s h0
  generalize hr : s.data.toList.drop 1 = r at *
  have hh : r.head? = s.data.toList[1]? := by rw [← hr, head_drop]
  have hf : firstS s.data.toList = firstS (s[0] :: r) := by rw [← hl]
  have Hf := Lib.hid hf
  have Hl := Lib.hid hl
  clear hf hl hr
  have hn : 0 < (s.size : Int) := by omega
  have hcase : (1 < s.size ∧ r.head? = some 61) ∨ ¬ (1 < s.size ∧ r.head? = some 61) := Classical.em _
  rcases hcase with ⟨h1, h2⟩ | h12
  · have hg := get_byte s 1 h1
    have h61 : (s[1].toNat : Int) = 61 := by
      rw [hh, hg] at h2; injection h2 with h2; rw [h2]; rfl
    have hb : ((s[1].toNat : Int) == 61) = true := beq_iff_eq.2 h61
    have H2 := Lib.hid h2
    clear h2 hg hh h61
    go_enter Tryd.func116, Tryd.ntmps116
    go_wp2_with (first | (go_at_call 132; refine ((isDigit_any _ _).mono ?_); rintro e w' ⟨rfl, rfl⟩) | (go_at_call 134; refine ((isLetter_any _ _).mono ?_); rintro e w' ⟨rfl, rfl⟩) | (go_at_call 131; refine ((comment_any _ _).mono ?_); rintro e w' ⟨rfl, rfl⟩) | (go_at_call 133; refine ((dnumber_any _ _ hs).mono ?_); rintro e w' ⟨rfl, rfl⟩) | (go_at_call 135; refine ((word_any _ _ hs).mono ?_); rintro e w' ⟨rfl, rfl⟩))
    all_goals
      go_ret2
      refine ⟨?_, rfl⟩
      rw [Hf.out]
      first
        | (simp [firstS, aloneB, H2.out, Hl.out, *]; done)
        | (have hq : 20 < pre wd (s[0] :: r) := by rw [← Hl.out]; assumption
           simp [firstS, aloneB, *]; done)
        | (have hq : ¬ 20 < pre wd (s[0] :: r) := by rw [← Hl.out]; assumption
           simp [firstS, aloneB, Hl.out, *]; done)
  · by_cases h1 : 1 < s.size
    · have hg := get_byte s 1 h1
      have h2 : ¬ r.head? = some 61 := fun h => h12 ⟨h1, h⟩
      have h61 : ¬ (s[1].toNat : Int) = 61 := by
        intro h; apply h2; rw [hh, hg]; congr 1; apply UInt8.toNat_inj.mp; simp; omega
      have hb : ((s[1].toNat : Int) == 61) = false := beq_eq_false_iff_ne.2 h61
      have H2 := Lib.hid h2
      clear h2 hg hh h61 h12
      go_enter Tryd.func116, Tryd.ntmps116
      go_wp2_with (first | (go_at_call 132; refine ((isDigit_any _ _).mono ?_); rintro e w' ⟨rfl, rfl⟩) | (go_at_call 134; refine ((isLetter_any _ _).mono ?_); rintro e w' ⟨rfl, rfl⟩) | (go_at_call 131; refine ((comment_any _ _).mono ?_); rintro e w' ⟨rfl, rfl⟩) | (go_at_call 133; refine ((dnumber_any _ _ hs).mono ?_); rintro e w' ⟨rfl, rfl⟩) | (go_at_call 135; refine ((word_any _ _ hs).mono ?_); rintro e w' ⟨rfl, rfl⟩))
      all_goals
        go_ret2
        refine ⟨?_, rfl⟩
        rw [Hf.out]
        first
          | (simp [firstS, aloneB, H2.out, Hl.out, *]; done)
          | (have hq : 20 < pre wd (s[0] :: r) := by rw [← Hl.out]; assumption
             simp [firstS, aloneB, *]; done)
          | (have hq : ¬ 20 < pre wd (s[0] :: r) := by rw [← Hl.out]; assumption
             simp [firstS, aloneB, Hl.out, *]; done)
    · have h2 : ¬ r.head? = some 61 := by
        rw [hh, List.getElem?_eq_none (by simp; omega)]; simp
      have H2 := Lib.hid h2
      clear h2 hh h12
      go_enter Tryd.func116, Tryd.ntmps116
      go_wp2_with (first | (go_at_call 132; refine ((isDigit_any _ _).mono ?_); rintro e w' ⟨rfl, rfl⟩) | (go_at_call 134; refine ((isLetter_any _ _).mono ?_); rintro e w' ⟨rfl, rfl⟩) | (go_at_call 131; refine ((comment_any _ _).mono ?_); rintro e w' ⟨rfl, rfl⟩) | (go_at_call 133; refine ((dnumber_any _ _ hs).mono ?_); rintro e w' ⟨rfl, rfl⟩) | (go_at_call 135; refine ((word_any _ _ hs).mono ?_); rintro e w' ⟨rfl, rfl⟩))
      all_goals
        go_ret2
        refine ⟨?_, rfl⟩
        rw [Hf.out]
        first
          | (simp [firstS, aloneB, H2.out, Hl.out, *]; done)
          | (have hq : 20 < pre wd (s[0] :: r) := by rw [← Hl.out]; assumption
             simp [firstS, aloneB, *]; done)
          | (have hq : ¬ 20 < pre wd (s[0] :: r) := by rw [← Hl.out]; assumption
             simp [firstS, aloneB, Hl.out, *]; done)
set_option maxHeartbeats 400000 in
theorem IsName_any (s : ByteArray) (w : World) (hs : s.size ≤ maxLen) :
    Calls Tryd.prog 95 #[.string s] w fun e w' => e = .returned (.bool (decide ((firstS s.data.toList).1 = 1 ∧ (firstS s.data.toList).2 = s.size))) ∧ w = w' := by
  by_cases h0 : s.data.toList = []
  · have he := empty_yes h0
    have hfin : decide ((firstS s.data.toList).1 = 1 ∧ (firstS s.data.toList).2 = s.size) = false := by rw [h0]; rfl
    have Hfin := Lib.hid hfin
    clear hfin h0
    go_enter Tryd.func95, Tryd.ntmps95
    go_wp2
    go_ret
    exact ⟨ret_bool (by rw [Hfin.out]), rfl⟩
  · have he := empty_no h0
    have hpos : 0 < s.size := by
      rcases Nat.eq_zero_or_pos s.size with h | h
      · exact absurd (List.eq_nil_of_length_eq_zero (by simpa using h)) h0
      · exact h
    generalize hF : firstS s.data.toList = F at *
    obtain ⟨k, n⟩ := F
    have HF := Lib.hid hF
    clear hF h0
    go_enter Tryd.func95, Tryd.ntmps95
    go_wp2_with (go_at_call 116; refine ((first_any _ _ hs hpos).mono ?_); rintro e w' ⟨rfl, rfl⟩; rw [HF.out])
    all_goals
      go_ret
      exact ⟨ret_bool (by rw [Bool.eq_iff_iff]; simp [*] <;> omega), rfl⟩
theorem letB_rng {c : Int} (h : letB c = true) : (97 ≤ c ∧ c ≤ 122) ∨ (65 ≤ c ∧ c ≤ 90) := by
  unfold letB at h; simp at h; omega
theorem digB_rng {c : Int} (h : digB c = true) : 48 ≤ c ∧ c ≤ 57 := by
  unfold digB at h; simp at h; omega
theorem letB_no {c : Int} (h : ¬ ((97 ≤ c ∧ c ≤ 122) ∨ (65 ≤ c ∧ c ≤ 90))) : letB c = false := by
  cases e : letB c with
  | false => rfl
  | true => exact absurd (letB_rng e) h
theorem digB_no {c : Int} (h : ¬ (48 ≤ c ∧ c ≤ 57)) : digB c = false := by
  cases e : digB c with
  | false => rfl
  | true => exact absurd (digB_rng e) h
theorem beq_no {a b : Int} (h : ¬ a = b) : (a == b) = false := beq_eq_false_iff_ne.2 h
theorem beq_yes {a b : Int} (h : a = b) : (a == b) = true := beq_iff_eq.2 h
theorem aloneB_no {c : Int} (h : c ≠ 45 ∧ c ≠ 43 ∧ c ≠ 44 ∧ c ≠ 59 ∧ c ≠ 47 ∧ c ≠ 61 ∧ c ≠ 40 ∧ c ≠ 41 ∧ c ≠ 42) : aloneB c = false := by
  unfold aloneB; simp; omega
theorem first_letter {c : UInt8} (r : List UInt8) (h : letB (c.toNat : Int) = true) : firstS (c :: r) = if 20 < pre wd (c :: r) then (-1, 0) else (1, pre wd (c :: r)) := by
  have hr := letB_rng h
  simp only [firstS]
  rw [beq_no (show ¬ (c.toNat : Int) = 32 by omega), beq_no (show ¬ (c.toNat : Int) = 9 by omega), beq_no (show ¬ (c.toNat : Int) = 35 by omega), beq_no (show ¬ (c.toNat : Int) = 10 by omega), beq_no (show ¬ (c.toNat : Int) = 62 by omega), beq_no (show ¬ (c.toNat : Int) = 60 by omega), beq_no (show ¬ (c.toNat : Int) = 58 by omega), aloneB_no (by omega), digB_no (by omega), h]
  rfl
theorem drop_cons' (s : ByteArray) (k : Nat) (h : k < s.size) : s.data.toList.drop k = s[k] :: s.data.toList.drop (k + 1) := by
  rw [List.drop_eq_getElem_cons (by simpa using h)]
  rfl
theorem pre_drop_le (p : UInt8 → Bool) (l : List UInt8) (i : Nat) (h : i ≤ l.length) : i + pre p (l.drop i) ≤ l.length := by
  have := pre_le p (l.drop i)
  rw [List.length_drop] at this
  omega
set_option maxHeartbeats 1000000 in
theorem refWord_any (s : ByteArray) (i : Nat) (w : World) (hs : s.size ≤ 1099511627776) (hi : i ≤ s.size) :
    Calls Tryd.prog 101 #[.string s, .int .i64 i] w fun e w' => e = .returned (.int .i64 ((i + pre wd (s.data.toList.drop i) : Nat) : Int)) ∧ w = w' := by
  obtain ⟨z, hz⟩ : ∃ z, z = i + pre wd (s.data.toList.drop i) := ⟨_, rfl⟩
  rw [← hz]
  have hzs : z ≤ s.size := by rw [hz]; have := pre_drop_le wd s.data.toList i (by simpa using hi); simpa using this
  have hiz : i ≤ z := by omega
  have hget : ∀ j, i ≤ j → (h : j < s.size) → (s.data.toList.drop i)[j - i]? = some s[j] := fun j h1 h => by
    rw [List.getElem?_drop, show i + (j - i) = j from by omega]; exact get_byte s j h
  have Hin := Lib.hid (fun (j : Nat) (h1 : i ≤ j) (h2 : j < z) (h : j < s.size) => pre_yes wd (s.data.toList.drop i) (j - i) (by omega) _ (hget j h1 h))
  have Hout := Lib.hid (fun (h : z < s.size) => pre_no wd (s.data.toList.drop i) s[z] (by rw [show pre wd (s.data.toList.drop i) = z - i from by omega]; exact hget z hiz h))
  clear hget hz
  go_enter Tryd.func101, Tryd.ntmps101
  go_wp2
  go_loop [1] (fun u => ∃ j : Nat, u = .int .i64 j ∧ i ≤ j ∧ j ≤ z) (fun u => s.size + 1 - (intOf u).toNat)
  case atStart => exact ⟨i, rfl, Nat.le_refl _, hiz⟩
  case round =>
    obtain ⟨j, rfl, hj1, hj2⟩ := hrel
    by_cases hjz : j < z
    · have hjs : j < s.size := by omega
      have hji : (j : Int) < (s.size : Int) := by omega
      have Hw : Hid (worB (s[j].toNat : Int) = true) := Lib.hid (Hin.out j hj1 hjz hjs)
      cases hl : letB (s[j].toNat : Int) with
      | true =>
        have Hl := Lib.hid hl
        clear hl
        go_wp2_with (go_at_call 100; refine ((refLetter_any _ _).mono ?_); rintro e w' ⟨rfl, rfl⟩; rw [Hl.out])
        go_round
        case rel => exact ⟨j + 1, by go_num, by omega, by omega⟩
        case measure => simp [intOf]; omega
      | false =>
        have Hl := Lib.hid hl
        cases hd : digB (s[j].toNat : Int) with
        | true =>
          have Hd := Lib.hid hd
          clear hl hd
          go_wp2_with (first | (go_at_call 100; refine ((refLetter_any _ _).mono ?_); rintro e w' ⟨rfl, rfl⟩; rw [Hl.out]) | (go_at_call 119; refine ((refDigit_any _ _).mono ?_); rintro e w' ⟨rfl, rfl⟩; rw [Hd.out]))
          go_round
          case rel => exact ⟨j + 1, by go_num, by omega, by omega⟩
          case measure => simp [intOf]; omega
        | false =>
          have Hd := Lib.hid hd
          have h95 : ((s[j].toNat : Int) == 95) = true := by have := Hw.out; unfold worB at this; rw [hl, hd] at this; simpa using this
          clear hl hd
          go_wp2_with (first | (go_at_call 100; refine ((refLetter_any _ _).mono ?_); rintro e w' ⟨rfl, rfl⟩; rw [Hl.out]) | (go_at_call 119; refine ((refDigit_any _ _).mono ?_); rintro e w' ⟨rfl, rfl⟩; rw [Hd.out]))
          go_round
          case rel => exact ⟨j + 1, by go_num, by omega, by omega⟩
          case measure => simp [intOf]; omega
    · obtain rfl : j = z := by omega
      by_cases hjs : j < s.size
      · have hji : (j : Int) < (s.size : Int) := by omega
        have hw : worB (s[j].toNat : Int) = false := Hout.out hjs
        have h3 : letB (s[j].toNat : Int) = false ∧ digB (s[j].toNat : Int) = false ∧ ((s[j].toNat : Int) == 95) = false := by
          unfold worB at hw; simp only [Bool.or_eq_false_iff] at hw; exact ⟨hw.1.1, hw.1.2, hw.2⟩
        have Hl := Lib.hid h3.1
        have Hd := Lib.hid h3.2.1
        have h95 := h3.2.2
        clear hw h3
        go_wp2_with (first | (go_at_call 100; refine ((refLetter_any _ _).mono ?_); rintro e w' ⟨rfl, rfl⟩; rw [Hl.out]) | (go_at_call 119; refine ((refDigit_any _ _).mono ?_); rintro e w' ⟨rfl, rfl⟩; rw [Hd.out]))
        go_ret
        exact ⟨rfl, rfl⟩
      · have hji : ¬ (j : Int) < (s.size : Int) := by omega
        go_wp2
        go_ret
        exact ⟨rfl, rfl⟩
/-- Whether a list of bytes is a name. -/
def namB (l : List UInt8) : Bool := decide ((firstS l).1 = 1 ∧ (firstS l).2 = l.length)
theorem namB_letter {c : UInt8} {r : List UInt8} (h : letB (c.toNat : Int) = true) : namB (c :: r) = (decide ((c :: r).length ≤ 20) && decide (pre wd (c :: r) = (c :: r).length)) := by
  have hle := pre_le wd (c :: r)
  unfold namB
  rw [first_letter r h]
  by_cases h20 : 20 < pre wd (c :: r)
  · rw [if_pos h20, decide_eq_false (show ¬ (c :: r).length ≤ 20 by omega)]
    rfl
  · rw [if_neg h20]
    by_cases he : pre wd (c :: r) = (c :: r).length
    · rw [decide_eq_true (show (c :: r).length ≤ 20 by omega), decide_eq_true he]
      exact decide_eq_true ⟨rfl, he⟩
    · rw [decide_eq_false he, Bool.and_false]
      exact decide_eq_false (fun x => he x.2)
theorem namB_other {c : UInt8} {r : List UInt8} (h : letB (c.toNat : Int) = false) : namB (c :: r) = false := by
  unfold namB
  refine decide_eq_false (fun x => ?_)
  have hx := x.1
  simp only [firstS] at hx
  rw [h] at hx
  simp only [Bool.false_eq_true, if_false] at hx
  revert hx
  repeat (first | (intro hx; omega) | split | (intro hx; simp at hx; done))
set_option maxHeartbeats 1000000 in
theorem refIsName_any (s : ByteArray) (w : World) (hs : s.size ≤ 100000) :
    Calls Tryd.prog 68 #[.string s] w fun e w' => e = .returned (.bool (namB s.data.toList)) ∧ w = w' := by
  by_cases h0 : s.size = 0
  · have hse : s = ⟨#[]⟩ := by
      apply Go.WideShapes.bytes_inj
      have : s.data.size = 0 := h0
      rw [Array.eq_empty_of_size_eq_zero this]
    subst hse
    go_enter Tryd.func68, Tryd.ntmps68
    go_wp2
    go_ret
    exact ⟨rfl, rfl⟩
  · have hpos : 0 < s.size := by omega
    have hp : (0 : Int) < (s.size : Int) := by omega
    have hb0 : ((s.size : Int) == 0) = false := beq_no (by omega)
    have hbe : ¬ s = ByteArray.empty := fun h => h0 (by rw [h]; rfl)
    have hl := drop_cons' s 0 hpos
    rw [List.drop_zero] at hl
    obtain ⟨z, hz⟩ : ∃ z : Nat, z = 0 + pre wd (s.data.toList.drop 0) := ⟨_, rfl⟩
    have hlen : s.data.toList.length = s.size := by simp
    by_cases hlt : letB (s[0].toNat : Int) = true
    · have hn := namB_letter (r := s.data.toList.drop (0 + 1)) hlt
      rw [← hl, hlen] at hn
      have hz' : pre wd s.data.toList = z := by rw [hz]; simp
      rw [hz'] at hn
      have Hn := Lib.hid hn
      have HZ := Lib.hid hz
      have Hlt := Lib.hid hlt
      clear hn hz hlt hl hlen hz'
      by_cases h20 : s.size ≤ 20
      · have h20i : ¬ (20 : Int) < (s.size : Int) := by omega
        go_enter Tryd.func68, Tryd.ntmps68
        go_wp2_with (first | (go_at_call 100; refine ((refLetter_any _ _).mono ?_); rintro e w' ⟨rfl, rfl⟩; rw [Hlt.out]) | (go_at_call 101; refine ((refWord_any s 0 _ (by omega) (by omega)).mono ?_); rintro e w' ⟨rfl, rfl⟩; rw [← HZ.out]))
        all_goals
          go_ret
          exact ⟨ret_bool (by rw [Hn.out, decide_eq_true h20, Bool.eq_iff_iff]; simp; omega), rfl⟩
      · have h20i : (20 : Int) < (s.size : Int) := by omega
        go_enter Tryd.func68, Tryd.ntmps68
        go_wp2
        go_ret
        exact ⟨ret_bool (by rw [Hn.out, decide_eq_false h20]; rfl), rfl⟩
    · have hlt' : letB (s[0].toNat : Int) = false := by simpa using hlt
      have hn := namB_other (r := s.data.toList.drop (0 + 1)) hlt'
      rw [← hl] at hn
      have Hn := Lib.hid hn
      have Hlt := Lib.hid hlt'
      clear hn hz hlt hlt' hl hlen
      by_cases h20 : s.size ≤ 20
      · have h20i : ¬ (20 : Int) < (s.size : Int) := by omega
        go_enter Tryd.func68, Tryd.ntmps68
        go_wp2_with (go_at_call 100; refine ((refLetter_any _ _).mono ?_); rintro e w' ⟨rfl, rfl⟩; rw [Hlt.out])
        go_ret
        exact ⟨ret_bool (by rw [Hn.out]), rfl⟩
      · have h20i : (20 : Int) < (s.size : Int) := by omega
        go_enter Tryd.func68, Tryd.ntmps68
        go_wp2
        go_ret
        exact ⟨ret_bool (by rw [Hn.out]), rfl⟩

end Go.Proofs.YtcghjjfpjiacfaaDoor
