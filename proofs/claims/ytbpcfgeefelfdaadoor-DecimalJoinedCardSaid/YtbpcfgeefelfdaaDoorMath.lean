/- Plain mathematics of the tokens: what begins a list of bytes, and the tokens of a list. Nothing here speaks of Go. -/
import Derived.Lib.Hide
namespace Go.Proofs.YtbpcfgeefelfdaaDoor

def digB (c : Int) : Bool := decide (48 ≤ c) && decide (c ≤ 57)
def letB (c : Int) : Bool := (decide (97 ≤ c) && decide (c ≤ 122)) || (decide (65 ≤ c) && decide (c ≤ 90))
def worB (c : Int) : Bool := letB c || digB c || (c == 95)
def bi (c : UInt8) : Int := (c.toNat : Int)
def dg (c : UInt8) : Bool := digB (c.toNat : Int)
def lt' (c : UInt8) : Bool := letB (c.toNat : Int)
def wd (c : UInt8) : Bool := worB (c.toNat : Int)
def nl (c : UInt8) : Bool := !((c.toNat : Int) == 10)

/-- How many elements at the beginning have the property. -/
def pre (p : UInt8 → Bool) : List UInt8 → Nat
  | [] => 0
  | c :: r => if p c then pre p r + 1 else 0

theorem pre_le (p : UInt8 → Bool) : ∀ l, pre p l ≤ l.length
  | [] => by simp [pre]
  | c :: r => by
    have := pre_le p r
    unfold pre
    split <;> simp <;> omega

theorem pre_eq (p : UInt8 → Bool) : ∀ (l : List UInt8) (k : Nat), k ≤ l.length → (∀ j, j < k → ∀ c, l[j]? = some c → p c = true) → (∀ c, l[k]? = some c → p c = false) → pre p l = k
  | [], k, hk, _, _ => by simp at hk; simp [pre, hk]
  | c :: r, 0, _, _, h2 => by
    have := h2 c (by simp)
    simp [pre, this]
  | c :: r, k + 1, hk, h1, h2 => by
    have h0 := h1 0 (by omega) c (by simp)
    have ih := pre_eq p r k (by simpa using hk) (fun j hj d hd => h1 (j + 1) (by omega) d (by simpa using hd)) (fun d hd => h2 d (by simpa using hd))
    simp [pre, h0, ih]

theorem pre_yes (p : UInt8 → Bool) : ∀ (l : List UInt8) (j : Nat), j < pre p l → ∀ c, l[j]? = some c → p c = true
  | [], j, hj, _, _ => by simp [pre] at hj
  | d :: r, j, hj, c, hc => by
    unfold pre at hj
    split at hj
    · match j with
      | 0 => simp at hc; subst hc; assumption
      | j + 1 => exact pre_yes p r j (by omega) c (by simpa using hc)
    · omega

theorem pre_no (p : UInt8 → Bool) : ∀ (l : List UInt8), ∀ c, l[pre p l]? = some c → p c = false
  | [], c, hc => by simp [pre] at hc
  | d :: r, c, hc => by
    unfold pre at hc
    split at hc
    · exact pre_no p r c (by simpa using hc)
    · simp at hc; subst hc; simp_all

/-- A number at the beginning: its digits, and those behind a point. -/
def numS (l : List UInt8) : Nat :=
  let a := pre dg l
  if a = l.length ∨ l[a]? ≠ some 46 then a
  else if pre dg (l.drop (a + 1)) = 0 then a else a + 1 + pre dg (l.drop (a + 1))

/-- Bytes that are symbols alone, whatever follows. -/
def aloneB (c : Int) : Bool := c == 45 || c == 43 || c == 44 || c == 59 || c == 47 || c == 61 || c == 40 || c == 41 || c == 42

/-- The kind and the size of what a list begins with. -/
def firstS : List UInt8 → Int × Nat
  | [] => (-1, 0)
  | c :: r =>
    if ((c.toNat : Int) == 32) || ((c.toNat : Int) == 9) then (0, 1)
    else if (c.toNat : Int) == 35 then (0, pre nl (c :: r))
    else if (c.toNat : Int) == 10 then (4, 1)
    else if ((c.toNat : Int) == 62) || ((c.toNat : Int) == 60) || ((c.toNat : Int) == 58) then (if r.head? = some 61 then (3, 2) else (3, 1))
    else if aloneB c.toNat then (3, 1)
    else if digB c.toNat then (2, numS (c :: r))
    else if letB c.toNat then (if 20 < pre wd (c :: r) then (-1, 0) else (1, pre wd (c :: r)))
    else (-1, 0)

structure Tok where
  kind : Int
  text : List UInt8
  line : Nat
  col : Nat

/-- The tokens: the list, or the place of the error. -/
inductive Toks where
  | all (l : List Tok)
  | bad (line col : Nat)

def tokGo : Nat → List Tok → Nat → Nat → List UInt8 → Toks
  | _, acc, line, col, [] => .all (acc ++ [⟨5, [], line, col⟩])
  | 0, _, line, col, _ => .bad line col
  | f + 1, acc, line, col, c :: r =>
    let k := (firstS (c :: r)).1
    let n := (firstS (c :: r)).2
    if k = -1 then .bad line col
    else if k = 0 then tokGo f acc line (col + n) ((c :: r).drop n)
    else if k = 4 then tokGo f (acc ++ [⟨4, [], line, col⟩]) (line + 1) 1 ((c :: r).drop n)
    else tokGo f (acc ++ [⟨k, (c :: r).take n, line, col⟩]) line (col + n) ((c :: r).drop n)

end Go.Proofs.YtbpcfgeefelfdaaDoor
