/- Plain mathematics of reading numbers: the form of a text, and the value of its digits. Nothing here speaks of Go. -/
import Derived.Test.YtbpcfgeefelfdaaDoorMath
namespace Go.Proofs.YtbpcfgeefelfdaaDoor

def dsB (l : List UInt8) : Bool := !l.isEmpty && (pre dg l == l.length)
def wholeB (l : List UInt8) : Bool := dsB l && (l == [48] || !(l.head? == some 48))
def partB (l : List UInt8) (k : Nat) : Bool := dsB l && decide (l.length ≤ k)

/-- What a digit is worth. -/
def dv (c : UInt8) : Int := (c.toNat : Int) - 48

/-- The value of digits behind a number; none where it does not fit. -/
def valGo : Int → List UInt8 → Option Int
  | n, [] => some n
  | n, c :: r => if (1152921504606846976 - dv c) / 10 < n then none else valGo (10 * n + dv c) r

/-- The digits that a text without a sign stands for, with k of them behind the point. -/
def formS (u : List UInt8) (k : Nat) : Option (List UInt8) :=
  if pre dg u = 0 ∨ (1 < pre dg u ∧ u.head? = some 48) then none
  else if pre dg u = u.length then some (u ++ List.replicate k 48)
  else if u[pre dg u]? = some 46 ∧ partB (u.drop (pre dg u + 1)) k = true then some (u.take (pre dg u) ++ u.drop (pre dg u + 1) ++ List.replicate (k - (u.drop (pre dg u + 1)).length) 48)
  else none

def unS (l : List UInt8) : List UInt8 := if l.head? = some 45 then l.drop 1 else l

/-- The number of a text, and the number of the error. -/
def parseS (l : List UInt8) (k : Nat) : Int × Int :=
  match formS (unS l) k with
  | none => (0, 7)
  | some ds => match valGo 0 ds with
    | none => (0, 5)
    | some n => (if l.head? = some 45 then -n else n, 0)

theorem pre_all (p : UInt8 → Bool) (l : List UInt8) (h : pre p l = l.length) : ∀ c ∈ l, p c = true := by
  intro c hc
  obtain ⟨j, hj, rfl⟩ := List.getElem_of_mem hc
  exact pre_yes p l j (by omega) _ (List.getElem?_eq_getElem hj)

theorem pre_of_all (p : UInt8 → Bool) (l : List UInt8) (h : ∀ c ∈ l, p c = true) : pre p l = l.length :=
  pre_eq p l l.length (Nat.le_refl _) (fun j hj c hc => h c (List.mem_of_getElem? hc)) (fun c hc => by rw [List.getElem?_eq_none (Nat.le_refl _)] at hc; cases hc)

theorem valGo_bd : ∀ (l : List UInt8) (n m : Int), (∀ c ∈ l, dg c = true) → 0 ≤ n → n ≤ 1152921504606846976 → valGo n l = some m → 0 ≤ m ∧ m ≤ 1152921504606846976
  | [], n, m, _, h0, h1, h => by simp [valGo] at h; omega
  | c :: r, n, m, hd, h0, h1, h => by
    have hc := hd c (by simp)
    have hv : 0 ≤ dv c ∧ dv c ≤ 9 := by
      simp [dg, digB] at hc; unfold dv; omega
    unfold valGo at h
    split at h
    · cases h
    · exact valGo_bd r _ m (fun x hx => hd x (by simp [hx])) (by omega) (by omega) h

theorem dg_46 : dg 46 = false := by decide
theorem dg_48 : dg 48 = true := by decide

end Go.Proofs.YtbpcfgeefelfdaaDoor
