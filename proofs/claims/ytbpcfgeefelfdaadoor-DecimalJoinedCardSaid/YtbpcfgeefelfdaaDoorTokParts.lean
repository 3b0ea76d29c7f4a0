/- The relation of the loop of Tokens, and what each round does to it. -/
import Derived.Test.YtbpcfgeefelfdaaDoorTok2
import Derived.StillTailTactics
import Derived.Laws.OwnMore
import Derived.RegionTactic
import Derived.ChangeAlike
import Derived.Laws.Rows
import Derived.OneCell
namespace Go.Proofs.YtbpcfgeefelfdaaDoor
open Go.RowKit

def bytesOf (l : List UInt8) : ByteArray := ⟨l.toArray⟩
def tokCells (t : Tok) : List Value := [.int .i64 t.kind, .string (bytesOf t.text), .int .i64 t.line, .int .i64 t.col]
def accCells (l : List Tok) : List Value := l.flatMap tokCells

theorem accCells_snoc (l : List Tok) (t : Tok) : accCells (l ++ [t]) = accCells l ++ tokCells t := by simp [accCells]
theorem accCells_len (l : List Tok) : (accCells l).length = l.length * 4 := by
  induction l with
  | nil => rfl
  | cons a r ih => simp [accCells, tokCells] at ih ⊢; omega

/-- Block g holds just these cells of type t, none of them frozen. -/
def Has (w : World) (g : Nat) (t : TypeId) (cs : Array Value) : Prop := w.heap[g]? = some (.cells cs t (0, 0))

theorem Has.cell {w : World} {g : Nat} {t : TypeId} {cs : Array Value} (h : Has w g t cs) (i : Nat) : w.cell? ⟨g, i, none⟩ = cs[i]? := cell_of_row w g i cs t (0, 0) h
theorem Has.free {w : World} {g : Nat} {t : TypeId} {cs : Array Value} (h : Has w g t cs) (i : Nat) : w.frozen? ⟨g, i, none⟩ = false := frozen_of_row w g i cs t h
theorem Has.lt {w : World} {g : Nat} {t : TypeId} {cs : Array Value} (h : Has w g t cs) : g < w.heap.size := lt_of_block h
theorem Has.alloc {w : World} {g : Nat} {t : TypeId} {cs : Array Value} (h : Has w g t cs) (o : Obj) : Has (w.alloc o) g t cs :=
  (Below.heap_alloc w o g h.lt).trans h
theorem Has.set {w : World} {g : Nat} {t : TypeId} {cs : Array Value} (h : Has w g t cs) (i : Nat) (v : Value) : Has (w.setCell ⟨g, i, none⟩ v) g t (cs.setIfInBounds i v) := by
  have h' : w.heap[g]? = some (.cells cs t (0, 0)) := h
  unfold Has World.setCell
  simp [Array.getElem?_modify, h']
theorem Has.other {w : World} {g : Nat} {t : TypeId} {cs : Array Value} (h : Has w g t cs) {a : Addr} (ha : g ≠ a.block) (v : Value) : Has (w.setCell a v) g t cs :=
  (heap_setCell_other w a g v ha).trans h
theorem Has.drew {w : World} {g : Nat} {t : TypeId} {cs : Array Value} (h : Has w g t cs) : Has w.drew g t cs := h
theorem Has.grown {w w' : World} {g : Nat} {t : TypeId} {cs : Array Value} {row : Option Nat} (h : Has w g t cs) (hg : w.grownBy w' row) (hn : some g ≠ row) : Has w' g t cs :=
  (hg.block g h.lt hn).trans h

theorem four_new (w : World) (a b c d : Value) (t : TypeId) : ∀ j u, [a, b, c, d][j]? = some u → (w.alloc (.cells #[a, b, c, d] t)).cell? ((⟨w.heap.size, 0, none⟩ : Addr).add j) = some u := by
  intro j u h
  have hh : Has (w.alloc (.cells #[a, b, c, d] t)) w.heap.size t #[a, b, c, d] := heap_alloc_new w _
  match j, h with
  | 0, h => exact (hh.cell 0).trans (by simpa using h)
  | 1, h => exact (hh.cell 1).trans (by simpa using h)
  | 2, h => exact (hh.cell 2).trans (by simpa using h)
  | 3, h => exact (hh.cell 3).trans (by simpa using h)
  | j + 4, h => simp at h

theorem tok_one (t : Tok) : ∀ u ∈ tokCells t, u.oneCell' = true := by
  intro u hu
  simp [tokCells] at hu
  rcases hu with rfl | rfl | rfl | rfl <;> rfl

theorem own_ne {w : World} {base : Nat} {e : TypeId} {size : Nat} {v : Value} {n : Nat} {xs : List Value} (h : w.ownsRow base e size v n xs) {g : Nat} (hg : g < base) : some g ≠ v.ownBlock := by
  intro he
  have := (h.lt g he.symm).1
  omega

theorem below_grown {B : Nat} {w wr w1 : World} {o : Obj} {row : Option Nat} (h : Below B w wr) (hB : B ≤ wr.heap.size) (hg : (wr.alloc o).grownBy w1 row) (hr : ∀ k, row = some k → B ≤ k) : Below B w w1 :=
  (h.alloc hB o).trans ⟨hg.os, hg.tape, hg.output, hg.size, fun k hk => hg.block k (by simp; omega) (fun e => by have := hr k e.symm; omega)⟩

theorem own_ge {w : World} {base B : Nat} {e : TypeId} {size : Nat} {v : Value} {n : Nat} {xs : List Value} (h : w.ownsRow base e size v n xs) (hB : B ≤ base) : ∀ k, v.ownBlock = some k → B ≤ k :=
  fun k hk => Nat.le_trans hB (h.lt k hk).1

theorem grown_undrew {w w1 : World} {row : Option Nat} (h : w.drew.grownBy w1 row) : w.grownBy w1 row := ⟨h.os, h.tape, h.output, h.size, h.block⟩

theorem tok_text (k : Int) (t : ByteArray) (n line col : Nat) : tokCells ⟨k, t.data.toList.take n, line, col⟩ = [.int .i64 k, .string (t.extract 0 n), .int .i64 line, .int .i64 col] := by
  have e : bytesOf (t.data.toList.take n) = t.extract 0 n := by
    apply Go.WideShapes.bytes_inj
    rw [Lib.extract_data]
    simp [bytesOf]
  simp [tokCells, e]

theorem size_pos {s : ByteArray} (h : s.data.toList ≠ []) : 0 < s.size := by
  rcases Nat.eq_zero_or_pos s.size with e | e
  · exact absurd (List.eq_nil_of_length_eq_zero (by simpa using e)) h
  · exact e

/-- What holds at the head of each round: B is the number of blocks at the call's begin. -/
structure TokRel (s : ByteArray) (B : Nat) (w wr : World) (t : ByteArray) (v : Value) (acc : List Tok) (line col : Nat) : Prop where
  own : wr.ownsRow (B + 2) 30 4 v acc.length (accCells acc)
  res : Has wr B 25 #[.int .i64 0, .int .i64 0]
  pos : Has wr (B + 1) 25 #[.int .i64 line, .int .i64 col]
  bel : Below B w wr
  len : acc.length + t.size ≤ s.size
  lin : line + t.size ≤ 1 + s.size
  clm : col + t.size ≤ 1 + s.size
  go : tokGo t.size acc line col t.data.toList = tokGo s.size [] 1 1 s.data.toList

theorem ext_list (t : ByteArray) (n : Nat) : (t.extract n t.size).data.toList = t.data.toList.drop n := Lib.extract_to_end t n
theorem ext_size (t : ByteArray) (n : Nat) : (t.extract n t.size).size = t.size - n := by simp

/-- The step of the equation of the tokens, in the words of the text that is left. -/
theorem go_step {s t : ByteArray} {n : Nat} {acc acc' : List Tok} {line col line' col' : Nat}
    (h : tokGo t.size acc line col t.data.toList = tokGo s.size [] 1 1 s.data.toList)
    (hs : tokGo t.size acc line col t.data.toList = tokGo (List.drop n t.data.toList).length acc' line' col' (List.drop n t.data.toList)) :
    tokGo (t.extract n t.size).size acc' line' col' (t.extract n t.size).data.toList = tokGo s.size [] 1 1 s.data.toList := by
  rw [← h, hs, ext_list, ext_size, List.length_drop]
  simp

theorem rel_blank {s : ByteArray} {B : Nat} {w wr : World} {t : ByteArray} {v : Value} {acc : List Tok} {line col n : Nat} (R : TokRel s B w wr t v acc line col) (h1 : 1 ≤ n) (h2 : n ≤ t.size)
    (hs : tokGo t.size acc line col t.data.toList = tokGo (List.drop n t.data.toList).length acc line (col + n) (List.drop n t.data.toList)) :
    TokRel s B w (wr.setCell ⟨B + 1, 1, none⟩ (.int .i64 ((col : Int) + (n : Int)))) (t.extract n t.size) v acc line (col + n) where
  own := ownsRow_setCell_other R.own (own_ne R.own (by simp)).symm _
  res := R.res.other (by simp) _
  pos := by
    have := R.pos.set 1 (.int .i64 ((col : Int) + (n : Int)))
    simpa using this
  bel := R.bel.setCell (by simp) _
  len := by have := R.len; rw [ext_size]; omega
  lin := by have := R.lin; rw [ext_size]; omega
  clm := by have := R.clm; rw [ext_size]; omega
  go := go_step R.go hs

theorem rel_tok {s : ByteArray} {B : Nat} {w wr w1 : World} {t : ByteArray} {v v' : Value} {acc : List Tok} {line col n : Nat} (tk : Tok) (R : TokRel s B w wr t v acc line col) (h1 : 1 ≤ n) (h2 : n ≤ t.size)
    (hown : w1.ownsRow (B + 2) 30 4 v' (acc.length + 1) (accCells acc ++ tokCells tk)) (hres : Has w1 B 25 #[.int .i64 0, .int .i64 0]) (hpos : Has w1 (B + 1) 25 #[.int .i64 line, .int .i64 col]) (hbel : Below B w w1)
    (hs : tokGo t.size acc line col t.data.toList = tokGo (List.drop n t.data.toList).length (acc ++ [tk]) line (col + n) (List.drop n t.data.toList)) :
    TokRel s B w (w1.setCell ⟨B + 1, 1, none⟩ (.int .i64 ((col : Int) + (n : Int)))) (t.extract n t.size) v' (acc ++ [tk]) line (col + n) where
  own := by
    rw [accCells_snoc, List.length_append]
    exact ownsRow_setCell_other hown (own_ne hown (by simp)).symm _
  res := hres.other (by simp) _
  pos := by
    have := hpos.set 1 (.int .i64 ((col : Int) + (n : Int)))
    simpa using this
  bel := hbel.setCell (by simp) _
  len := by have := R.len; rw [ext_size, List.length_append, List.length_singleton]; omega
  lin := by have := R.lin; rw [ext_size]; omega
  clm := by have := R.clm; rw [ext_size]; omega
  go := go_step R.go hs

theorem rel_line {s : ByteArray} {B : Nat} {w wr w1 : World} {t : ByteArray} {v v' : Value} {acc : List Tok} {line col n : Nat} (tk : Tok) (R : TokRel s B w wr t v acc line col) (h1 : 1 ≤ n) (h2 : n ≤ t.size)
    (hown : w1.ownsRow (B + 2) 30 4 v' (acc.length + 1) (accCells acc ++ tokCells tk)) (hres : Has w1 B 25 #[.int .i64 0, .int .i64 0]) (hpos : Has w1 (B + 1) 25 #[.int .i64 line, .int .i64 col]) (hbel : Below B w w1) (a : Value)
    (hs : tokGo t.size acc line col t.data.toList = tokGo (List.drop n t.data.toList).length (acc ++ [tk]) (line + 1) 1 (List.drop n t.data.toList)) :
    TokRel s B w (((w1.setCell ⟨B + 1, 1, none⟩ a).setCell ⟨B + 1, 0, none⟩ (.int .i64 ((line : Int) + 1))).setCell ⟨B + 1, 1, none⟩ (.int .i64 1)) (t.extract n t.size) v' (acc ++ [tk]) (line + 1) 1 where
  own := by
    rw [accCells_snoc, List.length_append]
    have h0 := ownsRow_setCell_other hown (a := ⟨B + 1, 1, none⟩) (own_ne hown (by simp)).symm a
    have h1 := ownsRow_setCell_other h0 (a := ⟨B + 1, 0, none⟩) (own_ne h0 (by simp)).symm (.int .i64 ((line : Int) + 1))
    exact ownsRow_setCell_other h1 (a := ⟨B + 1, 1, none⟩) (own_ne h1 (by simp)).symm (.int .i64 1)
  res := ((hres.other (by simp) _).other (by simp) _).other (by simp) _
  pos := by
    have := ((hpos.set 1 a).set 0 (.int .i64 ((line : Int) + 1))).set 1 (.int .i64 1)
    simpa using this
  bel := ((hbel.setCell (by simp) _).setCell (by simp) _).setCell (by simp) _
  len := by have := R.len; rw [ext_size, List.length_append, List.length_singleton]; omega
  lin := by have := R.lin; rw [ext_size]; omega
  clm := by have := R.clm; rw [ext_size]; omega
  go := go_step R.go hs

end Go.Proofs.YtbpcfgeefelfdaaDoor
