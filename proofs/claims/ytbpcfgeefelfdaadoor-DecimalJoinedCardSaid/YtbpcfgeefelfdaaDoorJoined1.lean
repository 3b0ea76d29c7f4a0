/- What the walk of DecimalJoined wants to know of the text's tokens. -/
import Derived.Test.YtbpcfgeefelfdaaDoorJoinMath2
import Derived.Test.YtbpcfgeefelfdaaDoorSame
import Derived.Test.YtbpcfgeefelfdaaDoorShelf
namespace Go.Proofs.YtbpcfgeefelfdaaDoor
open Go.RowKit

theorem tokGo_ne' : ∀ (f : Nat) (acc : List Tok) (line col : Nat) (l : List UInt8) (ts : List Tok), tokGo f acc line col l = .all ts → ts ≠ []
  | f, acc, line, col, [], ts, h => by
    have : tokGo f acc line col [] = .all (acc ++ [⟨5, [], line, col⟩]) := by cases f <;> rfl
    rw [this] at h
    injection h with h
    rw [← h]; simp
  | 0, acc, line, col, c :: r, ts, h => by simp [tokGo] at h
  | f + 1, acc, line, col, c :: r, ts, h => by
    unfold tokGo at h
    simp only at h
    split at h
    · cases h
    · split at h
      · exact tokGo_ne' f _ _ _ _ ts h
      · split at h
        · exact tokGo_ne' f _ _ _ _ ts h
        · exact tokGo_ne' f _ _ _ _ ts h

theorem tokGo_len' : ∀ (f : Nat) (acc : List Tok) (line col : Nat) (l : List UInt8) (ts : List Tok), tokGo f acc line col l = .all ts → ts.length ≤ acc.length + f + 1
  | f, acc, line, col, [], ts, h => by
    have : tokGo f acc line col [] = .all (acc ++ [⟨5, [], line, col⟩]) := by cases f <;> rfl
    rw [this] at h
    injection h with h
    rw [← h, List.length_append, List.length_singleton]; omega
  | 0, acc, line, col, c :: r, ts, h => by simp [tokGo] at h
  | f + 1, acc, line, col, c :: r, ts, h => by
    unfold tokGo at h
    simp only at h
    split at h
    · cases h
    · split at h
      · have := tokGo_len' f _ _ _ _ ts h; omega
      · split at h
        · have := tokGo_len' f _ _ _ _ ts h; simp at this; omega
        · have := tokGo_len' f _ _ _ _ ts h; simp at this; omega

theorem own_cells' {w : World} {base : Nat} {v : Value} {ts : List Tok} (h : w.ownsRow base 30 4 v ts.length (accCells ts)) (hne : ts ≠ []) :
    ∃ g c, v = .slice (some ⟨g, 0, none⟩) ts.length c ∧ g < w.heap.size ∧ ∀ j u, (accCells ts)[j]? = some u → w.cell? ⟨g, j, none⟩ = some u := by
  have hn : 0 < ts.length := List.length_pos_iff.2 hne
  obtain ⟨g, c, hv, _, hlt⟩ := h.form hn
  subst hv
  refine ⟨g, c, rfl, hlt, fun j u hj => ?_⟩
  have := h.cells (g := g) rfl j u hj
  rw [show (⟨g, 0, none⟩ : Addr).add j = ⟨g, j, none⟩ from by unfold Addr.add; split <;> simp_all] at this
  exact this

/-- The lines of a text as strings. -/
def linesB (s : ByteArray) : List ByteArray := Lib.splitB ⟨#[10]⟩ 0 (Lib.countB s ⟨#[10]⟩) s
theorem linesB_data (s : ByteArray) : (linesB s).map (·.data.toList) = spl s.data.toList := by
  rw [linesB, Lib.splitB_data, ← spl_split]
  rfl
theorem linesB_len (s : ByteArray) : (linesB s).length = Lib.countB s ⟨#[10]⟩ + 1 := Lib.splitB_all ⟨#[10]⟩ (by decide) 0 _ s rfl

theorem linesB_le (s : ByteArray) : (linesB s).length ≤ s.size + 1 := by
  have h := spl_len s.data.toList
  rw [← linesB_data, List.length_map] at h
  simpa using h

/-- A token's line and column, as the walk reads them. -/
structure At (s : ByteArray) (t : Tok) (ln cl : Nat) (x : ByteArray) : Prop where
  line : t.line = ln + 1
  col : t.col = cl + 1
  get : (linesB s)[ln]? = some x
  le : cl ≤ x.size
  size : x.size ≤ s.size
  pre : Lib.hasPrefix (x.extract cl x.size).data.toList t.text = true

theorem at_of (s : ByteArray) (t : Tok) (P : Placed s.data.toList t.line t.col t.text) : ∃ ln cl x, At s t ln cl x := by
  obtain ⟨h1, h2, y, h3, h4, h5⟩ := P
  rw [← linesB_data, List.getElem?_map] at h3
  obtain ⟨x, hx, rfl⟩ := Option.map_eq_some_iff.1 h3
  have hm : x.data.toList ∈ spl s.data.toList := by rw [← linesB_data]; exact List.mem_map_of_mem (List.mem_of_getElem? hx)
  have hle := spl_each _ _ hm
  have e1 : x.data.toList.length = x.size := by simp
  have e2 : s.data.toList.length = s.size := by simp
  refine ⟨t.line - 1, t.col - 1, x, by omega, by omega, hx, by omega, by omega, ?_⟩
  rw [ext_list]
  exact h5

/-- All that is known of the tokens. -/
structure Known (s : ByteArray) (ts ts0 : List Tok) (l' c' : Nat) : Prop where
  eq : ts = ts0 ++ [⟨5, [], l', c'⟩]
  fine : ∀ t ∈ ts0, Fine t
  at' : ∀ t ∈ ts, ∃ ln cl x, At s t ln cl x
  asc : ∀ (i : Nat) (a b : Tok), ts[i]? = some a → ts[i + 1]? = some b → a.line < b.line ∨ a.line = b.line ∧ a.col < b.col
  size : (joinedL ts0).length ≤ 2 * s.size
  len : ts.length ≤ s.size + 1

theorem known (s : ByteArray) (ts : List Tok) (h : tokGo s.size [] 1 1 s.data.toList = .all ts) : ∃ ts0 l' c', Known s ts ts0 l' c' := by
  have hl := tokGo_len' _ _ _ _ _ _ h
  have e2 : s.data.toList.length = s.size := by simp
  rw [← e2] at h
  obtain ⟨ts0, l', c', e, f1, f2, f3, f4⟩ := tok_facts s.data.toList _ s.data.toList [] ts 1 1 (Nat.le_refl _) (Spot.start _) h
  simp only [List.nil_append] at e
  subst e
  exact ⟨ts0, l', c', rfl, f1, fun t ht => at_of s t (f2 t ht), fun i a b => f3.next i a b, by omega, by simpa using hl⟩

/-- The cells of the texts' list. -/
def partCells (ts : List Tok) : List Value := ts.map fun t => .string (bytesOf (part t))

theorem known_join (s : ByteArray) (ts ts0 : List Tok) (l' c' : Nat) (K : Known s ts ts0 l' c') : Lib.join (((ts.map fun t => bytesOf (part t))).map (·.data.toList)) (⟨#[32]⟩ : ByteArray).data.toList = joinedL ts0 := by
  rw [K.eq, ← join_parts]
  simp [bytesOf, part, Function.comp_def]
  rfl

/-- The joined text has the same tokens. -/
theorem known_again (s : ByteArray) (ts ts0 : List Tok) (l' c' : Nat) (K : Known s ts ts0 l' c') : ∃ us, tokGo (bytesOf (joinedL ts0)).size [] 1 1 (bytesOf (joinedL ts0)).data.toList = .all us ∧ us ≠ [] ∧ ts.map (fun t => (t.kind, t.text)) = us.map (fun t => (t.kind, t.text)) := by
  obtain ⟨us, a, b, e1, e2⟩ := again ts0 K.fine [] 1 1
  have hs : (bytesOf (joinedL ts0)).size = (joinedL ts0).length := by simp [bytesOf, ByteArray.size]
  refine ⟨_, by rw [hs]; exact e1, by simp, ?_⟩
  rw [K.eq]
  simp [e2]

end Go.Proofs.YtbpcfgeefelfdaaDoor
