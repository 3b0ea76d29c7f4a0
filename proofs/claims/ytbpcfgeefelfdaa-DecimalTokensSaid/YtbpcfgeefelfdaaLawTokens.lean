/- The walk of the law DecimalTokens. -/
import Derived.Test.YtbpcfgeefelfdaaAwake
import Derived.Test.YtbpcfgeefelfdaaRefTok3
import Derived.Test.YtbpcfgeefelfdaaEqual
namespace Go.Proofs.Ytbpcfgeefelfdaa
open Go.RowKit

theorem tokGo_ne : ∀ (f : Nat) (acc : List Tok) (line col : Nat) (l : List UInt8) (ts : List Tok), tokGo f acc line col l = .all ts → ts ≠ []
  | f, acc, line, col, [], ts, h => by
    have : tokGo f acc line col [] = .all (acc ++ [⟨5, [], line, col⟩]) := by cases f <;> rfl
    rw [this] at h
    injection h with h
    rw [← h]; simp
  | 0, acc, line, col, c :: r, ts, h => by simp [tokGo] at h
  | f + 1, acc, line, col, c :: r, ts, h => by
    unfold tokGo at h
    simp only at h
    split at h
    · cases h
    · split at h
      · exact tokGo_ne f _ _ _ _ ts h
      · split at h
        · exact tokGo_ne f _ _ _ _ ts h
        · exact tokGo_ne f _ _ _ _ ts h

theorem tokGo_len : ∀ (f : Nat) (acc : List Tok) (line col : Nat) (l : List UInt8) (ts : List Tok), tokGo f acc line col l = .all ts → ts.length ≤ acc.length + f + 1
  | f, acc, line, col, [], ts, h => by
    have : tokGo f acc line col [] = .all (acc ++ [⟨5, [], line, col⟩]) := by cases f <;> rfl
    rw [this] at h
    injection h with h
    rw [← h, List.length_append, List.length_singleton]; omega
  | 0, acc, line, col, c :: r, ts, h => by simp [tokGo] at h
  | f + 1, acc, line, col, c :: r, ts, h => by
    unfold tokGo at h
    simp only at h
    split at h
    · cases h
    · split at h
      · have := tokGo_len f _ _ _ _ ts h; omega
      · split at h
        · have := tokGo_len f _ _ _ _ ts h; simp at this; omega
        · have := tokGo_len f _ _ _ _ ts h; simp at this; omega

theorem own_cells {w : World} {base : Nat} {v : Value} {ts : List Tok} (h : w.ownsRow base 45 4 v ts.length (accCells ts)) (hne : ts ≠ []) :
    ∃ g c, v = .slice (some ⟨g, 0, none⟩) ts.length c ∧ g < w.heap.size ∧ ∀ j u, (accCells ts)[j]? = some u → w.cell? ⟨g, j, none⟩ = some u := by
  have hn : 0 < ts.length := List.length_pos_iff.2 hne
  obtain ⟨g, c, hv, _, hlt⟩ := h.form hn
  subst hv
  refine ⟨g, c, rfl, hlt, fun j u hj => ?_⟩
  have := h.cells (g := g) rfl j u hj
  rw [show (⟨g, 0, none⟩ : Addr).add j = ⟨g, j, none⟩ from by unfold Addr.add; split <;> simp_all] at this
  exact this

theorem Has.below {w w' : World} {B g : Nat} {t : TypeId} {cs : Array Value} (h : Has w g t cs) (hb : Below B w w') (hg : g < B) : Has w' g t cs := (hb.block g hg).trans h

theorem isName_eq (s : ByteArray) : decide ((firstS s.data.toList).1 = 1 ∧ (firstS s.data.toList).2 = s.size) = namB s.data.toList := by
  unfold namB
  have : s.data.toList.length = s.size := by simp
  rw [this]

set_option maxRecDepth 100000 in
set_option maxHeartbeats 4000000 in
theorem tokens_walk (s : ByteArray) (_ : s.size ≤ maxLen) (w : World) :
    Calls Try.prog 6 #[.string s] w fun e w' => e = .returned (.bool true) ∧ Below w.heap.size w w' := by
  by_cases hs : s.size ≤ 1000
  · have hsi : ¬ (1000 : Int) < (s.size : Int) := by omega
    obtain ⟨T, hT⟩ : ∃ T, T = tokGo s.size [] 1 1 s.data.toList := ⟨_, rfl⟩
    have HN := Lib.hid (isName_eq s)
    go_enter Try.func6, Try.ntmps6
    go_wp2_with fail
    refine (awake_any _).mono ?_
    rintro e w1 ⟨rfl, hb1⟩
    have Hb1 := Lib.hid hb1
    clear hb1
    go_wp2_with fail
    refine (Tokens_any s _ (by omega)).mono ?_
    rintro e w2 ⟨ho, hb2⟩
    have Hb2 := Lib.hid (Hb1.out.trans (hb2.mono Hb1.out.size))
    clear hb2 Hb1
    rw [← hT] at ho
    have hT2 := hT
    have HT := Lib.hid hT
    cases T with
    | all ts =>
      have hne := tokGo_ne _ _ _ _ _ _ hT2.symm
      have hln := tokGo_len _ _ _ _ _ _ hT2.symm
      simp only [List.length_nil] at hln
      obtain ⟨v1, rfl, hown1⟩ := ho
      obtain ⟨g1, c1, rfl, hg1, hc1⟩ := own_cells hown1 hne
      have Hne := Lib.hid hne
      have Hc1 := Lib.hid hc1
      clear hT hT2 hne hown1 hc1
      go_wp2_with fail
      refine (refTokens_any s _ (by omega)).mono ?_
      rintro e w3 ⟨ho, hb3⟩
      rw [← HT.out] at ho
      obtain ⟨v2, rfl, hown2⟩ := ho
      obtain ⟨g2, c2, rfl, hg2, hc2⟩ := own_cells hown2 Hne.out
      have hsz : w2.heap.size + 1 ≤ w3.heap.size := by have := hb3.size; simpa using this
      have h4 : Has w3 w2.heap.size 38 #[.int .i64 0, .int .i64 0] := Has.below (heap_alloc_new w2 _) hb3 (by simp)
      have Hk1 := Lib.hid (fun j u (h : (accCells ts)[j]? = some u) => ((hb3.cell (p := ⟨g1, j, none⟩) (by simp; omega)).trans ((World.cell?_alloc_lt w2 _ _ (by show g1 < w2.heap.size; omega)).trans (Hc1.out j u h))))
      have Hc2 := Lib.hid hc2
      have H4 := Lib.hid h4
      have Hb3 := Lib.hid ((Hb2.out.alloc Hb2.out.size _).trans (hb3.mono (by simp; have := Hb2.out.size; omega)))
      clear hb3 hown2 hc2 h4
      go_wp2_with fail
      refine (equal_same g1 c1 g2 c2 ts _ (by omega) (fun j u h => (World.cell?_alloc_lt w3 _ _ (by show g1 < w3.heap.size; omega)).trans (Hk1.out j u h)) (fun j u h => (World.cell?_alloc_lt w3 _ _ (by show g2 < w3.heap.size; omega)).trans (Hc2.out j u h))).mono ?_
      rintro e w4 ⟨rfl, n, rfl⟩
      have d0 : w3.cell? ⟨w2.heap.size, 0, none⟩ = some (.int .i64 0) := H4.out.cell 0
      have d1 : w3.cell? ⟨w2.heap.size, 1, none⟩ = some (.int .i64 0) := H4.out.cell 1
      have hlt : w2.heap.size < w3.heap.size := by omega
      go_wp2_with (first
        | (go_at_call 21; refine ((IsName_any s _ (by unfold maxLen; omega)).mono ?_); rintro e w' ⟨rfl, rfl⟩; rw [HN.out])
        | (go_at_call 22; refine ((refIsName_any s _ (by omega)).mono ?_); rintro e w' ⟨rfl, rfl⟩))
      go_ret
      exact ⟨rfl, below_drewN (Hb3.out.alloc Hb3.out.size _) _⟩
    | bad line col =>
      have ho' : e = .returned (.tuple #[.slice none 0 0, .agg #[.int .i64 line, .int .i64 col], .int .i64 7]) := ho
      subst ho'
      clear hT hT2 ho
      go_wp2_with fail
      refine (refTokens_any s _ (by omega)).mono ?_
      rintro e w3 ⟨ho, hb3⟩
      rw [← HT.out] at ho
      have ho' : e = .returned (.tuple #[.slice none 0 0, .agg #[.int .i64 line, .int .i64 col], .int .i64 7]) := ho
      subst ho'
      have hsz : w2.heap.size + 1 ≤ w3.heap.size := by have := hb3.size; simpa using this
      have h4 : Has w3 w2.heap.size 38 #[.int .i64 line, .int .i64 col] := Has.below (heap_alloc_new w2 _) hb3 (by simp)
      have H4 := Lib.hid h4
      have Hb3 := Lib.hid ((Hb2.out.alloc Hb2.out.size _).trans (hb3.mono (by simp; have := Hb2.out.size; omega)))
      clear hb3 h4 ho
      go_wp2_with fail
      refine (equal_nil _).mono ?_
      rintro e w4 ⟨rfl, n, rfl⟩
      have d0 : w3.cell? ⟨w2.heap.size, 0, none⟩ = some (.int .i64 line) := H4.out.cell 0
      have d1 : w3.cell? ⟨w2.heap.size, 1, none⟩ = some (.int .i64 col) := H4.out.cell 1
      have hlt : w2.heap.size < w3.heap.size := by omega
      go_wp2_with (first
        | (go_at_call 21; refine ((IsName_any s _ (by unfold maxLen; omega)).mono ?_); rintro e w' ⟨rfl, rfl⟩; rw [HN.out])
        | (go_at_call 22; refine ((refIsName_any s _ (by omega)).mono ?_); rintro e w' ⟨rfl, rfl⟩))
      go_ret
      exact ⟨rfl, below_drewN (Hb3.out.alloc Hb3.out.size _) _⟩
  · have hsi : (1000 : Int) < (s.size : Int) := by omega
    go_enter Try.func6, Try.ntmps6
    go_wp2_with fail
    refine (awake_any _).mono ?_
    rintro e w1 ⟨rfl, hb1⟩
    have Hb1 := Lib.hid hb1
    clear hb1
    go_wp2_with fail
    go_ret
    exact ⟨rfl, Hb1.out⟩

end Go.Proofs.Ytbpcfgeefelfdaa
