/- The walk of slices.EqualFunc over two lists of tokens with the same kinds and texts. -/
import Derived.Test.YtbpcfgeefelfdaaDoorTok3
import Derived.WalkKit
namespace Go.Proofs.YtbpcfgeefelfdaaDoor
open Go.RowKit

set_option maxHeartbeats 1000000 in
theorem same_any (k : Int) (t : ByteArray) (a b c d : Int) (w : World) :
    Calls Tryd.prog 10 #[.agg #[.int .i64 k, .string t, .int .i64 a, .int .i64 b], .agg #[.int .i64 k, .string t, .int .i64 c, .int .i64 d]] w fun e w' => e = .returned (.bool true) ∧ Below w.heap.size w w' := by
  go_enter Tryd.func10, Tryd.ntmps10
  go_wp2
  go_ret
  exact ⟨rfl, ((Below.refl _ _).alloc (Nat.le_refl _) _).alloc (by simp) _⟩

theorem acc_at' : ∀ (ts : List Tok) (k j : Nat) (t : Tok), ts[k]? = some t → j < 4 → (accCells ts)[k * 4 + j]? = (tokCells t)[j]?
  | [], k, j, t, h, _ => by simp at h
  | a :: r, 0, j, t, h, hj => by
    simp at h
    subst h
    rw [accCells, List.flatMap_cons, List.getElem?_append_left (by simp [tokCells]; omega)]
    simp
  | a :: r, k + 1, j, t, h, hj => by
    have hl : (tokCells a).length = 4 := rfl
    rw [accCells, List.flatMap_cons, List.getElem?_append_right (by rw [hl]; omega), hl, show (k + 1) * 4 + j - 4 = k * 4 + j from by omega]
    exact acc_at' r k j t (by simpa using h) hj

set_option maxHeartbeats 4000000 in
theorem equalFunc_same (g1 c1 g2 c2 : Nat) (ts us : List Tok) (w : World) (hn : ts.length ≤ 300000) (hg1 : g1 < w.heap.size) (hg2 : g2 < w.heap.size)
    (hl : ts.map (fun t => (t.kind, t.text)) = us.map (fun t => (t.kind, t.text)))
    (h1 : ∀ j u, (accCells ts)[j]? = some u → w.cell? ⟨g1, j, none⟩ = some u) (h2 : ∀ j u, (accCells us)[j]? = some u → w.cell? ⟨g2, j, none⟩ = some u) :
    Calls Tryd.prog 9 #[.slice (some ⟨g1, 0, none⟩) ts.length c1, .slice (some ⟨g2, 0, none⟩) us.length c2, .func (.func 10) #[] #[]] w fun e w' => e = .returned (.bool true) ∧ Below w.heap.size w w' := by
  have hll : us.length = ts.length := by have := congrArg List.length hl; simpa using this.symm
  rw [hll]
  have H1 := Lib.hid h1
  have H2 := Lib.hid h2
  have HL := Lib.hid hl
  have HLL := Lib.hid hll
  clear h1 h2 hl hll
  go_enter Tryd.func9, Tryd.ntmps9
  go_wp2
  go_loopw [17] (fun u wr => ∃ k : Nat, u = .int .i64 k ∧ k ≤ ts.length ∧ Below w.heap.size w wr) (fun u _ => ts.length - (intOf u).toNat)
  case atStart => exact ⟨0, rfl, Nat.zero_le _, Below.refl _ _⟩
  case round =>
    obtain ⟨k, rfl, hk, hb⟩ := hrel
    have Hb := Lib.hid hb
    clear hb
    by_cases hlt : k < ts.length
    · have hki : (k : Int) < (ts.length : Int) := by omega
      have ht : ts[k]? = some ts[k] := List.getElem?_eq_getElem hlt
      have hlt2 : k < us.length := by rw [HLL.out]; exact hlt
      have hu : us[k]? = some us[k] := List.getElem?_eq_getElem hlt2
      have hsame : (us[k].kind, us[k].text) = (ts[k].kind, ts[k].text) := by
        have := congrArg (·[k]?) HL.out
        simp only [List.getElem?_map, ht, hu, Option.map_some, Option.some.injEq] at this
        exact this.symm
      obtain ⟨t, hT⟩ : ∃ t, t = ts[k] := ⟨_, rfl⟩
      obtain ⟨u, hU⟩ : ∃ u, u = us[k] := ⟨_, rfl⟩
      rw [← hT] at ht hsame
      rw [← hU] at hu hsame
      obtain ⟨uk, ut, ul, uc⟩ := u
      simp only [Prod.mk.injEq] at hsame
      obtain ⟨rfl, rfl⟩ := hsame
      have b1 := fun j => Hb.out.cell (p := ⟨g1, j, none⟩) hg1
      have b2 := fun j => Hb.out.cell (p := ⟨g2, j, none⟩) hg2
      have a0 : wr.cell? ⟨g1, k * 4, none⟩ = some (.int .i64 t.kind) := (b1 _).trans (H1.out _ _ (acc_at' ts k 0 t ht (by omega)))
      have a1 : wr.cell? ⟨g1, k * 4 + 1, none⟩ = some (.string (bytesOf t.text)) := (b1 _).trans (H1.out _ _ (acc_at' ts k 1 t ht (by omega)))
      have a2 : wr.cell? ⟨g1, k * 4 + 2, none⟩ = some (.int .i64 t.line) := (b1 _).trans (H1.out _ _ (acc_at' ts k 2 t ht (by omega)))
      have a3 : wr.cell? ⟨g1, k * 4 + 3, none⟩ = some (.int .i64 t.col) := (b1 _).trans (H1.out _ _ (acc_at' ts k 3 t ht (by omega)))
      have d0 : wr.cell? ⟨g2, k * 4, none⟩ = some (.int .i64 t.kind) := (b2 _).trans (H2.out _ _ (acc_at' us k 0 ⟨t.kind, t.text, ul, uc⟩ hu (by omega)))
      have d1 : wr.cell? ⟨g2, k * 4 + 1, none⟩ = some (.string (bytesOf t.text)) := (b2 _).trans (H2.out _ _ (acc_at' us k 1 ⟨t.kind, t.text, ul, uc⟩ hu (by omega)))
      have d2 : wr.cell? ⟨g2, k * 4 + 2, none⟩ = some (.int .i64 ul) := (b2 _).trans (H2.out _ _ (acc_at' us k 2 ⟨t.kind, t.text, ul, uc⟩ hu (by omega)))
      have d3 : wr.cell? ⟨g2, k * 4 + 3, none⟩ = some (.int .i64 uc) := (b2 _).trans (H2.out _ _ (acc_at' us k 3 ⟨t.kind, t.text, ul, uc⟩ hu (by omega)))
      have hz := Hb.out.size
      have hz1 : g1 < wr.heap.size := by omega
      have hz2 : g2 < wr.heap.size := by omega
      clear ht hT hu hU b1 b2
      go_wp2_with fail
      refine (same_any t.kind (bytesOf t.text) _ _ _ _ _).mono ?_
      rintro e w2 ⟨rfl, hb2⟩
      go_wp2_with fail
      go_roundw
      case rel => exact ⟨k + 1, by go_num, by omega, ((Hb.out.alloc Hb.out.size _).alloc (by simp; omega) _).trans (hb2.mono (by simp; omega))⟩
      case measure => simp [intOf]; omega
    · have hki : ¬ (k : Int) < (ts.length : Int) := by omega
      go_wp2
      go_ret
      exact ⟨rfl, Hb.out⟩

end Go.Proofs.YtbpcfgeefelfdaaDoor
