/- The walk of slices.Equal at two lists of tokens with the same cells; the reference's IsName. -/
import Derived.Test.YtbpcfgeefelfdaaRefTok1
import Derived.Test.YtbpcfgeefelfdaaTokParts
namespace Go.Proofs.Ytbpcfgeefelfdaa
open Go.RowKit

theorem acc_at : ∀ (ts : List Tok) (k j : Nat) (t : Tok), ts[k]? = some t → j < 4 → (accCells ts)[k * 4 + j]? = (tokCells t)[j]?
  | [], k, j, t, h, _ => by simp at h
  | a :: r, 0, j, t, h, hj => by
    simp at h
    subst h
    rw [accCells, List.flatMap_cons, List.getElem?_append_left (by simp [tokCells]; omega)]
    simp
  | a :: r, k + 1, j, t, h, hj => by
    have hl : (tokCells a).length = 4 := rfl
    rw [accCells, List.flatMap_cons, List.getElem?_append_right (by rw [hl]; omega), hl, show (k + 1) * 4 + j - 4 = k * 4 + j from by omega]
    exact acc_at r k j t (by simpa using h) hj

set_option maxHeartbeats 4000000 in
theorem equal_same (g1 c1 g2 c2 : Nat) (ts : List Tok) (w : World) (hn : ts.length ≤ 300000)
    (h1 : ∀ j u, (accCells ts)[j]? = some u → w.cell? ⟨g1, j, none⟩ = some u) (h2 : ∀ j u, (accCells ts)[j]? = some u → w.cell? ⟨g2, j, none⟩ = some u) :
    Calls Try.prog 20 #[.slice (some ⟨g1, 0, none⟩) ts.length c1, .slice (some ⟨g2, 0, none⟩) ts.length c2] w fun e w' => e = .returned (.bool true) ∧ ∃ n, w' = w.drewN n := by
  have H1 := Lib.hid h1
  have H2 := Lib.hid h2
  clear h1 h2
  go_enter Try.func20, Try.ntmps20
  go_wp2
  go_loopw [13] (fun u wr => ∃ k : Nat, u = .int .i64 k ∧ k ≤ ts.length ∧ ∃ n, wr = w.drewN n) (fun u _ => ts.length - (intOf u).toNat)
  case atStart => exact ⟨0, rfl, Nat.zero_le _, 0, rfl⟩
  case round =>
    obtain ⟨k, rfl, hk, n, rfl⟩ := hrel
    by_cases hlt : k < ts.length
    · have hki : (k : Int) < (ts.length : Int) := by omega
      have ht : ts[k]? = some ts[k] := List.getElem?_eq_getElem hlt
      obtain ⟨t, hT⟩ : ∃ t, t = ts[k] := ⟨_, rfl⟩
      rw [← hT] at ht
      have a0 : w.cell? ⟨g1, k * 4, none⟩ = some (.int .i64 t.kind) := H1.out _ _ (acc_at ts k 0 t ht (by omega))
      have a1 : w.cell? ⟨g1, k * 4 + 1, none⟩ = some (.string (bytesOf t.text)) := H1.out _ _ (acc_at ts k 1 t ht (by omega))
      have a2 : w.cell? ⟨g1, k * 4 + 2, none⟩ = some (.int .i64 t.line) := H1.out _ _ (acc_at ts k 2 t ht (by omega))
      have a3 : w.cell? ⟨g1, k * 4 + 3, none⟩ = some (.int .i64 t.col) := H1.out _ _ (acc_at ts k 3 t ht (by omega))
      have b0 : w.cell? ⟨g2, k * 4, none⟩ = some (.int .i64 t.kind) := H2.out _ _ (acc_at ts k 0 t ht (by omega))
      have b1 : w.cell? ⟨g2, k * 4 + 1, none⟩ = some (.string (bytesOf t.text)) := H2.out _ _ (acc_at ts k 1 t ht (by omega))
      have b2 : w.cell? ⟨g2, k * 4 + 2, none⟩ = some (.int .i64 t.line) := H2.out _ _ (acc_at ts k 2 t ht (by omega))
      have b3 : w.cell? ⟨g2, k * 4 + 3, none⟩ = some (.int .i64 t.col) := H2.out _ _ (acc_at ts k 3 t ht (by omega))
      clear ht hT
      go_wp2
      go_quiet (fail)
      go_wp2
      go_roundw
      case rel => exact ⟨k + 1, by go_num, by omega, n + nq, rfl⟩
      case measure => simp [intOf]; omega
    · have hki : ¬ (k : Int) < (ts.length : Int) := by omega
      go_wp2
      go_ret
      exact ⟨rfl, n, rfl⟩

set_option maxHeartbeats 1000000 in
theorem equal_nil (w : World) : Calls Try.prog 20 #[.slice none 0 0, .slice none 0 0] w fun e w' => e = .returned (.bool true) ∧ ∃ n, w' = w.drewN n := by
  go_enter Try.func20, Try.ntmps20
  go_wp2
  go_loopw [13] (fun u wr => u = .int .i64 0 ∧ wr = w) (fun _ _ => 0)
  case atStart => exact ⟨rfl, rfl⟩
  case round =>
    obtain ⟨rfl, rfl⟩ := hrel
    go_wp2
    go_ret
    exact ⟨rfl, 0, rfl⟩

/-- Whether a list of bytes is a name. -/
def namB (l : List UInt8) : Bool := decide ((firstS l).1 = 1 ∧ (firstS l).2 = l.length)

theorem namB_letter {c : UInt8} {r : List UInt8} (h : letB (c.toNat : Int) = true) : namB (c :: r) = (decide ((c :: r).length ≤ 20) && decide (pre wd (c :: r) = (c :: r).length)) := by
  have hle := pre_le wd (c :: r)
  unfold namB
  rw [first_letter r h]
  by_cases h20 : 20 < pre wd (c :: r)
  · rw [if_pos h20, decide_eq_false (show ¬ (c :: r).length ≤ 20 by omega)]
    rfl
  · rw [if_neg h20]
    by_cases he : pre wd (c :: r) = (c :: r).length
    · rw [decide_eq_true (show (c :: r).length ≤ 20 by omega), decide_eq_true he]
      exact decide_eq_true ⟨rfl, he⟩
    · rw [decide_eq_false he, Bool.and_false]
      exact decide_eq_false (fun x => he x.2)

theorem namB_other {c : UInt8} {r : List UInt8} (h : letB (c.toNat : Int) = false) : namB (c :: r) = false := by
  unfold namB
  refine decide_eq_false (fun x => ?_)
  have hx := x.1
  simp only [firstS] at hx
  rw [h] at hx
  simp only [Bool.false_eq_true, if_false] at hx
  revert hx
  repeat (first | (intro hx; omega) | split | (intro hx; simp at hx; done))

set_option maxHeartbeats 1000000 in
theorem refIsName_any (s : ByteArray) (w : World) (hs : s.size ≤ 100000) :
    Calls Try.prog 22 #[.string s] w fun e w' => e = .returned (.bool (namB s.data.toList)) ∧ w = w' := by
  by_cases h0 : s.size = 0
  · have hse : s = ⟨#[]⟩ := by
      apply Go.WideShapes.bytes_inj
      have : s.data.size = 0 := h0
      rw [Array.eq_empty_of_size_eq_zero this]
    subst hse
    go_enter Try.func22, Try.ntmps22
    go_wp2
    go_ret
    exact ⟨rfl, rfl⟩
  · have hpos : 0 < s.size := by omega
    have hp : (0 : Int) < (s.size : Int) := by omega
    have hb0 : ((s.size : Int) == 0) = false := beq_no (by omega)
    have hbe : ¬ s = ByteArray.empty := fun h => h0 (by rw [h]; rfl)
    have hl := drop_cons' s 0 hpos
    rw [List.drop_zero] at hl
    obtain ⟨z, hz⟩ : ∃ z : Nat, z = 0 + pre wd (s.data.toList.drop 0) := ⟨_, rfl⟩
    have hlen : s.data.toList.length = s.size := by simp
    by_cases hlt : letB (s[0].toNat : Int) = true
    · have hn := namB_letter (r := s.data.toList.drop (0 + 1)) hlt
      rw [← hl, hlen] at hn
      have hz' : pre wd s.data.toList = z := by rw [hz]; simp
      rw [hz'] at hn
      have Hn := Lib.hid hn
      have HZ := Lib.hid hz
      have Hlt := Lib.hid hlt
      clear hn hz hlt hl hlen hz'
      by_cases h20 : s.size ≤ 20
      · have h20i : ¬ (20 : Int) < (s.size : Int) := by omega
        go_enter Try.func22, Try.ntmps22
        go_wp2_with (first | (go_at_call 37; refine ((refLetter_any _ _).mono ?_); rintro e w' ⟨rfl, rfl⟩; rw [Hlt.out]) | (go_at_call 38; refine ((refWord_any s 0 _ (by omega) (by omega)).mono ?_); rintro e w' ⟨rfl, rfl⟩; rw [← HZ.out]))
        all_goals
          go_ret
          exact ⟨ret_bool (by rw [Hn.out, decide_eq_true h20, Bool.eq_iff_iff]; simp; omega), rfl⟩
      · have h20i : (20 : Int) < (s.size : Int) := by omega
        go_enter Try.func22, Try.ntmps22
        go_wp2
        go_ret
        exact ⟨ret_bool (by rw [Hn.out, decide_eq_false h20]; rfl), rfl⟩
    · have hlt' : letB (s[0].toNat : Int) = false := by simpa using hlt
      have hn := namB_other (r := s.data.toList.drop (0 + 1)) hlt'
      rw [← hl] at hn
      have Hn := Lib.hid hn
      have Hlt := Lib.hid hlt'
      clear hn hz hlt hlt' hl hlen
      by_cases h20 : s.size ≤ 20
      · have h20i : ¬ (20 : Int) < (s.size : Int) := by omega
        go_enter Try.func22, Try.ntmps22
        go_wp2_with (go_at_call 37; refine ((refLetter_any _ _).mono ?_); rintro e w' ⟨rfl, rfl⟩; rw [Hlt.out])
        go_ret
        exact ⟨ret_bool (by rw [Hn.out]), rfl⟩
      · have h20i : (20 : Int) < (s.size : Int) := by omega
        go_enter Try.func22, Try.ntmps22
        go_wp2
        go_ret
        exact ⟨ret_bool (by rw [Hn.out]), rfl⟩

end Go.Proofs.Ytbpcfgeefelfdaa
