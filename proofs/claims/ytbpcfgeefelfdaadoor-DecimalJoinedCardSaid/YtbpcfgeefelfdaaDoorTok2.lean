/- The walk of first: the kind and the size of what a text begins with; and of IsName. -/
import Derived.Test.YtbpcfgeefelfdaaDoorTok1
namespace Go.Proofs.YtbpcfgeefelfdaaDoor
open Go.RowKit

theorem list_cons (s : ByteArray) (h : 0 < s.size) : s.data.toList = s[0] :: s.data.toList.drop 1 := by
  have hg := get_byte s 0 h
  cases hl : s.data.toList with
  | nil => rw [hl] at hg; cases hg
  | cons c r => rw [hl] at hg; simp at hg; simp [hg]

theorem head_drop (s : ByteArray) : (s.data.toList.drop 1).head? = s.data.toList[1]? := by simp

set_option maxHeartbeats 1000000 in
theorem first_any (s : ByteArray) (w : World) (hs : s.size ≤ maxLen) (h0 : 0 < s.size) :
    Calls Tryd.prog 14 #[.string s] w fun e w' => e = .returned (.tuple #[.int .i64 (firstS s.data.toList).1, .int .i64 ((firstS s.data.toList).2 : Nat)]) ∧ w = w' := by
  have hl := list_cons s h0
  generalize hr : s.data.toList.drop 1 = r at *
  have hh : r.head? = s.data.toList[1]? := by rw [← hr, head_drop]
  have hf : firstS s.data.toList = firstS (s[0] :: r) := by rw [← hl]
  have Hf := Lib.hid hf
  have Hl := Lib.hid hl
  clear hf hl hr
  have hn : 0 < (s.size : Int) := by omega
  have hcase : (1 < s.size ∧ r.head? = some 61) ∨ ¬ (1 < s.size ∧ r.head? = some 61) := Classical.em _
  rcases hcase with ⟨h1, h2⟩ | h12
  · have hg := get_byte s 1 h1
    have h61 : (s[1].toNat : Int) = 61 := by
      rw [hh, hg] at h2; injection h2 with h2; rw [h2]; rfl
    have hb : ((s[1].toNat : Int) == 61) = true := beq_iff_eq.2 h61
    have H2 := Lib.hid h2
    clear h2 hg hh h61
    go_enter Tryd.func14, Tryd.ntmps14
    go_wp2_with (first | (go_at_call 29; refine ((isDigit_any _ _).mono ?_); rintro e w' ⟨rfl, rfl⟩) | (go_at_call 31; refine ((isLetter_any _ _).mono ?_); rintro e w' ⟨rfl, rfl⟩) | (go_at_call 28; refine ((comment_any _ _).mono ?_); rintro e w' ⟨rfl, rfl⟩) | (go_at_call 30; refine ((number_any _ _ hs).mono ?_); rintro e w' ⟨rfl, rfl⟩) | (go_at_call 32; refine ((word_any _ _ hs).mono ?_); rintro e w' ⟨rfl, rfl⟩))
    all_goals
      go_ret2
      refine ⟨?_, rfl⟩
      rw [Hf.out]
      first
        | (simp [firstS, aloneB, H2.out, Hl.out, *]; done)
        | (have hq : 20 < pre wd (s[0] :: r) := by rw [← Hl.out]; assumption
           simp [firstS, aloneB, *]; done)
        | (have hq : ¬ 20 < pre wd (s[0] :: r) := by rw [← Hl.out]; assumption
           simp [firstS, aloneB, Hl.out, *]; done)
  · by_cases h1 : 1 < s.size
    · have hg := get_byte s 1 h1
      have h2 : ¬ r.head? = some 61 := fun h => h12 ⟨h1, h⟩
      have h61 : ¬ (s[1].toNat : Int) = 61 := by
        intro h; apply h2; rw [hh, hg]; congr 1; apply UInt8.toNat_inj.mp; simp; omega
      have hb : ((s[1].toNat : Int) == 61) = false := beq_eq_false_iff_ne.2 h61
      have H2 := Lib.hid h2
      clear h2 hg hh h61 h12
      go_enter Tryd.func14, Tryd.ntmps14
      go_wp2_with (first | (go_at_call 29; refine ((isDigit_any _ _).mono ?_); rintro e w' ⟨rfl, rfl⟩) | (go_at_call 31; refine ((isLetter_any _ _).mono ?_); rintro e w' ⟨rfl, rfl⟩) | (go_at_call 28; refine ((comment_any _ _).mono ?_); rintro e w' ⟨rfl, rfl⟩) | (go_at_call 30; refine ((number_any _ _ hs).mono ?_); rintro e w' ⟨rfl, rfl⟩) | (go_at_call 32; refine ((word_any _ _ hs).mono ?_); rintro e w' ⟨rfl, rfl⟩))
      all_goals
        go_ret2
        refine ⟨?_, rfl⟩
        rw [Hf.out]
        first
          | (simp [firstS, aloneB, H2.out, Hl.out, *]; done)
          | (have hq : 20 < pre wd (s[0] :: r) := by rw [← Hl.out]; assumption
             simp [firstS, aloneB, *]; done)
          | (have hq : ¬ 20 < pre wd (s[0] :: r) := by rw [← Hl.out]; assumption
             simp [firstS, aloneB, Hl.out, *]; done)
    · have h2 : ¬ r.head? = some 61 := by
        rw [hh, List.getElem?_eq_none (by simp; omega)]; simp
      have H2 := Lib.hid h2
      clear h2 hh h12
      go_enter Tryd.func14, Tryd.ntmps14
      go_wp2_with (first | (go_at_call 29; refine ((isDigit_any _ _).mono ?_); rintro e w' ⟨rfl, rfl⟩) | (go_at_call 31; refine ((isLetter_any _ _).mono ?_); rintro e w' ⟨rfl, rfl⟩) | (go_at_call 28; refine ((comment_any _ _).mono ?_); rintro e w' ⟨rfl, rfl⟩) | (go_at_call 30; refine ((number_any _ _ hs).mono ?_); rintro e w' ⟨rfl, rfl⟩) | (go_at_call 32; refine ((word_any _ _ hs).mono ?_); rintro e w' ⟨rfl, rfl⟩))
      all_goals
        go_ret2
        refine ⟨?_, rfl⟩
        rw [Hf.out]
        first
          | (simp [firstS, aloneB, H2.out, Hl.out, *]; done)
          | (have hq : 20 < pre wd (s[0] :: r) := by rw [← Hl.out]; assumption
             simp [firstS, aloneB, *]; done)
          | (have hq : ¬ 20 < pre wd (s[0] :: r) := by rw [← Hl.out]; assumption
             simp [firstS, aloneB, Hl.out, *]; done)

end Go.Proofs.YtbpcfgeefelfdaaDoor
