/- What a list begins with, class by class; the walks of the reference's word, figures, Symbol and IsName. -/
import Derived.Test.YtbpcfgeefelfdaaTok2
import Derived.Test.YtbpcfgeefelfdaaMath2
import Derived.WalkSmall
namespace Go.Proofs.Ytbpcfgeefelfdaa
open Go.RowKit

theorem letB_rng {c : Int} (h : letB c = true) : (97 ≤ c ∧ c ≤ 122) ∨ (65 ≤ c ∧ c ≤ 90) := by
  unfold letB at h; simp at h; omega
theorem digB_rng {c : Int} (h : digB c = true) : 48 ≤ c ∧ c ≤ 57 := by
  unfold digB at h; simp at h; omega
theorem letB_no {c : Int} (h : ¬ ((97 ≤ c ∧ c ≤ 122) ∨ (65 ≤ c ∧ c ≤ 90))) : letB c = false := by
  cases e : letB c with
  | false => rfl
  | true => exact absurd (letB_rng e) h
theorem digB_no {c : Int} (h : ¬ (48 ≤ c ∧ c ≤ 57)) : digB c = false := by
  cases e : digB c with
  | false => rfl
  | true => exact absurd (digB_rng e) h

theorem beq_no {a b : Int} (h : ¬ a = b) : (a == b) = false := beq_eq_false_iff_ne.2 h
theorem beq_yes {a b : Int} (h : a = b) : (a == b) = true := beq_iff_eq.2 h

theorem aloneB_no {c : Int} (h : c ≠ 45 ∧ c ≠ 43 ∧ c ≠ 44 ∧ c ≠ 59 ∧ c ≠ 47 ∧ c ≠ 61 ∧ c ≠ 40 ∧ c ≠ 41 ∧ c ≠ 42) : aloneB c = false := by
  unfold aloneB; simp; omega

theorem first_blank {c : UInt8} (r : List UInt8) (h : (c.toNat : Int) = 32 ∨ (c.toNat : Int) = 9) : firstS (c :: r) = (0, 1) := by
  simp only [firstS]
  rw [if_pos (by rcases h with h | h <;> rw [h] <;> rfl)]

theorem first_line {c : UInt8} (r : List UInt8) (h : (c.toNat : Int) = 10) : firstS (c :: r) = (4, 1) := by
  simp only [firstS]
  rw [h]
  rfl

theorem first_comment {c : UInt8} (r : List UInt8) (h : (c.toNat : Int) = 35) : firstS (c :: r) = (0, pre nl (c :: r)) := by
  simp only [firstS]
  rw [h]
  rfl

theorem first_letter {c : UInt8} (r : List UInt8) (h : letB (c.toNat : Int) = true) : firstS (c :: r) = if 20 < pre wd (c :: r) then (-1, 0) else (1, pre wd (c :: r)) := by
  have hr := letB_rng h
  simp only [firstS]
  rw [beq_no (show ¬ (c.toNat : Int) = 32 by omega), beq_no (show ¬ (c.toNat : Int) = 9 by omega), beq_no (show ¬ (c.toNat : Int) = 35 by omega), beq_no (show ¬ (c.toNat : Int) = 10 by omega), beq_no (show ¬ (c.toNat : Int) = 62 by omega), beq_no (show ¬ (c.toNat : Int) = 60 by omega), beq_no (show ¬ (c.toNat : Int) = 58 by omega), aloneB_no (by omega), digB_no (by omega), h]
  rfl

theorem first_digit {c : UInt8} (r : List UInt8) (h : digB (c.toNat : Int) = true) : firstS (c :: r) = (2, numS (c :: r)) := by
  have hr := digB_rng h
  simp only [firstS]
  rw [beq_no (show ¬ (c.toNat : Int) = 32 by omega), beq_no (show ¬ (c.toNat : Int) = 9 by omega), beq_no (show ¬ (c.toNat : Int) = 35 by omega), beq_no (show ¬ (c.toNat : Int) = 10 by omega), beq_no (show ¬ (c.toNat : Int) = 62 by omega), beq_no (show ¬ (c.toNat : Int) = 60 by omega), beq_no (show ¬ (c.toNat : Int) = 58 by omega), aloneB_no (by omega), h]
  rfl

/-- The size of a symbol at the beginning. -/
def symS : List UInt8 → Nat
  | [] => 0
  | c :: r =>
    if (((c.toNat : Int) == 62) || ((c.toNat : Int) == 60) || ((c.toNat : Int) == 58)) && r.head? == some 61 then 2
    else if ((c.toNat : Int) == 62) || ((c.toNat : Int) == 60) || ((c.toNat : Int) == 58) || aloneB c.toNat then 1 else 0

theorem first_other {c : UInt8} (r : List UInt8) (h1 : ¬ ((c.toNat : Int) = 32 ∨ (c.toNat : Int) = 9)) (h2 : ¬ (c.toNat : Int) = 35) (h3 : ¬ (c.toNat : Int) = 10) (h4 : letB (c.toNat : Int) = false) (h5 : digB (c.toNat : Int) = false) :
    firstS (c :: r) = if symS (c :: r) = 0 then (-1, 0) else (3, symS (c :: r)) := by
  have hF : firstS (c :: r) = if ((c.toNat : Int) == 62) || ((c.toNat : Int) == 60) || ((c.toNat : Int) == 58) then (if r.head? = some 61 then (3, 2) else (3, 1)) else if aloneB c.toNat then (3, 1) else (-1, 0) := by
    simp only [firstS]
    rw [beq_no (show ¬ (c.toNat : Int) = 32 by omega), beq_no (show ¬ (c.toNat : Int) = 9 by omega), beq_no h2, beq_no h3, h4, h5]
    rfl
  rw [hF]
  by_cases e : (((c.toNat : Int) == 62) || ((c.toNat : Int) == 60) || ((c.toNat : Int) == 58)) = true
  · rw [if_pos e]
    by_cases e2 : r.head? = some 61
    · have hS : symS (c :: r) = 2 := by simp only [symS]; rw [e, e2]; rfl
      rw [hS, if_pos e2]
      rfl
    · have e3 : (r.head? == some 61) = false := by simpa using e2
      have hS : symS (c :: r) = 1 := by simp only [symS]; rw [e, e3]; rfl
      rw [hS, if_neg e2]
      rfl
  · have e' : (((c.toNat : Int) == 62) || ((c.toNat : Int) == 60) || ((c.toNat : Int) == 58)) = false := by simpa using e
    rw [if_neg e]
    cases ha : aloneB (c.toNat : Int) with
    | true =>
      have hS : symS (c :: r) = 1 := by simp only [symS]; rw [e', ha]; rfl
      rw [hS]
      rfl
    | false =>
      have hS : symS (c :: r) = 0 := by simp only [symS]; rw [e', ha]; rfl
      rw [hS]
      rfl

theorem drop_cons' (s : ByteArray) (k : Nat) (h : k < s.size) : s.data.toList.drop k = s[k] :: s.data.toList.drop (k + 1) := by
  rw [List.drop_eq_getElem_cons (by simpa using h)]
  rfl

theorem pre_drop_le (p : UInt8 → Bool) (l : List UInt8) (i : Nat) (h : i ≤ l.length) : i + pre p (l.drop i) ≤ l.length := by
  have := pre_le p (l.drop i)
  rw [List.length_drop] at this
  omega

set_option maxHeartbeats 1000000 in
theorem refFigures_any (s : ByteArray) (i : Nat) (w : World) (hs : s.size ≤ 1099511627776) (hi : i ≤ s.size) :
    Calls Try.prog 54 #[.string s, .int .i64 i] w fun e w' => e = .returned (.int .i64 ((i + pre dg (s.data.toList.drop i) : Nat) : Int)) ∧ w = w' := by
  obtain ⟨z, hz⟩ : ∃ z, z = i + pre dg (s.data.toList.drop i) := ⟨_, rfl⟩
  rw [← hz]
  have hzs : z ≤ s.size := by rw [hz]; have := pre_drop_le dg s.data.toList i (by simpa using hi); simpa using this
  have hiz : i ≤ z := by omega
  have hget : ∀ j, i ≤ j → (h : j < s.size) → (s.data.toList.drop i)[j - i]? = some s[j] := fun j h1 h => by
    rw [List.getElem?_drop, show i + (j - i) = j from by omega]; exact get_byte s j h
  have Hin := Lib.hid (fun (j : Nat) (h1 : i ≤ j) (h2 : j < z) (h : j < s.size) => pre_yes dg (s.data.toList.drop i) (j - i) (by omega) _ (hget j h1 h))
  have Hout := Lib.hid (fun (h : z < s.size) => pre_no dg (s.data.toList.drop i) s[z] (by rw [show pre dg (s.data.toList.drop i) = z - i from by omega]; exact hget z hiz h))
  clear hget hz
  go_enter Try.func54, Try.ntmps54
  go_wp2
  go_loop [1] (fun u => ∃ j : Nat, u = .int .i64 j ∧ i ≤ j ∧ j ≤ z) (fun u => s.size + 1 - (intOf u).toNat)
  case atStart => exact ⟨i, rfl, Nat.le_refl _, hiz⟩
  case round =>
    obtain ⟨j, rfl, hj1, hj2⟩ := hrel
    by_cases hjz : j < z
    · have hjs : j < s.size := by omega
      have hji : (j : Int) < (s.size : Int) := by omega
      have Hd : Hid (digB (s[j].toNat : Int) = true) := Lib.hid (Hin.out j hj1 hjz hjs)
      go_wp2_with (go_at_call 34; refine ((refDigit_any _ _).mono ?_); rintro e w' ⟨rfl, rfl⟩; rw [Hd.out])
      go_round
      case rel => exact ⟨j + 1, by go_num, by omega, by omega⟩
      case measure => simp [intOf]; omega
    · obtain rfl : j = z := by omega
      by_cases hjs : j < s.size
      · have hji : (j : Int) < (s.size : Int) := by omega
        have Hd : Hid (digB (s[j].toNat : Int) = false) := Lib.hid (Hout.out hjs)
        go_wp2_with (go_at_call 34; refine ((refDigit_any _ _).mono ?_); rintro e w' ⟨rfl, rfl⟩; rw [Hd.out])
        go_ret
        exact ⟨rfl, rfl⟩
      · have hji : ¬ (j : Int) < (s.size : Int) := by omega
        go_wp2
        go_ret
        exact ⟨rfl, rfl⟩

set_option maxHeartbeats 1000000 in
theorem refWord_any (s : ByteArray) (i : Nat) (w : World) (hs : s.size ≤ 1099511627776) (hi : i ≤ s.size) :
    Calls Try.prog 38 #[.string s, .int .i64 i] w fun e w' => e = .returned (.int .i64 ((i + pre wd (s.data.toList.drop i) : Nat) : Int)) ∧ w = w' := by
  obtain ⟨z, hz⟩ : ∃ z, z = i + pre wd (s.data.toList.drop i) := ⟨_, rfl⟩
  rw [← hz]
  have hzs : z ≤ s.size := by rw [hz]; have := pre_drop_le wd s.data.toList i (by simpa using hi); simpa using this
  have hiz : i ≤ z := by omega
  have hget : ∀ j, i ≤ j → (h : j < s.size) → (s.data.toList.drop i)[j - i]? = some s[j] := fun j h1 h => by
    rw [List.getElem?_drop, show i + (j - i) = j from by omega]; exact get_byte s j h
  have Hin := Lib.hid (fun (j : Nat) (h1 : i ≤ j) (h2 : j < z) (h : j < s.size) => pre_yes wd (s.data.toList.drop i) (j - i) (by omega) _ (hget j h1 h))
  have Hout := Lib.hid (fun (h : z < s.size) => pre_no wd (s.data.toList.drop i) s[z] (by rw [show pre wd (s.data.toList.drop i) = z - i from by omega]; exact hget z hiz h))
  clear hget hz
  go_enter Try.func38, Try.ntmps38
  go_wp2
  go_loop [1] (fun u => ∃ j : Nat, u = .int .i64 j ∧ i ≤ j ∧ j ≤ z) (fun u => s.size + 1 - (intOf u).toNat)
  case atStart => exact ⟨i, rfl, Nat.le_refl _, hiz⟩
  case round =>
    obtain ⟨j, rfl, hj1, hj2⟩ := hrel
    by_cases hjz : j < z
    · have hjs : j < s.size := by omega
      have hji : (j : Int) < (s.size : Int) := by omega
      have Hw : Hid (worB (s[j].toNat : Int) = true) := Lib.hid (Hin.out j hj1 hjz hjs)
      cases hl : letB (s[j].toNat : Int) with
      | true =>
        have Hl := Lib.hid hl
        clear hl
        go_wp2_with (go_at_call 37; refine ((refLetter_any _ _).mono ?_); rintro e w' ⟨rfl, rfl⟩; rw [Hl.out])
        go_round
        case rel => exact ⟨j + 1, by go_num, by omega, by omega⟩
        case measure => simp [intOf]; omega
      | false =>
        have Hl := Lib.hid hl
        cases hd : digB (s[j].toNat : Int) with
        | true =>
          have Hd := Lib.hid hd
          clear hl hd
          go_wp2_with (first | (go_at_call 37; refine ((refLetter_any _ _).mono ?_); rintro e w' ⟨rfl, rfl⟩; rw [Hl.out]) | (go_at_call 34; refine ((refDigit_any _ _).mono ?_); rintro e w' ⟨rfl, rfl⟩; rw [Hd.out]))
          go_round
          case rel => exact ⟨j + 1, by go_num, by omega, by omega⟩
          case measure => simp [intOf]; omega
        | false =>
          have Hd := Lib.hid hd
          have h95 : ((s[j].toNat : Int) == 95) = true := by have := Hw.out; unfold worB at this; rw [hl, hd] at this; simpa using this
          clear hl hd
          go_wp2_with (first | (go_at_call 37; refine ((refLetter_any _ _).mono ?_); rintro e w' ⟨rfl, rfl⟩; rw [Hl.out]) | (go_at_call 34; refine ((refDigit_any _ _).mono ?_); rintro e w' ⟨rfl, rfl⟩; rw [Hd.out]))
          go_round
          case rel => exact ⟨j + 1, by go_num, by omega, by omega⟩
          case measure => simp [intOf]; omega
    · obtain rfl : j = z := by omega
      by_cases hjs : j < s.size
      · have hji : (j : Int) < (s.size : Int) := by omega
        have hw : worB (s[j].toNat : Int) = false := Hout.out hjs
        have h3 : letB (s[j].toNat : Int) = false ∧ digB (s[j].toNat : Int) = false ∧ ((s[j].toNat : Int) == 95) = false := by
          unfold worB at hw; simp only [Bool.or_eq_false_iff] at hw; exact ⟨hw.1.1, hw.1.2, hw.2⟩
        have Hl := Lib.hid h3.1
        have Hd := Lib.hid h3.2.1
        have h95 := h3.2.2
        clear hw h3
        go_wp2_with (first | (go_at_call 37; refine ((refLetter_any _ _).mono ?_); rintro e w' ⟨rfl, rfl⟩; rw [Hl.out]) | (go_at_call 34; refine ((refDigit_any _ _).mono ?_); rintro e w' ⟨rfl, rfl⟩; rw [Hd.out]))
        go_ret
        exact ⟨rfl, rfl⟩
      · have hji : ¬ (j : Int) < (s.size : Int) := by omega
        go_wp2
        go_ret
        exact ⟨rfl, rfl⟩

def symA : ByteArray := ⟨#[45, 43, 58, 44, 59, 47, 61, 40, 41, 60, 62, 42]⟩
theorem symA_all (c : UInt8) : c ∈ symA.data.toList ↔ ((((c.toNat : Int) == 62) || ((c.toNat : Int) == 60) || ((c.toNat : Int) == 58)) || aloneB c.toNat) = true := by
  have key : ∀ n : Nat, n < 256 → (UInt8.ofNat n ∈ symA.data.toList ↔ (((((UInt8.ofNat n).toNat : Int) == 62) || (((UInt8.ofNat n).toNat : Int) == 60) || (((UInt8.ofNat n).toNat : Int) == 58)) || aloneB (UInt8.ofNat n).toNat) = true) := by decide +kernel
  have := key c.toNat (UInt8.toNat_lt c)
  simpa using this

theorem symS_loop (c : UInt8) (r : List UInt8) (h : ¬ ((((c.toNat : Int) == 62) || ((c.toNat : Int) == 60) || ((c.toNat : Int) == 58)) = true ∧ r.head? = some 61)) : symS (c :: r) = if c ∈ symA.data.toList then 1 else 0 := by
  have ha := symA_all c
  simp only [symS]
  rw [if_neg (by simpa using h)]
  by_cases hc : c ∈ symA.data.toList
  · rw [if_pos hc, if_pos (ha.1 hc)]
  · rw [if_neg hc, if_neg (fun x => hc (ha.2 x))]

set_option maxRecDepth 100000 in
set_option maxHeartbeats 8000000 in
theorem Symbol_any (s : ByteArray) (i : Nat) (w : World) (hs : s.size ≤ 1099511627776) (hi : i < s.size) :
    Calls Try.prog 55 #[.string s, .int .i64 i] w fun e w' => e = .returned (.int .i64 ((symS (s.data.toList.drop i) : Nat) : Int)) ∧ ∃ n, w' = w.drewN n := by
  have hl := drop_cons' s i hi
  have hii : (i : Int) < (s.size : Int) := by omega
  have hh : (s.data.toList.drop (i + 1)).head? = s.data.toList[i + 1]? := by simp
  rw [hl]
  by_cases h1 : i + 1 < s.size
  · have h1i : (i : Int) + 1 < (s.size : Int) := by omega
    have hg1 := get_byte s (i + 1) h1
    by_cases h61 : s[i + 1] = 61
    · have h61b : ((s[i + 1].toNat : Int) == 61) = true := beq_yes (by rw [h61]; rfl)
      by_cases h3 : (((s[i].toNat : Int) == 62) || ((s[i].toNat : Int) == 60) || ((s[i].toNat : Int) == 58)) = true
      · have hS : symS (s[i] :: s.data.toList.drop (i + 1)) = 2 := by
          simp only [symS]; rw [h3, hh, hg1, h61]; rfl
        have HS := Lib.hid hS
        have hc : (s[i].toNat : Int) = 62 ∨ (¬ (s[i].toNat : Int) = 62 ∧ (s[i].toNat : Int) = 60) ∨ (¬ (s[i].toNat : Int) = 62 ∧ ¬ (s[i].toNat : Int) = 60 ∧ (s[i].toNat : Int) = 58) := by
          simp at h3; omega
        clear hS h61 hg1 hh hl h3
        rcases hc with hc | ⟨hc, hc2⟩ | ⟨hc, hc2, hc3⟩
        · have b1 := beq_yes hc
          clear hc
          go_enter Try.func55, Try.ntmps55
          go_wp2
          go_ret
          exact ⟨ret_int (by rw [HS.out]; rfl), 0, rfl⟩
        · have b1 := beq_no hc
          have b2 := beq_yes hc2
          clear hc hc2
          go_enter Try.func55, Try.ntmps55
          go_wp2
          go_ret
          exact ⟨ret_int (by rw [HS.out]; rfl), 0, rfl⟩
        · have b1 := beq_no hc
          have b2 := beq_no hc2
          have b3 := beq_yes hc3
          clear hc hc2 hc3
          go_enter Try.func55, Try.ntmps55
          go_wp2
          go_ret
          exact ⟨ret_int (by rw [HS.out]; rfl), 0, rfl⟩
      · have HSym := Lib.hid (symS_loop s[i] (s.data.toList.drop (i + 1)) (fun h => h3 h.1))
        have b : ((s[i].toNat : Int) == 62) = false ∧ ((s[i].toNat : Int) == 60) = false ∧ ((s[i].toNat : Int) == 58) = false := by
          have : (((s[i].toNat : Int) == 62) || ((s[i].toNat : Int) == 60) || ((s[i].toNat : Int) == 58)) = false := by simpa using h3
          simp only [Bool.or_eq_false_iff] at this
          exact ⟨this.1.1, this.1.2, this.2⟩
        have b1 := b.1
        have b2 := b.2.1
        have b3 := b.2.2
        clear h61 hg1 hh hl h3 b
        go_enter Try.func55, Try.ntmps55
        go_wp2
        rw [show (⟨#[45, 43, 58, 44, 59, 47, 61, 40, 41, 60, 62, 42]⟩ : ByteArray) = symA from rfl]
        go_loopw [6] (fun u wr => ∃ q : Nat, u = .int .i64 q ∧ q ≤ symA.size ∧ (∀ q', q' < q → ∀ c, symA.data.toList[q']? = some c → ¬ c = s[i]) ∧ ∃ n, wr = w.drewN n) (fun u _ => symA.size - (intOf u).toNat)
        case atStart => exact ⟨0, rfl, Nat.zero_le _, fun q' h => absurd h (by omega), 0, rfl⟩
        case round =>
          obtain ⟨q, rfl, hq, hall, n, rfl⟩ := hrel
          have Hall := Lib.hid hall
          clear hall
          by_cases hqs : q < symA.size
          · have hqi : (q : Int) < (symA.size : Int) := by omega
            have hsz : (symA.size : Int) ≤ 12 := by decide
            have hgq := get_byte symA q hqs
            by_cases he : symA[q] = s[i]
            · have heb : ((s[i].toNat : Int) == (symA[q].toNat : Int)) = true := beq_yes (by rw [he])
              have Hone := Lib.hid (HSym.out.trans (if_pos (List.mem_of_getElem? (by rw [hgq, he]))))
              clear he hgq
              go_wp2
              go_quiet (fail)
              go_wp2
              go_ret
              exact ⟨ret_int (by rw [Hone.out]; rfl), n + nq, by first | rfl | rw [World.drewN_drewN]⟩
            · have heb : ((s[i].toNat : Int) == (symA[q].toNat : Int)) = false := beq_no (fun h => he (by apply UInt8.toNat_inj.mp; omega))
              have He := Lib.hid he
              have Hgq := Lib.hid hgq
              clear he hgq
              go_wp2
              go_quiet (fail)
              go_wp2
              go_roundw
              case rel => exact ⟨q + 1, by go_num, by omega, fun q' h c hc => by
                by_cases e : q' = q
                · subst e; rw [Hgq.out] at hc; cases hc; exact He.out
                · exact Hall.out q' (by omega) c hc, n + nq, by first | rfl | rw [World.drewN_drewN]⟩
              case measure => simp [intOf]; omega
          · have hqi : ¬ (q : Int) < (symA.size : Int) := by omega
            have Hnone := Lib.hid (HSym.out.trans (if_neg (fun h => by
              obtain ⟨j, hj, hjc⟩ := List.getElem_of_mem h
              have hl : symA.data.toList.length = symA.size := by simp
              exact Hall.out j (by omega) s[i] (by rw [List.getElem?_eq_getElem hj, hjc]) rfl)))
            go_wp2
            go_ret
            exact ⟨ret_int (by rw [Hnone.out]; rfl), n, rfl⟩
    · have h61b : ((s[i + 1].toNat : Int) == 61) = false := beq_no (fun h => h61 (by apply UInt8.toNat_inj.mp; simp; omega))
      have HSym := Lib.hid (symS_loop s[i] (s.data.toList.drop (i + 1)) (fun h => h61 (by have := h.2; rw [hh, hg1] at this; injection this)))
      clear h61 hg1 hh hl
      go_enter Try.func55, Try.ntmps55
      go_wp2
      rw [show (⟨#[45, 43, 58, 44, 59, 47, 61, 40, 41, 60, 62, 42]⟩ : ByteArray) = symA from rfl]
      go_loopw [6] (fun u wr => ∃ q : Nat, u = .int .i64 q ∧ q ≤ symA.size ∧ (∀ q', q' < q → ∀ c, symA.data.toList[q']? = some c → ¬ c = s[i]) ∧ ∃ n, wr = w.drewN n) (fun u _ => symA.size - (intOf u).toNat)
      case atStart => exact ⟨0, rfl, Nat.zero_le _, fun q' h => absurd h (by omega), 0, rfl⟩
      case round =>
        obtain ⟨q, rfl, hq, hall, n, rfl⟩ := hrel
        have Hall := Lib.hid hall
        clear hall
        by_cases hqs : q < symA.size
        · have hqi : (q : Int) < (symA.size : Int) := by omega
          have hsz : (symA.size : Int) ≤ 12 := by decide
          have hgq := get_byte symA q hqs
          by_cases he : symA[q] = s[i]
          · have heb : ((s[i].toNat : Int) == (symA[q].toNat : Int)) = true := beq_yes (by rw [he])
            have Hone := Lib.hid (HSym.out.trans (if_pos (List.mem_of_getElem? (by rw [hgq, he]))))
            clear he hgq
            go_wp2
            go_quiet (fail)
            go_wp2
            go_ret
            exact ⟨ret_int (by rw [Hone.out]; rfl), n + nq, by first | rfl | rw [World.drewN_drewN]⟩
          · have heb : ((s[i].toNat : Int) == (symA[q].toNat : Int)) = false := beq_no (fun h => he (by apply UInt8.toNat_inj.mp; omega))
            have He := Lib.hid he
            have Hgq := Lib.hid hgq
            clear he hgq
            go_wp2
            go_quiet (fail)
            go_wp2
            go_roundw
            case rel => exact ⟨q + 1, by go_num, by omega, fun q' h c hc => by
              by_cases e : q' = q
              · subst e; rw [Hgq.out] at hc; cases hc; exact He.out
              · exact Hall.out q' (by omega) c hc, n + nq, by first | rfl | rw [World.drewN_drewN]⟩
            case measure => simp [intOf]; omega
        · have hqi : ¬ (q : Int) < (symA.size : Int) := by omega
          have Hnone := Lib.hid (HSym.out.trans (if_neg (fun h => by
            obtain ⟨j, hj, hjc⟩ := List.getElem_of_mem h
            have hl : symA.data.toList.length = symA.size := by simp
            exact Hall.out j (by omega) s[i] (by rw [List.getElem?_eq_getElem hj, hjc]) rfl)))
          go_wp2
          go_ret
          exact ⟨ret_int (by rw [Hnone.out]; rfl), n, rfl⟩
  · have h1i : ¬ (i : Int) + 1 < (s.size : Int) := by omega
    have HSym := Lib.hid (symS_loop s[i] (s.data.toList.drop (i + 1)) (fun h => by have := h.2; rw [hh, List.getElem?_eq_none (by simp; omega)] at this; cases this))
    clear hh hl
    go_enter Try.func55, Try.ntmps55
    go_wp2
    rw [show (⟨#[45, 43, 58, 44, 59, 47, 61, 40, 41, 60, 62, 42]⟩ : ByteArray) = symA from rfl]
    go_loopw [6] (fun u wr => ∃ q : Nat, u = .int .i64 q ∧ q ≤ symA.size ∧ (∀ q', q' < q → ∀ c, symA.data.toList[q']? = some c → ¬ c = s[i]) ∧ ∃ n, wr = w.drewN n) (fun u _ => symA.size - (intOf u).toNat)
    case atStart => exact ⟨0, rfl, Nat.zero_le _, fun q' h => absurd h (by omega), 0, rfl⟩
    case round =>
      obtain ⟨q, rfl, hq, hall, n, rfl⟩ := hrel
      have Hall := Lib.hid hall
      clear hall
      by_cases hqs : q < symA.size
      · have hqi : (q : Int) < (symA.size : Int) := by omega
        have hsz : (symA.size : Int) ≤ 12 := by decide
        have hgq := get_byte symA q hqs
        by_cases he : symA[q] = s[i]
        · have heb : ((s[i].toNat : Int) == (symA[q].toNat : Int)) = true := beq_yes (by rw [he])
          have Hone := Lib.hid (HSym.out.trans (if_pos (List.mem_of_getElem? (by rw [hgq, he]))))
          clear he hgq
          go_wp2
          go_quiet (fail)
          go_wp2
          go_ret
          exact ⟨ret_int (by rw [Hone.out]; rfl), n + nq, by first | rfl | rw [World.drewN_drewN]⟩
        · have heb : ((s[i].toNat : Int) == (symA[q].toNat : Int)) = false := beq_no (fun h => he (by apply UInt8.toNat_inj.mp; omega))
          have He := Lib.hid he
          have Hgq := Lib.hid hgq
          clear he hgq
          go_wp2
          go_quiet (fail)
          go_wp2
          go_roundw
          case rel => exact ⟨q + 1, by go_num, by omega, fun q' h c hc => by
            by_cases e : q' = q
            · subst e; rw [Hgq.out] at hc; cases hc; exact He.out
            · exact Hall.out q' (by omega) c hc, n + nq, by first | rfl | rw [World.drewN_drewN]⟩
          case measure => simp [intOf]; omega
      · have hqi : ¬ (q : Int) < (symA.size : Int) := by omega
        have Hnone := Lib.hid (HSym.out.trans (if_neg (fun h => by
          obtain ⟨j, hj, hjc⟩ := List.getElem_of_mem h
          have hl : symA.data.toList.length = symA.size := by simp
          exact Hall.out j (by omega) s[i] (by rw [List.getElem?_eq_getElem hj, hjc]) rfl)))
        go_wp2
        go_ret
        exact ⟨ret_int (by rw [Hnone.out]; rfl), n, rfl⟩

end Go.Proofs.Ytbpcfgeefelfdaa
