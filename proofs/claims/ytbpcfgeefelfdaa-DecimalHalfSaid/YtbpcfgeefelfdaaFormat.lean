/- The walks of Format, and of its reference. -/
import Derived.Test.YtbpcfgeefelfdaaTokParts
import Derived.Test.YtbpcfgeefelfdaaFmtMath
import Derived.Laws.IdiomStrings
import Derived.WalkSmall
namespace Go.Proofs.Ytbpcfgeefelfdaa
open Go.RowKit

def strSz' : Value → Nat
  | .string t => t.size
  | _ => 0

def byteV (c : UInt8) : Value := .int .u8 (c.toNat : Int)
/-- The buffer of 21 bytes whose end is b. -/
def buf (b : List UInt8) : Array Value := ((List.replicate (21 - b.length) 0 ++ b).map byteV).toArray

theorem buf_step (b : List UInt8) (c : UInt8) (q : Nat) (h : q + 1 + b.length = 21) : (buf b).setIfInBounds q (byteV c) = buf (c :: b) := by
  unfold buf
  rw [List.setIfInBounds_toArray]
  congr 1
  simp only [List.length_cons]
  rw [show 21 - b.length = q + 1 from by omega, show 21 - (b.length + 1) = q from by omega]
  rw [← List.map_set]
  congr 1
  rw [show List.replicate (q + 1) (0 : UInt8) = List.replicate q 0 ++ [0] from by rw [List.replicate_succ']]
  simp

theorem buf_cell {w : World} {B : Nat} {t : TypeId} {b : List UInt8} (h : Has w B t (buf b)) (q : Nat) (hq : q + b.length < 21) : w.cell? ⟨B, q, none⟩ = some (.int .u8 0) := by
  rw [h.cell]
  unfold buf
  have hr : q < 21 - b.length := by omega
  simp [List.getElem?_append, hr, byteV]

theorem buf_tail {w : World} {B : Nat} {t : TypeId} {b : List UInt8} (h : Has w B t (buf b)) (j : Nat) (hj : j < b.length) : w.cell? ⟨B, 21 - b.length + j, none⟩ = some (.int .u8 (b[j].toNat : Int)) := by
  rw [h.cell]
  unfold buf
  simp [List.getElem?_append, byteV, List.getElem?_eq_getElem hj]

theorem addr_add (B q j : Nat) : (⟨B, q, none⟩ : Addr).add j = ⟨B, q + j, none⟩ := by
  unfold Addr.add
  split <;> simp_all

/-- The end of the buffer as a string. -/
theorem text_back {w : World} {B : Nat} {b : List UInt8} (h : Has w B 5 (buf b)) (q : Nat) (hq : q + b.length = 21) :
    (convert 48 9 (.slice (some ⟨B, q, none⟩) (21 - q) (21 - q))).run Try.prog w = .ok (.string (bytesOf b)) w := by
  have hl : b.length = 21 - q := by omega
  have := run_convert_bytes_back (P := Try.prog) w 48 9 5 ⟨B, q, none⟩ (21 - q) b Try.underlying48 Try.underlying5 Try.underlying9 (fun j hj => by
    rw [addr_add]
    have := buf_tail h j hj
    rwa [show 21 - b.length + j = q + j from by omega] at this)
  rw [hl] at this
  exact this

set_option maxHeartbeats 2000000 in
theorem Format_ok (n : Int) (k : Nat) (w : World) (hk : k ≤ 9) (hn : -1152921504606846976 ≤ n) (hn2 : n ≤ 1152921504606846976) :
    Calls Try.prog 11 #[.int .i64 n, .int .i64 k] w fun e w' => ∃ d, Ends n.natAbs k d ∧ e = .returned (.tuple #[.string (bytesOf (fmtS n k d)), .int .i64 0]) ∧ Below w.heap.size w w' := by
  have Hk := Lib.hid (cntB_yes (d := k) ⟨by omega, by omega⟩)
  have Hn := Lib.hid (numB_yes ⟨hn, hn2⟩)
  have hmk : ∀ w : World, (Instr.makeSlice 48 (.int .i64 21) (.int .i64 21)).run Try.prog w = .ok (.slice (some ⟨w.heap.size, 0, none⟩) 21 21) (w.alloc (.cells (buf []) 5)) := fun _ => by kernel_rfl
  go_enter Try.func11, Try.ntmps11
  go_wp2_with (first
    | (go_at_call 26; refine ((isCount_any _ _).mono ?_); rintro e w' ⟨rfl, rfl⟩; rw [Hk.out])
    | (go_at_call 27; refine ((isNumber_any _ _).mono ?_); rintro e w' ⟨rfl, rfl⟩; rw [Hn.out]))
  go_loopw [7, 8, 9] (fun u7 u8 u9 wr => ∃ (d a r : Nat), u9 = .int .i64 d ∧ u8 = .int .i64 r ∧ u7 = .int .i64 a ∧ r = n.natAbs / 10 ^ d ∧ a + (body n.natAbs k d).length = 21 ∧ d ≤ 19 ∧ (∀ d', d' < d → d' ≤ k ∨ 0 < n.natAbs / 10 ^ d') ∧ Has wr w.heap.size 5 (buf (body n.natAbs k d)) ∧ Below w.heap.size w wr)
    (fun _ _ u9 _ => 20 - (intOf u9).toNat)
  case atStart =>
    refine ⟨0, 21, n.natAbs, rfl, ?_, rfl, by simp, by simp [body_zero], by omega, fun d' h => absurd h (by omega), ?_, (Below.refl _ _).alloc (Nat.le_refl _) _⟩
    · show Value.int _ _ = Value.int _ _
      congr 1
      omega
    · rw [body_zero]; exact heap_alloc_new w _
  case round =>
    obtain ⟨d, a, r, rfl, rfl, rfl, hr, ha, hd, hneed, hb, hbel⟩ := hrel
    have hr0 : (0 : Int) ≤ (r : Int) := by omega
    have hrn : r ≤ 1152921504606846976 := by rw [hr]; exact Nat.le_trans (Nat.div_le_self _ _) (by omega)
    by_cases hgo : d ≤ k ∨ 0 < r
    · have hd18 : d ≤ 18 := need_le (n := n.natAbs) (by omega) hk (by rw [← hr]; exact hgo)
      have hneed' : ∀ d', d' < d + 1 → d' ≤ k ∨ 0 < n.natAbs / 10 ^ d' := fun d' h => by
        by_cases e : d' = d
        · rw [e, ← hr]; exact hgo
        · exact hneed d' (by omega)
      have hdiv : r / 10 = n.natAbs / 10 ^ (d + 1) := by rw [hr]; exact div_step _ _
      by_cases hpt : d = k ∧ 0 < k
      · have hbl : (body n.natAbs k d).length = d := by rw [body_len, if_pos (Or.inr (by omega))]
        obtain ⟨q, rfl⟩ : ∃ q, a = q + 2 := ⟨a - 2, by omega⟩
        have hq : (q : Int) < 19 := by omega
        have hc1 : wr.cell? ⟨w.heap.size, q + 1, none⟩ = some (.int .u8 0) := buf_cell hb (q + 1) (by omega)
        have hf1 : wr.frozen? ⟨w.heap.size, q + 1, none⟩ = false := hb.free (q + 1)
        have hc0 : (wr.setCell ⟨w.heap.size, q + 1, none⟩ (.int .u8 46)).cell? ⟨w.heap.size, q, none⟩ = some (.int .u8 0) := by
          rw [World.cell?_setCell_other _ _ _ _ (by simp)]; exact buf_cell hb q (by omega)
        have hf0 : (wr.setCell ⟨w.heap.size, q + 1, none⟩ (.int .u8 46)).frozen? ⟨w.heap.size, q, none⟩ = false := (hb.set (q + 1) (.int .u8 46)).free q
        have hst : Has ((wr.setCell ⟨w.heap.size, q + 1, none⟩ (.int .u8 46)).setCell ⟨w.heap.size, q, none⟩ (.int .u8 (48 + (r : Int) % 10))) w.heap.size 5 (buf (body n.natAbs k (d + 1))) := by
          have h1 := hb.set (q + 1) (byteV 46)
          rw [buf_step _ _ (q + 1) (by omega)] at h1
          have h2 := h1.set q (byteV (dig r))
          rw [buf_step _ _ q (by simp; omega)] at h2
          have hbp : body n.natAbs k (d + 1) = dig r :: 46 :: body n.natAbs k d := by
            rw [hr, hpt.1]; exact body_point _ _ hpt.2
          rw [hbp]
          simpa [byteV, dig_int] using h2
        have hbel' := Lib.hid ((hbel.setCell (p := ⟨w.heap.size, q + 1, none⟩) (Nat.le_refl _) (.int .u8 46)).setCell (p := ⟨w.heap.size, q, none⟩) (Nat.le_refl _) (.int .u8 (48 + (r : Int) % 10)))
        have hl' : q + (body n.natAbs k (d + 1)).length = 21 := by rw [body_len, if_neg (by omega)]; omega
        have Hst := Lib.hid hst
        have Hneed := Lib.hid hneed'
        have Hdiv := Lib.hid hdiv
        have Hl := Lib.hid hl'
        have hdk : (d : Int) ≤ (k : Int) := by omega
        have hde : ((d : Int) == (k : Int)) = true := beq_iff_eq.2 (by omega)
        have hk0 : (0 : Int) < (k : Int) := by omega
        clear hst hneed' hneed hdiv hl' hr ha hbl hb hbel hpt hgo
        go_wp2
        go_roundw
        case rel => exact ⟨d + 1, q, r / 10, by go_num, by go_num, by go_num, Hdiv.out, Hl.out, by omega, Hneed.out, Hst.out, hbel'.out⟩
        case measure => simp [intOf]; omega
      · have hlen := body_len n.natAbs k d
        have hbl : (body n.natAbs k d).length ≤ d + 1 := by rw [hlen]; split <;> omega
        obtain ⟨q, rfl⟩ : ∃ q, a = q + 1 := ⟨a - 1, by omega⟩
        have hcell := buf_cell hb q (by omega)
        have hfree : wr.frozen? ⟨w.heap.size, q, none⟩ = false := hb.free q
        have hst : Has (wr.setCell ⟨w.heap.size, q, none⟩ (.int .u8 (48 + (r : Int) % 10))) w.heap.size 5 (buf (body n.natAbs k (d + 1))) := by
          have := hb.set q (byteV (dig r))
          rw [buf_step _ _ q (by omega)] at this
          rw [body_plain _ _ _ hpt, ← hr]
          simpa [byteV, dig_int] using this
        have hbel' := Lib.hid (hbel.setCell (p := ⟨w.heap.size, q, none⟩) (Nat.le_refl _) (.int .u8 (48 + (r : Int) % 10)))
        have hl' : q + (body n.natAbs k (d + 1)).length = 21 := by rw [body_plain _ _ _ hpt, List.length_cons]; omega
        have Hst := Lib.hid hst
        have Hneed := Lib.hid hneed'
        have Hdiv := Lib.hid hdiv
        have Hl := Lib.hid hl'
        have hq : (q : Int) < 21 := by omega
        have hcase : ((d : Int) ≤ (k : Int) ∧ ¬ d = k) ∨ (d = k ∧ k = 0) ∨ (¬ (d : Int) ≤ (k : Int) ∧ (0 : Int) < (r : Int)) := by omega
        clear hst hneed' hneed hdiv hl' hr ha hlen hbl hb hbel hpt hgo
        rcases hcase with ⟨e1, e2⟩ | ⟨e1, e2⟩ | ⟨e1, e2⟩
        · have hde : ((d : Int) == (k : Int)) = false := beq_eq_false_iff_ne.2 (by omega)
          clear e2
          go_wp2
          go_roundw
          case rel => exact ⟨d + 1, q, r / 10, by go_num, by go_num, rfl, Hdiv.out, Hl.out, by omega, Hneed.out, Hst.out, hbel'.out⟩
          case measure => simp [intOf]; omega
        · have hde : ((d : Int) == (k : Int)) = true := beq_iff_eq.2 (by omega)
          have hk0 : ¬ (0 : Int) < (k : Int) := by omega
          have hdk : (d : Int) ≤ (k : Int) := by omega
          clear e1 e2
          go_wp2
          go_roundw
          case rel => exact ⟨d + 1, q, r / 10, by go_num, by go_num, rfl, Hdiv.out, Hl.out, by omega, Hneed.out, Hst.out, hbel'.out⟩
          case measure => simp [intOf]; omega
        · have hde : ((d : Int) == (k : Int)) = false := beq_eq_false_iff_ne.2 (by omega)
          go_wp2
          go_roundw
          case rel => exact ⟨d + 1, q, r / 10, by go_num, by go_num, rfl, Hdiv.out, Hl.out, by omega, Hneed.out, Hst.out, hbel'.out⟩
          case measure => simp [intOf]; omega
    · have hend : Ends n.natAbs k d := ⟨by omega, by omega, hneed⟩
      have hk1 : ¬ (d : Int) ≤ (k : Int) := by omega
      have hr1 : ¬ (0 : Int) < (r : Int) := by omega
      have hlen := body_len n.natAbs k d
      have hbl : (body n.natAbs k d).length ≤ 20 := by rw [hlen]; split <;> omega
      have Hend := Lib.hid hend
      have Hb := Lib.hid hb
      have Hbel := Lib.hid hbel
      have Ha := Lib.hid ha
      clear hend hgo hneed hr ha hlen hb hbel
      by_cases hneg : n < 0
      · have Hneg := Lib.hid hneg
        obtain ⟨q, rfl⟩ : ∃ q, a = q + 1 := ⟨a - 1, by have := Ha.out; omega⟩
        have ha := Ha.out
        have hq : (q : Int) < 21 := by omega
        have hq2 : q ≤ 21 := by omega
        have hc0 := buf_cell Hb.out q (by omega)
        have hf0 : wr.frozen? ⟨w.heap.size, q, none⟩ = false := Hb.out.free q
        have h1 := Hb.out.set q (byteV 45)
        rw [buf_step _ _ q (by omega)] at h1
        have hcv := text_back h1 q (by rw [List.length_cons]; omega)
        have Hcv := Lib.hid hcv
        clear h1 ha hcv
        have hcv : (convert 48 9 (.slice (some ⟨w.heap.size, q, none⟩) (21 - q) (21 - q))).run Try.prog (wr.setCell ⟨w.heap.size, q, none⟩ (.int .u8 45)) = .ok (.string (bytesOf (45 :: body n.natAbs k d))) (wr.setCell ⟨w.heap.size, q, none⟩ (.int .u8 45)) := Hcv.out
        go_wp2
        go_ret2
        refine ⟨d, Hend.out, ?_, Hbel.out.setCell (Nat.le_refl _) _⟩
        rw [fmtS_neg (by have := Hneg.out; omega)]
        rfl
      · have Hneg := Lib.hid hneg
        have hq : (a : Int) < 21 := by
          have ha := Ha.out
          have hlen := body_len n.natAbs k d
          have := Hend.out.more
          split at hlen <;> omega
        have hq2 : a ≤ 21 := by omega
        have hcv := text_back Hb.out a Ha.out
        go_wp2
        go_ret2
        refine ⟨d, Hend.out, ?_, Hbel.out⟩
        rw [fmtS_pos (by have := Hneg.out; omega)]
        rfl

set_option maxHeartbeats 400000 in
theorem Format_range (n k : Int) (w : World) (hk : cntB k = false) :
    Calls Try.prog 11 #[.int .i64 n, .int .i64 k] w fun e w' => e = .returned (.tuple #[.string ⟨#[]⟩, .int .i64 2]) ∧ w = w' := by
  have Hk := Lib.hid hk
  clear hk
  go_enter Try.func11, Try.ntmps11
  go_wp2_with (go_at_call 26; refine ((isCount_any _ _).mono ?_); rintro e w' ⟨rfl, rfl⟩; rw [Hk.out])
  go_ret2
  exact ⟨rfl, rfl⟩

set_option maxHeartbeats 400000 in
theorem Format_big (n k : Int) (w : World) (hk : cntB k = true) (hn : numB n = false) :
    Calls Try.prog 11 #[.int .i64 n, .int .i64 k] w fun e w' => e = .returned (.tuple #[.string ⟨#[]⟩, .int .i64 5]) ∧ w = w' := by
  have Hk := Lib.hid hk
  have Hn := Lib.hid hn
  clear hk hn
  go_enter Try.func11, Try.ntmps11
  go_wp2_with (first
    | (go_at_call 26; refine ((isCount_any _ _).mono ?_); rintro e w' ⟨rfl, rfl⟩; rw [Hk.out])
    | (go_at_call 27; refine ((isNumber_any _ _).mono ?_); rintro e w' ⟨rfl, rfl⟩; rw [Hn.out]))
  go_ret2
  exact ⟨rfl, rfl⟩

/-! The reference. -/
theorem bytes_cons (c : UInt8) (l : List UInt8) : bytesOf [c] ++ bytesOf l = bytesOf (c :: l) := by
  apply Go.WideShapes.bytes_inj
  simp [bytesOf]

theorem one_back (w : World) (r : Nat) : (convert 48 9 (.slice (some ⟨w.heap.size, 0, none⟩) 1 1)).run Try.prog (w.alloc (.cells #[.int .u8 (48 + (r : Int) % 10)] 5)) =
    .ok (.string (bytesOf [dig r])) (w.alloc (.cells #[.int .u8 (48 + (r : Int) % 10)] 5)) := by
  have h : Has (w.alloc (.cells #[.int .u8 (48 + (r : Int) % 10)] 5)) w.heap.size 5 #[.int .u8 (48 + (r : Int) % 10)] := heap_alloc_new w _
  exact run_convert_bytes_back (P := Try.prog) _ 48 9 5 ⟨w.heap.size, 0, none⟩ 1 [dig r] Try.underlying48 Try.underlying5 Try.underlying9 (fun j hj => by
    obtain rfl : j = 0 := by simpa using hj
    rw [addr_add, h.cell]
    simp [dig_int])

set_option maxHeartbeats 2000000 in
theorem refDigits_ok (n k : Nat) (w : World) (hk : k ≤ 9) (hn : n ≤ 1152921504606846976) :
    Calls Try.prog 28 #[.int .i64 n, .int .i64 ((k : Int) + 1)] w fun e w' => ∃ d, Ends n k d ∧ e = .returned (.string (bytesOf (lowD n d))) ∧ Below w.heap.size w w' := by
  go_enter Try.func28, Try.ntmps28
  go_wp2
  go_loopw [0, 5] (fun u0 u5 wr => ∃ (d r : Nat) (s : ByteArray), u0 = .int .i64 r ∧ u5 = .string s ∧ s = bytesOf (lowD n d) ∧ s.size = d ∧ r = n / 10 ^ d ∧ d ≤ 19 ∧ (∀ d', d' < d → d' ≤ k ∨ 0 < n / 10 ^ d') ∧ Below w.heap.size w wr)
    (fun _ u5 _ => 20 - strSz' u5)
  case atStart => exact ⟨0, n, ⟨#[]⟩, rfl, rfl, rfl, rfl, by simp, by omega, fun d' h => absurd h (by omega), Below.refl _ _⟩
  case round =>
    obtain ⟨d, r, s, rfl, rfl, hs, hsz, hr, hd, hneed, hbel⟩ := hrel
    have hr0 : (0 : Int) ≤ (r : Int) := by omega
    have hrn : r ≤ 1152921504606846976 := by rw [hr]; exact Nat.le_trans (Nat.div_le_self _ _) (by omega)
    by_cases hgo : 0 < r ∨ d < k + 1
    · have hd18 : d ≤ 18 := need_le (n := n) (by omega) hk (by rw [← hr]; omega)
      have hneed' : ∀ d', d' < d + 1 → d' ≤ k ∨ 0 < n / 10 ^ d' := fun d' h => by
        by_cases e : d' = d
        · rw [e, ← hr]; omega
        · exact hneed d' (by omega)
      have hdiv : r / 10 = n / 10 ^ (d + 1) := by rw [hr]; exact div_step _ _
      have hlow : lowD n (d + 1) = dig r :: lowD n d := by rw [hr]; rfl
      have Hneed := Lib.hid hneed'
      have Hdiv := Lib.hid hdiv
      have Hlow := Lib.hid hlow
      have Hs := Lib.hid hs
      have Hsz := Lib.hid hsz
      have hsd : (s.size : Int) ≤ (d : Int) := by omega
      have hsd2 : (d : Int) ≤ (s.size : Int) := by omega
      have h1 : (bytesOf [dig r]).size + s.size ≤ 20 := by
        have : (bytesOf [dig r]).size = 1 := rfl
        omega
      have hcv := one_back wr r
      clear hneed hneed' hdiv hlow hs hr hsz
      by_cases h0 : (0 : Int) < (r : Int)
      · go_wp2
        go_roundw
        case rel =>
          refine ⟨d + 1, r / 10, _, by go_num, rfl, ?_, ?_, Hdiv.out, by omega, Hneed.out, hbel.alloc hbel.size _⟩
          · rw [Hs.out, Hlow.out]; exact bytes_cons _ _
          · rw [ByteArray.size_append, Hsz.out]; show 1 + d = d + 1; omega
        case measure =>
          show 20 - (bytesOf [dig r] ++ s).size < 20 - s.size
          rw [ByteArray.size_append, Hsz.out]; show 20 - (1 + d) < 20 - d; omega
      · have h2 : (s.size : Int) < (k : Int) + 1 := by omega
        obtain rfl : r = 0 := by omega
        have hcv0 : (convert 48 9 (.slice (some ⟨wr.heap.size, 0, none⟩) 1 1)).run Try.prog (wr.alloc (.cells #[.int .u8 48] 5)) = .ok (.string (bytesOf [dig 0])) (wr.alloc (.cells #[.int .u8 48] 5)) := hcv
        clear hcv h0 hgo
        go_wp2
        go_roundw
        case rel =>
          refine ⟨d + 1, 0 / 10, _, rfl, rfl, ?_, ?_, Hdiv.out, by omega, Hneed.out, hbel.alloc hbel.size _⟩
          · rw [Hs.out, Hlow.out]; exact bytes_cons _ _
          · rw [ByteArray.size_append, Hsz.out]; show 1 + d = d + 1; omega
        case measure =>
          show 20 - (bytesOf [dig 0] ++ s).size < 20 - s.size
          rw [ByteArray.size_append, Hsz.out]; show 20 - (1 + d) < 20 - d; omega
    · have hend : Ends n k d := ⟨by omega, by omega, hneed⟩
      have h0 : ¬ (0 : Int) < (r : Int) := by omega
      have h2 : ¬ (s.size : Int) < (k : Int) + 1 := by omega
      have Hend := Lib.hid hend
      have Hs := Lib.hid hs
      clear hend hs hsz hr hneed hgo
      go_wp2
      go_ret
      exact ⟨d, Hend.out, by rw [← Hs.out]; rfl, hbel⟩

theorem ret_str {s t : ByteArray} (h : s = t) : Ending.returned (.string s) = .returned (.string t) := by rw [h]

theorem plain_text (p : List UInt8) {S : ByteArray} {m d : Nat} (hS : S = bytesOf (lowD m d)) : (⟨p.toArray⟩ : ByteArray) ++ S = bytesOf (p ++ body m 0 d) := by
  apply Go.WideShapes.bytes_inj
  rw [hS]
  simp [bytesOf, body]

theorem point_text (p : List UInt8) {S : ByteArray} {m d k : Nat} (hS : S = bytesOf (lowD m d)) (hs : S.size = d) (hk : k < d) (h0 : ¬ k = 0) :
    (⟨p.toArray⟩ : ByteArray) ++ S.extract 0 (S.size - k) ++ (⟨#[46]⟩ : ByteArray) ++ S.extract (S.size - k) S.size = bytesOf (p ++ body m k d) := by
  have hl : S.data.toList = lowD m d := by rw [hS]; simp [bytesOf]
  apply Go.WideShapes.bytes_inj
  have e1 : (S.extract 0 (S.size - k)).data.toList = (lowD m d).take (d - k) := by
    rw [Lib.extract_data, hl, hs]; simp
  have e2 : (S.extract (S.size - k) S.size).data.toList = lowD m k := by
    rw [Lib.extract_to_end, hl, hs]; exact lowD_drop m k d (by omega)
  have hb : body m k d = (lowD m d).take (d - k) ++ 46 :: lowD m k := by
    unfold body; rw [if_neg (by omega)]
  rw [hb]
  simp only [ByteArray.data_append, Array.toList_append, e1, e2, bytesOf]
  simp

set_option maxHeartbeats 2000000 in
theorem refFormat_ok (n : Int) (k : Nat) (w : World) (hk : k ≤ 9) (hn : -1152921504606846976 ≤ n) (hn2 : n ≤ 1152921504606846976) :
    Calls Try.prog 13 #[.int .i64 n, .int .i64 k] w fun e w' => ∃ d, Ends n.natAbs k d ∧ e = .returned (.string (bytesOf (fmtS n k d))) ∧ Below w.heap.size w w' := by
  by_cases hneg : n < 0
  · have Hneg := Lib.hid hneg
    obtain ⟨m, hm⟩ : ∃ m : Nat, m = n.natAbs := ⟨_, rfl⟩
    have Hm := Lib.hid hm
    have hmn : (m : Int) = 0 - n := by omega
    have hmb : m ≤ 1152921504606846976 := by omega
    have Hmn := Lib.hid hmn
    clear hm hmn
    go_enter Try.func13, Try.ntmps13
    go_wp2_with fail
    rw [show (-n) = ((m : Nat) : Int) from by have := Hmn.out; omega]
    refine (refDigits_ok m k _ hk hmb).mono ?_
    rintro e w1 ⟨d, hend, rfl, hb⟩
    obtain ⟨S, hS⟩ : ∃ S, S = bytesOf (lowD m d) := ⟨_, rfl⟩
    have hSz : S.size = d := by rw [hS]; show (lowD m d).toArray.size = d; simp [lowD_len]
    have hd := ends_le hmb hk hend
    have hkd := hend.more
    rw [← hS]
    have hsz1 : (S.size : Int) ≤ 19 := by omega
    have hsz2 : (k : Int) + 1 ≤ (S.size : Int) := by omega
    have HS := Lib.hid hS
    have HSz := Lib.hid hSz
    have Hend := Lib.hid hend
    clear hS hSz hend hd hkd
    by_cases hk0 : k = 0
    · have Hk0 := Lib.hid hk0
      have hkb : ((k : Int) == 0) = true := beq_iff_eq.2 (by omega)
      clear hk0
      go_wp2
      go_ret
      refine ⟨d, Hm.out ▸ Hend.out, ?_, hb⟩
      rw [fmtS_neg (by have := Hneg.out; omega), ← Hm.out, Hk0.out]
      exact ret_str (plain_text [45] HS.out)
    · have hkb : ((k : Int) == 0) = false := beq_eq_false_iff_ne.2 (by omega)
      have Hk0 := Lib.hid hk0
      clear hk0
      go_wp2
      go_quiet (fail)
      go_wp2
      go_ret
      refine ⟨d, Hm.out ▸ Hend.out, ?_, below_drewN hb _⟩
      rw [fmtS_neg (by have := Hneg.out; omega), ← Hm.out]
      exact ret_str (point_text [45] HS.out HSz.out (by have := HSz.out; omega) Hk0.out)
  · have Hneg := Lib.hid hneg
    obtain ⟨m, hm⟩ : ∃ m : Nat, m = n.natAbs := ⟨_, rfl⟩
    have Hm := Lib.hid hm
    have hmn : (m : Int) = n := by omega
    have hmb : m ≤ 1152921504606846976 := by omega
    have Hmn := Lib.hid hmn
    clear hm hmn
    go_enter Try.func13, Try.ntmps13
    go_wp2_with fail
    rw [show n = ((m : Nat) : Int) from by have := Hmn.out; omega]
    refine (refDigits_ok m k _ hk hmb).mono ?_
    rintro e w1 ⟨d, hend, rfl, hb⟩
    obtain ⟨S, hS⟩ : ∃ S, S = bytesOf (lowD m d) := ⟨_, rfl⟩
    have hSz : S.size = d := by rw [hS]; show (lowD m d).toArray.size = d; simp [lowD_len]
    have hd := ends_le hmb hk hend
    have hkd := hend.more
    rw [← hS]
    have hsz1 : (S.size : Int) ≤ 19 := by omega
    have hsz2 : (k : Int) + 1 ≤ (S.size : Int) := by omega
    have HS := Lib.hid hS
    have HSz := Lib.hid hSz
    have Hend := Lib.hid hend
    clear hS hSz hend hd hkd
    by_cases hk0 : k = 0
    · have Hk0 := Lib.hid hk0
      have hkb : ((k : Int) == 0) = true := beq_iff_eq.2 (by omega)
      clear hk0
      go_wp2
      go_ret
      refine ⟨d, Hm.out ▸ Hend.out, ?_, hb⟩
      rw [fmtS_pos (by have := Hneg.out; omega), ← Hm.out, Hk0.out]
      exact ret_str (plain_text [] HS.out)
    · have hkb : ((k : Int) == 0) = false := beq_eq_false_iff_ne.2 (by omega)
      have Hk0 := Lib.hid hk0
      clear hk0
      go_wp2
      go_quiet (fail)
      go_wp2
      go_ret
      refine ⟨d, Hm.out ▸ Hend.out, ?_, below_drewN hb _⟩
      rw [fmtS_pos (by have := Hneg.out; omega), ← Hm.out]
      exact ret_str (point_text [] HS.out HSz.out (by have := HSz.out; omega) Hk0.out)

end Go.Proofs.Ytbpcfgeefelfdaa
