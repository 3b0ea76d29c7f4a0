/- The walks of Format, and of its reference. -/
import Derived.Test.YtbpcfgeefelfdaaDoorTokParts
import Derived.Test.YtbpcfgeefelfdaaDoorFmtMath
import Derived.Laws.IdiomStrings
import Derived.WalkSmall
namespace Go.Proofs.YtbpcfgeefelfdaaDoor
open Go.RowKit

def strSz' : Value → Nat
  | .string t => t.size
  | _ => 0

def byteV (c : UInt8) : Value := .int .u8 (c.toNat : Int)
/-- The buffer of 21 bytes whose end is b. -/
def buf (b : List UInt8) : Array Value := ((List.replicate (21 - b.length) 0 ++ b).map byteV).toArray

theorem buf_step (b : List UInt8) (c : UInt8) (q : Nat) (h : q + 1 + b.length = 21) : (buf b).setIfInBounds q (byteV c) = buf (c :: b) := by
  unfold buf
  rw [List.setIfInBounds_toArray]
  congr 1
  simp only [List.length_cons]
  rw [show 21 - b.length = q + 1 from by omega, show 21 - (b.length + 1) = q from by omega]
  rw [← List.map_set]
  congr 1
  rw [show List.replicate (q + 1) (0 : UInt8) = List.replicate q 0 ++ [0] from by rw [List.replicate_succ']]
  simp

theorem buf_cell {w : World} {B : Nat} {t : TypeId} {b : List UInt8} (h : Has w B t (buf b)) (q : Nat) (hq : q + b.length < 21) : w.cell? ⟨B, q, none⟩ = some (.int .u8 0) := by
  rw [h.cell]
  unfold buf
  have hr : q < 21 - b.length := by omega
  simp [List.getElem?_append, hr, byteV]

theorem buf_tail {w : World} {B : Nat} {t : TypeId} {b : List UInt8} (h : Has w B t (buf b)) (j : Nat) (hj : j < b.length) : w.cell? ⟨B, 21 - b.length + j, none⟩ = some (.int .u8 (b[j].toNat : Int)) := by
  rw [h.cell]
  unfold buf
  simp [List.getElem?_append, byteV, List.getElem?_eq_getElem hj]

theorem addr_add (B q j : Nat) : (⟨B, q, none⟩ : Addr).add j = ⟨B, q + j, none⟩ := by
  unfold Addr.add
  split <;> simp_all

/-- The end of the buffer as a string. -/
theorem text_back {w : World} {B : Nat} {b : List UInt8} (h : Has w B 5 (buf b)) (q : Nat) (hq : q + b.length = 21) :
    (convert 47 9 (.slice (some ⟨B, q, none⟩) (21 - q) (21 - q))).run Tryd.prog w = .ok (.string (bytesOf b)) w := by
  have hl : b.length = 21 - q := by omega
  have := run_convert_bytes_back (P := Tryd.prog) w 47 9 5 ⟨B, q, none⟩ (21 - q) b Tryd.underlying47 Tryd.underlying5 Tryd.underlying9 (fun j hj => by
    rw [addr_add]
    have := buf_tail h j hj
    rwa [show 21 - b.length + j = q + j from by omega] at this)
  rw [hl] at this
  exact this

set_option maxHeartbeats 2000000 in
theorem Format_ok (n : Int) (k : Nat) (w : World) (hk : k ≤ 9) (hn : -1152921504606846976 ≤ n) (hn2 : n ≤ 1152921504606846976) :
    Calls Tryd.prog 11 #[.int .i64 n, .int .i64 k] w fun e w' => ∃ d, Ends n.natAbs k d ∧ e = .returned (.tuple #[.string (bytesOf (fmtS n k d)), .int .i64 0]) ∧ Below w.heap.size w w' := by
  have Hk := Lib.hid (cntB_yes (d := k) ⟨by omega, by omega⟩)
  have Hn := Lib.hid (numB_yes ⟨hn, hn2⟩)
  have hmk : ∀ w : World, (Instr.makeSlice 47 (.int .i64 21) (.int .i64 21)).run Tryd.prog w = .ok (.slice (some ⟨w.heap.size, 0, none⟩) 21 21) (w.alloc (.cells (buf []) 5)) := fun _ => by kernel_rfl
  go_enter Tryd.func11, Tryd.ntmps11
  go_wp2_with (first
    | (go_at_call 20; refine ((isCount_any _ _).mono ?_); rintro e w' ⟨rfl, rfl⟩; rw [Hk.out])
    | (go_at_call 21; refine ((isNumber_any _ _).mono ?_); rintro e w' ⟨rfl, rfl⟩; rw [Hn.out]))
  go_loopw [7, 8, 9] (fun u7 u8 u9 wr => ∃ (d a r : Nat), u9 = .int .i64 d ∧ u8 = .int .i64 r ∧ u7 = .int .i64 a ∧ r = n.natAbs / 10 ^ d ∧ a + (body n.natAbs k d).length = 21 ∧ d ≤ 19 ∧ (∀ d', d' < d → d' ≤ k ∨ 0 < n.natAbs / 10 ^ d') ∧ Has wr w.heap.size 5 (buf (body n.natAbs k d)) ∧ Below w.heap.size w wr)
    (fun _ _ u9 _ => 20 - (intOf u9).toNat)
  case atStart =>
    refine ⟨0, 21, n.natAbs, rfl, ?_, rfl, by simp, by simp [body_zero], by omega, fun d' h => absurd h (by omega), ?_, (Below.refl _ _).alloc (Nat.le_refl _) _⟩
    · show Value.int _ _ = Value.int _ _
      congr 1
      omega
    · rw [body_zero]; exact heap_alloc_new w _
  case round =>
    obtain ⟨d, a, r, rfl, rfl, rfl, hr, ha, hd, hneed, hb, hbel⟩ := hrel
    have hr0 : (0 : Int) ≤ (r : Int) := by omega
    have hrn : r ≤ 1152921504606846976 := by rw [hr]; exact Nat.le_trans (Nat.div_le_self _ _) (by omega)
    by_cases hgo : d ≤ k ∨ 0 < r
    · have hd18 : d ≤ 18 := need_le (n := n.natAbs) (by omega) hk (by rw [← hr]; exact hgo)
      have hneed' : ∀ d', d' < d + 1 → d' ≤ k ∨ 0 < n.natAbs / 10 ^ d' := fun d' h => by
        by_cases e : d' = d
        · rw [e, ← hr]; exact hgo
        · exact hneed d' (by omega)
      have hdiv : r / 10 = n.natAbs / 10 ^ (d + 1) := by rw [hr]; exact div_step _ _
      by_cases hpt : d = k ∧ 0 < k
      · have hbl : (body n.natAbs k d).length = d := by rw [body_len, if_pos (Or.inr (by omega))]
        obtain ⟨q, rfl⟩ : ∃ q, a = q + 2 := ⟨a - 2, by omega⟩
        have hq : (q : Int) < 19 := by omega
        have hc1 : wr.cell? ⟨w.heap.size, q + 1, none⟩ = some (.int .u8 0) := buf_cell hb (q + 1) (by omega)
        have hf1 : wr.frozen? ⟨w.heap.size, q + 1, none⟩ = false := hb.free (q + 1)
        have hc0 : (wr.setCell ⟨w.heap.size, q + 1, none⟩ (.int .u8 46)).cell? ⟨w.heap.size, q, none⟩ = some (.int .u8 0) := by
          rw [World.cell?_setCell_other _ _ _ _ (by simp)]; exact buf_cell hb q (by omega)
        have hf0 : (wr.setCell ⟨w.heap.size, q + 1, none⟩ (.int .u8 46)).frozen? ⟨w.heap.size, q, none⟩ = false := (hb.set (q + 1) (.int .u8 46)).free q
        have hst : Has ((wr.setCell ⟨w.heap.size, q + 1, none⟩ (.int .u8 46)).setCell ⟨w.heap.size, q, none⟩ (.int .u8 (48 + (r : Int) % 10))) w.heap.size 5 (buf (body n.natAbs k (d + 1))) := by
          have h1 := hb.set (q + 1) (byteV 46)
          rw [buf_step _ _ (q + 1) (by omega)] at h1
          have h2 := h1.set q (byteV (dig r))
          rw [buf_step _ _ q (by simp; omega)] at h2
          have hbp : body n.natAbs k (d + 1) = dig r :: 46 :: body n.natAbs k d := by
            rw [hr, hpt.1]; exact body_point _ _ hpt.2
          rw [hbp]
          simpa [byteV, dig_int] using h2
        have hbel' := Lib.hid ((hbel.setCell (p := ⟨w.heap.size, q + 1, none⟩) (Nat.le_refl _) (.int .u8 46)).setCell (p := ⟨w.heap.size, q, none⟩) (Nat.le_refl _) (.int .u8 (48 + (r : Int) % 10)))
        have hl' : q + (body n.natAbs k (d + 1)).length = 21 := by rw [body_len, if_neg (by omega)]; omega
        have Hst := Lib.hid hst
        have Hneed := Lib.hid hneed'
        have Hdiv := Lib.hid hdiv
        have Hl := Lib.hid hl'
        have hdk : (d : Int) ≤ (k : Int) := by omega
        have hde : ((d : Int) == (k : Int)) = true := beq_iff_eq.2 (by omega)
        have hk0 : (0 : Int) < (k : Int) := by omega
        clear hst hneed' hneed hdiv hl' hr ha hbl hb hbel hpt hgo
        go_wp2
        go_roundw
        case rel => exact ⟨d + 1, q, r / 10, by go_num, by go_num, by go_num, Hdiv.out, Hl.out, by omega, Hneed.out, Hst.out, hbel'.out⟩
        case measure => simp [intOf]; omega
      · have hlen := body_len n.natAbs k d
        have hbl : (body n.natAbs k d).length ≤ d + 1 := by rw [hlen]; split <;> omega
        obtain ⟨q, rfl⟩ : ∃ q, a = q + 1 := ⟨a - 1, by omega⟩
        have hcell := buf_cell hb q (by omega)
        have hfree : wr.frozen? ⟨w.heap.size, q, none⟩ = false := hb.free q
        have hst : Has (wr.setCell ⟨w.heap.size, q, none⟩ (.int .u8 (48 + (r : Int) % 10))) w.heap.size 5 (buf (body n.natAbs k (d + 1))) := by
          have := hb.set q (byteV (dig r))
          rw [buf_step _ _ q (by omega)] at this
          rw [body_plain _ _ _ hpt, ← hr]
          simpa [byteV, dig_int] using this
        have hbel' := Lib.hid (hbel.setCell (p := ⟨w.heap.size, q, none⟩) (Nat.le_refl _) (.int .u8 (48 + (r : Int) % 10)))
        have hl' : q + (body n.natAbs k (d + 1)).length = 21 := by rw [body_plain _ _ _ hpt, List.length_cons]; omega
        have Hst := Lib.hid hst
        have Hneed := Lib.hid hneed'
        have Hdiv := Lib.hid hdiv
        have Hl := Lib.hid hl'
        have hq : (q : Int) < 21 := by omega
        have hcase : ((d : Int) ≤ (k : Int) ∧ ¬ d = k) ∨ (d = k ∧ k = 0) ∨ (¬ (d : Int) ≤ (k : Int) ∧ (0 : Int) < (r : Int)) := by omega
        clear hst hneed' hneed hdiv hl' hr ha hlen hbl hb hbel hpt hgo
        rcases hcase with ⟨e1, e2⟩ | ⟨e1, e2⟩ | ⟨e1, e2⟩
        · have hde : ((d : Int) == (k : Int)) = false := beq_eq_false_iff_ne.2 (by omega)
          clear e2
          go_wp2
          go_roundw
          case rel => exact ⟨d + 1, q, r / 10, by go_num, by go_num, rfl, Hdiv.out, Hl.out, by omega, Hneed.out, Hst.out, hbel'.out⟩
          case measure => simp [intOf]; omega
        · have hde : ((d : Int) == (k : Int)) = true := beq_iff_eq.2 (by omega)
          have hk0 : ¬ (0 : Int) < (k : Int) := by omega
          have hdk : (d : Int) ≤ (k : Int) := by omega
          clear e1 e2
          go_wp2
          go_roundw
          case rel => exact ⟨d + 1, q, r / 10, by go_num, by go_num, rfl, Hdiv.out, Hl.out, by omega, Hneed.out, Hst.out, hbel'.out⟩
          case measure => simp [intOf]; omega
        · have hde : ((d : Int) == (k : Int)) = false := beq_eq_false_iff_ne.2 (by omega)
          go_wp2
          go_roundw
          case rel => exact ⟨d + 1, q, r / 10, by go_num, by go_num, rfl, Hdiv.out, Hl.out, by omega, Hneed.out, Hst.out, hbel'.out⟩
          case measure => simp [intOf]; omega
    · have hend : Ends n.natAbs k d := ⟨by omega, by omega, hneed⟩
      have hk1 : ¬ (d : Int) ≤ (k : Int) := by omega
      have hr1 : ¬ (0 : Int) < (r : Int) := by omega
      have hlen := body_len n.natAbs k d
      have hbl : (body n.natAbs k d).length ≤ 20 := by rw [hlen]; split <;> omega
      have Hend := Lib.hid hend
      have Hb := Lib.hid hb
      have Hbel := Lib.hid hbel
      have Ha := Lib.hid ha
      clear hend hgo hneed hr ha hlen hb hbel
      by_cases hneg : n < 0
      · have Hneg := Lib.hid hneg
        obtain ⟨q, rfl⟩ : ∃ q, a = q + 1 := ⟨a - 1, by have := Ha.out; omega⟩
        have ha := Ha.out
        have hq : (q : Int) < 21 := by omega
        have hq2 : q ≤ 21 := by omega
        have hc0 := buf_cell Hb.out q (by omega)
        have hf0 : wr.frozen? ⟨w.heap.size, q, none⟩ = false := Hb.out.free q
        have h1 := Hb.out.set q (byteV 45)
        rw [buf_step _ _ q (by omega)] at h1
        have hcv := text_back h1 q (by rw [List.length_cons]; omega)
        have Hcv := Lib.hid hcv
        clear h1 ha hcv
        have hcv : (convert 47 9 (.slice (some ⟨w.heap.size, q, none⟩) (21 - q) (21 - q))).run Tryd.prog (wr.setCell ⟨w.heap.size, q, none⟩ (.int .u8 45)) = .ok (.string (bytesOf (45 :: body n.natAbs k d))) (wr.setCell ⟨w.heap.size, q, none⟩ (.int .u8 45)) := Hcv.out
        go_wp2
        go_ret2
        refine ⟨d, Hend.out, ?_, Hbel.out.setCell (Nat.le_refl _) _⟩
        rw [fmtS_neg (by have := Hneg.out; omega)]
        rfl
      · have Hneg := Lib.hid hneg
        have hq : (a : Int) < 21 := by
          have ha := Ha.out
          have hlen := body_len n.natAbs k d
          have := Hend.out.more
          split at hlen <;> omega
        have hq2 : a ≤ 21 := by omega
        have hcv := text_back Hb.out a Ha.out
        go_wp2
        go_ret2
        refine ⟨d, Hend.out, ?_, Hbel.out⟩
        rw [fmtS_pos (by have := Hneg.out; omega)]
        rfl

set_option maxHeartbeats 400000 in
theorem Format_range (n k : Int) (w : World) (hk : cntB k = false) :
    Calls Tryd.prog 11 #[.int .i64 n, .int .i64 k] w fun e w' => e = .returned (.tuple #[.string ⟨#[]⟩, .int .i64 2]) ∧ w = w' := by
  have Hk := Lib.hid hk
  clear hk
  go_enter Tryd.func11, Tryd.ntmps11
  go_wp2_with (go_at_call 20; refine ((isCount_any _ _).mono ?_); rintro e w' ⟨rfl, rfl⟩; rw [Hk.out])
  go_ret2
  exact ⟨rfl, rfl⟩

set_option maxHeartbeats 400000 in
theorem Format_big (n k : Int) (w : World) (hk : cntB k = true) (hn : numB n = false) :
    Calls Tryd.prog 11 #[.int .i64 n, .int .i64 k] w fun e w' => e = .returned (.tuple #[.string ⟨#[]⟩, .int .i64 5]) ∧ w = w' := by
  have Hk := Lib.hid hk
  have Hn := Lib.hid hn
  clear hk hn
  go_enter Tryd.func11, Tryd.ntmps11
  go_wp2_with (first
    | (go_at_call 20; refine ((isCount_any _ _).mono ?_); rintro e w' ⟨rfl, rfl⟩; rw [Hk.out])
    | (go_at_call 21; refine ((isNumber_any _ _).mono ?_); rintro e w' ⟨rfl, rfl⟩; rw [Hn.out]))
  go_ret2
  exact ⟨rfl, rfl⟩

/-! The reference. -/
theorem bytes_cons (c : UInt8) (l : List UInt8) : bytesOf [c] ++ bytesOf l = bytesOf (c :: l) := by
  apply Go.WideShapes.bytes_inj
  simp [bytesOf]

theorem one_back (w : World) (r : Nat) : (convert 47 9 (.slice (some ⟨w.heap.size, 0, none⟩) 1 1)).run Tryd.prog (w.alloc (.cells #[.int .u8 (48 + (r : Int) % 10)] 5)) =
    .ok (.string (bytesOf [dig r])) (w.alloc (.cells #[.int .u8 (48 + (r : Int) % 10)] 5)) := by
  have h : Has (w.alloc (.cells #[.int .u8 (48 + (r : Int) % 10)] 5)) w.heap.size 5 #[.int .u8 (48 + (r : Int) % 10)] := heap_alloc_new w _
  exact run_convert_bytes_back (P := Tryd.prog) _ 47 9 5 ⟨w.heap.size, 0, none⟩ 1 [dig r] Tryd.underlying47 Tryd.underlying5 Tryd.underlying9 (fun j hj => by
    obtain rfl : j = 0 := by simpa using hj
    rw [addr_add, h.cell]
    simp [dig_int])


theorem ret_str {s t : ByteArray} (h : s = t) : Ending.returned (.string s) = .returned (.string t) := by rw [h]

theorem plain_text (p : List UInt8) {S : ByteArray} {m d : Nat} (hS : S = bytesOf (lowD m d)) : (⟨p.toArray⟩ : ByteArray) ++ S = bytesOf (p ++ body m 0 d) := by
  apply Go.WideShapes.bytes_inj
  rw [hS]
  simp [bytesOf, body]

theorem point_text (p : List UInt8) {S : ByteArray} {m d k : Nat} (hS : S = bytesOf (lowD m d)) (hs : S.size = d) (hk : k < d) (h0 : ¬ k = 0) :
    (⟨p.toArray⟩ : ByteArray) ++ S.extract 0 (S.size - k) ++ (⟨#[46]⟩ : ByteArray) ++ S.extract (S.size - k) S.size = bytesOf (p ++ body m k d) := by
  have hl : S.data.toList = lowD m d := by rw [hS]; simp [bytesOf]
  apply Go.WideShapes.bytes_inj
  have e1 : (S.extract 0 (S.size - k)).data.toList = (lowD m d).take (d - k) := by
    rw [Lib.extract_data, hl, hs]; simp
  have e2 : (S.extract (S.size - k) S.size).data.toList = lowD m k := by
    rw [Lib.extract_to_end, hl, hs]; exact lowD_drop m k d (by omega)
  have hb : body m k d = (lowD m d).take (d - k) ++ 46 :: lowD m k := by
    unfold body; rw [if_neg (by omega)]
  rw [hb]
  simp only [ByteArray.data_append, Array.toList_append, e1, e2, bytesOf]
  simp


end Go.Proofs.YtbpcfgeefelfdaaDoor
