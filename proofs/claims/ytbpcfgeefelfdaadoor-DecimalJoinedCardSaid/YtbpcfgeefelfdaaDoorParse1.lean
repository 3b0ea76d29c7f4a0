/- The walks of isWhole, isPart and value; Cut at a point. -/
import Derived.Test.YtbpcfgeefelfdaaDoorTok2
import Derived.Test.YtbpcfgeefelfdaaDoorTokParts
import Derived.Laws.IdiomStrings
import Derived.Outline
namespace Go.Proofs.YtbpcfgeefelfdaaDoor
open Go.RowKit

theorem byte_48 (c : UInt8) : c = 48 ↔ (c.toNat : Int) = 48 := by
  constructor
  · rintro rfl; rfl
  · intro h; apply UInt8.toNat_inj.mp; simp; omega

set_option maxHeartbeats 400000 in
theorem isPart_any (s : ByteArray) (k : Nat) (w : World) (hs : s.size ≤ maxLen) :
    Calls Tryd.prog 25 #[.string s, .int .i64 k] w fun e w' => e = .returned (.bool (partB s.data.toList k)) ∧ w = w' := by
  have hl : s.data.toList.length = s.size := by simp
  have hfin : partB s.data.toList k = (dsB s.data.toList && decide (s.size ≤ k)) := by unfold partB; rw [hl]
  have Hfin := Lib.hid hfin
  clear hfin hl
  go_enter Tryd.func25, Tryd.ntmps25
  go_wp2_with (go_at_call 40; refine ((isDigits_any _ _ hs).mono ?_); rintro e w' ⟨rfl, rfl⟩)
  all_goals
    go_ret
    exact ⟨ret_bool (by rw [Hfin.out]; simp [*]), rfl⟩

set_option maxHeartbeats 400000 in
theorem isWhole_any (s : ByteArray) (w : World) (hs : s.size ≤ maxLen) :
    Calls Tryd.prog 24 #[.string s] w fun e w' => e = .returned (.bool (wholeB s.data.toList)) ∧ w = w' := by
  by_cases hd : dsB s.data.toList = true
  · have h0 : s.data.toList ≠ [] := by intro h; rw [h] at hd; simp [dsB] at hd
    have hpos := size_pos h0
    have hp : (0 : Int) < (s.size : Int) := by omega
    have hl := list_cons s hpos
    have hh : s.data.toList.head? = some s[0] := by rw [hl]; rfl
    have hfin : wholeB s.data.toList = (s.toList == [48] || !((s[0].toNat : Int) == 48)) := by
      unfold wholeB
      rw [hd, hh, Lib.toList_data, Bool.true_and]
      congr 2
      rw [Bool.eq_iff_iff]
      simp
      rw [byte_48]
    have Hfin := Lib.hid hfin
    have Hd := Lib.hid hd
    clear hfin hd hl hh h0
    go_enter Tryd.func24, Tryd.ntmps24
    go_wp2_with (go_at_call 40; refine ((isDigits_any _ _ hs).mono ?_); rintro e w' ⟨rfl, rfl⟩; rw [Hd.out])
    all_goals
      go_ret
      refine ⟨ret_bool ?_, rfl⟩
      rw [Hfin.out]
      first
        | rfl
        | (have e : (s.toList == [48]) = true := beq_iff_eq.2 (by assumption)
           rw [e]
           rfl)
  · have hd' : dsB s.data.toList = false := by simpa using hd
    have hfin : wholeB s.data.toList = false := by unfold wholeB; rw [hd']; rfl
    have Hfin := Lib.hid hfin
    have Hd := Lib.hid hd'
    clear hfin hd hd'
    go_enter Tryd.func24, Tryd.ntmps24
    go_wp2_with (go_at_call 40; refine ((isDigits_any _ _ hs).mono ?_); rintro e w' ⟨rfl, rfl⟩; rw [Hd.out])
    go_ret
    exact ⟨ret_bool (by rw [Hfin.out]), rfl⟩

/-- The cells that '[]byte(s)' lays: a byte of s at its place. -/
theorem row_cell (w : World) (s : ByteArray) (cap : Nat) (fr : Nat × Nat) (i : Nat) (h : i < s.size) : (w.alloc (.cells (bytesRow s cap) 5 fr)).cell? ⟨w.heap.size, i, none⟩ = some (.int .u8 (s[i].toNat : Int)) := by
  rw [cell_of_row _ _ _ _ _ _ (heap_alloc_new w _)]
  unfold bytesRow
  have hg : s.data[i]? = some s[i] := Array.getElem?_eq_getElem h
  rw [Array.getElem?_append, if_pos (by simpa using h), Array.getElem?_map, hg]
  rfl

theorem val_no {n : Int} {c : UInt8} {r : List UInt8} (h : (1152921504606846976 - dv c) / 10 < n) : valGo n (c :: r) = none := by unfold valGo; rw [if_pos h]
theorem val_yes {n : Int} {c : UInt8} {r : List UInt8} (h : ¬ (1152921504606846976 - dv c) / 10 < n) : valGo n (c :: r) = valGo (10 * n + dv c) r := by
  conv => lhs; unfold valGo
  rw [if_neg h]

theorem drop_cons (s : ByteArray) (k : Nat) (h : k < s.size) : s.data.toList.drop k = s[k] :: s.data.toList.drop (k + 1) := by
  rw [List.drop_eq_getElem_cons (by simpa using h)]
  rfl

theorem ret_ib {k : IntKind} {a c : Int} {b d : Bool} (h : a = c) (h' : b = d) : Ending.returned (.tuple #[.int k a, .bool b]) = .returned (.tuple #[.int k c, .bool d]) := by rw [h, h']

set_option maxHeartbeats 1000000 in
theorem value_any (s : ByteArray) (w : World) (hs : s.size ≤ 1099511627776) (hd : ∀ c ∈ s.data.toList, dg c = true) :
    Calls Tryd.prog 26 #[.string s] w fun e w' => e = .returned (.tuple #[.int .i64 ((valGo 0 s.data.toList).getD 0), .bool (valGo 0 s.data.toList).isSome]) ∧ Below w.heap.size w w' := by
  have hconv := run_bytes_of_string (P := Tryd.prog) w 9 47 5 s Tryd.underlying9 Tryd.underlying47 Tryd.underlying5
  generalize grownCap w s.size 0 5 = cap at hconv
  generalize hC : bytesRow s cap = C at hconv
  have hcell : ∀ i (h : i < s.size), (w.alloc (.cells C 5 (C.size, C.size + 1))).cell? ⟨w.heap.size, i, none⟩ = some (.int .u8 (s[i].toNat : Int)) := fun i h => by
    rw [← hC]; exact row_cell w s cap _ i h
  have Hcell := Lib.hid hcell
  have Hd := Lib.hid hd
  clear hcell hC hd
  go_enter Tryd.func26, Tryd.ntmps26
  go_wp2
  go_loop [4, 11] (fun n i => ∃ (k : Nat) (m : Int), k ≤ s.size ∧ i = .int .i64 k ∧ n = .int .i64 m ∧ 0 ≤ m ∧ m ≤ 1152921504606846976 ∧ valGo 0 s.data.toList = valGo m (s.data.toList.drop k)) (fun _ i => s.size - (intOf i).toNat)
  case atStart => exact ⟨0, 0, Nat.zero_le _, rfl, rfl, by omega, by omega, rfl⟩
  case round =>
    obtain ⟨k, m, hk, rfl, rfl, hm0, hm1, hv⟩ := hrel
    by_cases hlt : k < s.size
    · have hc := Hcell.out k hlt
      have hdg := Hd.out s[k] (List.mem_of_getElem? (get_byte s k hlt))
      have hd1 : (48 : Int) ≤ (s[k].toNat : Int) := by unfold dg digB at hdg; simp at hdg; omega
      have hd2 : (s[k].toNat : Int) ≤ 57 := by unfold dg digB at hdg; simp at hdg; omega
      rw [drop_cons s k hlt] at hv
      by_cases hbig : (1152921504606846976 - ((s[k].toNat : Int) - 48)) / 10 < m
      · rw [val_no hbig] at hv
        have Hv := Lib.hid hv
        clear hv hdg
        go_wp2
        go_ret2
        exact ⟨ret_ib (by rw [Hv.out]; rfl) (by rw [Hv.out]; rfl), ((Below.refl _ _).alloc (Nat.le_refl _) _).drew⟩
      · rw [val_yes hbig] at hv
        have Hv := Lib.hid hv
        clear hv hdg
        go_wp2
        go_round
        case rel => exact ⟨k + 1, _, by omega, by go_num, rfl, by omega, by omega, Hv.out⟩
        case measure => simp [intOf]; omega
    · rw [List.drop_eq_nil_of_le (by simp; omega)] at hv
      have Hv := Lib.hid hv
      clear hv
      go_wp2
      go_ret2
      exact ⟨ret_ib (by rw [Hv.out]; rfl) (by rw [Hv.out]; rfl), ((Below.refl _ _).alloc (Nat.le_refl _) _).drew⟩

end Go.Proofs.YtbpcfgeefelfdaaDoor
