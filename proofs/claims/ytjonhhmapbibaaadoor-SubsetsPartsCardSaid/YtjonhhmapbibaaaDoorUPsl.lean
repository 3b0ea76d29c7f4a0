/- Layer 7, SubsetsParts: rows that are too long. -/
import Derived.Test.YtjonhhmapbibaaaDoorUChb
namespace Go.Proofs.YtjonhhmapbibaaaDoor
open Go.ChangeShapes Go.WideShapes Go.ChangeAt Go.RowKit Go.Joins Go.Deep Go.Shelf
set_option linter.unusedVariables false

theorem long1_any (qa : Option Addr) (N qc : Nat) (w : World) :
    Calls Tryd.prog 8 #[.slice qa N qc] w fun e w' => e = .returned (.bool (decide (20 < N))) ∧ w = w' := by
  by_cases h : 20 < N
  · have l : (N : Int) > 20 := by omega
    have e : decide (20 < N) = true := decide_eq_true h
    clear h
    go_enter Tryd.func8, Tryd.ntmps8
    go_wp2_with fail
    go_ret
    exact ⟨by (first | rfl | (rw [e]; rfl) | rw [e]), rfl⟩
  · have l : ¬ (N : Int) > 20 := by omega
    have e : decide (20 < N) = false := decide_eq_false h
    clear h
    go_enter Tryd.func8, Tryd.ntmps8
    go_wp2_with fail
    go_ret
    exact ⟨by (first | rfl | (rw [e]; rfl) | rw [e]), rfl⟩
/-- A row has more than twenty numbers. -/
def LongR (zss : List (List Int)) : Prop := ∃ j, j < zss.length ∧ 20 < (rowZ zss j).length
instance (zss : List (List Int)) : Decidable (LongR zss) := decidable_of_iff (∃ j, ∃ _ : j < zss.length, 20 < (rowZ zss j).length) (by unfold LongR; simp)
set_option maxHeartbeats 4000000 in
theorem longs_any (pa : Option Addr) (pc : Nat) (zss : List (List Int)) (w : World) (hz : LZ w pa zss) (hm : zss.length ≤ 9223372036854775806) :
    Calls Tryd.prog 7 #[.slice pa zss.length pc, .func (.func 8) #[] #[]] w fun e w' => e = .returned (.bool (decide (LongR zss))) ∧ w = w' := by
  have CI : Calls Tryd.prog 19 #[.slice pa zss.length pc, .func (.func 8) #[] #[]] w fun e w' => (∃ i : Int, e = .returned (.int .i64 i) ∧ decide (0 ≤ i) = decide (LongR zss)) ∧ w = w' := by
    have HZ := Lib.hid hz
    have S0 : Hid (∀ j, j < 0 → ¬ 20 < (rowZ zss j).length) := fun j h => absurd h (Nat.not_lt_zero j)
    have CC := fun qa N qc W => Lib.hid (long1_any qa N qc W)
    clear hz
    go_enter Tryd.func19, Tryd.ntmps19
    go_wp2_with fail
    go_loopg [8] zss.length (fun g s8 wx => ∃ i : Nat, s8 = .int .i64 i ∧ g = zss.length - i ∧ i ≤ zss.length ∧ wx = w ∧ Hid (∀ j, j < i → ¬ 20 < (rowZ zss j).length))
    case atStart => exact ⟨0, rfl, rfl, Nat.zero_le _, rfl, S0⟩
    case round =>
      clear S0
      obtain ⟨i, rfl, rfl, hi, rfl, S⟩ := hrel
      rename World => W1
      by_cases hlt : i < zss.length
      · have wi : IntKind.i64.wrap ((i : Int) + 1) = ((i + 1 : Nat) : Int) := by rw [IntWalk.i64_in _ (by omega)]; omega
        have li : (i : Int) < (zss.length : Int) := by omega
        obtain ⟨pg, po, rfl, hpl, hpc⟩ := HZ.out (by omega)
        obtain ⟨qa, qc, p1, _⟩ := hpc i hlt
        have K := CC qa (rowZ zss i).length qc W1
        clear hpc
        by_cases hN : 20 < (rowZ zss i).length
        · rw [decide_eq_true hN] at K
          have hin : decide (LongR zss) = true := decide_eq_true ⟨i, hlt, hN⟩
          clear S HZ hN
          go_wp2_with (go_at_call 8; (with_reducible refine ((K.out).mono ?_)); rintro e w2 ⟨rfl, rfl⟩)
          go_ret
          exact ⟨⟨_, rfl, by (first | (rw [hin]; exact decide_eq_true (by omega)) | exact decide_eq_true (by omega) | omega)⟩, rfl⟩
        · rw [decide_eq_false hN] at K
          have T : Hid (∀ j, j < i + 1 → ¬ 20 < (rowZ zss j).length) := fun j hj => by
            by_cases q : j = i
            · rw [q]; exact hN
            · exact S.out j (by omega)
          clear S HZ hN
          go_wp2_with (go_at_call 8; (with_reducible refine ((K.out).mono ?_)); rintro e w2 ⟨rfl, rfl⟩)
          go_roundg (zss.length - (i + 1))
          case measure => omega
          case rel => exact ⟨i + 1, rfl, rfl, by omega, rfl, T⟩
      · have li : ¬ (i : Int) < (zss.length : Int) := by omega
        have hin : decide (LongR zss) = false := decide_eq_false (fun ⟨j, hj, h⟩ => S.out j (by omega) h)
        clear S
        go_wp2_with fail
        go_ret
        exact ⟨⟨_, rfl, by (first | decide | (rw [hin]; rfl))⟩, rfl⟩
  have C := Lib.hid CI
  clear hz CI
  generalize decide (LongR zss) = b at *
  generalize zss.length = N at *
  go_enter Tryd.func7, Tryd.ntmps7
  go_wp2_with (go_at_call 19; (with_reducible refine ((C.out).mono ?_)); rintro e w2 ⟨⟨i, rfl, hb⟩, rfl⟩)
  go_ret
  subst hb
  exact ⟨rfl, rfl⟩
end Go.Proofs.YtjonhhmapbibaaaDoor
