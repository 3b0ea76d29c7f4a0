/- Layer 10: package reeving: isWithin, countHauled, names, rows of blocks. -/
import Derived.Test.YtcghjjfpjiacfaaDoorKMp
namespace Go.Proofs.YtcghjjfpjiacfaaDoor
open Go.ChangeShapes Go.WideShapes Go.ChangeAt Go.RowKit Go.Joins Go.Deep Go.Shelf
set_option linter.unusedVariables false

theorem kwithin_any (n l h : Int) (w : World) : Calls Tryd.prog 58 #[.int .i64 n, .int .i64 l, .int .i64 h] w fun e w' => e = .returned (.bool (decide (l ≤ n) && decide (n ≤ h))) ∧ w = w' := by
  by_cases h1 : l ≤ n
  · have d1 : decide (l ≤ n) = true := decide_eq_true h1
    by_cases h2 : n ≤ h
    · have d2 : decide (n ≤ h) = true := decide_eq_true h2
      rw [d1, d2]
      go_enter Tryd.func58, Tryd.ntmps58
      go_wp2
      go_ret
      exact ⟨rfl, rfl⟩
    · have d2 : decide (n ≤ h) = false := decide_eq_false h2
      rw [d1, d2]
      go_enter Tryd.func58, Tryd.ntmps58
      go_wp2
      go_ret
      exact ⟨rfl, rfl⟩
  · have d1 : decide (l ≤ n) = false := decide_eq_false h1
    rw [d1]
    go_enter Tryd.func58, Tryd.ntmps58
    go_wp2
    go_ret
    exact ⟨by simp, rfl⟩

set_option maxHeartbeats 4000000 in
theorem countH_any (ra : Option Addr) (n rc : Nat) (R : Nat → Rop) (w : World) (hl : RopL w ra n R) (hn : n ≤ 1000) :
    Calls Tryd.prog 67 #[.slice ra n rc] w fun e w' => e = .returned (.int .i64 (cntH R n : Nat)) ∧ Below w.heap.size w w' := by
  by_cases h0 : 0 < n
  · obtain ⟨b, o, rfl, hb, hc⟩ := hl h0
    have HT := Lib.hid (And.intro hb hc)
    have S0 : Hid (Below w.heap.size w w) := Below.refl _ _
    clear hl hb hc
    go_enter Tryd.func67, Tryd.ntmps67
    go_wp2_with fail
    go_loopg [3, 8] n (fun mm s3 s8 wx => ∃ k : Nat, s3 = .int .i64 ((cntH R k : Nat) : Int) ∧ s8 = .int .i64 (k : Int) ∧ mm = n - k ∧ k ≤ n ∧ Hid (Below w.heap.size w wx))
    case atStart => exact ⟨0, rfl, rfl, rfl, Nat.zero_le _, S0⟩
    case round =>
      clear S0
      obtain ⟨k, rfl, rfl, rfl, hk, S⟩ := hrel
      rename World => W1
      have hcl := cntH_le R k
      by_cases hlt : k < n
      · have lk : (k : Int) < (n : Int) := by omega
        have wk : IntKind.i64.wrap ((k : Int) + 1) = ((k + 1 : Nat) : Int) := by rw [IntWalk.i64_in _ (by omega)]; omega
        have p1 := (S.out.cell (p := ⟨b, o + k * 3, none⟩) HT.out.1).trans (HT.out.2 k hlt).1
        have p2 := (S.out.cell (p := ⟨b, o + k * 3 + 1, none⟩) HT.out.1).trans (HT.out.2 k hlt).2.1
        have p3 := (S.out.cell (p := ⟨b, o + k * 3 + 2, none⟩) HT.out.1).trans (HT.out.2 k hlt).2.2
        go_upto_region 5 with fail
        obtain ⟨W2, hW2⟩ : ∃ W, W = W1.alloc (Obj.cells #[.string (R k).name, .slice (R k).ha (R k).n (R k).hc, .bool (R k).hauled] 58) := ⟨_, rfl⟩
        obtain ⟨b5, hb5⟩ : ∃ x, x = W1.heap.size := ⟨_, rfl⟩
        have hCb5 : C3 W2 b5 (.string (R k).name) (.slice (R k).ha (R k).n (R k).hc) (.bool (R k).hauled) := by rw [hW2, hb5]; exact C3.new _ _ _ _ _
        have HBb5 : Hid (Below W1.heap.size W1 W2) := by rw [hW2]; exact (Below.refl _ _).alloc (Nat.le_refl _) _
        rw [← hW2, ← hb5]
        clear hW2 hb5
        have c2 := hCb5.c2
        have HB2 := Lib.hid (below_on S.out HBb5.out)
        clear p1 p2 p3 hCb5 HBb5
        have hst : cntH R (k + 1) = cntH R k + (if (R k).hauled then 1 else 0) := rfl
        cases hh : (R k).hauled
        · rw [hh] at c2 hst
          have e2 := Lib.hid (show cntH R (k + 1) = cntH R k from by rw [hst]; simp)
          clear hst hh
          go_wp2_with fail
          go_roundg (n - (k + 1))
          case measure => omega
          case rel => exact ⟨k + 1, by (rw [e2.out]; try rfl), rfl, rfl, by omega, HB2⟩
        · rw [hh] at c2 hst
          have e2 := Lib.hid (show cntH R (k + 1) = cntH R k + 1 from by rw [hst]; simp)
          have wc : IntKind.i64.wrap (((cntH R k : Nat) : Int) + 1) = ((cntH R k + 1 : Nat) : Int) := by rw [IntWalk.i64_in _ (by omega)]; omega
          clear hst hh
          go_wp2_with fail
          go_roundg (n - (k + 1))
          case measure => omega
          case rel => exact ⟨k + 1, by (rw [e2.out]; try rfl), rfl, rfl, by omega, HB2⟩
      · have lk : ¬ (k : Int) < (n : Int) := by omega
        have e : k = n := by omega
        subst e
        go_wp2_with fail
        go_ret
        exact ⟨rfl, S.out⟩
  · have e0 : n = 0 := by omega
    subst e0
    clear hl h0
    go_enter Tryd.func67, Tryd.ntmps67
    go_wp2_with fail
    go_loopg [3, 8] 1 (fun mm s3 s8 wx => s3 = .int .i64 0 ∧ s8 = .int .i64 0 ∧ mm = 1 ∧ wx = w)
    case atStart => exact ⟨rfl, rfl, rfl, rfl⟩
    case round =>
      obtain ⟨rfl, rfl, rfl, rfl⟩ := hrel
      go_wp2_with fail
      go_ret
      exact ⟨rfl, Below.refl _ _⟩

set_option maxHeartbeats 4000000 in
theorem rowsOf_any (ra : Option Addr) (n rc : Nat) (f : Nat → ByteArray) (g : Nat → Int) (w : World) (hl : BlkR w ra n f g) (hs : ∀ i, i < n → (f i).size ≤ 1000) (hn : n ≤ 100) :
    Calls Tryd.prog 62 #[.slice ra n rc] w fun e w' => ∃ mb, e = .returned (.map (some mb)) ∧ w.heap.size ≤ mb ∧ IxM w' mb f n ∧ Below w.heap.size w w' := by
  have hmm := @run_makeMap Tryd.prog
  have HS := Lib.hid hs
  have HL := Lib.hid hl
  obtain ⟨mb, hmb⟩ : ∃ x, x = w.heap.size := ⟨_, rfl⟩
  obtain ⟨w0, hw0⟩ : ∃ W, W = w.alloc (.map #[] 0) := ⟨_, rfl⟩
  have S0 : Hid (IxM w0 mb f 0 ∧ Below w.heap.size w w0) := ⟨by rw [hmb, hw0]; exact IxM.made w f, by rw [hw0]; exact (Below.refl _ _).alloc (Nat.le_refl _) _⟩
  have HM : Hid (mb = w.heap.size ∧ w0 = w.alloc (.map #[] 0)) := ⟨hmb, hw0⟩
  clear hmb hw0 hs hl
  go_enter Tryd.func62, Tryd.ntmps62
  go_upto_region 2 with fail
  rw [← HM.out.2, ← HM.out.1]
  by_cases h0 : 0 < n
  · obtain ⟨b, o, rfl, hb, hc⟩ := HL.out h0
    have HT := Lib.hid (And.intro hb hc)
    clear HL hb hc
    go_wp2_with fail
    go_loopg [9] n (fun mm s9 wx => ∃ k : Nat, s9 = .int .i64 (k : Int) ∧ mm = n - k ∧ k ≤ n ∧ Hid (IxM wx mb f k ∧ Below w.heap.size w wx))
    case atStart => exact ⟨0, rfl, rfl, Nat.zero_le _, S0⟩
    case round =>
      clear S0
      obtain ⟨k, rfl, rfl, hk, S⟩ := hrel
      rename World => W1
      by_cases hlt : k < n
      · have lk : (k : Int) < (n : Int) := by omega
        have wk : IntKind.i64.wrap ((k : Int) + 1) = ((k + 1 : Nat) : Int) := by rw [IntWalk.i64_in _ (by omega)]; omega
        have SB := S.out.2
        have p1 := (SB.cell (p := ⟨b, o + k * 2, none⟩) HT.out.1).trans (HT.out.2 k hlt).1
        have p2 := (SB.cell (p := ⟨b, o + k * 2 + 1, none⟩) HT.out.1).trans (HT.out.2 k hlt).2
        clear SB
        go_upto_region 5 with fail
        obtain ⟨W2, hW2⟩ : ∃ W, W = W1.alloc (Obj.cells #[.string (f k), .int .i64 (g k)] 55) := ⟨_, rfl⟩
        obtain ⟨b5, hb5⟩ : ∃ x, x = W1.heap.size := ⟨_, rfl⟩
        have hCb5 : C2 W2 b5 (.string (f k)) (.int .i64 (g k)) := by rw [hW2, hb5]; exact C2.new _ _ _ _
        have HBb5 : Hid (Below W1.heap.size W1 W2) := by rw [hW2]; exact (Below.refl _ _).alloc (Nat.le_refl _) _
        rw [← hW2, ← hb5]
        clear hW2 hb5
        have c0 := hCb5.c0
        have HB2 := Lib.hid (And.intro (S.out.1.on HBb5.out) (below_on S.out.2 HBb5.out))
        have hz := HS.out k hlt
        clear p1 p2 hCb5 HBb5
        go_wp2_with (at_mapUpdate; refine wpList_ixm_put _ rfl rfl _ _ _ rfl mb k f rfl HB2.out.1 rfl rfl (by unfold maxLen; omega) (by omega) ?_; intro W3 hix hgrow)
        have S2 : Hid (IxM W3 mb f (k + 1) ∧ Below w.heap.size w W3) := ⟨hix, below_blk HB2.out.2 hgrow (by rw [HM.out.1]; exact Nat.le_refl _)⟩
        clear hix hgrow HB2 c0
        go_wp2_with fail
        go_roundg (n - (k + 1))
        case measure => omega
        case rel => exact ⟨k + 1, rfl, rfl, by omega, S2⟩
      · have lk : ¬ (k : Int) < (n : Int) := by omega
        have e : k = n := by omega
        subst e
        go_wp2_with fail
        go_ret
        exact ⟨mb, rfl, by rw [HM.out.1]; exact Nat.le_refl _, S.out.1, S.out.2⟩
  · have e0 : n = 0 := by omega
    subst e0
    clear h0 HL
    go_wp2_with fail
    go_loopg [9] 1 (fun mm s9 wx => s9 = .int .i64 0 ∧ mm = 1 ∧ wx = w0)
    case atStart => exact ⟨rfl, rfl, rfl⟩
    case round =>
      obtain ⟨rfl, rfl, rfl⟩ := hrel
      go_wp2_with fail
      go_ret
      exact ⟨mb, rfl, by rw [HM.out.1]; exact Nat.le_refl _, S0.out.1, S0.out.2⟩
end Go.Proofs.YtcghjjfpjiacfaaDoor
