/- Layer 10: equal lists of blocks and of holds. -/
import Derived.Test.YtcghjjfpjiacfaaDoorKLA
namespace Go.Proofs.YtcghjjfpjiacfaaDoor
open Go.ChangeShapes Go.WideShapes Go.ChangeAt Go.RowKit Go.Joins Go.Deep Go.Shelf
set_option linter.unusedVariables false

set_option maxHeartbeats 8000000 in
theorem eqB_any (ba ca : Option Addr) (n m bc cc : Nat) (f k : Nat → ByteArray) (g l : Nat → Int) (w : World) (h1 : BlkR w ba n f g) (h2 : BlkR w ca m k l) (hn : n ≤ 1000) (hm : m ≤ 1000) (v : Bool) (hv : v = true ↔ n = m ∧ ∀ i, i < n → f i = k i ∧ g i = l i) :
    Calls Tryd.prog 71 #[.slice ba n bc, .slice ca m cc] w fun e w' => e = .returned (.bool v) ∧ Below w.heap.size w w' := by
  have H1 := Lib.hid h1
  have H2 := Lib.hid h2
  by_cases hnm : n = m
  · subst hnm
    have HV : Hid (v = true ↔ ∀ i, i < n → f i = k i ∧ g i = l i) := ⟨fun h => (hv.1 h).2, fun h => hv.2 ⟨rfl, h⟩⟩
    have S0 : Hid (Below w.heap.size w w ∧ ∀ j, j < 0 → f j = k j ∧ g j = l j) := ⟨Below.refl _ _, fun j hj => by omega⟩
    clear h1 h2 hv hm
    go_enter Tryd.func71, Tryd.ntmps71
    go_wp2_with fail
    go_loopg [13] n (fun mm s13 wx => ∃ i : Nat, s13 = .int .i64 (i : Int) ∧ mm = n - i ∧ i ≤ n ∧ Hid (Below w.heap.size w wx ∧ ∀ j, j < i → f j = k j ∧ g j = l j))
    case atStart => exact ⟨0, rfl, rfl, Nat.zero_le _, S0⟩
    case round =>
      clear S0
      obtain ⟨i, rfl, rfl, hi, S⟩ := hrel
      rename World => W1
      by_cases hlt : i < n
      · have li : (i : Int) < (n : Int) := by omega
        have wi : IntKind.i64.wrap ((i : Int) + 1) = ((i + 1 : Nat) : Int) := by rw [IntWalk.i64_in _ (by omega)]; omega
        obtain ⟨b, o, rfl, hbk, hck⟩ := H1.out (by omega)
        obtain ⟨c, d, rfl, hcb, hcc⟩ := H2.out (by omega)
        have HT := Lib.hid (And.intro hbk hck)
        have HU := Lib.hid (And.intro hcb hcc)
        clear hbk hck hcb hcc
        have p1 := (S.out.1.cell (p := ⟨b, o + i * 2, none⟩) HT.out.1).trans (HT.out.2 i hlt).1
        have p2 := (S.out.1.cell (p := ⟨b, o + i * 2 + 1, none⟩) HT.out.1).trans (HT.out.2 i hlt).2
        have q1 := (S.out.1.cell (p := ⟨c, d + i * 2, none⟩) HU.out.1).trans (HU.out.2 i hlt).1
        have q2 := (S.out.1.cell (p := ⟨c, d + i * 2 + 1, none⟩) HU.out.1).trans (HU.out.2 i hlt).2
        have hd1 : (f i = k i ∧ g i = l i) → ∀ j, j < i + 1 → f j = k j ∧ g j = l j := fun h j hj => by
          by_cases e : j = i
          · rw [e]; exact h
          · exact S.out.2 j (by omega)
        have hd2 : ¬ (f i = k i ∧ g i = l i) → v = false := fun h => by
          cases e : v
          · rfl
          · exact absurd (HV.out.1 e i hlt) h
        obtain ⟨x0, hx0⟩ : ∃ z, f i = z := ⟨_, rfl⟩
        obtain ⟨y0, hy0⟩ : ∃ z, k i = z := ⟨_, rfl⟩
        rw [hx0] at p1
        rw [hy0] at q1
        obtain ⟨x1, hx1⟩ : ∃ z, g i = z := ⟨_, rfl⟩
        obtain ⟨y1, hy1⟩ : ∃ z, l i = z := ⟨_, rfl⟩
        rw [hx1] at p2
        rw [hy1] at q2
        rw [hx0, hy0, hx1, hy1] at hd1 hd2
        have HD := Lib.hid (And.intro hd1 hd2)
        clear hd1 hd2 hx0 hy0 hx1 hy1
        go_upto_region 6 with fail
        by_cases e0 : x0 = y0
        · subst e0
          by_cases e1 : x1 = y1
          · subst e1
            go_quiet (fail)
            have T : Hid (Below w.heap.size w (W1.drewN nq) ∧ ∀ j, j < i + 1 → f j = k j ∧ g j = l j) := ⟨below_drewN' S.out.1 nq, HD.out.1 (by simp)⟩
            clear p1 q1 p2 q2 HD S
            go_wp2_with fail
            go_roundg (n - (i + 1))
            case measure => omega
            case rel => exact ⟨i + 1, rfl, rfl, by omega, T⟩
          · have en : (x1 == y1) = false := by simpa using e1
            go_quiet (fail)
            obtain rfl : v = false := HD.out.2 (by simp_all)
            have hB := Lib.hid S.out.1
            clear p1 q1 p2 q2 HD S
            go_wp2_with fail
            go_ret
            exact ⟨rfl, below_drewN' hB.out _⟩
        · have en := str_neq e0
          go_quiet (fail)
          obtain rfl : v = false := HD.out.2 (by simp_all)
          have hB := Lib.hid S.out.1
          clear p1 q1 p2 q2 HD S
          go_wp2_with fail
          go_ret
          exact ⟨rfl, below_drewN' hB.out _⟩
      · have li : ¬ (i : Int) < (n : Int) := by omega
        have e : n = i := by omega
        subst e
        obtain rfl : v = true := HV.out.2 S.out.2
        have hB := Lib.hid S.out.1
        clear S
        go_wp2_with fail
        go_ret
        exact ⟨rfl, hB.out⟩
  · obtain rfl : v = false := by
      cases e : v
      · rfl
      · exact absurd (hv.1 e).1 hnm
    have hne : ((n : Int) == (m : Int)) = false := by simp; omega
    have hne2 : ¬ (n : Int) = (m : Int) := by omega
    clear h1 h2 hv hnm
    go_enter Tryd.func71, Tryd.ntmps71
    go_wp2_with fail
    go_ret
    exact ⟨rfl, Below.refl _ _⟩
set_option maxHeartbeats 8000000 in
theorem eqH_any (ba ca : Option Addr) (n m bc cc : Nat) (f k : Nat → Hld) (w : World) (h1 : HolR w ba n f) (h2 : HolR w ca m k) (hn : n ≤ 1000) (hm : m ≤ 1000) (v : Bool) (hv : v = true ↔ n = m ∧ ∀ i, i < n → (f i).blk = (k i).blk ∧ (f i).pulls = (k i).pulls ∧ (f i).num = (k i).num ∧ (f i).den = (k i).den) :
    Calls Tryd.prog 74 #[.slice ba n bc, .slice ca m cc] w fun e w' => e = .returned (.bool v) ∧ Below w.heap.size w w' := by
  have H1 := Lib.hid h1
  have H2 := Lib.hid h2
  by_cases hnm : n = m
  · subst hnm
    have HV : Hid (v = true ↔ ∀ i, i < n → (f i).blk = (k i).blk ∧ (f i).pulls = (k i).pulls ∧ (f i).num = (k i).num ∧ (f i).den = (k i).den) := ⟨fun h => (hv.1 h).2, fun h => hv.2 ⟨rfl, h⟩⟩
    have S0 : Hid (Below w.heap.size w w ∧ ∀ j, j < 0 → (f j).blk = (k j).blk ∧ (f j).pulls = (k j).pulls ∧ (f j).num = (k j).num ∧ (f j).den = (k j).den) := ⟨Below.refl _ _, fun j hj => by omega⟩
    clear h1 h2 hv hm
    go_enter Tryd.func74, Tryd.ntmps74
    go_wp2_with fail
    go_loopg [13] n (fun mm s13 wx => ∃ i : Nat, s13 = .int .i64 (i : Int) ∧ mm = n - i ∧ i ≤ n ∧ Hid (Below w.heap.size w wx ∧ ∀ j, j < i → (f j).blk = (k j).blk ∧ (f j).pulls = (k j).pulls ∧ (f j).num = (k j).num ∧ (f j).den = (k j).den))
    case atStart => exact ⟨0, rfl, rfl, Nat.zero_le _, S0⟩
    case round =>
      clear S0
      obtain ⟨i, rfl, rfl, hi, S⟩ := hrel
      rename World => W1
      by_cases hlt : i < n
      · have li : (i : Int) < (n : Int) := by omega
        have wi : IntKind.i64.wrap ((i : Int) + 1) = ((i + 1 : Nat) : Int) := by rw [IntWalk.i64_in _ (by omega)]; omega
        obtain ⟨b, o, rfl, hbk, hck⟩ := H1.out (by omega)
        obtain ⟨c, d, rfl, hcb, hcc⟩ := H2.out (by omega)
        have HT := Lib.hid (And.intro hbk hck)
        have HU := Lib.hid (And.intro hcb hcc)
        clear hbk hck hcb hcc
        have p1 := (S.out.1.cell (p := ⟨b, o + i * 4, none⟩) HT.out.1).trans (HT.out.2 i hlt).1
        have p2 := (S.out.1.cell (p := ⟨b, o + i * 4 + 1, none⟩) HT.out.1).trans (HT.out.2 i hlt).2.1
        have p3 := (S.out.1.cell (p := ⟨b, o + i * 4 + 2, none⟩) HT.out.1).trans (HT.out.2 i hlt).2.2.1
        have p4 := (S.out.1.cell (p := ⟨b, o + i * 4 + 3, none⟩) HT.out.1).trans (HT.out.2 i hlt).2.2.2
        have q1 := (S.out.1.cell (p := ⟨c, d + i * 4, none⟩) HU.out.1).trans (HU.out.2 i hlt).1
        have q2 := (S.out.1.cell (p := ⟨c, d + i * 4 + 1, none⟩) HU.out.1).trans (HU.out.2 i hlt).2.1
        have q3 := (S.out.1.cell (p := ⟨c, d + i * 4 + 2, none⟩) HU.out.1).trans (HU.out.2 i hlt).2.2.1
        have q4 := (S.out.1.cell (p := ⟨c, d + i * 4 + 3, none⟩) HU.out.1).trans (HU.out.2 i hlt).2.2.2
        have hd1 : ((f i).blk = (k i).blk ∧ (f i).pulls = (k i).pulls ∧ (f i).num = (k i).num ∧ (f i).den = (k i).den) → ∀ j, j < i + 1 → (f j).blk = (k j).blk ∧ (f j).pulls = (k j).pulls ∧ (f j).num = (k j).num ∧ (f j).den = (k j).den := fun h j hj => by
          by_cases e : j = i
          · rw [e]; exact h
          · exact S.out.2 j (by omega)
        have hd2 : ¬ ((f i).blk = (k i).blk ∧ (f i).pulls = (k i).pulls ∧ (f i).num = (k i).num ∧ (f i).den = (k i).den) → v = false := fun h => by
          cases e : v
          · rfl
          · exact absurd (HV.out.1 e i hlt) h
        obtain ⟨x0, hx0⟩ : ∃ z, (f i).blk = z := ⟨_, rfl⟩
        obtain ⟨y0, hy0⟩ : ∃ z, (k i).blk = z := ⟨_, rfl⟩
        rw [hx0] at p1
        rw [hy0] at q1
        obtain ⟨x1, hx1⟩ : ∃ z, (f i).pulls = z := ⟨_, rfl⟩
        obtain ⟨y1, hy1⟩ : ∃ z, (k i).pulls = z := ⟨_, rfl⟩
        rw [hx1] at p2
        rw [hy1] at q2
        obtain ⟨x2, hx2⟩ : ∃ z, (f i).num = z := ⟨_, rfl⟩
        obtain ⟨y2, hy2⟩ : ∃ z, (k i).num = z := ⟨_, rfl⟩
        rw [hx2] at p3
        rw [hy2] at q3
        obtain ⟨x3, hx3⟩ : ∃ z, (f i).den = z := ⟨_, rfl⟩
        obtain ⟨y3, hy3⟩ : ∃ z, (k i).den = z := ⟨_, rfl⟩
        rw [hx3] at p4
        rw [hy3] at q4
        rw [hx0, hy0, hx1, hy1, hx2, hy2, hx3, hy3] at hd1 hd2
        have HD := Lib.hid (And.intro hd1 hd2)
        clear hd1 hd2 hx0 hy0 hx1 hy1 hx2 hy2 hx3 hy3
        go_upto_region 6 with fail
        by_cases e0 : x0 = y0
        · subst e0
          by_cases e1 : x1 = y1
          · subst e1
            by_cases e2 : x2 = y2
            · subst e2
              by_cases e3 : x3 = y3
              · subst e3
                go_quiet (fail)
                have T : Hid (Below w.heap.size w (W1.drewN nq) ∧ ∀ j, j < i + 1 → (f j).blk = (k j).blk ∧ (f j).pulls = (k j).pulls ∧ (f j).num = (k j).num ∧ (f j).den = (k j).den) := ⟨below_drewN' S.out.1 nq, HD.out.1 (by simp)⟩
                clear p1 q1 p2 q2 p3 q3 p4 q4 HD S
                go_wp2_with fail
                go_roundg (n - (i + 1))
                case measure => omega
                case rel => exact ⟨i + 1, rfl, rfl, by omega, T⟩
              · have en : (x3 == y3) = false := by simpa using e3
                go_quiet (fail)
                obtain rfl : v = false := HD.out.2 (by simp_all)
                have hB := Lib.hid S.out.1
                clear p1 q1 p2 q2 p3 q3 p4 q4 HD S
                go_wp2_with fail
                go_ret
                exact ⟨rfl, below_drewN' hB.out _⟩
            · have en : (x2 == y2) = false := by simpa using e2
              go_quiet (fail)
              obtain rfl : v = false := HD.out.2 (by simp_all)
              have hB := Lib.hid S.out.1
              clear p1 q1 p2 q2 p3 q3 p4 q4 HD S
              go_wp2_with fail
              go_ret
              exact ⟨rfl, below_drewN' hB.out _⟩
          · have en : (x1 == y1) = false := by simpa using e1
            go_quiet (fail)
            obtain rfl : v = false := HD.out.2 (by simp_all)
            have hB := Lib.hid S.out.1
            clear p1 q1 p2 q2 p3 q3 p4 q4 HD S
            go_wp2_with fail
            go_ret
            exact ⟨rfl, below_drewN' hB.out _⟩
        · have en := str_neq e0
          go_quiet (fail)
          obtain rfl : v = false := HD.out.2 (by simp_all)
          have hB := Lib.hid S.out.1
          clear p1 q1 p2 q2 p3 q3 p4 q4 HD S
          go_wp2_with fail
          go_ret
          exact ⟨rfl, below_drewN' hB.out _⟩
      · have li : ¬ (i : Int) < (n : Int) := by omega
        have e : n = i := by omega
        subst e
        obtain rfl : v = true := HV.out.2 S.out.2
        have hB := Lib.hid S.out.1
        clear S
        go_wp2_with fail
        go_ret
        exact ⟨rfl, hB.out⟩
  · obtain rfl : v = false := by
      cases e : v
      · rfl
      · exact absurd (hv.1 e).1 hnm
    have hne : ((n : Int) == (m : Int)) = false := by simp; omega
    have hne2 : ¬ (n : Int) = (m : Int) := by omega
    clear h1 h2 hv hnm
    go_enter Tryd.func74, Tryd.ntmps74
    go_wp2_with fail
    go_ret
    exact ⟨rfl, Below.refl _ _⟩
end Go.Proofs.YtcghjjfpjiacfaaDoor
