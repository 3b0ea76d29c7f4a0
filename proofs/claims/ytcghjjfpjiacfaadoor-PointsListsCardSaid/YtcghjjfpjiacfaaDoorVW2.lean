/- Layer 9: which points are valid: lists of them. -/
import Derived.Test.YtcghjjfpjiacfaaDoorVW1
namespace Go.Proofs.YtcghjjfpjiacfaaDoor
open Go.ChangeShapes Go.WideShapes Go.ChangeAt Go.RowKit Go.Joins Go.Deep Go.Shelf
set_option linter.unusedVariables false

set_option maxHeartbeats 4000000 in
theorem aVd_any (p : Pt) (w : World) : Calls Tryd.prog 104 #[.agg #[.int .i64 p.x, .int .i64 p.y, .int .i64 p.z]] w fun e w' => e = .returned (.bool (!vdB p)) ∧ Below w.heap.size w w' := by
  have C := fun W => Lib.hid (pVd_any p W)
  obtain ⟨v, hv⟩ : ∃ v, vdB p = v := ⟨_, rfl⟩
  rw [hv] at C
  rw [hv]
  clear hv
  obtain ⟨w1, hw1⟩ : ∃ W, W = w.alloc (Obj.cells #[.int .i64 p.x, .int .i64 p.y, .int .i64 p.z] 23) := ⟨_, rfl⟩
  have hB : B3 w1 w.heap.size p.x p.y p.z := by rw [hw1]; exact B3.new _ _ _ _ _
  have HB := Lib.hid (show Below w.heap.size w w1 by rw [hw1]; exact below_alloc _ _)
  have c0 := hB.c0
  have c1 := hB.c1
  have c2 := hB.c2
  clear hB
  go_enter Tryd.func104, Tryd.ntmps104
  go_upto_region 1 with fail
  rw [← hw1]
  clear hw1
  go_wp2_with (go_at_call 48; (with_reducible refine ((C _).out.mono ?_)); rintro e w2 ⟨rfl, hb2⟩)
  go_ret
  exact ⟨rfl, below_on HB.out hb2⟩

/-- Points, looked through by a function. -/
theorem idxP_any (fn : Nat) (bnd : Array Value) (g o m rc : Nat) (f : Nat → Pt) (q : Nat → Bool) (w : World) (hg : g < w.heap.size)
    (hr : ∀ i, i < m → w.cell? ⟨g, o + i * 3, none⟩ = some (.int .i64 (f i).x) ∧ w.cell? ⟨g, o + i * 3 + 1, none⟩ = some (.int .i64 (f i).y) ∧ w.cell? ⟨g, o + i * 3 + 2, none⟩ = some (.int .i64 (f i).z)) (hm : m ≤ 9223372036854775807) (eg : ∀ args w, (callFunc fn args).run Tryd.prog w = .ok (.enter fn args) w)
    (CP : ∀ i, i < m → ∀ W, Below w.heap.size w W → Calls Tryd.prog fn (#[.agg #[.int .i64 (f i).x, .int .i64 (f i).y, .int .i64 (f i).z]] ++ bnd) W fun e w' => e = .returned (.bool (q i)) ∧ Below W.heap.size W w') :
    Calls Tryd.prog 83 #[.slice (some ⟨g, o, none⟩) m rc, .func (.func fn) #[] bnd] w fun e w' => Below w.heap.size w w' ∧ ((e = .returned (.int .i64 (-1)) ∧ ∀ i, i < m → q i = false) ∨ ∃ i, i < m ∧ e = .returned (.int .i64 (i : Nat)) ∧ q i = true) := by
  have HP := Lib.hid CP
  have HT := Lib.hid (And.intro hg hr)
  clear CP hg hr
  go_enter Tryd.func83, Tryd.ntmps83
  go_wp2_with fail
  have S0 : Hid (Below w.heap.size w w ∧ ∀ l, l < 0 → q l = false) := ⟨Below.refl _ _, fun l h => by omega⟩
  go_loopg [8] m (fun g s8 wx => ∃ i : Nat, s8 = .int .i64 i ∧ g = m - i ∧ i ≤ m ∧ Hid (Below w.heap.size w wx ∧ ∀ l, l < i → q l = false))
  case atStart => exact ⟨0, rfl, rfl, Nat.zero_le _, S0⟩
  case round =>
    clear S0
    obtain ⟨i, rfl, rfl, hi, S⟩ := hrel
    rename World => W1
    by_cases hlt : i < m
    · have wk : IntKind.i64.wrap ((i : Int) + 1) = ((i + 1 : Nat) : Int) := by rw [IntWalk.i64_in _ (by omega)]; omega
      have p1 := (S.out.1.cell (p := ⟨g, o + i * 3, none⟩) HT.out.1).trans (HT.out.2 i hlt).1
      have p2 := (S.out.1.cell (p := ⟨g, o + i * 3 + 1, none⟩) HT.out.1).trans (HT.out.2 i hlt).2.1
      have p3 := (S.out.1.cell (p := ⟨g, o + i * 3 + 2, none⟩) HT.out.1).trans (HT.out.2 i hlt).2.2
      have CI := Lib.hid (HP.out i hlt W1 S.out.1)
      go_wp2_with fail
      (with_reducible refine ((CI.out).mono ?_))
      rintro e w2 ⟨rfl, hb⟩
      have HB := Lib.hid (below_on S.out.1 hb)
      clear CI p1 p2 p3 hb
      cases hq : q i
      · have HQ := Lib.hid hq
        go_wp2_with fail
        have T : Hid (Below w.heap.size w w2 ∧ ∀ l, l < i + 1 → q l = false) := ⟨HB.out, fun l hl => by
          by_cases e : l = i
          · rw [e]; exact HQ.out
          · exact S.out.2 l (by omega)⟩
        go_roundg (m - (i + 1))
        case measure => omega
        case rel => exact ⟨i + 1, rfl, rfl, by omega, T⟩
      · have HQ := Lib.hid hq
        go_wp2_with fail
        go_ret
        exact ⟨HB.out, .inr ⟨i, hlt, rfl, HQ.out⟩⟩
    · have e : i = m := by omega
      subst e
      go_wp2_with fail
      go_ret
      exact ⟨S.out.1, .inl ⟨rfl, S.out.2⟩⟩
theorem contP_any (fn : Nat) (bnd : Array Value) (ra : Option Addr) (m rc : Nat) (f : Nat → Pt) (q : Nat → Bool) (w : World) (hp : PtR w ra m f) (hm : m ≤ 9223372036854775807) (eg : ∀ args w, (callFunc fn args).run Tryd.prog w = .ok (.enter fn args) w)
    (CP : ∀ i, i < m → ∀ W, Below w.heap.size w W → Calls Tryd.prog fn (#[.agg #[.int .i64 (f i).x, .int .i64 (f i).y, .int .i64 (f i).z]] ++ bnd) W fun e w' => e = .returned (.bool (q i)) ∧ Below W.heap.size W w') :
    Calls Tryd.prog 44 #[.slice ra m rc, .func (.func fn) #[] bnd] w fun e w' => e = .returned (.bool (decide (∃ i, i < m ∧ q i = true))) ∧ Below w.heap.size w w' := by
  have CI : Hid (Calls Tryd.prog 83 #[.slice ra m rc, .func (.func fn) #[] bnd] w fun e w' => Below w.heap.size w w' ∧ ((e = .returned (.int .i64 (-1)) ∧ ∀ i, i < m → q i = false) ∨ ∃ i, i < m ∧ e = .returned (.int .i64 (i : Nat)) ∧ q i = true)) := by
    by_cases h0 : 0 < m
    · obtain ⟨g, o, e, hg, hr⟩ := hp h0
      rw [e]
      exact idxP_any fn bnd g o m rc f q w hg hr hm eg CP
    · have e0 : m = 0 := by omega
      rw [e0]
      show Calls _ _ _ _ _
      clear CP hp
      go_enter Tryd.func83, Tryd.ntmps83
      go_wp2_with fail
      go_loopg [8] 1 (fun g s8 wx => s8 = .int .i64 0 ∧ g = 1 ∧ wx = w)
      case atStart => exact ⟨rfl, rfl, rfl⟩
      case round =>
        obtain ⟨rfl, rfl, rfl⟩ := hrel
        go_wp2_with fail
        go_ret
        exact ⟨Below.refl _ _, .inl ⟨rfl, fun i hi => by omega⟩⟩
  clear hp eg CP
  go_enter Tryd.func44, Tryd.ntmps44
  go_wp2_with fail
  (with_reducible refine ((CI.out).mono ?_))
  rintro e w2 ⟨hb, ⟨rfl, h⟩ | ⟨i, hi, rfl, h⟩⟩
  · have hd : decide (∃ i, i < m ∧ q i = true) = false := decide_eq_false fun ⟨i, hi, hq⟩ => by rw [h i hi] at hq; cases hq
    have HD := Lib.hid hd
    clear hd h
    go_wp2_with fail
    go_ret
    exact ⟨by rw [HD.out]; simp, hb⟩
  · have hd : decide (∃ i, i < m ∧ q i = true) = true := decide_eq_true ⟨i, hi, h⟩
    have HD := Lib.hid hd
    clear hd h
    go_wp2_with fail
    go_ret
    exact ⟨by rw [HD.out]; simp, hb⟩
/-- All points are valid. -/
def allV (n : Nat) (f : Nat → Pt) : Prop := ∀ i, i < n → (f i).ok
instance (n : Nat) (f : Nat → Pt) : Decidable (allV n f) := by unfold allV; infer_instance
theorem areV_any (ra : Option Addr) (n rc : Nat) (f : Nat → Pt) (w : World) (hp : PtR w ra n f) (hn : n ≤ 9223372036854775807) :
    Calls Tryd.prog 80 #[.slice ra n rc] w fun e w' => e = .returned (.bool (decide (allV n f))) ∧ Below w.heap.size w w' := by
  have eg : ∀ args w, (callFunc 104 args).run Tryd.prog w = .ok (.enter 104 args) w := enters_of Tryd.func104 (by kernel_rfl) rfl
  have C := Lib.hid (contP_any 104 #[] ra n rc f (fun i => !vdB (f i)) w hp hn eg (fun i hi W hb => aVd_any (f i) W))
  have e : decide (∃ i, i < n ∧ (!vdB (f i)) = true) = !decide (allV n f) := by
    by_cases h : allV n f
    · rw [decide_eq_true h, decide_eq_false]
      · rfl
      · rintro ⟨i, hi, hv⟩
        have := h i hi
        simp [vdB, this] at hv
    · rw [decide_eq_false h, decide_eq_true]
      · rfl
      · refine Decidable.byContradiction fun hc => h fun i hi => Decidable.byContradiction fun hk => hc ⟨i, hi, by simp [vdB, hk]⟩
  rw [e] at C
  clear e hp eg
  obtain ⟨v, hv⟩ : ∃ v, decide (allV n f) = v := ⟨_, rfl⟩
  rw [hv] at C
  rw [hv]
  clear hv
  go_enter Tryd.func80, Tryd.ntmps80
  go_wp2_with fail
  (with_reducible refine ((C.out).mono ?_))
  rintro e w2 ⟨rfl, hb⟩
  clear C
  go_wp2_with fail
  go_ret
  exact ⟨by simp, hb⟩
end Go.Proofs.YtcghjjfpjiacfaaDoor
