/- Layer 10: blocks and ropes, looked through by a function. -/
import Derived.Test.YtcghjjfpjiacfaaDoorKV4
namespace Go.Proofs.YtcghjjfpjiacfaaDoor
open Go.ChangeShapes Go.WideShapes Go.ChangeAt Go.RowKit Go.Joins Go.Deep Go.Shelf
set_option linter.unusedVariables false

/-- Blocks, looked through by a function. -/
theorem idxB_any (fn : Nat) (bnd : Array Value) (b o m rc : Nat) (f : Nat → ByteArray) (g : Nat → Int) (q : Nat → Bool) (w : World) (hg : b < w.heap.size)
    (hr : ∀ i, i < m → w.cell? ⟨b, o + i * 2, none⟩ = some (.string (f i)) ∧ w.cell? ⟨b, o + i * 2 + 1, none⟩ = some (.int .i64 (g i))) (hm : m ≤ 9223372036854775807) (eg : ∀ args w, (callFunc fn args).run Tryd.prog w = .ok (.enter fn args) w)
    (CP : ∀ i, i < m → ∀ W, Below w.heap.size w W → Calls Tryd.prog fn (#[.agg #[.string (f i), .int .i64 (g i)]] ++ bnd) W fun e w' => e = .returned (.bool (q i)) ∧ Below W.heap.size W w') :
    Calls Tryd.prog 98 #[.slice (some ⟨b, o, none⟩) m rc, .func (.func fn) #[] bnd] w fun e w' => Below w.heap.size w w' ∧ ((e = .returned (.int .i64 (-1)) ∧ ∀ i, i < m → q i = false) ∨ ∃ i, i < m ∧ e = .returned (.int .i64 (i : Nat)) ∧ q i = true) := by
  have HP := Lib.hid CP
  have HT := Lib.hid (And.intro hg hr)
  clear CP hg hr
  go_enter Tryd.func98, Tryd.ntmps98
  go_wp2_with fail
  have S0 : Hid (Below w.heap.size w w ∧ ∀ l, l < 0 → q l = false) := ⟨Below.refl _ _, fun l h => by omega⟩
  go_loopg [8] m (fun g s8 wx => ∃ i : Nat, s8 = .int .i64 i ∧ g = m - i ∧ i ≤ m ∧ Hid (Below w.heap.size w wx ∧ ∀ l, l < i → q l = false))
  case atStart => exact ⟨0, rfl, rfl, Nat.zero_le _, S0⟩
  case round =>
    clear S0
    obtain ⟨i, rfl, rfl, hi, S⟩ := hrel
    rename World => W1
    by_cases hlt : i < m
    · have wk : IntKind.i64.wrap ((i : Int) + 1) = ((i + 1 : Nat) : Int) := by rw [IntWalk.i64_in _ (by omega)]; omega
      have p1 := (S.out.1.cell (p := ⟨b, o + i * 2, none⟩) HT.out.1).trans (HT.out.2 i hlt).1
      have p2 := (S.out.1.cell (p := ⟨b, o + i * 2 + 1, none⟩) HT.out.1).trans (HT.out.2 i hlt).2
      have CI := Lib.hid (HP.out i hlt W1 S.out.1)
      go_wp2_with fail
      (with_reducible refine ((CI.out).mono ?_))
      rintro e w2 ⟨rfl, hb⟩
      have HB := Lib.hid (below_on S.out.1 hb)
      clear CI p1 p2 hb
      cases hq : q i
      · have HQ := Lib.hid hq
        go_wp2_with fail
        have T : Hid (Below w.heap.size w w2 ∧ ∀ l, l < i + 1 → q l = false) := ⟨HB.out, fun l hl => by
          by_cases e : l = i
          · rw [e]; exact HQ.out
          · exact S.out.2 l (by omega)⟩
        go_roundg (m - (i + 1))
        case measure => omega
        case rel => exact ⟨i + 1, rfl, rfl, by omega, T⟩
      · have HQ := Lib.hid hq
        go_wp2_with fail
        go_ret
        exact ⟨HB.out, .inr ⟨i, hlt, rfl, HQ.out⟩⟩
    · have e : i = m := by omega
      subst e
      go_wp2_with fail
      go_ret
      exact ⟨S.out.1, .inl ⟨rfl, S.out.2⟩⟩
theorem contB_any (fn : Nat) (bnd : Array Value) (ra : Option Addr) (m rc : Nat) (f : Nat → ByteArray) (g : Nat → Int) (q : Nat → Bool) (w : World) (hp : BlkR w ra m f g) (hm : m ≤ 9223372036854775807) (eg : ∀ args w, (callFunc fn args).run Tryd.prog w = .ok (.enter fn args) w)
    (CP : ∀ i, i < m → ∀ W, Below w.heap.size w W → Calls Tryd.prog fn (#[.agg #[.string (f i), .int .i64 (g i)]] ++ bnd) W fun e w' => e = .returned (.bool (q i)) ∧ Below W.heap.size W w') :
    Calls Tryd.prog 65 #[.slice ra m rc, .func (.func fn) #[] bnd] w fun e w' => e = .returned (.bool (decide (∃ i, i < m ∧ q i = true))) ∧ Below w.heap.size w w' := by
  have CI : Hid (Calls Tryd.prog 98 #[.slice ra m rc, .func (.func fn) #[] bnd] w fun e w' => Below w.heap.size w w' ∧ ((e = .returned (.int .i64 (-1)) ∧ ∀ i, i < m → q i = false) ∨ ∃ i, i < m ∧ e = .returned (.int .i64 (i : Nat)) ∧ q i = true)) := by
    by_cases h0 : 0 < m
    · obtain ⟨b, o, e, hg, hr⟩ := hp h0
      rw [e]
      exact idxB_any fn bnd b o m rc f g q w hg hr hm eg CP
    · have e0 : m = 0 := by omega
      rw [e0]
      show Calls _ _ _ _ _
      clear CP hp
      go_enter Tryd.func98, Tryd.ntmps98
      go_wp2_with fail
      go_loopg [8] 1 (fun g s8 wx => s8 = .int .i64 0 ∧ g = 1 ∧ wx = w)
      case atStart => exact ⟨rfl, rfl, rfl⟩
      case round =>
        obtain ⟨rfl, rfl, rfl⟩ := hrel
        go_wp2_with fail
        go_ret
        exact ⟨Below.refl _ _, .inl ⟨rfl, fun i hi => by omega⟩⟩
  clear hp eg CP
  go_enter Tryd.func65, Tryd.ntmps65
  go_wp2_with fail
  (with_reducible refine ((CI.out).mono ?_))
  rintro e w2 ⟨hb, ⟨rfl, h⟩ | ⟨i, hi, rfl, h⟩⟩
  · have hd : decide (∃ i, i < m ∧ q i = true) = false := decide_eq_false fun ⟨i, hi, hq⟩ => by rw [h i hi] at hq; cases hq
    have HD := Lib.hid hd
    clear hd h
    go_wp2_with fail
    go_ret
    exact ⟨by rw [HD.out]; simp, hb⟩
  · have hd : decide (∃ i, i < m ∧ q i = true) = true := decide_eq_true ⟨i, hi, h⟩
    have HD := Lib.hid hd
    clear hd h
    go_wp2_with fail
    go_ret
    exact ⟨by rw [HD.out]; simp, hb⟩
/-- Ropes, looked through by a function. -/
theorem idxQ_any (fn : Nat) (bnd : Array Value) (b o m rc : Nat) (R : Nat → Rop) (q : Nat → Bool) (w : World) (hg : b < w.heap.size)
    (hr : ∀ i, i < m → w.cell? ⟨b, o + i * 3, none⟩ = some (.string (R i).name) ∧ w.cell? ⟨b, o + i * 3 + 1, none⟩ = some (.slice (R i).ha (R i).n (R i).hc) ∧ w.cell? ⟨b, o + i * 3 + 2, none⟩ = some (.bool (R i).hauled)) (hm : m ≤ 9223372036854775807) (eg : ∀ args w, (callFunc fn args).run Tryd.prog w = .ok (.enter fn args) w)
    (CP : ∀ i, i < m → ∀ W, Below w.heap.size w W → Calls Tryd.prog fn (#[.agg #[.string (R i).name, .slice (R i).ha (R i).n (R i).hc, .bool (R i).hauled]] ++ bnd) W fun e w' => e = .returned (.bool (q i)) ∧ Below W.heap.size W w') :
    Calls Tryd.prog 99 #[.slice (some ⟨b, o, none⟩) m rc, .func (.func fn) #[] bnd] w fun e w' => Below w.heap.size w w' ∧ ((e = .returned (.int .i64 (-1)) ∧ ∀ i, i < m → q i = false) ∨ ∃ i, i < m ∧ e = .returned (.int .i64 (i : Nat)) ∧ q i = true) := by
  have HP := Lib.hid CP
  have HT := Lib.hid (And.intro hg hr)
  clear CP hg hr
  go_enter Tryd.func99, Tryd.ntmps99
  go_wp2_with fail
  have S0 : Hid (Below w.heap.size w w ∧ ∀ l, l < 0 → q l = false) := ⟨Below.refl _ _, fun l h => by omega⟩
  go_loopg [8] m (fun g s8 wx => ∃ i : Nat, s8 = .int .i64 i ∧ g = m - i ∧ i ≤ m ∧ Hid (Below w.heap.size w wx ∧ ∀ l, l < i → q l = false))
  case atStart => exact ⟨0, rfl, rfl, Nat.zero_le _, S0⟩
  case round =>
    clear S0
    obtain ⟨i, rfl, rfl, hi, S⟩ := hrel
    rename World => W1
    by_cases hlt : i < m
    · have wk : IntKind.i64.wrap ((i : Int) + 1) = ((i + 1 : Nat) : Int) := by rw [IntWalk.i64_in _ (by omega)]; omega
      have p1 := (S.out.1.cell (p := ⟨b, o + i * 3, none⟩) HT.out.1).trans (HT.out.2 i hlt).1
      have p2 := (S.out.1.cell (p := ⟨b, o + i * 3 + 1, none⟩) HT.out.1).trans (HT.out.2 i hlt).2.1
      have p3 := (S.out.1.cell (p := ⟨b, o + i * 3 + 2, none⟩) HT.out.1).trans (HT.out.2 i hlt).2.2
      have CI := Lib.hid (HP.out i hlt W1 S.out.1)
      go_wp2_with fail
      (with_reducible refine ((CI.out).mono ?_))
      rintro e w2 ⟨rfl, hb⟩
      have HB := Lib.hid (below_on S.out.1 hb)
      clear CI p1 p2 p3 hb
      cases hq : q i
      · have HQ := Lib.hid hq
        go_wp2_with fail
        have T : Hid (Below w.heap.size w w2 ∧ ∀ l, l < i + 1 → q l = false) := ⟨HB.out, fun l hl => by
          by_cases e : l = i
          · rw [e]; exact HQ.out
          · exact S.out.2 l (by omega)⟩
        go_roundg (m - (i + 1))
        case measure => omega
        case rel => exact ⟨i + 1, rfl, rfl, by omega, T⟩
      · have HQ := Lib.hid hq
        go_wp2_with fail
        go_ret
        exact ⟨HB.out, .inr ⟨i, hlt, rfl, HQ.out⟩⟩
    · have e : i = m := by omega
      subst e
      go_wp2_with fail
      go_ret
      exact ⟨S.out.1, .inl ⟨rfl, S.out.2⟩⟩
theorem contQ_any (fn : Nat) (bnd : Array Value) (ra : Option Addr) (m rc : Nat) (R : Nat → Rop) (q : Nat → Bool) (w : World) (hp : RopL w ra m R) (hm : m ≤ 9223372036854775807) (eg : ∀ args w, (callFunc fn args).run Tryd.prog w = .ok (.enter fn args) w)
    (CP : ∀ i, i < m → ∀ W, Below w.heap.size w W → Calls Tryd.prog fn (#[.agg #[.string (R i).name, .slice (R i).ha (R i).n (R i).hc, .bool (R i).hauled]] ++ bnd) W fun e w' => e = .returned (.bool (q i)) ∧ Below W.heap.size W w') :
    Calls Tryd.prog 66 #[.slice ra m rc, .func (.func fn) #[] bnd] w fun e w' => e = .returned (.bool (decide (∃ i, i < m ∧ q i = true))) ∧ Below w.heap.size w w' := by
  have CI : Hid (Calls Tryd.prog 99 #[.slice ra m rc, .func (.func fn) #[] bnd] w fun e w' => Below w.heap.size w w' ∧ ((e = .returned (.int .i64 (-1)) ∧ ∀ i, i < m → q i = false) ∨ ∃ i, i < m ∧ e = .returned (.int .i64 (i : Nat)) ∧ q i = true)) := by
    by_cases h0 : 0 < m
    · obtain ⟨b, o, e, hg, hr⟩ := hp h0
      rw [e]
      exact idxQ_any fn bnd b o m rc R q w hg hr hm eg CP
    · have e0 : m = 0 := by omega
      rw [e0]
      show Calls _ _ _ _ _
      clear CP hp
      go_enter Tryd.func99, Tryd.ntmps99
      go_wp2_with fail
      go_loopg [8] 1 (fun g s8 wx => s8 = .int .i64 0 ∧ g = 1 ∧ wx = w)
      case atStart => exact ⟨rfl, rfl, rfl⟩
      case round =>
        obtain ⟨rfl, rfl, rfl⟩ := hrel
        go_wp2_with fail
        go_ret
        exact ⟨Below.refl _ _, .inl ⟨rfl, fun i hi => by omega⟩⟩
  clear hp eg CP
  go_enter Tryd.func66, Tryd.ntmps66
  go_wp2_with fail
  (with_reducible refine ((CI.out).mono ?_))
  rintro e w2 ⟨hb, ⟨rfl, h⟩ | ⟨i, hi, rfl, h⟩⟩
  · have hd : decide (∃ i, i < m ∧ q i = true) = false := decide_eq_false fun ⟨i, hi, hq⟩ => by rw [h i hi] at hq; cases hq
    have HD := Lib.hid hd
    clear hd h
    go_wp2_with fail
    go_ret
    exact ⟨by rw [HD.out]; simp, hb⟩
  · have hd : decide (∃ i, i < m ∧ q i = true) = true := decide_eq_true ⟨i, hi, h⟩
    have HD := Lib.hid hd
    clear hd h
    go_wp2_with fail
    go_ret
    exact ⟨by rw [HD.out]; simp, hb⟩
theorem valid1_any (x : ByteArray) (n : Int) (w : World) : Calls Tryd.prog 61 #[.agg #[.string x, .int .i64 n]] w fun e w' => e = .returned (.bool (!(decide (0 ≤ n) && decide (n ≤ 16777216)))) ∧ Below w.heap.size w w' := by
  obtain ⟨w1, hw1⟩ : ∃ W, W = w.alloc (Obj.cells #[Value.string x, .int .i64 n] 55) := ⟨_, rfl⟩
  obtain ⟨xb, hxb⟩ : ∃ x, x = w.heap.size := ⟨_, rfl⟩
  have hC : C2 w1 xb (.string x) (.int .i64 n) := by rw [hw1, hxb]; exact C2.new _ _ _ _
  have HB := Lib.hid (show Below w.heap.size w w1 from by rw [hw1]; exact (Below.refl _ _).alloc (Nat.le_refl _) _)
  have CI := fun W => Lib.hid (kwithin_any n 0 16777216 W)
  have c1 := hC.c1
  clear hC
  obtain ⟨t, ht⟩ : ∃ t, (decide (0 ≤ n) && decide (n ≤ 16777216)) = t := ⟨_, rfl⟩
  rw [ht] at CI
  rw [ht]
  clear ht
  go_enter Tryd.func61, Tryd.ntmps61
  go_upto_region 1 with fail
  rw [← hxb, ← hw1]
  clear hxb hw1
  go_wp2_with (go_at_call 58; (with_reducible refine ((CI _).out.mono ?_)); rintro e w2 ⟨rfl, rfl⟩)
  go_ret
  exact ⟨rfl, HB.out⟩
instance (kn : ByteArray → Bool) (r : Rop) : Decidable (RopOk kn r) :=
  decidable_of_iff (2 ≤ r.n ∧ r.n ≤ 10 ∧ (∀ i, i < r.n → hldB (kn (r.hs i).blk) (r.hs i) (decide (i = 0 ∨ i + 1 = r.n)) = true) ∧ (r.hauled = true → (r.hs (r.n - 1)).blk = ByteArray.empty)) ⟨fun h => ⟨h.1, h.2.1, h.2.2.1, h.2.2.2⟩, fun h => ⟨h.l2, h.l10, h.hs, h.hl⟩⟩
/-- What a rope's parts must be for its walk. -/
structure RopSm (r : Rop) : Prop where
  n : r.n ≤ 13
  b : ∀ i, i < r.n → (r.hs i).blk.size ≤ 60
  g : ∀ i, i < r.n → HldRg (r.hs i)
theorem valid2_any (r : Rop) (cb mb m : Nat) (f : Nat → ByteArray) (w : World) (hc : w.cell? ⟨cb, 0, none⟩ = some (.map (some mb))) (hcl : cb < w.heap.size) (hm : IxM w mb f m) (hl : HolR w r.ha r.n r.hs) (hr : RopSm r) :
    Calls Tryd.prog 63 #[.agg #[.string r.name, .slice r.ha r.n r.hc, .bool r.hauled], .pointer (some ⟨cb, 0, none⟩)] w fun e w' => e = .returned (.bool (!decide (RopOk (knB f m) r))) ∧ Below w.heap.size w w' := by
  obtain ⟨nm, ha, n, hcc, hs, hd⟩ := r
  simp only at hl ⊢
  obtain ⟨w1, hw1⟩ : ∃ W, W = w.alloc (Obj.cells #[Value.string nm, .slice ha n hcc, .bool hd] 58) := ⟨_, rfl⟩
  obtain ⟨xb, hxb⟩ : ∃ x, x = w.heap.size := ⟨_, rfl⟩
  have hC : C3 w1 xb (.string nm) (.slice ha n hcc) (.bool hd) := by rw [hw1, hxb]; exact C3.new _ _ _ _ _
  have HB := Lib.hid (show Below w.heap.size w w1 from by rw [hw1]; exact (Below.refl _ _).alloc (Nat.le_refl _) _)
  obtain ⟨t, ht⟩ : ∃ t, decide (RopOk (knB f m) ⟨nm, ha, n, hcc, hs, hd⟩) = t := ⟨_, rfl⟩
  have CI := Lib.hid (isRope_any ⟨nm, ha, n, hcc, hs, hd⟩ nm ha n hcc hs hd mb m f w1 rfl (hm.on HB.out) (hl.on HB.out) (by have := hr.n; simp at this; omega) (fun i hi => by have := hr.b i hi; simp at this; omega) (fun i hi => hr.g i hi) t (by rw [← ht]; exact decide_eq_true_iff))
  rw [ht]
  have c0 := hC.c0
  have c1 := hC.c1
  have c2 := hC.c2
  have cm := (HB.out.cell (p := ⟨cb, 0, none⟩) hcl).trans hc
  clear hC ht hc hm hl hr
  go_enter Tryd.func63, Tryd.ntmps63
  go_upto_region 1 with fail
  rw [← hxb, ← hw1]
  clear hxb hw1
  go_wp2_with (go_at_call 64; (with_reducible refine (CI.out.mono ?_)); rintro e w2 ⟨rfl, hb2⟩; have HB2 := Lib.hid (below_on HB.out hb2); clear hb2)
  go_ret
  exact ⟨rfl, HB2.out⟩
end Go.Proofs.YtcghjjfpjiacfaaDoor
