/- Layer 10's reference: the search for a block and for a rope, right losses. -/
import Derived.Test.YtcghjjfpjiacfaaDoorKT3
namespace Go.Proofs.YtcghjjfpjiacfaaDoor
open Go.ChangeShapes Go.WideShapes Go.ChangeAt Go.RowKit Go.Joins Go.Deep Go.Shelf
set_option linter.unusedVariables false

theorem str_neq {y x : ByteArray} (h : y ≠ x) : (y.toList == x.toList) = false := by
  rw [beq_eq_false_iff_ne]
  intro e
  rw [Lib.toList_data, Lib.toList_data] at e
  exact h (Go.WideShapes.bytes_inj e)
set_option maxHeartbeats 4000000 in
theorem fBlock_any (ba : Option Addr) (nb bc : Nat) (bn : Nat → ByteArray) (bw : Nat → Int) (ra : Option Addr) (nr rc : Nat) (R : Nat → Rop) (x : ByteArray) (w : World) (hl : BlkR w ba nb bn bw) (hn : nb ≤ 1000) (v : Int) (hv : fbI bn x nb = v) :
    Calls Tryd.prog 31 #[.agg #[.slice ba nb bc, .slice ra nr rc], .string x] w fun e w' => e = .returned (.int .i64 v) ∧ Below w.heap.size w w' := by
  obtain ⟨w1, hw1⟩ : ∃ W, W = w.alloc (Obj.cells #[Value.slice ba nb bc, .slice ra nr rc] 36) := ⟨_, rfl⟩
  obtain ⟨xb, hxb⟩ : ∃ x, x = w.heap.size := ⟨_, rfl⟩
  have hC : C2 w1 xb (.slice ba nb bc) (.slice ra nr rc) := by rw [hw1, hxb]; exact C2.new _ _ _ _
  have hB : Below w.heap.size w w1 := by rw [hw1]; exact (Below.refl _ _).alloc (Nat.le_refl _) _
  have HB := Lib.hid hB
  have HL := Lib.hid (hl.on hB)
  have HC := Lib.hid hC
  have HV := Lib.hid hv
  have c0 := hC.c0
  clear hC hB hl hv
  go_enter Tryd.func31, Tryd.ntmps31
  go_upto_region 1 with fail
  rw [← hxb, ← hw1]
  clear hxb hw1
  have S0 : Hid (∀ j, j < 0 → bn j ≠ x) := fun j hj => by omega
  go_wp2_with fail
  go_loopg [5] nb (fun mm s5 wx => ∃ i : Nat, s5 = .int .i64 (i : Int) ∧ mm = nb - i ∧ i ≤ nb ∧ wx = w1 ∧ Hid (∀ j, j < i → bn j ≠ x))
  case atStart => exact ⟨0, rfl, rfl, Nat.zero_le _, rfl, S0⟩
  case round =>
    clear S0
    obtain ⟨i, rfl, rfl, hi, rfl, S⟩ := hrel
    by_cases hlt : i < nb
    · have li : (i : Int) < (nb : Int) := by omega
      have wi : IntKind.i64.wrap ((i : Int) + 1) = ((i + 1 : Nat) : Int) := by rw [IntWalk.i64_in _ (by omega)]; omega
      obtain ⟨b, o, rfl, hb, hc⟩ := HL.out (by omega)
      have p1 := (hc i hlt).1
      have hst : bn i ≠ x → ∀ j, j < i + 1 → bn j ≠ x := fun h j hj => by
        by_cases e : j = i
        · rw [e]; exact h
        · exact S.out j (by omega)
      have hit : bn i = x → v = (i : Int) := fun h => by
        rw [← HV.out]
        unfold fbI
        rw [fstI_is hlt h S.out]
      obtain ⟨y, hy⟩ : ∃ y, bn i = y := ⟨_, rfl⟩
      rw [hy] at p1 hst hit
      have HH := Lib.hid (And.intro hst hit)
      clear hb hc hy hst hit
      by_cases e : y = x
      · subst e
        obtain rfl := HH.out.2 rfl
        clear HH HV
        go_wp2_with fail
        go_ret
        exact ⟨rfl, HB.out⟩
      · have S2 := Lib.hid (HH.out.1 e)
        have e2 := str_neq e
        clear HH
        go_wp2_with fail
        go_roundg (nb - (i + 1))
        case measure => omega
        case rel => exact ⟨i + 1, rfl, rfl, by omega, rfl, S2⟩
    · have li : ¬ (i : Int) < (nb : Int) := by omega
      have e : nb = i := by omega
      subst e
      obtain rfl : v = -1 := by
        rw [← HV.out]
        unfold fbI
        rw [fstI_none.2 S.out]
      clear HV S
      go_wp2_with fail
      go_ret
      exact ⟨rfl, HB.out⟩
set_option maxHeartbeats 4000000 in
theorem fRope_any (ba : Option Addr) (nb bc : Nat) (bn : Nat → ByteArray) (bw : Nat → Int) (ra : Option Addr) (nr rc : Nat) (R : Nat → Rop) (x : ByteArray) (w : World) (hl : RopL w ra nr R) (hn : nr ≤ 1000) (v : Int) (hv : fbI (fun k => (R k).name) x nr = v) :
    Calls Tryd.prog 69 #[.agg #[.slice ba nb bc, .slice ra nr rc], .string x] w fun e w' => e = .returned (.int .i64 v) ∧ Below w.heap.size w w' := by
  obtain ⟨w1, hw1⟩ : ∃ W, W = w.alloc (Obj.cells #[Value.slice ba nb bc, .slice ra nr rc] 36) := ⟨_, rfl⟩
  obtain ⟨xb, hxb⟩ : ∃ x, x = w.heap.size := ⟨_, rfl⟩
  have hC : C2 w1 xb (.slice ba nb bc) (.slice ra nr rc) := by rw [hw1, hxb]; exact C2.new _ _ _ _
  have hB : Below w.heap.size w w1 := by rw [hw1]; exact (Below.refl _ _).alloc (Nat.le_refl _) _
  have HB := Lib.hid hB
  have HL := Lib.hid (hl.on hB)
  have HC := Lib.hid hC
  have HV := Lib.hid hv
  have c0 := hC.c1
  clear hC hB hl hv
  go_enter Tryd.func69, Tryd.ntmps69
  go_upto_region 1 with fail
  rw [← hxb, ← hw1]
  clear hxb hw1
  have S0 : Hid (∀ j, j < 0 → (fun k => (R k).name) j ≠ x) := fun j hj => by omega
  go_wp2_with fail
  go_loopg [5] nr (fun mm s5 wx => ∃ i : Nat, s5 = .int .i64 (i : Int) ∧ mm = nr - i ∧ i ≤ nr ∧ wx = w1 ∧ Hid (∀ j, j < i → (fun k => (R k).name) j ≠ x))
  case atStart => exact ⟨0, rfl, rfl, Nat.zero_le _, rfl, S0⟩
  case round =>
    clear S0
    obtain ⟨i, rfl, rfl, hi, rfl, S⟩ := hrel
    by_cases hlt : i < nr
    · have li : (i : Int) < (nr : Int) := by omega
      have wi : IntKind.i64.wrap ((i : Int) + 1) = ((i + 1 : Nat) : Int) := by rw [IntWalk.i64_in _ (by omega)]; omega
      obtain ⟨b, o, rfl, hb, hc⟩ := HL.out (by omega)
      have p1 := (hc i hlt).1
      have hst : (R i).name ≠ x → ∀ j, j < i + 1 → (fun k => (R k).name) j ≠ x := fun h j hj => by
        by_cases e : j = i
        · rw [e]; exact h
        · exact S.out j (by omega)
      have hit : (R i).name = x → v = (i : Int) := fun h => by
        rw [← HV.out]
        unfold fbI
        rw [fstI_is hlt h S.out]
      obtain ⟨y, hy⟩ : ∃ y, (R i).name = y := ⟨_, rfl⟩
      rw [hy] at p1 hst hit
      have HH := Lib.hid (And.intro hst hit)
      clear hb hc hy hst hit
      by_cases e : y = x
      · subst e
        obtain rfl := HH.out.2 rfl
        clear HH HV
        go_wp2_with fail
        go_ret
        exact ⟨rfl, HB.out⟩
      · have S2 := Lib.hid (HH.out.1 e)
        have e2 := str_neq e
        clear HH
        go_wp2_with fail
        go_roundg (nr - (i + 1))
        case measure => omega
        case rel => exact ⟨i + 1, rfl, rfl, by omega, rfl, S2⟩
    · have li : ¬ (i : Int) < (nr : Int) := by omega
      have e : nr = i := by omega
      subst e
      obtain rfl : v = -1 := by
        rw [← HV.out]
        unfold fbI
        rw [fstI_none.2 S.out]
      clear HV S
      go_wp2_with fail
      go_ret
      exact ⟨rfl, HB.out⟩
set_option maxHeartbeats 2000000 in
theorem rightLoss_any (u d : Int) (w : World) (hu : i64r u) (hd : i64r d) (v : Bool) (hv : losS u d = v) :
    Calls Tryd.prog 121 #[.agg #[.int .i64 u, .int .i64 d]] w fun e w' => e = .returned (.bool v) ∧ Below w.heap.size w w' := by
  obtain ⟨w1, hw1⟩ : ∃ W, W = w.alloc (Obj.cells #[Value.int .i64 u, .int .i64 d] 62) := ⟨_, rfl⟩
  obtain ⟨xb, hxb⟩ : ∃ x, x = w.heap.size := ⟨_, rfl⟩
  have hC : C2 w1 xb (.int .i64 u) (.int .i64 d) := by rw [hw1, hxb]; exact C2.new _ _ _ _
  have HB := Lib.hid (show Below w.heap.size w w1 from by rw [hw1]; exact (Below.refl _ _).alloc (Nat.le_refl _) _)
  have CV := Lib.hid (refValid_any u d w1 hu.1 hu.2 hd.1 hd.2)
  unfold losS at hv
  obtain ⟨t, ht⟩ : ∃ t, vB u d = t := ⟨_, rfl⟩
  rw [ht] at CV hv
  have HC := Lib.hid hC
  have c0 := hC.c0
  have c1 := hC.c1
  clear hC ht hu hd
  cases t
  · rw [Bool.false_and] at hv
    subst hv
    go_enter Tryd.func121, Tryd.ntmps121
    go_upto_region 1 with fail
    rw [← hxb, ← hw1]
    clear hxb hw1
    go_wp2_with (go_at_call 138; (with_reducible refine (CV.out.mono ?_)); rintro e w2 ⟨rfl, hb2⟩; have HB2 := Lib.hid (below_on HB.out hb2); clear c0 c1; have c0 := (HC.out.on hb2).c0; have c1 := (HC.out.on hb2).c1; clear hb2)
    go_ret
    exact ⟨rfl, HB2.out⟩
  · rw [Bool.true_and] at hv
    by_cases h1 : d ≤ u
    · have e1 : decide (d ≤ u) = true := decide_eq_true h1
      by_cases h2 : u ≤ 100
      · have e2 : decide (u ≤ 100) = true := decide_eq_true h2
        rw [e1, e2] at hv
        obtain rfl : v = true := hv.symm
        go_enter Tryd.func121, Tryd.ntmps121
        go_upto_region 1 with fail
        rw [← hxb, ← hw1]
        clear hxb hw1
        go_wp2_with (go_at_call 138; (with_reducible refine (CV.out.mono ?_)); rintro e w2 ⟨rfl, hb2⟩; have HB2 := Lib.hid (below_on HB.out hb2); clear c0 c1; have c0 := (HC.out.on hb2).c0; have c1 := (HC.out.on hb2).c1; clear hb2)
        go_ret
        exact ⟨rfl, HB2.out⟩
      · have e2 : decide (u ≤ 100) = false := decide_eq_false h2
        rw [e1, e2] at hv
        obtain rfl : v = false := hv.symm
        go_enter Tryd.func121, Tryd.ntmps121
        go_upto_region 1 with fail
        rw [← hxb, ← hw1]
        clear hxb hw1
        go_wp2_with (go_at_call 138; (with_reducible refine (CV.out.mono ?_)); rintro e w2 ⟨rfl, hb2⟩; have HB2 := Lib.hid (below_on HB.out hb2); clear c0 c1; have c0 := (HC.out.on hb2).c0; have c1 := (HC.out.on hb2).c1; clear hb2)
        go_ret
        exact ⟨rfl, HB2.out⟩
    · have e1 : decide (d ≤ u) = false := decide_eq_false h1
      rw [e1] at hv
      obtain rfl : v = false := hv.symm
      go_enter Tryd.func121, Tryd.ntmps121
      go_upto_region 1 with fail
      rw [← hxb, ← hw1]
      clear hxb hw1
      go_wp2_with (go_at_call 138; (with_reducible refine (CV.out.mono ?_)); rintro e w2 ⟨rfl, hb2⟩; have HB2 := Lib.hid (below_on HB.out hb2); clear c0 c1; have c0 := (HC.out.on hb2).c0; have c1 := (HC.out.on hb2).c1; clear hb2)
      go_ret
      exact ⟨rfl, HB2.out⟩
end Go.Proofs.YtcghjjfpjiacfaaDoor
