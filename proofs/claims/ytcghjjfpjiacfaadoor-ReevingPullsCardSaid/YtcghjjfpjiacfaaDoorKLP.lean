/- Layer 10's law ReevingPulls. -/
import Derived.Test.YtcghjjfpjiacfaaDoorKRP2
namespace Go.Proofs.YtcghjjfpjiacfaaDoor
open Go.ChangeShapes Go.WideShapes Go.ChangeAt Go.RowKit Go.Joins Go.Deep Go.Shelf
set_option linter.unusedVariables false

theorem eqI_any (la ma : Option Addr) (n lc mc : Nat) (f : Nat → Int) (w : World) (h1 : IRow w la n f) (h2 : IRow w ma n f) (h0 : 0 < n) (hn : n ≤ 1000) :
    Calls Tryd.prog 28 #[.slice la n lc, .slice ma n mc] w fun e w' => e = .returned (.bool true) ∧ Below w.heap.size w w' := by
  obtain ⟨g, o, rfl, _, c1⟩ := h1 h0
  obtain ⟨y, z, rfl, _, c2⟩ := h2 h0
  have hx : ∀ j, j < ((List.range n).map f).length → ((List.range n).map f).getD j 0 = f j := fun j hj => by
    simp at hj
    simp [List.getD, hj]
  exact (Tryd.slices_Equal_int g o n lc y z n mc ((List.range n).map f) ((List.range n).map f) w (by simp) (by simp) (by omega) (by omega) (fun j hj => by rw [hx j hj]; exact c1 j (by simpa using hj)) (fun j hj => by rw [hx j hj]; exact c2 j (by simpa using hj))).mono fun e w' ⟨h3, q, h4⟩ => ⟨by rw [h3]; simp, by rw [h4]; exact kdrewN w q⟩
set_option maxHeartbeats 4000000 in
theorem eqM_any (pa qa : Option Addr) (n m pc qc : Nat) (E : Nat → Nat → Int) (w : World) (h1 : RwL w pa n m E) (h2 : RwL w qa n m E) (hn0 : 0 < n) (hm0 : 0 < m) (hn : n ≤ 1000) (hm : m ≤ 1000) :
    Calls Tryd.prog 76 #[.slice pa n pc, .slice qa n qc, .func (.func 28) #[] #[]] w fun e w' => e = .returned (.bool true) ∧ Below w.heap.size w w' := by
  obtain ⟨b, o, rfl, hb, hc⟩ := h1 hn0
  obtain ⟨y, z, rfl, hb2, hc2⟩ := h2 hn0
  have HX := Lib.hid (And.intro hb hc)
  have HY := Lib.hid (And.intro hb2 hc2)
  have HM := Lib.hid hm0
  have S0 : Hid (Below w.heap.size w w) := Below.refl _ _
  clear h1 h2 hb hc hb2 hc2 hm0
  go_enter Tryd.func76, Tryd.ntmps76
  go_wp2_with fail
  go_loopg [17] n (fun mm s17 wx => ∃ k : Nat, s17 = .int .i64 (k : Int) ∧ mm = n - k ∧ k ≤ n ∧ Hid (Below w.heap.size w wx))
  case atStart => exact ⟨0, rfl, rfl, Nat.zero_le _, S0⟩
  case round =>
    clear S0
    obtain ⟨k, rfl, rfl, hk, S⟩ := hrel
    rename World => W1
    by_cases hlt : k < n
    · have lk : (k : Int) < (n : Int) := by omega
      have wk : IntKind.i64.wrap ((k : Int) + 1) = ((k + 1 : Nat) : Int) := by rw [IntWalk.i64_in _ (by omega)]; omega
      obtain ⟨g, c, k1, k2, k3⟩ := HX.out.2 k hlt
      obtain ⟨gg, cc, k4, k5, k6⟩ := HY.out.2 k hlt
      have p1 := (S.out.cell (p := ⟨b, o + k, none⟩) HX.out.1).trans k1
      have p2 := (S.out.cell (p := ⟨y, z + k, none⟩) HY.out.1).trans k4
      have CE : Hid (Calls Tryd.prog 28 #[.slice (some ⟨g, 0, none⟩) m c, .slice (some ⟨gg, 0, none⟩) m cc] W1 fun e w' => e = .returned (.bool true) ∧ Below W1.heap.size W1 w') :=
        eqI_any _ _ m c cc (E k) W1 (IRow.on (fun _ => ⟨g, 0, rfl, k2, fun j hj => by rw [Nat.zero_add]; exact k3 j hj⟩) S.out) (IRow.on (fun _ => ⟨gg, 0, rfl, k5, fun j hj => by rw [Nat.zero_add]; exact k6 j hj⟩) S.out) HM.out hm
      clear k1 k2 k3 k4 k5 k6
      go_wp2_with fail
      (with_reducible refine (CE.out.mono ?_))
      rintro e w4 ⟨rfl, hb4⟩
      have S4 := Lib.hid (below_on S.out hb4)
      clear hb4
      go_wp2_with fail
      go_roundg (n - (k + 1))
      case measure => omega
      case rel => exact ⟨k + 1, rfl, rfl, by omega, S4⟩
    · have lk : ¬ (k : Int) < (n : Int) := by omega
      have e : n = k := by omega
      subst e
      go_wp2_with fail
      go_ret
      exact ⟨rfl, S.out⟩
theorem ksame_any (pa qa : Option Addr) (n m pc qc : Nat) (E : Nat → Nat → Int) (w : World) (h1 : RwL w pa n m E) (h2 : RwL w qa n m E) (hn0 : 0 < n) (hm0 : 0 < m) (hn : n ≤ 1000) (hm : m ≤ 1000) :
    Calls Tryd.prog 26 #[.slice pa n pc, .slice qa n qc] w fun e w' => e = .returned (.bool true) ∧ Below w.heap.size w w' := by
  have CE := Lib.hid (eqM_any pa qa n m pc qc E w h1 h2 hn0 hm0 hn hm)
  clear h1 h2 hn0 hm0 hn hm
  go_enter Tryd.func26, Tryd.ntmps26
  go_wp2_with (go_at_call 76; (with_reducible refine (CE.out.mono ?_)); rintro e w4 ⟨rfl, hb4⟩; have S4 := Lib.hid hb4; clear hb4)
  go_ret
  exact ⟨rfl, S4.out⟩
set_option maxRecDepth 100000 in
set_option maxHeartbeats 16000000 in
theorem pulls_walk (s : Sys) (x : ByteArray) (w : World) (hT : Pow10 w.heap.size w) (hs : s.At w) (hrg : SysRg s) (hx : x.size ≤ maxLen) :
    Calls Tryd.prog 5 #[.agg #[.slice s.ba s.nb s.bc, .slice s.ra s.nr s.rc], .string x] w fun e w' => e = .returned (.bool true) ∧ Below w.heap.size w w' := by
  obtain ⟨w1, hw1⟩ : ∃ W, W = w.alloc (Obj.cells #[Value.slice s.ba s.nb s.bc, .slice s.ra s.nr s.rc] 36) := ⟨_, rfl⟩
  obtain ⟨xb, hxb⟩ : ∃ x, x = w.heap.size := ⟨_, rfl⟩
  have hC : C2 w1 xb (.slice s.ba s.nb s.bc) (.slice s.ra s.nr s.rc) := by rw [hw1, hxb]; exact C2.new _ _ _ _
  have hB : Below w.heap.size w w1 := by rw [hw1]; exact (Below.refl _ _).alloc (Nat.le_refl _) _
  have HB := Lib.hid hB
  have HC := Lib.hid hC
  have HS := Lib.hid (hs.on hB)
  have c0 := hC.c0
  have c1 := hC.c1
  have CA := Lib.hid (kawake_any w1 w.heap.size hB.size (kpow_on hT hB))
  obtain ⟨t, ht⟩ := kbool_of (SysSm s)
  have CS : Hid (∀ W, Below w1.heap.size w1 W → Calls Tryd.prog 17 #[.agg #[.slice s.ba s.nb s.bc, .slice s.ra s.nr s.rc]] W fun e w' => e = .returned (.bool t) ∧ Below W.heap.size W w') := fun W hW => rSmall_any s W (HS.out.on hW) t ht
  have HR := Lib.hid hrg
  clear hs hC hB hrg hT
  cases t
  · clear ht
    go_enter Tryd.func5, Tryd.ntmps5
    go_upto_region 1 with fail
    rw [← hxb, ← hw1]
    clear hxb hw1
    go_wp2_with (first
      | (go_at_call 16; (with_reducible refine (CA.out.mono ?_)); rintro e y1 ⟨rfl, hb⟩; have A1 := Lib.hid (hb); clear c0 c1; have c0 := (HC.out.on A1.out).c0; have c1 := (HC.out.on A1.out).c1; clear hb)
      | (go_at_call 17; (with_reducible refine ((CS.out _ A1.out).mono ?_)); rintro e y2 ⟨rfl, hb⟩; have A2 := Lib.hid (below_on A1.out hb); clear c0 c1; have c0 := (HC.out.on A2.out).c0; have c1 := (HC.out.on A2.out).c1; clear hb))
    go_ret
    exact ⟨rfl, below_on HB.out A2.out⟩
  · have hsm := Lib.hid (ht.1 rfl)
    clear ht
    by_cases hxl : x.size ≤ 100
    · have g1 : ¬ 100 < (x.size : Int) := by omega
      obtain ⟨t2, ht2⟩ := kbool_of (SysOk s)
      have CV : Hid (∀ W, Below w1.heap.size w1 W → Calls Tryd.prog 19 #[.agg #[.slice s.ba s.nb s.bc, .slice s.ra s.nr s.rc]] W fun e w' => e = .returned (.bool t2) ∧ Below W.heap.size W w') := fun W hW => rValid_any s W (HS.out.on hW) hsm.out HR.out t2 ht2
      cases t2
      · have ho : ¬ SysOk s := fun h => by have := ht2.2 h; cases this
        have CM : Hid (∀ W, Below w1.heap.size w1 W → Calls Tryd.prog 22 #[.agg #[.slice s.ba s.nb s.bc, .slice s.ra s.nr s.rc]] W fun e w' => e = .returned (.tuple #[.slice none 0 0, .int .i64 1]) ∧ Below W.heap.size W w') := fun W hW => kMatrix_bad s W (HS.out.on hW) hsm.out HR.out ho
        have CW : Hid (∀ W, Below w1.heap.size w1 W → Calls Tryd.prog 23 #[.agg #[.slice s.ba s.nb s.bc, .slice s.ra s.nr s.rc]] W fun e w' => e = .returned (.tuple #[.slice none 0 0, .int .i64 1]) ∧ Below W.heap.size W w') := fun W hW => kWeights_bad s W (HS.out.on hW) hsm.out HR.out ho
        have CP : Hid (∀ W, Below w1.heap.size w1 W → Calls Tryd.prog 24 #[.agg #[.slice s.ba s.nb s.bc, .slice s.ra s.nr s.rc], .string x] W fun e w' => e = .returned (.tuple #[.int .i64 0, .int .i64 1]) ∧ Below W.heap.size W w') := fun W hW => kParts_bad s x W (HS.out.on hW) hsm.out HR.out ho
        have CH : Hid (∀ W, Below w1.heap.size w1 W → Calls Tryd.prog 25 #[.agg #[.slice s.ba s.nb s.bc, .slice s.ra s.nr s.rc]] W fun e w' => e = .returned (.tuple #[.slice none 0 0, .int .i64 1]) ∧ Below W.heap.size W w') := fun W hW => kHauled_bad s W (HS.out.on hW) hsm.out HR.out ho
        clear ht2 ho hsm HR hx hxl
        go_enter Tryd.func5, Tryd.ntmps5
        go_upto_region 1 with fail
        rw [← hxb, ← hw1]
        clear hxb hw1
        go_wp2_with (first
          | (go_at_call 16; (with_reducible refine (CA.out.mono ?_)); rintro e y1 ⟨rfl, hb⟩; have A1 := Lib.hid (hb); clear c0 c1; have c0 := (HC.out.on A1.out).c0; have c1 := (HC.out.on A1.out).c1; clear hb)
          | (go_at_call 17; (with_reducible refine ((CS.out _ A1.out).mono ?_)); rintro e y2 ⟨rfl, hb⟩; have A2 := Lib.hid (below_on A1.out hb); clear c0 c1; have c0 := (HC.out.on A2.out).c0; have c1 := (HC.out.on A2.out).c1; clear hb)
          | (go_at_call 22; (with_reducible refine ((CM.out _ A2.out).mono ?_)); rintro e y3 ⟨rfl, hb⟩; have A3 := Lib.hid (below_on A2.out hb); clear c0 c1; have c0 := (HC.out.on A3.out).c0; have c1 := (HC.out.on A3.out).c1; clear hb)
          | (go_at_call 23; (with_reducible refine ((CW.out _ A3.out).mono ?_)); rintro e y4 ⟨rfl, hb⟩; have A4 := Lib.hid (below_on A3.out hb); clear c0 c1; have c0 := (HC.out.on A4.out).c0; have c1 := (HC.out.on A4.out).c1; clear hb)
          | (go_at_call 24; (with_reducible refine ((CP.out _ A4.out).mono ?_)); rintro e y5 ⟨rfl, hb⟩; have A5 := Lib.hid (below_on A4.out hb); clear c0 c1; have c0 := (HC.out.on A5.out).c0; have c1 := (HC.out.on A5.out).c1; clear hb)
          | (go_at_call 25; (with_reducible refine ((CH.out _ A5.out).mono ?_)); rintro e y6 ⟨rfl, hb⟩; have A6 := Lib.hid (below_on A5.out hb); clear c0 c1; have c0 := (HC.out.on A6.out).c0; have c1 := (HC.out.on A6.out).c1; clear hb)
          | (go_at_call 19; (with_reducible refine ((CV.out _ A6.out).mono ?_)); rintro e y7 ⟨rfl, hb⟩; have A7 := Lib.hid (below_on A6.out hb); clear c0 c1; have c0 := (HC.out.on A7.out).c0; have c1 := (HC.out.on A7.out).c1; clear hb))
        go_ret
        exact ⟨rfl, below_on HB.out A7.out⟩
      · have ho := ht2.1 rfl
        have CM : Hid (∀ W, Below w1.heap.size w1 W → Calls Tryd.prog 22 #[.agg #[.slice s.ba s.nb s.bc, .slice s.ra s.nr s.rc]] W fun e w' => ∃ b, e = .returned (.tuple #[.slice (some ⟨b, 0, none⟩) s.nb s.nb, .int .i64 0]) ∧ RwL w' (some ⟨b, 0, none⟩) s.nb s.nr (mtx s) ∧ Below W.heap.size W w') := fun W hW =>
          (kMatrix_ok s W (HS.out.on hW) hsm.out HR.out ho).mono fun e w' ⟨b, G, h1, h2, h3⟩ => ⟨b, h1, h2.rwl, h3⟩
        have CW : Hid (∀ W, Below w1.heap.size w1 W → Calls Tryd.prog 23 #[.agg #[.slice s.ba s.nb s.bc, .slice s.ra s.nr s.rc]] W fun e w' => ∃ b, e = .returned (.tuple #[.slice (some ⟨b, 0, none⟩) s.nb s.nb, .int .i64 0]) ∧ IRow w' (some ⟨b, 0, none⟩) s.nb s.bw ∧ Below W.heap.size W w') := fun W hW =>
          (kWeights_ok s W (HS.out.on hW) hsm.out HR.out ho).mono fun e w' ⟨b, h1, h2, h3⟩ => ⟨b, h1, h2.irow, h3⟩
        obtain ⟨hf, hhf⟩ : ∃ f : Nat → Int, (fun k => if (s.R k).hauled then 1 else 0) = f := ⟨_, rfl⟩
        have CH : Hid (∀ W, Below w1.heap.size w1 W → Calls Tryd.prog 25 #[.agg #[.slice s.ba s.nb s.bc, .slice s.ra s.nr s.rc]] W fun e w' => ∃ b, e = .returned (.tuple #[.slice (some ⟨b, 0, none⟩) s.nr s.nr, .int .i64 0]) ∧ IRow w' (some ⟨b, 0, none⟩) s.nr hf ∧ Below W.heap.size W w') := fun W hW =>
          (kHauled_ok s W (HS.out.on hW) hsm.out HR.out ho).mono fun e w' ⟨b, h1, h2, h3⟩ => ⟨b, h1, by rw [← hhf]; exact h2.irow, h3⟩
        have DM : Hid (∀ W, Below w1.heap.size w1 W → Calls Tryd.prog 27 #[.agg #[.slice s.ba s.nb s.bc, .slice s.ra s.nr s.rc]] W fun e w' => ∃ pa pc, e = .returned (.slice pa s.nb pc) ∧ RwL w' pa s.nb s.nr (mtx s) ∧ Below W.heap.size W w') := fun W hW => rMatrix_any s W (HS.out.on hW) hsm.out ho
        have DW : Hid (∀ W, Below w1.heap.size w1 W → Calls Tryd.prog 29 #[.agg #[.slice s.ba s.nb s.bc, .slice s.ra s.nr s.rc]] W fun e w' => ∃ pa pc, e = .returned (.slice pa s.nb pc) ∧ IRow w' pa s.nb s.bw ∧ Below W.heap.size W w') := fun W hW => rWeights_any s W (HS.out.on hW) hsm.out ho
        have DH : Hid (∀ W, Below w1.heap.size w1 W → Calls Tryd.prog 30 #[.agg #[.slice s.ba s.nb s.bc, .slice s.ra s.nr s.rc]] W fun e w' => ∃ pa pc, e = .returned (.slice pa s.nr pc) ∧ IRow w' pa s.nr hf ∧ Below W.heap.size W w') := fun W hW => by rw [← hhf]; exact rHauled_any s W (HS.out.on hW) hsm.out ho
        have HP : Hid ((0 < s.nb ∧ 0 < s.nr) ∧ s.nb ≤ 1000 ∧ s.nr ≤ 1000) := ⟨⟨ho.b1, ho.r1⟩, by have := hsm.out.b; omega, by have := hsm.out.r; omega⟩
        have CF : Hid (∀ W v, fbI s.bn x s.nb = v → Below w1.heap.size w1 W → Calls Tryd.prog 31 #[.agg #[.slice s.ba s.nb s.bc, .slice s.ra s.nr s.rc], .string x] W fun e w' => e = .returned (.int .i64 v) ∧ Below W.heap.size W w') := fun W v hv hW => fBlock_any s.ba s.nb s.bc s.bn s.bw s.ra s.nr s.rc s.R x W (HS.out.on hW).b HP.out.2.1 v hv
        have CPX : Hid (∀ W, Below w1.heap.size w1 W → Calls Tryd.prog 24 #[.agg #[.slice s.ba s.nb s.bc, .slice s.ra s.nr s.rc], .string x] W fun e w' => e = .returned (match fstI s.bn x s.nb with | some q => .tuple #[.int .i64 (prt s q s.nr), .int .i64 0] | none => .tuple #[.int .i64 0, .int .i64 9]) ∧ Below W.heap.size W w') := fun W hW => kParts_ok s x W (HS.out.on hW) hsm.out HR.out ho (by omega)
        cases hq : fstI s.bn x s.nb with
        | none =>
          have CP : Hid (∀ W, Below w1.heap.size w1 W → Calls Tryd.prog 24 #[.agg #[.slice s.ba s.nb s.bc, .slice s.ra s.nr s.rc], .string x] W fun e w' => e = .returned (.tuple #[.int .i64 0, .int .i64 9]) ∧ Below W.heap.size W w') := fun W hW => by
            have := CPX.out W hW
            rw [hq] at this
            exact this
          have DF : Hid (∀ W, Below w1.heap.size w1 W → Calls Tryd.prog 31 #[.agg #[.slice s.ba s.nb s.bc, .slice s.ra s.nr s.rc], .string x] W fun e w' => e = .returned (.int .i64 (-1)) ∧ Below W.heap.size W w') := fun W hW => CF.out W (-1) (by unfold fbI; rw [hq]) hW
          clear ht2 ho hsm HR hx hxl hq CF CPX hhf
          go_enter Tryd.func5, Tryd.ntmps5
          go_upto_region 1 with fail
          rw [← hxb, ← hw1]
          clear hxb hw1
          go_wp2_with (first
            | (go_at_call 16; (with_reducible refine (CA.out.mono ?_)); rintro e y1 ⟨rfl, hb⟩; have A1 := Lib.hid (hb); clear c0 c1; have c0 := (HC.out.on A1.out).c0; have c1 := (HC.out.on A1.out).c1; clear hb)
            | (go_at_call 17; (with_reducible refine ((CS.out _ A1.out).mono ?_)); rintro e y2 ⟨rfl, hb⟩; have A2 := Lib.hid (below_on A1.out hb); clear c0 c1; have c0 := (HC.out.on A2.out).c0; have c1 := (HC.out.on A2.out).c1; clear hb)
            | (go_at_call 22; (with_reducible refine ((CM.out _ A2.out).mono ?_)); rintro e y3 ⟨mb, rfl, hm, hb⟩; have A3 := Lib.hid (below_on A2.out hb); clear c0 c1; have c0 := (HC.out.on A3.out).c0; have c1 := (HC.out.on A3.out).c1; have M3 := Lib.hid hm; clear hm; clear hb)
            | (go_at_call 23; (with_reducible refine ((CW.out _ A3.out).mono ?_)); rintro e y4 ⟨wb, rfl, hm, hb⟩; have A4 := Lib.hid (below_on A3.out hb); clear c0 c1; have c0 := (HC.out.on A4.out).c0; have c1 := (HC.out.on A4.out).c1; have M4 := Lib.hid (And.intro (M3.out.on hb) hm); clear hm; clear hb)
            | (go_at_call 24; (with_reducible refine ((CP.out _ A4.out).mono ?_)); rintro e y5 ⟨rfl, hb⟩; have A5 := Lib.hid (below_on A4.out hb); clear c0 c1; have c0 := (HC.out.on A5.out).c0; have c1 := (HC.out.on A5.out).c1; have M5 := Lib.hid (And.intro (M4.out.1.on hb) (M4.out.2.on hb)); clear hb)
            | (go_at_call 25; (with_reducible refine ((CH.out _ A5.out).mono ?_)); rintro e y6 ⟨hb1, rfl, hm, hb⟩; have A6 := Lib.hid (below_on A5.out hb); clear c0 c1; have c0 := (HC.out.on A6.out).c0; have c1 := (HC.out.on A6.out).c1; have M6 := Lib.hid (And.intro (M5.out.1.on hb) (And.intro (M5.out.2.on hb) hm)); clear hm; clear hb)
            | (go_at_call 19; (with_reducible refine ((CV.out _ A6.out).mono ?_)); rintro e y7 ⟨rfl, hb⟩; have A7 := Lib.hid (below_on A6.out hb); clear c0 c1; have c0 := (HC.out.on A7.out).c0; have c1 := (HC.out.on A7.out).c1; have M7 := Lib.hid (And.intro (M6.out.1.on hb) (And.intro (M6.out.2.1.on hb) (M6.out.2.2.on hb))); clear hb)
            | (go_at_call 27; (with_reducible refine ((DM.out _ A7.out).mono ?_)); rintro e y8 ⟨qa, qc, rfl, hm, hb⟩; have A8 := Lib.hid (below_on A7.out hb); clear c0 c1; have c0 := (HC.out.on A8.out).c0; have c1 := (HC.out.on A8.out).c1; have M8 := Lib.hid (And.intro (M7.out.2.1.on hb) (M7.out.2.2.on hb)); have E8 := Lib.hid (ksame_any (some ⟨mb, 0, none⟩) qa s.nb s.nr s.nb qc (mtx s) y8 (M7.out.1.on hb) hm HP.out.1.1 HP.out.1.2 HP.out.2.1 HP.out.2.2); clear hm; clear hb)
            | (go_at_call 26; (with_reducible refine (E8.out.mono ?_)); rintro e y9 ⟨rfl, hb⟩; have A9 := Lib.hid (below_on A8.out hb); clear c0 c1; have c0 := (HC.out.on A9.out).c0; have c1 := (HC.out.on A9.out).c1; have M9 := Lib.hid (And.intro (M8.out.1.on hb) (M8.out.2.on hb)); clear hb)
            | (go_at_call 29; (with_reducible refine ((DW.out _ A9.out).mono ?_)); rintro e y10 ⟨ra, rc, rfl, hm, hb⟩; have A10 := Lib.hid (below_on A9.out hb); clear c0 c1; have c0 := (HC.out.on A10.out).c0; have c1 := (HC.out.on A10.out).c1; have M10 := Lib.hid (M9.out.2.on hb); have E10 := Lib.hid (eqI_any (some ⟨wb, 0, none⟩) ra s.nb s.nb rc s.bw y10 (M9.out.1.on hb) hm HP.out.1.1 HP.out.2.1); clear hm; clear hb)
            | (go_at_call 28; (with_reducible refine (E10.out.mono ?_)); rintro e y11 ⟨rfl, hb⟩; have A11 := Lib.hid (below_on A10.out hb); clear c0 c1; have c0 := (HC.out.on A11.out).c0; have c1 := (HC.out.on A11.out).c1; have M11 := Lib.hid (M10.out.on hb); clear E10; clear hb)
            | (go_at_call 30; (with_reducible refine ((DH.out _ A11.out).mono ?_)); rintro e y12 ⟨ta, tc, rfl, hm, hb⟩; have A12 := Lib.hid (below_on A11.out hb); clear c0 c1; have c0 := (HC.out.on A12.out).c0; have c1 := (HC.out.on A12.out).c1; have E12 := Lib.hid (eqI_any (some ⟨hb1, 0, none⟩) ta s.nr s.nr tc hf y12 (M11.out.on hb) hm HP.out.1.2 HP.out.2.2); clear hm; clear hb)
            | (go_at_call 28; (with_reducible refine (E12.out.mono ?_)); rintro e y13 ⟨rfl, hb⟩; have A13 := Lib.hid (below_on A12.out hb); clear c0 c1; have c0 := (HC.out.on A13.out).c0; have c1 := (HC.out.on A13.out).c1; clear hb)
            | (go_at_call 31; (with_reducible refine ((DF.out _ A13.out).mono ?_)); rintro e y14 ⟨rfl, hb⟩; have A14 := Lib.hid (below_on A13.out hb); clear c0 c1; have c0 := (HC.out.on A14.out).c0; have c1 := (HC.out.on A14.out).c1; clear hb))
          go_ret
          exact ⟨rfl, below_on HB.out A14.out⟩
        | some q =>
          have CP : Hid (∀ W, Below w1.heap.size w1 W → Calls Tryd.prog 24 #[.agg #[.slice s.ba s.nb s.bc, .slice s.ra s.nr s.rc], .string x] W fun e w' => e = .returned (.tuple #[.int .i64 (prt s q s.nr), .int .i64 0]) ∧ Below W.heap.size W w') := fun W hW => by
            have := CPX.out W hW
            rw [hq] at this
            exact this
          have DF : Hid (∀ W, Below w1.heap.size w1 W → Calls Tryd.prog 31 #[.agg #[.slice s.ba s.nb s.bc, .slice s.ra s.nr s.rc], .string x] W fun e w' => e = .returned (.int .i64 (q : Int)) ∧ Below W.heap.size W w') := fun W hW => CF.out W (q : Int) (by unfold fbI; rw [hq]) hW
          have DP : Hid (∀ W, Below w1.heap.size w1 W → Calls Tryd.prog 32 #[.agg #[.slice s.ba s.nb s.bc, .slice s.ra s.nr s.rc], .string x] W fun e w' => e = .returned (.int .i64 (prt s q s.nr)) ∧ Below W.heap.size W w') := fun W hW => rParts_any s x q W (HS.out.on hW) hsm.out ho (fstI_some hq).2.1
          have lq : ¬ (q : Int) < 0 := by omega
          obtain ⟨pv, hpv⟩ : ∃ z, prt s q s.nr = z := ⟨_, rfl⟩
          rw [hpv] at CP DP
          clear ht2 ho hsm HR hx hxl hq CF CPX hhf hpv
          go_enter Tryd.func5, Tryd.ntmps5
          go_upto_region 1 with fail
          rw [← hxb, ← hw1]
          clear hxb hw1
          go_wp2_with (first
            | (go_at_call 16; (with_reducible refine (CA.out.mono ?_)); rintro e y1 ⟨rfl, hb⟩; have A1 := Lib.hid (hb); clear c0 c1; have c0 := (HC.out.on A1.out).c0; have c1 := (HC.out.on A1.out).c1; clear hb)
            | (go_at_call 17; (with_reducible refine ((CS.out _ A1.out).mono ?_)); rintro e y2 ⟨rfl, hb⟩; have A2 := Lib.hid (below_on A1.out hb); clear c0 c1; have c0 := (HC.out.on A2.out).c0; have c1 := (HC.out.on A2.out).c1; clear hb)
            | (go_at_call 22; (with_reducible refine ((CM.out _ A2.out).mono ?_)); rintro e y3 ⟨mb, rfl, hm, hb⟩; have A3 := Lib.hid (below_on A2.out hb); clear c0 c1; have c0 := (HC.out.on A3.out).c0; have c1 := (HC.out.on A3.out).c1; have M3 := Lib.hid hm; clear hm; clear hb)
            | (go_at_call 23; (with_reducible refine ((CW.out _ A3.out).mono ?_)); rintro e y4 ⟨wb, rfl, hm, hb⟩; have A4 := Lib.hid (below_on A3.out hb); clear c0 c1; have c0 := (HC.out.on A4.out).c0; have c1 := (HC.out.on A4.out).c1; have M4 := Lib.hid (And.intro (M3.out.on hb) hm); clear hm; clear hb)
            | (go_at_call 24; (with_reducible refine ((CP.out _ A4.out).mono ?_)); rintro e y5 ⟨rfl, hb⟩; have A5 := Lib.hid (below_on A4.out hb); clear c0 c1; have c0 := (HC.out.on A5.out).c0; have c1 := (HC.out.on A5.out).c1; have M5 := Lib.hid (And.intro (M4.out.1.on hb) (M4.out.2.on hb)); clear hb)
            | (go_at_call 25; (with_reducible refine ((CH.out _ A5.out).mono ?_)); rintro e y6 ⟨hb1, rfl, hm, hb⟩; have A6 := Lib.hid (below_on A5.out hb); clear c0 c1; have c0 := (HC.out.on A6.out).c0; have c1 := (HC.out.on A6.out).c1; have M6 := Lib.hid (And.intro (M5.out.1.on hb) (And.intro (M5.out.2.on hb) hm)); clear hm; clear hb)
            | (go_at_call 19; (with_reducible refine ((CV.out _ A6.out).mono ?_)); rintro e y7 ⟨rfl, hb⟩; have A7 := Lib.hid (below_on A6.out hb); clear c0 c1; have c0 := (HC.out.on A7.out).c0; have c1 := (HC.out.on A7.out).c1; have M7 := Lib.hid (And.intro (M6.out.1.on hb) (And.intro (M6.out.2.1.on hb) (M6.out.2.2.on hb))); clear hb)
            | (go_at_call 27; (with_reducible refine ((DM.out _ A7.out).mono ?_)); rintro e y8 ⟨qa, qc, rfl, hm, hb⟩; have A8 := Lib.hid (below_on A7.out hb); clear c0 c1; have c0 := (HC.out.on A8.out).c0; have c1 := (HC.out.on A8.out).c1; have M8 := Lib.hid (And.intro (M7.out.2.1.on hb) (M7.out.2.2.on hb)); have E8 := Lib.hid (ksame_any (some ⟨mb, 0, none⟩) qa s.nb s.nr s.nb qc (mtx s) y8 (M7.out.1.on hb) hm HP.out.1.1 HP.out.1.2 HP.out.2.1 HP.out.2.2); clear hm; clear hb)
            | (go_at_call 26; (with_reducible refine (E8.out.mono ?_)); rintro e y9 ⟨rfl, hb⟩; have A9 := Lib.hid (below_on A8.out hb); clear c0 c1; have c0 := (HC.out.on A9.out).c0; have c1 := (HC.out.on A9.out).c1; have M9 := Lib.hid (And.intro (M8.out.1.on hb) (M8.out.2.on hb)); clear hb)
            | (go_at_call 29; (with_reducible refine ((DW.out _ A9.out).mono ?_)); rintro e y10 ⟨ra, rc, rfl, hm, hb⟩; have A10 := Lib.hid (below_on A9.out hb); clear c0 c1; have c0 := (HC.out.on A10.out).c0; have c1 := (HC.out.on A10.out).c1; have M10 := Lib.hid (M9.out.2.on hb); have E10 := Lib.hid (eqI_any (some ⟨wb, 0, none⟩) ra s.nb s.nb rc s.bw y10 (M9.out.1.on hb) hm HP.out.1.1 HP.out.2.1); clear hm; clear hb)
            | (go_at_call 28; (with_reducible refine (E10.out.mono ?_)); rintro e y11 ⟨rfl, hb⟩; have A11 := Lib.hid (below_on A10.out hb); clear c0 c1; have c0 := (HC.out.on A11.out).c0; have c1 := (HC.out.on A11.out).c1; have M11 := Lib.hid (M10.out.on hb); clear E10; clear hb)
            | (go_at_call 30; (with_reducible refine ((DH.out _ A11.out).mono ?_)); rintro e y12 ⟨ta, tc, rfl, hm, hb⟩; have A12 := Lib.hid (below_on A11.out hb); clear c0 c1; have c0 := (HC.out.on A12.out).c0; have c1 := (HC.out.on A12.out).c1; have E12 := Lib.hid (eqI_any (some ⟨hb1, 0, none⟩) ta s.nr s.nr tc hf y12 (M11.out.on hb) hm HP.out.1.2 HP.out.2.2); clear hm; clear hb)
            | (go_at_call 28; (with_reducible refine (E12.out.mono ?_)); rintro e y13 ⟨rfl, hb⟩; have A13 := Lib.hid (below_on A12.out hb); clear c0 c1; have c0 := (HC.out.on A13.out).c0; have c1 := (HC.out.on A13.out).c1; clear hb)
            | (go_at_call 31; (with_reducible refine ((DF.out _ A13.out).mono ?_)); rintro e y14 ⟨rfl, hb⟩; have A14 := Lib.hid (below_on A13.out hb); clear c0 c1; have c0 := (HC.out.on A14.out).c0; have c1 := (HC.out.on A14.out).c1; clear hb)
            | (go_at_call 32; (with_reducible refine ((DP.out _ A14.out).mono ?_)); rintro e y15 ⟨rfl, hb⟩; have A15 := Lib.hid (below_on A14.out hb); clear c0 c1; have c0 := (HC.out.on A15.out).c0; have c1 := (HC.out.on A15.out).c1; clear hb))
          go_ret
          exact ⟨rfl, below_on HB.out A15.out⟩
    · have g1 : 100 < (x.size : Int) := by omega
      clear hxl hx hsm HR
      go_enter Tryd.func5, Tryd.ntmps5
      go_upto_region 1 with fail
      rw [← hxb, ← hw1]
      clear hxb hw1
      go_wp2_with (first
        | (go_at_call 16; (with_reducible refine (CA.out.mono ?_)); rintro e y1 ⟨rfl, hb⟩; have A1 := Lib.hid (hb); clear c0 c1; have c0 := (HC.out.on A1.out).c0; have c1 := (HC.out.on A1.out).c1; clear hb)
        | (go_at_call 17; (with_reducible refine ((CS.out _ A1.out).mono ?_)); rintro e y2 ⟨rfl, hb⟩; have A2 := Lib.hid (below_on A1.out hb); clear c0 c1; have c0 := (HC.out.on A2.out).c0; have c1 := (HC.out.on A2.out).c1; clear hb))
      go_ret
      exact ⟨rfl, below_on HB.out A2.out⟩
end Go.Proofs.YtcghjjfpjiacfaaDoor
