/- Layer 10: package reeving: which ropes are right. -/
import Derived.Test.YtcghjjfpjiacfaaDoorKV3
namespace Go.Proofs.YtcghjjfpjiacfaaDoor
open Go.ChangeShapes Go.WideShapes Go.ChangeAt Go.RowKit Go.Joins Go.Deep Go.Shelf
set_option linter.unusedVariables false

set_option maxHeartbeats 8000000 in
theorem isRope_any (r : Rop) (nm : ByteArray) (ha : Option Addr) (n hc : Nat) (hs : Nat → Hld) (hd : Bool) (mb m : Nat) (f : Nat → ByteArray) (w : World) (hr : r = ⟨nm, ha, n, hc, hs, hd⟩) (hm : IxM w mb f m) (hl : HolR w ha n hs) (hn : n ≤ 100) (hx : ∀ i, i < n → (hs i).blk.size ≤ 1000) (hg : ∀ i, i < n → HldRg (hs i)) (v : Bool) (hv : v = true ↔ RopOk (knB f m) r) :
    Calls Tryd.prog 64 #[.agg #[.string nm, .slice ha n hc, .bool hd], .map (some mb)] w fun e w' => e = .returned (.bool v) ∧ Below w.heap.size w w' := by
  obtain ⟨w1, hw1⟩ : ∃ W, W = w.alloc (Obj.cells #[Value.string nm, .slice ha n hc, .bool hd] 58) := ⟨_, rfl⟩
  obtain ⟨xb, hxb⟩ : ∃ x, x = w.heap.size := ⟨_, rfl⟩
  have hC : C3 w1 xb (.string nm) (.slice ha n hc) (.bool hd) := by rw [hw1, hxb]; exact C3.new _ _ _ _ _
  have HB := Lib.hid (show Below w.heap.size w w1 from by rw [hw1]; exact (Below.refl _ _).alloc (Nat.le_refl _) _)
  have HM := Lib.hid (hm.on HB.out)
  have HL := Lib.hid (hl.on HB.out)
  have HX := Lib.hid (And.intro hx hg)
  have HC := Lib.hid hC
  have hok : RopOk (knB f m) r ↔ (2 ≤ n ∧ n ≤ 10) ∧ (∀ i, i < n → hldB (knB f m (hs i).blk) (hs i) (decide (i = 0 ∨ i + 1 = n)) = true) ∧ (hd = true → (hs (n - 1)).blk = ByteArray.empty) := by
    rw [hr]
    exact ⟨fun h => ⟨⟨h.l2, h.l10⟩, h.hs, h.hl⟩, fun h => ⟨h.1.1, h.1.2, h.2.1, h.2.2⟩⟩
  rw [hok] at hv
  have HV := Lib.hid hv
  clear hok hv hr hm hl hx hg
  have c1 := hC.c1
  clear hC
  by_cases h2 : 2 ≤ n ∧ n ≤ 10
  · have CI := fun W => Lib.hid (kwithin_any (n : Int) 2 10 W)
    rw [show (decide ((2 : Int) ≤ (n : Int)) && decide ((n : Int) ≤ 10)) = true by simp; omega] at CI
    have wl : IntKind.i64.wrap ((n : Int) - 1) = ((n - 1 : Nat) : Int) := by rw [IntWalk.i64_in _ (by omega)]; omega
    have HV2 : Hid (v = true ↔ (∀ i, i < n → hldB (knB f m (hs i).blk) (hs i) (decide (i = 0 ∨ i + 1 = n)) = true) ∧ (hd = true → (hs (n - 1)).blk = ByteArray.empty)) := ⟨fun h => (HV.out.1 h).2, fun h => HV.out.2 ⟨h2, h⟩⟩
    obtain ⟨b, o, rfl, hbk, hck⟩ := HL.out (by omega)
    have HT := Lib.hid (And.intro hbk hck)
    have S0 : Hid (Below w1.heap.size w1 w1 ∧ ∀ j, j < 0 → hldB (knB f m (hs j).blk) (hs j) (decide (j = 0 ∨ j + 1 = n)) = true) := ⟨Below.refl _ _, fun j hj => by omega⟩
    have eS : ∀ args w, (callFunc 96 args).run Tryd.prog w = .ok (.enter 96 args) w := enters_of Tryd.func96 (by kernel_rfl) rfl
    have eE : ∀ args w, (callFunc 97 args).run Tryd.prog w = .ok (.enter 97 args) w := enters_of Tryd.func97 (by kernel_rfl) rfl
    clear hbk hck HL HV
    go_enter Tryd.func64, Tryd.ntmps64
    go_upto_region 1 with fail
    rw [← hxb, ← hw1]
    clear hxb hw1
    go_wp2_with (go_at_call 58; (with_reducible refine ((CI _).out.mono ?_)); rintro e w2 ⟨rfl, rfl⟩)
    clear c1 wl CI
    go_loopg [21] n (fun mm s21 wx => ∃ i : Nat, s21 = .int .i64 (i : Int) ∧ mm = n - i ∧ i ≤ n ∧ Hid (Below w1.heap.size w1 wx ∧ ∀ j, j < i → hldB (knB f m (hs j).blk) (hs j) (decide (j = 0 ∨ j + 1 = n)) = true))
    case atStart => exact ⟨0, rfl, rfl, Nat.zero_le _, S0⟩
    case round =>
      clear S0
      obtain ⟨i, rfl, rfl, hi, S⟩ := hrel
      rename World => W1
      by_cases hlt : i < n
      · have lk : (i : Int) < (n : Int) := by omega
        have wk : IntKind.i64.wrap ((i : Int) + 1) = ((i + 1 : Nat) : Int) := by rw [IntWalk.i64_in _ (by omega)]; omega
        have p1 := (S.out.1.cell (p := ⟨b, o + i * 4, none⟩) HT.out.1).trans (HT.out.2 i hlt).1
        have p2 := (S.out.1.cell (p := ⟨b, o + i * 4 + 1, none⟩) HT.out.1).trans (HT.out.2 i hlt).2.1
        have p3 := (S.out.1.cell (p := ⟨b, o + i * 4 + 2, none⟩) HT.out.1).trans (HT.out.2 i hlt).2.2.1
        have p4 := (S.out.1.cell (p := ⟨b, o + i * 4 + 3, none⟩) HT.out.1).trans (HT.out.2 i hlt).2.2.2
        go_upto_region 7 with fail
        obtain ⟨W2, hW2⟩ : ∃ W, W = W1.alloc (Obj.cells #[.string (hs i).blk, .int .i64 (hs i).pulls, .int .i64 (hs i).num, .int .i64 (hs i).den] 64) := ⟨_, rfl⟩
        obtain ⟨b7, hb7⟩ : ∃ x, x = W1.heap.size := ⟨_, rfl⟩
        have hCb7 : C4 W2 b7 (.string (hs i).blk) (.int .i64 (hs i).pulls) (.int .i64 (hs i).num) (.int .i64 (hs i).den) := by rw [hW2, hb7]; exact C4.new _ _ _ _ _ _
        have HBb7 : Hid (Below W1.heap.size W1 W2) := by rw [hW2]; exact (Below.refl _ _).alloc (Nat.le_refl _) _
        rw [← hW2, ← hb7]
        clear hW2 hb7
        have c0 := hCb7.c0
        have c1 := hCb7.c1
        have c2 := hCb7.c2
        have c3 := hCb7.c3
        have S2 := Lib.hid (And.intro (below_on S.out.1 HBb7.out) S.out.2)
        have hz := HX.out.1 i hlt
        have hrg := HX.out.2 i hlt
        clear p1 p2 p3 p4 hCb7 HBb7 S
        have hn1 : hldB (knB f m (hs i).blk) (hs i) (decide (i = 0 ∨ i + 1 = n)) = false → v = false := fun h => by
          cases e : v
          · rfl
          · have := (HV2.out.1 e).1 i hlt
            rw [h] at this
            cases this
        have hn2 : hldB (knB f m (hs i).blk) (hs i) (decide (i = 0 ∨ i + 1 = n)) = true → ∀ j, j < i + 1 → hldB (knB f m (hs j).blk) (hs j) (decide (j = 0 ∨ j + 1 = n)) = true := fun h j hj => by
          by_cases e : j = i
          · rw [e]; exact h
          · exact S2.out.2 j (by omega)
        by_cases he : i = 0 ∨ i + 1 = n
        · have de : decide (i = 0 ∨ i + 1 = n) = true := decide_eq_true he
          obtain ⟨t, ht⟩ : ∃ t, hldB (knB f m (hs i).blk) (hs i) true = t := ⟨_, rfl⟩
          rw [de, ht] at hn1 hn2
          have CR := Lib.hid (isEnd_any (hs i).blk (hs i).pulls (hs i).num (hs i).den mb m f W2 (HM.out.on S2.out.1) hz t ht)
          have HN := Lib.hid (And.intro hn1 hn2)
          clear hn1 hn2 ht de hrg hz
          by_cases h0 : i = 0
          · have t1 : ((i : Int) == 0) = true := by simp; omega
            have z1 : (i : Int) = 0 := by omega
            clear he
            have HZ := Lib.hid (And.intro z1 h0)
            clear z1 h0
            cases t
            · obtain rfl : v = false := HN.out.1 rfl
              clear HN HV2
              go_wp2_with (go_at_call 97; (with_reducible refine (CR.out.mono ?_)); rintro e w3 ⟨rfl, hb3⟩; have S3 := Lib.hid (below_on HB.out (below_on S2.out.1 hb3)); clear hb3)
              go_ret
              exact ⟨rfl, S3.out⟩
            · have HN2 := Lib.hid (HN.out.2 rfl)
              clear HN
              go_wp2_with (go_at_call 97; (with_reducible refine (CR.out.mono ?_)); rintro e w3 ⟨rfl, hb3⟩; have S4 := Lib.hid (And.intro (below_on S2.out.1 hb3) HN2.out); clear hb3)
              go_roundg (n - (i + 1))
              case measure => omega
              case rel => exact ⟨i + 1, rfl, rfl, by omega, S4⟩
          · have h1 : i + 1 = n := by omega
            have t1 : ((i : Int) == 0) = false := by simp; omega
            have t2 : ((i : Int) == ((n - 1 : Nat) : Int)) = true := by simp; omega
            have HZ := Lib.hid (And.intro h0 h1)
            clear he h0 h1
            cases t
            · obtain rfl : v = false := HN.out.1 rfl
              clear HN HV2
              go_wp2_with (go_at_call 97; (with_reducible refine (CR.out.mono ?_)); rintro e w3 ⟨rfl, hb3⟩; have S3 := Lib.hid (below_on HB.out (below_on S2.out.1 hb3)); clear hb3)
              go_ret
              exact ⟨rfl, S3.out⟩
            · have HN2 := Lib.hid (HN.out.2 rfl)
              clear HN
              go_wp2_with (go_at_call 97; (with_reducible refine (CR.out.mono ?_)); rintro e w3 ⟨rfl, hb3⟩; have S4 := Lib.hid (And.intro (below_on S2.out.1 hb3) HN2.out); clear hb3)
              go_roundg (n - (i + 1))
              case measure => omega
              case rel => exact ⟨i + 1, rfl, rfl, by omega, S4⟩
        · have de : decide (i = 0 ∨ i + 1 = n) = false := decide_eq_false he
          obtain ⟨t, ht⟩ : ∃ t, hldB (knB f m (hs i).blk) (hs i) false = t := ⟨_, rfl⟩
          rw [de, ht] at hn1 hn2
          have CR := Lib.hid (isSheave_any (hs i).blk (hs i).pulls (hs i).num (hs i).den mb m f W2 (HM.out.on S2.out.1) hz hrg.n hrg.d t ht)
          have HN := Lib.hid (And.intro hn1 hn2)
          have t1 : ((i : Int) == 0) = false := by simp; omega
          have t2 : ((i : Int) == ((n - 1 : Nat) : Int)) = false := by simp; omega
          have HZ := Lib.hid he
          clear hn1 hn2 ht de hrg hz he
          cases t
          · obtain rfl : v = false := HN.out.1 rfl
            clear HN HV2
            go_wp2_with (go_at_call 96; (with_reducible refine (CR.out.mono ?_)); rintro e w3 ⟨rfl, hb3⟩; have S3 := Lib.hid (below_on HB.out (below_on S2.out.1 hb3)); clear hb3)
            go_ret
            exact ⟨rfl, S3.out⟩
          · have HN2 := Lib.hid (HN.out.2 rfl)
            clear HN
            go_wp2_with (go_at_call 96; (with_reducible refine (CR.out.mono ?_)); rintro e w3 ⟨rfl, hb3⟩; have S4 := Lib.hid (And.intro (below_on S2.out.1 hb3) HN2.out); clear hb3)
            go_roundg (n - (i + 1))
            case measure => omega
            case rel => exact ⟨i + 1, rfl, rfl, by omega, S4⟩
      · have lk : ¬ (i : Int) < (n : Int) := by omega
        have e : i = n := by omega
        subst e
        have c1 := (S.out.1.cell (p := ⟨xb, 1, none⟩) HC.out.lt).trans HC.out.c1
        have c2 := (S.out.1.cell (p := ⟨xb, 2, none⟩) HC.out.lt).trans HC.out.c2
        have HE := Lib.hid (below_on HB.out S.out.1)
        have ln : ((i - 1 : Nat) : Int) < (i : Int) := by omega
        have ln2 : i - 1 < i := by omega
        have q1 := (S.out.1.cell (p := ⟨b, o + (i - 1) * 4, none⟩) HT.out.1).trans (HT.out.2 (i - 1) ln2).1
        cases hd
        · have e : v = true := HV2.out.2 ⟨S.out.2, fun h => by cases h⟩
          subst e
          clear HV2 S q1
          go_wp2_with fail
          go_ret
          exact ⟨rfl, HE.out⟩
        · by_cases hb : (hs (i - 1)).blk = ByteArray.empty
          · have e : v = true := HV2.out.2 ⟨S.out.2, fun h => hb⟩
            subst e
            rw [hb] at q1
            obtain ⟨z, hz⟩ : ∃ z, i - 1 = z := ⟨_, rfl⟩
            rw [hz] at q1 ln ln2
            rw [hz]
            have HZ := Lib.hid hz
            clear HV2 S hb hz
            go_wp2_with fail
            go_ret
            exact ⟨rfl, HE.out⟩
          · have e : v = false := by
              cases e : v
              · rfl
              · exact absurd ((HV2.out.1 e).2 rfl) hb
            subst e
            have h1 := str_ne hb
            obtain ⟨y, hy⟩ : ∃ y, (hs (i - 1)).blk = y := ⟨_, rfl⟩
            rw [hy] at q1 hb h1
            obtain ⟨z, hz⟩ : ∃ z, i - 1 = z := ⟨_, rfl⟩
            rw [hz] at q1 ln ln2
            rw [hz]
            have HZ := Lib.hid (And.intro hz hy)
            clear HV2 S hz hy
            go_wp2_with fail
            go_ret
            exact ⟨rfl, HE.out⟩
  · have CI := fun W => Lib.hid (kwithin_any (n : Int) 2 10 W)
    rw [show (decide ((2 : Int) ≤ (n : Int)) && decide ((n : Int) ≤ 10)) = false by simp; omega] at CI
    have e : v = false := by
      cases e : v
      · rfl
      · exact absurd (HV.out.1 e).1 h2
    subst e
    clear HV h2
    go_enter Tryd.func64, Tryd.ntmps64
    go_upto_region 1 with fail
    rw [← hxb, ← hw1]
    clear hxb hw1
    go_wp2_with (go_at_call 58; (with_reducible refine ((CI _).out.mono ?_)); rintro e w2 ⟨rfl, rfl⟩)
    go_ret
    exact ⟨rfl, HB.out⟩
end Go.Proofs.YtcghjjfpjiacfaaDoor
