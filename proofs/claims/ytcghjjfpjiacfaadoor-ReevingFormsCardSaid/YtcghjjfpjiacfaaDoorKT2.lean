/- Layer 10: package reeving: the words of a rope. -/
import Derived.Test.YtcghjjfpjiacfaaDoorKT1
namespace Go.Proofs.YtcghjjfpjiacfaaDoor
open Go.ChangeShapes Go.WideShapes Go.ChangeAt Go.RowKit Go.Joins Go.Deep Go.Shelf
set_option linter.unusedVariables false

theorem hld_vB {k : Bool} {h : Hld} {e : Bool} (hh : hldB k h e = true) : vB h.num h.den = true := by
  unfold hldB losS at hh
  simp only [Bool.and_eq_true] at hh
  have h2 := hh.2
  cases e
  · simp at h2
    exact h2.1
  · simp at h2
    rw [h2.1, h2.2]
    decide
theorem StO.low {W : World} {B B' n : Nat} {v : Value} {f : Nat → ByteArray} (h : StO W B v n f) (hB : B' ≤ B) : StO W B' v n f := by
  refine ⟨h.1, ?_⟩
  rcases h.2 with h0 | ⟨g, cap, cur, h1, h2, h3⟩
  · exact .inl h0
  · exact .inr ⟨g, cap, cur, h1, Nat.le_trans hB h2, h3⟩
theorem kpow_on {B : Nat} {w W : World} (h : Pow10 B w) (hb : Below B w W) : Pow10 B W := fun w' h' => h w' (hb.trans h')
set_option maxHeartbeats 8000000 in
theorem ropeWords_any (nm : ByteArray) (ha : Option Addr) (n hc : Nat) (hs : Nat → Hld) (hd : Bool) (r : Rop) (hr : r = ⟨nm, ha, n, hc, hs, hd⟩) (w : World) (B : Nat) (hBw : B ≤ w.heap.size) (hT : Pow10 B w) (hl : HolR w ha n hs) (hsm : RopSm r) (hv : ∀ i, i < n → vB (hs i).num (hs i).den = true) :
    Calls Tryd.prog 94 #[.agg #[.string nm, .slice ha n hc, .bool hd]] w fun e w' => ∃ pa pc, e = .returned (.slice pa (3 + 3 * n) pc) ∧ StO w' w.heap.size (.slice pa (3 + 3 * n) pc) (3 + 3 * n) (wdF r) ∧ Below w.heap.size w w' := by
  have hn13 : n ≤ 13 := by have := hsm.n; rw [hr] at this; exact this
  have hrg : ∀ i, i < n → HldRg (hs i) := fun i hi => by have := hsm.g i (by rw [hr]; exact hi); rw [hr] at this; exact this
  obtain ⟨w1, hw1⟩ : ∃ W, W = w.alloc (Obj.cells #[Value.string nm, .slice ha n hc, .bool hd] 58) := ⟨_, rfl⟩
  obtain ⟨xb, hxb⟩ : ∃ x, x = w.heap.size := ⟨_, rfl⟩
  have hC : C3 w1 xb (.string nm) (.slice ha n hc) (.bool hd) := by rw [hw1, hxb]; exact C3.new _ _ _ _ _
  have hB : Below w.heap.size w w1 := by rw [hw1]; exact (Below.refl _ _).alloc (Nat.le_refl _) _
  have HB := Lib.hid hB
  have HC := Lib.hid hC
  have HL := Lib.hid (hl.on hB)
  have HPW : Hid (Pow10 B w1 ∧ B ≤ w1.heap.size) := ⟨kpow_on hT (hB.mono hBw), Nat.le_trans hBw hB.size⟩
  have HP := Lib.hid (And.intro hrg hv)
  have hw0 : wdF r 0 = sRope := rfl
  have hw1' : wdF r 1 = nm := by rw [hr]; rfl
  have hw2 : wdF r 2 = if hd then sHauled else sFixed := by rw [hr]; rfl
  have hw3 : ∀ i, wdF r (3 + 3 * i) = if (hs i).blk = ByteArray.empty then sBuild else (hs i).blk := fun i => by have := wdF_3 r i; rw [hr] at this ⊢; exact this
  have hw4 : ∀ i, wdF r (3 + 3 * i + 1) = bsS (Lib.itoa (hs i).pulls) := fun i => by have := wdF_4 r i; rw [hr] at this ⊢; exact this
  have hw5 : ∀ i, wdF r (3 + 3 * i + 2) = bsS (txt (hs i).num (hs i).den) := fun i => by have := wdF_5 r i; rw [hr] at this ⊢; exact this
  have HW := Lib.hid (And.intro hw3 (And.intro hw4 hw5))
  obtain ⟨f, hf⟩ : ∃ f, wdF r = f := ⟨_, rfl⟩
  rw [hf] at hw0 hw1' hw2 HW ⊢
  have c0 := hC.c0
  have c1 := hC.c1
  have c2 := hC.c2
  clear hf hw3 hw4 hw5 hrg hv hl hsm hr hT hB hBw
  obtain ⟨w2, hw2d⟩ : ∃ W, W = w1.alloc (Obj.cells #[Value.string (⟨#[114, 111, 112, 101]⟩ : ByteArray), .string nm, .string (⟨#[102, 105, 120, 101, 100]⟩ : ByteArray)] 9) := ⟨_, rfl⟩
  obtain ⟨g0, hg0⟩ : ∃ x, x = w1.heap.size := ⟨_, rfl⟩
  have hb2 : Below w1.heap.size w1 w2 := by rw [hw2d]; exact (Below.refl _ _).alloc (Nat.le_refl _) _
  have hk2 : w2.heap[g0]? = some (.cells #[Value.string (⟨#[114, 111, 112, 101]⟩ : ByteArray), .string nm, .string (⟨#[102, 105, 120, 101, 100]⟩ : ByteArray)] 9 (0, 0)) := by rw [hw2d, hg0]; exact (MapKept.heap_alloc w1 _).1
  have hC2 := hC.on hb2
  have HD : Hid (w2 = w1.alloc (Obj.cells #[Value.string (⟨#[114, 111, 112, 101]⟩ : ByteArray), .string nm, .string (⟨#[102, 105, 120, 101, 100]⟩ : ByteArray)] 9) ∧ g0 = w1.heap.size) := ⟨hw2d, hg0⟩
  have hk3 : C3 w2 g0 (.string (⟨#[114, 111, 112, 101]⟩ : ByteArray)) (.string nm) (.string (⟨#[102, 105, 120, 101, 100]⟩ : ByteArray)) := by rw [hw2d, hg0]; exact C3.new _ _ _ _ _
  have hfz : w2.frozen? ⟨g0, 2, none⟩ = false := by rw [hw2d, hg0]; simp
  have hgl : w1.heap.size ≤ g0 := by omega
  have HK := Lib.hid (And.intro hb2 (And.intro hk2 (And.intro hC2 (And.intro hk3 (And.intro hfz hgl)))))
  clear hC hw2d hg0 hb2 hk2 hC2 hk3 hfz hgl
  cases hd
  · have S0 : Hid (Below w1.heap.size w1 w2 ∧ StO w2 w1.heap.size (.slice (some ⟨g0, 0, none⟩) 3 3) (3 + 3 * 0) f) :=
      ⟨HK.out.1, StO.of_block HK.out.2.1 HK.out.2.2.2.2.2 (by omega) (by
        show [Value.string sRope, .string nm, .string sFixed] = [Value.string (f 0), .string (f 1), .string (f 2)]
        rw [hw0, hw1', hw2]; rfl)⟩
    clear hw0 hw1' hw2
    go_enter Tryd.func94, Tryd.ntmps94
    go_upto_region 1 with fail
    rw [← hxb, ← hw1]
    clear hxb hw1
    go_upto_region 2 with fail
    rw [← HD.out.1, ← HD.out.2]
    clear c0 c1 c2
    have c1 := HK.out.2.2.1.c1
    have c2 := HK.out.2.2.1.c2
    clear HK HD
    go_wp2_with fail
    clear c1 c2
    go_loopg [3, 19] n (fun mm s3 s19 wx => ∃ i : Nat, s19 = .int .i64 (i : Int) ∧ mm = n - i ∧ i ≤ n ∧ Hid (Below w1.heap.size w1 wx ∧ StO wx w1.heap.size s3 (3 + 3 * i) f))
    case atStart => exact ⟨0, rfl, rfl, Nat.zero_le _, S0⟩
    case round =>
      clear S0
      obtain ⟨i, rfl, rfl, hi, S⟩ := hrel
      rename World => W1
      obtain ⟨pa, pc, hpv⟩ := own_form S.out.2
      subst hpv
      by_cases hlt : i < n
      · have li : (i : Int) < (n : Int) := by omega
        have wi : IntKind.i64.wrap ((i : Int) + 1) = ((i + 1 : Nat) : Int) := by rw [IntWalk.i64_in _ (by omega)]; omega
        obtain ⟨hb, ho, rfl, hhb, hhc⟩ := HL.out (by omega)
        have HT2 := Lib.hid (And.intro hhb hhc)
        clear hhb hhc
        have p1 := (S.out.1.cell (p := ⟨hb, ho + i * 4, none⟩) HT2.out.1).trans (HT2.out.2 i hlt).1
        have p2 := (S.out.1.cell (p := ⟨hb, ho + i * 4 + 1, none⟩) HT2.out.1).trans (HT2.out.2 i hlt).2.1
        have p3 := (S.out.1.cell (p := ⟨hb, ho + i * 4 + 2, none⟩) HT2.out.1).trans (HT2.out.2 i hlt).2.2.1
        have p4 := (S.out.1.cell (p := ⟨hb, ho + i * 4 + 3, none⟩) HT2.out.1).trans (HT2.out.2 i hlt).2.2.2
        go_upto_region 7 with fail
        obtain ⟨W2, hW2⟩ : ∃ W, W = W1.alloc (Obj.cells #[.string (hs i).blk, .int .i64 (hs i).pulls, .int .i64 (hs i).num, .int .i64 (hs i).den] 64) := ⟨_, rfl⟩
        obtain ⟨b5, hb5⟩ : ∃ x, x = W1.heap.size := ⟨_, rfl⟩
        have hCb5 : C4 W2 b5 (.string (hs i).blk) (.int .i64 (hs i).pulls) (.int .i64 (hs i).num) (.int .i64 (hs i).den) := by rw [hW2, hb5]; exact C4.new _ _ _ _ _ _
        have HBb5 : Hid (Below W1.heap.size W1 W2) := by rw [hW2]; exact (Below.refl _ _).alloc (Nat.le_refl _) _
        rw [← hW2, ← hb5]
        clear hW2 hb5
        have c0 := hCb5.c0
        have HC5 := Lib.hid hCb5
        have S2 : Hid (Below w1.heap.size w1 W2 ∧ StO W2 w1.heap.size (.slice pa (3 + 3 * i) pc) (3 + 3 * i) f) := ⟨below_on S.out.1 HBb5.out, S.out.2.on HBb5.out⟩
        have hg := HP.out.1 i hlt
        have CT : Hid (∀ W, Below w1.heap.size w1 W → Calls Tryd.prog 115 #[.agg #[.int .i64 (hs i).num, .int .i64 (hs i).den]] W fun e w' => e = .returned (.tuple #[.string ⟨(txt (hs i).num (hs i).den).toArray⟩, .int .i64 0]) ∧ Below W.heap.size W w') := fun W hW =>
          Text_any _ _ W B (Nat.le_trans HPW.out.2 hW.size) (Lib.hid (kpow_on HPW.out.1 (hW.mono HPW.out.2))) hg.n.1 hg.n.2 hg.d.1 hg.d.2 _ 0 (by unfold textT; rw [if_pos (HP.out.2 i hlt)])
        have CI : Hid (∀ W, Below w1.heap.size w1 W → Calls Tryd.prog 93 #[.int .i64 (hs i).pulls] W fun e w' => e = .returned (.string ⟨(Lib.itoa (hs i).pulls).toArray⟩) ∧ Below W.heap.size W w') := fun W hW =>
          Itoa_b _ hg.p.1 hg.p.2 W (HPW.out.1 W (hW.mono HPW.out.2))
        have E0 := HW.out.1 i
        have E1 := Lib.hid (HW.out.2.1 i)
        have E2 := Lib.hid (HW.out.2.2 i)
        have c1 := hCb5.c1
        have c2 := hCb5.c2
        have c3 := hCb5.c3
        clear p1 p2 p3 p4 hCb5 HBb5 S hg
        obtain ⟨y, hy⟩ : ∃ y, (hs i).blk = y := ⟨_, rfl⟩
        rw [hy] at c0 E0
        have HY := Lib.hid hy
        clear hy
        by_cases h0 : y = ByteArray.empty
        · rw [if_pos h0] at E0
          subst h0
          have E := Lib.hid E0
          clear E0
          go_wp2_with (first
            | (go_at_call 115; (with_reducible refine ((CT.out _ S2.out.1).mono ?_)); rintro e w6 ⟨rfl, hb6⟩; have S6 := Lib.hid (And.intro (below_on S2.out.1 hb6) (S2.out.2.on hb6)); clear c1; have c1 := (HC5.out.on hb6).c1; clear hb6)
            | (go_at_call 93; (with_reducible refine ((CI.out _ S6.out.1).mono ?_)); rintro e w7 ⟨rfl, hb7⟩; have S7 := Lib.hid (And.intro (below_on S6.out.1 hb7) (S6.out.2.on hb7)); clear hb7
               have B8 : Hid (Below w7.heap.size w7 (w7.alloc (Obj.cells #[Value.string sBuild, .string ⟨(Lib.itoa (hs i).pulls).toArray⟩, .string ⟨(txt (hs i).num (hs i).den).toArray⟩] 9))) := (Below.refl _ _).alloc (Nat.le_refl _) _
               have K8 : Hid (C3 (w7.alloc (Obj.cells #[Value.string sBuild, .string ⟨(Lib.itoa (hs i).pulls).toArray⟩, .string ⟨(txt (hs i).num (hs i).den).toArray⟩] 9)) w7.heap.size (.string (f (3 + 3 * i))) (.string (f (3 + 3 * i + 1))) (.string (f (3 + 3 * i + 2)))) := (by rw [E.out, E1.out, E2.out]; exact C3.new _ _ _ _ _)
               have O8 := Lib.hid (S7.out.2.on B8.out))
            | (at_builtin; refine wpList_app_str3 _ rfl rfl _ _ rfl w1.heap.size (3 + 3 * i) _ f rfl O8.out w7.heap.size 3 rfl K8.out (by omega) (Nat.le_trans S7.out.1.size B8.out.size) ?_; intro g3 cap3 W3 hown hgrow))
          have S9 : Hid (Below w1.heap.size w1 W3 ∧ StO W3 w1.heap.size (.slice (some ⟨g3, 0, none⟩) (3 + 3 * i + 3) cap3) (3 + 3 * (i + 1)) f) := ⟨below_own (w := w1) (below_on S7.out.1 B8.out) O8.out hgrow, hown⟩
          go_roundg (n - (i + 1))
          case measure => omega
          case rel => exact ⟨i + 1, rfl, rfl, by omega, S9⟩
        · rw [if_neg h0] at E0
          have h1 := str_ne h0
          have E := Lib.hid E0
          clear E0
          go_wp2_with (first
            | (go_at_call 115; (with_reducible refine ((CT.out _ S2.out.1).mono ?_)); rintro e w6 ⟨rfl, hb6⟩; have S6 := Lib.hid (And.intro (below_on S2.out.1 hb6) (S2.out.2.on hb6)); clear c1; have c1 := (HC5.out.on hb6).c1; clear hb6)
            | (go_at_call 93; (with_reducible refine ((CI.out _ S6.out.1).mono ?_)); rintro e w7 ⟨rfl, hb7⟩; have S7 := Lib.hid (And.intro (below_on S6.out.1 hb7) (S6.out.2.on hb7)); clear hb7
               have B8 : Hid (Below w7.heap.size w7 (w7.alloc (Obj.cells #[Value.string y, .string ⟨(Lib.itoa (hs i).pulls).toArray⟩, .string ⟨(txt (hs i).num (hs i).den).toArray⟩] 9))) := (Below.refl _ _).alloc (Nat.le_refl _) _
               have K8 : Hid (C3 (w7.alloc (Obj.cells #[Value.string y, .string ⟨(Lib.itoa (hs i).pulls).toArray⟩, .string ⟨(txt (hs i).num (hs i).den).toArray⟩] 9)) w7.heap.size (.string (f (3 + 3 * i))) (.string (f (3 + 3 * i + 1))) (.string (f (3 + 3 * i + 2)))) := (by rw [E.out, E1.out, E2.out]; exact C3.new _ _ _ _ _)
               have O8 := Lib.hid (S7.out.2.on B8.out))
            | (at_builtin; refine wpList_app_str3 _ rfl rfl _ _ rfl w1.heap.size (3 + 3 * i) _ f rfl O8.out w7.heap.size 3 rfl K8.out (by omega) (Nat.le_trans S7.out.1.size B8.out.size) ?_; intro g3 cap3 W3 hown hgrow))
          have S9 : Hid (Below w1.heap.size w1 W3 ∧ StO W3 w1.heap.size (.slice (some ⟨g3, 0, none⟩) (3 + 3 * i + 3) cap3) (3 + 3 * (i + 1)) f) := ⟨below_own (w := w1) (below_on S7.out.1 B8.out) O8.out hgrow, hown⟩
          go_roundg (n - (i + 1))
          case measure => omega
          case rel => exact ⟨i + 1, rfl, rfl, by omega, S9⟩
      · have li : ¬ (i : Int) < (n : Int) := by omega
        have e : n = i := by omega
        subst e
        have R0 : Hid (StO W1 w.heap.size (.slice pa (3 + 3 * n) pc) (3 + 3 * n) f ∧ Below w.heap.size w W1) := ⟨S.out.2.low HB.out.size, below_on HB.out S.out.1⟩
        clear S
        go_wp2_with fail
        go_ret
        exact ⟨pa, pc, rfl, R0.out⟩
  · have S0 : Hid (Below w1.heap.size w1 (w2.setCell ⟨g0, 2, none⟩ (.string (⟨#[104, 97, 117, 108, 101, 100]⟩ : ByteArray))) ∧ StO (w2.setCell ⟨g0, 2, none⟩ (.string (⟨#[104, 97, 117, 108, 101, 100]⟩ : ByteArray))) w1.heap.size (.slice (some ⟨g0, 0, none⟩) 3 3) (3 + 3 * 0) f) :=
      ⟨HK.out.1.setCell HK.out.2.2.2.2.2 _, StO.of_block (heap_setCell_same _ _ 2 _ _ _ HK.out.2.1) HK.out.2.2.2.2.2 (by omega) (by
        show [Value.string sRope, .string nm, .string sHauled] = [Value.string (f 0), .string (f 1), .string (f 2)]
        rw [hw0, hw1', hw2]; rfl)⟩
    clear hw0 hw1' hw2
    have hne : g0 ≠ xb := by have := HC.out.lt; have := HK.out.2.2.2.2.2; omega
    go_enter Tryd.func94, Tryd.ntmps94
    go_upto_region 1 with fail
    rw [← hxb, ← hw1]
    clear hxb hw1
    go_upto_region 2 with fail
    rw [← HD.out.1, ← HD.out.2]
    clear c0 c1 c2
    have c1 := HK.out.2.2.1.c1
    have c2 := HK.out.2.2.1.c2
    have z2 := HK.out.2.2.2.1.c2
    have y2 := HK.out.2.2.2.2.1
    have zl := HK.out.2.2.2.1.lt
    have c1' := (World.cell?_setCell_far w2 ⟨g0, 2, none⟩ ⟨xb, 1, none⟩ (.string (⟨#[104, 97, 117, 108, 101, 100]⟩ : ByteArray)) hne).trans c1
    clear HK HD
    go_wp2_with fail
    clear c1 c2 z2 y2 zl c1' hne
    go_loopg [3, 19] n (fun mm s3 s19 wx => ∃ i : Nat, s19 = .int .i64 (i : Int) ∧ mm = n - i ∧ i ≤ n ∧ Hid (Below w1.heap.size w1 wx ∧ StO wx w1.heap.size s3 (3 + 3 * i) f))
    case atStart => exact ⟨0, rfl, rfl, Nat.zero_le _, S0⟩
    case round =>
      clear S0
      obtain ⟨i, rfl, rfl, hi, S⟩ := hrel
      rename World => W1
      obtain ⟨pa, pc, hpv⟩ := own_form S.out.2
      subst hpv
      by_cases hlt : i < n
      · have li : (i : Int) < (n : Int) := by omega
        have wi : IntKind.i64.wrap ((i : Int) + 1) = ((i + 1 : Nat) : Int) := by rw [IntWalk.i64_in _ (by omega)]; omega
        obtain ⟨hb, ho, rfl, hhb, hhc⟩ := HL.out (by omega)
        have HT2 := Lib.hid (And.intro hhb hhc)
        clear hhb hhc
        have p1 := (S.out.1.cell (p := ⟨hb, ho + i * 4, none⟩) HT2.out.1).trans (HT2.out.2 i hlt).1
        have p2 := (S.out.1.cell (p := ⟨hb, ho + i * 4 + 1, none⟩) HT2.out.1).trans (HT2.out.2 i hlt).2.1
        have p3 := (S.out.1.cell (p := ⟨hb, ho + i * 4 + 2, none⟩) HT2.out.1).trans (HT2.out.2 i hlt).2.2.1
        have p4 := (S.out.1.cell (p := ⟨hb, ho + i * 4 + 3, none⟩) HT2.out.1).trans (HT2.out.2 i hlt).2.2.2
        go_upto_region 7 with fail
        obtain ⟨W2, hW2⟩ : ∃ W, W = W1.alloc (Obj.cells #[.string (hs i).blk, .int .i64 (hs i).pulls, .int .i64 (hs i).num, .int .i64 (hs i).den] 64) := ⟨_, rfl⟩
        obtain ⟨b5, hb5⟩ : ∃ x, x = W1.heap.size := ⟨_, rfl⟩
        have hCb5 : C4 W2 b5 (.string (hs i).blk) (.int .i64 (hs i).pulls) (.int .i64 (hs i).num) (.int .i64 (hs i).den) := by rw [hW2, hb5]; exact C4.new _ _ _ _ _ _
        have HBb5 : Hid (Below W1.heap.size W1 W2) := by rw [hW2]; exact (Below.refl _ _).alloc (Nat.le_refl _) _
        rw [← hW2, ← hb5]
        clear hW2 hb5
        have c0 := hCb5.c0
        have HC5 := Lib.hid hCb5
        have S2 : Hid (Below w1.heap.size w1 W2 ∧ StO W2 w1.heap.size (.slice pa (3 + 3 * i) pc) (3 + 3 * i) f) := ⟨below_on S.out.1 HBb5.out, S.out.2.on HBb5.out⟩
        have hg := HP.out.1 i hlt
        have CT : Hid (∀ W, Below w1.heap.size w1 W → Calls Tryd.prog 115 #[.agg #[.int .i64 (hs i).num, .int .i64 (hs i).den]] W fun e w' => e = .returned (.tuple #[.string ⟨(txt (hs i).num (hs i).den).toArray⟩, .int .i64 0]) ∧ Below W.heap.size W w') := fun W hW =>
          Text_any _ _ W B (Nat.le_trans HPW.out.2 hW.size) (Lib.hid (kpow_on HPW.out.1 (hW.mono HPW.out.2))) hg.n.1 hg.n.2 hg.d.1 hg.d.2 _ 0 (by unfold textT; rw [if_pos (HP.out.2 i hlt)])
        have CI : Hid (∀ W, Below w1.heap.size w1 W → Calls Tryd.prog 93 #[.int .i64 (hs i).pulls] W fun e w' => e = .returned (.string ⟨(Lib.itoa (hs i).pulls).toArray⟩) ∧ Below W.heap.size W w') := fun W hW =>
          Itoa_b _ hg.p.1 hg.p.2 W (HPW.out.1 W (hW.mono HPW.out.2))
        have E0 := HW.out.1 i
        have E1 := Lib.hid (HW.out.2.1 i)
        have E2 := Lib.hid (HW.out.2.2 i)
        have c1 := hCb5.c1
        have c2 := hCb5.c2
        have c3 := hCb5.c3
        clear p1 p2 p3 p4 hCb5 HBb5 S hg
        obtain ⟨y, hy⟩ : ∃ y, (hs i).blk = y := ⟨_, rfl⟩
        rw [hy] at c0 E0
        have HY := Lib.hid hy
        clear hy
        by_cases h0 : y = ByteArray.empty
        · rw [if_pos h0] at E0
          subst h0
          have E := Lib.hid E0
          clear E0
          go_wp2_with (first
            | (go_at_call 115; (with_reducible refine ((CT.out _ S2.out.1).mono ?_)); rintro e w6 ⟨rfl, hb6⟩; have S6 := Lib.hid (And.intro (below_on S2.out.1 hb6) (S2.out.2.on hb6)); clear c1; have c1 := (HC5.out.on hb6).c1; clear hb6)
            | (go_at_call 93; (with_reducible refine ((CI.out _ S6.out.1).mono ?_)); rintro e w7 ⟨rfl, hb7⟩; have S7 := Lib.hid (And.intro (below_on S6.out.1 hb7) (S6.out.2.on hb7)); clear hb7
               have B8 : Hid (Below w7.heap.size w7 (w7.alloc (Obj.cells #[Value.string sBuild, .string ⟨(Lib.itoa (hs i).pulls).toArray⟩, .string ⟨(txt (hs i).num (hs i).den).toArray⟩] 9))) := (Below.refl _ _).alloc (Nat.le_refl _) _
               have K8 : Hid (C3 (w7.alloc (Obj.cells #[Value.string sBuild, .string ⟨(Lib.itoa (hs i).pulls).toArray⟩, .string ⟨(txt (hs i).num (hs i).den).toArray⟩] 9)) w7.heap.size (.string (f (3 + 3 * i))) (.string (f (3 + 3 * i + 1))) (.string (f (3 + 3 * i + 2)))) := (by rw [E.out, E1.out, E2.out]; exact C3.new _ _ _ _ _)
               have O8 := Lib.hid (S7.out.2.on B8.out))
            | (at_builtin; refine wpList_app_str3 _ rfl rfl _ _ rfl w1.heap.size (3 + 3 * i) _ f rfl O8.out w7.heap.size 3 rfl K8.out (by omega) (Nat.le_trans S7.out.1.size B8.out.size) ?_; intro g3 cap3 W3 hown hgrow))
          have S9 : Hid (Below w1.heap.size w1 W3 ∧ StO W3 w1.heap.size (.slice (some ⟨g3, 0, none⟩) (3 + 3 * i + 3) cap3) (3 + 3 * (i + 1)) f) := ⟨below_own (w := w1) (below_on S7.out.1 B8.out) O8.out hgrow, hown⟩
          go_roundg (n - (i + 1))
          case measure => omega
          case rel => exact ⟨i + 1, rfl, rfl, by omega, S9⟩
        · rw [if_neg h0] at E0
          have h1 := str_ne h0
          have E := Lib.hid E0
          clear E0
          go_wp2_with (first
            | (go_at_call 115; (with_reducible refine ((CT.out _ S2.out.1).mono ?_)); rintro e w6 ⟨rfl, hb6⟩; have S6 := Lib.hid (And.intro (below_on S2.out.1 hb6) (S2.out.2.on hb6)); clear c1; have c1 := (HC5.out.on hb6).c1; clear hb6)
            | (go_at_call 93; (with_reducible refine ((CI.out _ S6.out.1).mono ?_)); rintro e w7 ⟨rfl, hb7⟩; have S7 := Lib.hid (And.intro (below_on S6.out.1 hb7) (S6.out.2.on hb7)); clear hb7
               have B8 : Hid (Below w7.heap.size w7 (w7.alloc (Obj.cells #[Value.string y, .string ⟨(Lib.itoa (hs i).pulls).toArray⟩, .string ⟨(txt (hs i).num (hs i).den).toArray⟩] 9))) := (Below.refl _ _).alloc (Nat.le_refl _) _
               have K8 : Hid (C3 (w7.alloc (Obj.cells #[Value.string y, .string ⟨(Lib.itoa (hs i).pulls).toArray⟩, .string ⟨(txt (hs i).num (hs i).den).toArray⟩] 9)) w7.heap.size (.string (f (3 + 3 * i))) (.string (f (3 + 3 * i + 1))) (.string (f (3 + 3 * i + 2)))) := (by rw [E.out, E1.out, E2.out]; exact C3.new _ _ _ _ _)
               have O8 := Lib.hid (S7.out.2.on B8.out))
            | (at_builtin; refine wpList_app_str3 _ rfl rfl _ _ rfl w1.heap.size (3 + 3 * i) _ f rfl O8.out w7.heap.size 3 rfl K8.out (by omega) (Nat.le_trans S7.out.1.size B8.out.size) ?_; intro g3 cap3 W3 hown hgrow))
          have S9 : Hid (Below w1.heap.size w1 W3 ∧ StO W3 w1.heap.size (.slice (some ⟨g3, 0, none⟩) (3 + 3 * i + 3) cap3) (3 + 3 * (i + 1)) f) := ⟨below_own (w := w1) (below_on S7.out.1 B8.out) O8.out hgrow, hown⟩
          go_roundg (n - (i + 1))
          case measure => omega
          case rel => exact ⟨i + 1, rfl, rfl, by omega, S9⟩
      · have li : ¬ (i : Int) < (n : Int) := by omega
        have e : n = i := by omega
        subst e
        have R0 : Hid (StO W1 w.heap.size (.slice pa (3 + 3 * n) pc) (3 + 3 * n) f ∧ Below w.heap.size w W1) := ⟨S.out.2.low HB.out.size, below_on HB.out S.out.1⟩
        clear S
        go_wp2_with fail
        go_ret
        exact ⟨pa, pc, rfl, R0.out⟩
end Go.Proofs.YtcghjjfpjiacfaaDoor
