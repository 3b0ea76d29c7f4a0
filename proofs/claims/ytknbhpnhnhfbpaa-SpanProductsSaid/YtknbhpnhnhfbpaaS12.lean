/- Layer 3: the reference's product. -/
import Derived.Test.YtknbhpnhnhfbpaaS7
import Derived.Test.YtknbhpnhnhfbpaaS9
import Derived.Test.YtknbhpnhnhfbpaaSMath
namespace Go.Proofs.Ytknbhpnhnhfbpaa
set_option linter.unusedVariables false
open Go.RowKit Go.Shelf

set_option maxHeartbeats 4000000 in
theorem leastc_any (cp : Nat) (l : List Int) (w : World) (b : Nat) (h0 : 0 < l.length) (h4 : l.length ≤ 4) (hc : Row w b (l.map fun x => Value.int .i64 x)) :
    Calls Try.prog 48 #[.slice (some ⟨b, 0, none⟩) l.length cp] w fun e w' => e = .returned (.int .i64 (leastL l)) ∧ w = w' := by
  have hcell : ∀ k (h : k < l.length), w.cell? ⟨b, k, none⟩ = some (.int .i64 l[k]) := fun k h => by
    have := hc.2 k (by simpa using h)
    simpa using this
  have HC := Lib.hid hcell
  clear hc hcell
  obtain ⟨m, hm⟩ : ∃ m, leastL l = m := ⟨_, rfl⟩
  rw [hm]
  have R0 : Hid ((l.drop 1).foldl min l[0] = m) := by
    cases l with
    | nil => exact absurd h0 (by simp)
    | cons x r => exact hm
  clear hm
  have c0 := HC.out 0 h0
  generalize l[0] = x0 at *
  go_enter Try.func48, Try.ntmps48
  go_wp2
  clear c0
  go_loop [3, 4] (fun s3 s4 => ∃ (k : Nat) (x : Int), s3 = .int .i64 x ∧ s4 = .int .i64 k ∧ 1 ≤ k ∧ k ≤ l.length ∧ Hid ((l.drop k).foldl min x = m)) (fun s3 s4 => (l.length - (intOf s4).toNat))
  case atStart => exact ⟨1, x0, rfl, rfl, by omega, by omega, R0⟩
  case round =>
    clear R0
    obtain ⟨k, x, rfl, rfl, k1, k2, R⟩ := hrel
    by_cases hlt : k < l.length
    · have hd := List.drop_eq_getElem_cons hlt
      have R2 := R.out
      rw [hd, List.foldl_cons] at R2
      have HR := Lib.hid R2
      have ck := HC.out k hlt
      clear hd R2 R
      generalize l[k] = y at *
      have wk : IntKind.i64.wrap ((k : Int) + 1) = ((k + 1 : Nat) : Int) := by rw [IntWalk.i64_in _ (by omega)]; omega
      by_cases c : y < x
      · have g : decide (y < x) = true := decide_eq_true c
        go_wp2
        go_round
        case rel => exact ⟨k + 1, y, rfl, rfl, by omega, by omega, by have h := HR.out; rw [show min x y = y by omega] at h; exact h⟩
        case measure => simp [intOf]; omega
      · have g : decide (y < x) = false := decide_eq_false c
        go_wp2
        go_round
        case rel => exact ⟨k + 1, x, rfl, rfl, by omega, by omega, by have h := HR.out; rw [show min x y = x by omega] at h; exact h⟩
        case measure => simp [intOf]; omega
    · have e : k = l.length := by omega
      subst e
      have R2 := R.out
      rw [List.drop_length] at R2
      have R3 : x = m := R2
      subst R3
      clear R R2
      go_wp2
      go_ret
      exact ⟨rfl, rfl⟩

set_option maxHeartbeats 4000000 in
theorem greatc_any (cp : Nat) (l : List Int) (w : World) (b : Nat) (h0 : 0 < l.length) (h4 : l.length ≤ 4) (hc : Row w b (l.map fun x => Value.int .i64 x)) :
    Calls Try.prog 47 #[.slice (some ⟨b, 0, none⟩) l.length cp] w fun e w' => e = .returned (.int .i64 (greatL l)) ∧ w = w' := by
  have hcell : ∀ k (h : k < l.length), w.cell? ⟨b, k, none⟩ = some (.int .i64 l[k]) := fun k h => by
    have := hc.2 k (by simpa using h)
    simpa using this
  have HC := Lib.hid hcell
  clear hc hcell
  obtain ⟨m, hm⟩ : ∃ m, greatL l = m := ⟨_, rfl⟩
  rw [hm]
  have R0 : Hid ((l.drop 1).foldl max l[0] = m) := by
    cases l with
    | nil => exact absurd h0 (by simp)
    | cons x r => exact hm
  clear hm
  have c0 := HC.out 0 h0
  generalize l[0] = x0 at *
  go_enter Try.func47, Try.ntmps47
  go_wp2
  clear c0
  go_loop [3, 4] (fun s3 s4 => ∃ (k : Nat) (x : Int), s3 = .int .i64 x ∧ s4 = .int .i64 k ∧ 1 ≤ k ∧ k ≤ l.length ∧ Hid ((l.drop k).foldl max x = m)) (fun s3 s4 => (l.length - (intOf s4).toNat))
  case atStart => exact ⟨1, x0, rfl, rfl, by omega, by omega, R0⟩
  case round =>
    clear R0
    obtain ⟨k, x, rfl, rfl, k1, k2, R⟩ := hrel
    by_cases hlt : k < l.length
    · have hd := List.drop_eq_getElem_cons hlt
      have R2 := R.out
      rw [hd, List.foldl_cons] at R2
      have HR := Lib.hid R2
      have ck := HC.out k hlt
      clear hd R2 R
      generalize l[k] = y at *
      have wk : IntKind.i64.wrap ((k : Int) + 1) = ((k + 1 : Nat) : Int) := by rw [IntWalk.i64_in _ (by omega)]; omega
      by_cases c : x < y
      · have g : decide (x < y) = true := decide_eq_true c
        go_wp2
        go_round
        case rel => exact ⟨k + 1, y, rfl, rfl, by omega, by omega, by have h := HR.out; rw [show max x y = y by omega] at h; exact h⟩
        case measure => simp [intOf]; omega
      · have g : decide (x < y) = false := decide_eq_false c
        go_wp2
        go_round
        case rel => exact ⟨k + 1, x, rfl, rfl, by omega, by omega, by have h := HR.out; rw [show max x y = x by omega] at h; exact h⟩
        case measure => simp [intOf]; omega
    · have e : k = l.length := by omega
      subst e
      have R2 := R.out
      rw [List.drop_length] at R2
      have R3 : x = m := R2
      subst R3
      clear R R2
      go_wp2
      go_ret
      exact ⟨rfl, rfl⟩

theorem own_on {W W2 : World} {base : Nat} {t : TypeId} {size : Nat} {v : Value} {n : Nat} {xs : List Value} (h : W.ownsRow base t size v n xs) (hb : Below W.heap.size W W2) : W2.ownsRow base t size v n xs := by
  obtain ⟨h1, h2⟩ := h
  refine ⟨h1, ?_⟩
  rcases h2 with h2 | ⟨g, cap, cur, hv, hg, hh, r⟩
  · exact .inl h2
  · exact .inr ⟨g, cap, cur, hv, hg, by rw [hb.block g (Array.getElem?_eq_some_iff.1 hh).1]; exact hh, r⟩

/-- The call's own blocks: the two arguments, the result. -/
def MuSt (w W : World) (al ah bl bh : Int) : Prop := Blk W w.heap.size (.int .i64 al) (.int .i64 ah) ∧ Blk W (w.heap.size + 1) (.int .i64 bl) (.int .i64 bh) ∧ Blk W (w.heap.size + 1 + 1) (.int .i64 0) (.int .i64 0) ∧ Frz W (w.heap.size + 1 + 1) ∧ Below w.heap.size w W ∧ w.heap.size + 3 ≤ W.heap.size
theorem MuSt.at {w W W2 : World} {al ah bl bh : Int} (h : MuSt w W al ah bl bh) (hb : Below (w.heap.size + 3) W W2) : MuSt w W2 al ah bl bh := by
  obtain ⟨⟨a0, a1, a2⟩, ⟨b0, b1, b2⟩, ⟨r0, r1, r2⟩, ⟨f1, f2⟩, B, s⟩ := h
  have hs := hb.size
  exact ⟨⟨by omega, (hb.cell (p := ⟨w.heap.size, 0, none⟩) (by simp)).trans a1, (hb.cell (p := ⟨w.heap.size, 1, none⟩) (by simp)).trans a2⟩,
    ⟨by omega, (hb.cell (p := ⟨w.heap.size + 1, 0, none⟩) (by simp)).trans b1, (hb.cell (p := ⟨w.heap.size + 1, 1, none⟩) (by simp)).trans b2⟩,
    ⟨by omega, (hb.cell (p := ⟨w.heap.size + 1 + 1, 0, none⟩) (by simp)).trans r1, (hb.cell (p := ⟨w.heap.size + 1 + 1, 1, none⟩) (by simp)).trans r2⟩,
    ⟨(hb.frozen (p := ⟨w.heap.size + 1 + 1, 0, none⟩) (by simp)).trans f1, (hb.frozen (p := ⟨w.heap.size + 1 + 1, 1, none⟩) (by simp)).trans f2⟩,
    B.trans (hb.mono (by omega)), by omega⟩
theorem MuSt.on {w W W2 : World} {al ah bl bh : Int} (h : MuSt w W al ah bl bh) (hb : Below W.heap.size W W2) : MuSt w W2 al ah bl bh := h.at (hb.mono h.2.2.2.2.2)
theorem MuSt.start (w W : World) (al ah bl bh : Int) (h : Hid (Blk W w.heap.size (.int .i64 al) (.int .i64 ah)) ∧ Hid (Blk W (w.heap.size + 1) (.int .i64 bl) (.int .i64 bh)) ∧ Hid (Blk W (w.heap.size + 1 + 1) (.int .i64 0) (.int .i64 0)) ∧ Hid (Frz W (w.heap.size + 1 + 1)) ∧ Hid (Below w.heap.size w W)) : MuSt w W al ah bl bh :=
  ⟨h.1, h.2.1, h.2.2.1, h.2.2.2.1, h.2.2.2.2, by have := h.2.2.1.out.1; omega⟩
theorem pt_one (x y : Int) : ptV x y 1 false = x * y := by
  unfold ptV qN qC
  simp
theorem rowOf {w W : World} {base : Nat} {t : TypeId} {v : Value} {xs : List Int} (h : W.ownsRow base t 1 v xs.length (xs.map fun x => Value.int .i64 x)) (h0 : 0 < xs.length) : ∃ g cp, v = .slice (some ⟨g, 0, none⟩) xs.length cp ∧ Row W g (xs.map fun x => Value.int .i64 x) := by
  rcases h.2 with ⟨_, hn⟩ | ⟨g, cp, cur, rfl, _, hg, _⟩
  · omega
  have hlt : g < W.heap.size := (Array.getElem?_eq_some_iff.1 hg).1
  refine ⟨g, cp, rfl, hlt, fun k hk => ?_⟩
  rw [h.cellAt k (by simpa using hk)]
  exact List.getElem?_eq_getElem hk

set_option maxRecDepth 100000 in
set_option maxHeartbeats 32000000 in
theorem rmul_walk (al ah bl bh : Int) (w : World) (va : SVd al ah) (vb : SVd bl bh) (n d e : Int) (hm : mul4 (al * bl) (ah * bl) (al * bh) (ah * bh) = (n, d, e)) :
    Calls Try.prog 25 #[.agg #[.int .i64 al, .int .i64 ah], .agg #[.int .i64 bl, .int .i64 bh]] w fun r w' => r = .returned (.tuple #[.agg #[.int .i64 n, .int .i64 d], .int .i64 e]) ∧ Below w.heap.size w w' := by
  obtain ⟨va1, va2, va3⟩ := va
  obtain ⟨vb1, vb2, vb3⟩ := vb
  obtain ⟨i0, hi, hz0, hz1, hz2⟩ := info_parts (show (Try.prog.info? 3).map (fun i => (i.zero, i.size, i.bytes)) = some (some (Value.int IntKind.i64 0), 1, 8) by kernel_rfl)
  have HM := Lib.hid hm
  clear hm
  go_enter Try.func25, Try.ntmps25
  go_upto_region 1 with fail
  obtain ⟨W0, hW0⟩ : ∃ W0, W0 = ((w.alloc (Obj.cells #[Value.int IntKind.i64 al, Value.int IntKind.i64 ah] 23)).alloc (Obj.cells #[Value.int IntKind.i64 bl, Value.int IntKind.i64 bh] 23)).alloc (Obj.cells #[Value.int IntKind.i64 0, Value.int IntKind.i64 0] 23) := ⟨_, rfl⟩
  rw [← hW0]
  have S0 := Lib.hid (MuSt.start w W0 al ah bl bh (sargs w al ah bl bh W0 hW0))
  clear hW0
  go_wp2_with fail
  go_loopw [6, 7] (fun s6 s7 wx => ∃ (k : Nat) (i : Int), s7 = .int .i64 i ∧ i = (k : Int) ∧ k ≤ 4 ∧ Hid (wx.ownsRow (w.heap.size + 3) 3 1 s6 k (([al * bl, ah * bl, al * bh, ah * bh].take k).map fun x => Value.int .i64 x)) ∧ Hid (MuSt w wx al ah bl bh) ∧ Hid (∀ x ∈ [al * bl, ah * bl, al * bh, ah * bh].take k, inM x)) (fun _ s7 _ => 4 - (intOf s7).toNat)
  case atStart => exact ⟨0, 0, rfl, rfl, by omega, World.ownsRow_nil _ _ _ _, S0, fun x hx => absurd hx (by simp)⟩
  case round =>
    clear S0
    obtain ⟨k, i, rfl, hik, hk, O, S, AI⟩ := hrel
    have hcases : k = 0 ∨ k = 1 ∨ k = 2 ∨ k = 3 ∨ k = 4 := by omega
    rcases hcases with rfl | rfl | rfl | rfl | rfl
    · -- round 0
      obtain rfl : i = 0 := by omega
      clear hik hk
      by_cases g : inM (al * bl)
      · have P := fun w => Lib.hid (part_any al bl 1 false w (by omega) (by omega) (by omega) (by omega) (by omega) (by omega) (by omega) (al * bl) true (by have h := pt_one al bl; unfold ptT; rw [h]; exact if_pos g))
        have HG := Lib.hid g
        clear g
        obtain ⟨⟨_, a1, a2⟩, ⟨_, b1, b2⟩, _⟩ := S.out
        go_wp2_with fail
        go_quiet (fail)
        go_wp2_with fail
        (with_reducible refine ((P _).out).mono ?_)
        rintro e w1 ⟨rfl, hb⟩
        replace hb := below_on (w := wr) (by repeat' (first | (with_reducible exact Below.refl _ _) | (with_reducible assumption) | (with_reducible refine Below.alloc ?_ ?_ _) | (with_reducible refine below_drew ?_ _) | (with_reducible refine Below.drew ?_) | (with_reducible refine Below.setCell ?_ ?_ _) | go_size)) hb
        have S1 := Lib.hid (S.out.on hb)
        have O1 := Lib.hid (own_on O.out hb)
        clear hb a1 a2 b1 b2 S O P
        go_wp2_with (at_builtin; refine wpList_append_own _ rfl _ _ 62 rfl (w.heap.size + 3) 3 i0 (.int .i64 0) 1 8 Try.underlying62 hi hz0 hz1 hz2 rfl (by decide) _ _ _ rfl (O1.out.alloc _) ⟨w1.heap.size, 0, none⟩ 1 1 [.int .i64 (al * bl)] rfl rfl (cell_one_new _ _ _) (by intro u hu; simp at hu; subst hu; rfl) (by unfold maxLen; omega) (by omega) (by have := S1.out.2.2.2.2.2; simp; omega) ?_; intro v' w2 hown' hgrow _)
        have S2 := Lib.hid (S1.out.at (((Below.refl (w.heap.size + 3) w1).alloc S1.out.2.2.2.2.2 _).grown hgrow (by have := S1.out.2.2.2.2.2; simp; omega) (fun k hk => (O1.out.lt k hk).1)))
        have O2 := Lib.hid hown'
        clear hown' hgrow S1 O1
        go_roundw
        case rel => exact ⟨1, 1, rfl, rfl, by omega, O2, S2, by intro x hx; rcases List.mem_append.1 (show x ∈ List.take 0 [al * bl, ah * bl, al * bh, ah * bh] ++ [al * bl] from hx) with h | h; exact AI.out x h; rw [List.mem_singleton.1 h]; exact HG.out⟩
        case measure => simp [intOf]
      · have P := fun w => Lib.hid (part_any al bl 1 false w (by omega) (by omega) (by omega) (by omega) (by omega) (by omega) (by omega) 0 false (by have h := pt_one al bl; unfold ptT; rw [h]; exact if_neg g))
        obtain ⟨e1, e2, e3⟩ := three (HM.out.symm.trans (if_neg (fun z => g z.1)) |>.symm)
        subst e1; subst e2; subst e3
        clear g
        obtain ⟨⟨_, a1, a2⟩, ⟨_, b1, b2⟩, _⟩ := S.out
        go_wp2_with fail
        go_quiet (fail)
        go_wp2_with fail
        (with_reducible refine ((P _).out).mono ?_)
        rintro e w1 ⟨rfl, hb⟩
        replace hb := below_on (w := wr) (by repeat' (first | (with_reducible exact Below.refl _ _) | (with_reducible assumption) | (with_reducible refine Below.alloc ?_ ?_ _) | (with_reducible refine below_drew ?_ _) | (with_reducible refine Below.drew ?_) | (with_reducible refine Below.setCell ?_ ?_ _) | go_size)) hb
        have S1 := Lib.hid (S.out.on hb)
        clear hb a1 a2 b1 b2 S O P
        obtain ⟨_, _, HR, HF, HW, _⟩ := S1.out
        have HR := Lib.hid HR; have HF := Lib.hid HF; have HW := Lib.hid HW
        clear S1
        obtain ⟨HFp, HFq⟩ := HF.out
        obtain ⟨_, HRp, HRq⟩ := HR.out
        go_wp2_with fail
        obtain ⟨_, r8, r9⟩ := Blk.set (x := .int .i64 0) (y := .int .i64 0) HR.out
        have hB := ((HW.out.setCell (p := ⟨w.heap.size + 1 + 1, 0, none⟩) (by simp; omega) (.int .i64 0)).setCell (p := ⟨w.heap.size + 1 + 1, 1, none⟩) (by simp; omega) (.int .i64 0))
        refine bodyPost_ret (by simp [results, Try.results25, go_sem, r8, r9]; try rfl) rfl ?_
        exact ⟨rfl, hB⟩
    · -- round 1
      obtain rfl : i = 1 := by omega
      clear hik hk
      by_cases g : inM (ah * bl)
      · have P := fun w => Lib.hid (part_any ah bl 1 false w (by omega) (by omega) (by omega) (by omega) (by omega) (by omega) (by omega) (ah * bl) true (by have h := pt_one ah bl; unfold ptT; rw [h]; exact if_pos g))
        have HG := Lib.hid g
        clear g
        obtain ⟨⟨_, a1, a2⟩, ⟨_, b1, b2⟩, _⟩ := S.out
        go_wp2_with fail
        go_quiet (fail)
        go_wp2_with fail
        (with_reducible refine ((P _).out).mono ?_)
        rintro e w1 ⟨rfl, hb⟩
        replace hb := below_on (w := wr) (by repeat' (first | (with_reducible exact Below.refl _ _) | (with_reducible assumption) | (with_reducible refine Below.alloc ?_ ?_ _) | (with_reducible refine below_drew ?_ _) | (with_reducible refine Below.drew ?_) | (with_reducible refine Below.setCell ?_ ?_ _) | go_size)) hb
        have S1 := Lib.hid (S.out.on hb)
        have O1 := Lib.hid (own_on O.out hb)
        clear hb a1 a2 b1 b2 S O P
        go_wp2_with (at_builtin; refine wpList_append_own _ rfl _ _ 62 rfl (w.heap.size + 3) 3 i0 (.int .i64 0) 1 8 Try.underlying62 hi hz0 hz1 hz2 rfl (by decide) _ _ _ rfl (O1.out.alloc _) ⟨w1.heap.size, 0, none⟩ 1 1 [.int .i64 (ah * bl)] rfl rfl (cell_one_new _ _ _) (by intro u hu; simp at hu; subst hu; rfl) (by unfold maxLen; omega) (by omega) (by have := S1.out.2.2.2.2.2; simp; omega) ?_; intro v' w2 hown' hgrow _)
        have S2 := Lib.hid (S1.out.at (((Below.refl (w.heap.size + 3) w1).alloc S1.out.2.2.2.2.2 _).grown hgrow (by have := S1.out.2.2.2.2.2; simp; omega) (fun k hk => (O1.out.lt k hk).1)))
        have O2 := Lib.hid hown'
        clear hown' hgrow S1 O1
        go_roundw
        case rel => exact ⟨2, 2, rfl, rfl, by omega, O2, S2, by intro x hx; rcases List.mem_append.1 (show x ∈ List.take 1 [al * bl, ah * bl, al * bh, ah * bh] ++ [ah * bl] from hx) with h | h; exact AI.out x h; rw [List.mem_singleton.1 h]; exact HG.out⟩
        case measure => simp [intOf]
      · have P := fun w => Lib.hid (part_any ah bl 1 false w (by omega) (by omega) (by omega) (by omega) (by omega) (by omega) (by omega) 0 false (by have h := pt_one ah bl; unfold ptT; rw [h]; exact if_neg g))
        obtain ⟨e1, e2, e3⟩ := three (HM.out.symm.trans (if_neg (fun z => g z.2.1)) |>.symm)
        subst e1; subst e2; subst e3
        clear g
        obtain ⟨⟨_, a1, a2⟩, ⟨_, b1, b2⟩, _⟩ := S.out
        go_wp2_with fail
        go_quiet (fail)
        go_wp2_with fail
        (with_reducible refine ((P _).out).mono ?_)
        rintro e w1 ⟨rfl, hb⟩
        replace hb := below_on (w := wr) (by repeat' (first | (with_reducible exact Below.refl _ _) | (with_reducible assumption) | (with_reducible refine Below.alloc ?_ ?_ _) | (with_reducible refine below_drew ?_ _) | (with_reducible refine Below.drew ?_) | (with_reducible refine Below.setCell ?_ ?_ _) | go_size)) hb
        have S1 := Lib.hid (S.out.on hb)
        clear hb a1 a2 b1 b2 S O P
        obtain ⟨_, _, HR, HF, HW, _⟩ := S1.out
        have HR := Lib.hid HR; have HF := Lib.hid HF; have HW := Lib.hid HW
        clear S1
        obtain ⟨HFp, HFq⟩ := HF.out
        obtain ⟨_, HRp, HRq⟩ := HR.out
        go_wp2_with fail
        obtain ⟨_, r8, r9⟩ := Blk.set (x := .int .i64 0) (y := .int .i64 0) HR.out
        have hB := ((HW.out.setCell (p := ⟨w.heap.size + 1 + 1, 0, none⟩) (by simp; omega) (.int .i64 0)).setCell (p := ⟨w.heap.size + 1 + 1, 1, none⟩) (by simp; omega) (.int .i64 0))
        refine bodyPost_ret (by simp [results, Try.results25, go_sem, r8, r9]; try rfl) rfl ?_
        exact ⟨rfl, hB⟩
    · -- round 2
      obtain rfl : i = 2 := by omega
      clear hik hk
      by_cases g : inM (al * bh)
      · have P := fun w => Lib.hid (part_any al bh 1 false w (by omega) (by omega) (by omega) (by omega) (by omega) (by omega) (by omega) (al * bh) true (by have h := pt_one al bh; unfold ptT; rw [h]; exact if_pos g))
        have HG := Lib.hid g
        clear g
        obtain ⟨⟨_, a1, a2⟩, ⟨_, b1, b2⟩, _⟩ := S.out
        go_wp2_with fail
        go_quiet (fail)
        go_wp2_with fail
        (with_reducible refine ((P _).out).mono ?_)
        rintro e w1 ⟨rfl, hb⟩
        replace hb := below_on (w := wr) (by repeat' (first | (with_reducible exact Below.refl _ _) | (with_reducible assumption) | (with_reducible refine Below.alloc ?_ ?_ _) | (with_reducible refine below_drew ?_ _) | (with_reducible refine Below.drew ?_) | (with_reducible refine Below.setCell ?_ ?_ _) | go_size)) hb
        have S1 := Lib.hid (S.out.on hb)
        have O1 := Lib.hid (own_on O.out hb)
        clear hb a1 a2 b1 b2 S O P
        go_wp2_with (at_builtin; refine wpList_append_own _ rfl _ _ 62 rfl (w.heap.size + 3) 3 i0 (.int .i64 0) 1 8 Try.underlying62 hi hz0 hz1 hz2 rfl (by decide) _ _ _ rfl (O1.out.alloc _) ⟨w1.heap.size, 0, none⟩ 1 1 [.int .i64 (al * bh)] rfl rfl (cell_one_new _ _ _) (by intro u hu; simp at hu; subst hu; rfl) (by unfold maxLen; omega) (by omega) (by have := S1.out.2.2.2.2.2; simp; omega) ?_; intro v' w2 hown' hgrow _)
        have S2 := Lib.hid (S1.out.at (((Below.refl (w.heap.size + 3) w1).alloc S1.out.2.2.2.2.2 _).grown hgrow (by have := S1.out.2.2.2.2.2; simp; omega) (fun k hk => (O1.out.lt k hk).1)))
        have O2 := Lib.hid hown'
        clear hown' hgrow S1 O1
        go_roundw
        case rel => exact ⟨3, 3, rfl, rfl, by omega, O2, S2, by intro x hx; rcases List.mem_append.1 (show x ∈ List.take 2 [al * bl, ah * bl, al * bh, ah * bh] ++ [al * bh] from hx) with h | h; exact AI.out x h; rw [List.mem_singleton.1 h]; exact HG.out⟩
        case measure => simp [intOf]
      · have P := fun w => Lib.hid (part_any al bh 1 false w (by omega) (by omega) (by omega) (by omega) (by omega) (by omega) (by omega) 0 false (by have h := pt_one al bh; unfold ptT; rw [h]; exact if_neg g))
        obtain ⟨e1, e2, e3⟩ := three (HM.out.symm.trans (if_neg (fun z => g z.2.2.1)) |>.symm)
        subst e1; subst e2; subst e3
        clear g
        obtain ⟨⟨_, a1, a2⟩, ⟨_, b1, b2⟩, _⟩ := S.out
        go_wp2_with fail
        go_quiet (fail)
        go_wp2_with fail
        (with_reducible refine ((P _).out).mono ?_)
        rintro e w1 ⟨rfl, hb⟩
        replace hb := below_on (w := wr) (by repeat' (first | (with_reducible exact Below.refl _ _) | (with_reducible assumption) | (with_reducible refine Below.alloc ?_ ?_ _) | (with_reducible refine below_drew ?_ _) | (with_reducible refine Below.drew ?_) | (with_reducible refine Below.setCell ?_ ?_ _) | go_size)) hb
        have S1 := Lib.hid (S.out.on hb)
        clear hb a1 a2 b1 b2 S O P
        obtain ⟨_, _, HR, HF, HW, _⟩ := S1.out
        have HR := Lib.hid HR; have HF := Lib.hid HF; have HW := Lib.hid HW
        clear S1
        obtain ⟨HFp, HFq⟩ := HF.out
        obtain ⟨_, HRp, HRq⟩ := HR.out
        go_wp2_with fail
        obtain ⟨_, r8, r9⟩ := Blk.set (x := .int .i64 0) (y := .int .i64 0) HR.out
        have hB := ((HW.out.setCell (p := ⟨w.heap.size + 1 + 1, 0, none⟩) (by simp; omega) (.int .i64 0)).setCell (p := ⟨w.heap.size + 1 + 1, 1, none⟩) (by simp; omega) (.int .i64 0))
        refine bodyPost_ret (by simp [results, Try.results25, go_sem, r8, r9]; try rfl) rfl ?_
        exact ⟨rfl, hB⟩
    · -- round 3
      obtain rfl : i = 3 := by omega
      clear hik hk
      by_cases g : inM (ah * bh)
      · have P := fun w => Lib.hid (part_any ah bh 1 false w (by omega) (by omega) (by omega) (by omega) (by omega) (by omega) (by omega) (ah * bh) true (by have h := pt_one ah bh; unfold ptT; rw [h]; exact if_pos g))
        have HG := Lib.hid g
        clear g
        obtain ⟨⟨_, a1, a2⟩, ⟨_, b1, b2⟩, _⟩ := S.out
        go_wp2_with fail
        go_quiet (fail)
        go_wp2_with fail
        (with_reducible refine ((P _).out).mono ?_)
        rintro e w1 ⟨rfl, hb⟩
        replace hb := below_on (w := wr) (by repeat' (first | (with_reducible exact Below.refl _ _) | (with_reducible assumption) | (with_reducible refine Below.alloc ?_ ?_ _) | (with_reducible refine below_drew ?_ _) | (with_reducible refine Below.drew ?_) | (with_reducible refine Below.setCell ?_ ?_ _) | go_size)) hb
        have S1 := Lib.hid (S.out.on hb)
        have O1 := Lib.hid (own_on O.out hb)
        clear hb a1 a2 b1 b2 S O P
        go_wp2_with (at_builtin; refine wpList_append_own _ rfl _ _ 62 rfl (w.heap.size + 3) 3 i0 (.int .i64 0) 1 8 Try.underlying62 hi hz0 hz1 hz2 rfl (by decide) _ _ _ rfl (O1.out.alloc _) ⟨w1.heap.size, 0, none⟩ 1 1 [.int .i64 (ah * bh)] rfl rfl (cell_one_new _ _ _) (by intro u hu; simp at hu; subst hu; rfl) (by unfold maxLen; omega) (by omega) (by have := S1.out.2.2.2.2.2; simp; omega) ?_; intro v' w2 hown' hgrow _)
        have S2 := Lib.hid (S1.out.at (((Below.refl (w.heap.size + 3) w1).alloc S1.out.2.2.2.2.2 _).grown hgrow (by have := S1.out.2.2.2.2.2; simp; omega) (fun k hk => (O1.out.lt k hk).1)))
        have O2 := Lib.hid hown'
        clear hown' hgrow S1 O1
        go_roundw
        case rel => exact ⟨4, 4, rfl, rfl, by omega, O2, S2, by intro x hx; rcases List.mem_append.1 (show x ∈ List.take 3 [al * bl, ah * bl, al * bh, ah * bh] ++ [ah * bh] from hx) with h | h; exact AI.out x h; rw [List.mem_singleton.1 h]; exact HG.out⟩
        case measure => simp [intOf]
      · have P := fun w => Lib.hid (part_any ah bh 1 false w (by omega) (by omega) (by omega) (by omega) (by omega) (by omega) (by omega) 0 false (by have h := pt_one ah bh; unfold ptT; rw [h]; exact if_neg g))
        obtain ⟨e1, e2, e3⟩ := three (HM.out.symm.trans (if_neg (fun z => g z.2.2.2)) |>.symm)
        subst e1; subst e2; subst e3
        clear g
        obtain ⟨⟨_, a1, a2⟩, ⟨_, b1, b2⟩, _⟩ := S.out
        go_wp2_with fail
        go_quiet (fail)
        go_wp2_with fail
        (with_reducible refine ((P _).out).mono ?_)
        rintro e w1 ⟨rfl, hb⟩
        replace hb := below_on (w := wr) (by repeat' (first | (with_reducible exact Below.refl _ _) | (with_reducible assumption) | (with_reducible refine Below.alloc ?_ ?_ _) | (with_reducible refine below_drew ?_ _) | (with_reducible refine Below.drew ?_) | (with_reducible refine Below.setCell ?_ ?_ _) | go_size)) hb
        have S1 := Lib.hid (S.out.on hb)
        clear hb a1 a2 b1 b2 S O P
        obtain ⟨_, _, HR, HF, HW, _⟩ := S1.out
        have HR := Lib.hid HR; have HF := Lib.hid HF; have HW := Lib.hid HW
        clear S1
        obtain ⟨HFp, HFq⟩ := HF.out
        obtain ⟨_, HRp, HRq⟩ := HR.out
        go_wp2_with fail
        obtain ⟨_, r8, r9⟩ := Blk.set (x := .int .i64 0) (y := .int .i64 0) HR.out
        have hB := ((HW.out.setCell (p := ⟨w.heap.size + 1 + 1, 0, none⟩) (by simp; omega) (.int .i64 0)).setCell (p := ⟨w.heap.size + 1 + 1, 1, none⟩) (by simp; omega) (.int .i64 0))
        refine bodyPost_ret (by simp [results, Try.results25, go_sem, r8, r9]; try rfl) rfl ?_
        exact ⟨rfl, hB⟩
    · -- behind the loop
      obtain rfl : i = 4 := by omega
      have A := AI
      obtain ⟨g, cp, rfl, hrow⟩ := rowOf (w := w) (xs := [al * bl, ah * bl, al * bh, ah * bh]) O.out (by simp)
      have CL : Hid (Calls Try.prog 48 #[.slice (some ⟨g, 0, none⟩) 4 cp] _ _) := Lib.hid (leastc_any cp [al * bl, ah * bl, al * bh, ah * bh] _ g (by simp) (by simp) hrow)
      have CG : Hid (Calls Try.prog 47 #[.slice (some ⟨g, 0, none⟩) 4 cp] _ _) := Lib.hid (greatc_any cp [al * bl, ah * bl, al * bh, ah * bh] _ g (by simp) (by simp) hrow)
      have i1 := A.out (al * bl) (by simp)
      have i2 := A.out (ah * bl) (by simp)
      have i3 := A.out (al * bh) (by simp)
      have i4 := A.out (ah * bh) (by simp)
      have hf : fitS (leastL [al * bl, ah * bl, al * bh, ah * bh]) (greatL [al * bl, ah * bl, al * bh, ah * bh]) = (n, d, e) := by
        have h := HM.out
        unfold mul4 at h
        rw [if_pos ⟨i1, i2, i3, i4⟩] at h
        show fitS (min (min (min (al * bl) (ah * bl)) (al * bh)) (ah * bh)) (max (max (max (al * bl) (ah * bl)) (al * bh)) (ah * bh)) = _
        unfold inM at i1 i2 i3 i4
        unfold fitS
        rw [if_pos (sV_yes ⟨by omega, by omega, by omega⟩)]
        exact h
      have CF := fun w => Lib.hid (Fits_s _ _ w n d e hf)
      clear hrow i1 i2 i3 i4 AI A O hf HM hik hk va1 va2 va3 vb1 vb2 vb3 hi hz0 hz1 hz2
      generalize leastL [al * bl, ah * bl, al * bh, ah * bh] = tl at *
      generalize greatL [al * bl, ah * bl, al * bh, ah * bh] = tg at *
      go_wp2_with fail
      (with_reducible refine ((CL).out).mono ?_)
      rintro e w' ⟨rfl, rfl⟩
      go_wp2_with fail
      (with_reducible refine ((CG).out).mono ?_)
      rintro e w' ⟨rfl, rfl⟩
      go_wp2_with fail
      (with_reducible refine ((CF _).out).mono ?_)
      rintro e w1 ⟨rfl, hb⟩
      have S1 := Lib.hid (S.out.on hb)
      clear hb S CL CG CF
      obtain ⟨_, _, HR, HF, HW, _⟩ := S1.out
      have HR := Lib.hid HR; have HF := Lib.hid HF; have HW := Lib.hid HW
      clear S1
      obtain ⟨HFp, HFq⟩ := HF.out
      obtain ⟨_, HRp, HRq⟩ := HR.out
      go_wp2_with fail
      obtain ⟨_, r8, r9⟩ := Blk.set (x := .int .i64 n) (y := .int .i64 d) HR.out
      have hB := ((HW.out.setCell (p := ⟨w.heap.size + 1 + 1, 0, none⟩) (by simp; omega) (.int .i64 n)).setCell (p := ⟨w.heap.size + 1 + 1, 1, none⟩) (by simp; omega) (.int .i64 d))
      refine bodyPost_ret (by simp [results, Try.results25, go_sem, r8, r9]; try rfl) rfl ?_
      exact ⟨rfl, hB⟩

theorem rMul_any (al ah bl bh : Int) (w : World) (va : SVd al ah) (vb : SVd bl bh) (n d e : Int) (h : mulS al ah bl bh = (n, d, e)) :
    Calls Try.prog 25 #[.agg #[.int .i64 al, .int .i64 ah], .agg #[.int .i64 bl, .int .i64 bh]] w fun r w' => r = .returned (.tuple #[.agg #[.int .i64 n, .int .i64 d], .int .i64 e]) ∧ Below w.heap.size w w' :=
  rmul_walk al ah bl bh w va vb n d e (by rw [mul4_swap, ← mulS_eq]; exact h)

end Go.Proofs.Ytknbhpnhnhfbpaa
