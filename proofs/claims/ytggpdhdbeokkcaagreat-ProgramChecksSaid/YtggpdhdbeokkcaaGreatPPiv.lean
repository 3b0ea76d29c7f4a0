/- Layer 5: a column is made basic. -/
import Derived.Test.YtggpdhdbeokkcaaGreatPT
namespace Go.Proofs.YtggpdhdbeokkcaaGreat
set_option linter.unusedVariables false
open Go.RowKit Go.Shelf

structure PivR (tb i j r s wd : Nat) (G C : Nat → Nat) (va vb vd f D q : Int) (vg : Bool) (vh vl : Int) (Wc : World) (L : Nat → Bool) (v : Nat → Value) (W : World) : Prop where
 st : L 19 = false → Below Wc.heap.size Wc W
 s1 : Had L 19 (∃ W2, Below Wc.heap.size Wc W2 ∧ W = W2.setCell ⟨G i, j, none⟩ (.int .i64 q))
 w4 : Had L 4 (∀ j ∈ [2, 3], L j = true)
 w5 : Had L 5 (∀ j ∈ [4], L j = true)
 w10 : Had L 10 (∀ j ∈ [8, 9], L j = true)
 w11 : Had L 11 (∀ j ∈ [10], L j = true)
 w12 : Had L 12 (∀ j ∈ [5, 6, 7, 11], L j = true)
 w14 : Had L 14 (∀ j ∈ [13], L j = true)
 w15 : Had L 15 (∀ j ∈ [14], L j = true)
 w16 : Had L 16 (∀ j ∈ [15], L j = true)
 w17 : Had L 17 (∀ j ∈ [12, 16], L j = true)
 w18 : Had L 18 (∀ j ∈ [0, 1], L j = true)
 w19 : Had L 19 (∀ j ∈ [0, 1, 2, 3, 4, 5, 6, 7, 8, 9, 10, 11, 12, 13, 14, 15, 16, 17, 18], L j = true)
 f0 : Had L 0 (v 43 = .slice (some ⟨G i, 0, none⟩) (wd) (C i))
 f1 : Had L 1 (v 44 = .int .i64 (j : Int))
 f2 : Had L 2 (v 45 = .slice (some ⟨G r, 0, none⟩) (wd) (C r))
 f3 : Had L 3 (v 46 = .int .i64 (s : Int))
 f4 : Had L 4 (v 47 = .pointer (some ⟨G r, s, none⟩))
 f5 : Had L 5 (v 48 = .int .i64 va)
 f6 : Had L 6 (v 49 = .int .i64 vb)
 f7 : Had L 7 (v 50 = .int .i64 f)
 f8 : Had L 8 (v 51 = .slice (some ⟨G r, 0, none⟩) (wd) (C r))
 f9 : Had L 9 (v 52 = .int .i64 (j : Int))
 f10 : Had L 10 (v 53 = .pointer (some ⟨G r, j, none⟩))
 f11 : Had L 11 (v 54 = .int .i64 vd)
 f12 : Had L 12 (v 55 = .agg #[.bool vg, .int .u64 vh, .int .u64 vl])
 f13 : Had L 13 (v 56 = .pointer (some ⟨tb, 0, none⟩))
 f14 : Had L 14 (v 57 = .pointer (some ⟨tb, 0, none⟩))
 f15 : Had L 15 (v 58 = .pointer (some ⟨tb, 3, none⟩))
 f16 : Had L 16 (v 59 = .int .i64 D)
 f17 : Had L 17 (v 60 = .int .i64 q)
 f18 : Had L 18 (v 61 = .pointer (some ⟨G i, j, none⟩))

/-- (a b - c d) / y by both functions; what lies between them has a name. -/
theorem wcross_pair (a b c d y r : Int) (a0 : -4611686018427387904 ≤ a) (a1 : a ≤ 4611686018427387904) (b0 : -4611686018427387904 ≤ b) (b1 : b ≤ 4611686018427387904) (c0 : -4611686018427387904 ≤ c) (c1 : c ≤ 4611686018427387904) (d0 : -4611686018427387904 ≤ d) (d1 : d ≤ 4611686018427387904)
  (y0 : 0 < y) (y1 : y ≤ 4611686018427387904) (r0 : -4611686018427387904 ≤ r) (r1 : r ≤ 4611686018427387904) (h : r * y = a * b - c * d) :
  ∃ vg vh vl, (∀ w, Calls Tryz.prog 105 #[.int .i64 a, .int .i64 b, .int .i64 c, .int .i64 d] w fun e w' => e = .returned (.agg #[.bool vg, .int .u64 vh, .int .u64 vl]) ∧ Below w.heap.size w w') ∧
   ∀ w, Calls Tryz.prog 106 #[.agg #[.bool vg, .int .u64 vh, .int .u64 vl], .int .i64 y] w fun e w' => e = .returned (.int .i64 r) ∧ Below w.heap.size w w' := by
 obtain ⟨g, hg, hc⟩ := wcrossed_any a b c d a0 a1 b0 b1 c0 c1 d0 d1
 exact ⟨g, _, _, hc, fun w => wover_any g (a * b - c * d) y r w hg y0 y1 r0 r1 h⟩

set_option maxRecDepth 100000 in
set_option maxHeartbeats 16000000 in
theorem pivot_any (B0 tb rb Cb bb sb m n wd : Nat) (pa pb : Option Addr) (pc pd : Nat) (G C : Nat → Nat) (E P : Nat → Nat → Int) (β sg : Nat → Int) (D : Int) (r s : Nat) (w : World) (hB0 : B0 ≤ w.heap.size) (hS : TSt B0 w tb rb Cb bb sb m n wd pa pb pc pd G C E β sg D)
  (hr : r < m) (hs : s < wd) (hm : m ≤ 1000) (hwd : wd ≤ 1000) (hD0 : 0 < D) (hD1 : D ≤ 4611686018427387904)
  (hE : ∀ i j, i < m + 2 → j < wd → -4611686018427387904 ≤ E i j ∧ E i j ≤ 4611686018427387904) (hP : ∀ i j, i < m + 2 → j < wd → -4611686018427387904 ≤ P i j ∧ P i j ≤ 4611686018427387904)
  (h1 : ∀ j, P r j = E r j) (h2 : ∀ i j, i < m + 2 → j < wd → i ≠ r → P i j * D = E r s * E i j - E i s * E r j) :
  Calls Tryz.prog 90 #[.pointer (some ⟨tb, 0, none⟩), .int .i64 (r : Nat), .int .i64 (s : Nat)] w fun e w' => e = .returned (.tuple #[]) ∧ Below B0 w w' ∧ TSt B0 w' tb rb Cb bb sb m n wd pa pb pc pd G C P (setF β r s) sg (E r s) := by
 have HB0 := Lib.hid hB0
 have HE := Lib.hid hE
 have HP := Lib.hid (And.intro hP (And.intro h1 h2))
 have HS := Lib.hid hS
 have q0 := hS.t.c0
 have q1 := hS.g.top r (by omega)
 have l1 : (r : Int) < ((m + 2 : Nat) : Int) := by omega
 have l2 : (r : Int) < (m : Int) + 2 := by omega
 clear hB0 hE hP h1 h2 hS
 go_enter Tryz.func90, Tryz.ntmps90
 go_wp2_with fail
 clear q0 q1
 have S0 : Hid (TSt B0 w tb rb Cb bb sb m n wd pa pb pc pd G C (mixE r 0 0 P E) β sg D ∧ Below B0 w w) := ⟨by rw [mix_zero]; exact HS.out, Below.refl _ _⟩
 clear HS
 go_loopg [24] (m + 2) (fun g s24 wx => ∃ i : Nat, s24 = .int .i64 i ∧ g = m + 2 - i ∧ i ≤ m + 2 ∧ Hid (TSt B0 wx tb rb Cb bb sb m n wd pa pb pc pd G C (mixE r i 0 P E) β sg D ∧ Below B0 w wx))
 case atStart => exact ⟨0, rfl, rfl, Nat.zero_le _, S0⟩
 case round =>
  clear S0
  obtain ⟨i, rfl, rfl, hi, S⟩ := hrel
  rename World => W2
  by_cases hlt : i < m + 2
  ·have wk : IntKind.i64.wrap ((i : Int) + 1) = ((i + 1 : Nat) : Int) := by rw [IntWalk.i64_in _ (by omega)]; omega
   have p1 := S.out.1.g.top i hlt
   have l3 : (i : Int) < ((m + 2 : Nat) : Int) := by omega
   have l4 : (i : Int) < (m : Int) + 2 := by omega
   by_cases e : i = r
   ·subst e
    go_wp2_with fail
    go_roundg (m + 2 - (i + 1))
    case measure => omega
    case rel => exact ⟨i + 1, rfl, rfl, by omega, by rw [mix_skip]; exact S.out.1, S.out.2⟩
   ·have ne : ¬ ((i : Int) = (r : Int)) := by omega
    have p3 := S.out.1.g.cell i s hlt hs
    rw [mix_at r i 0 s P E (Nat.zero_le _)] at p3
    obtain ⟨f, hf⟩ : ∃ f, E i s = f := ⟨_, rfl⟩
    rw [hf] at p3
    have HF := Lib.hid hf
    have HNE := Lib.hid e
    clear hf e
    go_wp2_with fail
    clear p1 p3 ne l3 l4
    generalize ((i : Int) == (r : Int)) = tbb
    go_loopg [38] wd (fun g s38 wx => ∃ j : Nat, s38 = .int .i64 j ∧ g = wd - j ∧ j ≤ wd ∧ Hid (TSt B0 wx tb rb Cb bb sb m n wd pa pb pc pd G C (mixE r i j P E) β sg D ∧ Below B0 w wx))
    case atStart => exact ⟨0, rfl, rfl, Nat.zero_le _, S⟩
    case round =>
     clear S
     obtain ⟨j, rfl, rfl, hj, S⟩ := hrel
     rename World => W3
     by_cases hltj : j < wd
     ·have wkj : IntKind.i64.wrap ((j : Int) + 1) = ((j + 1 : Nat) : Int) := by rw [IntWalk.i64_in _ (by omega)]; omega
      have LA : Hid (W3.cell? ⟨G r, s, none⟩ = some (.int .i64 (E r s)) ∧ G r < W3.heap.size) := ⟨by rw [S.out.1.g.cell r s (by omega) hs, mix_own], (S.out.1.g.row r (by omega)).2.1⟩
      have LB : Hid (W3.cell? ⟨G i, j, none⟩ = some (.int .i64 (E i j)) ∧ G i < W3.heap.size) := ⟨by rw [S.out.1.g.cell i j hlt hltj, mix_at r i j j P E (Nat.le_refl _)], (S.out.1.g.row i hlt).2.1⟩
      have LD : Hid (W3.cell? ⟨G r, j, none⟩ = some (.int .i64 (E r j)) ∧ G r < W3.heap.size) := ⟨by rw [S.out.1.g.cell r j (by omega) hltj, mix_own], (S.out.1.g.row r (by omega)).2.1⟩
      have LL : Hid (W3.cell? ⟨tb, 3, none⟩ = some (.int .i64 D) ∧ tb < W3.heap.size) := ⟨S.out.1.t.c3, S.out.1.t.hb⟩
      have LF : Hid (W3.frozen? ⟨G i, j, none⟩ = false) := S.out.1.g.fz i j hlt hltj
      have g1 := HE.out r s (by omega) hs
      have g2 := HE.out i j hlt hltj
      have g3 := HE.out i s hlt hs
      have g4 := HE.out r j (by omega) hltj
      have g5 := HP.out.1 i j hlt hltj
      rw [HF.out] at g3
      have CC := wcross_pair (E r s) (E i j) f (E r j) D (P i j) g1.1 g1.2 g2.1 g2.2 g3.1 g3.2 g4.1 g4.2 hD0 hD1 g5.1 g5.2 (by rw [← HF.out]; exact HP.out.2.2 i j hlt hltj HNE.out)
      clear g1 g2 g3 g4 g5
      obtain ⟨va, hva⟩ : ∃ x, E r s = x := ⟨_, rfl⟩
      obtain ⟨vb, hvb⟩ : ∃ x, E i j = x := ⟨_, rfl⟩
      obtain ⟨vd, hvd⟩ : ∃ x, E r j = x := ⟨_, rfl⟩
      obtain ⟨q, hq⟩ : ∃ x, P i j = x := ⟨_, rfl⟩
      rw [hva] at LA
      rw [hvb] at LB
      rw [hvd] at LD
      rw [hva, hvb, hvd, hq] at CC
      have HQ := Lib.hid hq
      clear hva hvb hvd hq
      obtain ⟨vg, vh, vl, CX0, CO0⟩ := CC
      have CX := fun w => Lib.hid (CX0 w)
      have CO := fun w => Lib.hid (CO0 w)
      clear CX0 CO0
      have q3 := LB.out.1
      go_upto_region 9 with fail
      clear q3
      refine wp_region_each (fun L A W => ∃ (v : Nat → Value), A = ⟨#[_, _, _, _, _, _, _, _, _, _, _, _, _, _, _, _, _, _, _, _, _, _, _, _, _, _, _, _, _, _, _, _, _, _, _, _, _, _, _, _, _, _, _, v 43, v 44, v 45, v 46, v 47, v 48, v 49, v 50, v 51, v 52, v 53, v 54, v 55, v 56, v 57, v 58, v 59, v 60, v 61, _, _, _, _, _, _, _, _, _, _, _, _, _, _, _, _], []⟩ ∧ PivR tb i j r s wd G C va vb vd f D q vg vh vl W3 L v W) (by kernel_rfl) (by kernel_rfl) ⟨fun jz => if jz = 43 then u43 else if jz = 44 then u44 else if jz = 45 then u45 else if jz = 46 then u46 else if jz = 47 then u47 else if jz = 48 then u48 else if jz = 49 then u49 else if jz = 50 then u50 else if jz = 51 then u51 else if jz = 52 then u52 else if jz = 53 then u53 else if jz = 54 then u54 else if jz = 55 then u55 else if jz = 56 then u56 else if jz = 57 then u57 else if jz = 58 then u58 else if jz = 59 then u59 else if jz = 60 then u60 else if jz = 61 then u61 else undef, rfl, ⟨(fun _ => Below.drew (Below.refl _ _)), Had.none, Had.none, Had.none, Had.none, Had.none, Had.none, Had.none, Had.none, Had.none, Had.none, Had.none, Had.none, Had.none, Had.none, Had.none, Had.none, Had.none, Had.none, Had.none, Had.none, Had.none, Had.none, Had.none, Had.none, Had.none, Had.none, Had.none, Had.none, Had.none, Had.none, Had.none⟩⟩ (rs := [0, 1, 2, 3, 4, 5, 6, 7, 8, 9, 10, 11, 12, 13, 14, 15, 16, 17, 18, 19]) (by kernel_rfl) ?_ ?_
      ·refine EachOf.cons [] rfl (by kernel_rfl) ?_ ?_
       ·rintro L A W ⟨v, rfl, hR⟩ hi hw K hK
        have hk : L 19 = false := hR.w19.not hi rfl
        go_simp
        refine hK.out _ _ ?_
        exact ⟨(fun jz => if jz = 43 then .slice (some ⟨G i, 0, none⟩) (wd) (C i) else v jz), rfl, ⟨(fun h => hR.st (upd_false h)), hR.s1.k, hR.w4.o, hR.w5.o, hR.w10.o, hR.w11.o, hR.w12.o, hR.w14.o, hR.w15.o, hR.w16.o, hR.w17.o, hR.w18.o, hR.w19.o, (fun _ => rfl), hR.f1.k, hR.f2.k, hR.f3.k, hR.f4.k, hR.f5.k, hR.f6.k, hR.f7.k, hR.f8.k, hR.f9.k, hR.f10.k, hR.f11.k, hR.f12.k, hR.f13.k, hR.f14.k, hR.f15.k, hR.f16.k, hR.f17.k, hR.f18.k⟩⟩
       refine EachOf.cons [] rfl (by kernel_rfl) ?_ ?_
       ·rintro L A W ⟨v, rfl, hR⟩ hi hw K hK
        have hk : L 19 = false := hR.w19.not hi rfl
        go_simp
        refine hK.out _ _ ?_
        exact ⟨(fun jz => if jz = 44 then .int .i64 (j : Int) else v jz), rfl, ⟨(fun h => hR.st (upd_false h)), hR.s1.k, hR.w4.o, hR.w5.o, hR.w10.o, hR.w11.o, hR.w12.o, hR.w14.o, hR.w15.o, hR.w16.o, hR.w17.o, hR.w18.o, hR.w19.o, hR.f0.k, (fun _ => rfl), hR.f2.k, hR.f3.k, hR.f4.k, hR.f5.k, hR.f6.k, hR.f7.k, hR.f8.k, hR.f9.k, hR.f10.k, hR.f11.k, hR.f12.k, hR.f13.k, hR.f14.k, hR.f15.k, hR.f16.k, hR.f17.k, hR.f18.k⟩⟩
       refine EachOf.cons [] rfl (by kernel_rfl) ?_ ?_
       ·rintro L A W ⟨v, rfl, hR⟩ hi hw K hK
        have hk : L 19 = false := hR.w19.not hi rfl
        go_simp
        refine hK.out _ _ ?_
        exact ⟨(fun jz => if jz = 45 then .slice (some ⟨G r, 0, none⟩) (wd) (C r) else v jz), rfl, ⟨(fun h => hR.st (upd_false h)), hR.s1.k, hR.w4.o, hR.w5.o, hR.w10.o, hR.w11.o, hR.w12.o, hR.w14.o, hR.w15.o, hR.w16.o, hR.w17.o, hR.w18.o, hR.w19.o, hR.f0.k, hR.f1.k, (fun _ => rfl), hR.f3.k, hR.f4.k, hR.f5.k, hR.f6.k, hR.f7.k, hR.f8.k, hR.f9.k, hR.f10.k, hR.f11.k, hR.f12.k, hR.f13.k, hR.f14.k, hR.f15.k, hR.f16.k, hR.f17.k, hR.f18.k⟩⟩
       refine EachOf.cons [] rfl (by kernel_rfl) ?_ ?_
       ·rintro L A W ⟨v, rfl, hR⟩ hi hw K hK
        have hk : L 19 = false := hR.w19.not hi rfl
        go_simp
        refine hK.out _ _ ?_
        exact ⟨(fun jz => if jz = 46 then .int .i64 (s : Int) else v jz), rfl, ⟨(fun h => hR.st (upd_false h)), hR.s1.k, hR.w4.o, hR.w5.o, hR.w10.o, hR.w11.o, hR.w12.o, hR.w14.o, hR.w15.o, hR.w16.o, hR.w17.o, hR.w18.o, hR.w19.o, hR.f0.k, hR.f1.k, hR.f2.k, (fun _ => rfl), hR.f4.k, hR.f5.k, hR.f6.k, hR.f7.k, hR.f8.k, hR.f9.k, hR.f10.k, hR.f11.k, hR.f12.k, hR.f13.k, hR.f14.k, hR.f15.k, hR.f16.k, hR.f17.k, hR.f18.k⟩⟩
       refine EachOf.cons [2, 3] rfl (by kernel_rfl) ?_ ?_
       ·rintro L A W ⟨v, rfl, hR⟩ hi hw K hK
        have hk : L 19 = false := hR.w19.not hi rfl
        have e2 := hR.f2 (hw 2 (by simp))
        have e3 := hR.f3 (hw 3 (by simp))
        simp only [e2, e3]
        clear e2 e3
        go_simp
        refine hK.out _ _ ?_
        exact ⟨(fun jz => if jz = 45 then .slice (some ⟨G r, 0, none⟩) (wd) (C r) else if jz = 46 then .int .i64 (s : Int) else if jz = 47 then .pointer (some ⟨G r, s, none⟩) else v jz), rfl, ⟨(fun h => hR.st (upd_false h)), hR.s1.k, (fun _ j hj => upd_on (hw j hj)), hR.w5.o, hR.w10.o, hR.w11.o, hR.w12.o, hR.w14.o, hR.w15.o, hR.w16.o, hR.w17.o, hR.w18.o, hR.w19.o, hR.f0.k, hR.f1.k, (fun _ => rfl), (fun _ => rfl), (fun _ => rfl), hR.f5.k, hR.f6.k, hR.f7.k, hR.f8.k, hR.f9.k, hR.f10.k, hR.f11.k, hR.f12.k, hR.f13.k, hR.f14.k, hR.f15.k, hR.f16.k, hR.f17.k, hR.f18.k⟩⟩
       refine EachOf.cons [4] rfl (by kernel_rfl) ?_ ?_
       ·rintro L A W ⟨v, rfl, hR⟩ hi hw K hK
        have hk : L 19 = false := hR.w19.not hi rfl
        have e4 := hR.f4 (hw 4 (by simp))
        simp only [e4]
        clear e4
        have q0 := ((hR.st hk).cell (p := ⟨G r, s, none⟩) LA.out.2).trans LA.out.1
        go_simp
        refine hK.out _ _ ?_
        exact ⟨(fun jz => if jz = 47 then .pointer (some ⟨G r, s, none⟩) else if jz = 48 then .int .i64 va else v jz), rfl, ⟨(fun h => hR.st (upd_false h)), hR.s1.k, hR.w4.o, (fun _ j hj => upd_on (hw j hj)), hR.w10.o, hR.w11.o, hR.w12.o, hR.w14.o, hR.w15.o, hR.w16.o, hR.w17.o, hR.w18.o, hR.w19.o, hR.f0.k, hR.f1.k, hR.f2.k, hR.f3.k, (fun _ => rfl), (fun _ => rfl), hR.f6.k, hR.f7.k, hR.f8.k, hR.f9.k, hR.f10.k, hR.f11.k, hR.f12.k, hR.f13.k, hR.f14.k, hR.f15.k, hR.f16.k, hR.f17.k, hR.f18.k⟩⟩
       refine EachOf.cons [] rfl (by kernel_rfl) ?_ ?_
       ·rintro L A W ⟨v, rfl, hR⟩ hi hw K hK
        have hk : L 19 = false := hR.w19.not hi rfl
        go_simp
        refine hK.out _ _ ?_
        exact ⟨(fun jz => if jz = 49 then .int .i64 vb else v jz), rfl, ⟨(fun h => hR.st (upd_false h)), hR.s1.k, hR.w4.o, hR.w5.o, hR.w10.o, hR.w11.o, hR.w12.o, hR.w14.o, hR.w15.o, hR.w16.o, hR.w17.o, hR.w18.o, hR.w19.o, hR.f0.k, hR.f1.k, hR.f2.k, hR.f3.k, hR.f4.k, hR.f5.k, (fun _ => rfl), hR.f7.k, hR.f8.k, hR.f9.k, hR.f10.k, hR.f11.k, hR.f12.k, hR.f13.k, hR.f14.k, hR.f15.k, hR.f16.k, hR.f17.k, hR.f18.k⟩⟩
       refine EachOf.cons [] rfl (by kernel_rfl) ?_ ?_
       ·rintro L A W ⟨v, rfl, hR⟩ hi hw K hK
        have hk : L 19 = false := hR.w19.not hi rfl
        go_simp
        refine hK.out _ _ ?_
        exact ⟨(fun jz => if jz = 50 then .int .i64 f else v jz), rfl, ⟨(fun h => hR.st (upd_false h)), hR.s1.k, hR.w4.o, hR.w5.o, hR.w10.o, hR.w11.o, hR.w12.o, hR.w14.o, hR.w15.o, hR.w16.o, hR.w17.o, hR.w18.o, hR.w19.o, hR.f0.k, hR.f1.k, hR.f2.k, hR.f3.k, hR.f4.k, hR.f5.k, hR.f6.k, (fun _ => rfl), hR.f8.k, hR.f9.k, hR.f10.k, hR.f11.k, hR.f12.k, hR.f13.k, hR.f14.k, hR.f15.k, hR.f16.k, hR.f17.k, hR.f18.k⟩⟩
       refine EachOf.cons [] rfl (by kernel_rfl) ?_ ?_
       ·rintro L A W ⟨v, rfl, hR⟩ hi hw K hK
        have hk : L 19 = false := hR.w19.not hi rfl
        go_simp
        refine hK.out _ _ ?_
        exact ⟨(fun jz => if jz = 51 then .slice (some ⟨G r, 0, none⟩) (wd) (C r) else v jz), rfl, ⟨(fun h => hR.st (upd_false h)), hR.s1.k, hR.w4.o, hR.w5.o, hR.w10.o, hR.w11.o, hR.w12.o, hR.w14.o, hR.w15.o, hR.w16.o, hR.w17.o, hR.w18.o, hR.w19.o, hR.f0.k, hR.f1.k, hR.f2.k, hR.f3.k, hR.f4.k, hR.f5.k, hR.f6.k, hR.f7.k, (fun _ => rfl), hR.f9.k, hR.f10.k, hR.f11.k, hR.f12.k, hR.f13.k, hR.f14.k, hR.f15.k, hR.f16.k, hR.f17.k, hR.f18.k⟩⟩
       refine EachOf.cons [] rfl (by kernel_rfl) ?_ ?_
       ·rintro L A W ⟨v, rfl, hR⟩ hi hw K hK
        have hk : L 19 = false := hR.w19.not hi rfl
        go_simp
        refine hK.out _ _ ?_
        exact ⟨(fun jz => if jz = 52 then .int .i64 (j : Int) else v jz), rfl, ⟨(fun h => hR.st (upd_false h)), hR.s1.k, hR.w4.o, hR.w5.o, hR.w10.o, hR.w11.o, hR.w12.o, hR.w14.o, hR.w15.o, hR.w16.o, hR.w17.o, hR.w18.o, hR.w19.o, hR.f0.k, hR.f1.k, hR.f2.k, hR.f3.k, hR.f4.k, hR.f5.k, hR.f6.k, hR.f7.k, hR.f8.k, (fun _ => rfl), hR.f10.k, hR.f11.k, hR.f12.k, hR.f13.k, hR.f14.k, hR.f15.k, hR.f16.k, hR.f17.k, hR.f18.k⟩⟩
       refine EachOf.cons [8, 9] rfl (by kernel_rfl) ?_ ?_
       ·rintro L A W ⟨v, rfl, hR⟩ hi hw K hK
        have hk : L 19 = false := hR.w19.not hi rfl
        have e8 := hR.f8 (hw 8 (by simp))
        have e9 := hR.f9 (hw 9 (by simp))
        simp only [e8, e9]
        clear e8 e9
        go_simp
        refine hK.out _ _ ?_
        exact ⟨(fun jz => if jz = 51 then .slice (some ⟨G r, 0, none⟩) (wd) (C r) else if jz = 52 then .int .i64 (j : Int) else if jz = 53 then .pointer (some ⟨G r, j, none⟩) else v jz), rfl, ⟨(fun h => hR.st (upd_false h)), hR.s1.k, hR.w4.o, hR.w5.o, (fun _ j hj => upd_on (hw j hj)), hR.w11.o, hR.w12.o, hR.w14.o, hR.w15.o, hR.w16.o, hR.w17.o, hR.w18.o, hR.w19.o, hR.f0.k, hR.f1.k, hR.f2.k, hR.f3.k, hR.f4.k, hR.f5.k, hR.f6.k, hR.f7.k, (fun _ => rfl), (fun _ => rfl), (fun _ => rfl), hR.f11.k, hR.f12.k, hR.f13.k, hR.f14.k, hR.f15.k, hR.f16.k, hR.f17.k, hR.f18.k⟩⟩
       refine EachOf.cons [10] rfl (by kernel_rfl) ?_ ?_
       ·rintro L A W ⟨v, rfl, hR⟩ hi hw K hK
        have hk : L 19 = false := hR.w19.not hi rfl
        have e10 := hR.f10 (hw 10 (by simp))
        simp only [e10]
        clear e10
        have q0 := ((hR.st hk).cell (p := ⟨G r, j, none⟩) LD.out.2).trans LD.out.1
        go_simp
        refine hK.out _ _ ?_
        exact ⟨(fun jz => if jz = 53 then .pointer (some ⟨G r, j, none⟩) else if jz = 54 then .int .i64 vd else v jz), rfl, ⟨(fun h => hR.st (upd_false h)), hR.s1.k, hR.w4.o, hR.w5.o, hR.w10.o, (fun _ j hj => upd_on (hw j hj)), hR.w12.o, hR.w14.o, hR.w15.o, hR.w16.o, hR.w17.o, hR.w18.o, hR.w19.o, hR.f0.k, hR.f1.k, hR.f2.k, hR.f3.k, hR.f4.k, hR.f5.k, hR.f6.k, hR.f7.k, hR.f8.k, hR.f9.k, (fun _ => rfl), (fun _ => rfl), hR.f12.k, hR.f13.k, hR.f14.k, hR.f15.k, hR.f16.k, hR.f17.k, hR.f18.k⟩⟩
       refine EachOf.cons [5, 6, 7, 11] rfl (by kernel_rfl) ?_ ?_
       ·rintro L A W ⟨v, rfl, hR⟩ hi hw K hK
        have hk : L 19 = false := hR.w19.not hi rfl
        have e5 := hR.f5 (hw 5 (by simp))
        have e6 := hR.f6 (hw 6 (by simp))
        have e7 := hR.f7 (hw 7 (by simp))
        have e11 := hR.f11 (hw 11 (by simp))
        simp only [e5, e6, e7, e11]
        clear e5 e6 e7 e11
        go_simp
        go_at_call 105
        (with_reducible refine ((CX _).out).mono ?_)
        rintro e w2 ⟨rfl, hb⟩
        go_simp
        refine hK.out _ _ ?_
        exact ⟨(fun jz => if jz = 48 then .int .i64 va else if jz = 49 then .int .i64 vb else if jz = 50 then .int .i64 f else if jz = 54 then .int .i64 vd else if jz = 55 then .agg #[.bool vg, .int .u64 vh, .int .u64 vl] else v jz), rfl, ⟨(fun _ => below_on (hR.st hk) hb), (fun h => absurd (upd_back h rfl) (by simp [hk])), hR.w4.o, hR.w5.o, hR.w10.o, hR.w11.o, (fun _ j hj => upd_on (hw j hj)), hR.w14.o, hR.w15.o, hR.w16.o, hR.w17.o, hR.w18.o, hR.w19.o, hR.f0.k, hR.f1.k, hR.f2.k, hR.f3.k, hR.f4.k, (fun _ => rfl), (fun _ => rfl), (fun _ => rfl), hR.f8.k, hR.f9.k, hR.f10.k, (fun _ => rfl), (fun _ => rfl), hR.f13.k, hR.f14.k, hR.f15.k, hR.f16.k, hR.f17.k, hR.f18.k⟩⟩
       refine EachOf.cons [] rfl (by kernel_rfl) ?_ ?_
       ·rintro L A W ⟨v, rfl, hR⟩ hi hw K hK
        have hk : L 19 = false := hR.w19.not hi rfl
        go_simp
        refine hK.out _ _ ?_
        exact ⟨(fun jz => if jz = 56 then .pointer (some ⟨tb, 0, none⟩) else v jz), rfl, ⟨(fun h => hR.st (upd_false h)), hR.s1.k, hR.w4.o, hR.w5.o, hR.w10.o, hR.w11.o, hR.w12.o, hR.w14.o, hR.w15.o, hR.w16.o, hR.w17.o, hR.w18.o, hR.w19.o, hR.f0.k, hR.f1.k, hR.f2.k, hR.f3.k, hR.f4.k, hR.f5.k, hR.f6.k, hR.f7.k, hR.f8.k, hR.f9.k, hR.f10.k, hR.f11.k, hR.f12.k, (fun _ => rfl), hR.f14.k, hR.f15.k, hR.f16.k, hR.f17.k, hR.f18.k⟩⟩
       refine EachOf.cons [13] rfl (by kernel_rfl) ?_ ?_
       ·rintro L A W ⟨v, rfl, hR⟩ hi hw K hK
        have hk : L 19 = false := hR.w19.not hi rfl
        have e13 := hR.f13 (hw 13 (by simp))
        simp only [e13]
        clear e13
        go_simp
        refine hK.out _ _ ?_
        exact ⟨(fun jz => if jz = 56 then .pointer (some ⟨tb, 0, none⟩) else if jz = 57 then .pointer (some ⟨tb, 0, none⟩) else v jz), rfl, ⟨(fun h => hR.st (upd_false h)), hR.s1.k, hR.w4.o, hR.w5.o, hR.w10.o, hR.w11.o, hR.w12.o, (fun _ j hj => upd_on (hw j hj)), hR.w15.o, hR.w16.o, hR.w17.o, hR.w18.o, hR.w19.o, hR.f0.k, hR.f1.k, hR.f2.k, hR.f3.k, hR.f4.k, hR.f5.k, hR.f6.k, hR.f7.k, hR.f8.k, hR.f9.k, hR.f10.k, hR.f11.k, hR.f12.k, (fun _ => rfl), (fun _ => rfl), hR.f15.k, hR.f16.k, hR.f17.k, hR.f18.k⟩⟩
       refine EachOf.cons [14] rfl (by kernel_rfl) ?_ ?_
       ·rintro L A W ⟨v, rfl, hR⟩ hi hw K hK
        have hk : L 19 = false := hR.w19.not hi rfl
        have e14 := hR.f14 (hw 14 (by simp))
        simp only [e14]
        clear e14
        go_simp
        refine hK.out _ _ ?_
        exact ⟨(fun jz => if jz = 57 then .pointer (some ⟨tb, 0, none⟩) else if jz = 58 then .pointer (some ⟨tb, 3, none⟩) else v jz), rfl, ⟨(fun h => hR.st (upd_false h)), hR.s1.k, hR.w4.o, hR.w5.o, hR.w10.o, hR.w11.o, hR.w12.o, hR.w14.o, (fun _ j hj => upd_on (hw j hj)), hR.w16.o, hR.w17.o, hR.w18.o, hR.w19.o, hR.f0.k, hR.f1.k, hR.f2.k, hR.f3.k, hR.f4.k, hR.f5.k, hR.f6.k, hR.f7.k, hR.f8.k, hR.f9.k, hR.f10.k, hR.f11.k, hR.f12.k, hR.f13.k, (fun _ => rfl), (fun _ => rfl), hR.f16.k, hR.f17.k, hR.f18.k⟩⟩
       refine EachOf.cons [15] rfl (by kernel_rfl) ?_ ?_
       ·rintro L A W ⟨v, rfl, hR⟩ hi hw K hK
        have hk : L 19 = false := hR.w19.not hi rfl
        have e15 := hR.f15 (hw 15 (by simp))
        simp only [e15]
        clear e15
        have q0 := ((hR.st hk).cell (p := ⟨tb, 3, none⟩) LL.out.2).trans LL.out.1
        go_simp
        refine hK.out _ _ ?_
        exact ⟨(fun jz => if jz = 58 then .pointer (some ⟨tb, 3, none⟩) else if jz = 59 then .int .i64 D else v jz), rfl, ⟨(fun h => hR.st (upd_false h)), hR.s1.k, hR.w4.o, hR.w5.o, hR.w10.o, hR.w11.o, hR.w12.o, hR.w14.o, hR.w15.o, (fun _ j hj => upd_on (hw j hj)), hR.w17.o, hR.w18.o, hR.w19.o, hR.f0.k, hR.f1.k, hR.f2.k, hR.f3.k, hR.f4.k, hR.f5.k, hR.f6.k, hR.f7.k, hR.f8.k, hR.f9.k, hR.f10.k, hR.f11.k, hR.f12.k, hR.f13.k, hR.f14.k, (fun _ => rfl), (fun _ => rfl), hR.f17.k, hR.f18.k⟩⟩
       refine EachOf.cons [12, 16] rfl (by kernel_rfl) ?_ ?_
       ·rintro L A W ⟨v, rfl, hR⟩ hi hw K hK
        have hk : L 19 = false := hR.w19.not hi rfl
        have e12 := hR.f12 (hw 12 (by simp))
        have e16 := hR.f16 (hw 16 (by simp))
        simp only [e12, e16]
        clear e12 e16
        go_simp
        go_at_call 106
        (with_reducible refine ((CO _).out).mono ?_)
        rintro e w2 ⟨rfl, hb⟩
        go_simp
        refine hK.out _ _ ?_
        exact ⟨(fun jz => if jz = 55 then .agg #[.bool vg, .int .u64 vh, .int .u64 vl] else if jz = 59 then .int .i64 D else if jz = 60 then .int .i64 q else v jz), rfl, ⟨(fun _ => below_on (hR.st hk) hb), (fun h => absurd (upd_back h rfl) (by simp [hk])), hR.w4.o, hR.w5.o, hR.w10.o, hR.w11.o, hR.w12.o, hR.w14.o, hR.w15.o, hR.w16.o, (fun _ j hj => upd_on (hw j hj)), hR.w18.o, hR.w19.o, hR.f0.k, hR.f1.k, hR.f2.k, hR.f3.k, hR.f4.k, hR.f5.k, hR.f6.k, hR.f7.k, hR.f8.k, hR.f9.k, hR.f10.k, hR.f11.k, (fun _ => rfl), hR.f13.k, hR.f14.k, hR.f15.k, (fun _ => rfl), (fun _ => rfl), hR.f18.k⟩⟩
       refine EachOf.cons [0, 1] rfl (by kernel_rfl) ?_ ?_
       ·rintro L A W ⟨v, rfl, hR⟩ hi hw K hK
        have hk : L 19 = false := hR.w19.not hi rfl
        have e0 := hR.f0 (hw 0 (by simp))
        have e1 := hR.f1 (hw 1 (by simp))
        simp only [e0, e1]
        clear e0 e1
        go_simp
        refine hK.out _ _ ?_
        exact ⟨(fun jz => if jz = 43 then .slice (some ⟨G i, 0, none⟩) (wd) (C i) else if jz = 44 then .int .i64 (j : Int) else if jz = 61 then .pointer (some ⟨G i, j, none⟩) else v jz), rfl, ⟨(fun h => hR.st (upd_false h)), hR.s1.k, hR.w4.o, hR.w5.o, hR.w10.o, hR.w11.o, hR.w12.o, hR.w14.o, hR.w15.o, hR.w16.o, hR.w17.o, (fun _ j hj => upd_on (hw j hj)), hR.w19.o, (fun _ => rfl), (fun _ => rfl), hR.f2.k, hR.f3.k, hR.f4.k, hR.f5.k, hR.f6.k, hR.f7.k, hR.f8.k, hR.f9.k, hR.f10.k, hR.f11.k, hR.f12.k, hR.f13.k, hR.f14.k, hR.f15.k, hR.f16.k, hR.f17.k, (fun _ => rfl)⟩⟩
       refine EachOf.cons [0, 1, 2, 3, 4, 5, 6, 7, 8, 9, 10, 11, 12, 13, 14, 15, 16, 17, 18] rfl (by kernel_rfl) ?_ ?_
       ·rintro L A W ⟨v, rfl, hR⟩ hi hw K hK
        have e18 := hR.f18 (hw 18 (by simp))
        have e17 := hR.f17 (hw 17 (by simp))
        simp only [e18, e17]
        clear e18 e17
        have q1 := (hR.st hi).cell (p := ⟨G i, j, none⟩) LB.out.2
        rw [LB.out.1] at q1
        have q2 := (hR.st hi).frozen (p := ⟨G i, j, none⟩) LB.out.2
        rw [LF.out] at q2
        go_simp
        refine hK.out _ _ ?_
        exact ⟨(fun jz => if jz = 61 then .pointer (some ⟨G i, j, none⟩) else if jz = 60 then .int .i64 q else v jz), rfl, ⟨(fun h => by simp [upd_self] at h), (fun _ => ⟨W, hR.st hi, rfl⟩), hR.w4.o, hR.w5.o, hR.w10.o, hR.w11.o, hR.w12.o, hR.w14.o, hR.w15.o, hR.w16.o, hR.w17.o, hR.w18.o, (fun _ j hj => upd_on (hw j hj)), hR.f0.k, hR.f1.k, hR.f2.k, hR.f3.k, hR.f4.k, hR.f5.k, hR.f6.k, hR.f7.k, hR.f8.k, hR.f9.k, hR.f10.k, hR.f11.k, hR.f12.k, hR.f13.k, hR.f14.k, hR.f15.k, hR.f16.k, (fun _ => rfl), (fun _ => rfl)⟩⟩
       exact EachOf.nil
      rintro L A W ⟨v, rfl, hR⟩ hL
      obtain ⟨W4, hb4, hW⟩ := hR.s1 (hL 19 (by simp))
      have T1 := (S.out.1.on hb4).set i j hlt hltj q
      rw [← HQ.out, mix_set r i j P E HNE.out, HQ.out, ← hW] at T1
      have T3 : Below B0 w W := by
       rw [hW]
       exact (below_on2 S.out.2 HB0.out hb4).setCell (S.out.1.g.row i hlt).1 _
      have T := Lib.hid (And.intro T1 T3)
      clear T1 T3 hW hb4 W4 hR hL LA LB LD LL LF CX CO S
      go_wp2_with fail
      go_roundg (wd - (j + 1))
      case measure => omega
      case rel => exact ⟨j + 1, rfl, rfl, by omega, T⟩
     ·have e : j = wd := by omega
      have T : Hid (TSt B0 W3 tb rb Cb bb sb m n wd pa pb pc pd G C (mixE r (i + 1) 0 P E) β sg D ∧ Below B0 w W3) := ⟨S.out.1.congr fun a c ha hc => by rw [e]; exact mix_row r i wd a c P E hc, S.out.2⟩
      clear S
      subst e
      go_wp2_with fail
      go_roundg (m + 2 - (i + 1))
      case measure => omega
      case rel => exact ⟨i + 1, rfl, rfl, by omega, T⟩
  ·have e : i = m + 2 := by omega
   subst e
   have T1 : Hid (TSt B0 W2 tb rb Cb bb sb m n wd pa pb pc pd G C P β sg D) := S.out.1.congr fun a c ha hc => mix_end r (m + 2) a c P E (HP.out.2.1 c) ha
   have T2 := Lib.hid S.out.2
   clear S
   have p1 := T1.out.g.cell r s (by omega) hs
   rw [HP.out.2.1 s] at p1
   have p2 := T1.out.t.c3
   have p3 := T1.out.t.fz 3
   have p4 := T1.out.t.c1
   have p5 := T1.out.ba.cell r hr
   have p6 := T1.out.ba.fz r hr
   have p7 := (T1.out.n3 (by omega)).1
   rw [T1.out.ba.ad (by omega)] at p4
   go_wp2_with fail
   go_end0
   exact ⟨rfl, (T2.out.setCell T1.out.le _).setCell (T1.out.ba.lo (by omega)) _, (T1.out.under _).basis r hr s⟩

end Go.Proofs.YtggpdhdbeokkcaaGreat
