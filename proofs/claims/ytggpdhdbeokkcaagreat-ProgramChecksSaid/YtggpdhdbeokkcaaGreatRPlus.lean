/- The sum of valid fractions, as package ratio reckons it. -/
import Derived.Test.YtggpdhdbeokkcaaGreatRSum
import Derived.Deep.DeepCutAuto
namespace Go.Proofs.YtggpdhdbeokkcaaGreat
set_option linter.unusedVariables false
open Go.RowKit Go.Shelf

theorem afterZ {W w1 : World} (hb : Below W.heap.size W w1) : (∀ b o, b < W.heap.size → w1.cell? ⟨b, o, none⟩ = W.cell? ⟨b, o, none⟩) ∧ (∀ b o, b < W.heap.size → w1.frozen? ⟨b, o, none⟩ = W.frozen? ⟨b, o, none⟩) ∧ (∀ n, n < W.heap.size → n < w1.heap.size) :=
 ⟨fun b o hh => hb.cell (p := ⟨b, o, none⟩) hh, fun b o hh => hb.frozen (p := ⟨b, o, none⟩) hh, fun n h => Nat.lt_of_lt_of_le h hb.size⟩

theorem two0 {W : World} {g : Nat} {x y : Value} (h : (W.cell? ⟨g, 0, none⟩).isSome = true) : ((W.setCell ⟨g, 0, none⟩ x).setCell ⟨g, 1, none⟩ y).cell? ⟨g, 0, none⟩ = some x := by
 rw [World.cell?_setCell_other _ _ _ _ (by simp), World.cell?_setCell_same' W _ x h]
theorem two1 {W : World} {g : Nat} {x y : Value} (h : (W.cell? ⟨g, 1, none⟩).isSome = true) : ((W.setCell ⟨g, 0, none⟩ x).setCell ⟨g, 1, none⟩ y).cell? ⟨g, 1, none⟩ = some y := by
 rw [World.cell?_setCell_same' _ _ _ (by rw [World.cell?_setCell_other _ _ _ _ (by simp)]; exact h)]

theorem keepT {w W w2 : World} {v0 v1 v2 v3 c0 c1 : Value} {g : Nat} (h : (W.cell? ⟨w.heap.size, 0, none⟩ = some v0 ∧ W.cell? ⟨w.heap.size, 1, none⟩ = some v1 ∧ W.cell? ⟨w.heap.size + 1, 0, none⟩ = some v2 ∧ W.cell? ⟨w.heap.size + 1, 1, none⟩ = some v3 ∧ Below w.heap.size w W ∧ w.heap.size + 2 < W.heap.size ∧
   (W.cell? ⟨w.heap.size + 1 + 1, 0, none⟩).isSome = true ∧ (W.cell? ⟨w.heap.size + 1 + 1, 1, none⟩).isSome = true ∧ W.frozen? ⟨w.heap.size + 1 + 1, 0, none⟩ = false ∧ W.frozen? ⟨w.heap.size + 1 + 1, 1, none⟩ = false) ∧ W.cell? ⟨g, 0, none⟩ = some c0 ∧ W.cell? ⟨g, 1, none⟩ = some c1 ∧ g < W.heap.size) (hb : Below W.heap.size W w2) : (w2.cell? ⟨w.heap.size, 0, none⟩ = some v0 ∧ w2.cell? ⟨w.heap.size, 1, none⟩ = some v1 ∧ w2.cell? ⟨w.heap.size + 1, 0, none⟩ = some v2 ∧ w2.cell? ⟨w.heap.size + 1, 1, none⟩ = some v3 ∧ Below w.heap.size w w2 ∧ w.heap.size + 2 < w2.heap.size ∧
   (w2.cell? ⟨w.heap.size + 1 + 1, 0, none⟩).isSome = true ∧ (w2.cell? ⟨w.heap.size + 1 + 1, 1, none⟩).isSome = true ∧ w2.frozen? ⟨w.heap.size + 1 + 1, 0, none⟩ = false ∧ w2.frozen? ⟨w.heap.size + 1 + 1, 1, none⟩ = false) ∧ w2.cell? ⟨g, 0, none⟩ = some c0 ∧ w2.cell? ⟨g, 1, none⟩ = some c1 ∧ g < w2.heap.size :=
 ⟨keepS h.1 hb, (hb.cell (p := ⟨g, 0, none⟩) h.2.2.2).trans h.2.1, (hb.cell (p := ⟨g, 1, none⟩) h.2.2.2).trans h.2.2.1, Nat.lt_of_lt_of_le h.2.2.2 hb.size⟩

theorem keepTR {w W w2 : World} {v0 v1 v2 v3 c0 c1 : Value} {g : Nat} (h : (W.cell? ⟨w.heap.size, 0, none⟩ = some v0 ∧ W.cell? ⟨w.heap.size, 1, none⟩ = some v1 ∧ W.cell? ⟨w.heap.size + 1, 0, none⟩ = some v2 ∧ W.cell? ⟨w.heap.size + 1, 1, none⟩ = some v3 ∧ Below w.heap.size w W ∧ w.heap.size + 2 < W.heap.size ∧
   (W.cell? ⟨w.heap.size + 1 + 1, 0, none⟩).isSome = true ∧ (W.cell? ⟨w.heap.size + 1 + 1, 1, none⟩).isSome = true ∧ W.frozen? ⟨w.heap.size + 1 + 1, 0, none⟩ = false ∧ W.frozen? ⟨w.heap.size + 1 + 1, 1, none⟩ = false) ∧ W.cell? ⟨g, 0, none⟩ = some c0 ∧ W.cell? ⟨g, 1, none⟩ = some c1 ∧ g < W.heap.size) (hb : Below W.heap.size W w2) : ∃ r0 r1, w2.cell? ⟨w.heap.size + 1 + 1, 0, none⟩ = some r0 ∧ w2.cell? ⟨w.heap.size + 1 + 1, 1, none⟩ = some r1 :=
 keepR h.1 hb

theorem storeT {w W : World} {v0 v1 v2 v3 c0 c1 x y : Value} {g : Nat} (h : (W.cell? ⟨w.heap.size, 0, none⟩ = some v0 ∧ W.cell? ⟨w.heap.size, 1, none⟩ = some v1 ∧ W.cell? ⟨w.heap.size + 1, 0, none⟩ = some v2 ∧ W.cell? ⟨w.heap.size + 1, 1, none⟩ = some v3 ∧ Below w.heap.size w W ∧ w.heap.size + 2 < W.heap.size ∧
   (W.cell? ⟨w.heap.size + 1 + 1, 0, none⟩).isSome = true ∧ (W.cell? ⟨w.heap.size + 1 + 1, 1, none⟩).isSome = true ∧ W.frozen? ⟨w.heap.size + 1 + 1, 0, none⟩ = false ∧ W.frozen? ⟨w.heap.size + 1 + 1, 1, none⟩ = false) ∧ W.cell? ⟨g, 0, none⟩ = some c0 ∧ W.cell? ⟨g, 1, none⟩ = some c1 ∧ g < W.heap.size) (hg : w.heap.size + 2 < g) : (((W.setCell ⟨w.heap.size + 1 + 1, 0, none⟩ x).setCell ⟨w.heap.size + 1 + 1, 1, none⟩ y).cell? ⟨w.heap.size, 0, none⟩ = some v0 ∧ ((W.setCell ⟨w.heap.size + 1 + 1, 0, none⟩ x).setCell ⟨w.heap.size + 1 + 1, 1, none⟩ y).cell? ⟨w.heap.size, 1, none⟩ = some v1 ∧ ((W.setCell ⟨w.heap.size + 1 + 1, 0, none⟩ x).setCell ⟨w.heap.size + 1 + 1, 1, none⟩ y).cell? ⟨w.heap.size + 1, 0, none⟩ = some v2 ∧ ((W.setCell ⟨w.heap.size + 1 + 1, 0, none⟩ x).setCell ⟨w.heap.size + 1 + 1, 1, none⟩ y).cell? ⟨w.heap.size + 1, 1, none⟩ = some v3 ∧ Below w.heap.size w ((W.setCell ⟨w.heap.size + 1 + 1, 0, none⟩ x).setCell ⟨w.heap.size + 1 + 1, 1, none⟩ y) ∧ w.heap.size + 2 < ((W.setCell ⟨w.heap.size + 1 + 1, 0, none⟩ x).setCell ⟨w.heap.size + 1 + 1, 1, none⟩ y).heap.size ∧
   (((W.setCell ⟨w.heap.size + 1 + 1, 0, none⟩ x).setCell ⟨w.heap.size + 1 + 1, 1, none⟩ y).cell? ⟨w.heap.size + 1 + 1, 0, none⟩).isSome = true ∧ (((W.setCell ⟨w.heap.size + 1 + 1, 0, none⟩ x).setCell ⟨w.heap.size + 1 + 1, 1, none⟩ y).cell? ⟨w.heap.size + 1 + 1, 1, none⟩).isSome = true ∧ ((W.setCell ⟨w.heap.size + 1 + 1, 0, none⟩ x).setCell ⟨w.heap.size + 1 + 1, 1, none⟩ y).frozen? ⟨w.heap.size + 1 + 1, 0, none⟩ = false ∧ ((W.setCell ⟨w.heap.size + 1 + 1, 0, none⟩ x).setCell ⟨w.heap.size + 1 + 1, 1, none⟩ y).frozen? ⟨w.heap.size + 1 + 1, 1, none⟩ = false) ∧ ((W.setCell ⟨w.heap.size + 1 + 1, 0, none⟩ x).setCell ⟨w.heap.size + 1 + 1, 1, none⟩ y).cell? ⟨g, 0, none⟩ = some c0 ∧ ((W.setCell ⟨w.heap.size + 1 + 1, 0, none⟩ x).setCell ⟨w.heap.size + 1 + 1, 1, none⟩ y).cell? ⟨g, 1, none⟩ = some c1 ∧ g < ((W.setCell ⟨w.heap.size + 1 + 1, 0, none⟩ x).setCell ⟨w.heap.size + 1 + 1, 1, none⟩ y).heap.size := by
 have far : ∀ (p : Addr) (b o : Nat) (V : World) (v : Value), p.block ≠ b → (V.setCell p v).cell? ⟨b, o, none⟩ = V.cell? ⟨b, o, none⟩ := fun p b o V v hne => World.cell?_setCell_far V p ⟨b, o, none⟩ v hne
 refine ⟨storeS h.1, ?_, ?_, by simpa using h.2.2.2⟩
 ·rw [far _ _ _ _ _ (by simp; omega), far _ _ _ _ _ (by simp; omega)]; exact h.2.1
 ·rw [far _ _ _ _ _ (by simp; omega), far _ _ _ _ _ (by simp; omega)]; exact h.2.2.1

set_option maxHeartbeats 8000000 in
theorem plus_frac (an ad bn bd : Int) (w : World) (va : Vld an ad) (vb : Vld bn bd) (n d e : Int) (h : redT (an * bd + bn * ad) (ad * bd) = (n, d, e)) :
  Calls Tryz.prog 113 #[.agg #[.int .i64 an, .int .i64 ad], .agg #[.int .i64 bn, .int .i64 bd]] w fun r w' => r = .returned (.tuple #[.agg #[.int .i64 n, .int .i64 d], .int .i64 e]) ∧ Below w.heap.size w w' := by
 obtain ⟨c, hc⟩ : ∃ c : Int, c = (Int.gcd ad bd : Nat) := ⟨_, rfl⟩
 obtain ⟨N, hN⟩ : ∃ N : Int, N = an * (bd / c) + bn * (ad / c) := ⟨_, rfl⟩
 obtain ⟨s, hs⟩ : ∃ s : Int, s = (Nat.gcd c.natAbs N.natAbs : Nat) := ⟨_, rfl⟩
 obtain ⟨c0, c1, c2, s0, s1, u0, u1, v0, v1, t0, t1, hf⟩ := plus_fit va vb hc hN hs
 rw [h] at hf
 have va1 := va.d1; have va2 := va.d2; have va3 := va.n1; have va4 := va.n2
 have vb1 := vb.d1; have vb2 := vb.d2; have vb3 := vb.n1; have vb4 := vb.n2
 have CC : ∀ w, Hid (Calls Tryz.prog 100 #[.int .i64 ad, .int .i64 bd] w fun e w' => e = .returned (.int .i64 c) ∧ ∃ k, w' = w.drewN k) := fun w => by rw [hc]; exact divisor_any ad bd w (by omega) (by omega) (by omega) (by omega)
 obtain ⟨u, hu⟩ : ∃ u, ad / c = u := ⟨_, rfl⟩
 obtain ⟨v, hv⟩ : ∃ v, bd / c = v := ⟨_, rfl⟩
 obtain ⟨t, ht⟩ : ∃ t, bd / s = t := ⟨_, rfl⟩
 rw [hu, ht] at hf
 rw [hu] at u0 u1 hN; rw [hv] at v0 v1 hN; rw [ht] at t0 t1
 have hu' : ad.tdiv c = u := by rw [Int.tdiv_eq_ediv_of_nonneg (by omega), hu]
 have hv' : bd.tdiv c = v := by rw [Int.tdiv_eq_ediv_of_nonneg (by omega), hv]
 have ht' : bd.tdiv s = t := by rw [Int.tdiv_eq_ediv_of_nonneg (by omega), ht]
 obtain ⟨b1, b2⟩ := mul_bd (a := an) (b := v) (by omega) (by omega) (by omega) (by omega)
 obtain ⟨b3, b4⟩ := mul_bd (a := bn) (b := u) (by omega) (by omega) (by omega) (by omega)
 obtain ⟨b5, b6⟩ := mul_bd (a := u) (b := t) (by omega) (by omega) (by omega) (by omega)
 have b7 := Int.mul_pos u0 t0
 have hN0 : -170141183460469231731687303715884105728 < N := by omega
 have hN1 : N < 170141183460469231731687303715884105728 := by omega
 obtain ⟨q, hq⟩ : ∃ q, N.tdiv s = q := ⟨_, rfl⟩
 rw [hq] at hf
 have hq2 : q.natAbs ≤ N.natAbs := by rw [← hq, Int.natAbs_tdiv]; exact Nat.div_le_self _ _
 have CX := fun w => Lib.hid (product_any an v w (by omega) (by omega) (by omega) (by omega))
 have CY := fun w => Lib.hid (product_any bn u w (by omega) (by omega) (by omega) (by omega))
 have CP := fun w => Lib.hid (plus_any (an * v) (bn * u) w)
 simp only [← hN] at CP
 have CR := fun w => Lib.hid (rest_any N c w hN0 hN1 c0 (by omega))
 obtain ⟨r, hr⟩ : ∃ r : Int, (N.natAbs : Int) % c = r := ⟨_, rfl⟩
 have r0 : 0 ≤ r := by rw [← hr]; exact Int.emod_nonneg _ (by omega)
 have r1 : r < c := by rw [← hr]; exact Int.emod_lt_of_pos _ c0
 simp only [hr] at CR
 have CG : ∀ w, Hid (Calls Tryz.prog 110 #[.int .u64 c, .int .u64 r] w fun e w' => e = .returned (.int .u64 s) ∧ ∃ k, w' = w.drewN k) := fun w => by
  have g := gcd_any c.natAbs r.natAbs w (by omega) (by omega)
  have e1 : r.natAbs = N.natAbs % c.natAbs := by
   rw [← hr]
   obtain ⟨C, rfl⟩ := Int.eq_ofNat_of_zero_le (show 0 ≤ c by omega)
   rw [Int.natAbs_natCast, ← Int.natCast_emod, Int.natAbs_natCast]
  rw [show ((c.natAbs : Nat) : Int) = c by omega, show ((r.natAbs : Nat) : Int) = r by omega, e1, gcd_mod, ← hs] at g
  exact g
 have CO := fun w => Lib.hid (over_any N s w hN0 hN1 s0 (by omega))
 simp only [hq] at CO
 have CU := fun w => Lib.hid (product_any u t w (by omega) (by omega) (by omega) (by omega))
 have CF := fun w => Lib.hid (fitting_any q (u * t) w (by omega) (by omega) b7 (by omega) n d e hf)
 have hcne : ¬ c = 0 := by omega
 have hsne : ¬ s = 0 := by omega
 have wu : IntKind.i64.wrap u = u := IntWalk.i64_in _ (by omega)
 have wv : IntKind.i64.wrap v = v := IntWalk.i64_in _ (by omega)
 have wt : IntKind.i64.wrap t = t := IntWalk.i64_in _ (by omega)
 have ws : IntKind.i64.wrap s = s := IntWalk.i64_in _ (by omega)
 have ws2 : 0 ≤ s := by omega
 have ws3 : s ≤ 1152921504606846976 := by omega
 have wc3 : c ≤ 1152921504606846976 := by omega
 clear hf h hc hs hN hq hr hq2 b1 b2 b3 b4 b5 b6 b7 hN0 hN1 va vb
 generalize hiW (an * v) = h1 at *
 generalize loW (an * v) = h2 at *
 generalize hiW (bn * u) = h3 at *
 generalize loW (bn * u) = h4 at *
 generalize hiW (u * t) = h5 at *
 generalize loW (u * t) = h6 at *
 generalize hiW N = N1 at *
 generalize loW N = N2 at *
 generalize hiW q = q1 at *
 generalize loW q = q2 at *
 go_enter Tryz.func113, Tryz.ntmps113
 go_upto_region 2 with (first | (go_at_call 100; (with_reducible refine ((CC _).out).mono ?_); rintro e w' ⟨rfl, nk, rfl⟩))
 obtain ⟨W0, hW0⟩ : ∃ W0, W0 = ((((w.alloc (Obj.cells #[Value.int IntKind.i64 an, Value.int IntKind.i64 ad] 27)).alloc (Obj.cells #[Value.int IntKind.i64 bn, Value.int IntKind.i64 bd] 27)).alloc (Obj.cells #[Value.int IntKind.i64 0, Value.int IntKind.i64 0] 27)).drewN nk) := ⟨_, rfl⟩
 rw [← hW0]
 have hS0 := startS w _ _ _ _ _ _ _ _ W0 hW0
 have hq0 : w.heap.size + 2 < W0.heap.size := by have := hS0.2.2.2.2.2.1; simpa using this
 have HS0 := Lib.hid hS0
 clear hW0 hS0
 go_cut [7] (fun s7 wx => ∃ g : Nat, s7 = .pointer (some ⟨g, 0, none⟩) ∧ w.heap.size + 2 < g ∧ g < wx.heap.size ∧ wx.cell? ⟨g, 0, none⟩ = some (.int .u64 N1) ∧ wx.cell? ⟨g, 1, none⟩ = some (.int .u64 N2) ∧ (wx.cell? ⟨w.heap.size, 0, none⟩ = some (.int .i64 an) ∧ wx.cell? ⟨w.heap.size, 1, none⟩ = some (.int .i64 ad) ∧ wx.cell? ⟨w.heap.size + 1, 0, none⟩ = some (.int .i64 bn) ∧ wx.cell? ⟨w.heap.size + 1, 1, none⟩ = some (.int .i64 bd) ∧ Below w.heap.size w wx ∧ w.heap.size + 2 < wx.heap.size ∧ (wx.cell? ⟨w.heap.size + 1 + 1, 0, none⟩).isSome = true ∧ (wx.cell? ⟨w.heap.size + 1 + 1, 1, none⟩).isSome = true ∧ wx.frozen? ⟨w.heap.size + 1 + 1, 0, none⟩ = false ∧ wx.frozen? ⟨w.heap.size + 1 + 1, 1, none⟩ = false))
 case first =>
  go_region_held3 (fun WX => WX.cell? ⟨w.heap.size, 0, none⟩ = some (.int .i64 an) ∧ WX.cell? ⟨w.heap.size, 1, none⟩ = some (.int .i64 ad) ∧ WX.cell? ⟨w.heap.size + 1, 0, none⟩ = some (.int .i64 bn) ∧ WX.cell? ⟨w.heap.size + 1, 1, none⟩ = some (.int .i64 bd) ∧ Below w.heap.size w WX ∧ w.heap.size + 2 < WX.heap.size ∧ (WX.cell? ⟨w.heap.size + 1 + 1, 0, none⟩).isSome = true ∧ (WX.cell? ⟨w.heap.size + 1 + 1, 1, none⟩).isSome = true ∧ WX.frozen? ⟨w.heap.size + 1 + 1, 0, none⟩ = false ∧ WX.frozen? ⟨w.heap.size + 1 + 1, 1, none⟩ = false)
   (first | exact keepS (by assumption) hb | exact HS0.out | exact farS (by assumption) (by first | assumption | (simp; omega)) | exact newS (by assumption) | exact swapS (by assumption) (by first | assumption | (simp; omega)) | go_keep)
   (first
    | (go_at_call 114; (with_reducible refine ((CX _).out).mono ?_); rintro e w2 ⟨rfl, hb⟩; have hK := keepS (w := w) (v0 := .int .i64 an) (v1 := .int .i64 ad) (v2 := .int .i64 bn) (v3 := .int .i64 bd) (by assumption) hb; have hq := hK.2.2.2.2.2.1; clear hK; obtain ⟨hc, hf, hz⟩ := afterZ hb; (try (have hg : W0.heap.size < w2.heap.size := by (have h9 := hb.size; simp at h9; omega))))
    | (go_at_call 114; (with_reducible refine ((CY _).out).mono ?_); rintro e w2 ⟨rfl, hb⟩; have hK := keepS (w := w) (v0 := .int .i64 an) (v1 := .int .i64 ad) (v2 := .int .i64 bn) (v3 := .int .i64 bd) (by assumption) hb; have hq := hK.2.2.2.2.2.1; clear hK; obtain ⟨hc, hf, hz⟩ := afterZ hb; (try (have hg : W0.heap.size < w2.heap.size := by (have h9 := hb.size; simp at h9; omega))))
    | (go_at_call 115; (with_reducible refine ((CP _).out).mono ?_); rintro e w2 ⟨rfl, hb⟩; have hK := keepS (w := w) (v0 := .int .i64 an) (v1 := .int .i64 ad) (v2 := .int .i64 bn) (v3 := .int .i64 bd) (by assumption) hb; have hq := hK.2.2.2.2.2.1; clear hK; obtain ⟨hc, hf, hz⟩ := afterZ hb; (try (have hg : W0.heap.size < w2.heap.size := by (have h9 := hb.size; simp at h9; omega)))))
  all_goals
   rename_i hS
   go_wp2_with fail
   go_meet
   have HS := Lib.hid hS
   clear hS
   refine ⟨_, rfl, (by first | assumption | omega | (simp; omega)), ?_, ?_, ?_, HS.out⟩
   ·first | (simp; done) | (simp only [World.size_setCell]; first | assumption | omega | (simp [*]; done))
   ·first | (simp [go_sem]; done) | exact two0 (by simp [*])
   ·first | (simp [go_sem]; done) | exact two1 (by simp [*])
 case rest =>
  clear HS0 hq0
  obtain ⟨g, rfl, g0, g1, k1, k2, hS⟩ := hcut
  have HS := Lib.hid hS
  clear hS
  have hT := fun (w2 : World) (hb : Below wc.heap.size wc w2) => And.intro (keepS (w := w) (v0 := .int .i64 an) (v1 := .int .i64 ad) (v2 := .int .i64 bn) (v3 := .int .i64 bd) HS.out hb) (And.intro ((hb.cell (p := ⟨g, 0, none⟩) g1).trans k1) (And.intro ((hb.cell (p := ⟨g, 1, none⟩) g1).trans k2) (Nat.lt_of_lt_of_le g1 hb.size)))
  have HT := Lib.hid hT
  clear hT
  go_upto_region 4 with (first
   | (go_at_call 123; (with_reducible refine ((CR _).out).mono ?_); rintro e w3 ⟨rfl, hb⟩; have HT3 := Lib.hid (HT.out _ hb); clear hb)
   | (go_at_call 110; (with_reducible refine ((CG _).out).mono ?_); rintro e w4 ⟨rfl, nk, rfl⟩))
  have HT4 := fun (w2 : World) (hb : Below w3.heap.size w3 w2) => And.intro (keepS (w := w) (v0 := .int .i64 an) (v1 := .int .i64 ad) (v2 := .int .i64 bn) (v3 := .int .i64 bd) HT3.out.1 hb) (And.intro ((hb.cell (p := ⟨g, 0, none⟩) HT3.out.2.2.2).trans HT3.out.2.1) (And.intro ((hb.cell (p := ⟨g, 1, none⟩) HT3.out.2.2.2).trans HT3.out.2.2.1) (Nat.lt_of_lt_of_le HT3.out.2.2.2 hb.size)))
  have HT5 := HT4 (w3.drewN nk).drew (Below.drew (below_drew (Below.refl _ _) nk))
  have HT6 := Lib.hid HT5
  clear HT4 HT5
  go_region_held3 (fun WX => (WX.cell? ⟨w.heap.size, 0, none⟩ = some (.int .i64 an) ∧ WX.cell? ⟨w.heap.size, 1, none⟩ = some (.int .i64 ad) ∧ WX.cell? ⟨w.heap.size + 1, 0, none⟩ = some (.int .i64 bn) ∧ WX.cell? ⟨w.heap.size + 1, 1, none⟩ = some (.int .i64 bd) ∧ Below w.heap.size w WX ∧ w.heap.size + 2 < WX.heap.size ∧ (WX.cell? ⟨w.heap.size + 1 + 1, 0, none⟩).isSome = true ∧ (WX.cell? ⟨w.heap.size + 1 + 1, 1, none⟩).isSome = true ∧ WX.frozen? ⟨w.heap.size + 1 + 1, 0, none⟩ = false ∧ WX.frozen? ⟨w.heap.size + 1 + 1, 1, none⟩ = false) ∧ WX.cell? ⟨g, 0, none⟩ = some (.int .u64 N1) ∧ WX.cell? ⟨g, 1, none⟩ = some (.int .u64 N2) ∧ g < WX.heap.size)
   (first | exact keepT (w := w) (v0 := .int .i64 an) (v1 := .int .i64 ad) (v2 := .int .i64 bn) (v3 := .int .i64 bd) (by assumption) hb | exact HT6.out | exact storeT (by assumption) g0 | go_keep)
   (first
    | (go_at_call 124; (with_reducible refine ((CO _).out).mono ?_); rintro e w2 ⟨rfl, hb⟩)
    | (go_at_call 114; (with_reducible refine ((CU _).out).mono ?_); rintro e w2 ⟨rfl, hb⟩)
    | (go_at_call 122; (with_reducible refine ((CF _).out).mono ?_); rintro e w2 ⟨rfl, hb⟩; obtain ⟨r8, r9, k8, k9⟩ := keepTR (w := w) (v0 := .int .i64 an) (v1 := .int .i64 ad) (v2 := .int .i64 bn) (v3 := .int .i64 bd) (by assumption) hb))
  all_goals
   rename_i hS
   have hB := hS.1.2.2.2.2.1
   clear hS
   go_wp2
   refine bodyPost_ret (by simp [results, Tryz.results113, go_sem, k8, k9]; try rfl) rfl ?_
   exact ⟨rfl, hB⟩

end Go.Proofs.YtggpdhdbeokkcaaGreat
