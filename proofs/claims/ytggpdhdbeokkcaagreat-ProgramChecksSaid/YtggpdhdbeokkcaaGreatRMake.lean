/- Make of package ratio. -/
import Derived.Test.YtggpdhdbeokkcaaGreatROps3
namespace Go.Proofs.YtggpdhdbeokkcaaGreat
set_option linter.unusedVariables false
open Go.RowKit Go.Shelf

theorem startM (w : World) (r0 r1 a0 a1 : Value) (t t' n : Nat) : ∀ W, W = ((w.alloc (Obj.cells #[r0, r1] t)).drewN n).alloc (Obj.cells #[a0, a1] t') → W.cell? ⟨w.heap.size + 1, 0, none⟩ = some a0 ∧ W.cell? ⟨w.heap.size + 1, 1, none⟩ = some a1 ∧ Below w.heap.size w W ∧ w.heap.size + 1 < W.heap.size ∧ (W.cell? ⟨w.heap.size, 0, none⟩).isSome = true ∧ (W.cell? ⟨w.heap.size, 1, none⟩).isSome = true ∧ W.frozen? ⟨w.heap.size, 0, none⟩ = false ∧ W.frozen? ⟨w.heap.size, 1, none⟩ = false := by
 intro W hW
 subst hW
 refine ⟨by simp [go_sem], by simp [go_sem], (by repeat' (first | (with_reducible exact Below.refl _ _) | (with_reducible assumption) | (with_reducible refine Below.alloc ?_ ?_ _) | (with_reducible refine below_drew ?_ _) | (with_reducible refine Below.drew ?_) | (with_reducible refine Below.setCell ?_ ?_ _) | go_size)), by simp, ?_, ?_, ?_, ?_⟩
 ·rw [World.cell?_alloc_past _ _ _ (by simp)]; simp [go_sem]
 ·rw [World.cell?_alloc_past _ _ _ (by simp)]; simp [go_sem]
 ·simp [go_sem]
 ·simp [go_sem]
theorem storeN {w W : World} {v0 v1 x y : Value} (h : W.cell? ⟨w.heap.size + 1, 0, none⟩ = some v0 ∧ W.cell? ⟨w.heap.size + 1, 1, none⟩ = some v1 ∧ Below w.heap.size w W ∧ w.heap.size + 1 < W.heap.size ∧ (W.cell? ⟨w.heap.size, 0, none⟩).isSome = true ∧ (W.cell? ⟨w.heap.size, 1, none⟩).isSome = true ∧ W.frozen? ⟨w.heap.size, 0, none⟩ = false ∧ W.frozen? ⟨w.heap.size, 1, none⟩ = false) : ((W.setCell ⟨w.heap.size + 1, 0, none⟩ x).setCell ⟨w.heap.size + 1, 1, none⟩ y).cell? ⟨w.heap.size + 1, 0, none⟩ = some x ∧ ((W.setCell ⟨w.heap.size + 1, 0, none⟩ x).setCell ⟨w.heap.size + 1, 1, none⟩ y).cell? ⟨w.heap.size + 1, 1, none⟩ = some y ∧ Below w.heap.size w ((W.setCell ⟨w.heap.size + 1, 0, none⟩ x).setCell ⟨w.heap.size + 1, 1, none⟩ y) ∧ w.heap.size + 1 < ((W.setCell ⟨w.heap.size + 1, 0, none⟩ x).setCell ⟨w.heap.size + 1, 1, none⟩ y).heap.size ∧ (((W.setCell ⟨w.heap.size + 1, 0, none⟩ x).setCell ⟨w.heap.size + 1, 1, none⟩ y).cell? ⟨w.heap.size, 0, none⟩).isSome = true ∧ (((W.setCell ⟨w.heap.size + 1, 0, none⟩ x).setCell ⟨w.heap.size + 1, 1, none⟩ y).cell? ⟨w.heap.size, 1, none⟩).isSome = true ∧ ((W.setCell ⟨w.heap.size + 1, 0, none⟩ x).setCell ⟨w.heap.size + 1, 1, none⟩ y).frozen? ⟨w.heap.size, 0, none⟩ = false ∧ ((W.setCell ⟨w.heap.size + 1, 0, none⟩ x).setCell ⟨w.heap.size + 1, 1, none⟩ y).frozen? ⟨w.heap.size, 1, none⟩ = false := by
 obtain ⟨h0, h1, hB, hz, h4, h5, h6, h7⟩ := h
 have far : ∀ (p : Addr) (b o : Nat) (V : World) (v : Value), p.block ≠ b → (V.setCell p v).cell? ⟨b, o, none⟩ = V.cell? ⟨b, o, none⟩ := fun p b o V v hne => World.cell?_setCell_far V p ⟨b, o, none⟩ v hne
 refine ⟨two0 (by rw [h0]; rfl), two1 (by rw [h1]; rfl), ?_, ?_, ?_, ?_, ?_, ?_⟩
 ·exact (hB.setCell (by simp) _).setCell (by simp) _
 ·simpa using hz
 ·rw [far _ _ _ _ _ (by simp), far _ _ _ _ _ (by simp)]; exact h4
 ·rw [far _ _ _ _ _ (by simp), far _ _ _ _ _ (by simp)]; exact h5
 ·simpa using h6
 ·simpa using h7

set_option maxHeartbeats 4000000 in
theorem Make_any (num den : Int) (w : World) (n0 : -9223372036854775808 ≤ num) (n1 : num ≤ 9223372036854775807) (d0 : -9223372036854775808 ≤ den) (d1 : den ≤ 9223372036854775807) (n d e : Int) (h : makeT num den = (n, d, e)) :
  Calls Tryz.prog 108 #[.int .i64 num, .int .i64 den] w fun r w' => r = .returned (.tuple #[.agg #[.int .i64 n, .int .i64 d], .int .i64 e]) ∧ Below w.heap.size w w' := by
 unfold makeT at h
 by_cases hz : den = 0
 ·rw [if_pos hz] at h
  obtain ⟨q1, q2, q3⟩ := three h
  subst q1; subst q2; subst q3; subst hz
  clear h
  go_enter Tryz.func108, Tryz.ntmps108
  go_wp2
  go_returns
  exact ⟨rfl, by go_grown⟩
 rw [if_neg hz] at h
 obtain ⟨G, hG⟩ : ∃ G : Nat, G = Nat.gcd num.natAbs den.natAbs := ⟨_, rfl⟩
 obtain ⟨g0, g1, hf⟩ := make_fit hz hG
 rw [h] at hf
 have CA := fun w => Lib.hid (size_any num w n0 n1)
 have CB := fun w => Lib.hid (size_any den w d0 d1)
 have CG := fun w => Lib.hid (gcd_any num.natAbs den.natAbs w (by omega) (by omega))
 simp only [← hG] at CG
 have x1 : num.natAbs / G ≤ num.natAbs := Nat.div_le_self _ _
 have y1 : den.natAbs / G ≤ den.natAbs := Nat.div_le_self _ _
 have y2 : 0 < den.natAbs / G := Nat.div_pos g1 g0
 have ex : ((num.natAbs / G : Nat) : Int) = (num.natAbs : Int) / (G : Int) := by simp
 have ey : ((den.natAbs / G : Nat) : Int) = (den.natAbs : Int) / (G : Int) := by simp
 generalize num.natAbs / G = xn at *
 generalize den.natAbs / G = yn at *
 obtain ⟨X, hX⟩ : ∃ X : Int, X = (xn : Int) := ⟨_, rfl⟩
 obtain ⟨Y, hY⟩ : ∃ Y : Int, Y = (yn : Int) := ⟨_, rfl⟩
 have X0 : 0 ≤ X := by omega
 have X1 : X ≤ 9223372036854775808 := by omega
 have Y0 : 0 < Y := by omega
 have Y1 : Y ≤ 9223372036854775808 := by omega
 rw [← hX, ← hY] at hf
 rw [← hX] at ex
 rw [← hY] at ey
 obtain ⟨a, ha⟩ : ∃ a : Int, a = (num.natAbs : Int) := ⟨_, rfl⟩
 obtain ⟨b, hb⟩ : ∃ b : Int, b = (den.natAbs : Int) := ⟨_, rfl⟩
 obtain ⟨g, hg⟩ : ∃ g : Int, g = (G : Int) := ⟨_, rfl⟩
 have a0 : 0 ≤ a := by omega
 have a1 : a < 18446744073709551616 := by omega
 have b0 : 0 ≤ b := by omega
 have b1 : b < 18446744073709551616 := by omega
 have gg0 : 0 < g := by omega
 simp only [← ha] at CA
 simp only [← hb] at CB
 simp only [← ha, ← hb, ← hg] at CG
 rw [← ha, ← hg] at ex
 rw [← hb, ← hg] at ey
 have ex1 : a.tdiv g = X := by rw [Int.tdiv_eq_ediv_of_nonneg a0, ← ex]
 have ey1 : b.tdiv g = Y := by rw [Int.tdiv_eq_ediv_of_nonneg b0, ← ey]
 have ex2 : a / g = X := ex.symm
 have ey2 : b / g = Y := ey.symm
 have wX : IntKind.u64.wrap X = X := wrap_in X0 (by omega)
 have wY : IntKind.u64.wrap Y = Y := wrap_in (by omega) (by omega)
 have hne : ¬ g = 0 := by omega
 obtain ⟨ys1, ys2⟩ := W_small (z := Y) (by omega) (by omega)
 obtain ⟨xs1, xs2⟩ := W_small (z := X) (by omega) (by omega)
 have CN := fun w => Lib.hid (negated_any X w)
 simp only [xs1, xs2] at CN
 have hdz : (den == 0) = false := by simpa using hz
 clear hX hY ha hb hg ex ey x1 y1 y2 hG g0 g1 h
 by_cases hs : (num < 0 ∧ den < 0) ∨ (0 ≤ num ∧ 0 ≤ den)
 ·rw [if_pos hs] at hf
  have CF := fun w => Lib.hid (fitting_any X Y w (by omega) (by omega) Y0 (by omega) n d e hf)
  simp only [xs1, xs2, ys1, ys2] at CF
  have hd : (decide (num < 0) = true ∧ decide (den < 0) = true) ∨ (decide (num < 0) = false ∧ decide (den < 0) = false) := by
   rcases hs with ⟨h1, h2⟩ | ⟨h1, h2⟩
   ·exact .inl ⟨by simpa using h1, by simpa using h2⟩
   ·exact .inr ⟨by simpa using h1, by simpa using h2⟩
  clear hs hf xs1 xs2 ys1 ys2
  rcases hd with ⟨d2, d3⟩ | ⟨d2, d3⟩
  all_goals
   go_enter Tryz.func108, Tryz.ntmps108
   go_wp2_with (first
    | (go_at_call 111; (with_reducible refine ((CA _).out).mono ?_); rintro e w' ⟨rfl, rfl⟩)
    | (go_at_call 111; (with_reducible refine ((CB _).out).mono ?_); rintro e w' ⟨rfl, rfl⟩)
    | (go_at_call 110; (with_reducible refine ((CG _).out).mono ?_); rintro e w' ⟨rfl, nk, rfl⟩))
   go_region_held3 (fun WX => WX.cell? ⟨w.heap.size + 1, 0, none⟩ = some (Value.int .u64 (0)) ∧ WX.cell? ⟨w.heap.size + 1, 1, none⟩ = some (Value.int .u64 (X)) ∧ Below w.heap.size w WX ∧ w.heap.size + 1 < WX.heap.size ∧ (WX.cell? ⟨w.heap.size, 0, none⟩).isSome = true ∧ (WX.cell? ⟨w.heap.size, 1, none⟩).isSome = true ∧ WX.frozen? ⟨w.heap.size, 0, none⟩ = false ∧ WX.frozen? ⟨w.heap.size, 1, none⟩ = false)
    (first | exact keepM (by assumption) hb | exact keepM (startM w _ _ _ _ _ _ _ _ rfl) (Below.drew (Below.refl _ _)) | exact storeM (by assumption) | go_keep)
    (first
     | (go_at_call 122; (with_reducible refine ((CF _).out).mono ?_); rintro e w2 ⟨rfl, hb⟩; obtain ⟨r8, r9, k8, k9⟩ := keepMR (w := w) (v0 := .int .u64 (0)) (v1 := .int .u64 (X)) (by assumption) hb))
   all_goals
    rename_i hS
    have hB := hS.2.2.1
    clear hS
    go_wp2
    refine bodyPost_ret (by simp [results, Tryz.results108, go_sem, k8, k9]; try rfl) rfl ?_
    exact ⟨rfl, hB⟩
 ·rw [if_neg hs] at hf
  have CF := fun w => Lib.hid (fitting_any (-X) Y w (by omega) (by omega) Y0 (by omega) n d e hf)
  simp only [ys1, ys2] at CF
  have hd : (decide (num < 0) = true ∧ decide (den < 0) = false) ∨ (decide (num < 0) = false ∧ decide (den < 0) = true) := by
   rcases Int.lt_or_le num 0 with h1 | h1 <;> rcases Int.lt_or_le den 0 with h2 | h2
   ·exact absurd (.inl ⟨h1, h2⟩) hs
   ·exact .inl ⟨by simpa using h1, by simpa using h2⟩
   ·exact .inr ⟨by simpa using h1, by simpa using h2⟩
   ·exact absurd (.inr ⟨h1, h2⟩) hs
  clear hs hf xs1 xs2 ys1 ys2
  rcases hd with ⟨d2, d3⟩ | ⟨d2, d3⟩
  all_goals
   go_enter Tryz.func108, Tryz.ntmps108
   go_wp2_with (first
    | (go_at_call 111; (with_reducible refine ((CA _).out).mono ?_); rintro e w' ⟨rfl, rfl⟩)
    | (go_at_call 111; (with_reducible refine ((CB _).out).mono ?_); rintro e w' ⟨rfl, rfl⟩)
    | (go_at_call 110; (with_reducible refine ((CG _).out).mono ?_); rintro e w' ⟨rfl, nk, rfl⟩)
    | (go_at_call 121; (with_reducible refine ((CN _).out).mono ?_); rintro e w5 ⟨rfl, hb5⟩; have HS5 := Lib.hid (keepM (startM w _ _ _ _ _ _ _ _ rfl) hb5); have s5 := HS5.out; have s6 := s5.1; have s7 := s5.2.1; have s8 : w5.frozen? ⟨w.heap.size + 1, 0, none⟩ = false := (hb5.frozen (p := ⟨w.heap.size + 1, 0, none⟩) (by simp)).trans (by simp [go_sem]); have s9 : w5.frozen? ⟨w.heap.size + 1, 1, none⟩ = false := (hb5.frozen (p := ⟨w.heap.size + 1, 1, none⟩) (by simp)).trans (by simp [go_sem]); clear s5 hb5))
   go_region_held3 (fun WX => WX.cell? ⟨w.heap.size + 1, 0, none⟩ = some (Value.int .u64 (hiW (-X))) ∧ WX.cell? ⟨w.heap.size + 1, 1, none⟩ = some (Value.int .u64 (loW (-X))) ∧ Below w.heap.size w WX ∧ w.heap.size + 1 < WX.heap.size ∧ (WX.cell? ⟨w.heap.size, 0, none⟩).isSome = true ∧ (WX.cell? ⟨w.heap.size, 1, none⟩).isSome = true ∧ WX.frozen? ⟨w.heap.size, 0, none⟩ = false ∧ WX.frozen? ⟨w.heap.size, 1, none⟩ = false)
    (first | exact keepM (by assumption) hb | exact keepM (storeN HS5.out) (Below.drew (Below.refl _ _)) | exact storeM (by assumption) | go_keep)
    (first
     | (go_at_call 122; (with_reducible refine ((CF _).out).mono ?_); rintro e w2 ⟨rfl, hb⟩; obtain ⟨r8, r9, k8, k9⟩ := keepMR (w := w) (v0 := .int .u64 (hiW (-X))) (v1 := .int .u64 (loW (-X))) (by assumption) hb))
   all_goals
    rename_i hS
    have hB := hS.2.2.1
    clear hS
    go_wp2
    refine bodyPost_ret (by simp [results, Tryz.results108, go_sem, k8, k9]; try rfl) rfl ?_
    exact ⟨rfl, hB⟩

end Go.Proofs.YtggpdhdbeokkcaaGreat
