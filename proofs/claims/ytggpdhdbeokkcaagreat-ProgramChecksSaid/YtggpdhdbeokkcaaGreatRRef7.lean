/- The reference of layer 2: the fraction with a value. -/
import Derived.Test.YtggpdhdbeokkcaaGreatRRef4
import Derived.Test.YtggpdhdbeokkcaaGreatRRef6
namespace Go.Proofs.YtggpdhdbeokkcaaGreat
set_option linter.unusedVariables false
open Go.RowKit Go.Shelf

theorem small_words {z : Int} (h : hiW z = 0) (h0 : 0 ≤ z) (h1 : z < 340282366920938463463374607431768211456) : loW z = z ∧ z < 18446744073709551616 := by
 unfold hiW at h; unfold loW; omega
theorem words_small {z : Int} (h0 : 0 ≤ z) (h1 : z < 18446744073709551616) : hiW z = 0 ∧ loW z = z := by unfold hiW loW; omega

theorem words_gt {z : Int} (h0 : 0 ≤ z) (h1 : z < 340282366920938463463374607431768211456) : (decide (0 < hiW z) = true ∧ 1152921504606846976 < z) ∨ (decide (0 < hiW z) = false ∧ decide (1152921504606846976 < loW z) = true ∧ 1152921504606846976 < z) ∨ (decide (0 < hiW z) = false ∧ decide (1152921504606846976 < loW z) = false ∧ z ≤ 1152921504606846976) := by
 simp only [decide_eq_true_eq, decide_eq_false_iff_not]
 unfold hiW loW
 omega

theorem rdiv_any (A b : Int) (w : World) (A0 : 0 ≤ A) (A1 : A < 340282366920938463463374607431768211456) (b0 : 0 < b) (b1 : b < 340282366920938463463374607431768211456) :
  Calls Tryz.prog 109 #[.agg #[.int .u64 (hiW (A)), .int .u64 (loW (A))], .agg #[.int .u64 (hiW (b)), .int .u64 (loW (b))]] w fun e w' => e = .returned (.tuple #[.agg #[.int .u64 (hiW (A / b)), .int .u64 (loW (A / b))], .agg #[.int .u64 (hiW (A % b)), .int .u64 (loW (A % b))]]) ∧ Below w.heap.size w w' := by
 by_cases h : hiW A = 0
 ·by_cases h2 : hiW b = 0
  ·obtain ⟨e1, l1⟩ := small_words h A0 A1
   obtain ⟨e2, l2⟩ := small_words h2 (by omega) b1
   have q0 : 0 ≤ A / b := Int.ediv_nonneg A0 (by omega)
   have q1 : A / b ≤ A := Int.ediv_le_self _ A0
   have r0 : 0 ≤ A % b := Int.emod_nonneg _ (by omega)
   have r1 : A % b < b := Int.emod_lt_of_pos _ b0
   obtain ⟨e3, e4⟩ := words_small q0 (by omega)
   obtain ⟨e5, e6⟩ := words_small r0 (by omega)
   rw [h, h2, e1, e2, e3, e4, e5, e6]
   exact rdiv_small A b w A0 l1 b0 l2
  ·exact rdiv_big A b w A0 A1 b0 b1 (.inr ⟨by simpa using h, by simpa using h2⟩)
 ·exact rdiv_big A b w A0 A1 b0 b1 (.inl (by simpa using h))

/-- The fraction with a value of two magnitudes and a sign. -/
def madeT (N : Int) (neg : Bool) (D : Int) : Int × Int × Int := if D = 0 then (0, 0, 16) else redT (if neg = true then -N else N) D

theorem made_parts {N D : Int} {neg : Bool} (N0 : 0 ≤ N) (D0 : 0 < D) : madeT N neg D = fitT (if neg = true then -(N / (Int.gcd N D : Int)) else N / (Int.gcd N D : Int)) (D / (Int.gcd N D : Int)) := by
 unfold madeT redT
 rw [if_neg (by omega)]
 cases neg
 ·simp
 ·simp only [if_true]
  rw [Int.neg_gcd, Int.neg_ediv_of_dvd (Int.gcd_dvd_left N D)]

/-- What is carried from the entry on. -/
def MadeSt (w W : World) (N D : Int) : Prop := Blk W w.heap.size (.int .u64 (hiW N)) (.int .u64 (loW N)) ∧ Blk W (w.heap.size + 1) (.int .u64 (hiW D)) (.int .u64 (loW D)) ∧ Blk W (w.heap.size + 1 + 1) (.int .i64 0) (.int .i64 0) ∧ Frz W (w.heap.size + 1 + 1) ∧ Below w.heap.size w W
theorem MadeSt.on {w W W2 : World} {x y : Int} (h : MadeSt w W x y) (hb : Below W.heap.size W W2) : MadeSt w W2 x y := by
 obtain ⟨ha, hB, hr, fr, B⟩ := h
 exact ⟨ha.on hb, hB.on hb, hr.on hb, fr.on hr.1 hb, below_on B hb⟩
theorem MadeSt.alloc {w W : World} {x y : Int} (h : MadeSt w W x y) (o : Obj) : MadeSt w (W.alloc o) x y := h.on ((Below.refl _ _).alloc (Nat.le_refl _) _)
theorem MadeSt.start (w : World) (N D : Int) (W : World) (hW : W = ((w.alloc (Obj.cells #[Value.int IntKind.u64 (hiW (N)), Value.int IntKind.u64 (loW (N))] 68)).alloc (Obj.cells #[Value.int IntKind.u64 (hiW (D)), Value.int IntKind.u64 (loW (D))] 68)).alloc (Obj.cells #[Value.int IntKind.i64 0, Value.int IntKind.i64 0] 27)) : MadeSt w W N D := by
 subst hW
 have nw : ∀ (V : World) (n : Nat) (v0 v1 : Value) (t : Nat), V.heap.size = n → Blk (V.alloc (Obj.cells #[v0, v1] t)) n v0 v1 := fun V n v0 v1 t h => h ▸ Blk.new V v0 v1 t
 have nf : ∀ (V : World) (n : Nat) (v0 v1 : Value) (t : Nat), V.heap.size = n → Frz (V.alloc (Obj.cells #[v0, v1] t)) n := fun V n v0 v1 t h => h ▸ Frz.new V v0 v1 t
 refine ⟨?_, ?_, ?_, ?_, (by repeat' (first | (with_reducible exact Below.refl _ _) | (with_reducible assumption) | (with_reducible refine Below.alloc ?_ ?_ _) | (with_reducible refine below_drew ?_ _) | (with_reducible refine Below.drew ?_) | (with_reducible refine Below.setCell ?_ ?_ _) | go_size))⟩
 ·exact ((nw _ _ _ _ _ (by simp)).alloc _).alloc _
 ·exact (nw _ _ _ _ _ (by simp)).alloc _
 ·exact nw _ _ _ _ _ (by simp)
 ·exact nf _ _ _ _ _ (by simp)

set_option maxRecDepth 100000 in
set_option maxHeartbeats 4000000 in
theorem made_zero (N : Int) (neg : Bool) (w : World) :
  Calls Tryz.prog 96 #[.agg #[.int .u64 (hiW (N)), .int .u64 (loW (N))], .bool neg, .agg #[.int .u64 0, .int .u64 0]] w fun e w' => e = .returned (.tuple #[.agg #[.int .i64 0, .int .i64 0], .int .i64 16]) ∧ Below w.heap.size w w' := by
 generalize hiW N = N1
 generalize loW N = N2
 go_enter Tryz.func96, Tryz.ntmps96
 go_wp2
 go_returns
 exact ⟨rfl, (by repeat' (first | (with_reducible exact Below.refl _ _) | (with_reducible assumption) | (with_reducible refine Below.alloc ?_ ?_ _) | (with_reducible refine below_drew ?_ _) | (with_reducible refine Below.drew ?_) | (with_reducible refine Below.setCell ?_ ?_ _) | go_size))⟩

set_option maxRecDepth 100000 in
set_option maxHeartbeats 4000000 in
theorem made_pos (N D : Int) (neg : Bool) (w : World) (N0 : 0 ≤ N) (N1 : N < 340282366920938463463374607431768211456) (D0 : 0 < D) (D1 : D < 340282366920938463463374607431768211456) (n d er : Int) (h : madeT N neg D = (n, d, er)) :
  Calls Tryz.prog 96 #[.agg #[.int .u64 (hiW (N)), .int .u64 (loW (N))], .bool neg, .agg #[.int .u64 (hiW (D)), .int .u64 (loW (D))]] w fun e w' => e = .returned (.tuple #[.agg #[.int .i64 n, .int .i64 d], .int .i64 er]) ∧ Below w.heap.size w w' := by
 rw [made_parts N0 D0] at h
 have CG := fun w => Lib.hid (rgcd_any N D w N0 N1 D0 D1)
 obtain ⟨G, hG⟩ : ∃ G : Int, (Int.gcd N D : Int) = G := ⟨_, rfl⟩
 have G0 : 0 < G := by rw [← hG]; have : 0 < Int.gcd N D := Int.gcd_pos_of_ne_zero_right _ (by omega); omega
 have G1 : G ≤ D := by rw [← hG]; exact Int.le_of_dvd D0 (Int.gcd_dvd_right N D)
 simp only [hG] at CG
 rw [hG] at h
 have CX := fun w => Lib.hid (rdiv_any N G w N0 N1 G0 (by omega))
 have CY := fun w => Lib.hid (rdiv_any D G w (by omega) D1 G0 (by omega))
 have X0 : 0 ≤ N / G := Int.ediv_nonneg N0 (by omega)
 have X1 : N / G ≤ N := Int.ediv_le_self _ N0
 have Y0 : 0 ≤ D / G := Int.ediv_nonneg (by omega) (by omega)
 have Y1 : D / G ≤ D := Int.ediv_le_self _ (by omega)
 obtain ⟨X, hX⟩ : ∃ X : Int, N / G = X := ⟨_, rfl⟩
 obtain ⟨Y, hY⟩ : ∃ Y : Int, D / G = Y := ⟨_, rfl⟩
 obtain ⟨RX, hRX⟩ : ∃ X : Int, N % G = X := ⟨_, rfl⟩
 obtain ⟨RY, hRY⟩ : ∃ X : Int, D % G = X := ⟨_, rfl⟩
 rw [hX] at h X0 X1
 rw [hY] at h Y0 Y1
 simp only [hX, hRX] at CX
 simp only [hY, hRY] at CY
 have hne := words_ne (x := D) D0 D1
 have hA2 : (hiW D == 0) = false ∨ ((hiW D == 0) = true ∧ (loW D == 0) = false) := by
  rcases hne with h | ⟨h, h2⟩
  ·exact .inl (by simpa using h)
  ·exact .inr ⟨by simpa using h, by simpa using h2⟩
 have HB := Lib.hid (And.intro (show X < 340282366920938463463374607431768211456 by omega) (show Y < 340282366920938463463374607431768211456 by omega))
 have H := Lib.hid h
 clear hG hX hY hRX hRY hne h N0 N1 D0 D1 G0 G1 X1 Y1
 go_enter Tryz.func96, Tryz.ntmps96
 go_upto_region 1 with fail
 obtain ⟨W0, hW0⟩ : ∃ W0, W0 = ((w.alloc (Obj.cells #[Value.int IntKind.u64 (hiW (N)), Value.int IntKind.u64 (loW (N))] 68)).alloc (Obj.cells #[Value.int IntKind.u64 (hiW (D)), Value.int IntKind.u64 (loW (D))] 68)).alloc (Obj.cells #[Value.int IntKind.i64 0, Value.int IntKind.i64 0] 27) := ⟨_, rfl⟩
 rw [← hW0]
 have S0 := Lib.hid (MadeSt.start w N D W0 hW0)
 clear hW0
 go_cut [15] (fun s15 wx => wx = W0 ∧ s15 = .bool false)
 case first =>
  obtain ⟨_, ⟨_, c0, c1⟩, _⟩ := S0.out
  rcases hA2 with g | ⟨g, g2⟩
  all_goals
   go_wp2_with fail
   go_meet
   exact ⟨rfl, rfl⟩
 case rest =>
 clear hA2
 obtain ⟨rfl, rfl⟩ := hcut
 obtain ⟨⟨_, c0, c1⟩, ⟨_, c2, c3⟩, _⟩ := S0.out
 go_upto_region 5 with (first
  | (go_at_call 35; (with_reducible refine ((CG _).out).mono ?_); rintro e w1 ⟨rfl, hb⟩; have S1 := Lib.hid (S0.out.on hb); clear hb c0 c1 c2 c3; obtain ⟨⟨l1, c0, c1⟩, ⟨l2, c2, c3⟩, _⟩ := S1.out)
  | (go_at_call 109; (with_reducible refine ((CX _).out).mono ?_); rintro e w2 ⟨rfl, hb⟩; have S2 := Lib.hid ((S1.out.alloc _).on hb); have K2 := Lib.hid ((Blk.new w1 _ _ _).on hb); clear hb c0 c1 c2 c3 l1 l2))
 obtain ⟨W2, hW2⟩ : ∃ W2, W2 = (w2.alloc (Obj.cells #[Value.int IntKind.u64 (hiW (X)), Value.int IntKind.u64 (loW (X))] 68)).alloc (Obj.cells #[Value.int IntKind.u64 (hiW (RX)), Value.int IntKind.u64 (loW (RX))] 68) := ⟨_, rfl⟩
 rw [← hW2]
 have JX : Hid (Blk W2 w2.heap.size (.int .u64 (hiW X)) (.int .u64 (loW X))) := by rw [hW2]; exact (Blk.new w2 _ _ _).alloc _
 have JG : Hid (Blk W2 w1.heap.size (.int .u64 (hiW G)) (.int .u64 (loW G))) := by rw [hW2]; exact (K2.out.alloc _).alloc _
 have SW : Hid (MadeSt w W2 N D) := by rw [hW2]; exact (S2.out.alloc _).alloc _
 clear hW2 S0 S1 S2 K2
 obtain ⟨_, ⟨l2, c2, c3⟩, _⟩ := SW.out
 obtain ⟨l3, c4, c5⟩ := JG.out
 go_upto_region 6 with (first
  | (go_at_call 109; (with_reducible refine ((CY _).out).mono ?_); rintro e w3 ⟨rfl, hb⟩; have S3 := Lib.hid (SW.out.on hb); have K3 := Lib.hid (JX.out.on hb); clear hb c2 c3 c4 c5 l2 l3))
 obtain ⟨W3, hW3⟩ : ∃ W3, W3 = (w3.alloc (Obj.cells #[Value.int IntKind.u64 (hiW (Y)), Value.int IntKind.u64 (loW (Y))] 68)).alloc (Obj.cells #[Value.int IntKind.u64 (hiW (RY)), Value.int IntKind.u64 (loW (RY))] 68) := ⟨_, rfl⟩
 rw [← hW3]
 have KY : Hid (Blk W3 w3.heap.size (.int .u64 (hiW Y)) (.int .u64 (loW Y))) := by rw [hW3]; exact (Blk.new w3 _ _ _).alloc _
 have KX : Hid (Blk W3 w2.heap.size (.int .u64 (hiW X)) (.int .u64 (loW X))) := by rw [hW3]; exact (K3.out.alloc _).alloc _
 have S4 : Hid (MadeSt w W3 N D) := by rw [hW3]; exact (S3.out.alloc _).alloc _
 clear hW3 S3 K3 CG CX CY SW JX JG
 obtain ⟨_, x0, x1⟩ := KX.out
 obtain ⟨_, y0, y1⟩ := KY.out
 go_cut [49] (fun s49 wx => wx = W3 ∧ s49 = .bool (decide (¬ (X ≤ 1152921504606846976 ∧ Y ≤ 1152921504606846976))))
 case first =>
  have hx := (words_gt X0 HB.out.1)
  have hy := (words_gt Y0 HB.out.2)
  rcases hx with ⟨hx, g1⟩ | ⟨hx, g1, g2⟩ | ⟨hx, g1, g2⟩
  ·go_wp2_with fail
   go_meet
   exact ⟨rfl, by simp; omega⟩
  ·go_wp2_with fail
   go_meet
   exact ⟨rfl, by simp; omega⟩
  ·rcases hy with ⟨hy, g3⟩ | ⟨hy, g3, g4⟩ | ⟨hy, g3, g4⟩
   all_goals
    go_wp2_with fail
    go_meet
    exact ⟨rfl, by simp; omega⟩
 case rest =>
  obtain ⟨rfl, rfl⟩ := hcut
  by_cases hf : X ≤ 1152921504606846976 ∧ Y ≤ 1152921504606846976
  ·have hd : decide (¬ (X ≤ 1152921504606846976 ∧ Y ≤ 1152921504606846976)) = false := by simp; omega
   rw [hd]
   obtain ⟨hf1, hf2⟩ := hf
   have ex := (words_small X0 (by omega)).2
   have ey := (words_small Y0 (by omega)).2
   rw [ex] at x1
   rw [ey] at y1
   clear hd ex ey
   obtain ⟨_, _, ⟨_, z0, z1⟩, ⟨z2, z3⟩, _⟩ := S4.out
   have wX : IntKind.i64.wrap X = X := IntWalk.i64_in _ (by omega)
   have wY : IntKind.i64.wrap Y = Y := IntWalk.i64_in _ (by omega)
   have wN : IntKind.i64.wrap (-X) = -X := IntWalk.i64_in _ (by omega)
   cases neg
   ·have e := H.out
    rw [fitT, if_pos (by simp; omega)] at e
    obtain ⟨e1, e2, e3⟩ := three e
    subst e1 e2 e3
    clear e
    go_wp2_with fail
    refine bodyPost_ret (by simp [results, Tryz.results96, go_sem, z0, z1]; try rfl) rfl ?_
    exact ⟨by simp, (S4.out.2.2.2.2.setCell (by simp; omega) _).setCell (by simp; omega) _⟩
   ·have e := H.out
    rw [fitT, if_pos (by simp; omega)] at e
    obtain ⟨e1, e2, e3⟩ := three e
    subst e1 e2 e3
    clear e
    go_wp2_with fail
    refine bodyPost_ret (by simp [results, Tryz.results96, go_sem, z0, z1]; try rfl) rfl ?_
    exact ⟨by simp, (S4.out.2.2.2.2.setCell (by simp; omega) _).setCell (by simp; omega) _⟩
  ·have hd : decide (¬ (X ≤ 1152921504606846976 ∧ Y ≤ 1152921504606846976)) = true := by simp; omega
   rw [hd]
   have e := H.out
   rw [fitT, if_neg (by cases neg <;> simp <;> omega)] at e
   obtain ⟨e1, e2, e3⟩ := three e
   subst e1 e2 e3
   clear hd e hf
   obtain ⟨_, _, ⟨_, z0, z1⟩, ⟨z2, z3⟩, _⟩ := S4.out
   go_wp2_with fail
   refine bodyPost_ret (by simp [results, Tryz.results96, go_sem, z0, z1]; try rfl) rfl ?_
   exact ⟨rfl, (S4.out.2.2.2.2.setCell (by simp; omega) _).setCell (by simp; omega) _⟩

end Go.Proofs.YtggpdhdbeokkcaaGreat
