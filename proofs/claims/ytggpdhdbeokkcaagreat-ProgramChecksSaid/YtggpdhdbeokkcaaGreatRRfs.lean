/- The reference of layer 2: Make, Valid, Floor, Ceil. The reference of layer 2: sums. The reference of layer 2: products and quotients. The reference of layer 2: what Times and Over specify is what mulT and divT say. The reference of layer 2: what Add, Sub and Cmp specify is what addT, subT and cmpT say. The reference of layer 2: Add, walked. The reference of layer 2: Sub and Cmp, walked. -/
import Derived.Test.YtggpdhdbeokkcaaGreatRRef7
import Derived.Test.YtggpdhdbeokkcaaGreatREach
namespace Go.Proofs.YtggpdhdbeokkcaaGreat
set_option linter.unusedVariables false
open Go.RowKit Go.Shelf

end Go.Proofs.YtggpdhdbeokkcaaGreat

namespace Go.Proofs.YtggpdhdbeokkcaaGreat
set_option linter.unusedVariables false
open Go.RowKit Go.Shelf

/-- Two fractions that came in, and a result not yet written. -/
def ArgSt (w W : World) (an ad bn bd : Int) : Prop := Blk W w.heap.size (.int .i64 an) (.int .i64 ad) ∧ Blk W (w.heap.size + 1) (.int .i64 bn) (.int .i64 bd) ∧ Blk W (w.heap.size + 1 + 1) (.int .i64 0) (.int .i64 0) ∧ Frz W (w.heap.size + 1 + 1) ∧ Below w.heap.size w W
theorem ArgSt.on {w W W2 : World} {an ad bn bd : Int} (h : ArgSt w W an ad bn bd) (hb : Below W.heap.size W W2) : ArgSt w W2 an ad bn bd := by
 obtain ⟨ha, hB, hr, fr, B⟩ := h
 exact ⟨ha.on hb, hB.on hb, hr.on hb, fr.on hr.1 hb, below_on B hb⟩
theorem ArgSt.drew {w W : World} {an ad bn bd : Int} (h : ArgSt w W an ad bn bd) : ArgSt w W.drew an ad bn bd := h.on (Below.drew (Below.refl _ _))
theorem ArgSt.start (w : World) (an ad bn bd : Int) (W : World) (hW : W = ((w.alloc (Obj.cells #[Value.int IntKind.i64 an, Value.int IntKind.i64 ad] 27)).alloc (Obj.cells #[Value.int IntKind.i64 bn, Value.int IntKind.i64 bd] 27)).alloc (Obj.cells #[Value.int IntKind.i64 0, Value.int IntKind.i64 0] 27)) : ArgSt w W an ad bn bd := by
 subst hW
 have nw : ∀ (V : World) (n : Nat) (v0 v1 : Value) (t : Nat), V.heap.size = n → Blk (V.alloc (Obj.cells #[v0, v1] t)) n v0 v1 := fun V n v0 v1 t h => h ▸ Blk.new V v0 v1 t
 have nf : ∀ (V : World) (n : Nat) (v0 v1 : Value) (t : Nat), V.heap.size = n → Frz (V.alloc (Obj.cells #[v0, v1] t)) n := fun V n v0 v1 t h => h ▸ Frz.new V v0 v1 t
 refine ⟨?_, ?_, ?_, ?_, (by repeat' (first | (with_reducible exact Below.refl _ _) | (with_reducible assumption) | (with_reducible refine Below.alloc ?_ ?_ _) | (with_reducible refine below_drew ?_ _) | (with_reducible refine Below.drew ?_) | (with_reducible refine Below.setCell ?_ ?_ _) | go_size))⟩
 ·exact ((nw _ _ _ _ _ (by simp)).alloc _).alloc _
 ·exact (nw _ _ _ _ _ (by simp)).alloc _
 ·exact nw _ _ _ _ _ (by simp)
 ·exact nf _ _ _ _ _ (by simp)

theorem ArgSt.toS {w W : World} {an ad bn bd : Int} (h : ArgSt w W an ad bn bd) : W.cell? ⟨w.heap.size, 0, none⟩ = some (.int .i64 an) ∧ W.cell? ⟨w.heap.size, 1, none⟩ = some (.int .i64 ad) ∧ W.cell? ⟨w.heap.size + 1, 0, none⟩ = some (.int .i64 bn) ∧ W.cell? ⟨w.heap.size + 1, 1, none⟩ = some (.int .i64 bd) ∧ Below w.heap.size w W ∧ w.heap.size + 2 < W.heap.size ∧ (W.cell? ⟨w.heap.size + 1 + 1, 0, none⟩).isSome = true ∧ (W.cell? ⟨w.heap.size + 1 + 1, 1, none⟩).isSome = true ∧ W.frozen? ⟨w.heap.size + 1 + 1, 0, none⟩ = false ∧ W.frozen? ⟨w.heap.size + 1 + 1, 1, none⟩ = false := by
 obtain ⟨⟨_, a0, a1⟩, ⟨_, b0, b1⟩, ⟨l, r0, r1⟩, ⟨f0, f1⟩, B⟩ := h
 exact ⟨a0, a1, b0, b1, B, l, by rw [r0]; rfl, by rw [r1]; rfl, f0, f1⟩

end Go.Proofs.YtggpdhdbeokkcaaGreat

namespace Go.Proofs.YtggpdhdbeokkcaaGreat
set_option linter.unusedVariables false
open Go.RowKit Go.Shelf

theorem made_any (N D : Int) (neg : Bool) (w : World) (N0 : 0 ≤ N) (N1 : N < 340282366920938463463374607431768211456) (D0 : 0 ≤ D) (D1 : D < 340282366920938463463374607431768211456) (n d er : Int) (h : madeT N neg D = (n, d, er)) :
  Calls Tryz.prog 96 #[.agg #[.int .u64 (hiW (N)), .int .u64 (loW (N))], .bool neg, .agg #[.int .u64 (hiW (D)), .int .u64 (loW (D))]] w fun e w' => e = .returned (.tuple #[.agg #[.int .i64 n, .int .i64 d], .int .i64 er]) ∧ Below w.heap.size w w' := by
 by_cases hz : D = 0
 ·subst hz
  unfold madeT at h
  rw [if_pos rfl] at h
  obtain ⟨e1, e2, e3⟩ := three h
  subst e1 e2 e3
  exact made_zero N neg w
 ·exact made_pos N D neg w N0 N1 (by omega) D1 n d er h

set_option maxRecDepth 100000 in
set_option maxHeartbeats 8000000 in
theorem refTimes_any (an ad bn bd : Int) (w : World) (a0 : -1152921504606846976 ≤ an) (a1 : an ≤ 1152921504606846976) (a2 : 1 ≤ ad) (a3 : ad ≤ 1152921504606846976) (b0 : -1152921504606846976 ≤ bn) (b1 : bn ≤ 1152921504606846976) (b2 : 1 ≤ bd) (b3 : bd ≤ 1152921504606846976) (X Y n d er : Int) (hX : (an.natAbs : Int) * (bn.natAbs : Int) = X) (hY : (ad.natAbs : Int) * (bd.natAbs : Int) = Y) (x0 : 0 ≤ X) (x1 : X < 340282366920938463463374607431768211456) (y0 : 0 ≤ Y) (y1 : Y < 340282366920938463463374607431768211456) (h : madeT X (!(decide (an < 0) == decide (bn < 0))) Y = (n, d, er)) :
  Calls Tryz.prog 78 #[.agg #[.int .i64 an, .int .i64 ad], .agg #[.int .i64 bn, .int .i64 bd]] w fun e w' => e = .returned (.tuple #[.agg #[.int .i64 n, .int .i64 d], .int .i64 er]) ∧ Below w.heap.size w w' := by
 have C1 := fun w => Lib.hid (refSize_any an w (by omega) (by omega))
 have C2 := fun w => Lib.hid (refSize_any bn w (by omega) (by omega))
 have C3 := fun w => Lib.hid (refSize_any ad w (by omega) (by omega))
 have C4 := fun w => Lib.hid (refSize_any bd w (by omega) (by omega))
 have CM := fun w => Lib.hid (refMul_any (an.natAbs : Int) (bn.natAbs : Int) w (by omega) (by omega) (by omega) (by omega))
 have CN := fun w => Lib.hid (refMul_any (ad.natAbs : Int) (bd.natAbs : Int) w (by omega) (by omega) (by omega) (by omega))
 have CD := fun w => Lib.hid (made_any X Y _ w x0 x1 y0 y1 n d er h)
 simp only [hX] at CM
 simp only [hY] at CN
 obtain ⟨a, han⟩ : ∃ a : Int, a = (an.natAbs : Int) := ⟨_, rfl⟩
 obtain ⟨b, hbn⟩ : ∃ a : Int, a = (bn.natAbs : Int) := ⟨_, rfl⟩
 obtain ⟨a', had⟩ : ∃ a : Int, a = (ad.natAbs : Int) := ⟨_, rfl⟩
 obtain ⟨b', hbd⟩ : ∃ a : Int, a = (bd.natAbs : Int) := ⟨_, rfl⟩
 simp only [← han] at C1 CM
 simp only [← hbn] at C2 CM
 simp only [← had] at C3 CN
 simp only [← hbd] at C4 CN
 clear hX hY han hbn had hbd a0 a1 a2 a3 b0 b1 b2 b3 x0 x1 y0 y1 h
 generalize hiW X = X1 at *
 generalize loW X = X2 at *
 generalize hiW Y = Y1 at *
 generalize loW Y = Y2 at *
 go_enter Tryz.func78, Tryz.ntmps78
 go_upto_region 1 with fail
 obtain ⟨W0, hW0⟩ : ∃ W0, W0 = ((w.alloc (Obj.cells #[Value.int IntKind.i64 an, Value.int IntKind.i64 ad] 27)).alloc (Obj.cells #[Value.int IntKind.i64 bn, Value.int IntKind.i64 bd] 27)).alloc (Obj.cells #[Value.int IntKind.i64 0, Value.int IntKind.i64 0] 27) := ⟨_, rfl⟩
 rw [← hW0]
 have S0 := Lib.hid (ArgSt.start w an ad bn bd W0 hW0)
 clear hW0
 have HS0 := Lib.hid (ArgSt.toS S0.out.drew)
 go_region_held3 (fun WX => WX.cell? ⟨w.heap.size, 0, none⟩ = some (.int .i64 an) ∧ WX.cell? ⟨w.heap.size, 1, none⟩ = some (.int .i64 ad) ∧ WX.cell? ⟨w.heap.size + 1, 0, none⟩ = some (.int .i64 bn) ∧ WX.cell? ⟨w.heap.size + 1, 1, none⟩ = some (.int .i64 bd) ∧ Below w.heap.size w WX ∧ w.heap.size + 2 < WX.heap.size ∧ (WX.cell? ⟨w.heap.size + 1 + 1, 0, none⟩).isSome = true ∧ (WX.cell? ⟨w.heap.size + 1 + 1, 1, none⟩).isSome = true ∧ WX.frozen? ⟨w.heap.size + 1 + 1, 0, none⟩ = false ∧ WX.frozen? ⟨w.heap.size + 1 + 1, 1, none⟩ = false)
  (first | exact keepS (by assumption) hb | exact HS0.out | exact storeS (by assumption) | go_keep)
  (first
   | (go_at_call 36; (first | (with_reducible refine ((C1 _).out).mono ?_) | (with_reducible refine ((C2 _).out).mono ?_) | (with_reducible refine ((C3 _).out).mono ?_) | (with_reducible refine ((C4 _).out).mono ?_)); rintro e w' ⟨rfl, rfl⟩)
   | (go_at_call 104; (first | (with_reducible refine ((CM _).out).mono ?_) | (with_reducible refine ((CN _).out).mono ?_)); rintro e w2 ⟨rfl, hb⟩)
   | (go_at_call 96; (with_reducible refine ((CD _).out).mono ?_); rintro e w2 ⟨rfl, hb⟩; have hK := keepS (w := w) (v0 := .int .i64 an) (v1 := .int .i64 ad) (v2 := .int .i64 bn) (v3 := .int .i64 bd) (by assumption) hb; obtain ⟨_, _, _, _, _, _, z8, z9, k8, k9⟩ := hK; obtain ⟨q8, r8⟩ := Option.isSome_iff_exists.1 z8; obtain ⟨q9, r9⟩ := Option.isSome_iff_exists.1 z9))
 all_goals
  rename_i hS
  have hB := hS.2.2.2.2.1
  clear hS
  go_wp2
  refine bodyPost_ret (by simp [results, Tryz.results78, go_sem, r8, r9]; try rfl) rfl ?_
  exact ⟨rfl, hB⟩

end Go.Proofs.YtggpdhdbeokkcaaGreat

namespace Go.Proofs.YtggpdhdbeokkcaaGreat
set_option linter.unusedVariables false

theorem sign_mul (a b : Int) : (if (!(decide (a < 0) == decide (b < 0))) = true then -((a.natAbs : Int) * (b.natAbs : Int)) else (a.natAbs : Int) * (b.natAbs : Int)) = a * b := by
 rcases Int.lt_or_le a 0 with h1 | h1 <;> rcases Int.lt_or_le b 0 with h2 | h2
 ·rw [if_neg (by simp [h1, h2]), show (a.natAbs : Int) = -a by omega, show (b.natAbs : Int) = -b by omega, Int.neg_mul_neg]
 ·rw [if_pos (by simp [h1, show ¬ b < 0 by omega]), show (a.natAbs : Int) = -a by omega, show (b.natAbs : Int) = b by omega, Int.neg_mul, Int.neg_neg]
 ·rw [if_pos (by simp [h2, show ¬ a < 0 by omega]), show (a.natAbs : Int) = a by omega, show (b.natAbs : Int) = -b by omega, Int.mul_neg, Int.neg_neg]
 ·rw [if_neg (by simp [show ¬ a < 0 by omega, show ¬ b < 0 by omega]), show (a.natAbs : Int) = a by omega, show (b.natAbs : Int) = b by omega]

theorem mul_made {an ad bn bd : Int} (va : Vld an ad) (vb : Vld bn bd) : mulT an ad bn bd = madeT ((an.natAbs : Int) * (bn.natAbs : Int)) (!(decide (an < 0) == decide (bn < 0))) ((ad.natAbs : Int) * (bd.natAbs : Int)) := by
 unfold mulT
 rw [okT_yes (vB_yes va) (vB_yes vb)]
 unfold madeT
 have a1 := va.d1
 have b1 := vb.d1
 rw [show (ad.natAbs : Int) = ad by omega, show (bd.natAbs : Int) = bd by omega]
 have hp := Int.mul_pos (show 0 < ad by omega) (show 0 < bd by omega)
 rw [if_neg (by omega), sign_mul]

end Go.Proofs.YtggpdhdbeokkcaaGreat

namespace Go.Proofs.YtggpdhdbeokkcaaGreat
set_option linter.unusedVariables false

def addR (an bn X Y D : Int) : Int × Int × Int := if decide (an < 0) = decide (bn < 0) then madeT (X + Y) (decide (an < 0)) D else if X < Y then madeT (Y - X) (decide (bn < 0)) D else madeT (X - Y) (decide (an < 0)) D
def cmpR (an bn X Y : Int) : Int := if an < 0 ∧ 0 ≤ bn then -1 else if 0 ≤ an ∧ bn < 0 then 1 else if X = Y then 0 else if decide (X < Y) = decide (0 ≤ an) then -1 else 1

theorem add_made {an ad bn bd : Int} (va : Vld an ad) (vb : Vld bn bd) : addT an ad bn bd = addR an bn ((an.natAbs : Int) * (bd.natAbs : Int)) ((bn.natAbs : Int) * (ad.natAbs : Int)) ((ad.natAbs : Int) * (bd.natAbs : Int)) := by
 unfold addT addR
 rw [okT_yes (vB_yes va) (vB_yes vb)]
 unfold madeT
 have a1 := va.d1
 have b1 := vb.d1
 rw [show (ad.natAbs : Int) = ad by omega, show (bd.natAbs : Int) = bd by omega]
 have hp := Int.mul_pos (show 0 < ad by omega) (show 0 < bd by omega)
 simp only [if_neg (show ¬ ad * bd = 0 by omega)]
 rcases Int.lt_or_le an 0 with h1 | h1 <;> rcases Int.lt_or_le bn 0 with h2 | h2
 ·have e1 : decide (an < 0) = true := by simpa using h1
  have e2 : decide (bn < 0) = true := by simpa using h2
  rw [e1, e2, if_pos rfl, if_pos rfl, show (an.natAbs : Int) = -an by omega, show (bn.natAbs : Int) = -bn by omega]
  congr 1
  rw [Int.neg_mul, Int.neg_mul]; omega
 ·have e1 : decide (an < 0) = true := by simpa using h1
  have e2 : decide (bn < 0) = false := by simpa using h2
  rw [e1, e2, if_neg (by simp), show (an.natAbs : Int) = -an by omega, show (bn.natAbs : Int) = bn by omega, Int.neg_mul]
  split
  ·rw [if_neg (by simp)]; congr 1; omega
  ·rw [if_pos rfl]; congr 1; omega
 ·have e1 : decide (an < 0) = false := by simpa using h1
  have e2 : decide (bn < 0) = true := by simpa using h2
  rw [e1, e2, if_neg (by simp), show (an.natAbs : Int) = an by omega, show (bn.natAbs : Int) = -bn by omega, Int.neg_mul]
  split
  ·rw [if_pos rfl]; congr 1; omega
  ·rw [if_neg (by simp)]; congr 1; omega
 ·have e1 : decide (an < 0) = false := by simpa using h1
  have e2 : decide (bn < 0) = false := by simpa using h2
  rw [e1, e2, if_pos rfl, if_neg (by simp), show (an.natAbs : Int) = an by omega, show (bn.natAbs : Int) = bn by omega]

theorem cmp_made {an ad bn bd : Int} (va : Vld an ad) (vb : Vld bn bd) : sgn (an * bd + -bn * ad) = cmpR an bn ((an.natAbs : Int) * (bd.natAbs : Int)) ((bn.natAbs : Int) * (ad.natAbs : Int)) := by
 unfold cmpR
 have a1 := va.d1
 have b1 := vb.d1
 rw [show (ad.natAbs : Int) = ad by omega, show (bd.natAbs : Int) = bd by omega, Int.neg_mul]
 have s1 : ∀ z : Int, z < 0 → sgn z = -1 := fun z hz => by unfold sgn; grind
 have s2 : ∀ z : Int, 0 < z → sgn z = 1 := fun z hz => by unfold sgn; grind
 have s3 : sgn 0 = 0 := by unfold sgn; rfl
 rcases Int.lt_or_le an 0 with h1 | h1 <;> rcases Int.lt_or_le bn 0 with h2 | h2
 ·have e1 : decide (0 ≤ an) = false := by simp; omega
  rw [if_neg (by omega), if_neg (by omega), e1, show (an.natAbs : Int) = -an by omega, show (bn.natAbs : Int) = -bn by omega, Int.neg_mul, Int.neg_mul]
  split
  ·rw [show an * bd + -(bn * ad) = 0 by omega, s3]
  ·split
   ·rename_i h3 h4
    rw [s1 _ (by simp at h4; omega)]
   ·rename_i h3 h4
    rw [s2 _ (by simp at h4; omega)]
 ·rw [if_pos ⟨h1, h2⟩, s1]
  have := Int.mul_neg_of_neg_of_pos h1 (show 0 < bd by omega)
  have := Int.mul_nonneg h2 (show 0 ≤ ad by omega)
  omega
 ·rw [if_neg (by omega), if_pos ⟨h1, h2⟩, s2]
  have := Int.mul_neg_of_neg_of_pos h2 (show 0 < ad by omega)
  have := Int.mul_nonneg h1 (show 0 ≤ bd by omega)
  omega
 ·have e1 : decide (0 ≤ an) = true := by simpa using h1
  rw [if_neg (by omega), if_neg (by omega), e1, show (an.natAbs : Int) = an by omega, show (bn.natAbs : Int) = bn by omega]
  split
  ·rw [show an * bd + -(bn * ad) = 0 by omega, s3]
  ·split
   ·rename_i h3 h4
    rw [s1 _ (by simp at h4; omega)]
   ·rename_i h3 h4
    rw [s2 _ (by simp at h4; omega)]

end Go.Proofs.YtggpdhdbeokkcaaGreat

namespace Go.Proofs.YtggpdhdbeokkcaaGreat
set_option linter.unusedVariables false
open Go.RowKit Go.Shelf

theorem nat_mul_bd {a b : Int} (ha : (a.natAbs : Int) ≤ 1152921504606846976) (hb : (b.natAbs : Int) ≤ 1152921504606846976) : 0 ≤ (a.natAbs : Int) * (b.natAbs : Int) ∧ (a.natAbs : Int) * (b.natAbs : Int) ≤ 1329227995784915872903807060280344576 := by
 refine ⟨Int.mul_nonneg (by omega) (by omega), ?_⟩
 have h1 := Int.mul_le_mul_of_nonneg_right ha (show 0 ≤ (b.natAbs : Int) by omega)
 omega

structure Add1R (w : World) (an ad bn bd a b a2 b2 X1 X2 Y1 Y2 D1 D2 : Int) (Wc : World) (L : Nat → Bool) (v : Nat → Value) (g : Nat → Nat) (W : World) : Prop where
 st : Below Wc.heap.size Wc W
 f0 : Had L 0 (v 9 = .pointer (some ⟨w.heap.size, 0, none⟩))
 f1 : Had L 1 (v 10 = .int .i64 an)
 f2 : Had L 2 (v 11 = .int .u64 a)
 f3 : Had L 3 (v 12 = .pointer (some ⟨w.heap.size + 1, 1, none⟩))
 f4 : Had L 4 (v 13 = .int .i64 bd)
 f5 : Had L 5 (v 14 = .int .u64 b)
 f6 : Had L 6 (v 15 = .agg #[.int .u64 X1, .int .u64 X2])
 f7 : Had L 7 (v 6 = .pointer (some ⟨g 7, 0, none⟩))
 b7 : Had L 7 (Own Wc.heap.size W (g 7))
 c8 : Had L 8 (L 7 = true ∧ Blk W (g 7) (.int .u64 X1) (.int .u64 X2))

structure Add2R (w : World) (an ad bn bd a b a2 b2 X1 X2 Y1 Y2 D1 D2 : Int) (Wc : World) (L : Nat → Bool) (v : Nat → Value) (g : Nat → Nat) (W : World) : Prop where
 st : Below Wc.heap.size Wc W
 f0 : Had L 0 (v 16 = .pointer (some ⟨w.heap.size + 1, 0, none⟩))
 f1 : Had L 1 (v 17 = .int .i64 bn)
 f2 : Had L 2 (v 18 = .int .u64 b2)
 f3 : Had L 3 (v 19 = .pointer (some ⟨w.heap.size, 1, none⟩))
 f4 : Had L 4 (v 20 = .int .i64 ad)
 f5 : Had L 5 (v 21 = .int .u64 a2)
 f6 : Had L 6 (v 22 = .agg #[.int .u64 Y1, .int .u64 Y2])
 f7 : Had L 7 (v 7 = .pointer (some ⟨g 7, 0, none⟩))
 b7 : Had L 7 (Own Wc.heap.size W (g 7))
 c8 : Had L 8 (L 7 = true ∧ Blk W (g 7) (.int .u64 Y1) (.int .u64 Y2))

structure Add3R (w : World) (an ad bn bd a b a2 b2 X1 X2 Y1 Y2 D1 D2 : Int) (Wc : World) (L : Nat → Bool) (v : Nat → Value) (g : Nat → Nat) (W : World) : Prop where
 st : Below Wc.heap.size Wc W
 f0 : Had L 0 (v 23 = .pointer (some ⟨w.heap.size, 1, none⟩))
 f1 : Had L 1 (v 24 = .int .i64 ad)
 f2 : Had L 2 (v 25 = .int .u64 a2)
 f3 : Had L 3 (v 26 = .pointer (some ⟨w.heap.size + 1, 1, none⟩))
 f4 : Had L 4 (v 27 = .int .i64 bd)
 f5 : Had L 5 (v 28 = .int .u64 b)
 f6 : Had L 6 (v 29 = .agg #[.int .u64 D1, .int .u64 D2])
 f7 : Had L 7 (v 8 = .pointer (some ⟨g 7, 0, none⟩))
 b7 : Had L 7 (Own Wc.heap.size W (g 7))
 c8 : Had L 8 (L 7 = true ∧ Blk W (g 7) (.int .u64 D1) (.int .u64 D2))

structure Add5fR (w : World) (an ad bn bd a b a2 b2 X1 X2 Y1 Y2 D1 D2 : Int) (S1 S2 n d er : Int) (Wc : World) (L : Nat → Bool) (v : Nat → Value) (g : Nat → Nat) (W : World) : Prop where
 st : L 10 = false → Below Wc.heap.size Wc W
 sr : Had L 10 (∃ W2, Below Wc.heap.size Wc W2 ∧ W = (W2.setCell ⟨w.heap.size + 1 + 1, 0, none⟩ (.int .i64 n)).setCell ⟨w.heap.size + 1 + 1, 1, none⟩ (.int .i64 d))
 ar : Had L 10 (∀ j ∈ [0, 1, 2, 3, 4, 5, 6, 7, 8, 9], L j = true)
 f0 : Had L 0 (v 37 = .agg #[.int .u64 X1, .int .u64 X2])
 f1 : Had L 1 (v 38 = .agg #[.int .u64 Y1, .int .u64 Y2])
 f2 : Had L 2 (v 39 = .agg #[.int .u64 S1, .int .u64 S2])
 f3 : Had L 3 (v 40 = .pointer (some ⟨w.heap.size, 0, none⟩))
 f4 : Had L 4 (v 41 = .int .i64 an)
 f5 : Had L 5 (v 42 = .bool false)
 f6 : Had L 6 (v 43 = .agg #[.int .u64 D1, .int .u64 D2])
 f7 : Had L 7 (v 44 = .tuple #[.agg #[.int .i64 n, .int .i64 d], .int .i64 er])
 f8 : Had L 8 (v 45 = .agg #[.int .i64 n, .int .i64 d])
 f9 : Had L 9 (v 46 = .int .i64 er)
 f11 : Had L 11 (v 5 = .int .i64 er)

structure Add8fR (w : World) (an ad bn bd a b a2 b2 X1 X2 Y1 Y2 D1 D2 : Int) (Q1 Q2 n d er : Int) (Wc : World) (L : Nat → Bool) (v : Nat → Value) (g : Nat → Nat) (W : World) : Prop where
 st : L 10 = false → Below Wc.heap.size Wc W
 sr : Had L 10 (∃ W2, Below Wc.heap.size Wc W2 ∧ W = (W2.setCell ⟨w.heap.size + 1 + 1, 0, none⟩ (.int .i64 n)).setCell ⟨w.heap.size + 1 + 1, 1, none⟩ (.int .i64 d))
 ar : Had L 10 (∀ j ∈ [0, 1, 2, 3, 4, 5, 6, 7, 8, 9], L j = true)
 f0 : Had L 0 (v 60 = .agg #[.int .u64 X1, .int .u64 X2])
 f1 : Had L 1 (v 61 = .agg #[.int .u64 Y1, .int .u64 Y2])
 f2 : Had L 2 (v 62 = .agg #[.int .u64 Q1, .int .u64 Q2])
 f3 : Had L 3 (v 63 = .pointer (some ⟨w.heap.size, 0, none⟩))
 f4 : Had L 4 (v 64 = .int .i64 an)
 f5 : Had L 5 (v 65 = .bool false)
 f6 : Had L 6 (v 66 = .agg #[.int .u64 D1, .int .u64 D2])
 f7 : Had L 7 (v 67 = .tuple #[.agg #[.int .i64 n, .int .i64 d], .int .i64 er])
 f8 : Had L 8 (v 68 = .agg #[.int .i64 n, .int .i64 d])
 f9 : Had L 9 (v 69 = .int .i64 er)
 f11 : Had L 11 (v 5 = .int .i64 er)

structure Add7fR (w : World) (an ad bn bd a b a2 b2 X1 X2 Y1 Y2 D1 D2 : Int) (M1 M2 n d er : Int) (Wc : World) (L : Nat → Bool) (v : Nat → Value) (g : Nat → Nat) (W : World) : Prop where
 st : L 10 = false → Below Wc.heap.size Wc W
 sr : Had L 10 (∃ W2, Below Wc.heap.size Wc W2 ∧ W = (W2.setCell ⟨w.heap.size + 1 + 1, 0, none⟩ (.int .i64 n)).setCell ⟨w.heap.size + 1 + 1, 1, none⟩ (.int .i64 d))
 ar : Had L 10 (∀ j ∈ [0, 1, 2, 3, 4, 5, 6, 7, 8, 9], L j = true)
 f0 : Had L 0 (v 50 = .agg #[.int .u64 Y1, .int .u64 Y2])
 f1 : Had L 1 (v 51 = .agg #[.int .u64 X1, .int .u64 X2])
 f2 : Had L 2 (v 52 = .agg #[.int .u64 M1, .int .u64 M2])
 f3 : Had L 3 (v 53 = .pointer (some ⟨w.heap.size + 1, 0, none⟩))
 f4 : Had L 4 (v 54 = .int .i64 bn)
 f5 : Had L 5 (v 55 = .bool true)
 f6 : Had L 6 (v 56 = .agg #[.int .u64 D1, .int .u64 D2])
 f7 : Had L 7 (v 57 = .tuple #[.agg #[.int .i64 n, .int .i64 d], .int .i64 er])
 f8 : Had L 8 (v 58 = .agg #[.int .i64 n, .int .i64 d])
 f9 : Had L 9 (v 59 = .int .i64 er)
 f11 : Had L 11 (v 5 = .int .i64 er)

structure Add8tR (w : World) (an ad bn bd a b a2 b2 X1 X2 Y1 Y2 D1 D2 : Int) (Q1 Q2 n d er : Int) (Wc : World) (L : Nat → Bool) (v : Nat → Value) (g : Nat → Nat) (W : World) : Prop where
 st : L 10 = false → Below Wc.heap.size Wc W
 sr : Had L 10 (∃ W2, Below Wc.heap.size Wc W2 ∧ W = (W2.setCell ⟨w.heap.size + 1 + 1, 0, none⟩ (.int .i64 n)).setCell ⟨w.heap.size + 1 + 1, 1, none⟩ (.int .i64 d))
 ar : Had L 10 (∀ j ∈ [0, 1, 2, 3, 4, 5, 6, 7, 8, 9], L j = true)
 f0 : Had L 0 (v 60 = .agg #[.int .u64 X1, .int .u64 X2])
 f1 : Had L 1 (v 61 = .agg #[.int .u64 Y1, .int .u64 Y2])
 f2 : Had L 2 (v 62 = .agg #[.int .u64 Q1, .int .u64 Q2])
 f3 : Had L 3 (v 63 = .pointer (some ⟨w.heap.size, 0, none⟩))
 f4 : Had L 4 (v 64 = .int .i64 an)
 f5 : Had L 5 (v 65 = .bool true)
 f6 : Had L 6 (v 66 = .agg #[.int .u64 D1, .int .u64 D2])
 f7 : Had L 7 (v 67 = .tuple #[.agg #[.int .i64 n, .int .i64 d], .int .i64 er])
 f8 : Had L 8 (v 68 = .agg #[.int .i64 n, .int .i64 d])
 f9 : Had L 9 (v 69 = .int .i64 er)
 f11 : Had L 11 (v 5 = .int .i64 er)

structure Add7tR (w : World) (an ad bn bd a b a2 b2 X1 X2 Y1 Y2 D1 D2 : Int) (M1 M2 n d er : Int) (Wc : World) (L : Nat → Bool) (v : Nat → Value) (g : Nat → Nat) (W : World) : Prop where
 st : L 10 = false → Below Wc.heap.size Wc W
 sr : Had L 10 (∃ W2, Below Wc.heap.size Wc W2 ∧ W = (W2.setCell ⟨w.heap.size + 1 + 1, 0, none⟩ (.int .i64 n)).setCell ⟨w.heap.size + 1 + 1, 1, none⟩ (.int .i64 d))
 ar : Had L 10 (∀ j ∈ [0, 1, 2, 3, 4, 5, 6, 7, 8, 9], L j = true)
 f0 : Had L 0 (v 50 = .agg #[.int .u64 Y1, .int .u64 Y2])
 f1 : Had L 1 (v 51 = .agg #[.int .u64 X1, .int .u64 X2])
 f2 : Had L 2 (v 52 = .agg #[.int .u64 M1, .int .u64 M2])
 f3 : Had L 3 (v 53 = .pointer (some ⟨w.heap.size + 1, 0, none⟩))
 f4 : Had L 4 (v 54 = .int .i64 bn)
 f5 : Had L 5 (v 55 = .bool false)
 f6 : Had L 6 (v 56 = .agg #[.int .u64 D1, .int .u64 D2])
 f7 : Had L 7 (v 57 = .tuple #[.agg #[.int .i64 n, .int .i64 d], .int .i64 er])
 f8 : Had L 8 (v 58 = .agg #[.int .i64 n, .int .i64 d])
 f9 : Had L 9 (v 59 = .int .i64 er)
 f11 : Had L 11 (v 5 = .int .i64 er)

structure Add5tR (w : World) (an ad bn bd a b a2 b2 X1 X2 Y1 Y2 D1 D2 : Int) (S1 S2 n d er : Int) (Wc : World) (L : Nat → Bool) (v : Nat → Value) (g : Nat → Nat) (W : World) : Prop where
 st : L 10 = false → Below Wc.heap.size Wc W
 sr : Had L 10 (∃ W2, Below Wc.heap.size Wc W2 ∧ W = (W2.setCell ⟨w.heap.size + 1 + 1, 0, none⟩ (.int .i64 n)).setCell ⟨w.heap.size + 1 + 1, 1, none⟩ (.int .i64 d))
 ar : Had L 10 (∀ j ∈ [0, 1, 2, 3, 4, 5, 6, 7, 8, 9], L j = true)
 f0 : Had L 0 (v 37 = .agg #[.int .u64 X1, .int .u64 X2])
 f1 : Had L 1 (v 38 = .agg #[.int .u64 Y1, .int .u64 Y2])
 f2 : Had L 2 (v 39 = .agg #[.int .u64 S1, .int .u64 S2])
 f3 : Had L 3 (v 40 = .pointer (some ⟨w.heap.size, 0, none⟩))
 f4 : Had L 4 (v 41 = .int .i64 an)
 f5 : Had L 5 (v 42 = .bool true)
 f6 : Had L 6 (v 43 = .agg #[.int .u64 D1, .int .u64 D2])
 f7 : Had L 7 (v 44 = .tuple #[.agg #[.int .i64 n, .int .i64 d], .int .i64 er])
 f8 : Had L 8 (v 45 = .agg #[.int .i64 n, .int .i64 d])
 f9 : Had L 9 (v 46 = .int .i64 er)
 f11 : Had L 11 (v 5 = .int .i64 er)

set_option maxRecDepth 100000 in
set_option maxHeartbeats 16000000 in
theorem refAdd_walk (w : World) (an ad bn bd a b a2 b2 X1 X2 Y1 Y2 D1 D2 S1 S2 M1 M2 Q1 Q2 n d er : Int) (sa sb less : Bool)
  (C1 : ∀ w, Hid (Calls Tryz.prog 36 #[.int .i64 an] w fun e w' => e = .returned (.int .u64 a) ∧ w = w'))
  (C2 : ∀ w, Hid (Calls Tryz.prog 36 #[.int .i64 bn] w fun e w' => e = .returned (.int .u64 b2) ∧ w = w'))
  (C3 : ∀ w, Hid (Calls Tryz.prog 36 #[.int .i64 ad] w fun e w' => e = .returned (.int .u64 a2) ∧ w = w'))
  (C4 : ∀ w, Hid (Calls Tryz.prog 36 #[.int .i64 bd] w fun e w' => e = .returned (.int .u64 b) ∧ w = w'))
  (CM1 : ∀ w, Hid (Calls Tryz.prog 104 #[.int .u64 a, .int .u64 b] w fun e w' => e = .returned (.agg #[.int .u64 X1, .int .u64 X2]) ∧ Below w.heap.size w w'))
  (CM2 : ∀ w, Hid (Calls Tryz.prog 104 #[.int .u64 b2, .int .u64 a2] w fun e w' => e = .returned (.agg #[.int .u64 Y1, .int .u64 Y2]) ∧ Below w.heap.size w w'))
  (CM3 : ∀ w, Hid (Calls Tryz.prog 104 #[.int .u64 a2, .int .u64 b] w fun e w' => e = .returned (.agg #[.int .u64 D1, .int .u64 D2]) ∧ Below w.heap.size w w'))
  (CS : ∀ w, Hid (Calls Tryz.prog 75 #[.agg #[.int .u64 X1, .int .u64 X2], .agg #[.int .u64 Y1, .int .u64 Y2]] w fun e w' => e = .returned (.agg #[.int .u64 S1, .int .u64 S2]) ∧ Below w.heap.size w w'))
  (CL : ∀ w, Hid (Calls Tryz.prog 73 #[.agg #[.int .u64 X1, .int .u64 X2], .agg #[.int .u64 Y1, .int .u64 Y2]] w fun e w' => e = .returned (.bool less) ∧ Below w.heap.size w w'))
  (CM : ∀ w, Hid (Calls Tryz.prog 74 #[.agg #[.int .u64 Y1, .int .u64 Y2], .agg #[.int .u64 X1, .int .u64 X2]] w fun e w' => e = .returned (.agg #[.int .u64 M1, .int .u64 M2]) ∧ Below w.heap.size w w'))
  (CN : ∀ w, Hid (Calls Tryz.prog 74 #[.agg #[.int .u64 X1, .int .u64 X2], .agg #[.int .u64 Y1, .int .u64 Y2]] w fun e w' => e = .returned (.agg #[.int .u64 Q1, .int .u64 Q2]) ∧ Below w.heap.size w w'))
  (CD1 : sa = sb → ∀ w, Hid (Calls Tryz.prog 96 #[.agg #[.int .u64 S1, .int .u64 S2], .bool sa, .agg #[.int .u64 D1, .int .u64 D2]] w fun e w' => e = .returned (.tuple #[.agg #[.int .i64 n, .int .i64 d], .int .i64 er]) ∧ Below w.heap.size w w'))
  (CD2 : sa ≠ sb → less = true → ∀ w, Hid (Calls Tryz.prog 96 #[.agg #[.int .u64 M1, .int .u64 M2], .bool sb, .agg #[.int .u64 D1, .int .u64 D2]] w fun e w' => e = .returned (.tuple #[.agg #[.int .i64 n, .int .i64 d], .int .i64 er]) ∧ Below w.heap.size w w'))
  (CD3 : sa ≠ sb → less = false → ∀ w, Hid (Calls Tryz.prog 96 #[.agg #[.int .u64 Q1, .int .u64 Q2], .bool sa, .agg #[.int .u64 D1, .int .u64 D2]] w fun e w' => e = .returned (.tuple #[.agg #[.int .i64 n, .int .i64 d], .int .i64 er]) ∧ Below w.heap.size w w'))
  (d1 : decide (an < 0) = sa) (d2 : decide (bn < 0) = sb) :
  Calls Tryz.prog 79 #[.agg #[.int .i64 an, .int .i64 ad], .agg #[.int .i64 bn, .int .i64 bd]] w fun e w' => e = .returned (.tuple #[.agg #[.int .i64 n, .int .i64 d], .int .i64 er]) ∧ Below w.heap.size w w' := by
 go_enter Tryz.func79, Tryz.ntmps79
 go_upto_region 1 with fail
 obtain ⟨W0, hW0⟩ : ∃ W0, W0 = ((w.alloc (Obj.cells #[Value.int IntKind.i64 an, Value.int IntKind.i64 ad] 27)).alloc (Obj.cells #[Value.int IntKind.i64 bn, Value.int IntKind.i64 bd] 27)).alloc (Obj.cells #[Value.int IntKind.i64 0, Value.int IntKind.i64 0] 27) := ⟨_, rfl⟩
 rw [← hW0]
 have S0 := Lib.hid (ArgSt.start w an ad bn bd W0 hW0)
 clear hW0
 have HA := Lib.hid S0.out.1
 have HB := Lib.hid S0.out.2.1
 have HR := Lib.hid S0.out.2.2.1
 have HF := Lib.hid S0.out.2.2.2.1
 have HW := Lib.hid S0.out.2.2.2.2
 clear S0
 refine wp_region_each (fun L A W => ∃ (v : Nat → Value) (g : Nat → Nat), A = ⟨#[.agg #[.int .i64 an, .int .i64 ad], .agg #[.int .i64 bn, .int .i64 bd], .pointer (some ⟨w.heap.size, 0, none⟩), .pointer (some ⟨w.heap.size + 1, 0, none⟩), .pointer (some ⟨w.heap.size + 1 + 1, 0, none⟩), .int .i64 0, v 6, undef, undef, v 9, v 10, v 11, v 12, v 13, v 14, v 15, undef, undef, undef, undef, undef, undef, undef, undef, undef, undef, undef, undef, undef, undef, undef, undef, undef, undef, undef, undef, undef, undef, undef, undef, undef, undef, undef, undef, undef, undef, undef, undef, undef, undef, undef, undef, undef, undef, undef, undef, undef, undef, undef, undef, undef, undef, undef, undef, undef, undef, undef, undef, undef, undef], []⟩ ∧ Add1R w an ad bn bd a b a2 b2 X1 X2 Y1 Y2 D1 D2 W0 L v g W) (by kernel_rfl) (by kernel_rfl) ⟨fun _ => undef, fun _ => 0, rfl, ⟨Below.drew (Below.refl _ _), Had.none, Had.none, Had.none, Had.none, Had.none, Had.none, Had.none, Had.none, Had.none, Had.none⟩⟩ (rs := [0, 1, 2, 3, 4, 5, 6, 7, 8]) (by kernel_rfl) ?_ ?_
 ·refine EachOf.cons [] rfl (by kernel_rfl) ?_ ?_
  ·rintro L A W ⟨v, g, rfl, hR⟩ hi hw K hK
   go_simp
   refine hK.out _ _ ?_
   exact ⟨(fun j => if j = 9 then .pointer (some ⟨w.heap.size, 0, none⟩) else v j), g, rfl, ⟨hR.st, (fun _ => rfl), hR.f1.keep rfl, hR.f2.keep rfl, hR.f3.keep rfl, hR.f4.keep rfl, hR.f5.keep rfl, hR.f6.keep rfl, hR.f7.keep rfl, hR.b7.keep rfl, hR.c8.keepM rfl (fun h => ⟨upd_on h.1, h.2⟩)⟩⟩
  refine EachOf.cons [0] rfl (by kernel_rfl) ?_ ?_
  ·rintro L A W ⟨v, g, rfl, hR⟩ hi hw K hK
   have e0 := hR.f0 (hw 0 (by simp))
   simp only [e0]
   clear e0
   obtain ⟨_, q0, q1⟩ := HA.out.on hR.st
   go_simp
   refine hK.out _ _ ?_
   exact ⟨(fun j => if j = 9 then .pointer (some ⟨w.heap.size, 0, none⟩) else if j = 10 then .int .i64 an else v j), g, rfl, ⟨hR.st, (fun _ => rfl), (fun _ => rfl), hR.f2.keep rfl, hR.f3.keep rfl, hR.f4.keep rfl, hR.f5.keep rfl, hR.f6.keep rfl, hR.f7.keep rfl, hR.b7.keep rfl, hR.c8.keepM rfl (fun h => ⟨upd_on h.1, h.2⟩)⟩⟩
  refine EachOf.cons [1] rfl (by kernel_rfl) ?_ ?_
  ·rintro L A W ⟨v, g, rfl, hR⟩ hi hw K hK
   have e1 := hR.f1 (hw 1 (by simp))
   simp only [e1]
   clear e1
   go_simp
   go_at_call 36
   (with_reducible refine ((C1 _).out).mono ?_)
   rintro e w2 ⟨rfl, rfl⟩
   go_simp
   refine hK.out _ _ ?_
   exact ⟨(fun j => if j = 10 then .int .i64 an else if j = 11 then .int .u64 a else v j), g, rfl, ⟨hR.st, hR.f0.keep rfl, (fun _ => rfl), (fun _ => rfl), hR.f3.keep rfl, hR.f4.keep rfl, hR.f5.keep rfl, hR.f6.keep rfl, hR.f7.keep rfl, hR.b7.keep rfl, hR.c8.keepM rfl (fun h => ⟨upd_on h.1, h.2⟩)⟩⟩
  refine EachOf.cons [] rfl (by kernel_rfl) ?_ ?_
  ·rintro L A W ⟨v, g, rfl, hR⟩ hi hw K hK
   go_simp
   refine hK.out _ _ ?_
   exact ⟨(fun j => if j = 12 then .pointer (some ⟨w.heap.size + 1, 1, none⟩) else v j), g, rfl, ⟨hR.st, hR.f0.keep rfl, hR.f1.keep rfl, hR.f2.keep rfl, (fun _ => rfl), hR.f4.keep rfl, hR.f5.keep rfl, hR.f6.keep rfl, hR.f7.keep rfl, hR.b7.keep rfl, hR.c8.keepM rfl (fun h => ⟨upd_on h.1, h.2⟩)⟩⟩
  refine EachOf.cons [3] rfl (by kernel_rfl) ?_ ?_
  ·rintro L A W ⟨v, g, rfl, hR⟩ hi hw K hK
   have e3 := hR.f3 (hw 3 (by simp))
   simp only [e3]
   clear e3
   obtain ⟨_, q0, q1⟩ := HB.out.on hR.st
   go_simp
   refine hK.out _ _ ?_
   exact ⟨(fun j => if j = 12 then .pointer (some ⟨w.heap.size + 1, 1, none⟩) else if j = 13 then .int .i64 bd else v j), g, rfl, ⟨hR.st, hR.f0.keep rfl, hR.f1.keep rfl, hR.f2.keep rfl, (fun _ => rfl), (fun _ => rfl), hR.f5.keep rfl, hR.f6.keep rfl, hR.f7.keep rfl, hR.b7.keep rfl, hR.c8.keepM rfl (fun h => ⟨upd_on h.1, h.2⟩)⟩⟩
  refine EachOf.cons [4] rfl (by kernel_rfl) ?_ ?_
  ·rintro L A W ⟨v, g, rfl, hR⟩ hi hw K hK
   have e4 := hR.f4 (hw 4 (by simp))
   simp only [e4]
   clear e4
   go_simp
   go_at_call 36
   (with_reducible refine ((C4 _).out).mono ?_)
   rintro e w2 ⟨rfl, rfl⟩
   go_simp
   refine hK.out _ _ ?_
   exact ⟨(fun j => if j = 13 then .int .i64 bd else if j = 14 then .int .u64 b else v j), g, rfl, ⟨hR.st, hR.f0.keep rfl, hR.f1.keep rfl, hR.f2.keep rfl, hR.f3.keep rfl, (fun _ => rfl), (fun _ => rfl), hR.f6.keep rfl, hR.f7.keep rfl, hR.b7.keep rfl, hR.c8.keepM rfl (fun h => ⟨upd_on h.1, h.2⟩)⟩⟩
  refine EachOf.cons [2, 5] rfl (by kernel_rfl) ?_ ?_
  ·rintro L A W ⟨v, g, rfl, hR⟩ hi hw K hK
   have e2 := hR.f2 (hw 2 (by simp))
   have e5 := hR.f5 (hw 5 (by simp))
   simp only [e2, e5]
   clear e2 e5
   go_simp
   go_at_call 104
   (with_reducible refine ((CM1 _).out).mono ?_)
   rintro e w2 ⟨rfl, hb⟩
   go_simp
   refine hK.out _ _ ?_
   exact ⟨(fun j => if j = 11 then .int .u64 a else if j = 14 then .int .u64 b else if j = 15 then .agg #[.int .u64 X1, .int .u64 X2] else v j), g, rfl, ⟨below_on hR.st hb, hR.f0.keep rfl, hR.f1.keep rfl, (fun _ => rfl), hR.f3.keep rfl, hR.f4.keep rfl, (fun _ => rfl), (fun _ => rfl), hR.f7.keep rfl, hR.b7.keepM rfl (fun h => h.on hb), hR.c8.keepM rfl (fun h => ⟨upd_on h.1, h.2.on hb⟩)⟩⟩
  refine EachOf.cons [] rfl (by kernel_rfl) ?_ ?_
  ·rintro L A W ⟨v, g, rfl, hR⟩ hi hw K hK
   have hz := hR.st.size
   go_simp
   refine hK.out _ _ ?_
   have hb : Below W.heap.size W (W.alloc (Obj.cells #[Value.int IntKind.u64 0, Value.int IntKind.u64 0] 68)) := (Below.refl _ _).alloc (Nat.le_refl _) _
   exact ⟨(fun j => if j = 6 then .pointer (some ⟨W.heap.size, 0, none⟩) else v j), (fun j => if j = 7 then W.heap.size else g j), rfl, ⟨below_on hR.st hb, hR.f0.keep rfl, hR.f1.keep rfl, hR.f2.keep rfl, hR.f3.keep rfl, hR.f4.keep rfl, hR.f5.keep rfl, hR.f6.keep rfl, (fun _ => rfl), (fun _ => Own.new _ _ _ _ hz), (fun h => absurd ((hR.c8 (upd_back h rfl)).1) (by simp [hi]))⟩⟩
  refine EachOf.cons [7, 6] rfl (by kernel_rfl) ?_ ?_
  ·rintro L A W ⟨v, g, rfl, hR⟩ hi hw K hK
   have e7 := hR.f7 (hw 7 (by simp))
   have e6 := hR.f6 (hw 6 (by simp))
   simp only [e7, e6]
   clear e7 e6
   have o2 := hR.b7 (hw 7 (by simp))
   have o1 := o2.1
   have HO := Lib.hid o2
   clear o2
   obtain ⟨_, ⟨u5, v5, l5, p5, q5⟩, r5, s5⟩ := HO.out
   go_simp
   have o2 := HO.out
   refine hK.out _ _ ?_
   exact ⟨(fun j => if j = 6 then .pointer (some ⟨g 7, 0, none⟩) else if j = 15 then .agg #[.int .u64 X1, .int .u64 X2] else v j), g, rfl, ⟨(hR.st.setCell (by simpa using o1) _).setCell (by simpa using o1) _, hR.f0.keep rfl, hR.f1.keep rfl, hR.f2.keep rfl, hR.f3.keep rfl, hR.f4.keep rfl, hR.f5.keep rfl, (fun _ => rfl), (fun _ => rfl), hR.b7.keepM rfl (fun h => h.set), (fun _ => ⟨upd_on (hw 7 (by simp)), o2.setw⟩)⟩⟩
  exact EachOf.nil
 rintro L A W1 ⟨v1, g1, rfl, hR⟩ hL
 have e7 := hR.f7 (hL 7 (by simp))
 have hst := Lib.hid hR.st
 simp only [e7]
 clear e7
 have HX := Lib.hid (hR.c8 (hL 8 (by simp))).2
 have HXF := Lib.hid (hR.b7 (hL 7 (by simp))).2.2
 have HXN := Lib.hid (hR.b7 (hL 7 (by simp))).1
 clear hR hL
 generalize g1 7 = gx at *
 replace HF := Lib.hid (HF.out.on HR.out.1 hst.out)
 replace HA := Lib.hid (HA.out.on hst.out)
 replace HB := Lib.hid (HB.out.on hst.out)
 replace HR := Lib.hid (HR.out.on hst.out)
 replace HW := Lib.hid (below_on HW.out hst.out)
 go_wp2_with fail
 refine wp_region_each (fun L A W => ∃ (v : Nat → Value) (g : Nat → Nat), A = ⟨#[.agg #[.int .i64 an, .int .i64 ad], .agg #[.int .i64 bn, .int .i64 bd], .pointer (some ⟨w.heap.size, 0, none⟩), .pointer (some ⟨w.heap.size + 1, 0, none⟩), .pointer (some ⟨w.heap.size + 1 + 1, 0, none⟩), .int .i64 0, .pointer (some ⟨gx, 0, none⟩), v 7, undef, v1 9, v1 10, v1 11, v1 12, v1 13, v1 14, v1 15, v 16, v 17, v 18, v 19, v 20, v 21, v 22, undef, undef, undef, undef, undef, undef, undef, undef, undef, undef, undef, undef, undef, undef, undef, undef, undef, undef, undef, undef, undef, undef, undef, undef, undef, undef, undef, undef, undef, undef, undef, undef, undef, undef, undef, undef, undef, undef, undef, undef, undef, undef, undef, undef, undef, undef, undef], []⟩ ∧ Add2R w an ad bn bd a b a2 b2 X1 X2 Y1 Y2 D1 D2 W1 L v g W) (by kernel_rfl) (by kernel_rfl) ⟨fun _ => undef, fun _ => 0, rfl, ⟨Below.drew (Below.refl _ _), Had.none, Had.none, Had.none, Had.none, Had.none, Had.none, Had.none, Had.none, Had.none, Had.none⟩⟩ (rs := [0, 1, 2, 3, 4, 5, 6, 7, 8]) (by kernel_rfl) ?_ ?_
 ·refine EachOf.cons [] rfl (by kernel_rfl) ?_ ?_
  ·rintro L A W ⟨v, g, rfl, hR⟩ hi hw K hK
   go_simp
   refine hK.out _ _ ?_
   exact ⟨(fun j => if j = 16 then .pointer (some ⟨w.heap.size + 1, 0, none⟩) else v j), g, rfl, ⟨hR.st, (fun _ => rfl), hR.f1.keep rfl, hR.f2.keep rfl, hR.f3.keep rfl, hR.f4.keep rfl, hR.f5.keep rfl, hR.f6.keep rfl, hR.f7.keep rfl, hR.b7.keep rfl, hR.c8.keepM rfl (fun h => ⟨upd_on h.1, h.2⟩)⟩⟩
  refine EachOf.cons [0] rfl (by kernel_rfl) ?_ ?_
  ·rintro L A W ⟨v, g, rfl, hR⟩ hi hw K hK
   have e0 := hR.f0 (hw 0 (by simp))
   simp only [e0]
   clear e0
   obtain ⟨_, q0, q1⟩ := HB.out.on hR.st
   go_simp
   refine hK.out _ _ ?_
   exact ⟨(fun j => if j = 16 then .pointer (some ⟨w.heap.size + 1, 0, none⟩) else if j = 17 then .int .i64 bn else v j), g, rfl, ⟨hR.st, (fun _ => rfl), (fun _ => rfl), hR.f2.keep rfl, hR.f3.keep rfl, hR.f4.keep rfl, hR.f5.keep rfl, hR.f6.keep rfl, hR.f7.keep rfl, hR.b7.keep rfl, hR.c8.keepM rfl (fun h => ⟨upd_on h.1, h.2⟩)⟩⟩
  refine EachOf.cons [1] rfl (by kernel_rfl) ?_ ?_
  ·rintro L A W ⟨v, g, rfl, hR⟩ hi hw K hK
   have e1 := hR.f1 (hw 1 (by simp))
   simp only [e1]
   clear e1
   go_simp
   go_at_call 36
   (with_reducible refine ((C2 _).out).mono ?_)
   rintro e w2 ⟨rfl, rfl⟩
   go_simp
   refine hK.out _ _ ?_
   exact ⟨(fun j => if j = 17 then .int .i64 bn else if j = 18 then .int .u64 b2 else v j), g, rfl, ⟨hR.st, hR.f0.keep rfl, (fun _ => rfl), (fun _ => rfl), hR.f3.keep rfl, hR.f4.keep rfl, hR.f5.keep rfl, hR.f6.keep rfl, hR.f7.keep rfl, hR.b7.keep rfl, hR.c8.keepM rfl (fun h => ⟨upd_on h.1, h.2⟩)⟩⟩
  refine EachOf.cons [] rfl (by kernel_rfl) ?_ ?_
  ·rintro L A W ⟨v, g, rfl, hR⟩ hi hw K hK
   go_simp
   refine hK.out _ _ ?_
   exact ⟨(fun j => if j = 19 then .pointer (some ⟨w.heap.size, 1, none⟩) else v j), g, rfl, ⟨hR.st, hR.f0.keep rfl, hR.f1.keep rfl, hR.f2.keep rfl, (fun _ => rfl), hR.f4.keep rfl, hR.f5.keep rfl, hR.f6.keep rfl, hR.f7.keep rfl, hR.b7.keep rfl, hR.c8.keepM rfl (fun h => ⟨upd_on h.1, h.2⟩)⟩⟩
  refine EachOf.cons [3] rfl (by kernel_rfl) ?_ ?_
  ·rintro L A W ⟨v, g, rfl, hR⟩ hi hw K hK
   have e3 := hR.f3 (hw 3 (by simp))
   simp only [e3]
   clear e3
   obtain ⟨_, q0, q1⟩ := HA.out.on hR.st
   go_simp
   refine hK.out _ _ ?_
   exact ⟨(fun j => if j = 19 then .pointer (some ⟨w.heap.size, 1, none⟩) else if j = 20 then .int .i64 ad else v j), g, rfl, ⟨hR.st, hR.f0.keep rfl, hR.f1.keep rfl, hR.f2.keep rfl, (fun _ => rfl), (fun _ => rfl), hR.f5.keep rfl, hR.f6.keep rfl, hR.f7.keep rfl, hR.b7.keep rfl, hR.c8.keepM rfl (fun h => ⟨upd_on h.1, h.2⟩)⟩⟩
  refine EachOf.cons [4] rfl (by kernel_rfl) ?_ ?_
  ·rintro L A W ⟨v, g, rfl, hR⟩ hi hw K hK
   have e4 := hR.f4 (hw 4 (by simp))
   simp only [e4]
   clear e4
   go_simp
   go_at_call 36
   (with_reducible refine ((C3 _).out).mono ?_)
   rintro e w2 ⟨rfl, rfl⟩
   go_simp
   refine hK.out _ _ ?_
   exact ⟨(fun j => if j = 20 then .int .i64 ad else if j = 21 then .int .u64 a2 else v j), g, rfl, ⟨hR.st, hR.f0.keep rfl, hR.f1.keep rfl, hR.f2.keep rfl, hR.f3.keep rfl, (fun _ => rfl), (fun _ => rfl), hR.f6.keep rfl, hR.f7.keep rfl, hR.b7.keep rfl, hR.c8.keepM rfl (fun h => ⟨upd_on h.1, h.2⟩)⟩⟩
  refine EachOf.cons [2, 5] rfl (by kernel_rfl) ?_ ?_
  ·rintro L A W ⟨v, g, rfl, hR⟩ hi hw K hK
   have e2 := hR.f2 (hw 2 (by simp))
   have e5 := hR.f5 (hw 5 (by simp))
   simp only [e2, e5]
   clear e2 e5
   go_simp
   go_at_call 104
   (with_reducible refine ((CM2 _).out).mono ?_)
   rintro e w2 ⟨rfl, hb⟩
   go_simp
   refine hK.out _ _ ?_
   exact ⟨(fun j => if j = 18 then .int .u64 b2 else if j = 21 then .int .u64 a2 else if j = 22 then .agg #[.int .u64 Y1, .int .u64 Y2] else v j), g, rfl, ⟨below_on hR.st hb, hR.f0.keep rfl, hR.f1.keep rfl, (fun _ => rfl), hR.f3.keep rfl, hR.f4.keep rfl, (fun _ => rfl), (fun _ => rfl), hR.f7.keep rfl, hR.b7.keepM rfl (fun h => h.on hb), hR.c8.keepM rfl (fun h => ⟨upd_on h.1, h.2.on hb⟩)⟩⟩
  refine EachOf.cons [] rfl (by kernel_rfl) ?_ ?_
  ·rintro L A W ⟨v, g, rfl, hR⟩ hi hw K hK
   have hz := hR.st.size
   go_simp
   refine hK.out _ _ ?_
   have hb : Below W.heap.size W (W.alloc (Obj.cells #[Value.int IntKind.u64 0, Value.int IntKind.u64 0] 68)) := (Below.refl _ _).alloc (Nat.le_refl _) _
   exact ⟨(fun j => if j = 7 then .pointer (some ⟨W.heap.size, 0, none⟩) else v j), (fun j => if j = 7 then W.heap.size else g j), rfl, ⟨below_on hR.st hb, hR.f0.keep rfl, hR.f1.keep rfl, hR.f2.keep rfl, hR.f3.keep rfl, hR.f4.keep rfl, hR.f5.keep rfl, hR.f6.keep rfl, (fun _ => rfl), (fun _ => Own.new _ _ _ _ hz), (fun h => absurd ((hR.c8 (upd_back h rfl)).1) (by simp [hi]))⟩⟩
  refine EachOf.cons [7, 6] rfl (by kernel_rfl) ?_ ?_
  ·rintro L A W ⟨v, g, rfl, hR⟩ hi hw K hK
   have e7 := hR.f7 (hw 7 (by simp))
   have e6 := hR.f6 (hw 6 (by simp))
   simp only [e7, e6]
   clear e7 e6
   have o2 := hR.b7 (hw 7 (by simp))
   have o1 := o2.1
   have HO := Lib.hid o2
   clear o2
   obtain ⟨_, ⟨u5, v5, l5, p5, q5⟩, r5, s5⟩ := HO.out
   go_simp
   have o2 := HO.out
   refine hK.out _ _ ?_
   exact ⟨(fun j => if j = 7 then .pointer (some ⟨g 7, 0, none⟩) else if j = 22 then .agg #[.int .u64 Y1, .int .u64 Y2] else v j), g, rfl, ⟨(hR.st.setCell (by simpa using o1) _).setCell (by simpa using o1) _, hR.f0.keep rfl, hR.f1.keep rfl, hR.f2.keep rfl, hR.f3.keep rfl, hR.f4.keep rfl, hR.f5.keep rfl, (fun _ => rfl), (fun _ => rfl), hR.b7.keepM rfl (fun h => h.set), (fun _ => ⟨upd_on (hw 7 (by simp)), o2.setw⟩)⟩⟩
  exact EachOf.nil
 rintro L A W2 ⟨v2, g2, rfl, hR⟩ hL
 have e7 := hR.f7 (hL 7 (by simp))
 have hst := Lib.hid hR.st
 simp only [e7]
 clear e7
 have HY := Lib.hid (hR.c8 (hL 8 (by simp))).2
 have HYF := Lib.hid (hR.b7 (hL 7 (by simp))).2.2
 have HYN := Lib.hid (hR.b7 (hL 7 (by simp))).1
 clear hR hL
 generalize g2 7 = gy at *
 replace HF := Lib.hid (HF.out.on HR.out.1 hst.out)
 replace HXF := Lib.hid (HXF.out.on HX.out.1 hst.out)
 replace HA := Lib.hid (HA.out.on hst.out)
 replace HB := Lib.hid (HB.out.on hst.out)
 replace HR := Lib.hid (HR.out.on hst.out)
 replace HX := Lib.hid (HX.out.on hst.out)
 replace HW := Lib.hid (below_on HW.out hst.out)
 go_wp2_with fail
 refine wp_region_each (fun L A W => ∃ (v : Nat → Value) (g : Nat → Nat), A = ⟨#[.agg #[.int .i64 an, .int .i64 ad], .agg #[.int .i64 bn, .int .i64 bd], .pointer (some ⟨w.heap.size, 0, none⟩), .pointer (some ⟨w.heap.size + 1, 0, none⟩), .pointer (some ⟨w.heap.size + 1 + 1, 0, none⟩), .int .i64 0, .pointer (some ⟨gx, 0, none⟩), .pointer (some ⟨gy, 0, none⟩), v 8, v1 9, v1 10, v1 11, v1 12, v1 13, v1 14, v1 15, v2 16, v2 17, v2 18, v2 19, v2 20, v2 21, v2 22, v 23, v 24, v 25, v 26, v 27, v 28, v 29, undef, undef, undef, undef, undef, undef, undef, undef, undef, undef, undef, undef, undef, undef, undef, undef, undef, undef, undef, undef, undef, undef, undef, undef, undef, undef, undef, undef, undef, undef, undef, undef, undef, undef, undef, undef, undef, undef, undef, undef], []⟩ ∧ Add3R w an ad bn bd a b a2 b2 X1 X2 Y1 Y2 D1 D2 W2 L v g W) (by kernel_rfl) (by kernel_rfl) ⟨fun _ => undef, fun _ => 0, rfl, ⟨Below.drew (Below.refl _ _), Had.none, Had.none, Had.none, Had.none, Had.none, Had.none, Had.none, Had.none, Had.none, Had.none⟩⟩ (rs := [0, 1, 2, 3, 4, 5, 6, 7, 8]) (by kernel_rfl) ?_ ?_
 ·refine EachOf.cons [] rfl (by kernel_rfl) ?_ ?_
  ·rintro L A W ⟨v, g, rfl, hR⟩ hi hw K hK
   go_simp
   refine hK.out _ _ ?_
   exact ⟨(fun j => if j = 23 then .pointer (some ⟨w.heap.size, 1, none⟩) else v j), g, rfl, ⟨hR.st, (fun _ => rfl), hR.f1.keep rfl, hR.f2.keep rfl, hR.f3.keep rfl, hR.f4.keep rfl, hR.f5.keep rfl, hR.f6.keep rfl, hR.f7.keep rfl, hR.b7.keep rfl, hR.c8.keepM rfl (fun h => ⟨upd_on h.1, h.2⟩)⟩⟩
  refine EachOf.cons [0] rfl (by kernel_rfl) ?_ ?_
  ·rintro L A W ⟨v, g, rfl, hR⟩ hi hw K hK
   have e0 := hR.f0 (hw 0 (by simp))
   simp only [e0]
   clear e0
   obtain ⟨_, q0, q1⟩ := HA.out.on hR.st
   go_simp
   refine hK.out _ _ ?_
   exact ⟨(fun j => if j = 23 then .pointer (some ⟨w.heap.size, 1, none⟩) else if j = 24 then .int .i64 ad else v j), g, rfl, ⟨hR.st, (fun _ => rfl), (fun _ => rfl), hR.f2.keep rfl, hR.f3.keep rfl, hR.f4.keep rfl, hR.f5.keep rfl, hR.f6.keep rfl, hR.f7.keep rfl, hR.b7.keep rfl, hR.c8.keepM rfl (fun h => ⟨upd_on h.1, h.2⟩)⟩⟩
  refine EachOf.cons [1] rfl (by kernel_rfl) ?_ ?_
  ·rintro L A W ⟨v, g, rfl, hR⟩ hi hw K hK
   have e1 := hR.f1 (hw 1 (by simp))
   simp only [e1]
   clear e1
   go_simp
   go_at_call 36
   (with_reducible refine ((C3 _).out).mono ?_)
   rintro e w2 ⟨rfl, rfl⟩
   go_simp
   refine hK.out _ _ ?_
   exact ⟨(fun j => if j = 24 then .int .i64 ad else if j = 25 then .int .u64 a2 else v j), g, rfl, ⟨hR.st, hR.f0.keep rfl, (fun _ => rfl), (fun _ => rfl), hR.f3.keep rfl, hR.f4.keep rfl, hR.f5.keep rfl, hR.f6.keep rfl, hR.f7.keep rfl, hR.b7.keep rfl, hR.c8.keepM rfl (fun h => ⟨upd_on h.1, h.2⟩)⟩⟩
  refine EachOf.cons [] rfl (by kernel_rfl) ?_ ?_
  ·rintro L A W ⟨v, g, rfl, hR⟩ hi hw K hK
   go_simp
   refine hK.out _ _ ?_
   exact ⟨(fun j => if j = 26 then .pointer (some ⟨w.heap.size + 1, 1, none⟩) else v j), g, rfl, ⟨hR.st, hR.f0.keep rfl, hR.f1.keep rfl, hR.f2.keep rfl, (fun _ => rfl), hR.f4.keep rfl, hR.f5.keep rfl, hR.f6.keep rfl, hR.f7.keep rfl, hR.b7.keep rfl, hR.c8.keepM rfl (fun h => ⟨upd_on h.1, h.2⟩)⟩⟩
  refine EachOf.cons [3] rfl (by kernel_rfl) ?_ ?_
  ·rintro L A W ⟨v, g, rfl, hR⟩ hi hw K hK
   have e3 := hR.f3 (hw 3 (by simp))
   simp only [e3]
   clear e3
   obtain ⟨_, q0, q1⟩ := HB.out.on hR.st
   go_simp
   refine hK.out _ _ ?_
   exact ⟨(fun j => if j = 26 then .pointer (some ⟨w.heap.size + 1, 1, none⟩) else if j = 27 then .int .i64 bd else v j), g, rfl, ⟨hR.st, hR.f0.keep rfl, hR.f1.keep rfl, hR.f2.keep rfl, (fun _ => rfl), (fun _ => rfl), hR.f5.keep rfl, hR.f6.keep rfl, hR.f7.keep rfl, hR.b7.keep rfl, hR.c8.keepM rfl (fun h => ⟨upd_on h.1, h.2⟩)⟩⟩
  refine EachOf.cons [4] rfl (by kernel_rfl) ?_ ?_
  ·rintro L A W ⟨v, g, rfl, hR⟩ hi hw K hK
   have e4 := hR.f4 (hw 4 (by simp))
   simp only [e4]
   clear e4
   go_simp
   go_at_call 36
   (with_reducible refine ((C4 _).out).mono ?_)
   rintro e w2 ⟨rfl, rfl⟩
   go_simp
   refine hK.out _ _ ?_
   exact ⟨(fun j => if j = 27 then .int .i64 bd else if j = 28 then .int .u64 b else v j), g, rfl, ⟨hR.st, hR.f0.keep rfl, hR.f1.keep rfl, hR.f2.keep rfl, hR.f3.keep rfl, (fun _ => rfl), (fun _ => rfl), hR.f6.keep rfl, hR.f7.keep rfl, hR.b7.keep rfl, hR.c8.keepM rfl (fun h => ⟨upd_on h.1, h.2⟩)⟩⟩
  refine EachOf.cons [2, 5] rfl (by kernel_rfl) ?_ ?_
  ·rintro L A W ⟨v, g, rfl, hR⟩ hi hw K hK
   have e2 := hR.f2 (hw 2 (by simp))
   have e5 := hR.f5 (hw 5 (by simp))
   simp only [e2, e5]
   clear e2 e5
   go_simp
   go_at_call 104
   (with_reducible refine ((CM3 _).out).mono ?_)
   rintro e w2 ⟨rfl, hb⟩
   go_simp
   refine hK.out _ _ ?_
   exact ⟨(fun j => if j = 25 then .int .u64 a2 else if j = 28 then .int .u64 b else if j = 29 then .agg #[.int .u64 D1, .int .u64 D2] else v j), g, rfl, ⟨below_on hR.st hb, hR.f0.keep rfl, hR.f1.keep rfl, (fun _ => rfl), hR.f3.keep rfl, hR.f4.keep rfl, (fun _ => rfl), (fun _ => rfl), hR.f7.keep rfl, hR.b7.keepM rfl (fun h => h.on hb), hR.c8.keepM rfl (fun h => ⟨upd_on h.1, h.2.on hb⟩)⟩⟩
  refine EachOf.cons [] rfl (by kernel_rfl) ?_ ?_
  ·rintro L A W ⟨v, g, rfl, hR⟩ hi hw K hK
   have hz := hR.st.size
   go_simp
   refine hK.out _ _ ?_
   have hb : Below W.heap.size W (W.alloc (Obj.cells #[Value.int IntKind.u64 0, Value.int IntKind.u64 0] 68)) := (Below.refl _ _).alloc (Nat.le_refl _) _
   exact ⟨(fun j => if j = 8 then .pointer (some ⟨W.heap.size, 0, none⟩) else v j), (fun j => if j = 7 then W.heap.size else g j), rfl, ⟨below_on hR.st hb, hR.f0.keep rfl, hR.f1.keep rfl, hR.f2.keep rfl, hR.f3.keep rfl, hR.f4.keep rfl, hR.f5.keep rfl, hR.f6.keep rfl, (fun _ => rfl), (fun _ => Own.new _ _ _ _ hz), (fun h => absurd ((hR.c8 (upd_back h rfl)).1) (by simp [hi]))⟩⟩
  refine EachOf.cons [7, 6] rfl (by kernel_rfl) ?_ ?_
  ·rintro L A W ⟨v, g, rfl, hR⟩ hi hw K hK
   have e7 := hR.f7 (hw 7 (by simp))
   have e6 := hR.f6 (hw 6 (by simp))
   simp only [e7, e6]
   clear e7 e6
   have o2 := hR.b7 (hw 7 (by simp))
   have o1 := o2.1
   have HO := Lib.hid o2
   clear o2
   obtain ⟨_, ⟨u5, v5, l5, p5, q5⟩, r5, s5⟩ := HO.out
   go_simp
   have o2 := HO.out
   refine hK.out _ _ ?_
   exact ⟨(fun j => if j = 8 then .pointer (some ⟨g 7, 0, none⟩) else if j = 29 then .agg #[.int .u64 D1, .int .u64 D2] else v j), g, rfl, ⟨(hR.st.setCell (by simpa using o1) _).setCell (by simpa using o1) _, hR.f0.keep rfl, hR.f1.keep rfl, hR.f2.keep rfl, hR.f3.keep rfl, hR.f4.keep rfl, hR.f5.keep rfl, (fun _ => rfl), (fun _ => rfl), hR.b7.keepM rfl (fun h => h.set), (fun _ => ⟨upd_on (hw 7 (by simp)), o2.setw⟩)⟩⟩
  exact EachOf.nil
 rintro L A W3 ⟨v3, g3, rfl, hR⟩ hL
 have e7 := hR.f7 (hL 7 (by simp))
 have hst := Lib.hid hR.st
 simp only [e7]
 clear e7
 have HD := Lib.hid (hR.c8 (hL 8 (by simp))).2
 have HDF := Lib.hid (hR.b7 (hL 7 (by simp))).2.2
 have HDN := Lib.hid (hR.b7 (hL 7 (by simp))).1
 clear hR hL
 generalize g3 7 = gd at *
 replace HF := Lib.hid (HF.out.on HR.out.1 hst.out)
 replace HXF := Lib.hid (HXF.out.on HX.out.1 hst.out)
 replace HYF := Lib.hid (HYF.out.on HY.out.1 hst.out)
 replace HA := Lib.hid (HA.out.on hst.out)
 replace HB := Lib.hid (HB.out.on hst.out)
 replace HR := Lib.hid (HR.out.on hst.out)
 replace HX := Lib.hid (HX.out.on hst.out)
 replace HY := Lib.hid (HY.out.on hst.out)
 replace HW := Lib.hid (below_on HW.out hst.out)
 cases sa
 ·cases sb
  ·have CP := CS
   have CD := CD1 rfl
   obtain ⟨_, HAp, HAq⟩ := HA.out
   obtain ⟨_, HBp, HBq⟩ := HB.out
   go_wp2_with fail
   clear HAp HAq HBp HBq
   refine wp_region_each (fun L A W => ∃ (v : Nat → Value) (g : Nat → Nat), A = ⟨#[.agg #[.int .i64 an, .int .i64 ad], .agg #[.int .i64 bn, .int .i64 bd], .pointer (some ⟨w.heap.size, 0, none⟩), .pointer (some ⟨w.heap.size + 1, 0, none⟩), .pointer (some ⟨w.heap.size + 1 + 1, 0, none⟩), v 5, .pointer (some ⟨gx, 0, none⟩), .pointer (some ⟨gy, 0, none⟩), .pointer (some ⟨gd, 0, none⟩), v1 9, v1 10, v1 11, v1 12, v1 13, v1 14, v1 15, v2 16, v2 17, v2 18, v2 19, v2 20, v2 21, v2 22, v3 23, v3 24, v3 25, v3 26, v3 27, v3 28, v3 29, .pointer (some ⟨w.heap.size, 0, none⟩), .int .i64 an, .bool false, .pointer (some ⟨w.heap.size + 1, 0, none⟩), .int .i64 bn, .bool false, .bool true, v 37, v 38, v 39, v 40, v 41, v 42, v 43, v 44, v 45, v 46, undef, undef, undef, undef, undef, undef, undef, undef, undef, undef, undef, undef, undef, undef, undef, undef, undef, undef, undef, undef, undef, undef, undef], []⟩ ∧ Add5fR w an ad bn bd a b a2 b2 X1 X2 Y1 Y2 D1 D2 S1 S2 n d er W3 L v g W) (by kernel_rfl) (by kernel_rfl) ⟨fun j => if j = 5 then .int .i64 0 else undef, fun _ => 0, rfl, ⟨(fun _ => Below.drew (Below.refl _ _)), Had.none, Had.none, Had.none, Had.none, Had.none, Had.none, Had.none, Had.none, Had.none, Had.none, Had.none, Had.none, Had.none⟩⟩ (rs := [0, 1, 2, 3, 4, 5, 6, 7, 8, 9, 10, 11]) (by kernel_rfl) ?_ ?_
   ·refine EachOf.cons [] rfl (by kernel_rfl) ?_ ?_
    ·rintro L A W ⟨v, g, rfl, hR⟩ hi hw K hK
     have hk : L 10 = false := hR.ar.not hi rfl
     obtain ⟨_, q0, q1⟩ := HX.out.on (hR.st hk)
     go_simp
     refine hK.out _ _ ?_
     exact ⟨(fun j => if j = 37 then .agg #[.int .u64 X1, .int .u64 X2] else v j), g, rfl, ⟨(fun h => hR.st (upd_false h)), hR.sr.keep rfl, hR.ar.keepM rfl (fun h j hj => upd_on (h j hj)), (fun _ => rfl), hR.f1.keep rfl, hR.f2.keep rfl, hR.f3.keep rfl, hR.f4.keep rfl, hR.f5.keep rfl, hR.f6.keep rfl, hR.f7.keep rfl, hR.f8.keep rfl, hR.f9.keep rfl, hR.f11.keep rfl⟩⟩
    refine EachOf.cons [] rfl (by kernel_rfl) ?_ ?_
    ·rintro L A W ⟨v, g, rfl, hR⟩ hi hw K hK
     have hk : L 10 = false := hR.ar.not hi rfl
     obtain ⟨_, q0, q1⟩ := HY.out.on (hR.st hk)
     go_simp
     refine hK.out _ _ ?_
     exact ⟨(fun j => if j = 38 then .agg #[.int .u64 Y1, .int .u64 Y2] else v j), g, rfl, ⟨(fun h => hR.st (upd_false h)), hR.sr.keep rfl, hR.ar.keepM rfl (fun h j hj => upd_on (h j hj)), hR.f0.keep rfl, (fun _ => rfl), hR.f2.keep rfl, hR.f3.keep rfl, hR.f4.keep rfl, hR.f5.keep rfl, hR.f6.keep rfl, hR.f7.keep rfl, hR.f8.keep rfl, hR.f9.keep rfl, hR.f11.keep rfl⟩⟩
    refine EachOf.cons [0, 1] rfl (by kernel_rfl) ?_ ?_
    ·rintro L A W ⟨v, g, rfl, hR⟩ hi hw K hK
     have hk : L 10 = false := hR.ar.not hi rfl
     have e0 := hR.f0 (hw 0 (by simp))
     have e1 := hR.f1 (hw 1 (by simp))
     simp only [e0, e1]
     clear e0 e1
     go_simp
     go_at_call 75
     (with_reducible refine ((CP _).out).mono ?_)
     rintro e w2 ⟨rfl, hb⟩
     go_simp
     refine hK.out _ _ ?_
     exact ⟨(fun j => if j = 37 then .agg #[.int .u64 X1, .int .u64 X2] else if j = 38 then .agg #[.int .u64 Y1, .int .u64 Y2] else if j = 39 then .agg #[.int .u64 S1, .int .u64 S2] else v j), g, rfl, ⟨(fun _ => below_on (hR.st hk) hb), (fun h => absurd (upd_back h rfl) (by simp [hk])), hR.ar.keepM rfl (fun h j hj => upd_on (h j hj)), (fun _ => rfl), (fun _ => rfl), (fun _ => rfl), hR.f3.keep rfl, hR.f4.keep rfl, hR.f5.keep rfl, hR.f6.keep rfl, hR.f7.keep rfl, hR.f8.keep rfl, hR.f9.keep rfl, hR.f11.keep rfl⟩⟩
    refine EachOf.cons [] rfl (by kernel_rfl) ?_ ?_
    ·rintro L A W ⟨v, g, rfl, hR⟩ hi hw K hK
     have hk : L 10 = false := hR.ar.not hi rfl
     go_simp
     refine hK.out _ _ ?_
     exact ⟨(fun j => if j = 40 then .pointer (some ⟨w.heap.size, 0, none⟩) else v j), g, rfl, ⟨(fun h => hR.st (upd_false h)), hR.sr.keep rfl, hR.ar.keepM rfl (fun h j hj => upd_on (h j hj)), hR.f0.keep rfl, hR.f1.keep rfl, hR.f2.keep rfl, (fun _ => rfl), hR.f4.keep rfl, hR.f5.keep rfl, hR.f6.keep rfl, hR.f7.keep rfl, hR.f8.keep rfl, hR.f9.keep rfl, hR.f11.keep rfl⟩⟩
    refine EachOf.cons [3] rfl (by kernel_rfl) ?_ ?_
    ·rintro L A W ⟨v, g, rfl, hR⟩ hi hw K hK
     have hk : L 10 = false := hR.ar.not hi rfl
     have e3 := hR.f3 (hw 3 (by simp))
     simp only [e3]
     clear e3
     obtain ⟨_, q0, q1⟩ := HA.out.on (hR.st hk)
     go_simp
     refine hK.out _ _ ?_
     exact ⟨(fun j => if j = 40 then .pointer (some ⟨w.heap.size, 0, none⟩) else if j = 41 then .int .i64 an else v j), g, rfl, ⟨(fun h => hR.st (upd_false h)), hR.sr.keep rfl, hR.ar.keepM rfl (fun h j hj => upd_on (h j hj)), hR.f0.keep rfl, hR.f1.keep rfl, hR.f2.keep rfl, (fun _ => rfl), (fun _ => rfl), hR.f5.keep rfl, hR.f6.keep rfl, hR.f7.keep rfl, hR.f8.keep rfl, hR.f9.keep rfl, hR.f11.keep rfl⟩⟩
    refine EachOf.cons [4] rfl (by kernel_rfl) ?_ ?_
    ·rintro L A W ⟨v, g, rfl, hR⟩ hi hw K hK
     have hk : L 10 = false := hR.ar.not hi rfl
     have e4 := hR.f4 (hw 4 (by simp))
     simp only [e4]
     clear e4
     go_simp
     refine hK.out _ _ ?_
     exact ⟨(fun j => if j = 41 then .int .i64 an else if j = 42 then .bool false else v j), g, rfl, ⟨(fun h => hR.st (upd_false h)), hR.sr.keep rfl, hR.ar.keepM rfl (fun h j hj => upd_on (h j hj)), hR.f0.keep rfl, hR.f1.keep rfl, hR.f2.keep rfl, hR.f3.keep rfl, (fun _ => rfl), (fun _ => rfl), hR.f6.keep rfl, hR.f7.keep rfl, hR.f8.keep rfl, hR.f9.keep rfl, hR.f11.keep rfl⟩⟩
    refine EachOf.cons [] rfl (by kernel_rfl) ?_ ?_
    ·rintro L A W ⟨v, g, rfl, hR⟩ hi hw K hK
     have hk : L 10 = false := hR.ar.not hi rfl
     obtain ⟨_, q0, q1⟩ := HD.out.on (hR.st hk)
     go_simp
     refine hK.out _ _ ?_
     exact ⟨(fun j => if j = 43 then .agg #[.int .u64 D1, .int .u64 D2] else v j), g, rfl, ⟨(fun h => hR.st (upd_false h)), hR.sr.keep rfl, hR.ar.keepM rfl (fun h j hj => upd_on (h j hj)), hR.f0.keep rfl, hR.f1.keep rfl, hR.f2.keep rfl, hR.f3.keep rfl, hR.f4.keep rfl, hR.f5.keep rfl, (fun _ => rfl), hR.f7.keep rfl, hR.f8.keep rfl, hR.f9.keep rfl, hR.f11.keep rfl⟩⟩
    refine EachOf.cons [2, 5, 6] rfl (by kernel_rfl) ?_ ?_
    ·rintro L A W ⟨v, g, rfl, hR⟩ hi hw K hK
     have hk : L 10 = false := hR.ar.not hi rfl
     have e2 := hR.f2 (hw 2 (by simp))
     have e5 := hR.f5 (hw 5 (by simp))
     have e6 := hR.f6 (hw 6 (by simp))
     simp only [e2, e5, e6]
     clear e2 e5 e6
     go_simp
     go_at_call 96
     (with_reducible refine ((CD _).out).mono ?_)
     rintro e w2 ⟨rfl, hb⟩
     go_simp
     refine hK.out _ _ ?_
     exact ⟨(fun j => if j = 39 then .agg #[.int .u64 S1, .int .u64 S2] else if j = 42 then .bool false else if j = 43 then .agg #[.int .u64 D1, .int .u64 D2] else if j = 44 then .tuple #[.agg #[.int .i64 n, .int .i64 d], .int .i64 er] else v j), g, rfl, ⟨(fun _ => below_on (hR.st hk) hb), (fun h => absurd (upd_back h rfl) (by simp [hk])), hR.ar.keepM rfl (fun h j hj => upd_on (h j hj)), hR.f0.keep rfl, hR.f1.keep rfl, (fun _ => rfl), hR.f3.keep rfl, hR.f4.keep rfl, (fun _ => rfl), (fun _ => rfl), (fun _ => rfl), hR.f8.keep rfl, hR.f9.keep rfl, hR.f11.keep rfl⟩⟩
    refine EachOf.cons [7] rfl (by kernel_rfl) ?_ ?_
    ·rintro L A W ⟨v, g, rfl, hR⟩ hi hw K hK
     have hk : L 10 = false := hR.ar.not hi rfl
     have e7 := hR.f7 (hw 7 (by simp))
     simp only [e7]
     clear e7
     go_simp
     refine hK.out _ _ ?_
     exact ⟨(fun j => if j = 44 then .tuple #[.agg #[.int .i64 n, .int .i64 d], .int .i64 er] else if j = 45 then .agg #[.int .i64 n, .int .i64 d] else v j), g, rfl, ⟨(fun h => hR.st (upd_false h)), hR.sr.keep rfl, hR.ar.keepM rfl (fun h j hj => upd_on (h j hj)), hR.f0.keep rfl, hR.f1.keep rfl, hR.f2.keep rfl, hR.f3.keep rfl, hR.f4.keep rfl, hR.f5.keep rfl, hR.f6.keep rfl, (fun _ => rfl), (fun _ => rfl), hR.f9.keep rfl, hR.f11.keep rfl⟩⟩
    refine EachOf.cons [7] rfl (by kernel_rfl) ?_ ?_
    ·rintro L A W ⟨v, g, rfl, hR⟩ hi hw K hK
     have hk : L 10 = false := hR.ar.not hi rfl
     have e7 := hR.f7 (hw 7 (by simp))
     simp only [e7]
     clear e7
     go_simp
     refine hK.out _ _ ?_
     exact ⟨(fun j => if j = 44 then .tuple #[.agg #[.int .i64 n, .int .i64 d], .int .i64 er] else if j = 46 then .int .i64 er else v j), g, rfl, ⟨(fun h => hR.st (upd_false h)), hR.sr.keep rfl, hR.ar.keepM rfl (fun h j hj => upd_on (h j hj)), hR.f0.keep rfl, hR.f1.keep rfl, hR.f2.keep rfl, hR.f3.keep rfl, hR.f4.keep rfl, hR.f5.keep rfl, hR.f6.keep rfl, (fun _ => rfl), hR.f8.keep rfl, (fun _ => rfl), hR.f11.keep rfl⟩⟩
    refine EachOf.cons [0, 1, 2, 3, 4, 5, 6, 7, 8, 9] rfl (by kernel_rfl) ?_ ?_
    ·rintro L A W ⟨v, g, rfl, hR⟩ hi hw K hK
     have e8 := hR.f8 (hw 8 (by simp))
     simp only [e8]
     clear e8
     obtain ⟨l5, p5, q5⟩ := HR.out.on (hR.st hi)
     obtain ⟨r5, s5⟩ := HF.out.on HR.out.1 (hR.st hi)
     go_simp
     refine hK.out _ _ ?_
     exact ⟨(fun j => if j = 45 then .agg #[.int .i64 n, .int .i64 d] else v j), g, rfl, ⟨(fun h => by simp [upd_self] at h), (fun _ => ⟨W, hR.st hi, rfl⟩), (fun _ j hj => upd_on (hw j hj)), hR.f0.keep rfl, hR.f1.keep rfl, hR.f2.keep rfl, hR.f3.keep rfl, hR.f4.keep rfl, hR.f5.keep rfl, hR.f6.keep rfl, hR.f7.keep rfl, (fun _ => rfl), hR.f9.keep rfl, hR.f11.keep rfl⟩⟩
    refine EachOf.cons [9] rfl (by kernel_rfl) ?_ ?_
    ·rintro L A W ⟨v, g, rfl, hR⟩ hi hw K hK
     have e9 := hR.f9 (hw 9 (by simp))
     simp only [e9]
     clear e9
     go_simp
     refine hK.out _ _ ?_
     exact ⟨(fun j => if j = 46 then .int .i64 er else if j = 5 then .int .i64 er else v j), g, rfl, ⟨(fun h => hR.st (upd_false h)), hR.sr.keep rfl, hR.ar.keepM rfl (fun h j hj => upd_on (h j hj)), hR.f0.keep rfl, hR.f1.keep rfl, hR.f2.keep rfl, hR.f3.keep rfl, hR.f4.keep rfl, hR.f5.keep rfl, hR.f6.keep rfl, hR.f7.keep rfl, hR.f8.keep rfl, (fun _ => rfl), (fun _ => rfl)⟩⟩
    exact EachOf.nil
   rintro L A W4f ⟨v4f, g4f, rfl, hR⟩ hL
   have e11 := hR.f11 (hL 11 (by simp))
   obtain ⟨W4fb, hb9, hw9⟩ := hR.sr (hL 10 (by simp))
   have hst := Lib.hid hb9
   clear hb9
   simp only [e11]
   clear e11
   clear hR hL
   replace HF := Lib.hid (HF.out.on HR.out.1 hst.out)
   replace HXF := Lib.hid (HXF.out.on HX.out.1 hst.out)
   replace HYF := Lib.hid (HYF.out.on HY.out.1 hst.out)
   replace HDF := Lib.hid (HDF.out.on HD.out.1 hst.out)
   replace HA := Lib.hid (HA.out.on hst.out)
   replace HB := Lib.hid (HB.out.on hst.out)
   replace HR := Lib.hid (HR.out.on hst.out)
   replace HX := Lib.hid (HX.out.on hst.out)
   replace HY := Lib.hid (HY.out.on hst.out)
   replace HD := Lib.hid (HD.out.on hst.out)
   replace HW := Lib.hid (below_on HW.out hst.out)
   subst hw9
   have hB := ((HW.out.setCell (p := ⟨w.heap.size + 1 + 1, 0, none⟩) (by simp; omega) (.int .i64 n)).setCell (p := ⟨w.heap.size + 1 + 1, 1, none⟩) (by simp; omega) (.int .i64 d))
   obtain ⟨_, r8, r9⟩ := Blk.set (x := .int .i64 n) (y := .int .i64 d) HR.out
   go_wp2
   refine bodyPost_ret (by simp [results, Tryz.results79, go_sem, r8, r9]; try rfl) rfl ?_
   exact ⟨rfl, hB⟩
  ·cases less
   ·have CP := CN
    have CD := CD3 (by decide) rfl
    obtain ⟨_, HAp, HAq⟩ := HA.out
    obtain ⟨_, HBp, HBq⟩ := HB.out
    obtain ⟨_, HRp, HRq⟩ := HR.out
    obtain ⟨_, HXp, HXq⟩ := HX.out
    obtain ⟨_, HYp, HYq⟩ := HY.out
    obtain ⟨_, HDp, HDq⟩ := HD.out
    go_wp2_with fail
    (with_reducible refine ((CL _).out).mono ?_)
    rintro e w4 ⟨rfl, hb4⟩
    have hst := Lib.hid hb4
    clear hb4
    clear HAp HAq HBp HBq HRp HRq HXp HXq HYp HYq HDp HDq
    replace HF := Lib.hid (HF.out.on HR.out.1 hst.out)
    replace HXF := Lib.hid (HXF.out.on HX.out.1 hst.out)
    replace HYF := Lib.hid (HYF.out.on HY.out.1 hst.out)
    replace HDF := Lib.hid (HDF.out.on HD.out.1 hst.out)
    replace HA := Lib.hid (HA.out.on hst.out)
    replace HB := Lib.hid (HB.out.on hst.out)
    replace HR := Lib.hid (HR.out.on hst.out)
    replace HX := Lib.hid (HX.out.on hst.out)
    replace HY := Lib.hid (HY.out.on hst.out)
    replace HD := Lib.hid (HD.out.on hst.out)
    replace HW := Lib.hid (below_on HW.out hst.out)
    go_wp2_with fail
    refine wp_region_each (fun L A W => ∃ (v : Nat → Value) (g : Nat → Nat), A = ⟨#[.agg #[.int .i64 an, .int .i64 ad], .agg #[.int .i64 bn, .int .i64 bd], .pointer (some ⟨w.heap.size, 0, none⟩), .pointer (some ⟨w.heap.size + 1, 0, none⟩), .pointer (some ⟨w.heap.size + 1 + 1, 0, none⟩), v 5, .pointer (some ⟨gx, 0, none⟩), .pointer (some ⟨gy, 0, none⟩), .pointer (some ⟨gd, 0, none⟩), v1 9, v1 10, v1 11, v1 12, v1 13, v1 14, v1 15, v2 16, v2 17, v2 18, v2 19, v2 20, v2 21, v2 22, v3 23, v3 24, v3 25, v3 26, v3 27, v3 28, v3 29, .pointer (some ⟨w.heap.size, 0, none⟩), .int .i64 an, .bool false, .pointer (some ⟨w.heap.size + 1, 0, none⟩), .int .i64 bn, .bool true, .bool false, undef, undef, undef, undef, undef, undef, undef, undef, undef, undef, .agg #[.int .u64 X1, .int .u64 X2], .agg #[.int .u64 Y1, .int .u64 Y2], .bool false, undef, undef, undef, undef, undef, undef, undef, undef, undef, undef, v 60, v 61, v 62, v 63, v 64, v 65, v 66, v 67, v 68, v 69], []⟩ ∧ Add8fR w an ad bn bd a b a2 b2 X1 X2 Y1 Y2 D1 D2 Q1 Q2 n d er w4 L v g W) (by kernel_rfl) (by kernel_rfl) ⟨fun j => if j = 5 then .int .i64 0 else undef, fun _ => 0, rfl, ⟨(fun _ => Below.drew (Below.refl _ _)), Had.none, Had.none, Had.none, Had.none, Had.none, Had.none, Had.none, Had.none, Had.none, Had.none, Had.none, Had.none, Had.none⟩⟩ (rs := [0, 1, 2, 3, 4, 5, 6, 7, 8, 9, 10, 11]) (by kernel_rfl) ?_ ?_
    ·refine EachOf.cons [] rfl (by kernel_rfl) ?_ ?_
     ·rintro L A W ⟨v, g, rfl, hR⟩ hi hw K hK
      have hk : L 10 = false := hR.ar.not hi rfl
      obtain ⟨_, q0, q1⟩ := HX.out.on (hR.st hk)
      go_simp
      refine hK.out _ _ ?_
      exact ⟨(fun j => if j = 60 then .agg #[.int .u64 X1, .int .u64 X2] else v j), g, rfl, ⟨(fun h => hR.st (upd_false h)), hR.sr.keep rfl, hR.ar.keepM rfl (fun h j hj => upd_on (h j hj)), (fun _ => rfl), hR.f1.keep rfl, hR.f2.keep rfl, hR.f3.keep rfl, hR.f4.keep rfl, hR.f5.keep rfl, hR.f6.keep rfl, hR.f7.keep rfl, hR.f8.keep rfl, hR.f9.keep rfl, hR.f11.keep rfl⟩⟩
     refine EachOf.cons [] rfl (by kernel_rfl) ?_ ?_
     ·rintro L A W ⟨v, g, rfl, hR⟩ hi hw K hK
      have hk : L 10 = false := hR.ar.not hi rfl
      obtain ⟨_, q0, q1⟩ := HY.out.on (hR.st hk)
      go_simp
      refine hK.out _ _ ?_
      exact ⟨(fun j => if j = 61 then .agg #[.int .u64 Y1, .int .u64 Y2] else v j), g, rfl, ⟨(fun h => hR.st (upd_false h)), hR.sr.keep rfl, hR.ar.keepM rfl (fun h j hj => upd_on (h j hj)), hR.f0.keep rfl, (fun _ => rfl), hR.f2.keep rfl, hR.f3.keep rfl, hR.f4.keep rfl, hR.f5.keep rfl, hR.f6.keep rfl, hR.f7.keep rfl, hR.f8.keep rfl, hR.f9.keep rfl, hR.f11.keep rfl⟩⟩
     refine EachOf.cons [0, 1] rfl (by kernel_rfl) ?_ ?_
     ·rintro L A W ⟨v, g, rfl, hR⟩ hi hw K hK
      have hk : L 10 = false := hR.ar.not hi rfl
      have e0 := hR.f0 (hw 0 (by simp))
      have e1 := hR.f1 (hw 1 (by simp))
      simp only [e0, e1]
      clear e0 e1
      go_simp
      go_at_call 74
      (with_reducible refine ((CP _).out).mono ?_)
      rintro e w2 ⟨rfl, hb⟩
      go_simp
      refine hK.out _ _ ?_
      exact ⟨(fun j => if j = 60 then .agg #[.int .u64 X1, .int .u64 X2] else if j = 61 then .agg #[.int .u64 Y1, .int .u64 Y2] else if j = 62 then .agg #[.int .u64 Q1, .int .u64 Q2] else v j), g, rfl, ⟨(fun _ => below_on (hR.st hk) hb), (fun h => absurd (upd_back h rfl) (by simp [hk])), hR.ar.keepM rfl (fun h j hj => upd_on (h j hj)), (fun _ => rfl), (fun _ => rfl), (fun _ => rfl), hR.f3.keep rfl, hR.f4.keep rfl, hR.f5.keep rfl, hR.f6.keep rfl, hR.f7.keep rfl, hR.f8.keep rfl, hR.f9.keep rfl, hR.f11.keep rfl⟩⟩
     refine EachOf.cons [] rfl (by kernel_rfl) ?_ ?_
     ·rintro L A W ⟨v, g, rfl, hR⟩ hi hw K hK
      have hk : L 10 = false := hR.ar.not hi rfl
      go_simp
      refine hK.out _ _ ?_
      exact ⟨(fun j => if j = 63 then .pointer (some ⟨w.heap.size, 0, none⟩) else v j), g, rfl, ⟨(fun h => hR.st (upd_false h)), hR.sr.keep rfl, hR.ar.keepM rfl (fun h j hj => upd_on (h j hj)), hR.f0.keep rfl, hR.f1.keep rfl, hR.f2.keep rfl, (fun _ => rfl), hR.f4.keep rfl, hR.f5.keep rfl, hR.f6.keep rfl, hR.f7.keep rfl, hR.f8.keep rfl, hR.f9.keep rfl, hR.f11.keep rfl⟩⟩
     refine EachOf.cons [3] rfl (by kernel_rfl) ?_ ?_
     ·rintro L A W ⟨v, g, rfl, hR⟩ hi hw K hK
      have hk : L 10 = false := hR.ar.not hi rfl
      have e3 := hR.f3 (hw 3 (by simp))
      simp only [e3]
      clear e3
      obtain ⟨_, q0, q1⟩ := HA.out.on (hR.st hk)
      go_simp
      refine hK.out _ _ ?_
      exact ⟨(fun j => if j = 63 then .pointer (some ⟨w.heap.size, 0, none⟩) else if j = 64 then .int .i64 an else v j), g, rfl, ⟨(fun h => hR.st (upd_false h)), hR.sr.keep rfl, hR.ar.keepM rfl (fun h j hj => upd_on (h j hj)), hR.f0.keep rfl, hR.f1.keep rfl, hR.f2.keep rfl, (fun _ => rfl), (fun _ => rfl), hR.f5.keep rfl, hR.f6.keep rfl, hR.f7.keep rfl, hR.f8.keep rfl, hR.f9.keep rfl, hR.f11.keep rfl⟩⟩
     refine EachOf.cons [4] rfl (by kernel_rfl) ?_ ?_
     ·rintro L A W ⟨v, g, rfl, hR⟩ hi hw K hK
      have hk : L 10 = false := hR.ar.not hi rfl
      have e4 := hR.f4 (hw 4 (by simp))
      simp only [e4]
      clear e4
      go_simp
      refine hK.out _ _ ?_
      exact ⟨(fun j => if j = 64 then .int .i64 an else if j = 65 then .bool false else v j), g, rfl, ⟨(fun h => hR.st (upd_false h)), hR.sr.keep rfl, hR.ar.keepM rfl (fun h j hj => upd_on (h j hj)), hR.f0.keep rfl, hR.f1.keep rfl, hR.f2.keep rfl, hR.f3.keep rfl, (fun _ => rfl), (fun _ => rfl), hR.f6.keep rfl, hR.f7.keep rfl, hR.f8.keep rfl, hR.f9.keep rfl, hR.f11.keep rfl⟩⟩
     refine EachOf.cons [] rfl (by kernel_rfl) ?_ ?_
     ·rintro L A W ⟨v, g, rfl, hR⟩ hi hw K hK
      have hk : L 10 = false := hR.ar.not hi rfl
      obtain ⟨_, q0, q1⟩ := HD.out.on (hR.st hk)
      go_simp
      refine hK.out _ _ ?_
      exact ⟨(fun j => if j = 66 then .agg #[.int .u64 D1, .int .u64 D2] else v j), g, rfl, ⟨(fun h => hR.st (upd_false h)), hR.sr.keep rfl, hR.ar.keepM rfl (fun h j hj => upd_on (h j hj)), hR.f0.keep rfl, hR.f1.keep rfl, hR.f2.keep rfl, hR.f3.keep rfl, hR.f4.keep rfl, hR.f5.keep rfl, (fun _ => rfl), hR.f7.keep rfl, hR.f8.keep rfl, hR.f9.keep rfl, hR.f11.keep rfl⟩⟩
     refine EachOf.cons [2, 5, 6] rfl (by kernel_rfl) ?_ ?_
     ·rintro L A W ⟨v, g, rfl, hR⟩ hi hw K hK
      have hk : L 10 = false := hR.ar.not hi rfl
      have e2 := hR.f2 (hw 2 (by simp))
      have e5 := hR.f5 (hw 5 (by simp))
      have e6 := hR.f6 (hw 6 (by simp))
      simp only [e2, e5, e6]
      clear e2 e5 e6
      go_simp
      go_at_call 96
      (with_reducible refine ((CD _).out).mono ?_)
      rintro e w2 ⟨rfl, hb⟩
      go_simp
      refine hK.out _ _ ?_
      exact ⟨(fun j => if j = 62 then .agg #[.int .u64 Q1, .int .u64 Q2] else if j = 65 then .bool false else if j = 66 then .agg #[.int .u64 D1, .int .u64 D2] else if j = 67 then .tuple #[.agg #[.int .i64 n, .int .i64 d], .int .i64 er] else v j), g, rfl, ⟨(fun _ => below_on (hR.st hk) hb), (fun h => absurd (upd_back h rfl) (by simp [hk])), hR.ar.keepM rfl (fun h j hj => upd_on (h j hj)), hR.f0.keep rfl, hR.f1.keep rfl, (fun _ => rfl), hR.f3.keep rfl, hR.f4.keep rfl, (fun _ => rfl), (fun _ => rfl), (fun _ => rfl), hR.f8.keep rfl, hR.f9.keep rfl, hR.f11.keep rfl⟩⟩
     refine EachOf.cons [7] rfl (by kernel_rfl) ?_ ?_
     ·rintro L A W ⟨v, g, rfl, hR⟩ hi hw K hK
      have hk : L 10 = false := hR.ar.not hi rfl
      have e7 := hR.f7 (hw 7 (by simp))
      simp only [e7]
      clear e7
      go_simp
      refine hK.out _ _ ?_
      exact ⟨(fun j => if j = 67 then .tuple #[.agg #[.int .i64 n, .int .i64 d], .int .i64 er] else if j = 68 then .agg #[.int .i64 n, .int .i64 d] else v j), g, rfl, ⟨(fun h => hR.st (upd_false h)), hR.sr.keep rfl, hR.ar.keepM rfl (fun h j hj => upd_on (h j hj)), hR.f0.keep rfl, hR.f1.keep rfl, hR.f2.keep rfl, hR.f3.keep rfl, hR.f4.keep rfl, hR.f5.keep rfl, hR.f6.keep rfl, (fun _ => rfl), (fun _ => rfl), hR.f9.keep rfl, hR.f11.keep rfl⟩⟩
     refine EachOf.cons [7] rfl (by kernel_rfl) ?_ ?_
     ·rintro L A W ⟨v, g, rfl, hR⟩ hi hw K hK
      have hk : L 10 = false := hR.ar.not hi rfl
      have e7 := hR.f7 (hw 7 (by simp))
      simp only [e7]
      clear e7
      go_simp
      refine hK.out _ _ ?_
      exact ⟨(fun j => if j = 67 then .tuple #[.agg #[.int .i64 n, .int .i64 d], .int .i64 er] else if j = 69 then .int .i64 er else v j), g, rfl, ⟨(fun h => hR.st (upd_false h)), hR.sr.keep rfl, hR.ar.keepM rfl (fun h j hj => upd_on (h j hj)), hR.f0.keep rfl, hR.f1.keep rfl, hR.f2.keep rfl, hR.f3.keep rfl, hR.f4.keep rfl, hR.f5.keep rfl, hR.f6.keep rfl, (fun _ => rfl), hR.f8.keep rfl, (fun _ => rfl), hR.f11.keep rfl⟩⟩
     refine EachOf.cons [0, 1, 2, 3, 4, 5, 6, 7, 8, 9] rfl (by kernel_rfl) ?_ ?_
     ·rintro L A W ⟨v, g, rfl, hR⟩ hi hw K hK
      have e8 := hR.f8 (hw 8 (by simp))
      simp only [e8]
      clear e8
      obtain ⟨l5, p5, q5⟩ := HR.out.on (hR.st hi)
      obtain ⟨r5, s5⟩ := HF.out.on HR.out.1 (hR.st hi)
      go_simp
      refine hK.out _ _ ?_
      exact ⟨(fun j => if j = 68 then .agg #[.int .i64 n, .int .i64 d] else v j), g, rfl, ⟨(fun h => by simp [upd_self] at h), (fun _ => ⟨W, hR.st hi, rfl⟩), (fun _ j hj => upd_on (hw j hj)), hR.f0.keep rfl, hR.f1.keep rfl, hR.f2.keep rfl, hR.f3.keep rfl, hR.f4.keep rfl, hR.f5.keep rfl, hR.f6.keep rfl, hR.f7.keep rfl, (fun _ => rfl), hR.f9.keep rfl, hR.f11.keep rfl⟩⟩
     refine EachOf.cons [9] rfl (by kernel_rfl) ?_ ?_
     ·rintro L A W ⟨v, g, rfl, hR⟩ hi hw K hK
      have e9 := hR.f9 (hw 9 (by simp))
      simp only [e9]
      clear e9
      go_simp
      refine hK.out _ _ ?_
      exact ⟨(fun j => if j = 69 then .int .i64 er else if j = 5 then .int .i64 er else v j), g, rfl, ⟨(fun h => hR.st (upd_false h)), hR.sr.keep rfl, hR.ar.keepM rfl (fun h j hj => upd_on (h j hj)), hR.f0.keep rfl, hR.f1.keep rfl, hR.f2.keep rfl, hR.f3.keep rfl, hR.f4.keep rfl, hR.f5.keep rfl, hR.f6.keep rfl, hR.f7.keep rfl, hR.f8.keep rfl, (fun _ => rfl), (fun _ => rfl)⟩⟩
     exact EachOf.nil
    rintro L A W4f ⟨v4f, g4f, rfl, hR⟩ hL
    have e11 := hR.f11 (hL 11 (by simp))
    obtain ⟨W4fb, hb9, hw9⟩ := hR.sr (hL 10 (by simp))
    have hst := Lib.hid hb9
    clear hb9
    simp only [e11]
    clear e11
    clear hR hL
    replace HF := Lib.hid (HF.out.on HR.out.1 hst.out)
    replace HXF := Lib.hid (HXF.out.on HX.out.1 hst.out)
    replace HYF := Lib.hid (HYF.out.on HY.out.1 hst.out)
    replace HDF := Lib.hid (HDF.out.on HD.out.1 hst.out)
    replace HA := Lib.hid (HA.out.on hst.out)
    replace HB := Lib.hid (HB.out.on hst.out)
    replace HR := Lib.hid (HR.out.on hst.out)
    replace HX := Lib.hid (HX.out.on hst.out)
    replace HY := Lib.hid (HY.out.on hst.out)
    replace HD := Lib.hid (HD.out.on hst.out)
    replace HW := Lib.hid (below_on HW.out hst.out)
    subst hw9
    have hB := ((HW.out.setCell (p := ⟨w.heap.size + 1 + 1, 0, none⟩) (by simp; omega) (.int .i64 n)).setCell (p := ⟨w.heap.size + 1 + 1, 1, none⟩) (by simp; omega) (.int .i64 d))
    obtain ⟨_, r8, r9⟩ := Blk.set (x := .int .i64 n) (y := .int .i64 d) HR.out
    go_wp2
    refine bodyPost_ret (by simp [results, Tryz.results79, go_sem, r8, r9]; try rfl) rfl ?_
    exact ⟨rfl, hB⟩
   ·have CP := CM
    have CD := CD2 (by decide) rfl
    obtain ⟨_, HAp, HAq⟩ := HA.out
    obtain ⟨_, HBp, HBq⟩ := HB.out
    obtain ⟨_, HRp, HRq⟩ := HR.out
    obtain ⟨_, HXp, HXq⟩ := HX.out
    obtain ⟨_, HYp, HYq⟩ := HY.out
    obtain ⟨_, HDp, HDq⟩ := HD.out
    go_wp2_with fail
    (with_reducible refine ((CL _).out).mono ?_)
    rintro e w4 ⟨rfl, hb4⟩
    have hst := Lib.hid hb4
    clear hb4
    clear HAp HAq HBp HBq HRp HRq HXp HXq HYp HYq HDp HDq
    replace HF := Lib.hid (HF.out.on HR.out.1 hst.out)
    replace HXF := Lib.hid (HXF.out.on HX.out.1 hst.out)
    replace HYF := Lib.hid (HYF.out.on HY.out.1 hst.out)
    replace HDF := Lib.hid (HDF.out.on HD.out.1 hst.out)
    replace HA := Lib.hid (HA.out.on hst.out)
    replace HB := Lib.hid (HB.out.on hst.out)
    replace HR := Lib.hid (HR.out.on hst.out)
    replace HX := Lib.hid (HX.out.on hst.out)
    replace HY := Lib.hid (HY.out.on hst.out)
    replace HD := Lib.hid (HD.out.on hst.out)
    replace HW := Lib.hid (below_on HW.out hst.out)
    go_wp2_with fail
    refine wp_region_each (fun L A W => ∃ (v : Nat → Value) (g : Nat → Nat), A = ⟨#[.agg #[.int .i64 an, .int .i64 ad], .agg #[.int .i64 bn, .int .i64 bd], .pointer (some ⟨w.heap.size, 0, none⟩), .pointer (some ⟨w.heap.size + 1, 0, none⟩), .pointer (some ⟨w.heap.size + 1 + 1, 0, none⟩), v 5, .pointer (some ⟨gx, 0, none⟩), .pointer (some ⟨gy, 0, none⟩), .pointer (some ⟨gd, 0, none⟩), v1 9, v1 10, v1 11, v1 12, v1 13, v1 14, v1 15, v2 16, v2 17, v2 18, v2 19, v2 20, v2 21, v2 22, v3 23, v3 24, v3 25, v3 26, v3 27, v3 28, v3 29, .pointer (some ⟨w.heap.size, 0, none⟩), .int .i64 an, .bool false, .pointer (some ⟨w.heap.size + 1, 0, none⟩), .int .i64 bn, .bool true, .bool false, undef, undef, undef, undef, undef, undef, undef, undef, undef, undef, .agg #[.int .u64 X1, .int .u64 X2], .agg #[.int .u64 Y1, .int .u64 Y2], .bool true, v 50, v 51, v 52, v 53, v 54, v 55, v 56, v 57, v 58, v 59, undef, undef, undef, undef, undef, undef, undef, undef, undef, undef], []⟩ ∧ Add7fR w an ad bn bd a b a2 b2 X1 X2 Y1 Y2 D1 D2 M1 M2 n d er w4 L v g W) (by kernel_rfl) (by kernel_rfl) ⟨fun j => if j = 5 then .int .i64 0 else undef, fun _ => 0, rfl, ⟨(fun _ => Below.drew (Below.refl _ _)), Had.none, Had.none, Had.none, Had.none, Had.none, Had.none, Had.none, Had.none, Had.none, Had.none, Had.none, Had.none, Had.none⟩⟩ (rs := [0, 1, 2, 3, 4, 5, 6, 7, 8, 9, 10, 11]) (by kernel_rfl) ?_ ?_
    ·refine EachOf.cons [] rfl (by kernel_rfl) ?_ ?_
     ·rintro L A W ⟨v, g, rfl, hR⟩ hi hw K hK
      have hk : L 10 = false := hR.ar.not hi rfl
      obtain ⟨_, q0, q1⟩ := HY.out.on (hR.st hk)
      go_simp
      refine hK.out _ _ ?_
      exact ⟨(fun j => if j = 50 then .agg #[.int .u64 Y1, .int .u64 Y2] else v j), g, rfl, ⟨(fun h => hR.st (upd_false h)), hR.sr.keep rfl, hR.ar.keepM rfl (fun h j hj => upd_on (h j hj)), (fun _ => rfl), hR.f1.keep rfl, hR.f2.keep rfl, hR.f3.keep rfl, hR.f4.keep rfl, hR.f5.keep rfl, hR.f6.keep rfl, hR.f7.keep rfl, hR.f8.keep rfl, hR.f9.keep rfl, hR.f11.keep rfl⟩⟩
     refine EachOf.cons [] rfl (by kernel_rfl) ?_ ?_
     ·rintro L A W ⟨v, g, rfl, hR⟩ hi hw K hK
      have hk : L 10 = false := hR.ar.not hi rfl
      obtain ⟨_, q0, q1⟩ := HX.out.on (hR.st hk)
      go_simp
      refine hK.out _ _ ?_
      exact ⟨(fun j => if j = 51 then .agg #[.int .u64 X1, .int .u64 X2] else v j), g, rfl, ⟨(fun h => hR.st (upd_false h)), hR.sr.keep rfl, hR.ar.keepM rfl (fun h j hj => upd_on (h j hj)), hR.f0.keep rfl, (fun _ => rfl), hR.f2.keep rfl, hR.f3.keep rfl, hR.f4.keep rfl, hR.f5.keep rfl, hR.f6.keep rfl, hR.f7.keep rfl, hR.f8.keep rfl, hR.f9.keep rfl, hR.f11.keep rfl⟩⟩
     refine EachOf.cons [0, 1] rfl (by kernel_rfl) ?_ ?_
     ·rintro L A W ⟨v, g, rfl, hR⟩ hi hw K hK
      have hk : L 10 = false := hR.ar.not hi rfl
      have e0 := hR.f0 (hw 0 (by simp))
      have e1 := hR.f1 (hw 1 (by simp))
      simp only [e0, e1]
      clear e0 e1
      go_simp
      go_at_call 74
      (with_reducible refine ((CP _).out).mono ?_)
      rintro e w2 ⟨rfl, hb⟩
      go_simp
      refine hK.out _ _ ?_
      exact ⟨(fun j => if j = 50 then .agg #[.int .u64 Y1, .int .u64 Y2] else if j = 51 then .agg #[.int .u64 X1, .int .u64 X2] else if j = 52 then .agg #[.int .u64 M1, .int .u64 M2] else v j), g, rfl, ⟨(fun _ => below_on (hR.st hk) hb), (fun h => absurd (upd_back h rfl) (by simp [hk])), hR.ar.keepM rfl (fun h j hj => upd_on (h j hj)), (fun _ => rfl), (fun _ => rfl), (fun _ => rfl), hR.f3.keep rfl, hR.f4.keep rfl, hR.f5.keep rfl, hR.f6.keep rfl, hR.f7.keep rfl, hR.f8.keep rfl, hR.f9.keep rfl, hR.f11.keep rfl⟩⟩
     refine EachOf.cons [] rfl (by kernel_rfl) ?_ ?_
     ·rintro L A W ⟨v, g, rfl, hR⟩ hi hw K hK
      have hk : L 10 = false := hR.ar.not hi rfl
      go_simp
      refine hK.out _ _ ?_
      exact ⟨(fun j => if j = 53 then .pointer (some ⟨w.heap.size + 1, 0, none⟩) else v j), g, rfl, ⟨(fun h => hR.st (upd_false h)), hR.sr.keep rfl, hR.ar.keepM rfl (fun h j hj => upd_on (h j hj)), hR.f0.keep rfl, hR.f1.keep rfl, hR.f2.keep rfl, (fun _ => rfl), hR.f4.keep rfl, hR.f5.keep rfl, hR.f6.keep rfl, hR.f7.keep rfl, hR.f8.keep rfl, hR.f9.keep rfl, hR.f11.keep rfl⟩⟩
     refine EachOf.cons [3] rfl (by kernel_rfl) ?_ ?_
     ·rintro L A W ⟨v, g, rfl, hR⟩ hi hw K hK
      have hk : L 10 = false := hR.ar.not hi rfl
      have e3 := hR.f3 (hw 3 (by simp))
      simp only [e3]
      clear e3
      obtain ⟨_, q0, q1⟩ := HB.out.on (hR.st hk)
      go_simp
      refine hK.out _ _ ?_
      exact ⟨(fun j => if j = 53 then .pointer (some ⟨w.heap.size + 1, 0, none⟩) else if j = 54 then .int .i64 bn else v j), g, rfl, ⟨(fun h => hR.st (upd_false h)), hR.sr.keep rfl, hR.ar.keepM rfl (fun h j hj => upd_on (h j hj)), hR.f0.keep rfl, hR.f1.keep rfl, hR.f2.keep rfl, (fun _ => rfl), (fun _ => rfl), hR.f5.keep rfl, hR.f6.keep rfl, hR.f7.keep rfl, hR.f8.keep rfl, hR.f9.keep rfl, hR.f11.keep rfl⟩⟩
     refine EachOf.cons [4] rfl (by kernel_rfl) ?_ ?_
     ·rintro L A W ⟨v, g, rfl, hR⟩ hi hw K hK
      have hk : L 10 = false := hR.ar.not hi rfl
      have e4 := hR.f4 (hw 4 (by simp))
      simp only [e4]
      clear e4
      go_simp
      refine hK.out _ _ ?_
      exact ⟨(fun j => if j = 54 then .int .i64 bn else if j = 55 then .bool true else v j), g, rfl, ⟨(fun h => hR.st (upd_false h)), hR.sr.keep rfl, hR.ar.keepM rfl (fun h j hj => upd_on (h j hj)), hR.f0.keep rfl, hR.f1.keep rfl, hR.f2.keep rfl, hR.f3.keep rfl, (fun _ => rfl), (fun _ => rfl), hR.f6.keep rfl, hR.f7.keep rfl, hR.f8.keep rfl, hR.f9.keep rfl, hR.f11.keep rfl⟩⟩
     refine EachOf.cons [] rfl (by kernel_rfl) ?_ ?_
     ·rintro L A W ⟨v, g, rfl, hR⟩ hi hw K hK
      have hk : L 10 = false := hR.ar.not hi rfl
      obtain ⟨_, q0, q1⟩ := HD.out.on (hR.st hk)
      go_simp
      refine hK.out _ _ ?_
      exact ⟨(fun j => if j = 56 then .agg #[.int .u64 D1, .int .u64 D2] else v j), g, rfl, ⟨(fun h => hR.st (upd_false h)), hR.sr.keep rfl, hR.ar.keepM rfl (fun h j hj => upd_on (h j hj)), hR.f0.keep rfl, hR.f1.keep rfl, hR.f2.keep rfl, hR.f3.keep rfl, hR.f4.keep rfl, hR.f5.keep rfl, (fun _ => rfl), hR.f7.keep rfl, hR.f8.keep rfl, hR.f9.keep rfl, hR.f11.keep rfl⟩⟩
     refine EachOf.cons [2, 5, 6] rfl (by kernel_rfl) ?_ ?_
     ·rintro L A W ⟨v, g, rfl, hR⟩ hi hw K hK
      have hk : L 10 = false := hR.ar.not hi rfl
      have e2 := hR.f2 (hw 2 (by simp))
      have e5 := hR.f5 (hw 5 (by simp))
      have e6 := hR.f6 (hw 6 (by simp))
      simp only [e2, e5, e6]
      clear e2 e5 e6
      go_simp
      go_at_call 96
      (with_reducible refine ((CD _).out).mono ?_)
      rintro e w2 ⟨rfl, hb⟩
      go_simp
      refine hK.out _ _ ?_
      exact ⟨(fun j => if j = 52 then .agg #[.int .u64 M1, .int .u64 M2] else if j = 55 then .bool true else if j = 56 then .agg #[.int .u64 D1, .int .u64 D2] else if j = 57 then .tuple #[.agg #[.int .i64 n, .int .i64 d], .int .i64 er] else v j), g, rfl, ⟨(fun _ => below_on (hR.st hk) hb), (fun h => absurd (upd_back h rfl) (by simp [hk])), hR.ar.keepM rfl (fun h j hj => upd_on (h j hj)), hR.f0.keep rfl, hR.f1.keep rfl, (fun _ => rfl), hR.f3.keep rfl, hR.f4.keep rfl, (fun _ => rfl), (fun _ => rfl), (fun _ => rfl), hR.f8.keep rfl, hR.f9.keep rfl, hR.f11.keep rfl⟩⟩
     refine EachOf.cons [7] rfl (by kernel_rfl) ?_ ?_
     ·rintro L A W ⟨v, g, rfl, hR⟩ hi hw K hK
      have hk : L 10 = false := hR.ar.not hi rfl
      have e7 := hR.f7 (hw 7 (by simp))
      simp only [e7]
      clear e7
      go_simp
      refine hK.out _ _ ?_
      exact ⟨(fun j => if j = 57 then .tuple #[.agg #[.int .i64 n, .int .i64 d], .int .i64 er] else if j = 58 then .agg #[.int .i64 n, .int .i64 d] else v j), g, rfl, ⟨(fun h => hR.st (upd_false h)), hR.sr.keep rfl, hR.ar.keepM rfl (fun h j hj => upd_on (h j hj)), hR.f0.keep rfl, hR.f1.keep rfl, hR.f2.keep rfl, hR.f3.keep rfl, hR.f4.keep rfl, hR.f5.keep rfl, hR.f6.keep rfl, (fun _ => rfl), (fun _ => rfl), hR.f9.keep rfl, hR.f11.keep rfl⟩⟩
     refine EachOf.cons [7] rfl (by kernel_rfl) ?_ ?_
     ·rintro L A W ⟨v, g, rfl, hR⟩ hi hw K hK
      have hk : L 10 = false := hR.ar.not hi rfl
      have e7 := hR.f7 (hw 7 (by simp))
      simp only [e7]
      clear e7
      go_simp
      refine hK.out _ _ ?_
      exact ⟨(fun j => if j = 57 then .tuple #[.agg #[.int .i64 n, .int .i64 d], .int .i64 er] else if j = 59 then .int .i64 er else v j), g, rfl, ⟨(fun h => hR.st (upd_false h)), hR.sr.keep rfl, hR.ar.keepM rfl (fun h j hj => upd_on (h j hj)), hR.f0.keep rfl, hR.f1.keep rfl, hR.f2.keep rfl, hR.f3.keep rfl, hR.f4.keep rfl, hR.f5.keep rfl, hR.f6.keep rfl, (fun _ => rfl), hR.f8.keep rfl, (fun _ => rfl), hR.f11.keep rfl⟩⟩
     refine EachOf.cons [0, 1, 2, 3, 4, 5, 6, 7, 8, 9] rfl (by kernel_rfl) ?_ ?_
     ·rintro L A W ⟨v, g, rfl, hR⟩ hi hw K hK
      have e8 := hR.f8 (hw 8 (by simp))
      simp only [e8]
      clear e8
      obtain ⟨l5, p5, q5⟩ := HR.out.on (hR.st hi)
      obtain ⟨r5, s5⟩ := HF.out.on HR.out.1 (hR.st hi)
      go_simp
      refine hK.out _ _ ?_
      exact ⟨(fun j => if j = 58 then .agg #[.int .i64 n, .int .i64 d] else v j), g, rfl, ⟨(fun h => by simp [upd_self] at h), (fun _ => ⟨W, hR.st hi, rfl⟩), (fun _ j hj => upd_on (hw j hj)), hR.f0.keep rfl, hR.f1.keep rfl, hR.f2.keep rfl, hR.f3.keep rfl, hR.f4.keep rfl, hR.f5.keep rfl, hR.f6.keep rfl, hR.f7.keep rfl, (fun _ => rfl), hR.f9.keep rfl, hR.f11.keep rfl⟩⟩
     refine EachOf.cons [9] rfl (by kernel_rfl) ?_ ?_
     ·rintro L A W ⟨v, g, rfl, hR⟩ hi hw K hK
      have e9 := hR.f9 (hw 9 (by simp))
      simp only [e9]
      clear e9
      go_simp
      refine hK.out _ _ ?_
      exact ⟨(fun j => if j = 59 then .int .i64 er else if j = 5 then .int .i64 er else v j), g, rfl, ⟨(fun h => hR.st (upd_false h)), hR.sr.keep rfl, hR.ar.keepM rfl (fun h j hj => upd_on (h j hj)), hR.f0.keep rfl, hR.f1.keep rfl, hR.f2.keep rfl, hR.f3.keep rfl, hR.f4.keep rfl, hR.f5.keep rfl, hR.f6.keep rfl, hR.f7.keep rfl, hR.f8.keep rfl, (fun _ => rfl), (fun _ => rfl)⟩⟩
     exact EachOf.nil
    rintro L A W4f ⟨v4f, g4f, rfl, hR⟩ hL
    have e11 := hR.f11 (hL 11 (by simp))
    obtain ⟨W4fb, hb9, hw9⟩ := hR.sr (hL 10 (by simp))
    have hst := Lib.hid hb9
    clear hb9
    simp only [e11]
    clear e11
    clear hR hL
    replace HF := Lib.hid (HF.out.on HR.out.1 hst.out)
    replace HXF := Lib.hid (HXF.out.on HX.out.1 hst.out)
    replace HYF := Lib.hid (HYF.out.on HY.out.1 hst.out)
    replace HDF := Lib.hid (HDF.out.on HD.out.1 hst.out)
    replace HA := Lib.hid (HA.out.on hst.out)
    replace HB := Lib.hid (HB.out.on hst.out)
    replace HR := Lib.hid (HR.out.on hst.out)
    replace HX := Lib.hid (HX.out.on hst.out)
    replace HY := Lib.hid (HY.out.on hst.out)
    replace HD := Lib.hid (HD.out.on hst.out)
    replace HW := Lib.hid (below_on HW.out hst.out)
    subst hw9
    have hB := ((HW.out.setCell (p := ⟨w.heap.size + 1 + 1, 0, none⟩) (by simp; omega) (.int .i64 n)).setCell (p := ⟨w.heap.size + 1 + 1, 1, none⟩) (by simp; omega) (.int .i64 d))
    obtain ⟨_, r8, r9⟩ := Blk.set (x := .int .i64 n) (y := .int .i64 d) HR.out
    go_wp2
    refine bodyPost_ret (by simp [results, Tryz.results79, go_sem, r8, r9]; try rfl) rfl ?_
    exact ⟨rfl, hB⟩
 ·cases sb
  ·cases less
   ·have CP := CN
    have CD := CD3 (by decide) rfl
    obtain ⟨_, HAp, HAq⟩ := HA.out
    obtain ⟨_, HBp, HBq⟩ := HB.out
    obtain ⟨_, HRp, HRq⟩ := HR.out
    obtain ⟨_, HXp, HXq⟩ := HX.out
    obtain ⟨_, HYp, HYq⟩ := HY.out
    obtain ⟨_, HDp, HDq⟩ := HD.out
    go_wp2_with fail
    (with_reducible refine ((CL _).out).mono ?_)
    rintro e w4 ⟨rfl, hb4⟩
    have hst := Lib.hid hb4
    clear hb4
    clear HAp HAq HBp HBq HRp HRq HXp HXq HYp HYq HDp HDq
    replace HF := Lib.hid (HF.out.on HR.out.1 hst.out)
    replace HXF := Lib.hid (HXF.out.on HX.out.1 hst.out)
    replace HYF := Lib.hid (HYF.out.on HY.out.1 hst.out)
    replace HDF := Lib.hid (HDF.out.on HD.out.1 hst.out)
    replace HA := Lib.hid (HA.out.on hst.out)
    replace HB := Lib.hid (HB.out.on hst.out)
    replace HR := Lib.hid (HR.out.on hst.out)
    replace HX := Lib.hid (HX.out.on hst.out)
    replace HY := Lib.hid (HY.out.on hst.out)
    replace HD := Lib.hid (HD.out.on hst.out)
    replace HW := Lib.hid (below_on HW.out hst.out)
    go_wp2_with fail
    refine wp_region_each (fun L A W => ∃ (v : Nat → Value) (g : Nat → Nat), A = ⟨#[.agg #[.int .i64 an, .int .i64 ad], .agg #[.int .i64 bn, .int .i64 bd], .pointer (some ⟨w.heap.size, 0, none⟩), .pointer (some ⟨w.heap.size + 1, 0, none⟩), .pointer (some ⟨w.heap.size + 1 + 1, 0, none⟩), v 5, .pointer (some ⟨gx, 0, none⟩), .pointer (some ⟨gy, 0, none⟩), .pointer (some ⟨gd, 0, none⟩), v1 9, v1 10, v1 11, v1 12, v1 13, v1 14, v1 15, v2 16, v2 17, v2 18, v2 19, v2 20, v2 21, v2 22, v3 23, v3 24, v3 25, v3 26, v3 27, v3 28, v3 29, .pointer (some ⟨w.heap.size, 0, none⟩), .int .i64 an, .bool true, .pointer (some ⟨w.heap.size + 1, 0, none⟩), .int .i64 bn, .bool false, .bool false, undef, undef, undef, undef, undef, undef, undef, undef, undef, undef, .agg #[.int .u64 X1, .int .u64 X2], .agg #[.int .u64 Y1, .int .u64 Y2], .bool false, undef, undef, undef, undef, undef, undef, undef, undef, undef, undef, v 60, v 61, v 62, v 63, v 64, v 65, v 66, v 67, v 68, v 69], []⟩ ∧ Add8tR w an ad bn bd a b a2 b2 X1 X2 Y1 Y2 D1 D2 Q1 Q2 n d er w4 L v g W) (by kernel_rfl) (by kernel_rfl) ⟨fun j => if j = 5 then .int .i64 0 else undef, fun _ => 0, rfl, ⟨(fun _ => Below.drew (Below.refl _ _)), Had.none, Had.none, Had.none, Had.none, Had.none, Had.none, Had.none, Had.none, Had.none, Had.none, Had.none, Had.none, Had.none⟩⟩ (rs := [0, 1, 2, 3, 4, 5, 6, 7, 8, 9, 10, 11]) (by kernel_rfl) ?_ ?_
    ·refine EachOf.cons [] rfl (by kernel_rfl) ?_ ?_
     ·rintro L A W ⟨v, g, rfl, hR⟩ hi hw K hK
      have hk : L 10 = false := hR.ar.not hi rfl
      obtain ⟨_, q0, q1⟩ := HX.out.on (hR.st hk)
      go_simp
      refine hK.out _ _ ?_
      exact ⟨(fun j => if j = 60 then .agg #[.int .u64 X1, .int .u64 X2] else v j), g, rfl, ⟨(fun h => hR.st (upd_false h)), hR.sr.keep rfl, hR.ar.keepM rfl (fun h j hj => upd_on (h j hj)), (fun _ => rfl), hR.f1.keep rfl, hR.f2.keep rfl, hR.f3.keep rfl, hR.f4.keep rfl, hR.f5.keep rfl, hR.f6.keep rfl, hR.f7.keep rfl, hR.f8.keep rfl, hR.f9.keep rfl, hR.f11.keep rfl⟩⟩
     refine EachOf.cons [] rfl (by kernel_rfl) ?_ ?_
     ·rintro L A W ⟨v, g, rfl, hR⟩ hi hw K hK
      have hk : L 10 = false := hR.ar.not hi rfl
      obtain ⟨_, q0, q1⟩ := HY.out.on (hR.st hk)
      go_simp
      refine hK.out _ _ ?_
      exact ⟨(fun j => if j = 61 then .agg #[.int .u64 Y1, .int .u64 Y2] else v j), g, rfl, ⟨(fun h => hR.st (upd_false h)), hR.sr.keep rfl, hR.ar.keepM rfl (fun h j hj => upd_on (h j hj)), hR.f0.keep rfl, (fun _ => rfl), hR.f2.keep rfl, hR.f3.keep rfl, hR.f4.keep rfl, hR.f5.keep rfl, hR.f6.keep rfl, hR.f7.keep rfl, hR.f8.keep rfl, hR.f9.keep rfl, hR.f11.keep rfl⟩⟩
     refine EachOf.cons [0, 1] rfl (by kernel_rfl) ?_ ?_
     ·rintro L A W ⟨v, g, rfl, hR⟩ hi hw K hK
      have hk : L 10 = false := hR.ar.not hi rfl
      have e0 := hR.f0 (hw 0 (by simp))
      have e1 := hR.f1 (hw 1 (by simp))
      simp only [e0, e1]
      clear e0 e1
      go_simp
      go_at_call 74
      (with_reducible refine ((CP _).out).mono ?_)
      rintro e w2 ⟨rfl, hb⟩
      go_simp
      refine hK.out _ _ ?_
      exact ⟨(fun j => if j = 60 then .agg #[.int .u64 X1, .int .u64 X2] else if j = 61 then .agg #[.int .u64 Y1, .int .u64 Y2] else if j = 62 then .agg #[.int .u64 Q1, .int .u64 Q2] else v j), g, rfl, ⟨(fun _ => below_on (hR.st hk) hb), (fun h => absurd (upd_back h rfl) (by simp [hk])), hR.ar.keepM rfl (fun h j hj => upd_on (h j hj)), (fun _ => rfl), (fun _ => rfl), (fun _ => rfl), hR.f3.keep rfl, hR.f4.keep rfl, hR.f5.keep rfl, hR.f6.keep rfl, hR.f7.keep rfl, hR.f8.keep rfl, hR.f9.keep rfl, hR.f11.keep rfl⟩⟩
     refine EachOf.cons [] rfl (by kernel_rfl) ?_ ?_
     ·rintro L A W ⟨v, g, rfl, hR⟩ hi hw K hK
      have hk : L 10 = false := hR.ar.not hi rfl
      go_simp
      refine hK.out _ _ ?_
      exact ⟨(fun j => if j = 63 then .pointer (some ⟨w.heap.size, 0, none⟩) else v j), g, rfl, ⟨(fun h => hR.st (upd_false h)), hR.sr.keep rfl, hR.ar.keepM rfl (fun h j hj => upd_on (h j hj)), hR.f0.keep rfl, hR.f1.keep rfl, hR.f2.keep rfl, (fun _ => rfl), hR.f4.keep rfl, hR.f5.keep rfl, hR.f6.keep rfl, hR.f7.keep rfl, hR.f8.keep rfl, hR.f9.keep rfl, hR.f11.keep rfl⟩⟩
     refine EachOf.cons [3] rfl (by kernel_rfl) ?_ ?_
     ·rintro L A W ⟨v, g, rfl, hR⟩ hi hw K hK
      have hk : L 10 = false := hR.ar.not hi rfl
      have e3 := hR.f3 (hw 3 (by simp))
      simp only [e3]
      clear e3
      obtain ⟨_, q0, q1⟩ := HA.out.on (hR.st hk)
      go_simp
      refine hK.out _ _ ?_
      exact ⟨(fun j => if j = 63 then .pointer (some ⟨w.heap.size, 0, none⟩) else if j = 64 then .int .i64 an else v j), g, rfl, ⟨(fun h => hR.st (upd_false h)), hR.sr.keep rfl, hR.ar.keepM rfl (fun h j hj => upd_on (h j hj)), hR.f0.keep rfl, hR.f1.keep rfl, hR.f2.keep rfl, (fun _ => rfl), (fun _ => rfl), hR.f5.keep rfl, hR.f6.keep rfl, hR.f7.keep rfl, hR.f8.keep rfl, hR.f9.keep rfl, hR.f11.keep rfl⟩⟩
     refine EachOf.cons [4] rfl (by kernel_rfl) ?_ ?_
     ·rintro L A W ⟨v, g, rfl, hR⟩ hi hw K hK
      have hk : L 10 = false := hR.ar.not hi rfl
      have e4 := hR.f4 (hw 4 (by simp))
      simp only [e4]
      clear e4
      go_simp
      refine hK.out _ _ ?_
      exact ⟨(fun j => if j = 64 then .int .i64 an else if j = 65 then .bool true else v j), g, rfl, ⟨(fun h => hR.st (upd_false h)), hR.sr.keep rfl, hR.ar.keepM rfl (fun h j hj => upd_on (h j hj)), hR.f0.keep rfl, hR.f1.keep rfl, hR.f2.keep rfl, hR.f3.keep rfl, (fun _ => rfl), (fun _ => rfl), hR.f6.keep rfl, hR.f7.keep rfl, hR.f8.keep rfl, hR.f9.keep rfl, hR.f11.keep rfl⟩⟩
     refine EachOf.cons [] rfl (by kernel_rfl) ?_ ?_
     ·rintro L A W ⟨v, g, rfl, hR⟩ hi hw K hK
      have hk : L 10 = false := hR.ar.not hi rfl
      obtain ⟨_, q0, q1⟩ := HD.out.on (hR.st hk)
      go_simp
      refine hK.out _ _ ?_
      exact ⟨(fun j => if j = 66 then .agg #[.int .u64 D1, .int .u64 D2] else v j), g, rfl, ⟨(fun h => hR.st (upd_false h)), hR.sr.keep rfl, hR.ar.keepM rfl (fun h j hj => upd_on (h j hj)), hR.f0.keep rfl, hR.f1.keep rfl, hR.f2.keep rfl, hR.f3.keep rfl, hR.f4.keep rfl, hR.f5.keep rfl, (fun _ => rfl), hR.f7.keep rfl, hR.f8.keep rfl, hR.f9.keep rfl, hR.f11.keep rfl⟩⟩
     refine EachOf.cons [2, 5, 6] rfl (by kernel_rfl) ?_ ?_
     ·rintro L A W ⟨v, g, rfl, hR⟩ hi hw K hK
      have hk : L 10 = false := hR.ar.not hi rfl
      have e2 := hR.f2 (hw 2 (by simp))
      have e5 := hR.f5 (hw 5 (by simp))
      have e6 := hR.f6 (hw 6 (by simp))
      simp only [e2, e5, e6]
      clear e2 e5 e6
      go_simp
      go_at_call 96
      (with_reducible refine ((CD _).out).mono ?_)
      rintro e w2 ⟨rfl, hb⟩
      go_simp
      refine hK.out _ _ ?_
      exact ⟨(fun j => if j = 62 then .agg #[.int .u64 Q1, .int .u64 Q2] else if j = 65 then .bool true else if j = 66 then .agg #[.int .u64 D1, .int .u64 D2] else if j = 67 then .tuple #[.agg #[.int .i64 n, .int .i64 d], .int .i64 er] else v j), g, rfl, ⟨(fun _ => below_on (hR.st hk) hb), (fun h => absurd (upd_back h rfl) (by simp [hk])), hR.ar.keepM rfl (fun h j hj => upd_on (h j hj)), hR.f0.keep rfl, hR.f1.keep rfl, (fun _ => rfl), hR.f3.keep rfl, hR.f4.keep rfl, (fun _ => rfl), (fun _ => rfl), (fun _ => rfl), hR.f8.keep rfl, hR.f9.keep rfl, hR.f11.keep rfl⟩⟩
     refine EachOf.cons [7] rfl (by kernel_rfl) ?_ ?_
     ·rintro L A W ⟨v, g, rfl, hR⟩ hi hw K hK
      have hk : L 10 = false := hR.ar.not hi rfl
      have e7 := hR.f7 (hw 7 (by simp))
      simp only [e7]
      clear e7
      go_simp
      refine hK.out _ _ ?_
      exact ⟨(fun j => if j = 67 then .tuple #[.agg #[.int .i64 n, .int .i64 d], .int .i64 er] else if j = 68 then .agg #[.int .i64 n, .int .i64 d] else v j), g, rfl, ⟨(fun h => hR.st (upd_false h)), hR.sr.keep rfl, hR.ar.keepM rfl (fun h j hj => upd_on (h j hj)), hR.f0.keep rfl, hR.f1.keep rfl, hR.f2.keep rfl, hR.f3.keep rfl, hR.f4.keep rfl, hR.f5.keep rfl, hR.f6.keep rfl, (fun _ => rfl), (fun _ => rfl), hR.f9.keep rfl, hR.f11.keep rfl⟩⟩
     refine EachOf.cons [7] rfl (by kernel_rfl) ?_ ?_
     ·rintro L A W ⟨v, g, rfl, hR⟩ hi hw K hK
      have hk : L 10 = false := hR.ar.not hi rfl
      have e7 := hR.f7 (hw 7 (by simp))
      simp only [e7]
      clear e7
      go_simp
      refine hK.out _ _ ?_
      exact ⟨(fun j => if j = 67 then .tuple #[.agg #[.int .i64 n, .int .i64 d], .int .i64 er] else if j = 69 then .int .i64 er else v j), g, rfl, ⟨(fun h => hR.st (upd_false h)), hR.sr.keep rfl, hR.ar.keepM rfl (fun h j hj => upd_on (h j hj)), hR.f0.keep rfl, hR.f1.keep rfl, hR.f2.keep rfl, hR.f3.keep rfl, hR.f4.keep rfl, hR.f5.keep rfl, hR.f6.keep rfl, (fun _ => rfl), hR.f8.keep rfl, (fun _ => rfl), hR.f11.keep rfl⟩⟩
     refine EachOf.cons [0, 1, 2, 3, 4, 5, 6, 7, 8, 9] rfl (by kernel_rfl) ?_ ?_
     ·rintro L A W ⟨v, g, rfl, hR⟩ hi hw K hK
      have e8 := hR.f8 (hw 8 (by simp))
      simp only [e8]
      clear e8
      obtain ⟨l5, p5, q5⟩ := HR.out.on (hR.st hi)
      obtain ⟨r5, s5⟩ := HF.out.on HR.out.1 (hR.st hi)
      go_simp
      refine hK.out _ _ ?_
      exact ⟨(fun j => if j = 68 then .agg #[.int .i64 n, .int .i64 d] else v j), g, rfl, ⟨(fun h => by simp [upd_self] at h), (fun _ => ⟨W, hR.st hi, rfl⟩), (fun _ j hj => upd_on (hw j hj)), hR.f0.keep rfl, hR.f1.keep rfl, hR.f2.keep rfl, hR.f3.keep rfl, hR.f4.keep rfl, hR.f5.keep rfl, hR.f6.keep rfl, hR.f7.keep rfl, (fun _ => rfl), hR.f9.keep rfl, hR.f11.keep rfl⟩⟩
     refine EachOf.cons [9] rfl (by kernel_rfl) ?_ ?_
     ·rintro L A W ⟨v, g, rfl, hR⟩ hi hw K hK
      have e9 := hR.f9 (hw 9 (by simp))
      simp only [e9]
      clear e9
      go_simp
      refine hK.out _ _ ?_
      exact ⟨(fun j => if j = 69 then .int .i64 er else if j = 5 then .int .i64 er else v j), g, rfl, ⟨(fun h => hR.st (upd_false h)), hR.sr.keep rfl, hR.ar.keepM rfl (fun h j hj => upd_on (h j hj)), hR.f0.keep rfl, hR.f1.keep rfl, hR.f2.keep rfl, hR.f3.keep rfl, hR.f4.keep rfl, hR.f5.keep rfl, hR.f6.keep rfl, hR.f7.keep rfl, hR.f8.keep rfl, (fun _ => rfl), (fun _ => rfl)⟩⟩
     exact EachOf.nil
    rintro L A W4t ⟨v4t, g4t, rfl, hR⟩ hL
    have e11 := hR.f11 (hL 11 (by simp))
    obtain ⟨W4tb, hb9, hw9⟩ := hR.sr (hL 10 (by simp))
    have hst := Lib.hid hb9
    clear hb9
    simp only [e11]
    clear e11
    clear hR hL
    replace HF := Lib.hid (HF.out.on HR.out.1 hst.out)
    replace HXF := Lib.hid (HXF.out.on HX.out.1 hst.out)
    replace HYF := Lib.hid (HYF.out.on HY.out.1 hst.out)
    replace HDF := Lib.hid (HDF.out.on HD.out.1 hst.out)
    replace HA := Lib.hid (HA.out.on hst.out)
    replace HB := Lib.hid (HB.out.on hst.out)
    replace HR := Lib.hid (HR.out.on hst.out)
    replace HX := Lib.hid (HX.out.on hst.out)
    replace HY := Lib.hid (HY.out.on hst.out)
    replace HD := Lib.hid (HD.out.on hst.out)
    replace HW := Lib.hid (below_on HW.out hst.out)
    subst hw9
    have hB := ((HW.out.setCell (p := ⟨w.heap.size + 1 + 1, 0, none⟩) (by simp; omega) (.int .i64 n)).setCell (p := ⟨w.heap.size + 1 + 1, 1, none⟩) (by simp; omega) (.int .i64 d))
    obtain ⟨_, r8, r9⟩ := Blk.set (x := .int .i64 n) (y := .int .i64 d) HR.out
    go_wp2
    refine bodyPost_ret (by simp [results, Tryz.results79, go_sem, r8, r9]; try rfl) rfl ?_
    exact ⟨rfl, hB⟩
   ·have CP := CM
    have CD := CD2 (by decide) rfl
    obtain ⟨_, HAp, HAq⟩ := HA.out
    obtain ⟨_, HBp, HBq⟩ := HB.out
    obtain ⟨_, HRp, HRq⟩ := HR.out
    obtain ⟨_, HXp, HXq⟩ := HX.out
    obtain ⟨_, HYp, HYq⟩ := HY.out
    obtain ⟨_, HDp, HDq⟩ := HD.out
    go_wp2_with fail
    (with_reducible refine ((CL _).out).mono ?_)
    rintro e w4 ⟨rfl, hb4⟩
    have hst := Lib.hid hb4
    clear hb4
    clear HAp HAq HBp HBq HRp HRq HXp HXq HYp HYq HDp HDq
    replace HF := Lib.hid (HF.out.on HR.out.1 hst.out)
    replace HXF := Lib.hid (HXF.out.on HX.out.1 hst.out)
    replace HYF := Lib.hid (HYF.out.on HY.out.1 hst.out)
    replace HDF := Lib.hid (HDF.out.on HD.out.1 hst.out)
    replace HA := Lib.hid (HA.out.on hst.out)
    replace HB := Lib.hid (HB.out.on hst.out)
    replace HR := Lib.hid (HR.out.on hst.out)
    replace HX := Lib.hid (HX.out.on hst.out)
    replace HY := Lib.hid (HY.out.on hst.out)
    replace HD := Lib.hid (HD.out.on hst.out)
    replace HW := Lib.hid (below_on HW.out hst.out)
    go_wp2_with fail
    refine wp_region_each (fun L A W => ∃ (v : Nat → Value) (g : Nat → Nat), A = ⟨#[.agg #[.int .i64 an, .int .i64 ad], .agg #[.int .i64 bn, .int .i64 bd], .pointer (some ⟨w.heap.size, 0, none⟩), .pointer (some ⟨w.heap.size + 1, 0, none⟩), .pointer (some ⟨w.heap.size + 1 + 1, 0, none⟩), v 5, .pointer (some ⟨gx, 0, none⟩), .pointer (some ⟨gy, 0, none⟩), .pointer (some ⟨gd, 0, none⟩), v1 9, v1 10, v1 11, v1 12, v1 13, v1 14, v1 15, v2 16, v2 17, v2 18, v2 19, v2 20, v2 21, v2 22, v3 23, v3 24, v3 25, v3 26, v3 27, v3 28, v3 29, .pointer (some ⟨w.heap.size, 0, none⟩), .int .i64 an, .bool true, .pointer (some ⟨w.heap.size + 1, 0, none⟩), .int .i64 bn, .bool false, .bool false, undef, undef, undef, undef, undef, undef, undef, undef, undef, undef, .agg #[.int .u64 X1, .int .u64 X2], .agg #[.int .u64 Y1, .int .u64 Y2], .bool true, v 50, v 51, v 52, v 53, v 54, v 55, v 56, v 57, v 58, v 59, undef, undef, undef, undef, undef, undef, undef, undef, undef, undef], []⟩ ∧ Add7tR w an ad bn bd a b a2 b2 X1 X2 Y1 Y2 D1 D2 M1 M2 n d er w4 L v g W) (by kernel_rfl) (by kernel_rfl) ⟨fun j => if j = 5 then .int .i64 0 else undef, fun _ => 0, rfl, ⟨(fun _ => Below.drew (Below.refl _ _)), Had.none, Had.none, Had.none, Had.none, Had.none, Had.none, Had.none, Had.none, Had.none, Had.none, Had.none, Had.none, Had.none⟩⟩ (rs := [0, 1, 2, 3, 4, 5, 6, 7, 8, 9, 10, 11]) (by kernel_rfl) ?_ ?_
    ·refine EachOf.cons [] rfl (by kernel_rfl) ?_ ?_
     ·rintro L A W ⟨v, g, rfl, hR⟩ hi hw K hK
      have hk : L 10 = false := hR.ar.not hi rfl
      obtain ⟨_, q0, q1⟩ := HY.out.on (hR.st hk)
      go_simp
      refine hK.out _ _ ?_
      exact ⟨(fun j => if j = 50 then .agg #[.int .u64 Y1, .int .u64 Y2] else v j), g, rfl, ⟨(fun h => hR.st (upd_false h)), hR.sr.keep rfl, hR.ar.keepM rfl (fun h j hj => upd_on (h j hj)), (fun _ => rfl), hR.f1.keep rfl, hR.f2.keep rfl, hR.f3.keep rfl, hR.f4.keep rfl, hR.f5.keep rfl, hR.f6.keep rfl, hR.f7.keep rfl, hR.f8.keep rfl, hR.f9.keep rfl, hR.f11.keep rfl⟩⟩
     refine EachOf.cons [] rfl (by kernel_rfl) ?_ ?_
     ·rintro L A W ⟨v, g, rfl, hR⟩ hi hw K hK
      have hk : L 10 = false := hR.ar.not hi rfl
      obtain ⟨_, q0, q1⟩ := HX.out.on (hR.st hk)
      go_simp
      refine hK.out _ _ ?_
      exact ⟨(fun j => if j = 51 then .agg #[.int .u64 X1, .int .u64 X2] else v j), g, rfl, ⟨(fun h => hR.st (upd_false h)), hR.sr.keep rfl, hR.ar.keepM rfl (fun h j hj => upd_on (h j hj)), hR.f0.keep rfl, (fun _ => rfl), hR.f2.keep rfl, hR.f3.keep rfl, hR.f4.keep rfl, hR.f5.keep rfl, hR.f6.keep rfl, hR.f7.keep rfl, hR.f8.keep rfl, hR.f9.keep rfl, hR.f11.keep rfl⟩⟩
     refine EachOf.cons [0, 1] rfl (by kernel_rfl) ?_ ?_
     ·rintro L A W ⟨v, g, rfl, hR⟩ hi hw K hK
      have hk : L 10 = false := hR.ar.not hi rfl
      have e0 := hR.f0 (hw 0 (by simp))
      have e1 := hR.f1 (hw 1 (by simp))
      simp only [e0, e1]
      clear e0 e1
      go_simp
      go_at_call 74
      (with_reducible refine ((CP _).out).mono ?_)
      rintro e w2 ⟨rfl, hb⟩
      go_simp
      refine hK.out _ _ ?_
      exact ⟨(fun j => if j = 50 then .agg #[.int .u64 Y1, .int .u64 Y2] else if j = 51 then .agg #[.int .u64 X1, .int .u64 X2] else if j = 52 then .agg #[.int .u64 M1, .int .u64 M2] else v j), g, rfl, ⟨(fun _ => below_on (hR.st hk) hb), (fun h => absurd (upd_back h rfl) (by simp [hk])), hR.ar.keepM rfl (fun h j hj => upd_on (h j hj)), (fun _ => rfl), (fun _ => rfl), (fun _ => rfl), hR.f3.keep rfl, hR.f4.keep rfl, hR.f5.keep rfl, hR.f6.keep rfl, hR.f7.keep rfl, hR.f8.keep rfl, hR.f9.keep rfl, hR.f11.keep rfl⟩⟩
     refine EachOf.cons [] rfl (by kernel_rfl) ?_ ?_
     ·rintro L A W ⟨v, g, rfl, hR⟩ hi hw K hK
      have hk : L 10 = false := hR.ar.not hi rfl
      go_simp
      refine hK.out _ _ ?_
      exact ⟨(fun j => if j = 53 then .pointer (some ⟨w.heap.size + 1, 0, none⟩) else v j), g, rfl, ⟨(fun h => hR.st (upd_false h)), hR.sr.keep rfl, hR.ar.keepM rfl (fun h j hj => upd_on (h j hj)), hR.f0.keep rfl, hR.f1.keep rfl, hR.f2.keep rfl, (fun _ => rfl), hR.f4.keep rfl, hR.f5.keep rfl, hR.f6.keep rfl, hR.f7.keep rfl, hR.f8.keep rfl, hR.f9.keep rfl, hR.f11.keep rfl⟩⟩
     refine EachOf.cons [3] rfl (by kernel_rfl) ?_ ?_
     ·rintro L A W ⟨v, g, rfl, hR⟩ hi hw K hK
      have hk : L 10 = false := hR.ar.not hi rfl
      have e3 := hR.f3 (hw 3 (by simp))
      simp only [e3]
      clear e3
      obtain ⟨_, q0, q1⟩ := HB.out.on (hR.st hk)
      go_simp
      refine hK.out _ _ ?_
      exact ⟨(fun j => if j = 53 then .pointer (some ⟨w.heap.size + 1, 0, none⟩) else if j = 54 then .int .i64 bn else v j), g, rfl, ⟨(fun h => hR.st (upd_false h)), hR.sr.keep rfl, hR.ar.keepM rfl (fun h j hj => upd_on (h j hj)), hR.f0.keep rfl, hR.f1.keep rfl, hR.f2.keep rfl, (fun _ => rfl), (fun _ => rfl), hR.f5.keep rfl, hR.f6.keep rfl, hR.f7.keep rfl, hR.f8.keep rfl, hR.f9.keep rfl, hR.f11.keep rfl⟩⟩
     refine EachOf.cons [4] rfl (by kernel_rfl) ?_ ?_
     ·rintro L A W ⟨v, g, rfl, hR⟩ hi hw K hK
      have hk : L 10 = false := hR.ar.not hi rfl
      have e4 := hR.f4 (hw 4 (by simp))
      simp only [e4]
      clear e4
      go_simp
      refine hK.out _ _ ?_
      exact ⟨(fun j => if j = 54 then .int .i64 bn else if j = 55 then .bool false else v j), g, rfl, ⟨(fun h => hR.st (upd_false h)), hR.sr.keep rfl, hR.ar.keepM rfl (fun h j hj => upd_on (h j hj)), hR.f0.keep rfl, hR.f1.keep rfl, hR.f2.keep rfl, hR.f3.keep rfl, (fun _ => rfl), (fun _ => rfl), hR.f6.keep rfl, hR.f7.keep rfl, hR.f8.keep rfl, hR.f9.keep rfl, hR.f11.keep rfl⟩⟩
     refine EachOf.cons [] rfl (by kernel_rfl) ?_ ?_
     ·rintro L A W ⟨v, g, rfl, hR⟩ hi hw K hK
      have hk : L 10 = false := hR.ar.not hi rfl
      obtain ⟨_, q0, q1⟩ := HD.out.on (hR.st hk)
      go_simp
      refine hK.out _ _ ?_
      exact ⟨(fun j => if j = 56 then .agg #[.int .u64 D1, .int .u64 D2] else v j), g, rfl, ⟨(fun h => hR.st (upd_false h)), hR.sr.keep rfl, hR.ar.keepM rfl (fun h j hj => upd_on (h j hj)), hR.f0.keep rfl, hR.f1.keep rfl, hR.f2.keep rfl, hR.f3.keep rfl, hR.f4.keep rfl, hR.f5.keep rfl, (fun _ => rfl), hR.f7.keep rfl, hR.f8.keep rfl, hR.f9.keep rfl, hR.f11.keep rfl⟩⟩
     refine EachOf.cons [2, 5, 6] rfl (by kernel_rfl) ?_ ?_
     ·rintro L A W ⟨v, g, rfl, hR⟩ hi hw K hK
      have hk : L 10 = false := hR.ar.not hi rfl
      have e2 := hR.f2 (hw 2 (by simp))
      have e5 := hR.f5 (hw 5 (by simp))
      have e6 := hR.f6 (hw 6 (by simp))
      simp only [e2, e5, e6]
      clear e2 e5 e6
      go_simp
      go_at_call 96
      (with_reducible refine ((CD _).out).mono ?_)
      rintro e w2 ⟨rfl, hb⟩
      go_simp
      refine hK.out _ _ ?_
      exact ⟨(fun j => if j = 52 then .agg #[.int .u64 M1, .int .u64 M2] else if j = 55 then .bool false else if j = 56 then .agg #[.int .u64 D1, .int .u64 D2] else if j = 57 then .tuple #[.agg #[.int .i64 n, .int .i64 d], .int .i64 er] else v j), g, rfl, ⟨(fun _ => below_on (hR.st hk) hb), (fun h => absurd (upd_back h rfl) (by simp [hk])), hR.ar.keepM rfl (fun h j hj => upd_on (h j hj)), hR.f0.keep rfl, hR.f1.keep rfl, (fun _ => rfl), hR.f3.keep rfl, hR.f4.keep rfl, (fun _ => rfl), (fun _ => rfl), (fun _ => rfl), hR.f8.keep rfl, hR.f9.keep rfl, hR.f11.keep rfl⟩⟩
     refine EachOf.cons [7] rfl (by kernel_rfl) ?_ ?_
     ·rintro L A W ⟨v, g, rfl, hR⟩ hi hw K hK
      have hk : L 10 = false := hR.ar.not hi rfl
      have e7 := hR.f7 (hw 7 (by simp))
      simp only [e7]
      clear e7
      go_simp
      refine hK.out _ _ ?_
      exact ⟨(fun j => if j = 57 then .tuple #[.agg #[.int .i64 n, .int .i64 d], .int .i64 er] else if j = 58 then .agg #[.int .i64 n, .int .i64 d] else v j), g, rfl, ⟨(fun h => hR.st (upd_false h)), hR.sr.keep rfl, hR.ar.keepM rfl (fun h j hj => upd_on (h j hj)), hR.f0.keep rfl, hR.f1.keep rfl, hR.f2.keep rfl, hR.f3.keep rfl, hR.f4.keep rfl, hR.f5.keep rfl, hR.f6.keep rfl, (fun _ => rfl), (fun _ => rfl), hR.f9.keep rfl, hR.f11.keep rfl⟩⟩
     refine EachOf.cons [7] rfl (by kernel_rfl) ?_ ?_
     ·rintro L A W ⟨v, g, rfl, hR⟩ hi hw K hK
      have hk : L 10 = false := hR.ar.not hi rfl
      have e7 := hR.f7 (hw 7 (by simp))
      simp only [e7]
      clear e7
      go_simp
      refine hK.out _ _ ?_
      exact ⟨(fun j => if j = 57 then .tuple #[.agg #[.int .i64 n, .int .i64 d], .int .i64 er] else if j = 59 then .int .i64 er else v j), g, rfl, ⟨(fun h => hR.st (upd_false h)), hR.sr.keep rfl, hR.ar.keepM rfl (fun h j hj => upd_on (h j hj)), hR.f0.keep rfl, hR.f1.keep rfl, hR.f2.keep rfl, hR.f3.keep rfl, hR.f4.keep rfl, hR.f5.keep rfl, hR.f6.keep rfl, (fun _ => rfl), hR.f8.keep rfl, (fun _ => rfl), hR.f11.keep rfl⟩⟩
     refine EachOf.cons [0, 1, 2, 3, 4, 5, 6, 7, 8, 9] rfl (by kernel_rfl) ?_ ?_
     ·rintro L A W ⟨v, g, rfl, hR⟩ hi hw K hK
      have e8 := hR.f8 (hw 8 (by simp))
      simp only [e8]
      clear e8
      obtain ⟨l5, p5, q5⟩ := HR.out.on (hR.st hi)
      obtain ⟨r5, s5⟩ := HF.out.on HR.out.1 (hR.st hi)
      go_simp
      refine hK.out _ _ ?_
      exact ⟨(fun j => if j = 58 then .agg #[.int .i64 n, .int .i64 d] else v j), g, rfl, ⟨(fun h => by simp [upd_self] at h), (fun _ => ⟨W, hR.st hi, rfl⟩), (fun _ j hj => upd_on (hw j hj)), hR.f0.keep rfl, hR.f1.keep rfl, hR.f2.keep rfl, hR.f3.keep rfl, hR.f4.keep rfl, hR.f5.keep rfl, hR.f6.keep rfl, hR.f7.keep rfl, (fun _ => rfl), hR.f9.keep rfl, hR.f11.keep rfl⟩⟩
     refine EachOf.cons [9] rfl (by kernel_rfl) ?_ ?_
     ·rintro L A W ⟨v, g, rfl, hR⟩ hi hw K hK
      have e9 := hR.f9 (hw 9 (by simp))
      simp only [e9]
      clear e9
      go_simp
      refine hK.out _ _ ?_
      exact ⟨(fun j => if j = 59 then .int .i64 er else if j = 5 then .int .i64 er else v j), g, rfl, ⟨(fun h => hR.st (upd_false h)), hR.sr.keep rfl, hR.ar.keepM rfl (fun h j hj => upd_on (h j hj)), hR.f0.keep rfl, hR.f1.keep rfl, hR.f2.keep rfl, hR.f3.keep rfl, hR.f4.keep rfl, hR.f5.keep rfl, hR.f6.keep rfl, hR.f7.keep rfl, hR.f8.keep rfl, (fun _ => rfl), (fun _ => rfl)⟩⟩
     exact EachOf.nil
    rintro L A W4t ⟨v4t, g4t, rfl, hR⟩ hL
    have e11 := hR.f11 (hL 11 (by simp))
    obtain ⟨W4tb, hb9, hw9⟩ := hR.sr (hL 10 (by simp))
    have hst := Lib.hid hb9
    clear hb9
    simp only [e11]
    clear e11
    clear hR hL
    replace HF := Lib.hid (HF.out.on HR.out.1 hst.out)
    replace HXF := Lib.hid (HXF.out.on HX.out.1 hst.out)
    replace HYF := Lib.hid (HYF.out.on HY.out.1 hst.out)
    replace HDF := Lib.hid (HDF.out.on HD.out.1 hst.out)
    replace HA := Lib.hid (HA.out.on hst.out)
    replace HB := Lib.hid (HB.out.on hst.out)
    replace HR := Lib.hid (HR.out.on hst.out)
    replace HX := Lib.hid (HX.out.on hst.out)
    replace HY := Lib.hid (HY.out.on hst.out)
    replace HD := Lib.hid (HD.out.on hst.out)
    replace HW := Lib.hid (below_on HW.out hst.out)
    subst hw9
    have hB := ((HW.out.setCell (p := ⟨w.heap.size + 1 + 1, 0, none⟩) (by simp; omega) (.int .i64 n)).setCell (p := ⟨w.heap.size + 1 + 1, 1, none⟩) (by simp; omega) (.int .i64 d))
    obtain ⟨_, r8, r9⟩ := Blk.set (x := .int .i64 n) (y := .int .i64 d) HR.out
    go_wp2
    refine bodyPost_ret (by simp [results, Tryz.results79, go_sem, r8, r9]; try rfl) rfl ?_
    exact ⟨rfl, hB⟩
  ·have CP := CS
   have CD := CD1 rfl
   obtain ⟨_, HAp, HAq⟩ := HA.out
   obtain ⟨_, HBp, HBq⟩ := HB.out
   go_wp2_with fail
   clear HAp HAq HBp HBq
   refine wp_region_each (fun L A W => ∃ (v : Nat → Value) (g : Nat → Nat), A = ⟨#[.agg #[.int .i64 an, .int .i64 ad], .agg #[.int .i64 bn, .int .i64 bd], .pointer (some ⟨w.heap.size, 0, none⟩), .pointer (some ⟨w.heap.size + 1, 0, none⟩), .pointer (some ⟨w.heap.size + 1 + 1, 0, none⟩), v 5, .pointer (some ⟨gx, 0, none⟩), .pointer (some ⟨gy, 0, none⟩), .pointer (some ⟨gd, 0, none⟩), v1 9, v1 10, v1 11, v1 12, v1 13, v1 14, v1 15, v2 16, v2 17, v2 18, v2 19, v2 20, v2 21, v2 22, v3 23, v3 24, v3 25, v3 26, v3 27, v3 28, v3 29, .pointer (some ⟨w.heap.size, 0, none⟩), .int .i64 an, .bool true, .pointer (some ⟨w.heap.size + 1, 0, none⟩), .int .i64 bn, .bool true, .bool true, v 37, v 38, v 39, v 40, v 41, v 42, v 43, v 44, v 45, v 46, undef, undef, undef, undef, undef, undef, undef, undef, undef, undef, undef, undef, undef, undef, undef, undef, undef, undef, undef, undef, undef, undef, undef], []⟩ ∧ Add5tR w an ad bn bd a b a2 b2 X1 X2 Y1 Y2 D1 D2 S1 S2 n d er W3 L v g W) (by kernel_rfl) (by kernel_rfl) ⟨fun j => if j = 5 then .int .i64 0 else undef, fun _ => 0, rfl, ⟨(fun _ => Below.drew (Below.refl _ _)), Had.none, Had.none, Had.none, Had.none, Had.none, Had.none, Had.none, Had.none, Had.none, Had.none, Had.none, Had.none, Had.none⟩⟩ (rs := [0, 1, 2, 3, 4, 5, 6, 7, 8, 9, 10, 11]) (by kernel_rfl) ?_ ?_
   ·refine EachOf.cons [] rfl (by kernel_rfl) ?_ ?_
    ·rintro L A W ⟨v, g, rfl, hR⟩ hi hw K hK
     have hk : L 10 = false := hR.ar.not hi rfl
     obtain ⟨_, q0, q1⟩ := HX.out.on (hR.st hk)
     go_simp
     refine hK.out _ _ ?_
     exact ⟨(fun j => if j = 37 then .agg #[.int .u64 X1, .int .u64 X2] else v j), g, rfl, ⟨(fun h => hR.st (upd_false h)), hR.sr.keep rfl, hR.ar.keepM rfl (fun h j hj => upd_on (h j hj)), (fun _ => rfl), hR.f1.keep rfl, hR.f2.keep rfl, hR.f3.keep rfl, hR.f4.keep rfl, hR.f5.keep rfl, hR.f6.keep rfl, hR.f7.keep rfl, hR.f8.keep rfl, hR.f9.keep rfl, hR.f11.keep rfl⟩⟩
    refine EachOf.cons [] rfl (by kernel_rfl) ?_ ?_
    ·rintro L A W ⟨v, g, rfl, hR⟩ hi hw K hK
     have hk : L 10 = false := hR.ar.not hi rfl
     obtain ⟨_, q0, q1⟩ := HY.out.on (hR.st hk)
     go_simp
     refine hK.out _ _ ?_
     exact ⟨(fun j => if j = 38 then .agg #[.int .u64 Y1, .int .u64 Y2] else v j), g, rfl, ⟨(fun h => hR.st (upd_false h)), hR.sr.keep rfl, hR.ar.keepM rfl (fun h j hj => upd_on (h j hj)), hR.f0.keep rfl, (fun _ => rfl), hR.f2.keep rfl, hR.f3.keep rfl, hR.f4.keep rfl, hR.f5.keep rfl, hR.f6.keep rfl, hR.f7.keep rfl, hR.f8.keep rfl, hR.f9.keep rfl, hR.f11.keep rfl⟩⟩
    refine EachOf.cons [0, 1] rfl (by kernel_rfl) ?_ ?_
    ·rintro L A W ⟨v, g, rfl, hR⟩ hi hw K hK
     have hk : L 10 = false := hR.ar.not hi rfl
     have e0 := hR.f0 (hw 0 (by simp))
     have e1 := hR.f1 (hw 1 (by simp))
     simp only [e0, e1]
     clear e0 e1
     go_simp
     go_at_call 75
     (with_reducible refine ((CP _).out).mono ?_)
     rintro e w2 ⟨rfl, hb⟩
     go_simp
     refine hK.out _ _ ?_
     exact ⟨(fun j => if j = 37 then .agg #[.int .u64 X1, .int .u64 X2] else if j = 38 then .agg #[.int .u64 Y1, .int .u64 Y2] else if j = 39 then .agg #[.int .u64 S1, .int .u64 S2] else v j), g, rfl, ⟨(fun _ => below_on (hR.st hk) hb), (fun h => absurd (upd_back h rfl) (by simp [hk])), hR.ar.keepM rfl (fun h j hj => upd_on (h j hj)), (fun _ => rfl), (fun _ => rfl), (fun _ => rfl), hR.f3.keep rfl, hR.f4.keep rfl, hR.f5.keep rfl, hR.f6.keep rfl, hR.f7.keep rfl, hR.f8.keep rfl, hR.f9.keep rfl, hR.f11.keep rfl⟩⟩
    refine EachOf.cons [] rfl (by kernel_rfl) ?_ ?_
    ·rintro L A W ⟨v, g, rfl, hR⟩ hi hw K hK
     have hk : L 10 = false := hR.ar.not hi rfl
     go_simp
     refine hK.out _ _ ?_
     exact ⟨(fun j => if j = 40 then .pointer (some ⟨w.heap.size, 0, none⟩) else v j), g, rfl, ⟨(fun h => hR.st (upd_false h)), hR.sr.keep rfl, hR.ar.keepM rfl (fun h j hj => upd_on (h j hj)), hR.f0.keep rfl, hR.f1.keep rfl, hR.f2.keep rfl, (fun _ => rfl), hR.f4.keep rfl, hR.f5.keep rfl, hR.f6.keep rfl, hR.f7.keep rfl, hR.f8.keep rfl, hR.f9.keep rfl, hR.f11.keep rfl⟩⟩
    refine EachOf.cons [3] rfl (by kernel_rfl) ?_ ?_
    ·rintro L A W ⟨v, g, rfl, hR⟩ hi hw K hK
     have hk : L 10 = false := hR.ar.not hi rfl
     have e3 := hR.f3 (hw 3 (by simp))
     simp only [e3]
     clear e3
     obtain ⟨_, q0, q1⟩ := HA.out.on (hR.st hk)
     go_simp
     refine hK.out _ _ ?_
     exact ⟨(fun j => if j = 40 then .pointer (some ⟨w.heap.size, 0, none⟩) else if j = 41 then .int .i64 an else v j), g, rfl, ⟨(fun h => hR.st (upd_false h)), hR.sr.keep rfl, hR.ar.keepM rfl (fun h j hj => upd_on (h j hj)), hR.f0.keep rfl, hR.f1.keep rfl, hR.f2.keep rfl, (fun _ => rfl), (fun _ => rfl), hR.f5.keep rfl, hR.f6.keep rfl, hR.f7.keep rfl, hR.f8.keep rfl, hR.f9.keep rfl, hR.f11.keep rfl⟩⟩
    refine EachOf.cons [4] rfl (by kernel_rfl) ?_ ?_
    ·rintro L A W ⟨v, g, rfl, hR⟩ hi hw K hK
     have hk : L 10 = false := hR.ar.not hi rfl
     have e4 := hR.f4 (hw 4 (by simp))
     simp only [e4]
     clear e4
     go_simp
     refine hK.out _ _ ?_
     exact ⟨(fun j => if j = 41 then .int .i64 an else if j = 42 then .bool true else v j), g, rfl, ⟨(fun h => hR.st (upd_false h)), hR.sr.keep rfl, hR.ar.keepM rfl (fun h j hj => upd_on (h j hj)), hR.f0.keep rfl, hR.f1.keep rfl, hR.f2.keep rfl, hR.f3.keep rfl, (fun _ => rfl), (fun _ => rfl), hR.f6.keep rfl, hR.f7.keep rfl, hR.f8.keep rfl, hR.f9.keep rfl, hR.f11.keep rfl⟩⟩
    refine EachOf.cons [] rfl (by kernel_rfl) ?_ ?_
    ·rintro L A W ⟨v, g, rfl, hR⟩ hi hw K hK
     have hk : L 10 = false := hR.ar.not hi rfl
     obtain ⟨_, q0, q1⟩ := HD.out.on (hR.st hk)
     go_simp
     refine hK.out _ _ ?_
     exact ⟨(fun j => if j = 43 then .agg #[.int .u64 D1, .int .u64 D2] else v j), g, rfl, ⟨(fun h => hR.st (upd_false h)), hR.sr.keep rfl, hR.ar.keepM rfl (fun h j hj => upd_on (h j hj)), hR.f0.keep rfl, hR.f1.keep rfl, hR.f2.keep rfl, hR.f3.keep rfl, hR.f4.keep rfl, hR.f5.keep rfl, (fun _ => rfl), hR.f7.keep rfl, hR.f8.keep rfl, hR.f9.keep rfl, hR.f11.keep rfl⟩⟩
    refine EachOf.cons [2, 5, 6] rfl (by kernel_rfl) ?_ ?_
    ·rintro L A W ⟨v, g, rfl, hR⟩ hi hw K hK
     have hk : L 10 = false := hR.ar.not hi rfl
     have e2 := hR.f2 (hw 2 (by simp))
     have e5 := hR.f5 (hw 5 (by simp))
     have e6 := hR.f6 (hw 6 (by simp))
     simp only [e2, e5, e6]
     clear e2 e5 e6
     go_simp
     go_at_call 96
     (with_reducible refine ((CD _).out).mono ?_)
     rintro e w2 ⟨rfl, hb⟩
     go_simp
     refine hK.out _ _ ?_
     exact ⟨(fun j => if j = 39 then .agg #[.int .u64 S1, .int .u64 S2] else if j = 42 then .bool true else if j = 43 then .agg #[.int .u64 D1, .int .u64 D2] else if j = 44 then .tuple #[.agg #[.int .i64 n, .int .i64 d], .int .i64 er] else v j), g, rfl, ⟨(fun _ => below_on (hR.st hk) hb), (fun h => absurd (upd_back h rfl) (by simp [hk])), hR.ar.keepM rfl (fun h j hj => upd_on (h j hj)), hR.f0.keep rfl, hR.f1.keep rfl, (fun _ => rfl), hR.f3.keep rfl, hR.f4.keep rfl, (fun _ => rfl), (fun _ => rfl), (fun _ => rfl), hR.f8.keep rfl, hR.f9.keep rfl, hR.f11.keep rfl⟩⟩
    refine EachOf.cons [7] rfl (by kernel_rfl) ?_ ?_
    ·rintro L A W ⟨v, g, rfl, hR⟩ hi hw K hK
     have hk : L 10 = false := hR.ar.not hi rfl
     have e7 := hR.f7 (hw 7 (by simp))
     simp only [e7]
     clear e7
     go_simp
     refine hK.out _ _ ?_
     exact ⟨(fun j => if j = 44 then .tuple #[.agg #[.int .i64 n, .int .i64 d], .int .i64 er] else if j = 45 then .agg #[.int .i64 n, .int .i64 d] else v j), g, rfl, ⟨(fun h => hR.st (upd_false h)), hR.sr.keep rfl, hR.ar.keepM rfl (fun h j hj => upd_on (h j hj)), hR.f0.keep rfl, hR.f1.keep rfl, hR.f2.keep rfl, hR.f3.keep rfl, hR.f4.keep rfl, hR.f5.keep rfl, hR.f6.keep rfl, (fun _ => rfl), (fun _ => rfl), hR.f9.keep rfl, hR.f11.keep rfl⟩⟩
    refine EachOf.cons [7] rfl (by kernel_rfl) ?_ ?_
    ·rintro L A W ⟨v, g, rfl, hR⟩ hi hw K hK
     have hk : L 10 = false := hR.ar.not hi rfl
     have e7 := hR.f7 (hw 7 (by simp))
     simp only [e7]
     clear e7
     go_simp
     refine hK.out _ _ ?_
     exact ⟨(fun j => if j = 44 then .tuple #[.agg #[.int .i64 n, .int .i64 d], .int .i64 er] else if j = 46 then .int .i64 er else v j), g, rfl, ⟨(fun h => hR.st (upd_false h)), hR.sr.keep rfl, hR.ar.keepM rfl (fun h j hj => upd_on (h j hj)), hR.f0.keep rfl, hR.f1.keep rfl, hR.f2.keep rfl, hR.f3.keep rfl, hR.f4.keep rfl, hR.f5.keep rfl, hR.f6.keep rfl, (fun _ => rfl), hR.f8.keep rfl, (fun _ => rfl), hR.f11.keep rfl⟩⟩
    refine EachOf.cons [0, 1, 2, 3, 4, 5, 6, 7, 8, 9] rfl (by kernel_rfl) ?_ ?_
    ·rintro L A W ⟨v, g, rfl, hR⟩ hi hw K hK
     have e8 := hR.f8 (hw 8 (by simp))
     simp only [e8]
     clear e8
     obtain ⟨l5, p5, q5⟩ := HR.out.on (hR.st hi)
     obtain ⟨r5, s5⟩ := HF.out.on HR.out.1 (hR.st hi)
     go_simp
     refine hK.out _ _ ?_
     exact ⟨(fun j => if j = 45 then .agg #[.int .i64 n, .int .i64 d] else v j), g, rfl, ⟨(fun h => by simp [upd_self] at h), (fun _ => ⟨W, hR.st hi, rfl⟩), (fun _ j hj => upd_on (hw j hj)), hR.f0.keep rfl, hR.f1.keep rfl, hR.f2.keep rfl, hR.f3.keep rfl, hR.f4.keep rfl, hR.f5.keep rfl, hR.f6.keep rfl, hR.f7.keep rfl, (fun _ => rfl), hR.f9.keep rfl, hR.f11.keep rfl⟩⟩
    refine EachOf.cons [9] rfl (by kernel_rfl) ?_ ?_
    ·rintro L A W ⟨v, g, rfl, hR⟩ hi hw K hK
     have e9 := hR.f9 (hw 9 (by simp))
     simp only [e9]
     clear e9
     go_simp
     refine hK.out _ _ ?_
     exact ⟨(fun j => if j = 46 then .int .i64 er else if j = 5 then .int .i64 er else v j), g, rfl, ⟨(fun h => hR.st (upd_false h)), hR.sr.keep rfl, hR.ar.keepM rfl (fun h j hj => upd_on (h j hj)), hR.f0.keep rfl, hR.f1.keep rfl, hR.f2.keep rfl, hR.f3.keep rfl, hR.f4.keep rfl, hR.f5.keep rfl, hR.f6.keep rfl, hR.f7.keep rfl, hR.f8.keep rfl, (fun _ => rfl), (fun _ => rfl)⟩⟩
    exact EachOf.nil
   rintro L A W4t ⟨v4t, g4t, rfl, hR⟩ hL
   have e11 := hR.f11 (hL 11 (by simp))
   obtain ⟨W4tb, hb9, hw9⟩ := hR.sr (hL 10 (by simp))
   have hst := Lib.hid hb9
   clear hb9
   simp only [e11]
   clear e11
   clear hR hL
   replace HF := Lib.hid (HF.out.on HR.out.1 hst.out)
   replace HXF := Lib.hid (HXF.out.on HX.out.1 hst.out)
   replace HYF := Lib.hid (HYF.out.on HY.out.1 hst.out)
   replace HDF := Lib.hid (HDF.out.on HD.out.1 hst.out)
   replace HA := Lib.hid (HA.out.on hst.out)
   replace HB := Lib.hid (HB.out.on hst.out)
   replace HR := Lib.hid (HR.out.on hst.out)
   replace HX := Lib.hid (HX.out.on hst.out)
   replace HY := Lib.hid (HY.out.on hst.out)
   replace HD := Lib.hid (HD.out.on hst.out)
   replace HW := Lib.hid (below_on HW.out hst.out)
   subst hw9
   have hB := ((HW.out.setCell (p := ⟨w.heap.size + 1 + 1, 0, none⟩) (by simp; omega) (.int .i64 n)).setCell (p := ⟨w.heap.size + 1 + 1, 1, none⟩) (by simp; omega) (.int .i64 d))
   obtain ⟨_, r8, r9⟩ := Blk.set (x := .int .i64 n) (y := .int .i64 d) HR.out
   go_wp2
   refine bodyPost_ret (by simp [results, Tryz.results79, go_sem, r8, r9]; try rfl) rfl ?_
   exact ⟨rfl, hB⟩

theorem refAdd_any (an ad bn bd : Int) (w : World) (va : Vld an ad) (vb : Vld bn bd) (n d er : Int) (h : addT an ad bn bd = (n, d, er)) :
  Calls Tryz.prog 79 #[.agg #[.int .i64 an, .int .i64 ad], .agg #[.int .i64 bn, .int .i64 bd]] w fun e w' => e = .returned (.tuple #[.agg #[.int .i64 n, .int .i64 d], .int .i64 er]) ∧ Below w.heap.size w w' := by
 rw [add_made va vb] at h
 have a1 := va.d1; have a2 := va.d2; have a3 := va.n1; have a4 := va.n2
 have b1 := vb.d1; have b2 := vb.d2; have b3 := vb.n1; have b4 := vb.n2
 obtain ⟨x0, x1⟩ := nat_mul_bd (a := an) (b := bd) (by omega) (by omega)
 obtain ⟨y0, y1⟩ := nat_mul_bd (a := bn) (b := ad) (by omega) (by omega)
 obtain ⟨z0, z1⟩ := nat_mul_bd (a := ad) (b := bd) (by omega) (by omega)
 refine refAdd_walk w an ad bn bd _ _ _ _ _ _ _ _ _ _ _ _ _ _ _ _ n d er _ _ (decide ((an.natAbs : Int) * (bd.natAbs : Int) < (bn.natAbs : Int) * (ad.natAbs : Int)))
  (fun w => refSize_any an w (by omega) (by omega)) (fun w => refSize_any bn w (by omega) (by omega)) (fun w => refSize_any ad w (by omega) (by omega)) (fun w => refSize_any bd w (by omega) (by omega))
  (fun w => refMul_any _ _ w (by omega) (by omega) (by omega) (by omega)) (fun w => refMul_any _ _ w (by omega) (by omega) (by omega) (by omega)) (fun w => refMul_any _ _ w (by omega) (by omega) (by omega) (by omega))
  (fun w => refPlus_any _ _ w) (fun w => less_any _ _ w (by omega) (by omega) (by omega) (by omega)) (fun w => refMinus_any _ _ w) (fun w => refMinus_any _ _ w) ?_ ?_ ?_ rfl rfl
 ·intro hs w
  unfold addR at h
  rw [if_pos hs] at h
  exact made_any _ _ _ w (by omega) (by omega) (by omega) (by omega) n d er h
 ·intro hs hl w
  unfold addR at h
  rw [if_neg hs, if_pos (by simpa using hl)] at h
  exact made_any _ _ _ w (by simp at hl; omega) (by omega) (by omega) (by omega) n d er h
 ·intro hs hl w
  unfold addR at h
  rw [if_neg hs, if_neg (by simpa using hl)] at h
  exact made_any _ _ _ w (by simp at hl; omega) (by omega) (by omega) (by omega) n d er h

end Go.Proofs.YtggpdhdbeokkcaaGreat

namespace Go.Proofs.YtggpdhdbeokkcaaGreat
set_option linter.unusedVariables false
open Go.RowKit Go.Shelf

theorem two_args (w : World) (a0 a1 b0 b1 : Value) (t : Nat) (W : World) (hW : W = (w.alloc (Obj.cells #[a0, a1] t)).alloc (Obj.cells #[b0, b1] t)) : Blk W w.heap.size a0 a1 ∧ Blk W (w.heap.size + 1) b0 b1 ∧ Below w.heap.size w W := by
 subst hW
 refine ⟨(Blk.new _ _ _ _).alloc _, ?_, (by repeat' (first | (with_reducible exact Below.refl _ _) | (with_reducible assumption) | (with_reducible refine Below.alloc ?_ ?_ _) | (with_reducible refine below_drew ?_ _) | (with_reducible refine Below.drew ?_) | (with_reducible refine Below.setCell ?_ ?_ _) | go_size))⟩
 have h := Blk.new (w.alloc (Obj.cells #[a0, a1] t)) b0 b1 t
 simpa using h

structure Cmp1R (w : World) (an ad bn bd a b a2 b2 X1 X2 Y1 Y2 : Int) (Wc : World) (L : Nat → Bool) (v : Nat → Value) (g : Nat → Nat) (W : World) : Prop where
 st : Below Wc.heap.size Wc W
 f0 : Had L 0 (v 7 = .pointer (some ⟨w.heap.size, 0, none⟩))
 f1 : Had L 1 (v 8 = .int .i64 an)
 f2 : Had L 2 (v 9 = .int .u64 a)
 f3 : Had L 3 (v 10 = .pointer (some ⟨w.heap.size + 1, 1, none⟩))
 f4 : Had L 4 (v 11 = .int .i64 bd)
 f5 : Had L 5 (v 12 = .int .u64 b)
 f6 : Had L 6 (v 13 = .agg #[.int .u64 X1, .int .u64 X2])
 f7 : Had L 7 (v 14 = .pointer (some ⟨w.heap.size + 1, 0, none⟩))
 f8 : Had L 8 (v 15 = .int .i64 bn)
 f9 : Had L 9 (v 16 = .int .u64 b2)
 f10 : Had L 10 (v 17 = .pointer (some ⟨w.heap.size, 1, none⟩))
 f11 : Had L 11 (v 18 = .int .i64 ad)
 f12 : Had L 12 (v 19 = .int .u64 a2)
 f13 : Had L 13 (v 20 = .agg #[.int .u64 Y1, .int .u64 Y2])
 f14 : Had L 14 (v 5 = .pointer (some ⟨g 14, 0, none⟩))
 f15 : Had L 15 (v 6 = .pointer (some ⟨g 15, 0, none⟩))
 b14 : Had L 14 (Own Wc.heap.size W (g 14))
 b15 : Had L 15 (Own Wc.heap.size W (g 15))
 n14_15 : Had2 L 14 15 (g 14 ≠ g 15)
 c16 : Had L 16 (L 14 = true ∧ Blk W (g 14) (.int .u64 X1) (.int .u64 X2))
 c17 : Had L 17 (L 15 = true ∧ Blk W (g 15) (.int .u64 Y1) (.int .u64 Y2))

structure Cmp8f0fR (w : World) (an ad bn bd a b a2 b2 X1 X2 Y1 Y2 : Int) (Wc : World) (L : Nat → Bool) (v : Nat → Value) (g : Nat → Nat) (W : World) : Prop where
 st : Below Wc.heap.size Wc W
 f0 : Had L 0 (v 40 = .agg #[.int .u64 X1, .int .u64 X2])
 f1 : Had L 1 (v 41 = .agg #[.int .u64 Y1, .int .u64 Y2])
 f2 : Had L 2 (v 42 = .bool false)
 f3 : Had L 3 (v 43 = .pointer (some ⟨w.heap.size, 0, none⟩))
 f4 : Had L 4 (v 44 = .int .i64 an)
 f5 : Had L 5 (v 45 = .bool true)
 f6 : Had L 6 (v 46 = .bool false)

structure Cmp8f0tR (w : World) (an ad bn bd a b a2 b2 X1 X2 Y1 Y2 : Int) (Wc : World) (L : Nat → Bool) (v : Nat → Value) (g : Nat → Nat) (W : World) : Prop where
 st : Below Wc.heap.size Wc W
 f0 : Had L 0 (v 40 = .agg #[.int .u64 X1, .int .u64 X2])
 f1 : Had L 1 (v 41 = .agg #[.int .u64 Y1, .int .u64 Y2])
 f2 : Had L 2 (v 42 = .bool true)
 f3 : Had L 3 (v 43 = .pointer (some ⟨w.heap.size, 0, none⟩))
 f4 : Had L 4 (v 44 = .int .i64 an)
 f5 : Had L 5 (v 45 = .bool true)
 f6 : Had L 6 (v 46 = .bool true)

structure Cmp8f1fR (w : World) (an ad bn bd a b a2 b2 X1 X2 Y1 Y2 : Int) (Wc : World) (L : Nat → Bool) (v : Nat → Value) (g : Nat → Nat) (W : World) : Prop where
 st : Below Wc.heap.size Wc W
 f0 : Had L 0 (v 40 = .agg #[.int .u64 X1, .int .u64 X2])
 f1 : Had L 1 (v 41 = .agg #[.int .u64 Y1, .int .u64 Y2])
 f2 : Had L 2 (v 42 = .bool false)
 f3 : Had L 3 (v 43 = .pointer (some ⟨w.heap.size, 0, none⟩))
 f4 : Had L 4 (v 44 = .int .i64 an)
 f5 : Had L 5 (v 45 = .bool true)
 f6 : Had L 6 (v 46 = .bool false)

structure Cmp8f1tR (w : World) (an ad bn bd a b a2 b2 X1 X2 Y1 Y2 : Int) (Wc : World) (L : Nat → Bool) (v : Nat → Value) (g : Nat → Nat) (W : World) : Prop where
 st : Below Wc.heap.size Wc W
 f0 : Had L 0 (v 40 = .agg #[.int .u64 X1, .int .u64 X2])
 f1 : Had L 1 (v 41 = .agg #[.int .u64 Y1, .int .u64 Y2])
 f2 : Had L 2 (v 42 = .bool true)
 f3 : Had L 3 (v 43 = .pointer (some ⟨w.heap.size, 0, none⟩))
 f4 : Had L 4 (v 44 = .int .i64 an)
 f5 : Had L 5 (v 45 = .bool true)
 f6 : Had L 6 (v 46 = .bool true)

structure Cmp8t0fR (w : World) (an ad bn bd a b a2 b2 X1 X2 Y1 Y2 : Int) (Wc : World) (L : Nat → Bool) (v : Nat → Value) (g : Nat → Nat) (W : World) : Prop where
 st : Below Wc.heap.size Wc W
 f0 : Had L 0 (v 40 = .agg #[.int .u64 X1, .int .u64 X2])
 f1 : Had L 1 (v 41 = .agg #[.int .u64 Y1, .int .u64 Y2])
 f2 : Had L 2 (v 42 = .bool false)
 f3 : Had L 3 (v 43 = .pointer (some ⟨w.heap.size, 0, none⟩))
 f4 : Had L 4 (v 44 = .int .i64 an)
 f5 : Had L 5 (v 45 = .bool false)
 f6 : Had L 6 (v 46 = .bool true)

structure Cmp8t0tR (w : World) (an ad bn bd a b a2 b2 X1 X2 Y1 Y2 : Int) (Wc : World) (L : Nat → Bool) (v : Nat → Value) (g : Nat → Nat) (W : World) : Prop where
 st : Below Wc.heap.size Wc W
 f0 : Had L 0 (v 40 = .agg #[.int .u64 X1, .int .u64 X2])
 f1 : Had L 1 (v 41 = .agg #[.int .u64 Y1, .int .u64 Y2])
 f2 : Had L 2 (v 42 = .bool true)
 f3 : Had L 3 (v 43 = .pointer (some ⟨w.heap.size, 0, none⟩))
 f4 : Had L 4 (v 44 = .int .i64 an)
 f5 : Had L 5 (v 45 = .bool false)
 f6 : Had L 6 (v 46 = .bool false)

structure Cmp8t1fR (w : World) (an ad bn bd a b a2 b2 X1 X2 Y1 Y2 : Int) (Wc : World) (L : Nat → Bool) (v : Nat → Value) (g : Nat → Nat) (W : World) : Prop where
 st : Below Wc.heap.size Wc W
 f0 : Had L 0 (v 40 = .agg #[.int .u64 X1, .int .u64 X2])
 f1 : Had L 1 (v 41 = .agg #[.int .u64 Y1, .int .u64 Y2])
 f2 : Had L 2 (v 42 = .bool false)
 f3 : Had L 3 (v 43 = .pointer (some ⟨w.heap.size, 0, none⟩))
 f4 : Had L 4 (v 44 = .int .i64 an)
 f5 : Had L 5 (v 45 = .bool false)
 f6 : Had L 6 (v 46 = .bool true)

structure Cmp8t1tR (w : World) (an ad bn bd a b a2 b2 X1 X2 Y1 Y2 : Int) (Wc : World) (L : Nat → Bool) (v : Nat → Value) (g : Nat → Nat) (W : World) : Prop where
 st : Below Wc.heap.size Wc W
 f0 : Had L 0 (v 40 = .agg #[.int .u64 X1, .int .u64 X2])
 f1 : Had L 1 (v 41 = .agg #[.int .u64 Y1, .int .u64 Y2])
 f2 : Had L 2 (v 42 = .bool true)
 f3 : Had L 3 (v 43 = .pointer (some ⟨w.heap.size, 0, none⟩))
 f4 : Had L 4 (v 44 = .int .i64 an)
 f5 : Had L 5 (v 45 = .bool false)
 f6 : Had L 6 (v 46 = .bool false)

def cmpV (sa sb eq less : Bool) : Int := if sa && !sb then -1 else if !sa && sb then 1 else if eq then 0 else if less == !sa then -1 else 1

set_option maxRecDepth 100000 in
set_option maxHeartbeats 16000000 in
theorem refCmp_walk (w : World) (an ad bn bd a b a2 b2 X1 X2 Y1 Y2 k : Int) (sa sb eq less : Bool)
  (C1 : ∀ w, Hid (Calls Tryz.prog 36 #[.int .i64 an] w fun e w' => e = .returned (.int .u64 a) ∧ w = w'))
  (C2 : ∀ w, Hid (Calls Tryz.prog 36 #[.int .i64 bn] w fun e w' => e = .returned (.int .u64 b2) ∧ w = w'))
  (C3 : ∀ w, Hid (Calls Tryz.prog 36 #[.int .i64 ad] w fun e w' => e = .returned (.int .u64 a2) ∧ w = w'))
  (C4 : ∀ w, Hid (Calls Tryz.prog 36 #[.int .i64 bd] w fun e w' => e = .returned (.int .u64 b) ∧ w = w'))
  (CM1 : ∀ w, Hid (Calls Tryz.prog 104 #[.int .u64 a, .int .u64 b] w fun e w' => e = .returned (.agg #[.int .u64 X1, .int .u64 X2]) ∧ Below w.heap.size w w'))
  (CM2 : ∀ w, Hid (Calls Tryz.prog 104 #[.int .u64 b2, .int .u64 a2] w fun e w' => e = .returned (.agg #[.int .u64 Y1, .int .u64 Y2]) ∧ Below w.heap.size w w'))
  (CL : ∀ w, Hid (Calls Tryz.prog 73 #[.agg #[.int .u64 X1, .int .u64 X2], .agg #[.int .u64 Y1, .int .u64 Y2]] w fun e w' => e = .returned (.bool less) ∧ Below w.heap.size w w'))
  (d1 : decide (an < 0) = sa) (d2 : decide (bn < 0) = sb) (d3 : decide (0 ≤ an) = !sa) (d4 : decide (0 ≤ bn) = !sb)
  (E1 : Hid (eq = true → X1 = Y1 ∧ X2 = Y2)) (E0 : Hid (eq = false → ¬ X1 = Y1 ∨ X1 = Y1 ∧ ¬ X2 = Y2)) (hk : Hid (k = cmpV sa sb eq less)) :
  Calls Tryz.prog 76 #[.agg #[.int .i64 an, .int .i64 ad], .agg #[.int .i64 bn, .int .i64 bd]] w fun e w' => e = .returned (.int .i64 k) ∧ Below w.heap.size w w' := by
 go_enter Tryz.func76, Tryz.ntmps76
 go_upto_region 1 with fail
 obtain ⟨W0, hW0⟩ : ∃ W0, W0 = (w.alloc (Obj.cells #[Value.int IntKind.i64 an, Value.int IntKind.i64 ad] 27)).alloc (Obj.cells #[Value.int IntKind.i64 bn, Value.int IntKind.i64 bd] 27) := ⟨_, rfl⟩
 rw [← hW0]
 obtain ⟨s1, s2, s3⟩ := two_args w _ _ _ _ _ W0 hW0
 have HA := Lib.hid s1
 have HB := Lib.hid s2
 have HW := Lib.hid s3
 clear hW0 s1 s2 s3
 refine wp_region_each (fun L A W => ∃ (v : Nat → Value) (g : Nat → Nat), A = ⟨#[.agg #[.int .i64 an, .int .i64 ad], .agg #[.int .i64 bn, .int .i64 bd], .pointer (some ⟨w.heap.size, 0, none⟩), .pointer (some ⟨w.heap.size + 1, 0, none⟩), .int .i64 0, v 5, v 6, v 7, v 8, v 9, v 10, v 11, v 12, v 13, v 14, v 15, v 16, v 17, v 18, v 19, v 20, undef, undef, undef, undef, undef, undef, undef, undef, undef, undef, undef, undef, undef, undef, undef, undef, undef, undef, undef, undef, undef, undef, undef, undef, undef, undef], []⟩ ∧ Cmp1R w an ad bn bd a b a2 b2 X1 X2 Y1 Y2 W0 L v g W) (by kernel_rfl) (by kernel_rfl) ⟨fun _ => undef, fun _ => 0, rfl, ⟨Below.drew (Below.refl _ _), Had.none, Had.none, Had.none, Had.none, Had.none, Had.none, Had.none, Had.none, Had.none, Had.none, Had.none, Had.none, Had.none, Had.none, Had.none, Had.none, Had.none, Had.none, (fun h => by cases h), Had.none, Had.none⟩⟩ (rs := [0, 1, 2, 3, 4, 5, 6, 7, 8, 9, 10, 11, 12, 13, 14, 15, 16, 17]) (by kernel_rfl) ?_ ?_
 ·refine EachOf.cons [] rfl (by kernel_rfl) ?_ ?_
  ·rintro L A W ⟨v, g, rfl, hR⟩ hi hw K hK
   go_simp
   refine hK.out _ _ ?_
   exact ⟨(fun j => if j = 7 then .pointer (some ⟨w.heap.size, 0, none⟩) else v j), g, rfl, ⟨hR.st, (fun _ => rfl), hR.f1.keep rfl, hR.f2.keep rfl, hR.f3.keep rfl, hR.f4.keep rfl, hR.f5.keep rfl, hR.f6.keep rfl, hR.f7.keep rfl, hR.f8.keep rfl, hR.f9.keep rfl, hR.f10.keep rfl, hR.f11.keep rfl, hR.f12.keep rfl, hR.f13.keep rfl, hR.f14.keep rfl, hR.f15.keep rfl, hR.b14.keep rfl, hR.b15.keep rfl, hR.n14_15.keep rfl rfl, hR.c16.keepM rfl (fun h => ⟨upd_on h.1, h.2⟩), hR.c17.keepM rfl (fun h => ⟨upd_on h.1, h.2⟩)⟩⟩
  refine EachOf.cons [0] rfl (by kernel_rfl) ?_ ?_
  ·rintro L A W ⟨v, g, rfl, hR⟩ hi hw K hK
   have e0 := hR.f0 (hw 0 (by simp))
   simp only [e0]
   clear e0
   obtain ⟨_, q0, q1⟩ := HA.out.on hR.st
   go_simp
   refine hK.out _ _ ?_
   exact ⟨(fun j => if j = 7 then .pointer (some ⟨w.heap.size, 0, none⟩) else if j = 8 then .int .i64 an else v j), g, rfl, ⟨hR.st, (fun _ => rfl), (fun _ => rfl), hR.f2.keep rfl, hR.f3.keep rfl, hR.f4.keep rfl, hR.f5.keep rfl, hR.f6.keep rfl, hR.f7.keep rfl, hR.f8.keep rfl, hR.f9.keep rfl, hR.f10.keep rfl, hR.f11.keep rfl, hR.f12.keep rfl, hR.f13.keep rfl, hR.f14.keep rfl, hR.f15.keep rfl, hR.b14.keep rfl, hR.b15.keep rfl, hR.n14_15.keep rfl rfl, hR.c16.keepM rfl (fun h => ⟨upd_on h.1, h.2⟩), hR.c17.keepM rfl (fun h => ⟨upd_on h.1, h.2⟩)⟩⟩
  refine EachOf.cons [1] rfl (by kernel_rfl) ?_ ?_
  ·rintro L A W ⟨v, g, rfl, hR⟩ hi hw K hK
   have e1 := hR.f1 (hw 1 (by simp))
   simp only [e1]
   clear e1
   go_simp
   go_at_call 36
   (with_reducible refine ((C1 _).out).mono ?_)
   rintro e w2 ⟨rfl, rfl⟩
   go_simp
   refine hK.out _ _ ?_
   exact ⟨(fun j => if j = 8 then .int .i64 an else if j = 9 then .int .u64 a else v j), g, rfl, ⟨hR.st, hR.f0.keep rfl, (fun _ => rfl), (fun _ => rfl), hR.f3.keep rfl, hR.f4.keep rfl, hR.f5.keep rfl, hR.f6.keep rfl, hR.f7.keep rfl, hR.f8.keep rfl, hR.f9.keep rfl, hR.f10.keep rfl, hR.f11.keep rfl, hR.f12.keep rfl, hR.f13.keep rfl, hR.f14.keep rfl, hR.f15.keep rfl, hR.b14.keep rfl, hR.b15.keep rfl, hR.n14_15.keep rfl rfl, hR.c16.keepM rfl (fun h => ⟨upd_on h.1, h.2⟩), hR.c17.keepM rfl (fun h => ⟨upd_on h.1, h.2⟩)⟩⟩
  refine EachOf.cons [] rfl (by kernel_rfl) ?_ ?_
  ·rintro L A W ⟨v, g, rfl, hR⟩ hi hw K hK
   go_simp
   refine hK.out _ _ ?_
   exact ⟨(fun j => if j = 10 then .pointer (some ⟨w.heap.size + 1, 1, none⟩) else v j), g, rfl, ⟨hR.st, hR.f0.keep rfl, hR.f1.keep rfl, hR.f2.keep rfl, (fun _ => rfl), hR.f4.keep rfl, hR.f5.keep rfl, hR.f6.keep rfl, hR.f7.keep rfl, hR.f8.keep rfl, hR.f9.keep rfl, hR.f10.keep rfl, hR.f11.keep rfl, hR.f12.keep rfl, hR.f13.keep rfl, hR.f14.keep rfl, hR.f15.keep rfl, hR.b14.keep rfl, hR.b15.keep rfl, hR.n14_15.keep rfl rfl, hR.c16.keepM rfl (fun h => ⟨upd_on h.1, h.2⟩), hR.c17.keepM rfl (fun h => ⟨upd_on h.1, h.2⟩)⟩⟩
  refine EachOf.cons [3] rfl (by kernel_rfl) ?_ ?_
  ·rintro L A W ⟨v, g, rfl, hR⟩ hi hw K hK
   have e3 := hR.f3 (hw 3 (by simp))
   simp only [e3]
   clear e3
   obtain ⟨_, q0, q1⟩ := HB.out.on hR.st
   go_simp
   refine hK.out _ _ ?_
   exact ⟨(fun j => if j = 10 then .pointer (some ⟨w.heap.size + 1, 1, none⟩) else if j = 11 then .int .i64 bd else v j), g, rfl, ⟨hR.st, hR.f0.keep rfl, hR.f1.keep rfl, hR.f2.keep rfl, (fun _ => rfl), (fun _ => rfl), hR.f5.keep rfl, hR.f6.keep rfl, hR.f7.keep rfl, hR.f8.keep rfl, hR.f9.keep rfl, hR.f10.keep rfl, hR.f11.keep rfl, hR.f12.keep rfl, hR.f13.keep rfl, hR.f14.keep rfl, hR.f15.keep rfl, hR.b14.keep rfl, hR.b15.keep rfl, hR.n14_15.keep rfl rfl, hR.c16.keepM rfl (fun h => ⟨upd_on h.1, h.2⟩), hR.c17.keepM rfl (fun h => ⟨upd_on h.1, h.2⟩)⟩⟩
  refine EachOf.cons [4] rfl (by kernel_rfl) ?_ ?_
  ·rintro L A W ⟨v, g, rfl, hR⟩ hi hw K hK
   have e4 := hR.f4 (hw 4 (by simp))
   simp only [e4]
   clear e4
   go_simp
   go_at_call 36
   (with_reducible refine ((C4 _).out).mono ?_)
   rintro e w2 ⟨rfl, rfl⟩
   go_simp
   refine hK.out _ _ ?_
   exact ⟨(fun j => if j = 11 then .int .i64 bd else if j = 12 then .int .u64 b else v j), g, rfl, ⟨hR.st, hR.f0.keep rfl, hR.f1.keep rfl, hR.f2.keep rfl, hR.f3.keep rfl, (fun _ => rfl), (fun _ => rfl), hR.f6.keep rfl, hR.f7.keep rfl, hR.f8.keep rfl, hR.f9.keep rfl, hR.f10.keep rfl, hR.f11.keep rfl, hR.f12.keep rfl, hR.f13.keep rfl, hR.f14.keep rfl, hR.f15.keep rfl, hR.b14.keep rfl, hR.b15.keep rfl, hR.n14_15.keep rfl rfl, hR.c16.keepM rfl (fun h => ⟨upd_on h.1, h.2⟩), hR.c17.keepM rfl (fun h => ⟨upd_on h.1, h.2⟩)⟩⟩
  refine EachOf.cons [2, 5] rfl (by kernel_rfl) ?_ ?_
  ·rintro L A W ⟨v, g, rfl, hR⟩ hi hw K hK
   have e2 := hR.f2 (hw 2 (by simp))
   have e5 := hR.f5 (hw 5 (by simp))
   simp only [e2, e5]
   clear e2 e5
   go_simp
   go_at_call 104
   (with_reducible refine ((CM1 _).out).mono ?_)
   rintro e w2 ⟨rfl, hb⟩
   go_simp
   refine hK.out _ _ ?_
   exact ⟨(fun j => if j = 9 then .int .u64 a else if j = 12 then .int .u64 b else if j = 13 then .agg #[.int .u64 X1, .int .u64 X2] else v j), g, rfl, ⟨below_on hR.st hb, hR.f0.keep rfl, hR.f1.keep rfl, (fun _ => rfl), hR.f3.keep rfl, hR.f4.keep rfl, (fun _ => rfl), (fun _ => rfl), hR.f7.keep rfl, hR.f8.keep rfl, hR.f9.keep rfl, hR.f10.keep rfl, hR.f11.keep rfl, hR.f12.keep rfl, hR.f13.keep rfl, hR.f14.keep rfl, hR.f15.keep rfl, hR.b14.keepM rfl (fun h => h.on hb), hR.b15.keepM rfl (fun h => h.on hb), hR.n14_15.keep rfl rfl, hR.c16.keepM rfl (fun h => ⟨upd_on h.1, h.2.on hb⟩), hR.c17.keepM rfl (fun h => ⟨upd_on h.1, h.2.on hb⟩)⟩⟩
  refine EachOf.cons [] rfl (by kernel_rfl) ?_ ?_
  ·rintro L A W ⟨v, g, rfl, hR⟩ hi hw K hK
   go_simp
   refine hK.out _ _ ?_
   exact ⟨(fun j => if j = 14 then .pointer (some ⟨w.heap.size + 1, 0, none⟩) else v j), g, rfl, ⟨hR.st, hR.f0.keep rfl, hR.f1.keep rfl, hR.f2.keep rfl, hR.f3.keep rfl, hR.f4.keep rfl, hR.f5.keep rfl, hR.f6.keep rfl, (fun _ => rfl), hR.f8.keep rfl, hR.f9.keep rfl, hR.f10.keep rfl, hR.f11.keep rfl, hR.f12.keep rfl, hR.f13.keep rfl, hR.f14.keep rfl, hR.f15.keep rfl, hR.b14.keep rfl, hR.b15.keep rfl, hR.n14_15.keep rfl rfl, hR.c16.keepM rfl (fun h => ⟨upd_on h.1, h.2⟩), hR.c17.keepM rfl (fun h => ⟨upd_on h.1, h.2⟩)⟩⟩
  refine EachOf.cons [7] rfl (by kernel_rfl) ?_ ?_
  ·rintro L A W ⟨v, g, rfl, hR⟩ hi hw K hK
   have e7 := hR.f7 (hw 7 (by simp))
   simp only [e7]
   clear e7
   obtain ⟨_, q0, q1⟩ := HB.out.on hR.st
   go_simp
   refine hK.out _ _ ?_
   exact ⟨(fun j => if j = 14 then .pointer (some ⟨w.heap.size + 1, 0, none⟩) else if j = 15 then .int .i64 bn else v j), g, rfl, ⟨hR.st, hR.f0.keep rfl, hR.f1.keep rfl, hR.f2.keep rfl, hR.f3.keep rfl, hR.f4.keep rfl, hR.f5.keep rfl, hR.f6.keep rfl, (fun _ => rfl), (fun _ => rfl), hR.f9.keep rfl, hR.f10.keep rfl, hR.f11.keep rfl, hR.f12.keep rfl, hR.f13.keep rfl, hR.f14.keep rfl, hR.f15.keep rfl, hR.b14.keep rfl, hR.b15.keep rfl, hR.n14_15.keep rfl rfl, hR.c16.keepM rfl (fun h => ⟨upd_on h.1, h.2⟩), hR.c17.keepM rfl (fun h => ⟨upd_on h.1, h.2⟩)⟩⟩
  refine EachOf.cons [8] rfl (by kernel_rfl) ?_ ?_
  ·rintro L A W ⟨v, g, rfl, hR⟩ hi hw K hK
   have e8 := hR.f8 (hw 8 (by simp))
   simp only [e8]
   clear e8
   go_simp
   go_at_call 36
   (with_reducible refine ((C2 _).out).mono ?_)
   rintro e w2 ⟨rfl, rfl⟩
   go_simp
   refine hK.out _ _ ?_
   exact ⟨(fun j => if j = 15 then .int .i64 bn else if j = 16 then .int .u64 b2 else v j), g, rfl, ⟨hR.st, hR.f0.keep rfl, hR.f1.keep rfl, hR.f2.keep rfl, hR.f3.keep rfl, hR.f4.keep rfl, hR.f5.keep rfl, hR.f6.keep rfl, hR.f7.keep rfl, (fun _ => rfl), (fun _ => rfl), hR.f10.keep rfl, hR.f11.keep rfl, hR.f12.keep rfl, hR.f13.keep rfl, hR.f14.keep rfl, hR.f15.keep rfl, hR.b14.keep rfl, hR.b15.keep rfl, hR.n14_15.keep rfl rfl, hR.c16.keepM rfl (fun h => ⟨upd_on h.1, h.2⟩), hR.c17.keepM rfl (fun h => ⟨upd_on h.1, h.2⟩)⟩⟩
  refine EachOf.cons [] rfl (by kernel_rfl) ?_ ?_
  ·rintro L A W ⟨v, g, rfl, hR⟩ hi hw K hK
   go_simp
   refine hK.out _ _ ?_
   exact ⟨(fun j => if j = 17 then .pointer (some ⟨w.heap.size, 1, none⟩) else v j), g, rfl, ⟨hR.st, hR.f0.keep rfl, hR.f1.keep rfl, hR.f2.keep rfl, hR.f3.keep rfl, hR.f4.keep rfl, hR.f5.keep rfl, hR.f6.keep rfl, hR.f7.keep rfl, hR.f8.keep rfl, hR.f9.keep rfl, (fun _ => rfl), hR.f11.keep rfl, hR.f12.keep rfl, hR.f13.keep rfl, hR.f14.keep rfl, hR.f15.keep rfl, hR.b14.keep rfl, hR.b15.keep rfl, hR.n14_15.keep rfl rfl, hR.c16.keepM rfl (fun h => ⟨upd_on h.1, h.2⟩), hR.c17.keepM rfl (fun h => ⟨upd_on h.1, h.2⟩)⟩⟩
  refine EachOf.cons [10] rfl (by kernel_rfl) ?_ ?_
  ·rintro L A W ⟨v, g, rfl, hR⟩ hi hw K hK
   have e10 := hR.f10 (hw 10 (by simp))
   simp only [e10]
   clear e10
   obtain ⟨_, q0, q1⟩ := HA.out.on hR.st
   go_simp
   refine hK.out _ _ ?_
   exact ⟨(fun j => if j = 17 then .pointer (some ⟨w.heap.size, 1, none⟩) else if j = 18 then .int .i64 ad else v j), g, rfl, ⟨hR.st, hR.f0.keep rfl, hR.f1.keep rfl, hR.f2.keep rfl, hR.f3.keep rfl, hR.f4.keep rfl, hR.f5.keep rfl, hR.f6.keep rfl, hR.f7.keep rfl, hR.f8.keep rfl, hR.f9.keep rfl, (fun _ => rfl), (fun _ => rfl), hR.f12.keep rfl, hR.f13.keep rfl, hR.f14.keep rfl, hR.f15.keep rfl, hR.b14.keep rfl, hR.b15.keep rfl, hR.n14_15.keep rfl rfl, hR.c16.keepM rfl (fun h => ⟨upd_on h.1, h.2⟩), hR.c17.keepM rfl (fun h => ⟨upd_on h.1, h.2⟩)⟩⟩
  refine EachOf.cons [11] rfl (by kernel_rfl) ?_ ?_
  ·rintro L A W ⟨v, g, rfl, hR⟩ hi hw K hK
   have e11 := hR.f11 (hw 11 (by simp))
   simp only [e11]
   clear e11
   go_simp
   go_at_call 36
   (with_reducible refine ((C3 _).out).mono ?_)
   rintro e w2 ⟨rfl, rfl⟩
   go_simp
   refine hK.out _ _ ?_
   exact ⟨(fun j => if j = 18 then .int .i64 ad else if j = 19 then .int .u64 a2 else v j), g, rfl, ⟨hR.st, hR.f0.keep rfl, hR.f1.keep rfl, hR.f2.keep rfl, hR.f3.keep rfl, hR.f4.keep rfl, hR.f5.keep rfl, hR.f6.keep rfl, hR.f7.keep rfl, hR.f8.keep rfl, hR.f9.keep rfl, hR.f10.keep rfl, (fun _ => rfl), (fun _ => rfl), hR.f13.keep rfl, hR.f14.keep rfl, hR.f15.keep rfl, hR.b14.keep rfl, hR.b15.keep rfl, hR.n14_15.keep rfl rfl, hR.c16.keepM rfl (fun h => ⟨upd_on h.1, h.2⟩), hR.c17.keepM rfl (fun h => ⟨upd_on h.1, h.2⟩)⟩⟩
  refine EachOf.cons [9, 12] rfl (by kernel_rfl) ?_ ?_
  ·rintro L A W ⟨v, g, rfl, hR⟩ hi hw K hK
   have e9 := hR.f9 (hw 9 (by simp))
   have e12 := hR.f12 (hw 12 (by simp))
   simp only [e9, e12]
   clear e9 e12
   go_simp
   go_at_call 104
   (with_reducible refine ((CM2 _).out).mono ?_)
   rintro e w2 ⟨rfl, hb⟩
   go_simp
   refine hK.out _ _ ?_
   exact ⟨(fun j => if j = 16 then .int .u64 b2 else if j = 19 then .int .u64 a2 else if j = 20 then .agg #[.int .u64 Y1, .int .u64 Y2] else v j), g, rfl, ⟨below_on hR.st hb, hR.f0.keep rfl, hR.f1.keep rfl, hR.f2.keep rfl, hR.f3.keep rfl, hR.f4.keep rfl, hR.f5.keep rfl, hR.f6.keep rfl, hR.f7.keep rfl, hR.f8.keep rfl, (fun _ => rfl), hR.f10.keep rfl, hR.f11.keep rfl, (fun _ => rfl), (fun _ => rfl), hR.f14.keep rfl, hR.f15.keep rfl, hR.b14.keepM rfl (fun h => h.on hb), hR.b15.keepM rfl (fun h => h.on hb), hR.n14_15.keep rfl rfl, hR.c16.keepM rfl (fun h => ⟨upd_on h.1, h.2.on hb⟩), hR.c17.keepM rfl (fun h => ⟨upd_on h.1, h.2.on hb⟩)⟩⟩
  refine EachOf.cons [] rfl (by kernel_rfl) ?_ ?_
  ·rintro L A W ⟨v, g, rfl, hR⟩ hi hw K hK
   have hz := hR.st.size
   go_simp
   refine hK.out _ _ ?_
   have hb : Below W.heap.size W (W.alloc (Obj.cells #[Value.int IntKind.u64 0, Value.int IntKind.u64 0] 68)) := (Below.refl _ _).alloc (Nat.le_refl _) _
   exact ⟨(fun j => if j = 5 then .pointer (some ⟨W.heap.size, 0, none⟩) else v j), (fun j => if j = 14 then W.heap.size else g j), rfl, ⟨below_on hR.st hb, hR.f0.keep rfl, hR.f1.keep rfl, hR.f2.keep rfl, hR.f3.keep rfl, hR.f4.keep rfl, hR.f5.keep rfl, hR.f6.keep rfl, hR.f7.keep rfl, hR.f8.keep rfl, hR.f9.keep rfl, hR.f10.keep rfl, hR.f11.keep rfl, hR.f12.keep rfl, hR.f13.keep rfl, (fun _ => rfl), hR.f15.keep rfl, (fun _ => Own.new _ _ _ _ hz), hR.b15.keepM rfl (fun h => h.on hb), (fun _ h => by have h1 := (hR.b15 (upd_back h rfl)).lt; exact Nat.ne_of_gt h1), (fun h => absurd ((hR.c16 (upd_back h rfl)).1) (by simp [hi])), hR.c17.keepM rfl (fun h => ⟨upd_on h.1, h.2.on hb⟩)⟩⟩
  refine EachOf.cons [] rfl (by kernel_rfl) ?_ ?_
  ·rintro L A W ⟨v, g, rfl, hR⟩ hi hw K hK
   have hz := hR.st.size
   go_simp
   refine hK.out _ _ ?_
   have hb : Below W.heap.size W (W.alloc (Obj.cells #[Value.int IntKind.u64 0, Value.int IntKind.u64 0] 68)) := (Below.refl _ _).alloc (Nat.le_refl _) _
   exact ⟨(fun j => if j = 6 then .pointer (some ⟨W.heap.size, 0, none⟩) else v j), (fun j => if j = 15 then W.heap.size else g j), rfl, ⟨below_on hR.st hb, hR.f0.keep rfl, hR.f1.keep rfl, hR.f2.keep rfl, hR.f3.keep rfl, hR.f4.keep rfl, hR.f5.keep rfl, hR.f6.keep rfl, hR.f7.keep rfl, hR.f8.keep rfl, hR.f9.keep rfl, hR.f10.keep rfl, hR.f11.keep rfl, hR.f12.keep rfl, hR.f13.keep rfl, hR.f14.keep rfl, (fun _ => rfl), hR.b14.keepM rfl (fun h => h.on hb), (fun _ => Own.new _ _ _ _ hz), (fun h _ => by have h1 := (hR.b14 (upd_back h rfl)).lt; exact Nat.ne_of_lt h1), hR.c16.keepM rfl (fun h => ⟨upd_on h.1, h.2.on hb⟩), (fun h => absurd ((hR.c17 (upd_back h rfl)).1) (by simp [hi]))⟩⟩
  refine EachOf.cons [14, 6] rfl (by kernel_rfl) ?_ ?_
  ·rintro L A W ⟨v, g, rfl, hR⟩ hi hw K hK
   have e14 := hR.f14 (hw 14 (by simp))
   have e6 := hR.f6 (hw 6 (by simp))
   simp only [e14, e6]
   clear e14 e6
   have o2 := hR.b14 (hw 14 (by simp))
   have o1 := o2.1
   have HO := Lib.hid o2
   clear o2
   obtain ⟨_, ⟨u5, v5, l5, p5, q5⟩, r5, s5⟩ := HO.out
   go_simp
   have o2 := HO.out
   refine hK.out _ _ ?_
   exact ⟨(fun j => if j = 5 then .pointer (some ⟨g 14, 0, none⟩) else if j = 13 then .agg #[.int .u64 X1, .int .u64 X2] else v j), g, rfl, ⟨(hR.st.setCell (by simpa using o1) _).setCell (by simpa using o1) _, hR.f0.keep rfl, hR.f1.keep rfl, hR.f2.keep rfl, hR.f3.keep rfl, hR.f4.keep rfl, hR.f5.keep rfl, (fun _ => rfl), hR.f7.keep rfl, hR.f8.keep rfl, hR.f9.keep rfl, hR.f10.keep rfl, hR.f11.keep rfl, hR.f12.keep rfl, hR.f13.keep rfl, (fun _ => rfl), hR.f15.keep rfl, hR.b14.keepM rfl (fun h => h.set), hR.b15.keepM rfl (fun h => h.set), hR.n14_15.keep rfl rfl, (fun _ => ⟨upd_on (hw 14 (by simp)), o2.setw⟩), hR.c17.keepM rfl (fun h => ⟨upd_on h.1, h.2.far (hR.n14_15 (hw 14 (by simp)) h.1)⟩)⟩⟩
  refine EachOf.cons [15, 13] rfl (by kernel_rfl) ?_ ?_
  ·rintro L A W ⟨v, g, rfl, hR⟩ hi hw K hK
   have e15 := hR.f15 (hw 15 (by simp))
   have e13 := hR.f13 (hw 13 (by simp))
   simp only [e15, e13]
   clear e15 e13
   have o2 := hR.b15 (hw 15 (by simp))
   have o1 := o2.1
   have HO := Lib.hid o2
   clear o2
   obtain ⟨_, ⟨u5, v5, l5, p5, q5⟩, r5, s5⟩ := HO.out
   go_simp
   have o2 := HO.out
   refine hK.out _ _ ?_
   exact ⟨(fun j => if j = 6 then .pointer (some ⟨g 15, 0, none⟩) else if j = 20 then .agg #[.int .u64 Y1, .int .u64 Y2] else v j), g, rfl, ⟨(hR.st.setCell (by simpa using o1) _).setCell (by simpa using o1) _, hR.f0.keep rfl, hR.f1.keep rfl, hR.f2.keep rfl, hR.f3.keep rfl, hR.f4.keep rfl, hR.f5.keep rfl, hR.f6.keep rfl, hR.f7.keep rfl, hR.f8.keep rfl, hR.f9.keep rfl, hR.f10.keep rfl, hR.f11.keep rfl, hR.f12.keep rfl, (fun _ => rfl), hR.f14.keep rfl, (fun _ => rfl), hR.b14.keepM rfl (fun h => h.set), hR.b15.keepM rfl (fun h => h.set), hR.n14_15.keep rfl rfl, hR.c16.keepM rfl (fun h => ⟨upd_on h.1, h.2.far (fun e => hR.n14_15 h.1 (hw 15 (by simp)) e.symm)⟩), (fun _ => ⟨upd_on (hw 15 (by simp)), o2.setw⟩)⟩⟩
  exact EachOf.nil
 rintro L A W1 ⟨v1, g1, rfl, hR⟩ hL
 have e14 := hR.f14 (hL 14 (by simp))
 have e15 := hR.f15 (hL 15 (by simp))
 have hst := Lib.hid hR.st
 simp only [e14, e15]
 clear e14 e15
 have HX := Lib.hid (hR.c16 (hL 16 (by simp))).2
 have HXF := Lib.hid (hR.b14 (hL 14 (by simp))).2.2
 have HXN := Lib.hid (hR.b14 (hL 14 (by simp))).1
 have HY := Lib.hid (hR.c17 (hL 17 (by simp))).2
 have HYF := Lib.hid (hR.b15 (hL 15 (by simp))).2.2
 have HYN := Lib.hid (hR.b15 (hL 15 (by simp))).1
 clear hR hL
 generalize g1 14 = gx at *
 generalize g1 15 = gy at *
 replace HA := Lib.hid (HA.out.on hst.out)
 replace HB := Lib.hid (HB.out.on hst.out)
 replace HW := Lib.hid (below_on HW.out hst.out)
 obtain ⟨_, HAp, HAq⟩ := HA.out
 obtain ⟨_, HBp, HBq⟩ := HB.out
 obtain ⟨_, HXp, HXq⟩ := HX.out
 obtain ⟨_, HYp, HYq⟩ := HY.out
 cases sa
 ·cases sb
  ·cases eq
   ·have hne := E0.out rfl
    rcases hne with q1 | ⟨rfl, q2⟩
    ·cases less
     ·go_wp2_with fail
      clear HAp HAq HBp HBq HXp HXq HYp HYq
      refine wp_region_each (fun L A W => ∃ (v : Nat → Value) (g : Nat → Nat), A = ⟨#[.agg #[.int .i64 an, .int .i64 ad], .agg #[.int .i64 bn, .int .i64 bd], .pointer (some ⟨w.heap.size, 0, none⟩), .pointer (some ⟨w.heap.size + 1, 0, none⟩), .int .i64 0, .pointer (some ⟨gx, 0, none⟩), .pointer (some ⟨gy, 0, none⟩), v1 7, v1 8, v1 9, v1 10, v1 11, v1 12, v1 13, v1 14, v1 15, v1 16, v1 17, v1 18, v1 19, v1 20, .pointer (some ⟨w.heap.size, 0, none⟩), .int .i64 an, .bool false, .bool false, undef, undef, undef, .bool false, .pointer (some ⟨w.heap.size, 0, none⟩), .int .i64 an, .bool true, .bool true, .pointer (some ⟨w.heap.size + 1, 0, none⟩), .int .i64 bn, .bool false, .bool false, .agg #[.int .u64 X1, .int .u64 X2], .agg #[.int .u64 Y1, .int .u64 Y2], .bool false, v 40, v 41, v 42, v 43, v 44, v 45, v 46], []⟩ ∧ Cmp8f0fR w an ad bn bd a b a2 b2 X1 X2 Y1 Y2 W1 L v g W) (by kernel_rfl) (by kernel_rfl) ⟨fun _ => undef, fun _ => 0, rfl, ⟨Below.drew (Below.refl _ _), Had.none, Had.none, Had.none, Had.none, Had.none, Had.none, Had.none⟩⟩ (rs := [0, 1, 2, 3, 4, 5, 6]) (by kernel_rfl) ?_ ?_
      ·refine EachOf.cons [] rfl (by kernel_rfl) ?_ ?_
       ·rintro L A W ⟨v, g, rfl, hR⟩ hi hw K hK
        obtain ⟨_, q0, q1⟩ := HX.out.on hR.st
        go_simp
        refine hK.out _ _ ?_
        exact ⟨(fun j => if j = 40 then .agg #[.int .u64 X1, .int .u64 X2] else v j), g, rfl, ⟨hR.st, (fun _ => rfl), hR.f1.keep rfl, hR.f2.keep rfl, hR.f3.keep rfl, hR.f4.keep rfl, hR.f5.keep rfl, hR.f6.keep rfl⟩⟩
       refine EachOf.cons [] rfl (by kernel_rfl) ?_ ?_
       ·rintro L A W ⟨v, g, rfl, hR⟩ hi hw K hK
        obtain ⟨_, q0, q1⟩ := HY.out.on hR.st
        go_simp
        refine hK.out _ _ ?_
        exact ⟨(fun j => if j = 41 then .agg #[.int .u64 Y1, .int .u64 Y2] else v j), g, rfl, ⟨hR.st, hR.f0.keep rfl, (fun _ => rfl), hR.f2.keep rfl, hR.f3.keep rfl, hR.f4.keep rfl, hR.f5.keep rfl, hR.f6.keep rfl⟩⟩
       refine EachOf.cons [0, 1] rfl (by kernel_rfl) ?_ ?_
       ·rintro L A W ⟨v, g, rfl, hR⟩ hi hw K hK
        have e0 := hR.f0 (hw 0 (by simp))
        have e1 := hR.f1 (hw 1 (by simp))
        simp only [e0, e1]
        clear e0 e1
        go_simp
        go_at_call 73
        (with_reducible refine ((CL _).out).mono ?_)
        rintro e w2 ⟨rfl, hb⟩
        go_simp
        refine hK.out _ _ ?_
        exact ⟨(fun j => if j = 40 then .agg #[.int .u64 X1, .int .u64 X2] else if j = 41 then .agg #[.int .u64 Y1, .int .u64 Y2] else if j = 42 then .bool false else v j), g, rfl, ⟨below_on hR.st hb, (fun _ => rfl), (fun _ => rfl), (fun _ => rfl), hR.f3.keep rfl, hR.f4.keep rfl, hR.f5.keep rfl, hR.f6.keep rfl⟩⟩
       refine EachOf.cons [] rfl (by kernel_rfl) ?_ ?_
       ·rintro L A W ⟨v, g, rfl, hR⟩ hi hw K hK
        go_simp
        refine hK.out _ _ ?_
        exact ⟨(fun j => if j = 43 then .pointer (some ⟨w.heap.size, 0, none⟩) else v j), g, rfl, ⟨hR.st, hR.f0.keep rfl, hR.f1.keep rfl, hR.f2.keep rfl, (fun _ => rfl), hR.f4.keep rfl, hR.f5.keep rfl, hR.f6.keep rfl⟩⟩
       refine EachOf.cons [3] rfl (by kernel_rfl) ?_ ?_
       ·rintro L A W ⟨v, g, rfl, hR⟩ hi hw K hK
        have e3 := hR.f3 (hw 3 (by simp))
        simp only [e3]
        clear e3
        obtain ⟨_, q0, q1⟩ := HA.out.on hR.st
        go_simp
        refine hK.out _ _ ?_
        exact ⟨(fun j => if j = 43 then .pointer (some ⟨w.heap.size, 0, none⟩) else if j = 44 then .int .i64 an else v j), g, rfl, ⟨hR.st, hR.f0.keep rfl, hR.f1.keep rfl, hR.f2.keep rfl, (fun _ => rfl), (fun _ => rfl), hR.f5.keep rfl, hR.f6.keep rfl⟩⟩
       refine EachOf.cons [4] rfl (by kernel_rfl) ?_ ?_
       ·rintro L A W ⟨v, g, rfl, hR⟩ hi hw K hK
        have e4 := hR.f4 (hw 4 (by simp))
        simp only [e4]
        clear e4
        go_simp
        refine hK.out _ _ ?_
        exact ⟨(fun j => if j = 44 then .int .i64 an else if j = 45 then .bool true else v j), g, rfl, ⟨hR.st, hR.f0.keep rfl, hR.f1.keep rfl, hR.f2.keep rfl, hR.f3.keep rfl, (fun _ => rfl), (fun _ => rfl), hR.f6.keep rfl⟩⟩
       refine EachOf.cons [2, 5] rfl (by kernel_rfl) ?_ ?_
       ·rintro L A W ⟨v, g, rfl, hR⟩ hi hw K hK
        have e2 := hR.f2 (hw 2 (by simp))
        have e5 := hR.f5 (hw 5 (by simp))
        simp only [e2, e5]
        clear e2 e5
        go_simp
        refine hK.out _ _ ?_
        exact ⟨(fun j => if j = 42 then .bool false else if j = 45 then .bool true else if j = 46 then .bool false else v j), g, rfl, ⟨hR.st, hR.f0.keep rfl, hR.f1.keep rfl, (fun _ => rfl), hR.f3.keep rfl, hR.f4.keep rfl, (fun _ => rfl), (fun _ => rfl)⟩⟩
       exact EachOf.nil
      rintro L A W2f0f ⟨v2f0f, g2f0f, rfl, hR⟩ hL
      have e6 := hR.f6 (hL 6 (by simp))
      have hst := Lib.hid hR.st
      simp only [e6]
      clear e6
      clear hR hL
      replace HXF := Lib.hid (HXF.out.on HX.out.1 hst.out)
      replace HYF := Lib.hid (HYF.out.on HY.out.1 hst.out)
      replace HA := Lib.hid (HA.out.on hst.out)
      replace HB := Lib.hid (HB.out.on hst.out)
      replace HX := Lib.hid (HX.out.on hst.out)
      replace HY := Lib.hid (HY.out.on hst.out)
      replace HW := Lib.hid (below_on HW.out hst.out)
      go_wp2_with fail
      go_ret
      exact ⟨by rw [hk.out]; rfl, HW.out⟩
     ·go_wp2_with fail
      clear HAp HAq HBp HBq HXp HXq HYp HYq
      refine wp_region_each (fun L A W => ∃ (v : Nat → Value) (g : Nat → Nat), A = ⟨#[.agg #[.int .i64 an, .int .i64 ad], .agg #[.int .i64 bn, .int .i64 bd], .pointer (some ⟨w.heap.size, 0, none⟩), .pointer (some ⟨w.heap.size + 1, 0, none⟩), .int .i64 0, .pointer (some ⟨gx, 0, none⟩), .pointer (some ⟨gy, 0, none⟩), v1 7, v1 8, v1 9, v1 10, v1 11, v1 12, v1 13, v1 14, v1 15, v1 16, v1 17, v1 18, v1 19, v1 20, .pointer (some ⟨w.heap.size, 0, none⟩), .int .i64 an, .bool false, .bool false, undef, undef, undef, .bool false, .pointer (some ⟨w.heap.size, 0, none⟩), .int .i64 an, .bool true, .bool true, .pointer (some ⟨w.heap.size + 1, 0, none⟩), .int .i64 bn, .bool false, .bool false, .agg #[.int .u64 X1, .int .u64 X2], .agg #[.int .u64 Y1, .int .u64 Y2], .bool false, v 40, v 41, v 42, v 43, v 44, v 45, v 46], []⟩ ∧ Cmp8f0tR w an ad bn bd a b a2 b2 X1 X2 Y1 Y2 W1 L v g W) (by kernel_rfl) (by kernel_rfl) ⟨fun _ => undef, fun _ => 0, rfl, ⟨Below.drew (Below.refl _ _), Had.none, Had.none, Had.none, Had.none, Had.none, Had.none, Had.none⟩⟩ (rs := [0, 1, 2, 3, 4, 5, 6]) (by kernel_rfl) ?_ ?_
      ·refine EachOf.cons [] rfl (by kernel_rfl) ?_ ?_
       ·rintro L A W ⟨v, g, rfl, hR⟩ hi hw K hK
        obtain ⟨_, q0, q1⟩ := HX.out.on hR.st
        go_simp
        refine hK.out _ _ ?_
        exact ⟨(fun j => if j = 40 then .agg #[.int .u64 X1, .int .u64 X2] else v j), g, rfl, ⟨hR.st, (fun _ => rfl), hR.f1.keep rfl, hR.f2.keep rfl, hR.f3.keep rfl, hR.f4.keep rfl, hR.f5.keep rfl, hR.f6.keep rfl⟩⟩
       refine EachOf.cons [] rfl (by kernel_rfl) ?_ ?_
       ·rintro L A W ⟨v, g, rfl, hR⟩ hi hw K hK
        obtain ⟨_, q0, q1⟩ := HY.out.on hR.st
        go_simp
        refine hK.out _ _ ?_
        exact ⟨(fun j => if j = 41 then .agg #[.int .u64 Y1, .int .u64 Y2] else v j), g, rfl, ⟨hR.st, hR.f0.keep rfl, (fun _ => rfl), hR.f2.keep rfl, hR.f3.keep rfl, hR.f4.keep rfl, hR.f5.keep rfl, hR.f6.keep rfl⟩⟩
       refine EachOf.cons [0, 1] rfl (by kernel_rfl) ?_ ?_
       ·rintro L A W ⟨v, g, rfl, hR⟩ hi hw K hK
        have e0 := hR.f0 (hw 0 (by simp))
        have e1 := hR.f1 (hw 1 (by simp))
        simp only [e0, e1]
        clear e0 e1
        go_simp
        go_at_call 73
        (with_reducible refine ((CL _).out).mono ?_)
        rintro e w2 ⟨rfl, hb⟩
        go_simp
        refine hK.out _ _ ?_
        exact ⟨(fun j => if j = 40 then .agg #[.int .u64 X1, .int .u64 X2] else if j = 41 then .agg #[.int .u64 Y1, .int .u64 Y2] else if j = 42 then .bool true else v j), g, rfl, ⟨below_on hR.st hb, (fun _ => rfl), (fun _ => rfl), (fun _ => rfl), hR.f3.keep rfl, hR.f4.keep rfl, hR.f5.keep rfl, hR.f6.keep rfl⟩⟩
       refine EachOf.cons [] rfl (by kernel_rfl) ?_ ?_
       ·rintro L A W ⟨v, g, rfl, hR⟩ hi hw K hK
        go_simp
        refine hK.out _ _ ?_
        exact ⟨(fun j => if j = 43 then .pointer (some ⟨w.heap.size, 0, none⟩) else v j), g, rfl, ⟨hR.st, hR.f0.keep rfl, hR.f1.keep rfl, hR.f2.keep rfl, (fun _ => rfl), hR.f4.keep rfl, hR.f5.keep rfl, hR.f6.keep rfl⟩⟩
       refine EachOf.cons [3] rfl (by kernel_rfl) ?_ ?_
       ·rintro L A W ⟨v, g, rfl, hR⟩ hi hw K hK
        have e3 := hR.f3 (hw 3 (by simp))
        simp only [e3]
        clear e3
        obtain ⟨_, q0, q1⟩ := HA.out.on hR.st
        go_simp
        refine hK.out _ _ ?_
        exact ⟨(fun j => if j = 43 then .pointer (some ⟨w.heap.size, 0, none⟩) else if j = 44 then .int .i64 an else v j), g, rfl, ⟨hR.st, hR.f0.keep rfl, hR.f1.keep rfl, hR.f2.keep rfl, (fun _ => rfl), (fun _ => rfl), hR.f5.keep rfl, hR.f6.keep rfl⟩⟩
       refine EachOf.cons [4] rfl (by kernel_rfl) ?_ ?_
       ·rintro L A W ⟨v, g, rfl, hR⟩ hi hw K hK
        have e4 := hR.f4 (hw 4 (by simp))
        simp only [e4]
        clear e4
        go_simp
        refine hK.out _ _ ?_
        exact ⟨(fun j => if j = 44 then .int .i64 an else if j = 45 then .bool true else v j), g, rfl, ⟨hR.st, hR.f0.keep rfl, hR.f1.keep rfl, hR.f2.keep rfl, hR.f3.keep rfl, (fun _ => rfl), (fun _ => rfl), hR.f6.keep rfl⟩⟩
       refine EachOf.cons [2, 5] rfl (by kernel_rfl) ?_ ?_
       ·rintro L A W ⟨v, g, rfl, hR⟩ hi hw K hK
        have e2 := hR.f2 (hw 2 (by simp))
        have e5 := hR.f5 (hw 5 (by simp))
        simp only [e2, e5]
        clear e2 e5
        go_simp
        refine hK.out _ _ ?_
        exact ⟨(fun j => if j = 42 then .bool true else if j = 45 then .bool true else if j = 46 then .bool true else v j), g, rfl, ⟨hR.st, hR.f0.keep rfl, hR.f1.keep rfl, (fun _ => rfl), hR.f3.keep rfl, hR.f4.keep rfl, (fun _ => rfl), (fun _ => rfl)⟩⟩
       exact EachOf.nil
      rintro L A W2f0t ⟨v2f0t, g2f0t, rfl, hR⟩ hL
      have e6 := hR.f6 (hL 6 (by simp))
      have hst := Lib.hid hR.st
      simp only [e6]
      clear e6
      clear hR hL
      replace HXF := Lib.hid (HXF.out.on HX.out.1 hst.out)
      replace HYF := Lib.hid (HYF.out.on HY.out.1 hst.out)
      replace HA := Lib.hid (HA.out.on hst.out)
      replace HB := Lib.hid (HB.out.on hst.out)
      replace HX := Lib.hid (HX.out.on hst.out)
      replace HY := Lib.hid (HY.out.on hst.out)
      replace HW := Lib.hid (below_on HW.out hst.out)
      go_wp2_with fail
      go_ret
      exact ⟨by rw [hk.out]; rfl, HW.out⟩
    ·cases less
     ·go_wp2_with fail
      clear HAp HAq HBp HBq HXp HXq HYp HYq
      refine wp_region_each (fun L A W => ∃ (v : Nat → Value) (g : Nat → Nat), A = ⟨#[.agg #[.int .i64 an, .int .i64 ad], .agg #[.int .i64 bn, .int .i64 bd], .pointer (some ⟨w.heap.size, 0, none⟩), .pointer (some ⟨w.heap.size + 1, 0, none⟩), .int .i64 0, .pointer (some ⟨gx, 0, none⟩), .pointer (some ⟨gy, 0, none⟩), v1 7, v1 8, v1 9, v1 10, v1 11, v1 12, v1 13, v1 14, v1 15, v1 16, v1 17, v1 18, v1 19, v1 20, .pointer (some ⟨w.heap.size, 0, none⟩), .int .i64 an, .bool false, .bool false, undef, undef, undef, .bool false, .pointer (some ⟨w.heap.size, 0, none⟩), .int .i64 an, .bool true, .bool true, .pointer (some ⟨w.heap.size + 1, 0, none⟩), .int .i64 bn, .bool false, .bool false, .agg #[.int .u64 X1, .int .u64 X2], .agg #[.int .u64 X1, .int .u64 Y2], .bool false, v 40, v 41, v 42, v 43, v 44, v 45, v 46], []⟩ ∧ Cmp8f1fR w an ad bn bd a b a2 b2 X1 X2 X1 Y2 W1 L v g W) (by kernel_rfl) (by kernel_rfl) ⟨fun _ => undef, fun _ => 0, rfl, ⟨Below.drew (Below.refl _ _), Had.none, Had.none, Had.none, Had.none, Had.none, Had.none, Had.none⟩⟩ (rs := [0, 1, 2, 3, 4, 5, 6]) (by kernel_rfl) ?_ ?_
      ·refine EachOf.cons [] rfl (by kernel_rfl) ?_ ?_
       ·rintro L A W ⟨v, g, rfl, hR⟩ hi hw K hK
        obtain ⟨_, q0, q1⟩ := HX.out.on hR.st
        go_simp
        refine hK.out _ _ ?_
        exact ⟨(fun j => if j = 40 then .agg #[.int .u64 X1, .int .u64 X2] else v j), g, rfl, ⟨hR.st, (fun _ => rfl), hR.f1.keep rfl, hR.f2.keep rfl, hR.f3.keep rfl, hR.f4.keep rfl, hR.f5.keep rfl, hR.f6.keep rfl⟩⟩
       refine EachOf.cons [] rfl (by kernel_rfl) ?_ ?_
       ·rintro L A W ⟨v, g, rfl, hR⟩ hi hw K hK
        obtain ⟨_, q0, q1⟩ := HY.out.on hR.st
        go_simp
        refine hK.out _ _ ?_
        exact ⟨(fun j => if j = 41 then .agg #[.int .u64 X1, .int .u64 Y2] else v j), g, rfl, ⟨hR.st, hR.f0.keep rfl, (fun _ => rfl), hR.f2.keep rfl, hR.f3.keep rfl, hR.f4.keep rfl, hR.f5.keep rfl, hR.f6.keep rfl⟩⟩
       refine EachOf.cons [0, 1] rfl (by kernel_rfl) ?_ ?_
       ·rintro L A W ⟨v, g, rfl, hR⟩ hi hw K hK
        have e0 := hR.f0 (hw 0 (by simp))
        have e1 := hR.f1 (hw 1 (by simp))
        simp only [e0, e1]
        clear e0 e1
        go_simp
        go_at_call 73
        (with_reducible refine ((CL _).out).mono ?_)
        rintro e w2 ⟨rfl, hb⟩
        go_simp
        refine hK.out _ _ ?_
        exact ⟨(fun j => if j = 40 then .agg #[.int .u64 X1, .int .u64 X2] else if j = 41 then .agg #[.int .u64 X1, .int .u64 Y2] else if j = 42 then .bool false else v j), g, rfl, ⟨below_on hR.st hb, (fun _ => rfl), (fun _ => rfl), (fun _ => rfl), hR.f3.keep rfl, hR.f4.keep rfl, hR.f5.keep rfl, hR.f6.keep rfl⟩⟩
       refine EachOf.cons [] rfl (by kernel_rfl) ?_ ?_
       ·rintro L A W ⟨v, g, rfl, hR⟩ hi hw K hK
        go_simp
        refine hK.out _ _ ?_
        exact ⟨(fun j => if j = 43 then .pointer (some ⟨w.heap.size, 0, none⟩) else v j), g, rfl, ⟨hR.st, hR.f0.keep rfl, hR.f1.keep rfl, hR.f2.keep rfl, (fun _ => rfl), hR.f4.keep rfl, hR.f5.keep rfl, hR.f6.keep rfl⟩⟩
       refine EachOf.cons [3] rfl (by kernel_rfl) ?_ ?_
       ·rintro L A W ⟨v, g, rfl, hR⟩ hi hw K hK
        have e3 := hR.f3 (hw 3 (by simp))
        simp only [e3]
        clear e3
        obtain ⟨_, q0, q1⟩ := HA.out.on hR.st
        go_simp
        refine hK.out _ _ ?_
        exact ⟨(fun j => if j = 43 then .pointer (some ⟨w.heap.size, 0, none⟩) else if j = 44 then .int .i64 an else v j), g, rfl, ⟨hR.st, hR.f0.keep rfl, hR.f1.keep rfl, hR.f2.keep rfl, (fun _ => rfl), (fun _ => rfl), hR.f5.keep rfl, hR.f6.keep rfl⟩⟩
       refine EachOf.cons [4] rfl (by kernel_rfl) ?_ ?_
       ·rintro L A W ⟨v, g, rfl, hR⟩ hi hw K hK
        have e4 := hR.f4 (hw 4 (by simp))
        simp only [e4]
        clear e4
        go_simp
        refine hK.out _ _ ?_
        exact ⟨(fun j => if j = 44 then .int .i64 an else if j = 45 then .bool true else v j), g, rfl, ⟨hR.st, hR.f0.keep rfl, hR.f1.keep rfl, hR.f2.keep rfl, hR.f3.keep rfl, (fun _ => rfl), (fun _ => rfl), hR.f6.keep rfl⟩⟩
       refine EachOf.cons [2, 5] rfl (by kernel_rfl) ?_ ?_
       ·rintro L A W ⟨v, g, rfl, hR⟩ hi hw K hK
        have e2 := hR.f2 (hw 2 (by simp))
        have e5 := hR.f5 (hw 5 (by simp))
        simp only [e2, e5]
        clear e2 e5
        go_simp
        refine hK.out _ _ ?_
        exact ⟨(fun j => if j = 42 then .bool false else if j = 45 then .bool true else if j = 46 then .bool false else v j), g, rfl, ⟨hR.st, hR.f0.keep rfl, hR.f1.keep rfl, (fun _ => rfl), hR.f3.keep rfl, hR.f4.keep rfl, (fun _ => rfl), (fun _ => rfl)⟩⟩
       exact EachOf.nil
      rintro L A W2f1f ⟨v2f1f, g2f1f, rfl, hR⟩ hL
      have e6 := hR.f6 (hL 6 (by simp))
      have hst := Lib.hid hR.st
      simp only [e6]
      clear e6
      clear hR hL
      replace HXF := Lib.hid (HXF.out.on HX.out.1 hst.out)
      replace HYF := Lib.hid (HYF.out.on HY.out.1 hst.out)
      replace HA := Lib.hid (HA.out.on hst.out)
      replace HB := Lib.hid (HB.out.on hst.out)
      replace HX := Lib.hid (HX.out.on hst.out)
      replace HY := Lib.hid (HY.out.on hst.out)
      replace HW := Lib.hid (below_on HW.out hst.out)
      go_wp2_with fail
      go_ret
      exact ⟨by rw [hk.out]; rfl, HW.out⟩
     ·go_wp2_with fail
      clear HAp HAq HBp HBq HXp HXq HYp HYq
      refine wp_region_each (fun L A W => ∃ (v : Nat → Value) (g : Nat → Nat), A = ⟨#[.agg #[.int .i64 an, .int .i64 ad], .agg #[.int .i64 bn, .int .i64 bd], .pointer (some ⟨w.heap.size, 0, none⟩), .pointer (some ⟨w.heap.size + 1, 0, none⟩), .int .i64 0, .pointer (some ⟨gx, 0, none⟩), .pointer (some ⟨gy, 0, none⟩), v1 7, v1 8, v1 9, v1 10, v1 11, v1 12, v1 13, v1 14, v1 15, v1 16, v1 17, v1 18, v1 19, v1 20, .pointer (some ⟨w.heap.size, 0, none⟩), .int .i64 an, .bool false, .bool false, undef, undef, undef, .bool false, .pointer (some ⟨w.heap.size, 0, none⟩), .int .i64 an, .bool true, .bool true, .pointer (some ⟨w.heap.size + 1, 0, none⟩), .int .i64 bn, .bool false, .bool false, .agg #[.int .u64 X1, .int .u64 X2], .agg #[.int .u64 X1, .int .u64 Y2], .bool false, v 40, v 41, v 42, v 43, v 44, v 45, v 46], []⟩ ∧ Cmp8f1tR w an ad bn bd a b a2 b2 X1 X2 X1 Y2 W1 L v g W) (by kernel_rfl) (by kernel_rfl) ⟨fun _ => undef, fun _ => 0, rfl, ⟨Below.drew (Below.refl _ _), Had.none, Had.none, Had.none, Had.none, Had.none, Had.none, Had.none⟩⟩ (rs := [0, 1, 2, 3, 4, 5, 6]) (by kernel_rfl) ?_ ?_
      ·refine EachOf.cons [] rfl (by kernel_rfl) ?_ ?_
       ·rintro L A W ⟨v, g, rfl, hR⟩ hi hw K hK
        obtain ⟨_, q0, q1⟩ := HX.out.on hR.st
        go_simp
        refine hK.out _ _ ?_
        exact ⟨(fun j => if j = 40 then .agg #[.int .u64 X1, .int .u64 X2] else v j), g, rfl, ⟨hR.st, (fun _ => rfl), hR.f1.keep rfl, hR.f2.keep rfl, hR.f3.keep rfl, hR.f4.keep rfl, hR.f5.keep rfl, hR.f6.keep rfl⟩⟩
       refine EachOf.cons [] rfl (by kernel_rfl) ?_ ?_
       ·rintro L A W ⟨v, g, rfl, hR⟩ hi hw K hK
        obtain ⟨_, q0, q1⟩ := HY.out.on hR.st
        go_simp
        refine hK.out _ _ ?_
        exact ⟨(fun j => if j = 41 then .agg #[.int .u64 X1, .int .u64 Y2] else v j), g, rfl, ⟨hR.st, hR.f0.keep rfl, (fun _ => rfl), hR.f2.keep rfl, hR.f3.keep rfl, hR.f4.keep rfl, hR.f5.keep rfl, hR.f6.keep rfl⟩⟩
       refine EachOf.cons [0, 1] rfl (by kernel_rfl) ?_ ?_
       ·rintro L A W ⟨v, g, rfl, hR⟩ hi hw K hK
        have e0 := hR.f0 (hw 0 (by simp))
        have e1 := hR.f1 (hw 1 (by simp))
        simp only [e0, e1]
        clear e0 e1
        go_simp
        go_at_call 73
        (with_reducible refine ((CL _).out).mono ?_)
        rintro e w2 ⟨rfl, hb⟩
        go_simp
        refine hK.out _ _ ?_
        exact ⟨(fun j => if j = 40 then .agg #[.int .u64 X1, .int .u64 X2] else if j = 41 then .agg #[.int .u64 X1, .int .u64 Y2] else if j = 42 then .bool true else v j), g, rfl, ⟨below_on hR.st hb, (fun _ => rfl), (fun _ => rfl), (fun _ => rfl), hR.f3.keep rfl, hR.f4.keep rfl, hR.f5.keep rfl, hR.f6.keep rfl⟩⟩
       refine EachOf.cons [] rfl (by kernel_rfl) ?_ ?_
       ·rintro L A W ⟨v, g, rfl, hR⟩ hi hw K hK
        go_simp
        refine hK.out _ _ ?_
        exact ⟨(fun j => if j = 43 then .pointer (some ⟨w.heap.size, 0, none⟩) else v j), g, rfl, ⟨hR.st, hR.f0.keep rfl, hR.f1.keep rfl, hR.f2.keep rfl, (fun _ => rfl), hR.f4.keep rfl, hR.f5.keep rfl, hR.f6.keep rfl⟩⟩
       refine EachOf.cons [3] rfl (by kernel_rfl) ?_ ?_
       ·rintro L A W ⟨v, g, rfl, hR⟩ hi hw K hK
        have e3 := hR.f3 (hw 3 (by simp))
        simp only [e3]
        clear e3
        obtain ⟨_, q0, q1⟩ := HA.out.on hR.st
        go_simp
        refine hK.out _ _ ?_
        exact ⟨(fun j => if j = 43 then .pointer (some ⟨w.heap.size, 0, none⟩) else if j = 44 then .int .i64 an else v j), g, rfl, ⟨hR.st, hR.f0.keep rfl, hR.f1.keep rfl, hR.f2.keep rfl, (fun _ => rfl), (fun _ => rfl), hR.f5.keep rfl, hR.f6.keep rfl⟩⟩
       refine EachOf.cons [4] rfl (by kernel_rfl) ?_ ?_
       ·rintro L A W ⟨v, g, rfl, hR⟩ hi hw K hK
        have e4 := hR.f4 (hw 4 (by simp))
        simp only [e4]
        clear e4
        go_simp
        refine hK.out _ _ ?_
        exact ⟨(fun j => if j = 44 then .int .i64 an else if j = 45 then .bool true else v j), g, rfl, ⟨hR.st, hR.f0.keep rfl, hR.f1.keep rfl, hR.f2.keep rfl, hR.f3.keep rfl, (fun _ => rfl), (fun _ => rfl), hR.f6.keep rfl⟩⟩
       refine EachOf.cons [2, 5] rfl (by kernel_rfl) ?_ ?_
       ·rintro L A W ⟨v, g, rfl, hR⟩ hi hw K hK
        have e2 := hR.f2 (hw 2 (by simp))
        have e5 := hR.f5 (hw 5 (by simp))
        simp only [e2, e5]
        clear e2 e5
        go_simp
        refine hK.out _ _ ?_
        exact ⟨(fun j => if j = 42 then .bool true else if j = 45 then .bool true else if j = 46 then .bool true else v j), g, rfl, ⟨hR.st, hR.f0.keep rfl, hR.f1.keep rfl, (fun _ => rfl), hR.f3.keep rfl, hR.f4.keep rfl, (fun _ => rfl), (fun _ => rfl)⟩⟩
       exact EachOf.nil
      rintro L A W2f1t ⟨v2f1t, g2f1t, rfl, hR⟩ hL
      have e6 := hR.f6 (hL 6 (by simp))
      have hst := Lib.hid hR.st
      simp only [e6]
      clear e6
      clear hR hL
      replace HXF := Lib.hid (HXF.out.on HX.out.1 hst.out)
      replace HYF := Lib.hid (HYF.out.on HY.out.1 hst.out)
      replace HA := Lib.hid (HA.out.on hst.out)
      replace HB := Lib.hid (HB.out.on hst.out)
      replace HX := Lib.hid (HX.out.on hst.out)
      replace HY := Lib.hid (HY.out.on hst.out)
      replace HW := Lib.hid (below_on HW.out hst.out)
      go_wp2_with fail
      go_ret
      exact ⟨by rw [hk.out]; rfl, HW.out⟩
   ·obtain ⟨rfl, rfl⟩ := E1.out rfl
    go_wp2_with fail
    go_ret
    exact ⟨by rw [hk.out]; rfl, HW.out⟩
  ·go_wp2_with fail
   go_ret
   exact ⟨by rw [hk.out]; rfl, HW.out⟩
 ·cases sb
  ·go_wp2_with fail
   go_ret
   exact ⟨by rw [hk.out]; rfl, HW.out⟩
  ·cases eq
   ·have hne := E0.out rfl
    rcases hne with q1 | ⟨rfl, q2⟩
    ·cases less
     ·go_wp2_with fail
      clear HAp HAq HBp HBq HXp HXq HYp HYq
      refine wp_region_each (fun L A W => ∃ (v : Nat → Value) (g : Nat → Nat), A = ⟨#[.agg #[.int .i64 an, .int .i64 ad], .agg #[.int .i64 bn, .int .i64 bd], .pointer (some ⟨w.heap.size, 0, none⟩), .pointer (some ⟨w.heap.size + 1, 0, none⟩), .int .i64 0, .pointer (some ⟨gx, 0, none⟩), .pointer (some ⟨gy, 0, none⟩), v1 7, v1 8, v1 9, v1 10, v1 11, v1 12, v1 13, v1 14, v1 15, v1 16, v1 17, v1 18, v1 19, v1 20, .pointer (some ⟨w.heap.size, 0, none⟩), .int .i64 an, .bool true, .bool true, .pointer (some ⟨w.heap.size + 1, 0, none⟩), .int .i64 bn, .bool false, .bool false, .pointer (some ⟨w.heap.size, 0, none⟩), .int .i64 an, .bool false, .bool false, undef, undef, undef, .bool false, .agg #[.int .u64 X1, .int .u64 X2], .agg #[.int .u64 Y1, .int .u64 Y2], .bool false, v 40, v 41, v 42, v 43, v 44, v 45, v 46], []⟩ ∧ Cmp8t0fR w an ad bn bd a b a2 b2 X1 X2 Y1 Y2 W1 L v g W) (by kernel_rfl) (by kernel_rfl) ⟨fun _ => undef, fun _ => 0, rfl, ⟨Below.drew (Below.refl _ _), Had.none, Had.none, Had.none, Had.none, Had.none, Had.none, Had.none⟩⟩ (rs := [0, 1, 2, 3, 4, 5, 6]) (by kernel_rfl) ?_ ?_
      ·refine EachOf.cons [] rfl (by kernel_rfl) ?_ ?_
       ·rintro L A W ⟨v, g, rfl, hR⟩ hi hw K hK
        obtain ⟨_, q0, q1⟩ := HX.out.on hR.st
        go_simp
        refine hK.out _ _ ?_
        exact ⟨(fun j => if j = 40 then .agg #[.int .u64 X1, .int .u64 X2] else v j), g, rfl, ⟨hR.st, (fun _ => rfl), hR.f1.keep rfl, hR.f2.keep rfl, hR.f3.keep rfl, hR.f4.keep rfl, hR.f5.keep rfl, hR.f6.keep rfl⟩⟩
       refine EachOf.cons [] rfl (by kernel_rfl) ?_ ?_
       ·rintro L A W ⟨v, g, rfl, hR⟩ hi hw K hK
        obtain ⟨_, q0, q1⟩ := HY.out.on hR.st
        go_simp
        refine hK.out _ _ ?_
        exact ⟨(fun j => if j = 41 then .agg #[.int .u64 Y1, .int .u64 Y2] else v j), g, rfl, ⟨hR.st, hR.f0.keep rfl, (fun _ => rfl), hR.f2.keep rfl, hR.f3.keep rfl, hR.f4.keep rfl, hR.f5.keep rfl, hR.f6.keep rfl⟩⟩
       refine EachOf.cons [0, 1] rfl (by kernel_rfl) ?_ ?_
       ·rintro L A W ⟨v, g, rfl, hR⟩ hi hw K hK
        have e0 := hR.f0 (hw 0 (by simp))
        have e1 := hR.f1 (hw 1 (by simp))
        simp only [e0, e1]
        clear e0 e1
        go_simp
        go_at_call 73
        (with_reducible refine ((CL _).out).mono ?_)
        rintro e w2 ⟨rfl, hb⟩
        go_simp
        refine hK.out _ _ ?_
        exact ⟨(fun j => if j = 40 then .agg #[.int .u64 X1, .int .u64 X2] else if j = 41 then .agg #[.int .u64 Y1, .int .u64 Y2] else if j = 42 then .bool false else v j), g, rfl, ⟨below_on hR.st hb, (fun _ => rfl), (fun _ => rfl), (fun _ => rfl), hR.f3.keep rfl, hR.f4.keep rfl, hR.f5.keep rfl, hR.f6.keep rfl⟩⟩
       refine EachOf.cons [] rfl (by kernel_rfl) ?_ ?_
       ·rintro L A W ⟨v, g, rfl, hR⟩ hi hw K hK
        go_simp
        refine hK.out _ _ ?_
        exact ⟨(fun j => if j = 43 then .pointer (some ⟨w.heap.size, 0, none⟩) else v j), g, rfl, ⟨hR.st, hR.f0.keep rfl, hR.f1.keep rfl, hR.f2.keep rfl, (fun _ => rfl), hR.f4.keep rfl, hR.f5.keep rfl, hR.f6.keep rfl⟩⟩
       refine EachOf.cons [3] rfl (by kernel_rfl) ?_ ?_
       ·rintro L A W ⟨v, g, rfl, hR⟩ hi hw K hK
        have e3 := hR.f3 (hw 3 (by simp))
        simp only [e3]
        clear e3
        obtain ⟨_, q0, q1⟩ := HA.out.on hR.st
        go_simp
        refine hK.out _ _ ?_
        exact ⟨(fun j => if j = 43 then .pointer (some ⟨w.heap.size, 0, none⟩) else if j = 44 then .int .i64 an else v j), g, rfl, ⟨hR.st, hR.f0.keep rfl, hR.f1.keep rfl, hR.f2.keep rfl, (fun _ => rfl), (fun _ => rfl), hR.f5.keep rfl, hR.f6.keep rfl⟩⟩
       refine EachOf.cons [4] rfl (by kernel_rfl) ?_ ?_
       ·rintro L A W ⟨v, g, rfl, hR⟩ hi hw K hK
        have e4 := hR.f4 (hw 4 (by simp))
        simp only [e4]
        clear e4
        go_simp
        refine hK.out _ _ ?_
        exact ⟨(fun j => if j = 44 then .int .i64 an else if j = 45 then .bool false else v j), g, rfl, ⟨hR.st, hR.f0.keep rfl, hR.f1.keep rfl, hR.f2.keep rfl, hR.f3.keep rfl, (fun _ => rfl), (fun _ => rfl), hR.f6.keep rfl⟩⟩
       refine EachOf.cons [2, 5] rfl (by kernel_rfl) ?_ ?_
       ·rintro L A W ⟨v, g, rfl, hR⟩ hi hw K hK
        have e2 := hR.f2 (hw 2 (by simp))
        have e5 := hR.f5 (hw 5 (by simp))
        simp only [e2, e5]
        clear e2 e5
        go_simp
        refine hK.out _ _ ?_
        exact ⟨(fun j => if j = 42 then .bool false else if j = 45 then .bool false else if j = 46 then .bool true else v j), g, rfl, ⟨hR.st, hR.f0.keep rfl, hR.f1.keep rfl, (fun _ => rfl), hR.f3.keep rfl, hR.f4.keep rfl, (fun _ => rfl), (fun _ => rfl)⟩⟩
       exact EachOf.nil
      rintro L A W2t0f ⟨v2t0f, g2t0f, rfl, hR⟩ hL
      have e6 := hR.f6 (hL 6 (by simp))
      have hst := Lib.hid hR.st
      simp only [e6]
      clear e6
      clear hR hL
      replace HXF := Lib.hid (HXF.out.on HX.out.1 hst.out)
      replace HYF := Lib.hid (HYF.out.on HY.out.1 hst.out)
      replace HA := Lib.hid (HA.out.on hst.out)
      replace HB := Lib.hid (HB.out.on hst.out)
      replace HX := Lib.hid (HX.out.on hst.out)
      replace HY := Lib.hid (HY.out.on hst.out)
      replace HW := Lib.hid (below_on HW.out hst.out)
      go_wp2_with fail
      go_ret
      exact ⟨by rw [hk.out]; rfl, HW.out⟩
     ·go_wp2_with fail
      clear HAp HAq HBp HBq HXp HXq HYp HYq
      refine wp_region_each (fun L A W => ∃ (v : Nat → Value) (g : Nat → Nat), A = ⟨#[.agg #[.int .i64 an, .int .i64 ad], .agg #[.int .i64 bn, .int .i64 bd], .pointer (some ⟨w.heap.size, 0, none⟩), .pointer (some ⟨w.heap.size + 1, 0, none⟩), .int .i64 0, .pointer (some ⟨gx, 0, none⟩), .pointer (some ⟨gy, 0, none⟩), v1 7, v1 8, v1 9, v1 10, v1 11, v1 12, v1 13, v1 14, v1 15, v1 16, v1 17, v1 18, v1 19, v1 20, .pointer (some ⟨w.heap.size, 0, none⟩), .int .i64 an, .bool true, .bool true, .pointer (some ⟨w.heap.size + 1, 0, none⟩), .int .i64 bn, .bool false, .bool false, .pointer (some ⟨w.heap.size, 0, none⟩), .int .i64 an, .bool false, .bool false, undef, undef, undef, .bool false, .agg #[.int .u64 X1, .int .u64 X2], .agg #[.int .u64 Y1, .int .u64 Y2], .bool false, v 40, v 41, v 42, v 43, v 44, v 45, v 46], []⟩ ∧ Cmp8t0tR w an ad bn bd a b a2 b2 X1 X2 Y1 Y2 W1 L v g W) (by kernel_rfl) (by kernel_rfl) ⟨fun _ => undef, fun _ => 0, rfl, ⟨Below.drew (Below.refl _ _), Had.none, Had.none, Had.none, Had.none, Had.none, Had.none, Had.none⟩⟩ (rs := [0, 1, 2, 3, 4, 5, 6]) (by kernel_rfl) ?_ ?_
      ·refine EachOf.cons [] rfl (by kernel_rfl) ?_ ?_
       ·rintro L A W ⟨v, g, rfl, hR⟩ hi hw K hK
        obtain ⟨_, q0, q1⟩ := HX.out.on hR.st
        go_simp
        refine hK.out _ _ ?_
        exact ⟨(fun j => if j = 40 then .agg #[.int .u64 X1, .int .u64 X2] else v j), g, rfl, ⟨hR.st, (fun _ => rfl), hR.f1.keep rfl, hR.f2.keep rfl, hR.f3.keep rfl, hR.f4.keep rfl, hR.f5.keep rfl, hR.f6.keep rfl⟩⟩
       refine EachOf.cons [] rfl (by kernel_rfl) ?_ ?_
       ·rintro L A W ⟨v, g, rfl, hR⟩ hi hw K hK
        obtain ⟨_, q0, q1⟩ := HY.out.on hR.st
        go_simp
        refine hK.out _ _ ?_
        exact ⟨(fun j => if j = 41 then .agg #[.int .u64 Y1, .int .u64 Y2] else v j), g, rfl, ⟨hR.st, hR.f0.keep rfl, (fun _ => rfl), hR.f2.keep rfl, hR.f3.keep rfl, hR.f4.keep rfl, hR.f5.keep rfl, hR.f6.keep rfl⟩⟩
       refine EachOf.cons [0, 1] rfl (by kernel_rfl) ?_ ?_
       ·rintro L A W ⟨v, g, rfl, hR⟩ hi hw K hK
        have e0 := hR.f0 (hw 0 (by simp))
        have e1 := hR.f1 (hw 1 (by simp))
        simp only [e0, e1]
        clear e0 e1
        go_simp
        go_at_call 73
        (with_reducible refine ((CL _).out).mono ?_)
        rintro e w2 ⟨rfl, hb⟩
        go_simp
        refine hK.out _ _ ?_
        exact ⟨(fun j => if j = 40 then .agg #[.int .u64 X1, .int .u64 X2] else if j = 41 then .agg #[.int .u64 Y1, .int .u64 Y2] else if j = 42 then .bool true else v j), g, rfl, ⟨below_on hR.st hb, (fun _ => rfl), (fun _ => rfl), (fun _ => rfl), hR.f3.keep rfl, hR.f4.keep rfl, hR.f5.keep rfl, hR.f6.keep rfl⟩⟩
       refine EachOf.cons [] rfl (by kernel_rfl) ?_ ?_
       ·rintro L A W ⟨v, g, rfl, hR⟩ hi hw K hK
        go_simp
        refine hK.out _ _ ?_
        exact ⟨(fun j => if j = 43 then .pointer (some ⟨w.heap.size, 0, none⟩) else v j), g, rfl, ⟨hR.st, hR.f0.keep rfl, hR.f1.keep rfl, hR.f2.keep rfl, (fun _ => rfl), hR.f4.keep rfl, hR.f5.keep rfl, hR.f6.keep rfl⟩⟩
       refine EachOf.cons [3] rfl (by kernel_rfl) ?_ ?_
       ·rintro L A W ⟨v, g, rfl, hR⟩ hi hw K hK
        have e3 := hR.f3 (hw 3 (by simp))
        simp only [e3]
        clear e3
        obtain ⟨_, q0, q1⟩ := HA.out.on hR.st
        go_simp
        refine hK.out _ _ ?_
        exact ⟨(fun j => if j = 43 then .pointer (some ⟨w.heap.size, 0, none⟩) else if j = 44 then .int .i64 an else v j), g, rfl, ⟨hR.st, hR.f0.keep rfl, hR.f1.keep rfl, hR.f2.keep rfl, (fun _ => rfl), (fun _ => rfl), hR.f5.keep rfl, hR.f6.keep rfl⟩⟩
       refine EachOf.cons [4] rfl (by kernel_rfl) ?_ ?_
       ·rintro L A W ⟨v, g, rfl, hR⟩ hi hw K hK
        have e4 := hR.f4 (hw 4 (by simp))
        simp only [e4]
        clear e4
        go_simp
        refine hK.out _ _ ?_
        exact ⟨(fun j => if j = 44 then .int .i64 an else if j = 45 then .bool false else v j), g, rfl, ⟨hR.st, hR.f0.keep rfl, hR.f1.keep rfl, hR.f2.keep rfl, hR.f3.keep rfl, (fun _ => rfl), (fun _ => rfl), hR.f6.keep rfl⟩⟩
       refine EachOf.cons [2, 5] rfl (by kernel_rfl) ?_ ?_
       ·rintro L A W ⟨v, g, rfl, hR⟩ hi hw K hK
        have e2 := hR.f2 (hw 2 (by simp))
        have e5 := hR.f5 (hw 5 (by simp))
        simp only [e2, e5]
        clear e2 e5
        go_simp
        refine hK.out _ _ ?_
        exact ⟨(fun j => if j = 42 then .bool true else if j = 45 then .bool false else if j = 46 then .bool false else v j), g, rfl, ⟨hR.st, hR.f0.keep rfl, hR.f1.keep rfl, (fun _ => rfl), hR.f3.keep rfl, hR.f4.keep rfl, (fun _ => rfl), (fun _ => rfl)⟩⟩
       exact EachOf.nil
      rintro L A W2t0t ⟨v2t0t, g2t0t, rfl, hR⟩ hL
      have e6 := hR.f6 (hL 6 (by simp))
      have hst := Lib.hid hR.st
      simp only [e6]
      clear e6
      clear hR hL
      replace HXF := Lib.hid (HXF.out.on HX.out.1 hst.out)
      replace HYF := Lib.hid (HYF.out.on HY.out.1 hst.out)
      replace HA := Lib.hid (HA.out.on hst.out)
      replace HB := Lib.hid (HB.out.on hst.out)
      replace HX := Lib.hid (HX.out.on hst.out)
      replace HY := Lib.hid (HY.out.on hst.out)
      replace HW := Lib.hid (below_on HW.out hst.out)
      go_wp2_with fail
      go_ret
      exact ⟨by rw [hk.out]; rfl, HW.out⟩
    ·cases less
     ·go_wp2_with fail
      clear HAp HAq HBp HBq HXp HXq HYp HYq
      refine wp_region_each (fun L A W => ∃ (v : Nat → Value) (g : Nat → Nat), A = ⟨#[.agg #[.int .i64 an, .int .i64 ad], .agg #[.int .i64 bn, .int .i64 bd], .pointer (some ⟨w.heap.size, 0, none⟩), .pointer (some ⟨w.heap.size + 1, 0, none⟩), .int .i64 0, .pointer (some ⟨gx, 0, none⟩), .pointer (some ⟨gy, 0, none⟩), v1 7, v1 8, v1 9, v1 10, v1 11, v1 12, v1 13, v1 14, v1 15, v1 16, v1 17, v1 18, v1 19, v1 20, .pointer (some ⟨w.heap.size, 0, none⟩), .int .i64 an, .bool true, .bool true, .pointer (some ⟨w.heap.size + 1, 0, none⟩), .int .i64 bn, .bool false, .bool false, .pointer (some ⟨w.heap.size, 0, none⟩), .int .i64 an, .bool false, .bool false, undef, undef, undef, .bool false, .agg #[.int .u64 X1, .int .u64 X2], .agg #[.int .u64 X1, .int .u64 Y2], .bool false, v 40, v 41, v 42, v 43, v 44, v 45, v 46], []⟩ ∧ Cmp8t1fR w an ad bn bd a b a2 b2 X1 X2 X1 Y2 W1 L v g W) (by kernel_rfl) (by kernel_rfl) ⟨fun _ => undef, fun _ => 0, rfl, ⟨Below.drew (Below.refl _ _), Had.none, Had.none, Had.none, Had.none, Had.none, Had.none, Had.none⟩⟩ (rs := [0, 1, 2, 3, 4, 5, 6]) (by kernel_rfl) ?_ ?_
      ·refine EachOf.cons [] rfl (by kernel_rfl) ?_ ?_
       ·rintro L A W ⟨v, g, rfl, hR⟩ hi hw K hK
        obtain ⟨_, q0, q1⟩ := HX.out.on hR.st
        go_simp
        refine hK.out _ _ ?_
        exact ⟨(fun j => if j = 40 then .agg #[.int .u64 X1, .int .u64 X2] else v j), g, rfl, ⟨hR.st, (fun _ => rfl), hR.f1.keep rfl, hR.f2.keep rfl, hR.f3.keep rfl, hR.f4.keep rfl, hR.f5.keep rfl, hR.f6.keep rfl⟩⟩
       refine EachOf.cons [] rfl (by kernel_rfl) ?_ ?_
       ·rintro L A W ⟨v, g, rfl, hR⟩ hi hw K hK
        obtain ⟨_, q0, q1⟩ := HY.out.on hR.st
        go_simp
        refine hK.out _ _ ?_
        exact ⟨(fun j => if j = 41 then .agg #[.int .u64 X1, .int .u64 Y2] else v j), g, rfl, ⟨hR.st, hR.f0.keep rfl, (fun _ => rfl), hR.f2.keep rfl, hR.f3.keep rfl, hR.f4.keep rfl, hR.f5.keep rfl, hR.f6.keep rfl⟩⟩
       refine EachOf.cons [0, 1] rfl (by kernel_rfl) ?_ ?_
       ·rintro L A W ⟨v, g, rfl, hR⟩ hi hw K hK
        have e0 := hR.f0 (hw 0 (by simp))
        have e1 := hR.f1 (hw 1 (by simp))
        simp only [e0, e1]
        clear e0 e1
        go_simp
        go_at_call 73
        (with_reducible refine ((CL _).out).mono ?_)
        rintro e w2 ⟨rfl, hb⟩
        go_simp
        refine hK.out _ _ ?_
        exact ⟨(fun j => if j = 40 then .agg #[.int .u64 X1, .int .u64 X2] else if j = 41 then .agg #[.int .u64 X1, .int .u64 Y2] else if j = 42 then .bool false else v j), g, rfl, ⟨below_on hR.st hb, (fun _ => rfl), (fun _ => rfl), (fun _ => rfl), hR.f3.keep rfl, hR.f4.keep rfl, hR.f5.keep rfl, hR.f6.keep rfl⟩⟩
       refine EachOf.cons [] rfl (by kernel_rfl) ?_ ?_
       ·rintro L A W ⟨v, g, rfl, hR⟩ hi hw K hK
        go_simp
        refine hK.out _ _ ?_
        exact ⟨(fun j => if j = 43 then .pointer (some ⟨w.heap.size, 0, none⟩) else v j), g, rfl, ⟨hR.st, hR.f0.keep rfl, hR.f1.keep rfl, hR.f2.keep rfl, (fun _ => rfl), hR.f4.keep rfl, hR.f5.keep rfl, hR.f6.keep rfl⟩⟩
       refine EachOf.cons [3] rfl (by kernel_rfl) ?_ ?_
       ·rintro L A W ⟨v, g, rfl, hR⟩ hi hw K hK
        have e3 := hR.f3 (hw 3 (by simp))
        simp only [e3]
        clear e3
        obtain ⟨_, q0, q1⟩ := HA.out.on hR.st
        go_simp
        refine hK.out _ _ ?_
        exact ⟨(fun j => if j = 43 then .pointer (some ⟨w.heap.size, 0, none⟩) else if j = 44 then .int .i64 an else v j), g, rfl, ⟨hR.st, hR.f0.keep rfl, hR.f1.keep rfl, hR.f2.keep rfl, (fun _ => rfl), (fun _ => rfl), hR.f5.keep rfl, hR.f6.keep rfl⟩⟩
       refine EachOf.cons [4] rfl (by kernel_rfl) ?_ ?_
       ·rintro L A W ⟨v, g, rfl, hR⟩ hi hw K hK
        have e4 := hR.f4 (hw 4 (by simp))
        simp only [e4]
        clear e4
        go_simp
        refine hK.out _ _ ?_
        exact ⟨(fun j => if j = 44 then .int .i64 an else if j = 45 then .bool false else v j), g, rfl, ⟨hR.st, hR.f0.keep rfl, hR.f1.keep rfl, hR.f2.keep rfl, hR.f3.keep rfl, (fun _ => rfl), (fun _ => rfl), hR.f6.keep rfl⟩⟩
       refine EachOf.cons [2, 5] rfl (by kernel_rfl) ?_ ?_
       ·rintro L A W ⟨v, g, rfl, hR⟩ hi hw K hK
        have e2 := hR.f2 (hw 2 (by simp))
        have e5 := hR.f5 (hw 5 (by simp))
        simp only [e2, e5]
        clear e2 e5
        go_simp
        refine hK.out _ _ ?_
        exact ⟨(fun j => if j = 42 then .bool false else if j = 45 then .bool false else if j = 46 then .bool true else v j), g, rfl, ⟨hR.st, hR.f0.keep rfl, hR.f1.keep rfl, (fun _ => rfl), hR.f3.keep rfl, hR.f4.keep rfl, (fun _ => rfl), (fun _ => rfl)⟩⟩
       exact EachOf.nil
      rintro L A W2t1f ⟨v2t1f, g2t1f, rfl, hR⟩ hL
      have e6 := hR.f6 (hL 6 (by simp))
      have hst := Lib.hid hR.st
      simp only [e6]
      clear e6
      clear hR hL
      replace HXF := Lib.hid (HXF.out.on HX.out.1 hst.out)
      replace HYF := Lib.hid (HYF.out.on HY.out.1 hst.out)
      replace HA := Lib.hid (HA.out.on hst.out)
      replace HB := Lib.hid (HB.out.on hst.out)
      replace HX := Lib.hid (HX.out.on hst.out)
      replace HY := Lib.hid (HY.out.on hst.out)
      replace HW := Lib.hid (below_on HW.out hst.out)
      go_wp2_with fail
      go_ret
      exact ⟨by rw [hk.out]; rfl, HW.out⟩
     ·go_wp2_with fail
      clear HAp HAq HBp HBq HXp HXq HYp HYq
      refine wp_region_each (fun L A W => ∃ (v : Nat → Value) (g : Nat → Nat), A = ⟨#[.agg #[.int .i64 an, .int .i64 ad], .agg #[.int .i64 bn, .int .i64 bd], .pointer (some ⟨w.heap.size, 0, none⟩), .pointer (some ⟨w.heap.size + 1, 0, none⟩), .int .i64 0, .pointer (some ⟨gx, 0, none⟩), .pointer (some ⟨gy, 0, none⟩), v1 7, v1 8, v1 9, v1 10, v1 11, v1 12, v1 13, v1 14, v1 15, v1 16, v1 17, v1 18, v1 19, v1 20, .pointer (some ⟨w.heap.size, 0, none⟩), .int .i64 an, .bool true, .bool true, .pointer (some ⟨w.heap.size + 1, 0, none⟩), .int .i64 bn, .bool false, .bool false, .pointer (some ⟨w.heap.size, 0, none⟩), .int .i64 an, .bool false, .bool false, undef, undef, undef, .bool false, .agg #[.int .u64 X1, .int .u64 X2], .agg #[.int .u64 X1, .int .u64 Y2], .bool false, v 40, v 41, v 42, v 43, v 44, v 45, v 46], []⟩ ∧ Cmp8t1tR w an ad bn bd a b a2 b2 X1 X2 X1 Y2 W1 L v g W) (by kernel_rfl) (by kernel_rfl) ⟨fun _ => undef, fun _ => 0, rfl, ⟨Below.drew (Below.refl _ _), Had.none, Had.none, Had.none, Had.none, Had.none, Had.none, Had.none⟩⟩ (rs := [0, 1, 2, 3, 4, 5, 6]) (by kernel_rfl) ?_ ?_
      ·refine EachOf.cons [] rfl (by kernel_rfl) ?_ ?_
       ·rintro L A W ⟨v, g, rfl, hR⟩ hi hw K hK
        obtain ⟨_, q0, q1⟩ := HX.out.on hR.st
        go_simp
        refine hK.out _ _ ?_
        exact ⟨(fun j => if j = 40 then .agg #[.int .u64 X1, .int .u64 X2] else v j), g, rfl, ⟨hR.st, (fun _ => rfl), hR.f1.keep rfl, hR.f2.keep rfl, hR.f3.keep rfl, hR.f4.keep rfl, hR.f5.keep rfl, hR.f6.keep rfl⟩⟩
       refine EachOf.cons [] rfl (by kernel_rfl) ?_ ?_
       ·rintro L A W ⟨v, g, rfl, hR⟩ hi hw K hK
        obtain ⟨_, q0, q1⟩ := HY.out.on hR.st
        go_simp
        refine hK.out _ _ ?_
        exact ⟨(fun j => if j = 41 then .agg #[.int .u64 X1, .int .u64 Y2] else v j), g, rfl, ⟨hR.st, hR.f0.keep rfl, (fun _ => rfl), hR.f2.keep rfl, hR.f3.keep rfl, hR.f4.keep rfl, hR.f5.keep rfl, hR.f6.keep rfl⟩⟩
       refine EachOf.cons [0, 1] rfl (by kernel_rfl) ?_ ?_
       ·rintro L A W ⟨v, g, rfl, hR⟩ hi hw K hK
        have e0 := hR.f0 (hw 0 (by simp))
        have e1 := hR.f1 (hw 1 (by simp))
        simp only [e0, e1]
        clear e0 e1
        go_simp
        go_at_call 73
        (with_reducible refine ((CL _).out).mono ?_)
        rintro e w2 ⟨rfl, hb⟩
        go_simp
        refine hK.out _ _ ?_
        exact ⟨(fun j => if j = 40 then .agg #[.int .u64 X1, .int .u64 X2] else if j = 41 then .agg #[.int .u64 X1, .int .u64 Y2] else if j = 42 then .bool true else v j), g, rfl, ⟨below_on hR.st hb, (fun _ => rfl), (fun _ => rfl), (fun _ => rfl), hR.f3.keep rfl, hR.f4.keep rfl, hR.f5.keep rfl, hR.f6.keep rfl⟩⟩
       refine EachOf.cons [] rfl (by kernel_rfl) ?_ ?_
       ·rintro L A W ⟨v, g, rfl, hR⟩ hi hw K hK
        go_simp
        refine hK.out _ _ ?_
        exact ⟨(fun j => if j = 43 then .pointer (some ⟨w.heap.size, 0, none⟩) else v j), g, rfl, ⟨hR.st, hR.f0.keep rfl, hR.f1.keep rfl, hR.f2.keep rfl, (fun _ => rfl), hR.f4.keep rfl, hR.f5.keep rfl, hR.f6.keep rfl⟩⟩
       refine EachOf.cons [3] rfl (by kernel_rfl) ?_ ?_
       ·rintro L A W ⟨v, g, rfl, hR⟩ hi hw K hK
        have e3 := hR.f3 (hw 3 (by simp))
        simp only [e3]
        clear e3
        obtain ⟨_, q0, q1⟩ := HA.out.on hR.st
        go_simp
        refine hK.out _ _ ?_
        exact ⟨(fun j => if j = 43 then .pointer (some ⟨w.heap.size, 0, none⟩) else if j = 44 then .int .i64 an else v j), g, rfl, ⟨hR.st, hR.f0.keep rfl, hR.f1.keep rfl, hR.f2.keep rfl, (fun _ => rfl), (fun _ => rfl), hR.f5.keep rfl, hR.f6.keep rfl⟩⟩
       refine EachOf.cons [4] rfl (by kernel_rfl) ?_ ?_
       ·rintro L A W ⟨v, g, rfl, hR⟩ hi hw K hK
        have e4 := hR.f4 (hw 4 (by simp))
        simp only [e4]
        clear e4
        go_simp
        refine hK.out _ _ ?_
        exact ⟨(fun j => if j = 44 then .int .i64 an else if j = 45 then .bool false else v j), g, rfl, ⟨hR.st, hR.f0.keep rfl, hR.f1.keep rfl, hR.f2.keep rfl, hR.f3.keep rfl, (fun _ => rfl), (fun _ => rfl), hR.f6.keep rfl⟩⟩
       refine EachOf.cons [2, 5] rfl (by kernel_rfl) ?_ ?_
       ·rintro L A W ⟨v, g, rfl, hR⟩ hi hw K hK
        have e2 := hR.f2 (hw 2 (by simp))
        have e5 := hR.f5 (hw 5 (by simp))
        simp only [e2, e5]
        clear e2 e5
        go_simp
        refine hK.out _ _ ?_
        exact ⟨(fun j => if j = 42 then .bool true else if j = 45 then .bool false else if j = 46 then .bool false else v j), g, rfl, ⟨hR.st, hR.f0.keep rfl, hR.f1.keep rfl, (fun _ => rfl), hR.f3.keep rfl, hR.f4.keep rfl, (fun _ => rfl), (fun _ => rfl)⟩⟩
       exact EachOf.nil
      rintro L A W2t1t ⟨v2t1t, g2t1t, rfl, hR⟩ hL
      have e6 := hR.f6 (hL 6 (by simp))
      have hst := Lib.hid hR.st
      simp only [e6]
      clear e6
      clear hR hL
      replace HXF := Lib.hid (HXF.out.on HX.out.1 hst.out)
      replace HYF := Lib.hid (HYF.out.on HY.out.1 hst.out)
      replace HA := Lib.hid (HA.out.on hst.out)
      replace HB := Lib.hid (HB.out.on hst.out)
      replace HX := Lib.hid (HX.out.on hst.out)
      replace HY := Lib.hid (HY.out.on hst.out)
      replace HW := Lib.hid (below_on HW.out hst.out)
      go_wp2_with fail
      go_ret
      exact ⟨by rw [hk.out]; rfl, HW.out⟩
   ·obtain ⟨rfl, rfl⟩ := E1.out rfl
    go_wp2_with fail
    go_ret
    exact ⟨by rw [hk.out]; rfl, HW.out⟩

theorem refCmp_any (an ad bn bd : Int) (w : World) (va : Vld an ad) (vb : Vld bn bd) (k : Int) (h : sgn (an * bd + -bn * ad) = k) :
  Calls Tryz.prog 76 #[.agg #[.int .i64 an, .int .i64 ad], .agg #[.int .i64 bn, .int .i64 bd]] w fun e w' => e = .returned (.int .i64 k) ∧ Below w.heap.size w w' := by
 rw [cmp_made va vb] at h
 have a1 := va.d1; have a2 := va.d2; have a3 := va.n1; have a4 := va.n2
 have b1 := vb.d1; have b2 := vb.d2; have b3 := vb.n1; have b4 := vb.n2
 obtain ⟨x0, x1⟩ := nat_mul_bd (a := an) (b := bd) (by omega) (by omega)
 obtain ⟨y0, y1⟩ := nat_mul_bd (a := bn) (b := ad) (by omega) (by omega)
 obtain ⟨X, hX⟩ : ∃ X, (an.natAbs : Int) * (bd.natAbs : Int) = X := ⟨_, rfl⟩
 obtain ⟨Y, hY⟩ : ∃ X, (bn.natAbs : Int) * (ad.natAbs : Int) = X := ⟨_, rfl⟩
 rw [hX, hY] at h
 rw [hX] at x0 x1
 rw [hY] at y0 y1
 refine refCmp_walk w an ad bn bd _ _ _ _ (hiW X) (loW X) (hiW Y) (loW Y) k _ _ (decide (X = Y)) (decide (X < Y))
  (fun w => refSize_any an w (by omega) (by omega)) (fun w => refSize_any bn w (by omega) (by omega)) (fun w => refSize_any ad w (by omega) (by omega)) (fun w => refSize_any bd w (by omega) (by omega))
  (fun w => by have := refMul_any (an.natAbs : Int) (bd.natAbs : Int) w (by omega) (by omega) (by omega) (by omega); rw [hX] at this; exact this)
  (fun w => by have := refMul_any (bn.natAbs : Int) (ad.natAbs : Int) w (by omega) (by omega) (by omega) (by omega); rw [hY] at this; exact this)
  (fun w => less_any X Y w (by omega) (by omega) (by omega) (by omega)) rfl rfl ?_ ?_ ?_ ?_ ?_
 ·rw [Bool.eq_iff_iff]; simp
 ·rw [Bool.eq_iff_iff]; simp
 ·intro e
  have e : X = Y := by simpa using e
  subst e
  exact ⟨rfl, rfl⟩
 ·intro e
  have e : ¬ X = Y := by simpa using e
  unfold hiW loW
  by_cases c : X / 18446744073709551616 = Y / 18446744073709551616
  ·exact .inr (by omega)
  ·exact .inl (by omega)
 ·rw [← h]
  unfold cmpR cmpV Hid
  have e1 : decide (0 ≤ an) = !decide (an < 0) := by rw [Bool.eq_iff_iff]; simp
  rw [e1]
  rcases Int.lt_or_le an 0 with h1 | h1 <;> rcases Int.lt_or_le bn 0 with h2 | h2
  ·simp [h1, h2, show ¬ 0 ≤ bn by omega, show ¬ 0 ≤ an by omega]
  ·simp [h1, h2, show ¬ bn < 0 by omega]
  ·simp [h1, h2, show ¬ 0 ≤ bn by omega, show ¬ an < 0 by omega]
  ·simp [h1, h2, show ¬ bn < 0 by omega, show ¬ an < 0 by omega]

end Go.Proofs.YtggpdhdbeokkcaaGreat
