/- The reference of layer 2: products and quotients. -/
import Derived.Test.YtjggnmbdgagkoaaRRef10
namespace Go.Proofs.Ytjggnmbdgagkoaa
set_option linter.unusedVariables false
open Go.RowKit Go.Shelf

theorem made_any (N D : Int) (neg : Bool) (w : World) (N0 : 0 ≤ N) (N1 : N < 340282366920938463463374607431768211456) (D0 : 0 ≤ D) (D1 : D < 340282366920938463463374607431768211456) (n d er : Int) (h : madeT N neg D = (n, d, er)) :
    Calls Try.prog 65 #[.agg #[.int .u64 (hiW (N)), .int .u64 (loW (N))], .bool neg, .agg #[.int .u64 (hiW (D)), .int .u64 (loW (D))]] w fun e w' => e = .returned (.tuple #[.agg #[.int .i64 n, .int .i64 d], .int .i64 er]) ∧ Below w.heap.size w w' := by
  by_cases hz : D = 0
  · subst hz
    unfold madeT at h
    rw [if_pos rfl] at h
    obtain ⟨e1, e2, e3⟩ := three h
    subst e1 e2 e3
    exact made_zero N neg w
  · exact made_pos N D neg w N0 N1 (by omega) D1 n d er h

set_option maxRecDepth 100000 in
set_option maxHeartbeats 8000000 in
theorem refTimes_any (an ad bn bd : Int) (w : World) (a0 : -1152921504606846976 ≤ an) (a1 : an ≤ 1152921504606846976) (a2 : 1 ≤ ad) (a3 : ad ≤ 1152921504606846976) (b0 : -1152921504606846976 ≤ bn) (b1 : bn ≤ 1152921504606846976) (b2 : 1 ≤ bd) (b3 : bd ≤ 1152921504606846976) (X Y n d er : Int) (hX : (an.natAbs : Int) * (bn.natAbs : Int) = X) (hY : (ad.natAbs : Int) * (bd.natAbs : Int) = Y) (x0 : 0 ≤ X) (x1 : X < 340282366920938463463374607431768211456) (y0 : 0 ≤ Y) (y1 : Y < 340282366920938463463374607431768211456) (h : madeT X (!(decide (an < 0) == decide (bn < 0))) Y = (n, d, er)) :
    Calls Try.prog 58 #[.agg #[.int .i64 an, .int .i64 ad], .agg #[.int .i64 bn, .int .i64 bd]] w fun e w' => e = .returned (.tuple #[.agg #[.int .i64 n, .int .i64 d], .int .i64 er]) ∧ Below w.heap.size w w' := by
  have C1 := fun w => Lib.hid (refSize_any an w (by omega) (by omega))
  have C2 := fun w => Lib.hid (refSize_any bn w (by omega) (by omega))
  have C3 := fun w => Lib.hid (refSize_any ad w (by omega) (by omega))
  have C4 := fun w => Lib.hid (refSize_any bd w (by omega) (by omega))
  have CM := fun w => Lib.hid (refMul_any (an.natAbs : Int) (bn.natAbs : Int) w (by omega) (by omega) (by omega) (by omega))
  have CN := fun w => Lib.hid (refMul_any (ad.natAbs : Int) (bd.natAbs : Int) w (by omega) (by omega) (by omega) (by omega))
  have CD := fun w => Lib.hid (made_any X Y _ w x0 x1 y0 y1 n d er h)
  simp only [hX] at CM
  simp only [hY] at CN
  obtain ⟨a, han⟩ : ∃ a : Int, a = (an.natAbs : Int) := ⟨_, rfl⟩
  obtain ⟨b, hbn⟩ : ∃ a : Int, a = (bn.natAbs : Int) := ⟨_, rfl⟩
  obtain ⟨a', had⟩ : ∃ a : Int, a = (ad.natAbs : Int) := ⟨_, rfl⟩
  obtain ⟨b', hbd⟩ : ∃ a : Int, a = (bd.natAbs : Int) := ⟨_, rfl⟩
  simp only [← han] at C1 CM
  simp only [← hbn] at C2 CM
  simp only [← had] at C3 CN
  simp only [← hbd] at C4 CN
  clear hX hY han hbn had hbd a0 a1 a2 a3 b0 b1 b2 b3 x0 x1 y0 y1 h
  generalize hiW X = X1 at *
  generalize loW X = X2 at *
  generalize hiW Y = Y1 at *
  generalize loW Y = Y2 at *
  go_enter Try.func58, Try.ntmps58
  go_upto_region 1 with fail
  obtain ⟨W0, hW0⟩ : ∃ W0, W0 = ((w.alloc (Obj.cells #[Value.int IntKind.i64 an, Value.int IntKind.i64 ad] 45)).alloc (Obj.cells #[Value.int IntKind.i64 bn, Value.int IntKind.i64 bd] 45)).alloc (Obj.cells #[Value.int IntKind.i64 0, Value.int IntKind.i64 0] 45) := ⟨_, rfl⟩
  rw [← hW0]
  have S0 := Lib.hid (ArgSt.start w an ad bn bd W0 hW0)
  clear hW0
  have HS0 := Lib.hid (ArgSt.toS S0.out.drew)
  go_region_held3 (fun WX => WX.cell? ⟨w.heap.size, 0, none⟩ = some (.int .i64 an) ∧ WX.cell? ⟨w.heap.size, 1, none⟩ = some (.int .i64 ad) ∧ WX.cell? ⟨w.heap.size + 1, 0, none⟩ = some (.int .i64 bn) ∧ WX.cell? ⟨w.heap.size + 1, 1, none⟩ = some (.int .i64 bd) ∧ Below w.heap.size w WX ∧ w.heap.size + 2 < WX.heap.size ∧ (WX.cell? ⟨w.heap.size + 1 + 1, 0, none⟩).isSome = true ∧ (WX.cell? ⟨w.heap.size + 1 + 1, 1, none⟩).isSome = true ∧ WX.frozen? ⟨w.heap.size + 1 + 1, 0, none⟩ = false ∧ WX.frozen? ⟨w.heap.size + 1 + 1, 1, none⟩ = false)
    (first | exact keepS (by assumption) hb | exact HS0.out | exact storeS (by assumption) | go_keep)
    (first
      | (go_at_call 64; (first | (with_reducible refine ((C1 _).out).mono ?_) | (with_reducible refine ((C2 _).out).mono ?_) | (with_reducible refine ((C3 _).out).mono ?_) | (with_reducible refine ((C4 _).out).mono ?_)); rintro e w' ⟨rfl, rfl⟩)
      | (go_at_call 63; (first | (with_reducible refine ((CM _).out).mono ?_) | (with_reducible refine ((CN _).out).mono ?_)); rintro e w2 ⟨rfl, hb⟩)
      | (go_at_call 65; (with_reducible refine ((CD _).out).mono ?_); rintro e w2 ⟨rfl, hb⟩; have hK := keepS (w := w) (v0 := .int .i64 an) (v1 := .int .i64 ad) (v2 := .int .i64 bn) (v3 := .int .i64 bd) (by assumption) hb; obtain ⟨_, _, _, _, _, _, z8, z9, k8, k9⟩ := hK; obtain ⟨q8, r8⟩ := Option.isSome_iff_exists.1 z8; obtain ⟨q9, r9⟩ := Option.isSome_iff_exists.1 z9))
  all_goals
    rename_i hS
    have hB := hS.2.2.2.2.1
    clear hS
    go_wp2
    refine bodyPost_ret (by simp [results, Try.results58, go_sem, r8, r9]; try rfl) rfl ?_
    exact ⟨rfl, hB⟩

end Go.Proofs.Ytjggnmbdgagkoaa
