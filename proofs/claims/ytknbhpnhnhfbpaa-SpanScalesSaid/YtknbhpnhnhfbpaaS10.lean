/- Layer 3: the reference's roots, and its spans of fractions and of products. -/
import Derived.Test.YtknbhpnhnhfbpaaS5
import Derived.Test.YtknbhpnhnhfbpaaS7
import Derived.Test.YtknbhpnhnhfbpaaS9
import Derived.Test.YtknbhpnhnhfbpaaSMath4
namespace Go.Proofs.Ytknbhpnhnhfbpaa
set_option linter.unusedVariables false
open Go.RowKit Go.Shelf

theorem row2b (W : World) (x0 y0 x y : Value) (t0 t : Nat) : Row ((W.alloc (Obj.cells #[x0, y0] t0)).alloc (Obj.cells #[x, y] t)) (W.heap.size + 1) [x, y] := by
  have h := row2 (W.alloc (Obj.cells #[x0, y0] t0)) x y t
  simpa using h
theorem sargs2 (w : World) (x y : Int) (t : Nat) (W : World) (hW : W = (w.alloc (Obj.cells #[Value.int IntKind.i64 x, Value.int IntKind.i64 y] t)).alloc (Obj.cells #[Value.int IntKind.i64 0, Value.int IntKind.i64 0] 23)) :
    Hid (Blk W w.heap.size (.int .i64 x) (.int .i64 y)) ∧ Hid (Blk W (w.heap.size + 1) (.int .i64 0) (.int .i64 0)) ∧ Hid (Frz W (w.heap.size + 1)) ∧ Hid (Below w.heap.size w W) := by
  subst hW
  refine ⟨(Blk.new _ _ _ _).alloc _, ?_, ?_, Lib.hid (show Below w.heap.size w _ from (by repeat' (first | (with_reducible exact Below.refl _ _) | (with_reducible assumption) | (with_reducible refine Below.alloc ?_ ?_ _) | (with_reducible refine below_drew ?_ _) | (with_reducible refine Below.drew ?_) | (with_reducible refine Below.setCell ?_ ?_ _) | go_size)))⟩
  · have h := Blk.new (w.alloc (Obj.cells #[Value.int IntKind.i64 x, Value.int IntKind.i64 y] t)) (.int .i64 0) (.int .i64 0) 23
    simpa [Hid] using h
  · have h := Frz.new (w.alloc (Obj.cells #[Value.int IntKind.i64 x, Value.int IntKind.i64 y] t)) (.int .i64 0) (.int .i64 0) 23
    simpa [Hid] using h

/-- A number times a quotient fits if both of its roundings do. -/
theorem qT_pt (a b c : Int) (hc : c ≠ 0) : qT a b c = if inM (ptV a b c false) ∧ inM (ptV a b c true) then (ptV a b c false, ptV a b c true, true) else (0, 0, false) := by
  have hz : 0 < qC c := by unfold qC; omega
  unfold qT
  rw [show ptV a b c false = qN a b c / qC c from if_neg (by simp), show ptV a b c true = -(-qN a b c / qC c) from if_pos rfl]
  generalize qN a b c = N at *
  generalize qC c = z at *
  have k1 : -1152921504606846976 ≤ N / z ↔ -1152921504606846976 * z ≤ N := Int.le_ediv_iff_mul_le hz
  have k2 : -1152921504606846976 ≤ -N / z ↔ -1152921504606846976 * z ≤ -N := Int.le_ediv_iff_mul_le hz
  have k3 : N / z < 1152921504606846977 ↔ N < 1152921504606846977 * z := Int.ediv_lt_iff_lt_mul hz
  have k4 : -N / z < 1152921504606846977 ↔ -N < 1152921504606846977 * z := Int.ediv_lt_iff_lt_mul hz
  unfold inM
  by_cases h : (N.natAbs : Int) ≤ 1152921504606846976 * z
  · rw [if_pos h, if_pos (by omega)]
  · rw [if_neg h, if_neg (by omega)]
theorem pt_le (a b c : Int) (hc : c ≠ 0) : ptV a b c false ≤ ptV a b c true := by
  have hz : 0 < qC c := by unfold qC; omega
  rw [show ptV a b c false = qN a b c / qC c from if_neg (by simp), show ptV a b c true = -(-qN a b c / qC c) from if_pos rfl, q_pos hz]
  unfold up
  split <;> omega
theorem arS_pt {a b c lo hi : Int} {r : List (Int × Int × Int)} (hc : c ≠ 0) : arS ((a, b, c) :: r) lo hi = if inM (ptV a b c false) ∧ inM (ptV a b c true) then arS r (min lo (ptV a b c false)) (max hi (ptV a b c true)) else (0, 0, 5) := by
  show (if (qT a b c).2.2 = true then _ else _) = _
  rw [qT_pt a b c hc]
  by_cases g : inM (ptV a b c false) ∧ inM (ptV a b c true)
  · rw [if_pos g, if_pos g]; rfl
  · rw [if_neg g, if_neg g]; rfl
theorem ofS_pt {a b c : Int} (u0 : 1 ≤ b) (u1 : b ≤ 1099511627776) (hc : c ≠ 0) : ofS a c b = if inM (ptV a b c false) ∧ inM (ptV a b c true) then (ptV a b c false, ptV a b c true, 0) else (0, 0, 5) := by
  unfold ofS
  rw [if_neg (by omega), arS_pt hc]
  by_cases g : inM (ptV a b c false) ∧ inM (ptV a b c true)
  · rw [if_pos g, if_pos g]
    unfold inM at g
    show (min 1152921504606846976 (ptV a b c false), max (-1152921504606846976) (ptV a b c true), (0 : Int)) = _
    rw [show min 1152921504606846976 (ptV a b c false) = ptV a b c false by omega, show max (-1152921504606846976) (ptV a b c true) = ptV a b c true by omega]
  · rw [if_neg g, if_neg g]
theorem timS_pt {al ah b c : Int} (hn : isN b = true) (hd : isN c = true) (hc : c ≠ 0) :
    timS al ah b c = if inM (ptV al b c false) ∧ inM (ptV al b c true) ∧ inM (ptV ah b c false) ∧ inM (ptV ah b c true) then fitS (min (ptV al b c false) (ptV ah b c false)) (max (ptV al b c true) (ptV ah b c true)) else (0, 0, 5) := by
  unfold timS
  rw [if_neg hc, if_pos ⟨hn, hd⟩, arS_pt hc]
  have k1 := pt_le al b c hc
  have k2 := pt_le ah b c hc
  by_cases g : inM (ptV al b c false) ∧ inM (ptV al b c true)
  · rw [if_pos g, arS_pt hc]
    by_cases g2 : inM (ptV ah b c false) ∧ inM (ptV ah b c true)
    · rw [if_pos g2, if_pos ⟨g.1, g.2, g2.1, g2.2⟩]
      unfold inM at g g2
      unfold fitS
      rw [if_pos (sV_yes ⟨by omega, by omega, by omega⟩)]
      show (min (min 1152921504606846976 (ptV al b c false)) (ptV ah b c false), max (max (-1152921504606846976) (ptV al b c true)) (ptV ah b c true), (0 : Int)) = _
      rw [show min 1152921504606846976 (ptV al b c false) = ptV al b c false by omega, show max (-1152921504606846976) (ptV al b c true) = ptV al b c true by omega]
    · rw [if_neg g2, if_neg (fun h => g2 ⟨h.2.2.1, h.2.2.2⟩)]
  · rw [if_neg g, if_neg (fun h => g ⟨h.1, h.2.1⟩)]
theorem pt_yes {a b c : Int} {up : Bool} (h : inM (ptV a b c up)) : ptT a b c up = (ptV a b c up, true) := if_pos h
theorem pt_no {a b c : Int} {up : Bool} (h : ¬ inM (ptV a b c up)) : ptT a b c up = (0, false) := if_neg h


set_option maxHeartbeats 4000000 in
theorem rSqrt_any (n u : Int) (w : World) (h : FlR n u) (h1 : n ≤ 1152921504606846976) :
    Calls Try.prog 55 #[.int .i64 n] w fun e w' => e = .returned (.int .i64 u) ∧ w = w' := by
  obtain ⟨u0, u1, le, gt⟩ := h
  have key : ∀ m : Int, 0 ≤ m → (m * m ≤ n ↔ m ≤ u) := fun m m0 => by
    constructor
    · intro h
      rcases Int.lt_or_le u m with c | c
      · have := sq_le (a := u + 1) (b := m) (by omega) (by omega); omega
      · exact c
    · intro h
      have := sq_le m0 h; omega
  have HK := Lib.hid key
  clear key le gt
  go_enter Try.func55, Try.ntmps55
  go_wp2
  go_loop [3, 4] (fun s3 s4 => ∃ lo hi : Int, s3 = .int .i64 lo ∧ s4 = .int .i64 hi ∧ 0 ≤ lo ∧ lo ≤ u ∧ u ≤ hi ∧ hi ≤ 1073741824) (fun s3 s4 => (intOf s4 - intOf s3).toNat)
  case atStart => exact ⟨0, 1073741824, rfl, rfl, by omega, by omega, by omega, by omega⟩
  case round =>
    obtain ⟨lo, hi, rfl, rfl, l0, l1, l2, l3⟩ := hrel
    by_cases hlt : lo < hi
    · obtain ⟨m, hm⟩ : ∃ m, (lo + hi + 1) / 2 = m := ⟨_, rfl⟩
      have q : (lo + hi + 1).tdiv 2 = m := by rw [Int.tdiv_eq_ediv_of_nonneg (by omega)]; exact hm
      have m0 : lo < m := by omega
      have m1 : m ≤ hi := by omega
      clear hm
      have w1 : IntKind.i64.wrap (lo + hi) = lo + hi := IntWalk.i64_in _ (by omega)
      have wb : IntKind.i64.wrap (lo + hi + 1) = lo + hi + 1 := IntWalk.i64_in _ (by omega)
      have w3 : IntKind.i64.wrap m = m := IntWalk.i64_in _ (by omega)
      have p1 := sq_le (a := m) (b := 1073741824) (by omega) (by omega)
      have p2 := Int.mul_nonneg (show 0 ≤ m by omega) (show 0 ≤ m by omega)
      have w4 : IntKind.i64.wrap (m * m) = m * m := IntWalk.i64_in _ (by omega)
      have w5 : IntKind.i64.wrap (m - 1) = m - 1 := IntWalk.i64_in _ (by omega)
      have g0 : decide (lo < hi) = true := decide_eq_true hlt
      have k := HK.out m (by omega)
      clear p1 p2
      by_cases c : m * m ≤ n
      · have g : decide (m * m ≤ n) = true := decide_eq_true c
        have c2 := k.1 c
        clear k c hlt
        go_wp2
        go_round
        case rel => exact ⟨m, hi, rfl, rfl, by omega, by omega, by omega, by omega⟩
        case measure => simp [intOf]; omega
      · have g : decide (m * m ≤ n) = false := decide_eq_false c
        have c2 : ¬ m ≤ u := fun z => c (k.2 z)
        clear k c hlt
        go_wp2
        go_round
        case rel => exact ⟨lo, m - 1, rfl, rfl, by omega, by omega, by omega, by omega⟩
        case measure => simp [intOf]; omega
    · have e : lo = u := by omega
      subst e
      have g0 : decide (lo < hi) = false := decide_eq_false hlt
      clear hlt
      go_wp2
      go_ret
      exact ⟨rfl, rfl⟩

theorem flR_cl {n v : Int} (h : ClR n v) (n0 : 0 ≤ n) (n1 : n ≤ 1152921504606846976) : FlR n (if v * v = n then v else v - 1) := by
  obtain ⟨v0, v1, ge, lt⟩ := h
  by_cases c : v * v = n
  · rw [if_pos c]
    have e : (v + 1) * (v + 1) = v * v + 2 * v + 1 := by grind
    exact ⟨v0, v1, by omega, by omega⟩
  · rw [if_neg c]
    have z : v ≠ 0 := by rintro rfl; omega
    rcases lt with lt | lt
    · exact absurd lt z
    · exact ⟨by omega, by omega, by omega, by rw [show v - 1 + 1 = v by omega]; omega⟩

set_option maxHeartbeats 4000000 in
theorem rRoot_any (al ah u v : Int) (w : World) (va : SVd al ah) (hu : 0 ≤ al → FlR al u ∧ ClR ah v) (n d e : Int) (h : sRoot al ah u v = (n, d, e)) :
    Calls Try.prog 31 #[.agg #[.int .i64 al, .int .i64 ah]] w fun r w' => r = .returned (.tuple #[.agg #[.int .i64 n, .int .i64 d], .int .i64 e]) ∧ Below w.heap.size w w' := by
  unfold sRoot at h
  rw [if_pos (sV_yes va)] at h
  obtain ⟨va1, va2, va3⟩ := va
  by_cases h0 : al < 0
  · rw [if_pos h0] at h
    obtain ⟨q1, q2, q3⟩ := three h
    subst q1; subst q2; subst q3
    clear h hu
    have d1 : decide (al < 0) = true := decide_eq_true h0
    go_enter Try.func31, Try.ntmps31
    go_wp2
    refine bodyPost_ret (by simp [results, Try.results31, go_sem]; try rfl) rfl ?_
    exact ⟨rfl, (by repeat' (first | (with_reducible exact Below.refl _ _) | (with_reducible assumption) | (with_reducible refine Below.alloc ?_ ?_ _) | (with_reducible refine below_drew ?_ _) | (with_reducible refine Below.drew ?_) | (with_reducible refine Below.setCell ?_ ?_ _) | go_size))⟩
  · rw [if_neg h0] at h
    obtain ⟨q1, q2, q3⟩ := three h
    subst q1; subst q2; subst q3
    clear h
    have d1 : decide (al < 0) = false := decide_eq_false h0
    obtain ⟨hu1, hu2⟩ := hu (by omega)
    have CL := fun w => Lib.hid (rSqrt_any al u w hu1 (by omega))
    have hf := flR_cl hu2 (by omega) va3
    have CH := fun w => Lib.hid (rSqrt_any ah _ w hf va3)
    obtain ⟨f0, f1, fle, fgt⟩ := hf
    obtain ⟨v0, v1, vge, vlt⟩ := hu2
    by_cases c : v * v = ah
    · simp only [if_pos c] at *
      have b := sq_le v0 v1
      have p := Int.mul_nonneg v0 v0
      have w1 : IntKind.i64.wrap (v * v) = v * v := IntWalk.i64_in _ (by omega)
      have g : decide (v * v < ah) = false := decide_eq_false (by omega)
      clear vlt vge fle fgt hu1 c b p
      go_enter Try.func31, Try.ntmps31
      go_wp2_with fail
      (with_reducible refine ((CH _).out).mono ?_)
      rintro e w' ⟨rfl, rfl⟩
      go_wp2_with fail
      (with_reducible refine ((CL _).out).mono ?_)
      rintro e w' ⟨rfl, rfl⟩
      go_wp2_with fail
      refine bodyPost_ret (by simp [results, Try.results31, go_sem]; try rfl) rfl ?_
      exact ⟨rfl, (by repeat' (first | (with_reducible exact Below.refl _ _) | (with_reducible assumption) | (with_reducible refine Below.alloc ?_ ?_ _) | (with_reducible refine below_drew ?_ _) | (with_reducible refine Below.drew ?_) | (with_reducible refine Below.setCell ?_ ?_ _) | go_size))⟩
    · simp only [if_neg c] at *
      have b := sq_le (a := v - 1) (b := 1073741824) (by omega) (by omega)
      have p := Int.mul_nonneg (show 0 ≤ v - 1 by omega) (show 0 ≤ v - 1 by omega)
      obtain ⟨x, hx⟩ : ∃ x, v - 1 = x := ⟨_, rfl⟩
      simp only [hx] at b p f0 f1 fle fgt vlt CH
      have hv : v = x + 1 := by omega
      subst hv
      have ne : x * x < ah := by
        rcases vlt with z | z
        · omega
        · exact z
      have w1 : IntKind.i64.wrap (x * x) = x * x := IntWalk.i64_in _ (by omega)
      have wb : IntKind.i64.wrap (x + 1) = x + 1 := IntWalk.i64_in _ (by omega)
      have g : decide (x * x < ah) = true := decide_eq_true ne
      clear vlt vge fle fgt hu1 c b p ne hx
      go_enter Try.func31, Try.ntmps31
      go_wp2_with fail
      (with_reducible refine ((CH _).out).mono ?_)
      rintro e w' ⟨rfl, rfl⟩
      go_wp2_with fail
      (with_reducible refine ((CL _).out).mono ?_)
      rintro e w' ⟨rfl, rfl⟩
      go_wp2_with fail
      refine bodyPost_ret (by simp [results, Try.results31, go_sem]; try rfl) rfl ?_
      exact ⟨rfl, (by repeat' (first | (with_reducible exact Below.refl _ _) | (with_reducible assumption) | (with_reducible refine Below.alloc ?_ ?_ _) | (with_reducible refine below_drew ?_ _) | (with_reducible refine Below.drew ?_) | (with_reducible refine Below.setCell ?_ ?_ _) | go_size))⟩

set_option maxRecDepth 100000 in
set_option maxHeartbeats 8000000 in
theorem of_low (a b c k1 k2 : Int) (w : World) (g1 : decide (b < 1) = true) :
    Calls Try.prog 33 #[.agg #[.int .i64 a, .int .i64 c], .int .i64 b] w fun r w' => r = .returned (.tuple #[.agg #[.int .i64 0, .int .i64 0], .int .i64 2]) ∧ Below w.heap.size w w' := by
  go_enter Try.func33, Try.ntmps33
  go_upto_region 1 with fail
  obtain ⟨W0, hW0⟩ : ∃ W0, W0 = (w.alloc (Obj.cells #[Value.int IntKind.i64 a, Value.int IntKind.i64 c] 35)).alloc (Obj.cells #[Value.int IntKind.i64 0, Value.int IntKind.i64 0] 23) := ⟨_, rfl⟩
  rw [← hW0]
  obtain ⟨HA, HR, HF, HW⟩ := sargs2 w a c _ W0 hW0
  clear hW0
  obtain ⟨HFp, HFq⟩ := HF.out
  obtain ⟨_, HRp, HRq⟩ := HR.out
  go_wp2_with fail
  obtain ⟨_, r8, r9⟩ := Blk.set (x := .int .i64 0) (y := .int .i64 0) HR.out
  have hB := ((HW.out.setCell (p := ⟨w.heap.size + 1, 0, none⟩) (by simp) (.int .i64 0)).setCell (p := ⟨w.heap.size + 1, 1, none⟩) (by simp) (.int .i64 0))
  refine bodyPost_ret (by simp [results, Try.results33, go_sem, r8, r9]; try rfl) rfl ?_
  exact ⟨rfl, hB⟩

set_option maxRecDepth 100000 in
set_option maxHeartbeats 8000000 in
theorem of_high (a b c k1 k2 : Int) (w : World) (g1 : decide (b < 1) = false) (g2 : decide (1099511627776 < b) = true) :
    Calls Try.prog 33 #[.agg #[.int .i64 a, .int .i64 c], .int .i64 b] w fun r w' => r = .returned (.tuple #[.agg #[.int .i64 0, .int .i64 0], .int .i64 2]) ∧ Below w.heap.size w w' := by
  go_enter Try.func33, Try.ntmps33
  go_upto_region 1 with fail
  obtain ⟨W0, hW0⟩ : ∃ W0, W0 = (w.alloc (Obj.cells #[Value.int IntKind.i64 a, Value.int IntKind.i64 c] 35)).alloc (Obj.cells #[Value.int IntKind.i64 0, Value.int IntKind.i64 0] 23) := ⟨_, rfl⟩
  rw [← hW0]
  obtain ⟨HA, HR, HF, HW⟩ := sargs2 w a c _ W0 hW0
  clear hW0
  obtain ⟨HFp, HFq⟩ := HF.out
  obtain ⟨_, HRp, HRq⟩ := HR.out
  go_wp2_with fail
  obtain ⟨_, r8, r9⟩ := Blk.set (x := .int .i64 0) (y := .int .i64 0) HR.out
  have hB := ((HW.out.setCell (p := ⟨w.heap.size + 1, 0, none⟩) (by simp) (.int .i64 0)).setCell (p := ⟨w.heap.size + 1, 1, none⟩) (by simp) (.int .i64 0))
  refine bodyPost_ret (by simp [results, Try.results33, go_sem, r8, r9]; try rfl) rfl ?_
  exact ⟨rfl, hB⟩

set_option maxRecDepth 100000 in
set_option maxHeartbeats 8000000 in
theorem of_yy (a b c k1 k2 : Int) (w : World) (g1 : decide (b < 1) = false) (g2 : decide (1099511627776 < b) = false) (P1 : ∀ w, Hid (Calls Try.prog 36 #[.int .i64 a, .int .i64 b, .int .i64 c, .bool false] w fun e w' => e = .returned (.tuple #[.int .i64 k1, .bool true]) ∧ Below w.heap.size w w')) (P2 : ∀ w, Hid (Calls Try.prog 36 #[.int .i64 a, .int .i64 b, .int .i64 c, .bool true] w fun e w' => e = .returned (.tuple #[.int .i64 k2, .bool true]) ∧ Below w.heap.size w w')) :
    Calls Try.prog 33 #[.agg #[.int .i64 a, .int .i64 c], .int .i64 b] w fun r w' => r = .returned (.tuple #[.agg #[.int .i64 k1, .int .i64 k2], .int .i64 0]) ∧ Below w.heap.size w w' := by
  go_enter Try.func33, Try.ntmps33
  go_upto_region 1 with fail
  obtain ⟨W0, hW0⟩ : ∃ W0, W0 = (w.alloc (Obj.cells #[Value.int IntKind.i64 a, Value.int IntKind.i64 c] 35)).alloc (Obj.cells #[Value.int IntKind.i64 0, Value.int IntKind.i64 0] 23) := ⟨_, rfl⟩
  rw [← hW0]
  obtain ⟨HA, HR, HF, HW⟩ := sargs2 w a c _ W0 hW0
  clear hW0
  obtain ⟨_, HAp, HAq⟩ := HA.out
  go_wp2_with fail
  (with_reducible refine ((P1 _).out).mono ?_)
  rintro e y1 ⟨rfl, hb⟩
  clear HAp HAq
  have hst := Lib.hid hb
  clear hb
  replace HF := Lib.hid (HF.out.on HR.out.1 hst.out)
  replace HA := Lib.hid (HA.out.on hst.out)
  replace HR := Lib.hid (HR.out.on hst.out)
  replace HW := Lib.hid (below_on HW.out hst.out)
  clear hst
  obtain ⟨_, HAp, HAq⟩ := HA.out
  go_wp2_with fail
  (with_reducible refine ((P2 _).out).mono ?_)
  rintro e y2 ⟨rfl, hb⟩
  clear HAp HAq
  have hst := Lib.hid hb
  clear hb
  replace HF := Lib.hid (HF.out.on HR.out.1 hst.out)
  replace HA := Lib.hid (HA.out.on hst.out)
  replace HR := Lib.hid (HR.out.on hst.out)
  replace HW := Lib.hid (below_on HW.out hst.out)
  clear hst
  obtain ⟨HFp, HFq⟩ := HF.out
  obtain ⟨_, HRp, HRq⟩ := HR.out
  go_wp2_with fail
  obtain ⟨_, r8, r9⟩ := Blk.set (x := .int .i64 k1) (y := .int .i64 k2) HR.out
  have hB := ((HW.out.setCell (p := ⟨w.heap.size + 1, 0, none⟩) (by simp) (.int .i64 k1)).setCell (p := ⟨w.heap.size + 1, 1, none⟩) (by simp) (.int .i64 k2))
  refine bodyPost_ret (by simp [results, Try.results33, go_sem, r8, r9]; try rfl) rfl ?_
  exact ⟨rfl, hB⟩

set_option maxRecDepth 100000 in
set_option maxHeartbeats 8000000 in
theorem of_yn (a b c k1 k2 : Int) (w : World) (g1 : decide (b < 1) = false) (g2 : decide (1099511627776 < b) = false) (P1 : ∀ w, Hid (Calls Try.prog 36 #[.int .i64 a, .int .i64 b, .int .i64 c, .bool false] w fun e w' => e = .returned (.tuple #[.int .i64 k1, .bool true]) ∧ Below w.heap.size w w')) (P2 : ∀ w, Hid (Calls Try.prog 36 #[.int .i64 a, .int .i64 b, .int .i64 c, .bool true] w fun e w' => e = .returned (.tuple #[.int .i64 k2, .bool false]) ∧ Below w.heap.size w w')) :
    Calls Try.prog 33 #[.agg #[.int .i64 a, .int .i64 c], .int .i64 b] w fun r w' => r = .returned (.tuple #[.agg #[.int .i64 0, .int .i64 0], .int .i64 5]) ∧ Below w.heap.size w w' := by
  go_enter Try.func33, Try.ntmps33
  go_upto_region 1 with fail
  obtain ⟨W0, hW0⟩ : ∃ W0, W0 = (w.alloc (Obj.cells #[Value.int IntKind.i64 a, Value.int IntKind.i64 c] 35)).alloc (Obj.cells #[Value.int IntKind.i64 0, Value.int IntKind.i64 0] 23) := ⟨_, rfl⟩
  rw [← hW0]
  obtain ⟨HA, HR, HF, HW⟩ := sargs2 w a c _ W0 hW0
  clear hW0
  obtain ⟨_, HAp, HAq⟩ := HA.out
  go_wp2_with fail
  (with_reducible refine ((P1 _).out).mono ?_)
  rintro e y1 ⟨rfl, hb⟩
  clear HAp HAq
  have hst := Lib.hid hb
  clear hb
  replace HF := Lib.hid (HF.out.on HR.out.1 hst.out)
  replace HA := Lib.hid (HA.out.on hst.out)
  replace HR := Lib.hid (HR.out.on hst.out)
  replace HW := Lib.hid (below_on HW.out hst.out)
  clear hst
  obtain ⟨_, HAp, HAq⟩ := HA.out
  go_wp2_with fail
  (with_reducible refine ((P2 _).out).mono ?_)
  rintro e y2 ⟨rfl, hb⟩
  clear HAp HAq
  have hst := Lib.hid hb
  clear hb
  replace HF := Lib.hid (HF.out.on HR.out.1 hst.out)
  replace HA := Lib.hid (HA.out.on hst.out)
  replace HR := Lib.hid (HR.out.on hst.out)
  replace HW := Lib.hid (below_on HW.out hst.out)
  clear hst
  obtain ⟨HFp, HFq⟩ := HF.out
  obtain ⟨_, HRp, HRq⟩ := HR.out
  go_wp2_with fail
  obtain ⟨_, r8, r9⟩ := Blk.set (x := .int .i64 0) (y := .int .i64 0) HR.out
  have hB := ((HW.out.setCell (p := ⟨w.heap.size + 1, 0, none⟩) (by simp) (.int .i64 0)).setCell (p := ⟨w.heap.size + 1, 1, none⟩) (by simp) (.int .i64 0))
  refine bodyPost_ret (by simp [results, Try.results33, go_sem, r8, r9]; try rfl) rfl ?_
  exact ⟨rfl, hB⟩

set_option maxRecDepth 100000 in
set_option maxHeartbeats 8000000 in
theorem of_n (a b c k1 k2 : Int) (w : World) (b2 : Bool) (g1 : decide (b < 1) = false) (g2 : decide (1099511627776 < b) = false) (P1 : ∀ w, Hid (Calls Try.prog 36 #[.int .i64 a, .int .i64 b, .int .i64 c, .bool false] w fun e w' => e = .returned (.tuple #[.int .i64 k1, .bool false]) ∧ Below w.heap.size w w')) (P2 : ∀ w, Hid (Calls Try.prog 36 #[.int .i64 a, .int .i64 b, .int .i64 c, .bool true] w fun e w' => e = .returned (.tuple #[.int .i64 k2, .bool b2]) ∧ Below w.heap.size w w')) :
    Calls Try.prog 33 #[.agg #[.int .i64 a, .int .i64 c], .int .i64 b] w fun r w' => r = .returned (.tuple #[.agg #[.int .i64 0, .int .i64 0], .int .i64 5]) ∧ Below w.heap.size w w' := by
  go_enter Try.func33, Try.ntmps33
  go_upto_region 1 with fail
  obtain ⟨W0, hW0⟩ : ∃ W0, W0 = (w.alloc (Obj.cells #[Value.int IntKind.i64 a, Value.int IntKind.i64 c] 35)).alloc (Obj.cells #[Value.int IntKind.i64 0, Value.int IntKind.i64 0] 23) := ⟨_, rfl⟩
  rw [← hW0]
  obtain ⟨HA, HR, HF, HW⟩ := sargs2 w a c _ W0 hW0
  clear hW0
  obtain ⟨_, HAp, HAq⟩ := HA.out
  go_wp2_with fail
  (with_reducible refine ((P1 _).out).mono ?_)
  rintro e y1 ⟨rfl, hb⟩
  clear HAp HAq
  have hst := Lib.hid hb
  clear hb
  replace HF := Lib.hid (HF.out.on HR.out.1 hst.out)
  replace HA := Lib.hid (HA.out.on hst.out)
  replace HR := Lib.hid (HR.out.on hst.out)
  replace HW := Lib.hid (below_on HW.out hst.out)
  clear hst
  obtain ⟨_, HAp, HAq⟩ := HA.out
  go_wp2_with fail
  (with_reducible refine ((P2 _).out).mono ?_)
  rintro e y2 ⟨rfl, hb⟩
  clear HAp HAq
  have hst := Lib.hid hb
  clear hb
  replace HF := Lib.hid (HF.out.on HR.out.1 hst.out)
  replace HA := Lib.hid (HA.out.on hst.out)
  replace HR := Lib.hid (HR.out.on hst.out)
  replace HW := Lib.hid (below_on HW.out hst.out)
  clear hst
  obtain ⟨HFp, HFq⟩ := HF.out
  obtain ⟨_, HRp, HRq⟩ := HR.out
  go_wp2_with fail
  obtain ⟨_, r8, r9⟩ := Blk.set (x := .int .i64 0) (y := .int .i64 0) HR.out
  have hB := ((HW.out.setCell (p := ⟨w.heap.size + 1, 0, none⟩) (by simp) (.int .i64 0)).setCell (p := ⟨w.heap.size + 1, 1, none⟩) (by simp) (.int .i64 0))
  refine bodyPost_ret (by simp [results, Try.results33, go_sem, r8, r9]; try rfl) rfl ?_
  exact ⟨rfl, hB⟩

theorem rOf_any (a c b : Int) (w : World) (v : Vld a c) (b0 : -9223372036854775808 ≤ b) (b1 : b ≤ 9223372036854775807) (n d e : Int) (h : ofS a c b = (n, d, e)) :
    Calls Try.prog 33 #[.agg #[.int .i64 a, .int .i64 c], .int .i64 b] w fun r w' => r = .returned (.tuple #[.agg #[.int .i64 n, .int .i64 d], .int .i64 e]) ∧ Below w.heap.size w w' := by
  have v1 := v.d1; have v2 := v.d2; have v3 := v.n1; have v4 := v.n2
  by_cases g1 : b < 1
  · unfold ofS at h
    rw [if_pos (.inl g1)] at h
    obtain ⟨q1, q2, q3⟩ := three h
    subst q1; subst q2; subst q3
    exact of_low a b c 0 0 w (decide_eq_true g1)
  · by_cases g2 : 1099511627776 < b
    · unfold ofS at h
      rw [if_pos (.inr g2)] at h
      obtain ⟨q1, q2, q3⟩ := three h
      subst q1; subst q2; subst q3
      exact of_high a b c 0 0 w (decide_eq_false g1) (decide_eq_true g2)
    · rw [ofS_pt (by omega) (by omega) (by omega)] at h
      have P := fun (k : Int) (ok up : Bool) (hk : ptT a b c up = (k, ok)) (w : World) => Lib.hid (part_any a b c up w (by omega) (by omega) (by omega) (by omega) (by omega) (by omega) (by omega) k ok hk)
      by_cases f : inM (ptV a b c false)
      · by_cases g : inM (ptV a b c true)
        · rw [if_pos ⟨f, g⟩] at h
          obtain ⟨q1, q2, q3⟩ := three h
          subst q1; subst q2; subst q3
          exact of_yy a b c _ _ w (decide_eq_false g1) (decide_eq_false g2) (P _ _ _ (pt_yes f)) (P _ _ _ (pt_yes g))
        · rw [if_neg (fun z => g z.2)] at h
          obtain ⟨q1, q2, q3⟩ := three h
          subst q1; subst q2; subst q3
          exact of_yn a b c _ _ w (decide_eq_false g1) (decide_eq_false g2) (P _ _ _ (pt_yes f)) (P _ _ _ (pt_no g))
      · rw [if_neg (fun z => f z.1)] at h
        obtain ⟨q1, q2, q3⟩ := three h
        subst q1; subst q2; subst q3
        exact of_n a b c _ _ w _ (decide_eq_false g1) (decide_eq_false g2) (P _ _ _ (pt_no f)) (P (ptT a b c true).1 (ptT a b c true).2 _ rfl)

set_option maxRecDepth 100000 in
set_option maxHeartbeats 8000000 in
theorem tim_zero (al ah b c k1 k2 k3 k4 : Int) (w : World) (g0 : (c == 0) = true) :
    Calls Try.prog 30 #[.agg #[.int .i64 al, .int .i64 ah], .int .i64 b, .int .i64 c] w fun r w' => r = .returned (.tuple #[.agg #[.int .i64 0, .int .i64 0], .int .i64 16]) ∧ Below w.heap.size w w' := by
  go_enter Try.func30, Try.ntmps30
  go_upto_region 1 with fail
  obtain ⟨W0, hW0⟩ : ∃ W0, W0 = (w.alloc (Obj.cells #[Value.int IntKind.i64 al, Value.int IntKind.i64 ah] 23)).alloc (Obj.cells #[Value.int IntKind.i64 0, Value.int IntKind.i64 0] 23) := ⟨_, rfl⟩
  rw [← hW0]
  obtain ⟨HA, HR, HF, HW⟩ := sargs2 w al ah _ W0 hW0
  clear hW0
  obtain ⟨HFp, HFq⟩ := HF.out
  obtain ⟨_, HRp, HRq⟩ := HR.out
  go_wp2_with fail
  obtain ⟨_, r8, r9⟩ := Blk.set (x := .int .i64 0) (y := .int .i64 0) HR.out
  have hB := ((HW.out.setCell (p := ⟨w.heap.size + 1, 0, none⟩) (by simp) (.int .i64 0)).setCell (p := ⟨w.heap.size + 1, 1, none⟩) (by simp) (.int .i64 0))
  refine bodyPost_ret (by simp [results, Try.results30, go_sem, r8, r9]; try rfl) rfl ?_
  exact ⟨rfl, hB⟩

set_option maxRecDepth 100000 in
set_option maxHeartbeats 8000000 in
theorem tim_r0 (al ah b c k1 k2 k3 k4 : Int) (w : World) (g0 : (c == 0) = false) (g1 : decide (b < -1152921504606846976) = true) :
    Calls Try.prog 30 #[.agg #[.int .i64 al, .int .i64 ah], .int .i64 b, .int .i64 c] w fun r w' => r = .returned (.tuple #[.agg #[.int .i64 0, .int .i64 0], .int .i64 2]) ∧ Below w.heap.size w w' := by
  go_enter Try.func30, Try.ntmps30
  go_upto_region 1 with fail
  obtain ⟨W0, hW0⟩ : ∃ W0, W0 = (w.alloc (Obj.cells #[Value.int IntKind.i64 al, Value.int IntKind.i64 ah] 23)).alloc (Obj.cells #[Value.int IntKind.i64 0, Value.int IntKind.i64 0] 23) := ⟨_, rfl⟩
  rw [← hW0]
  obtain ⟨HA, HR, HF, HW⟩ := sargs2 w al ah _ W0 hW0
  clear hW0
  obtain ⟨HFp, HFq⟩ := HF.out
  obtain ⟨_, HRp, HRq⟩ := HR.out
  go_wp2_with fail
  obtain ⟨_, r8, r9⟩ := Blk.set (x := .int .i64 0) (y := .int .i64 0) HR.out
  have hB := ((HW.out.setCell (p := ⟨w.heap.size + 1, 0, none⟩) (by simp) (.int .i64 0)).setCell (p := ⟨w.heap.size + 1, 1, none⟩) (by simp) (.int .i64 0))
  refine bodyPost_ret (by simp [results, Try.results30, go_sem, r8, r9]; try rfl) rfl ?_
  exact ⟨rfl, hB⟩

set_option maxRecDepth 100000 in
set_option maxHeartbeats 8000000 in
theorem tim_r1 (al ah b c k1 k2 k3 k4 : Int) (w : World) (g0 : (c == 0) = false) (g1 : decide (b < -1152921504606846976) = false) (g2 : decide (1152921504606846976 < b) = true) :
    Calls Try.prog 30 #[.agg #[.int .i64 al, .int .i64 ah], .int .i64 b, .int .i64 c] w fun r w' => r = .returned (.tuple #[.agg #[.int .i64 0, .int .i64 0], .int .i64 2]) ∧ Below w.heap.size w w' := by
  go_enter Try.func30, Try.ntmps30
  go_upto_region 1 with fail
  obtain ⟨W0, hW0⟩ : ∃ W0, W0 = (w.alloc (Obj.cells #[Value.int IntKind.i64 al, Value.int IntKind.i64 ah] 23)).alloc (Obj.cells #[Value.int IntKind.i64 0, Value.int IntKind.i64 0] 23) := ⟨_, rfl⟩
  rw [← hW0]
  obtain ⟨HA, HR, HF, HW⟩ := sargs2 w al ah _ W0 hW0
  clear hW0
  obtain ⟨HFp, HFq⟩ := HF.out
  obtain ⟨_, HRp, HRq⟩ := HR.out
  go_wp2_with fail
  obtain ⟨_, r8, r9⟩ := Blk.set (x := .int .i64 0) (y := .int .i64 0) HR.out
  have hB := ((HW.out.setCell (p := ⟨w.heap.size + 1, 0, none⟩) (by simp) (.int .i64 0)).setCell (p := ⟨w.heap.size + 1, 1, none⟩) (by simp) (.int .i64 0))
  refine bodyPost_ret (by simp [results, Try.results30, go_sem, r8, r9]; try rfl) rfl ?_
  exact ⟨rfl, hB⟩

set_option maxRecDepth 100000 in
set_option maxHeartbeats 8000000 in
theorem tim_r2 (al ah b c k1 k2 k3 k4 : Int) (w : World) (g0 : (c == 0) = false) (g1 : decide (b < -1152921504606846976) = false) (g2 : decide (1152921504606846976 < b) = false) (g3 : decide (c < -1152921504606846976) = true) :
    Calls Try.prog 30 #[.agg #[.int .i64 al, .int .i64 ah], .int .i64 b, .int .i64 c] w fun r w' => r = .returned (.tuple #[.agg #[.int .i64 0, .int .i64 0], .int .i64 2]) ∧ Below w.heap.size w w' := by
  go_enter Try.func30, Try.ntmps30
  go_upto_region 1 with fail
  obtain ⟨W0, hW0⟩ : ∃ W0, W0 = (w.alloc (Obj.cells #[Value.int IntKind.i64 al, Value.int IntKind.i64 ah] 23)).alloc (Obj.cells #[Value.int IntKind.i64 0, Value.int IntKind.i64 0] 23) := ⟨_, rfl⟩
  rw [← hW0]
  obtain ⟨HA, HR, HF, HW⟩ := sargs2 w al ah _ W0 hW0
  clear hW0
  obtain ⟨HFp, HFq⟩ := HF.out
  obtain ⟨_, HRp, HRq⟩ := HR.out
  go_wp2_with fail
  obtain ⟨_, r8, r9⟩ := Blk.set (x := .int .i64 0) (y := .int .i64 0) HR.out
  have hB := ((HW.out.setCell (p := ⟨w.heap.size + 1, 0, none⟩) (by simp) (.int .i64 0)).setCell (p := ⟨w.heap.size + 1, 1, none⟩) (by simp) (.int .i64 0))
  refine bodyPost_ret (by simp [results, Try.results30, go_sem, r8, r9]; try rfl) rfl ?_
  exact ⟨rfl, hB⟩

set_option maxRecDepth 100000 in
set_option maxHeartbeats 8000000 in
theorem tim_r3 (al ah b c k1 k2 k3 k4 : Int) (w : World) (g0 : (c == 0) = false) (g1 : decide (b < -1152921504606846976) = false) (g2 : decide (1152921504606846976 < b) = false) (g3 : decide (c < -1152921504606846976) = false) (g4 : decide (1152921504606846976 < c) = true) :
    Calls Try.prog 30 #[.agg #[.int .i64 al, .int .i64 ah], .int .i64 b, .int .i64 c] w fun r w' => r = .returned (.tuple #[.agg #[.int .i64 0, .int .i64 0], .int .i64 2]) ∧ Below w.heap.size w w' := by
  go_enter Try.func30, Try.ntmps30
  go_upto_region 1 with fail
  obtain ⟨W0, hW0⟩ : ∃ W0, W0 = (w.alloc (Obj.cells #[Value.int IntKind.i64 al, Value.int IntKind.i64 ah] 23)).alloc (Obj.cells #[Value.int IntKind.i64 0, Value.int IntKind.i64 0] 23) := ⟨_, rfl⟩
  rw [← hW0]
  obtain ⟨HA, HR, HF, HW⟩ := sargs2 w al ah _ W0 hW0
  clear hW0
  obtain ⟨HFp, HFq⟩ := HF.out
  obtain ⟨_, HRp, HRq⟩ := HR.out
  go_wp2_with fail
  obtain ⟨_, r8, r9⟩ := Blk.set (x := .int .i64 0) (y := .int .i64 0) HR.out
  have hB := ((HW.out.setCell (p := ⟨w.heap.size + 1, 0, none⟩) (by simp) (.int .i64 0)).setCell (p := ⟨w.heap.size + 1, 1, none⟩) (by simp) (.int .i64 0))
  refine bodyPost_ret (by simp [results, Try.results30, go_sem, r8, r9]; try rfl) rfl ?_
  exact ⟨rfl, hB⟩

set_option maxRecDepth 100000 in
set_option maxHeartbeats 8000000 in
theorem tim_n1 (al ah b c k1 k2 k3 k4 : Int) (w : World) (o2 o3 o4 : Bool) (g0 : (c == 0) = false) (g1 : decide (b < -1152921504606846976) = false) (g2 : decide (1152921504606846976 < b) = false) (g3 : decide (c < -1152921504606846976) = false) (g4 : decide (1152921504606846976 < c) = false) (P1 : ∀ w, Hid (Calls Try.prog 36 #[.int .i64 al, .int .i64 b, .int .i64 c, .bool false] w fun e w' => e = .returned (.tuple #[.int .i64 k1, .bool false]) ∧ Below w.heap.size w w')) (P2 : ∀ w, Hid (Calls Try.prog 36 #[.int .i64 al, .int .i64 b, .int .i64 c, .bool true] w fun e w' => e = .returned (.tuple #[.int .i64 k2, .bool o2]) ∧ Below w.heap.size w w')) (P3 : ∀ w, Hid (Calls Try.prog 36 #[.int .i64 ah, .int .i64 b, .int .i64 c, .bool false] w fun e w' => e = .returned (.tuple #[.int .i64 k3, .bool o3]) ∧ Below w.heap.size w w')) (P4 : ∀ w, Hid (Calls Try.prog 36 #[.int .i64 ah, .int .i64 b, .int .i64 c, .bool true] w fun e w' => e = .returned (.tuple #[.int .i64 k4, .bool o4]) ∧ Below w.heap.size w w')) :
    Calls Try.prog 30 #[.agg #[.int .i64 al, .int .i64 ah], .int .i64 b, .int .i64 c] w fun r w' => r = .returned (.tuple #[.agg #[.int .i64 0, .int .i64 0], .int .i64 5]) ∧ Below w.heap.size w w' := by
  go_enter Try.func30, Try.ntmps30
  go_upto_region 1 with fail
  obtain ⟨W0, hW0⟩ : ∃ W0, W0 = (w.alloc (Obj.cells #[Value.int IntKind.i64 al, Value.int IntKind.i64 ah] 23)).alloc (Obj.cells #[Value.int IntKind.i64 0, Value.int IntKind.i64 0] 23) := ⟨_, rfl⟩
  rw [← hW0]
  obtain ⟨HA, HR, HF, HW⟩ := sargs2 w al ah _ W0 hW0
  clear hW0
  obtain ⟨_, HAp, HAq⟩ := HA.out
  go_wp2_with fail
  (with_reducible refine ((P1 _).out).mono ?_)
  rintro e y1 ⟨rfl, hb⟩
  clear HAp HAq
  have hst := Lib.hid hb
  clear hb
  replace HF := Lib.hid (HF.out.on HR.out.1 hst.out)
  replace HA := Lib.hid (HA.out.on hst.out)
  replace HR := Lib.hid (HR.out.on hst.out)
  replace HW := Lib.hid (below_on HW.out hst.out)
  clear hst
  obtain ⟨_, HAp, HAq⟩ := HA.out
  go_wp2_with fail
  (with_reducible refine ((P2 _).out).mono ?_)
  rintro e y2 ⟨rfl, hb⟩
  clear HAp HAq
  have hst := Lib.hid hb
  clear hb
  replace HF := Lib.hid (HF.out.on HR.out.1 hst.out)
  replace HA := Lib.hid (HA.out.on hst.out)
  replace HR := Lib.hid (HR.out.on hst.out)
  replace HW := Lib.hid (below_on HW.out hst.out)
  clear hst
  obtain ⟨_, HAp, HAq⟩ := HA.out
  go_wp2_with fail
  (with_reducible refine ((P3 _).out).mono ?_)
  rintro e y3 ⟨rfl, hb⟩
  clear HAp HAq
  have hst := Lib.hid hb
  clear hb
  replace HF := Lib.hid (HF.out.on HR.out.1 hst.out)
  replace HA := Lib.hid (HA.out.on hst.out)
  replace HR := Lib.hid (HR.out.on hst.out)
  replace HW := Lib.hid (below_on HW.out hst.out)
  clear hst
  obtain ⟨_, HAp, HAq⟩ := HA.out
  go_wp2_with fail
  (with_reducible refine ((P4 _).out).mono ?_)
  rintro e y4 ⟨rfl, hb⟩
  clear HAp HAq
  have hst := Lib.hid hb
  clear hb
  replace HF := Lib.hid (HF.out.on HR.out.1 hst.out)
  replace HA := Lib.hid (HA.out.on hst.out)
  replace HR := Lib.hid (HR.out.on hst.out)
  replace HW := Lib.hid (below_on HW.out hst.out)
  clear hst
  obtain ⟨HFp, HFq⟩ := HF.out
  obtain ⟨_, HRp, HRq⟩ := HR.out
  go_wp2_with fail
  obtain ⟨_, r8, r9⟩ := Blk.set (x := .int .i64 0) (y := .int .i64 0) HR.out
  have hB := ((HW.out.setCell (p := ⟨w.heap.size + 1, 0, none⟩) (by simp) (.int .i64 0)).setCell (p := ⟨w.heap.size + 1, 1, none⟩) (by simp) (.int .i64 0))
  refine bodyPost_ret (by simp [results, Try.results30, go_sem, r8, r9]; try rfl) rfl ?_
  exact ⟨rfl, hB⟩

set_option maxRecDepth 100000 in
set_option maxHeartbeats 8000000 in
theorem tim_n2 (al ah b c k1 k2 k3 k4 : Int) (w : World) (o3 o4 : Bool) (g0 : (c == 0) = false) (g1 : decide (b < -1152921504606846976) = false) (g2 : decide (1152921504606846976 < b) = false) (g3 : decide (c < -1152921504606846976) = false) (g4 : decide (1152921504606846976 < c) = false) (P1 : ∀ w, Hid (Calls Try.prog 36 #[.int .i64 al, .int .i64 b, .int .i64 c, .bool false] w fun e w' => e = .returned (.tuple #[.int .i64 k1, .bool true]) ∧ Below w.heap.size w w')) (P2 : ∀ w, Hid (Calls Try.prog 36 #[.int .i64 al, .int .i64 b, .int .i64 c, .bool true] w fun e w' => e = .returned (.tuple #[.int .i64 k2, .bool false]) ∧ Below w.heap.size w w')) (P3 : ∀ w, Hid (Calls Try.prog 36 #[.int .i64 ah, .int .i64 b, .int .i64 c, .bool false] w fun e w' => e = .returned (.tuple #[.int .i64 k3, .bool o3]) ∧ Below w.heap.size w w')) (P4 : ∀ w, Hid (Calls Try.prog 36 #[.int .i64 ah, .int .i64 b, .int .i64 c, .bool true] w fun e w' => e = .returned (.tuple #[.int .i64 k4, .bool o4]) ∧ Below w.heap.size w w')) :
    Calls Try.prog 30 #[.agg #[.int .i64 al, .int .i64 ah], .int .i64 b, .int .i64 c] w fun r w' => r = .returned (.tuple #[.agg #[.int .i64 0, .int .i64 0], .int .i64 5]) ∧ Below w.heap.size w w' := by
  go_enter Try.func30, Try.ntmps30
  go_upto_region 1 with fail
  obtain ⟨W0, hW0⟩ : ∃ W0, W0 = (w.alloc (Obj.cells #[Value.int IntKind.i64 al, Value.int IntKind.i64 ah] 23)).alloc (Obj.cells #[Value.int IntKind.i64 0, Value.int IntKind.i64 0] 23) := ⟨_, rfl⟩
  rw [← hW0]
  obtain ⟨HA, HR, HF, HW⟩ := sargs2 w al ah _ W0 hW0
  clear hW0
  obtain ⟨_, HAp, HAq⟩ := HA.out
  go_wp2_with fail
  (with_reducible refine ((P1 _).out).mono ?_)
  rintro e y1 ⟨rfl, hb⟩
  clear HAp HAq
  have hst := Lib.hid hb
  clear hb
  replace HF := Lib.hid (HF.out.on HR.out.1 hst.out)
  replace HA := Lib.hid (HA.out.on hst.out)
  replace HR := Lib.hid (HR.out.on hst.out)
  replace HW := Lib.hid (below_on HW.out hst.out)
  clear hst
  obtain ⟨_, HAp, HAq⟩ := HA.out
  go_wp2_with fail
  (with_reducible refine ((P2 _).out).mono ?_)
  rintro e y2 ⟨rfl, hb⟩
  clear HAp HAq
  have hst := Lib.hid hb
  clear hb
  replace HF := Lib.hid (HF.out.on HR.out.1 hst.out)
  replace HA := Lib.hid (HA.out.on hst.out)
  replace HR := Lib.hid (HR.out.on hst.out)
  replace HW := Lib.hid (below_on HW.out hst.out)
  clear hst
  obtain ⟨_, HAp, HAq⟩ := HA.out
  go_wp2_with fail
  (with_reducible refine ((P3 _).out).mono ?_)
  rintro e y3 ⟨rfl, hb⟩
  clear HAp HAq
  have hst := Lib.hid hb
  clear hb
  replace HF := Lib.hid (HF.out.on HR.out.1 hst.out)
  replace HA := Lib.hid (HA.out.on hst.out)
  replace HR := Lib.hid (HR.out.on hst.out)
  replace HW := Lib.hid (below_on HW.out hst.out)
  clear hst
  obtain ⟨_, HAp, HAq⟩ := HA.out
  go_wp2_with fail
  (with_reducible refine ((P4 _).out).mono ?_)
  rintro e y4 ⟨rfl, hb⟩
  clear HAp HAq
  have hst := Lib.hid hb
  clear hb
  replace HF := Lib.hid (HF.out.on HR.out.1 hst.out)
  replace HA := Lib.hid (HA.out.on hst.out)
  replace HR := Lib.hid (HR.out.on hst.out)
  replace HW := Lib.hid (below_on HW.out hst.out)
  clear hst
  obtain ⟨HFp, HFq⟩ := HF.out
  obtain ⟨_, HRp, HRq⟩ := HR.out
  go_wp2_with fail
  obtain ⟨_, r8, r9⟩ := Blk.set (x := .int .i64 0) (y := .int .i64 0) HR.out
  have hB := ((HW.out.setCell (p := ⟨w.heap.size + 1, 0, none⟩) (by simp) (.int .i64 0)).setCell (p := ⟨w.heap.size + 1, 1, none⟩) (by simp) (.int .i64 0))
  refine bodyPost_ret (by simp [results, Try.results30, go_sem, r8, r9]; try rfl) rfl ?_
  exact ⟨rfl, hB⟩

set_option maxRecDepth 100000 in
set_option maxHeartbeats 8000000 in
theorem tim_n3 (al ah b c k1 k2 k3 k4 : Int) (w : World) (o4 : Bool) (g0 : (c == 0) = false) (g1 : decide (b < -1152921504606846976) = false) (g2 : decide (1152921504606846976 < b) = false) (g3 : decide (c < -1152921504606846976) = false) (g4 : decide (1152921504606846976 < c) = false) (P1 : ∀ w, Hid (Calls Try.prog 36 #[.int .i64 al, .int .i64 b, .int .i64 c, .bool false] w fun e w' => e = .returned (.tuple #[.int .i64 k1, .bool true]) ∧ Below w.heap.size w w')) (P2 : ∀ w, Hid (Calls Try.prog 36 #[.int .i64 al, .int .i64 b, .int .i64 c, .bool true] w fun e w' => e = .returned (.tuple #[.int .i64 k2, .bool true]) ∧ Below w.heap.size w w')) (P3 : ∀ w, Hid (Calls Try.prog 36 #[.int .i64 ah, .int .i64 b, .int .i64 c, .bool false] w fun e w' => e = .returned (.tuple #[.int .i64 k3, .bool false]) ∧ Below w.heap.size w w')) (P4 : ∀ w, Hid (Calls Try.prog 36 #[.int .i64 ah, .int .i64 b, .int .i64 c, .bool true] w fun e w' => e = .returned (.tuple #[.int .i64 k4, .bool o4]) ∧ Below w.heap.size w w')) :
    Calls Try.prog 30 #[.agg #[.int .i64 al, .int .i64 ah], .int .i64 b, .int .i64 c] w fun r w' => r = .returned (.tuple #[.agg #[.int .i64 0, .int .i64 0], .int .i64 5]) ∧ Below w.heap.size w w' := by
  go_enter Try.func30, Try.ntmps30
  go_upto_region 1 with fail
  obtain ⟨W0, hW0⟩ : ∃ W0, W0 = (w.alloc (Obj.cells #[Value.int IntKind.i64 al, Value.int IntKind.i64 ah] 23)).alloc (Obj.cells #[Value.int IntKind.i64 0, Value.int IntKind.i64 0] 23) := ⟨_, rfl⟩
  rw [← hW0]
  obtain ⟨HA, HR, HF, HW⟩ := sargs2 w al ah _ W0 hW0
  clear hW0
  obtain ⟨_, HAp, HAq⟩ := HA.out
  go_wp2_with fail
  (with_reducible refine ((P1 _).out).mono ?_)
  rintro e y1 ⟨rfl, hb⟩
  clear HAp HAq
  have hst := Lib.hid hb
  clear hb
  replace HF := Lib.hid (HF.out.on HR.out.1 hst.out)
  replace HA := Lib.hid (HA.out.on hst.out)
  replace HR := Lib.hid (HR.out.on hst.out)
  replace HW := Lib.hid (below_on HW.out hst.out)
  clear hst
  obtain ⟨_, HAp, HAq⟩ := HA.out
  go_wp2_with fail
  (with_reducible refine ((P2 _).out).mono ?_)
  rintro e y2 ⟨rfl, hb⟩
  clear HAp HAq
  have hst := Lib.hid hb
  clear hb
  replace HF := Lib.hid (HF.out.on HR.out.1 hst.out)
  replace HA := Lib.hid (HA.out.on hst.out)
  replace HR := Lib.hid (HR.out.on hst.out)
  replace HW := Lib.hid (below_on HW.out hst.out)
  clear hst
  obtain ⟨_, HAp, HAq⟩ := HA.out
  go_wp2_with fail
  (with_reducible refine ((P3 _).out).mono ?_)
  rintro e y3 ⟨rfl, hb⟩
  clear HAp HAq
  have hst := Lib.hid hb
  clear hb
  replace HF := Lib.hid (HF.out.on HR.out.1 hst.out)
  replace HA := Lib.hid (HA.out.on hst.out)
  replace HR := Lib.hid (HR.out.on hst.out)
  replace HW := Lib.hid (below_on HW.out hst.out)
  clear hst
  obtain ⟨_, HAp, HAq⟩ := HA.out
  go_wp2_with fail
  (with_reducible refine ((P4 _).out).mono ?_)
  rintro e y4 ⟨rfl, hb⟩
  clear HAp HAq
  have hst := Lib.hid hb
  clear hb
  replace HF := Lib.hid (HF.out.on HR.out.1 hst.out)
  replace HA := Lib.hid (HA.out.on hst.out)
  replace HR := Lib.hid (HR.out.on hst.out)
  replace HW := Lib.hid (below_on HW.out hst.out)
  clear hst
  obtain ⟨HFp, HFq⟩ := HF.out
  obtain ⟨_, HRp, HRq⟩ := HR.out
  go_wp2_with fail
  obtain ⟨_, r8, r9⟩ := Blk.set (x := .int .i64 0) (y := .int .i64 0) HR.out
  have hB := ((HW.out.setCell (p := ⟨w.heap.size + 1, 0, none⟩) (by simp) (.int .i64 0)).setCell (p := ⟨w.heap.size + 1, 1, none⟩) (by simp) (.int .i64 0))
  refine bodyPost_ret (by simp [results, Try.results30, go_sem, r8, r9]; try rfl) rfl ?_
  exact ⟨rfl, hB⟩

set_option maxRecDepth 100000 in
set_option maxHeartbeats 8000000 in
theorem tim_n4 (al ah b c k1 k2 k3 k4 : Int) (w : World) (g0 : (c == 0) = false) (g1 : decide (b < -1152921504606846976) = false) (g2 : decide (1152921504606846976 < b) = false) (g3 : decide (c < -1152921504606846976) = false) (g4 : decide (1152921504606846976 < c) = false) (P1 : ∀ w, Hid (Calls Try.prog 36 #[.int .i64 al, .int .i64 b, .int .i64 c, .bool false] w fun e w' => e = .returned (.tuple #[.int .i64 k1, .bool true]) ∧ Below w.heap.size w w')) (P2 : ∀ w, Hid (Calls Try.prog 36 #[.int .i64 al, .int .i64 b, .int .i64 c, .bool true] w fun e w' => e = .returned (.tuple #[.int .i64 k2, .bool true]) ∧ Below w.heap.size w w')) (P3 : ∀ w, Hid (Calls Try.prog 36 #[.int .i64 ah, .int .i64 b, .int .i64 c, .bool false] w fun e w' => e = .returned (.tuple #[.int .i64 k3, .bool true]) ∧ Below w.heap.size w w')) (P4 : ∀ w, Hid (Calls Try.prog 36 #[.int .i64 ah, .int .i64 b, .int .i64 c, .bool true] w fun e w' => e = .returned (.tuple #[.int .i64 k4, .bool false]) ∧ Below w.heap.size w w')) :
    Calls Try.prog 30 #[.agg #[.int .i64 al, .int .i64 ah], .int .i64 b, .int .i64 c] w fun r w' => r = .returned (.tuple #[.agg #[.int .i64 0, .int .i64 0], .int .i64 5]) ∧ Below w.heap.size w w' := by
  go_enter Try.func30, Try.ntmps30
  go_upto_region 1 with fail
  obtain ⟨W0, hW0⟩ : ∃ W0, W0 = (w.alloc (Obj.cells #[Value.int IntKind.i64 al, Value.int IntKind.i64 ah] 23)).alloc (Obj.cells #[Value.int IntKind.i64 0, Value.int IntKind.i64 0] 23) := ⟨_, rfl⟩
  rw [← hW0]
  obtain ⟨HA, HR, HF, HW⟩ := sargs2 w al ah _ W0 hW0
  clear hW0
  obtain ⟨_, HAp, HAq⟩ := HA.out
  go_wp2_with fail
  (with_reducible refine ((P1 _).out).mono ?_)
  rintro e y1 ⟨rfl, hb⟩
  clear HAp HAq
  have hst := Lib.hid hb
  clear hb
  replace HF := Lib.hid (HF.out.on HR.out.1 hst.out)
  replace HA := Lib.hid (HA.out.on hst.out)
  replace HR := Lib.hid (HR.out.on hst.out)
  replace HW := Lib.hid (below_on HW.out hst.out)
  clear hst
  obtain ⟨_, HAp, HAq⟩ := HA.out
  go_wp2_with fail
  (with_reducible refine ((P2 _).out).mono ?_)
  rintro e y2 ⟨rfl, hb⟩
  clear HAp HAq
  have hst := Lib.hid hb
  clear hb
  replace HF := Lib.hid (HF.out.on HR.out.1 hst.out)
  replace HA := Lib.hid (HA.out.on hst.out)
  replace HR := Lib.hid (HR.out.on hst.out)
  replace HW := Lib.hid (below_on HW.out hst.out)
  clear hst
  obtain ⟨_, HAp, HAq⟩ := HA.out
  go_wp2_with fail
  (with_reducible refine ((P3 _).out).mono ?_)
  rintro e y3 ⟨rfl, hb⟩
  clear HAp HAq
  have hst := Lib.hid hb
  clear hb
  replace HF := Lib.hid (HF.out.on HR.out.1 hst.out)
  replace HA := Lib.hid (HA.out.on hst.out)
  replace HR := Lib.hid (HR.out.on hst.out)
  replace HW := Lib.hid (below_on HW.out hst.out)
  clear hst
  obtain ⟨_, HAp, HAq⟩ := HA.out
  go_wp2_with fail
  (with_reducible refine ((P4 _).out).mono ?_)
  rintro e y4 ⟨rfl, hb⟩
  clear HAp HAq
  have hst := Lib.hid hb
  clear hb
  replace HF := Lib.hid (HF.out.on HR.out.1 hst.out)
  replace HA := Lib.hid (HA.out.on hst.out)
  replace HR := Lib.hid (HR.out.on hst.out)
  replace HW := Lib.hid (below_on HW.out hst.out)
  clear hst
  obtain ⟨HFp, HFq⟩ := HF.out
  obtain ⟨_, HRp, HRq⟩ := HR.out
  go_wp2_with fail
  obtain ⟨_, r8, r9⟩ := Blk.set (x := .int .i64 0) (y := .int .i64 0) HR.out
  have hB := ((HW.out.setCell (p := ⟨w.heap.size + 1, 0, none⟩) (by simp) (.int .i64 0)).setCell (p := ⟨w.heap.size + 1, 1, none⟩) (by simp) (.int .i64 0))
  refine bodyPost_ret (by simp [results, Try.results30, go_sem, r8, r9]; try rfl) rfl ?_
  exact ⟨rfl, hB⟩

set_option maxRecDepth 100000 in
set_option maxHeartbeats 8000000 in
theorem tim_yes (al ah b c k1 k2 k3 k4 n d e : Int) (w : World) (CF : ∀ w, Hid (Calls Try.prog 46 #[.int .i64 (min k1 k3), .int .i64 (max k2 k4)] w fun r w' => r = .returned (.tuple #[.agg #[.int .i64 n, .int .i64 d], .int .i64 e]) ∧ Below w.heap.size w w')) (g0 : (c == 0) = false) (g1 : decide (b < -1152921504606846976) = false) (g2 : decide (1152921504606846976 < b) = false) (g3 : decide (c < -1152921504606846976) = false) (g4 : decide (1152921504606846976 < c) = false) (P1 : ∀ w, Hid (Calls Try.prog 36 #[.int .i64 al, .int .i64 b, .int .i64 c, .bool false] w fun e w' => e = .returned (.tuple #[.int .i64 k1, .bool true]) ∧ Below w.heap.size w w')) (P2 : ∀ w, Hid (Calls Try.prog 36 #[.int .i64 al, .int .i64 b, .int .i64 c, .bool true] w fun e w' => e = .returned (.tuple #[.int .i64 k2, .bool true]) ∧ Below w.heap.size w w')) (P3 : ∀ w, Hid (Calls Try.prog 36 #[.int .i64 ah, .int .i64 b, .int .i64 c, .bool false] w fun e w' => e = .returned (.tuple #[.int .i64 k3, .bool true]) ∧ Below w.heap.size w w')) (P4 : ∀ w, Hid (Calls Try.prog 36 #[.int .i64 ah, .int .i64 b, .int .i64 c, .bool true] w fun e w' => e = .returned (.tuple #[.int .i64 k4, .bool true]) ∧ Below w.heap.size w w')) :
    Calls Try.prog 30 #[.agg #[.int .i64 al, .int .i64 ah], .int .i64 b, .int .i64 c] w fun r w' => r = .returned (.tuple #[.agg #[.int .i64 n, .int .i64 d], .int .i64 e]) ∧ Below w.heap.size w w' := by
  go_enter Try.func30, Try.ntmps30
  go_upto_region 1 with fail
  obtain ⟨W0, hW0⟩ : ∃ W0, W0 = (w.alloc (Obj.cells #[Value.int IntKind.i64 al, Value.int IntKind.i64 ah] 23)).alloc (Obj.cells #[Value.int IntKind.i64 0, Value.int IntKind.i64 0] 23) := ⟨_, rfl⟩
  rw [← hW0]
  obtain ⟨HA, HR, HF, HW⟩ := sargs2 w al ah _ W0 hW0
  clear hW0
  obtain ⟨_, HAp, HAq⟩ := HA.out
  go_wp2_with fail
  (with_reducible refine ((P1 _).out).mono ?_)
  rintro e y1 ⟨rfl, hb⟩
  clear HAp HAq
  have hst := Lib.hid hb
  clear hb
  replace HF := Lib.hid (HF.out.on HR.out.1 hst.out)
  replace HA := Lib.hid (HA.out.on hst.out)
  replace HR := Lib.hid (HR.out.on hst.out)
  replace HW := Lib.hid (below_on HW.out hst.out)
  clear hst
  obtain ⟨_, HAp, HAq⟩ := HA.out
  go_wp2_with fail
  (with_reducible refine ((P2 _).out).mono ?_)
  rintro e y2 ⟨rfl, hb⟩
  clear HAp HAq
  have hst := Lib.hid hb
  clear hb
  replace HF := Lib.hid (HF.out.on HR.out.1 hst.out)
  replace HA := Lib.hid (HA.out.on hst.out)
  replace HR := Lib.hid (HR.out.on hst.out)
  replace HW := Lib.hid (below_on HW.out hst.out)
  clear hst
  obtain ⟨_, HAp, HAq⟩ := HA.out
  go_wp2_with fail
  (with_reducible refine ((P3 _).out).mono ?_)
  rintro e y3 ⟨rfl, hb⟩
  clear HAp HAq
  have hst := Lib.hid hb
  clear hb
  replace HF := Lib.hid (HF.out.on HR.out.1 hst.out)
  replace HA := Lib.hid (HA.out.on hst.out)
  replace HR := Lib.hid (HR.out.on hst.out)
  replace HW := Lib.hid (below_on HW.out hst.out)
  clear hst
  obtain ⟨_, HAp, HAq⟩ := HA.out
  go_wp2_with fail
  (with_reducible refine ((P4 _).out).mono ?_)
  rintro e y4 ⟨rfl, hb⟩
  clear HAp HAq
  have hst := Lib.hid hb
  clear hb
  replace HF := Lib.hid (HF.out.on HR.out.1 hst.out)
  replace HA := Lib.hid (HA.out.on hst.out)
  replace HR := Lib.hid (HR.out.on hst.out)
  replace HW := Lib.hid (below_on HW.out hst.out)
  clear hst
  go_wp2_with fail
  (with_reducible refine ((least2 k1 k3 _ _ (row2 _ _ _ _)).out).mono ?_)
  rintro e w' ⟨rfl, rfl⟩
  go_wp2_with fail
  (with_reducible refine ((great2 k2 k4 _ _ (row2b _ _ _ _ _ _ _)).out).mono ?_)
  rintro e w' ⟨rfl, rfl⟩
  go_wp2_with fail
  (with_reducible refine ((CF _).out).mono ?_)
  rintro e w1 ⟨rfl, hb⟩
  have hst := Lib.hid (below_on (w := y4) (by repeat' (first | (with_reducible exact Below.refl _ _) | (with_reducible assumption) | (with_reducible refine Below.alloc ?_ ?_ _) | (with_reducible refine below_drew ?_ _) | (with_reducible refine Below.drew ?_) | (with_reducible refine Below.setCell ?_ ?_ _) | go_size)) hb)
  clear hb
  replace HF := Lib.hid (HF.out.on HR.out.1 hst.out)
  replace HR := Lib.hid (HR.out.on hst.out)
  replace HW := Lib.hid (below_on HW.out hst.out)
  clear hst
  obtain ⟨HFp, HFq⟩ := HF.out
  obtain ⟨_, HRp, HRq⟩ := HR.out
  go_wp2_with fail
  obtain ⟨_, r8, r9⟩ := Blk.set (x := .int .i64 n) (y := .int .i64 d) HR.out
  have hB := ((HW.out.setCell (p := ⟨w.heap.size + 1, 0, none⟩) (by simp) (.int .i64 n)).setCell (p := ⟨w.heap.size + 1, 1, none⟩) (by simp) (.int .i64 d))
  refine bodyPost_ret (by simp [results, Try.results30, go_sem, r8, r9]; try rfl) rfl ?_
  exact ⟨rfl, hB⟩

theorem rTimes_any (al ah b c : Int) (w : World) (va : SVd al ah) (n d e : Int) (h : timS al ah b c = (n, d, e)) :
    Calls Try.prog 30 #[.agg #[.int .i64 al, .int .i64 ah], .int .i64 b, .int .i64 c] w fun r w' => r = .returned (.tuple #[.agg #[.int .i64 n, .int .i64 d], .int .i64 e]) ∧ Below w.heap.size w w' := by
  obtain ⟨va1, va2, va3⟩ := va
  by_cases hc : c = 0
  · subst hc
    unfold timS at h
    rw [if_pos rfl] at h
    obtain ⟨q1, q2, q3⟩ := three h
    subst q1; subst q2; subst q3
    exact tim_zero al ah b 0 0 0 0 0 w rfl
  · have P1 := fun (k : Int) (ok up : Bool) (hk : ptT al b c up = (k, ok)) (w : World) (b0 : -1152921504606846976 ≤ b ∧ b ≤ 1152921504606846976) (c0 : -1152921504606846976 ≤ c ∧ c ≤ 1152921504606846976) => Lib.hid (part_any al b c up w (by omega) (by omega) (by omega) (by omega) (by omega) (by omega) hc k ok hk)
    have P2 := fun (k : Int) (ok up : Bool) (hk : ptT ah b c up = (k, ok)) (w : World) (b0 : -1152921504606846976 ≤ b ∧ b ≤ 1152921504606846976) (c0 : -1152921504606846976 ≤ c ∧ c ≤ 1152921504606846976) => Lib.hid (part_any ah b c up w (by omega) (by omega) (by omega) (by omega) (by omega) (by omega) hc k ok hk)
    by_cases g1 : b < -1152921504606846976
    · rw [show timS al ah b c = (0, 0, 2) by unfold timS; rw [if_neg hc, if_neg (by unfold isN; rw [decide_eq_true_eq, decide_eq_true_eq]; omega)]] at h
      obtain ⟨q1, q2, q3⟩ := three h
      subst q1; subst q2; subst q3
      exact tim_r0 al ah b c 0 0 0 0 w (by simpa using hc)  (decide_eq_true g1)
    · by_cases g2 : 1152921504606846976 < b
      · rw [show timS al ah b c = (0, 0, 2) by unfold timS; rw [if_neg hc, if_neg (by unfold isN; rw [decide_eq_true_eq, decide_eq_true_eq]; omega)]] at h
        obtain ⟨q1, q2, q3⟩ := three h
        subst q1; subst q2; subst q3
        exact tim_r1 al ah b c 0 0 0 0 w (by simpa using hc) (decide_eq_false g1) (decide_eq_true g2)
      · by_cases g3 : c < -1152921504606846976
        · rw [show timS al ah b c = (0, 0, 2) by unfold timS; rw [if_neg hc, if_neg (by unfold isN; rw [decide_eq_true_eq, decide_eq_true_eq]; omega)]] at h
          obtain ⟨q1, q2, q3⟩ := three h
          subst q1; subst q2; subst q3
          exact tim_r2 al ah b c 0 0 0 0 w (by simpa using hc) (decide_eq_false g1) (decide_eq_false g2) (decide_eq_true g3)
        · by_cases g4 : 1152921504606846976 < c
          · rw [show timS al ah b c = (0, 0, 2) by unfold timS; rw [if_neg hc, if_neg (by unfold isN; rw [decide_eq_true_eq, decide_eq_true_eq]; omega)]] at h
            obtain ⟨q1, q2, q3⟩ := three h
            subst q1; subst q2; subst q3
            exact tim_r3 al ah b c 0 0 0 0 w (by simpa using hc) (decide_eq_false g1) (decide_eq_false g2) (decide_eq_false g3) (decide_eq_true g4)
          · have hn : isN b = true := by unfold isN; exact decide_eq_true (by omega)
            have hd : isN c = true := by unfold isN; exact decide_eq_true (by omega)
            rw [timS_pt hn hd hc] at h
            replace P1 := fun k ok up hk w => P1 k ok up hk w (by omega) (by omega)
            replace P2 := fun k ok up hk w => P2 k ok up hk w (by omega) (by omega)
            have g0 : (c == 0) = false := by simpa using hc
            replace g1 := decide_eq_false g1
            replace g2 := decide_eq_false g2
            replace g3 := decide_eq_false g3
            replace g4 := decide_eq_false g4
            by_cases f1 : inM (ptV al b c false)
            · by_cases f2 : inM (ptV al b c true)
              · by_cases f3 : inM (ptV ah b c false)
                · by_cases f4 : inM (ptV ah b c true)
                  · rw [if_pos ⟨f1, f2, f3, f4⟩] at h
                    exact tim_yes al ah b c _ _ _ _ n d e w (fun w => Lib.hid (Fits_s _ _ w n d e h)) g0 g1 g2 g3 g4 (P1 _ _ _ (pt_yes f1)) (P1 _ _ _ (pt_yes f2)) (P2 _ _ _ (pt_yes f3)) (P2 _ _ _ (pt_yes f4))
                  · rw [if_neg (fun z => f4 z.2.2.2)] at h
                    obtain ⟨q1, q2, q3⟩ := three h
                    subst q1; subst q2; subst q3
                    exact tim_n4 al ah b c _ _ _ _ w  g0 g1 g2 g3 g4 (P1 _ _ _ (pt_yes f1)) (P1 _ _ _ (pt_yes f2)) (P2 _ _ _ (pt_yes f3)) (P2 _ _ _ (pt_no f4))
                · rw [if_neg (fun z => f3 z.2.2.1)] at h
                  obtain ⟨q1, q2, q3⟩ := three h
                  subst q1; subst q2; subst q3
                  exact tim_n3 al ah b c _ _ _ _ w _ g0 g1 g2 g3 g4 (P1 _ _ _ (pt_yes f1)) (P1 _ _ _ (pt_yes f2)) (P2 _ _ _ (pt_no f3)) (P2 (ptT ah b c true).1 (ptT ah b c true).2 _ rfl)
              · rw [if_neg (fun z => f2 z.2.1)] at h
                obtain ⟨q1, q2, q3⟩ := three h
                subst q1; subst q2; subst q3
                exact tim_n2 al ah b c _ _ _ _ w _ _ g0 g1 g2 g3 g4 (P1 _ _ _ (pt_yes f1)) (P1 _ _ _ (pt_no f2)) (P2 (ptT ah b c false).1 (ptT ah b c false).2 _ rfl) (P2 (ptT ah b c true).1 (ptT ah b c true).2 _ rfl)
            · rw [if_neg (fun z => f1 z.1)] at h
              obtain ⟨q1, q2, q3⟩ := three h
              subst q1; subst q2; subst q3
              exact tim_n1 al ah b c _ _ _ _ w _ _ _ g0 g1 g2 g3 g4 (P1 _ _ _ (pt_no f1)) (P1 (ptT al b c true).1 (ptT al b c true).2 _ rfl) (P2 (ptT ah b c false).1 (ptT ah b c false).2 _ rfl) (P2 (ptT ah b c true).1 (ptT ah b c true).2 _ rfl)

end Go.Proofs.Ytknbhpnhnhfbpaa
