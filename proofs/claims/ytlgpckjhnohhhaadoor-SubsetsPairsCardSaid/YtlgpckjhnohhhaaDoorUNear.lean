/- Layer 7: Nearest. -/
import Derived.Test.YtlgpckjhnohhhaaDoorUSrch
namespace Go.Proofs.YtlgpckjhnohhhaaDoor
open Go.ChangeShapes Go.WideShapes Go.ChangeAt Go.RowKit Go.Joins Go.Deep Go.Shelf
set_option linter.unusedVariables false

/-- A block that reads as a list of one-cell values. -/
def Row (W : World) (b : Nat) (vs : List Value) : Prop := b < W.heap.size ∧ ∀ k (h : k < vs.length), W.cell? ⟨b, k, none⟩ = some vs[k]
theorem Row.on {W W2 : World} {b : Nat} {vs : List Value} (h : Row W b vs) (hb : Below W.heap.size W W2) : Row W2 b vs := ⟨Nat.lt_of_lt_of_le h.1 hb.size, fun k hk => (hb.cell (p := ⟨b, k, none⟩) h.1).trans (h.2 k hk)⟩
theorem row2 (W : World) (x y : Value) (t : Nat) : Row (W.alloc (Obj.cells #[x, y] t)) W.heap.size [x, y] := by
  refine ⟨by simp, fun k hk => ?_⟩
  match k, hk with
  | 0, _ => simp [go_sem]
  | 1, _ => simp [go_sem]
  | (n + 2), h => exact absurd h (by simp)

/-- The distance of two numbers. -/
def dis (a b : Int) : Int := max (a - b) (b - a)
theorem distance_any (a b : Int) (w : World) (a0 : -2305843009213693952 ≤ a) (a1 : a ≤ 2305843009213693952) (b0 : -2305843009213693952 ≤ b) (b1 : b ≤ 2305843009213693952) :
    Calls Tryd.prog 45 #[.int .i64 a, .int .i64 b] w fun e w' => e = .returned (.int .i64 (dis a b)) ∧ w = w' := by
  have k1 : IntKind.i64.wrap (a - b) = a - b := IntWalk.i64_in _ (by omega)
  have k2 : IntKind.i64.wrap (b - a) = b - a := IntWalk.i64_in _ (by omega)
  go_enter Tryd.func45, Tryd.ntmps45
  go_wp2_with fail
  go_ret
  exact ⟨rfl, rfl⟩
def or2 (a b : Int) : Int := if a ≠ 0 then a else b
theorem or_any (B : Nat) (a b : Int) (w : World) (h0 : w.cell? ⟨B, 0, none⟩ = some (.int .i64 a)) (h1 : w.cell? ⟨B, 1, none⟩ = some (.int .i64 b)) :
    Calls Tryd.prog 43 #[.slice (some ⟨B, 0, none⟩) 2 2] w fun e w' => e = .returned (.int .i64 (or2 a b)) ∧ Below w.heap.size w w' := by
  have S0 : Hid (0 < 0 → a = 0) := fun h => by omega
  have S1 : Hid (1 < 0 → b = 0) := fun h => by omega
  have H0 := Lib.hid (And.intro h0 h1)
  clear h0 h1
  go_enter Tryd.func43, Tryd.ntmps43
  go_wp2_with fail
  go_loopg [8] 2 (fun g s8 wx => ∃ i : Nat, s8 = .int .i64 i ∧ g = 2 - i ∧ i ≤ 2 ∧ wx = w ∧ Hid (0 < i → a = 0) ∧ Hid (1 < i → b = 0))
  case atStart => exact ⟨0, rfl, rfl, by omega, rfl, S0, S1⟩
  case round =>
    clear S0 S1
    obtain ⟨i, rfl, rfl, hi, rfl, S, S2⟩ := hrel
    rename World => W1
    by_cases hlt : i < 2
    · have wk : IntKind.i64.wrap ((i : Int) + 1) = ((i + 1 : Nat) : Int) := by rw [IntWalk.i64_in _ (by omega)]; omega
      have key : ∃ v, W1.cell? ⟨B, i, none⟩ = some (.int .i64 v) ∧ (v ≠ 0 → or2 a b = v) ∧ (v = 0 → (0 < i + 1 → a = 0) ∧ (1 < i + 1 → b = 0)) := by
        obtain rfl | rfl : i = 0 ∨ i = 1 := by omega
        · exact ⟨a, H0.out.1, fun h => if_pos h, fun h => ⟨fun _ => h, fun q => by omega⟩⟩
        · have ha := S.out (by omega)
          exact ⟨b, H0.out.2, fun h => by unfold or2; rw [if_neg (fun q => q ha)], fun h => ⟨fun _ => ha, fun _ => h⟩⟩
      obtain ⟨v, p1, hv1, hv2⟩ := key
      have li : (i : Int) < 2 := by omega
      by_cases hv : v = 0
      · have q : (v != 0) = false := by simp [hv]
        have T := hv2 hv
        have T1 := Lib.hid T.1
        have T2 := Lib.hid T.2
        clear T hv1 hv2 hv S S2
        go_wp2_with fail
        go_roundg (2 - (i + 1))
        case measure => omega
        case rel => exact ⟨i + 1, rfl, rfl, by omega, rfl, T1, T2⟩
      · have q : (v != 0) = true := by simpa using hv
        have HV := Lib.hid (hv1 hv)
        clear hv1 hv2 hv S S2
        go_wp2_with fail
        go_ret
        exact ⟨by rw [HV.out]; rfl, Below.refl _ _⟩
    · have e : i = 2 := by omega
      subst e
      have ha := S.out (by omega)
      have hb := S2.out (by omega)
      have HV : Hid (or2 a b = 0) := by show _ = _; unfold or2; rw [if_neg (fun q => q ha), hb]
      clear ha hb S S2
      go_wp2_with fail
      go_ret
      exact ⟨by rw [HV.out]; rfl, Below.refl _ _⟩

/-- The order by the distance from a number, then by size. -/
def nrC (sm x y : Int) : Int := or2 (Lib.compareInt (dis x sm) (dis y sm)) (Lib.compareInt x y)
theorem nrC_lt (sm x y : Int) : nrC sm x y < 0 ↔ dis x sm < dis y sm ∨ dis x sm = dis y sm ∧ x < y := by
  unfold nrC or2 Lib.compareInt
  generalize dis x sm = a
  generalize dis y sm = b
  rcases Int.lt_trichotomy a b with h | h | h
  · simp [h] <;> omega
  · subst h
    rcases Int.lt_trichotomy x y with g | g | g
    · simp [g]
    · subst g; simp
    · have : ¬ x < y := by omega
      simp [g, this]
  · have : ¬ a < b := by omega
    simp [h, this] <;> omega

structure NrR (xb : Nat) (x y sm d1 d2 c1 c2 r : Int) (Wc : World) (L : Nat → Bool) (v : Nat → Value) (g : Nat → Nat) (W : World) : Prop where
  st : Below Wc.heap.size Wc W
  f0 : Had L 0 (v 6 = .int .i64 x)
  f1 : Had L 1 (v 7 = .int .i64 sm)
  f2 : Had L 2 (v 8 = .int .i64 d1)
  f3 : Had L 3 (v 9 = .int .i64 y)
  f4 : Had L 4 (v 10 = .int .i64 sm)
  f5 : Had L 5 (v 11 = .int .i64 d2)
  f6 : Had L 6 (v 12 = .int .i64 c1)
  f7 : Had L 7 (v 13 = .int .i64 x)
  f8 : Had L 8 (v 14 = .int .i64 y)
  f9 : Had L 9 (v 15 = .int .i64 c2)
  f10 : Had L 10 (v 16 = .slice (some ⟨g 10, 0, none⟩) 2 2)
  f11 : Had L 11 (v 17 = .int .i64 r)
  f12 : Had L 12 (v 5 = .int .i64 r)
  b10 : Had L 10 (Wc.heap.size ≤ g 10 ∧ Row W (g 10) [.int .i64 c1, .int .i64 c2])
set_option maxRecDepth 100000 in
set_option maxHeartbeats 8000000 in
theorem nrC_any (xb : Nat) (sm x y : Int) (w : World) (hx : xb < w.heap.size) (hc : w.cell? ⟨xb, 0, none⟩ = some (.int .i64 sm)) (s0 : -1152921504606846976 ≤ sm) (s1 : sm ≤ 1152921504606846976) (x0 : -1152921504606846976 ≤ x) (x1 : x ≤ 1152921504606846976) (y0 : -1152921504606846976 ≤ y) (y1 : y ≤ 1152921504606846976) :
    Calls Tryd.prog 42 #[.int .i64 x, .int .i64 y, .pointer (some ⟨xb, 0, none⟩)] w fun e w' => e = .returned (.int .i64 (nrC sm x y)) ∧ Below w.heap.size w w' := by
  have LB : Hid (w.cell? ⟨xb, 0, none⟩ = some (.int .i64 sm) ∧ xb < w.heap.size) := ⟨hc, hx⟩
  have CD1 := fun W => Lib.hid (distance_any x sm W (by omega) (by omega) (by omega) (by omega))
  have CD2 := fun W => Lib.hid (distance_any y sm W (by omega) (by omega) (by omega) (by omega))
  obtain ⟨c1, hc1⟩ : ∃ c1, c1 = Lib.compareInt (dis x sm) (dis y sm) := ⟨_, rfl⟩
  obtain ⟨c2, hc2⟩ : ∃ c2, c2 = Lib.compareInt x y := ⟨_, rfl⟩
  have CC1 : ∀ W, Hid (Calls Tryd.prog 44 #[.int .i64 (dis x sm), .int .i64 (dis y sm)] W fun e w' => e = .returned (.int .i64 (Lib.compareInt (dis x sm) (dis y sm))) ∧ W = w') := fun W => (Tryd.cmp_Compare_int (dis x sm) (dis y sm) W).mono fun e w' ⟨a, b⟩ => ⟨a, b.symm⟩
  have CC2 : ∀ W, Hid (Calls Tryd.prog 44 #[.int .i64 x, .int .i64 y] W fun e w' => e = .returned (.int .i64 (Lib.compareInt x y)) ∧ W = w') := fun W => (Tryd.cmp_Compare_int x y W).mono fun e w' ⟨a, b⟩ => ⟨a, b.symm⟩
  rw [← hc1] at CC1
  rw [← hc2] at CC2
  have HN : Hid (nrC sm x y = or2 c1 c2) := by show _ = _; rw [hc1, hc2]; rfl
  have CO := fun W B (h : Row W B [.int .i64 c1, .int .i64 c2]) => Lib.hid (or_any B c1 c2 W (h.2 0 (by simp)) (h.2 1 (by simp)))
  clear hc hx hc1 hc2
  generalize dis x sm = d1 at *
  generalize dis y sm = d2 at *
  obtain ⟨r, hr⟩ : ∃ r, or2 c1 c2 = r := ⟨_, rfl⟩
  rw [hr] at CO HN
  clear hr
  go_enter Tryd.func42, Tryd.ntmps42
  go_upto_region 1 with fail
  refine wp_region_each (fun L A W => ∃ (v : Nat → Value) (g : Nat → Nat), A = ⟨#[_, _, _, _, _, v 5, v 6, v 7, v 8, v 9, v 10, v 11, v 12, v 13, v 14, v 15, v 16, v 17], []⟩ ∧ NrR xb x y sm d1 d2 c1 c2 r w L v g W) (by kernel_rfl) (by kernel_rfl) ⟨fun jz => if jz = 5 then .int .i64 0 else undef, fun _ => 0, rfl, ⟨Below.drew (Below.refl _ _), Had.none, Had.none, Had.none, Had.none, Had.none, Had.none, Had.none, Had.none, Had.none, Had.none, Had.none, Had.none, Had.none, Had.none⟩⟩ (rs := [0, 1, 2, 3, 4, 5, 6, 7, 8, 9, 10, 11, 12]) (by kernel_rfl) ?_ ?_
  · refine EachOf.cons [] rfl (by kernel_rfl) ?_ ?_
    · rintro L A W ⟨v, g, rfl, hR⟩ hi hw K hK
      go_simp
      refine hK.out _ _ ?_
      exact ⟨(fun jz => if jz = 6 then .int .i64 x else v jz), g, rfl, ⟨hR.st, (fun _ => rfl), hR.f1.k, hR.f2.k, hR.f3.k, hR.f4.k, hR.f5.k, hR.f6.k, hR.f7.k, hR.f8.k, hR.f9.k, hR.f10.k, hR.f11.k, hR.f12.k, hR.b10.k⟩⟩
    refine EachOf.cons [] rfl (by kernel_rfl) ?_ ?_
    · rintro L A W ⟨v, g, rfl, hR⟩ hi hw K hK
      have q0 := (hR.st.cell (p := ⟨xb, 0, none⟩) LB.out.2).trans LB.out.1
      go_simp
      refine hK.out _ _ ?_
      exact ⟨(fun jz => if jz = 7 then .int .i64 sm else v jz), g, rfl, ⟨hR.st, hR.f0.k, (fun _ => rfl), hR.f2.k, hR.f3.k, hR.f4.k, hR.f5.k, hR.f6.k, hR.f7.k, hR.f8.k, hR.f9.k, hR.f10.k, hR.f11.k, hR.f12.k, hR.b10.k⟩⟩
    refine EachOf.cons [0, 1] rfl (by kernel_rfl) ?_ ?_
    · rintro L A W ⟨v, g, rfl, hR⟩ hi hw K hK
      have e0 := hR.f0 (hw 0 (by simp))
      have e1 := hR.f1 (hw 1 (by simp))
      simp only [e0, e1]
      clear e0 e1
      go_simp
      go_at_call 45
      (with_reducible refine ((CD1 _).out).mono ?_)
      rintro e w2 ⟨rfl, rfl⟩
      go_simp
      refine hK.out _ _ ?_
      exact ⟨(fun jz => if jz = 6 then .int .i64 x else if jz = 7 then .int .i64 sm else if jz = 8 then .int .i64 d1 else v jz), g, rfl, ⟨hR.st, (fun _ => rfl), (fun _ => rfl), (fun _ => rfl), hR.f3.k, hR.f4.k, hR.f5.k, hR.f6.k, hR.f7.k, hR.f8.k, hR.f9.k, hR.f10.k, hR.f11.k, hR.f12.k, hR.b10.k⟩⟩
    refine EachOf.cons [] rfl (by kernel_rfl) ?_ ?_
    · rintro L A W ⟨v, g, rfl, hR⟩ hi hw K hK
      go_simp
      refine hK.out _ _ ?_
      exact ⟨(fun jz => if jz = 9 then .int .i64 y else v jz), g, rfl, ⟨hR.st, hR.f0.k, hR.f1.k, hR.f2.k, (fun _ => rfl), hR.f4.k, hR.f5.k, hR.f6.k, hR.f7.k, hR.f8.k, hR.f9.k, hR.f10.k, hR.f11.k, hR.f12.k, hR.b10.k⟩⟩
    refine EachOf.cons [] rfl (by kernel_rfl) ?_ ?_
    · rintro L A W ⟨v, g, rfl, hR⟩ hi hw K hK
      have q0 := (hR.st.cell (p := ⟨xb, 0, none⟩) LB.out.2).trans LB.out.1
      go_simp
      refine hK.out _ _ ?_
      exact ⟨(fun jz => if jz = 10 then .int .i64 sm else v jz), g, rfl, ⟨hR.st, hR.f0.k, hR.f1.k, hR.f2.k, hR.f3.k, (fun _ => rfl), hR.f5.k, hR.f6.k, hR.f7.k, hR.f8.k, hR.f9.k, hR.f10.k, hR.f11.k, hR.f12.k, hR.b10.k⟩⟩
    refine EachOf.cons [3, 4] rfl (by kernel_rfl) ?_ ?_
    · rintro L A W ⟨v, g, rfl, hR⟩ hi hw K hK
      have e3 := hR.f3 (hw 3 (by simp))
      have e4 := hR.f4 (hw 4 (by simp))
      simp only [e3, e4]
      clear e3 e4
      go_simp
      go_at_call 45
      (with_reducible refine ((CD2 _).out).mono ?_)
      rintro e w2 ⟨rfl, rfl⟩
      go_simp
      refine hK.out _ _ ?_
      exact ⟨(fun jz => if jz = 9 then .int .i64 y else if jz = 10 then .int .i64 sm else if jz = 11 then .int .i64 d2 else v jz), g, rfl, ⟨hR.st, hR.f0.k, hR.f1.k, hR.f2.k, (fun _ => rfl), (fun _ => rfl), (fun _ => rfl), hR.f6.k, hR.f7.k, hR.f8.k, hR.f9.k, hR.f10.k, hR.f11.k, hR.f12.k, hR.b10.k⟩⟩
    refine EachOf.cons [2, 5] rfl (by kernel_rfl) ?_ ?_
    · rintro L A W ⟨v, g, rfl, hR⟩ hi hw K hK
      have e2 := hR.f2 (hw 2 (by simp))
      have e5 := hR.f5 (hw 5 (by simp))
      simp only [e2, e5]
      clear e2 e5
      go_simp
      go_at_call 44
      (with_reducible refine ((CC1 _).out).mono ?_)
      rintro e w2 ⟨rfl, rfl⟩
      go_simp
      refine hK.out _ _ ?_
      exact ⟨(fun jz => if jz = 8 then .int .i64 d1 else if jz = 11 then .int .i64 d2 else if jz = 12 then .int .i64 c1 else v jz), g, rfl, ⟨hR.st, hR.f0.k, hR.f1.k, (fun _ => rfl), hR.f3.k, hR.f4.k, (fun _ => rfl), (fun _ => rfl), hR.f7.k, hR.f8.k, hR.f9.k, hR.f10.k, hR.f11.k, hR.f12.k, hR.b10.k⟩⟩
    refine EachOf.cons [] rfl (by kernel_rfl) ?_ ?_
    · rintro L A W ⟨v, g, rfl, hR⟩ hi hw K hK
      go_simp
      refine hK.out _ _ ?_
      exact ⟨(fun jz => if jz = 13 then .int .i64 x else v jz), g, rfl, ⟨hR.st, hR.f0.k, hR.f1.k, hR.f2.k, hR.f3.k, hR.f4.k, hR.f5.k, hR.f6.k, (fun _ => rfl), hR.f8.k, hR.f9.k, hR.f10.k, hR.f11.k, hR.f12.k, hR.b10.k⟩⟩
    refine EachOf.cons [] rfl (by kernel_rfl) ?_ ?_
    · rintro L A W ⟨v, g, rfl, hR⟩ hi hw K hK
      go_simp
      refine hK.out _ _ ?_
      exact ⟨(fun jz => if jz = 14 then .int .i64 y else v jz), g, rfl, ⟨hR.st, hR.f0.k, hR.f1.k, hR.f2.k, hR.f3.k, hR.f4.k, hR.f5.k, hR.f6.k, hR.f7.k, (fun _ => rfl), hR.f9.k, hR.f10.k, hR.f11.k, hR.f12.k, hR.b10.k⟩⟩
    refine EachOf.cons [7, 8] rfl (by kernel_rfl) ?_ ?_
    · rintro L A W ⟨v, g, rfl, hR⟩ hi hw K hK
      have e7 := hR.f7 (hw 7 (by simp))
      have e8 := hR.f8 (hw 8 (by simp))
      simp only [e7, e8]
      clear e7 e8
      go_simp
      go_at_call 44
      (with_reducible refine ((CC2 _).out).mono ?_)
      rintro e w2 ⟨rfl, rfl⟩
      go_simp
      refine hK.out _ _ ?_
      exact ⟨(fun jz => if jz = 13 then .int .i64 x else if jz = 14 then .int .i64 y else if jz = 15 then .int .i64 c2 else v jz), g, rfl, ⟨hR.st, hR.f0.k, hR.f1.k, hR.f2.k, hR.f3.k, hR.f4.k, hR.f5.k, hR.f6.k, (fun _ => rfl), (fun _ => rfl), (fun _ => rfl), hR.f10.k, hR.f11.k, hR.f12.k, hR.b10.k⟩⟩
    refine EachOf.cons [6, 9] rfl (by kernel_rfl) ?_ ?_
    · rintro L A W ⟨v, g, rfl, hR⟩ hi hw K hK
      have e6 := hR.f6 (hw 6 (by simp))
      have e9 := hR.f9 (hw 9 (by simp))
      simp only [e6, e9]
      clear e6 e9
      have hz := hR.st.size
      go_simp
      refine hK.out _ _ ?_
      have hb : Below W.heap.size W (W.alloc (Obj.cells #[Value.int .i64 c1, Value.int .i64 c2] 3)) := (Below.refl _ _).alloc (Nat.le_refl _) _
      have hrow : Row (W.alloc (Obj.cells #[Value.int .i64 c1, Value.int .i64 c2] 3)) W.heap.size [.int .i64 c1, .int .i64 c2] := row2 _ _ _ _
      exact ⟨(fun jz => if jz = 12 then .int .i64 c1 else if jz = 15 then .int .i64 c2 else if jz = 16 then .slice (some ⟨W.heap.size, 0, none⟩) 2 2 else v jz), (fun jz => if jz = 10 then W.heap.size else g jz), rfl, ⟨below_on hR.st hb, hR.f0.k, hR.f1.k, hR.f2.k, hR.f3.k, hR.f4.k, hR.f5.k, (fun _ => rfl), hR.f7.k, hR.f8.k, (fun _ => rfl), (fun _ => rfl), hR.f11.k, hR.f12.k, (fun _ => ⟨hz, hrow⟩)⟩⟩
    refine EachOf.cons [10] rfl (by kernel_rfl) ?_ ?_
    · rintro L A W ⟨v, g, rfl, hR⟩ hi hw K hK
      have e10 := hR.f10 (hw 10 (by simp))
      simp only [e10]
      clear e10
      have hrw := (hR.b10 (hw 10 (by simp))).2
      go_simp
      go_at_call 43
      (with_reducible refine ((CO _ _ hrw).out).mono ?_)
      rintro e w2 ⟨rfl, hb⟩
      go_simp
      refine hK.out _ _ ?_
      exact ⟨(fun jz => if jz = 16 then .slice (some ⟨g 10, 0, none⟩) 2 2 else if jz = 17 then .int .i64 r else v jz), g, rfl, ⟨below_on hR.st hb, hR.f0.k, hR.f1.k, hR.f2.k, hR.f3.k, hR.f4.k, hR.f5.k, hR.f6.k, hR.f7.k, hR.f8.k, hR.f9.k, (fun _ => rfl), (fun _ => rfl), hR.f12.k, hR.b10.keepM rfl (fun h => ⟨h.1, h.2.on hb⟩)⟩⟩
    refine EachOf.cons [11] rfl (by kernel_rfl) ?_ ?_
    · rintro L A W ⟨v, g, rfl, hR⟩ hi hw K hK
      have e11 := hR.f11 (hw 11 (by simp))
      simp only [e11]
      clear e11
      go_simp
      refine hK.out _ _ ?_
      exact ⟨(fun jz => if jz = 17 then .int .i64 r else if jz = 5 then .int .i64 r else v jz), g, rfl, ⟨hR.st, hR.f0.k, hR.f1.k, hR.f2.k, hR.f3.k, hR.f4.k, hR.f5.k, hR.f6.k, hR.f7.k, hR.f8.k, hR.f9.k, hR.f10.k, (fun _ => rfl), (fun _ => rfl), hR.b10.k⟩⟩
    exact EachOf.nil
  rintro L A W2 ⟨v, g, rfl, hR⟩ hL
  have HR := Lib.hid hR.st
  have e12 := hR.f12 (hL 12 (by simp))
  simp only [e12]
  clear e12 hR hL
  go_wp2_with fail
  go_ret
  exact ⟨by rw [HN.out]; rfl, HR.out⟩

/-- The number of a list that is nearest to another one, the lesser one of two. -/
def NrM (F : Nat → Int) (N : Nat) (sm m : Int) : Prop := (∃ j, j < N ∧ F j = m) ∧ ∀ j, j < N → dis m sm < dis (F j) sm ∨ dis m sm = dis (F j) sm ∧ m ≤ F j
theorem NrM.one (F : Nat → Int) (sm : Int) : NrM F 1 sm (F 0) := ⟨⟨0, by decide, rfl⟩, fun j hj => by
  have : j = 0 := by omega
  subst this
  exact .inr ⟨rfl, Int.le_refl _⟩⟩
theorem NrM.more {F : Nat → Int} {N : Nat} {sm m : Int} (h : NrM F N sm m) : (nrC sm (F N) m < 0 → NrM F (N + 1) sm (F N)) ∧ (¬ nrC sm (F N) m < 0 → NrM F (N + 1) sm m) := by
  rw [nrC_lt]
  obtain ⟨⟨k, hk, he⟩, h2⟩ := h
  constructor
  · intro hc
    refine ⟨⟨N, by omega, rfl⟩, fun j hj => ?_⟩
    by_cases q : j = N
    · rw [q]; exact .inr ⟨rfl, Int.le_refl _⟩
    · have := h2 j (by omega)
      omega
  · intro hc
    refine ⟨⟨k, by omega, he⟩, fun j hj => ?_⟩
    by_cases q : j = N
    · rw [q]; omega
    · exact h2 j (by omega)
theorem NrM.uniq {F G : Nat → Int} {N M : Nat} {sm m k : Int} (h : NrM F N sm m) (g : NrM G M sm k) (h1 : ∀ j, j < N → ∃ i, i < M ∧ G i = F j) (h2 : ∀ i, i < M → ∃ j, j < N ∧ F j = G i) : m = k := by
  obtain ⟨⟨a, ha, ea⟩, h3⟩ := h
  obtain ⟨⟨b, hb, eb⟩, g3⟩ := g
  obtain ⟨i, hi, ei⟩ := h1 a ha
  obtain ⟨j, hj, ej⟩ := h2 b hb
  have x := g3 i hi
  have y := h3 j hj
  rw [ei, ea] at x
  rw [ej, eb] at y
  omega

set_option maxRecDepth 100000 in
set_option maxHeartbeats 8000000 in
theorem minF_any (xb lo N g cp : Nat) (F : Nat → Int) (sm : Int) (w : World) (hr : NRow lo N w g cp F) (hx : xb < w.heap.size) (hc : w.cell? ⟨xb, 0, none⟩ = some (.int .i64 sm)) (s0 : -1152921504606846976 ≤ sm) (s1 : sm ≤ 1152921504606846976) (hF : ∀ j, j < N → -1152921504606846976 ≤ F j ∧ F j ≤ 1152921504606846976) (h0 : 0 < N) (hN : N ≤ 65536) :
    Calls Tryd.prog 41 #[.slice (some ⟨g, 0, none⟩) N cp, .func (.func 42) #[] #[.pointer (some ⟨xb, 0, none⟩)]] w fun e w' => Below w.heap.size w w' ∧ ∃ m, e = .returned (.int .i64 m) ∧ NrM F N sm m := by
  have HR := Lib.hid hr
  have HF := Lib.hid hF
  have CM := fun W (h : Below w.heap.size w W) x y (x0 : -1152921504606846976 ≤ x ∧ x ≤ 1152921504606846976) (y0 : -1152921504606846976 ≤ y ∧ y ≤ 1152921504606846976) => Lib.hid (nrC_any xb sm x y W (Nat.lt_of_lt_of_le hx h.size) ((h.cell (p := ⟨xb, 0, none⟩) hx).trans hc) s0 s1 x0.1 x0.2 y0.1 y0.2)
  have q0 := hr.cell 0 h0
  have S0 : Hid (Below w.heap.size w w ∧ NrM F 1 sm (F 0)) := ⟨Below.refl _ _, NrM.one F sm⟩
  have l0 : ¬ (N : Int) < 1 := by omega
  have l00 : (0 : Int) < (N : Int) := by omega
  clear hr hF hx hc s0 s1
  go_enter Tryd.func41, Tryd.ntmps41
  go_wp2_with fail
  go_loopg [6, 5] (N - 1) (fun g' s6 s5 wx => ∃ (i : Nat) (m : Int), s6 = .int .i64 i ∧ s5 = .int .i64 m ∧ g' = N - i ∧ 1 ≤ i ∧ i ≤ N ∧ Hid (Below w.heap.size w wx ∧ NrM F i sm m))
  case atStart => exact ⟨1, F 0, rfl, rfl, rfl, Nat.le_refl _, h0, S0⟩
  case round =>
    clear S0 q0
    obtain ⟨i, m, rfl, rfl, rfl, hi1, hi, S⟩ := hrel
    rename World => W1
    by_cases hlt : i < N
    · have wk : IntKind.i64.wrap ((i : Int) + 1) = ((i + 1 : Nat) : Int) := by rw [IntWalk.i64_in _ (by omega)]; omega
      have li : (i : Int) < (N : Int) := by omega
      have p1 := (HR.out.on S.out.1).cell i hlt
      have hxb := HF.out i hlt
      have hmb : -1152921504606846976 ≤ m ∧ m ≤ 1152921504606846976 := by
        obtain ⟨⟨k, hk, he⟩, _⟩ := S.out.2
        rw [← he]; exact HF.out k (by omega)
      have K := (CM W1 S.out.1 (F i) m hxb hmb)
      have HM := Lib.hid S.out.2.more
      have HP := Lib.hid (fun W (h : Below W1.heap.size W1 W) => ((HR.out.on (below_on S.out.1 h)).cell i hlt))
      obtain ⟨x, hx⟩ : ∃ x, F i = x := ⟨_, rfl⟩
      rw [hx] at p1 K HM HP
      clear hx
      obtain ⟨r, hr⟩ : ∃ r, nrC sm x m = r := ⟨_, rfl⟩
      rw [hr] at K HM
      clear hr
      have HB := Lib.hid S.out.1
      by_cases hc : r < 0
      · have q1 : decide (r < 0) = true := decide_eq_true hc
        have T2 := HM.out.1 hc
        have T := Lib.hid T2
        clear S HM hxb hmb T2
        go_upto_region 8 with (first
          | (go_at_call 42; (with_reducible refine (K.out.mono ?_)); rintro e w2 ⟨rfl, hb2⟩))
        have p2 := HP.out w2 hb2
        clear p1 HP K
        go_wp2_with fail
        go_roundg (N - (i + 1))
        case measure => omega
        case rel => exact ⟨i + 1, x, rfl, rfl, rfl, by omega, by omega, below_on HB.out hb2, T.out⟩
      · have q1 : decide (r < 0) = false := decide_eq_false hc
        have T2 := HM.out.2 hc
        have T := Lib.hid T2
        clear S HM hxb hmb T2 HP
        go_wp2_with (first
          | (go_at_call 42; (with_reducible refine (K.out.mono ?_)); rintro e w2 ⟨rfl, hb2⟩))
        go_roundg (N - (i + 1))
        case measure => omega
        case rel => exact ⟨i + 1, m, rfl, rfl, rfl, by omega, by omega, below_on HB.out hb2, T.out⟩
    · have e : i = N := by omega
      subst e
      go_wp2_with fail
      go_ret
      exact ⟨S.out.1, m, rfl, S.out.2⟩

theorem Nearest_bad (ra : Option Addr) (n c : Nat) (f : Nat → Int) (sum : Int) (w : World) (hr : IRow w ra n f) (hn : n ≤ 9223372036854775807) (hg : givE n f ≠ 0) :
    Calls Tryd.prog 12 #[.slice ra n c, .int .i64 sum] w fun e w' => Below w.heap.size w w' ∧ e = .returned (.tuple #[.int .i64 0, .slice none 0 0, .int .i64 (givE n f)]) := by
  have hb1 : Below w.heap.size w (w.alloc (Obj.cells #[.int .i64 sum] 3)) := (Below.refl _ _).alloc (Nat.le_refl _) _
  obtain ⟨w1, hw1⟩ : ∃ W, W = w.alloc (Obj.cells #[.int .i64 sum] 3) := ⟨_, rfl⟩
  rw [← hw1] at hb1
  have CV := Lib.hid (valid_any ra n c f w1 (hr.on hb1) hn)
  have HB := Lib.hid hb1
  have q : (givE n f != 0) = true := by simpa using hg
  generalize givE n f = er at *
  clear hr hg hb1
  go_enter Tryd.func12, Tryd.ntmps12
  go_upto_region 1 with fail
  rw [← hw1]
  clear hw1
  go_wp2_with (go_at_call 38; (with_reducible refine ((CV.out).mono ?_)); rintro e w2 ⟨rfl, hb2⟩)
  (try simp only [Exit.inBlock, Exit.then])
  refine bodyPost_ret (by simp [results, Tryd.results12, go_sem]; rfl) rfl ?_
  exact ⟨below_on HB.out hb2, rfl⟩
theorem Nearest_range (ra : Option Addr) (n c : Nat) (f : Nat → Int) (sum : Int) (w : World) (hr : IRow w ra n f) (hn : n ≤ 9223372036854775807) (hg : givE n f = 0) (hs : sum < -1152921504606846976 ∨ 1152921504606846976 < sum) :
    Calls Tryd.prog 12 #[.slice ra n c, .int .i64 sum] w fun e w' => Below w.heap.size w w' ∧ e = .returned (.tuple #[.int .i64 0, .slice none 0 0, .int .i64 2]) := by
  have hb1 : Below w.heap.size w (w.alloc (Obj.cells #[.int .i64 sum] 3)) := (Below.refl _ _).alloc (Nat.le_refl _) _
  obtain ⟨w1, hw1⟩ : ∃ W, W = w.alloc (Obj.cells #[.int .i64 sum] 3) := ⟨_, rfl⟩
  obtain ⟨xb, hxb⟩ : ∃ x, x = w.heap.size := ⟨_, rfl⟩
  have hxl : xb < w1.heap.size := by rw [hw1, hxb]; simp
  have hxc : w1.cell? ⟨xb, 0, none⟩ = some (.int .i64 sum) := by rw [hw1, hxb]; simp
  rw [← hw1] at hb1
  have CV := Lib.hid (valid_any ra n c f w1 (hr.on hb1) hn)
  rw [hg] at CV
  have HX := Lib.hid (fun W (h : Below w1.heap.size w1 W) => (h.cell (p := ⟨xb, 0, none⟩) hxl).trans hxc)
  have HB := Lib.hid hb1
  clear hr hg hb1 hxl hxc
  rcases hs with hs | hs
  · have l1 : decide (sum < -1152921504606846976) = true := decide_eq_true hs
    go_enter Tryd.func12, Tryd.ntmps12
    go_upto_region 1 with fail
    rw [← hxb, ← hw1]
    clear hw1 hxb
    go_wp2_with (go_at_call 38; (with_reducible refine ((CV.out).mono ?_)); rintro e w2 ⟨rfl, hb2⟩; have q2 := HX.out _ hb2)
    (try simp only [Exit.inBlock, Exit.then])
    refine bodyPost_ret (by simp [results, Tryd.results12, go_sem]; rfl) rfl ?_
    exact ⟨below_on HB.out hb2, rfl⟩
  · have l1 : ¬ sum < -1152921504606846976 := by omega
    have l2 : sum > 1152921504606846976 := hs
    go_enter Tryd.func12, Tryd.ntmps12
    go_upto_region 1 with fail
    rw [← hxb, ← hw1]
    clear hw1 hxb
    go_wp2_with (go_at_call 38; (with_reducible refine ((CV.out).mono ?_)); rintro e w2 ⟨rfl, hb2⟩; have q2 := HX.out _ hb2)
    (try simp only [Exit.inBlock, Exit.then])
    refine bodyPost_ret (by simp [results, Tryd.results12, go_sem]; rfl) rfl ?_
    exact ⟨below_on HB.out hb2, rfl⟩
set_option maxRecDepth 100000 in
set_option maxHeartbeats 8000000 in
theorem Nearest_ok (ra : Option Addr) (n c : Nat) (f : Nat → Int) (sum : Int) (w : World) (hr : IRow w ra n f) (hd : DB w) (hn : n ≤ 11) (ho : okF n f = true) (s0 : -1152921504606846976 ≤ sum) (s1 : sum ≤ 1152921504606846976) :
    Calls Tryd.prog 12 #[.slice ra n c, .int .i64 sum] w fun e w' => Below w.heap.size w w' ∧ ∃ (m : Int) (l : List Nat) (pa : Option Addr) (pc : Nat), e = .returned (.tuple #[.int .i64 m, .slice pa l.length pc, .int .i64 0]) ∧ NrM (fun s => smS (bitI n s) f n) (2 ^ n) sum m ∧ IsFst (Fam f n m 0) l ∧ l.length ≤ n ∧ w'.ownsRow w.heap.size 3 1 (.slice pa l.length pc) l.length (l.map fun i => Value.int .i64 (i : Nat)) := by
  have hg : givE n f = 0 := by unfold givE; rw [if_neg (by omega), if_pos ho]
  have hf := of_decide_eq_true ho
  have hb1 : Below w.heap.size w (w.alloc (Obj.cells #[.int .i64 sum] 3)) := (Below.refl _ _).alloc (Nat.le_refl _) _
  obtain ⟨w1, hw1⟩ : ∃ W, W = w.alloc (Obj.cells #[.int .i64 sum] 3) := ⟨_, rfl⟩
  obtain ⟨xb, hxb⟩ : ∃ x, x = w.heap.size := ⟨_, rfl⟩
  have hxl : xb < w1.heap.size := by rw [hw1, hxb]; simp
  have hxc : w1.cell? ⟨xb, 0, none⟩ = some (.int .i64 sum) := by rw [hw1, hxb]; simp
  rw [← hw1] at hb1
  have CV := Lib.hid (valid_any ra n c f w1 (hr.on hb1) (by omega))
  rw [hg] at CV
  have HX := Lib.hid (fun W (h : Below w1.heap.size w1 W) => (h.cell (p := ⟨xb, 0, none⟩) hxl).trans hxc)
  have CS := fun W (h : Below w1.heap.size w1 W) => Lib.hid (sumsOf_any ra n c f W ((hr.on hb1).on h) ((hd.on hb1).on h) hn hf)
  have hN : 2 ^ n ≤ 2048 := Nat.le_trans (Nat.pow_le_pow_right (by decide) hn) (by decide)
  have h0 := Nat.two_pow_pos n
  have HBD := Lib.hid (fun s => smS_bd (p := bitI n s) (f := f) (B := 1125899906842624) (by decide) hf)
  have CN := fun W (h : Below w1.heap.size w1 W) lo g cp (hr : NRow lo (2 ^ n) W g cp (fun s => smS (bitI n s) f n)) => Lib.hid (minF_any xb lo (2 ^ n) g cp _ sum W hr (Nat.lt_of_lt_of_le hxl h.size) (HX.out W h) s0 s1 (fun j hj => by
    have := HBD.out j
    have h8 : (n : Int) * 1125899906842624 ≤ 11 * 1125899906842624 := Int.mul_le_mul_of_nonneg_right (by omega) (by decide)
    show -1152921504606846976 ≤ smS (bitI n j) f n ∧ smS (bitI n j) f n ≤ 1152921504606846976
    omega) h0 (by omega))
  have CF := fun m lo g cp W (h : NRow lo (2 ^ n) W g cp (fun s => smS (bitI n s) f n)) => Lib.hid (first_any n lo g cp 0 _ m W h hn (by omega))
  rw [show ((0 : Nat) : Int) = 0 from rfl] at CF
  have CI := fun s (h : s < 2 ^ n) W => Lib.hid (indices_any n s (by omega) h W)
  have HB := Lib.hid hb1
  have l1 : ¬ sum < -1152921504606846976 := by omega
  have l2 : ¬ sum > 1152921504606846976 := by omega
  clear hr hd hb1 hxl hxc hf hg ho
  go_enter Tryd.func12, Tryd.ntmps12
  go_upto_region 1 with fail
  rw [← hxb, ← hw1]
  clear hw1 hxb
  go_upto_region 9 with (first
    | (go_at_call 38; (with_reducible refine ((CV.out).mono ?_)); rintro e w2 ⟨rfl, hb2⟩; have q2 := HX.out _ hb2)
    | (go_at_call 39; (with_reducible refine (((CS _ hb2).out).mono ?_)); rintro e w3 ⟨hb3, g, rfl, hrow⟩; have F := (CN _ (below_on hb2 hb3) _ _ _ hrow).out)
    | (go_at_call 41; (with_reducible refine (F.mono ?_)); rintro e w4 ⟨hb4, m, rfl, hnr⟩; have F2 := (CF m _ _ _ _ (hrow.on hb4)).out)
    | (go_at_call 46; (with_reducible refine (F2.mono ?_)); rintro e w5 ⟨rfl, b, fd, rfl, hI⟩))
  have hfd : fd = true := by
    cases fd with
    | true => rfl
    | false =>
      obtain ⟨⟨j, hj, he⟩, _⟩ := hnr
      exact absurd he ((hI.no rfl).2 j (Nat.zero_le _) hj)
  subst hfd
  have HN := Lib.hid (hI.fst (by omega))
  have C2 := fun W => CI b (hI.yes rfl).2.1 W
  have hsz := sz_le n b
  unfold sz at hsz
  have HNR := Lib.hid hnr
  have HB4 := Lib.hid (below_on HB.out (below_on (below_on hb2 hb3) hb4))
  clear hI F F2 hrow hb2 hb3 hb4 hnr q2
  go_wp2_with (go_at_call 47; (with_reducible refine (((C2 _).out).mono ?_)); rintro e w6 ⟨hb6, pa, pc, rfl, hown⟩)
  (try simp only [Exit.inBlock, Exit.then])
  refine bodyPost_ret (by simp [results, Tryd.results12, go_sem]; rfl) rfl ?_
  exact ⟨below_on HB4.out hb6, m, _, pa, pc, rfl, HNR.out, HN.out, hsz, own_mono hown HB4.out.size⟩
end Go.Proofs.YtlgpckjhnohhhaaDoor
