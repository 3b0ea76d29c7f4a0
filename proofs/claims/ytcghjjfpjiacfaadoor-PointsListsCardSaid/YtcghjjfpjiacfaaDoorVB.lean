/- Layer 9: the roots of layer 3; blocks of three cells; lists of points as they lie. -/
import Derived.Test.YtcghjjfpjiacfaaDoorVM
import Derived.Test.YtcghjjfpjiacfaaDoorUBase
import Derived.Test.YtcghjjfpjiacfaaDoorRWide
namespace Go.Proofs.YtcghjjfpjiacfaaDoor
open Go.ChangeShapes Go.WideShapes Go.ChangeAt Go.RowKit Go.Joins Go.Deep Go.Shelf
set_option linter.unusedVariables false

theorem three {a b c n d e : Int} (h : (a, b, c) = (n, d, e)) : a = n ∧ b = d ∧ c = e := by injection h with h1 h2; injection h2 with h2 h3; exact ⟨h1, h2, h3⟩
/-- A variable of two cells that stands in the world. -/
def Blk (w : World) (b : Nat) (v0 v1 : Value) : Prop := b < w.heap.size ∧ w.cell? ⟨b, 0, none⟩ = some v0 ∧ w.cell? ⟨b, 1, none⟩ = some v1
theorem Blk.on {W w1 : World} {b : Nat} {v0 v1 : Value} (h : Blk W b v0 v1) (hb : Below W.heap.size W w1) : Blk w1 b v0 v1 :=
  ⟨Nat.lt_of_lt_of_le h.1 hb.size, (hb.cell (p := ⟨b, 0, none⟩) h.1).trans h.2.1, (hb.cell (p := ⟨b, 1, none⟩) h.1).trans h.2.2⟩
theorem Blk.alloc {W : World} {b : Nat} {v0 v1 : Value} (h : Blk W b v0 v1) (o : Obj) : Blk (W.alloc o) b v0 v1 := h.on ((Below.refl _ _).alloc (Nat.le_refl _) _)
theorem Blk.new (W : World) (v0 v1 : Value) (t : Nat) : Blk (W.alloc (Obj.cells #[v0, v1] t)) W.heap.size v0 v1 := ⟨by simp, by simp [go_sem], by simp [go_sem]⟩
structure SVd (lo hi : Int) : Prop where
  l : -1152921504606846976 ≤ lo
  m : lo ≤ hi
  h : hi ≤ 1152921504606846976
instance (lo hi : Int) : Decidable (SVd lo hi) := if h : -1152921504606846976 ≤ lo ∧ lo ≤ hi ∧ hi ≤ 1152921504606846976 then .isTrue ⟨h.1, h.2.1, h.2.2⟩ else .isFalse fun v => h ⟨v.l, v.m, v.h⟩
/-- Is it a span? -/
def sV (lo hi : Int) : Bool := decide (SVd lo hi)
theorem sV_yes {lo hi : Int} (h : SVd lo hi) : sV lo hi = true := by unfold sV; simpa using h
theorem sV_no {lo hi : Int} (h : ¬ SVd lo hi) : sV lo hi = false := by unfold sV; simpa using h
theorem sV_vd {lo hi : Int} (h : sV lo hi = true) : SVd lo hi := by unfold sV at h; simpa using h
set_option maxHeartbeats 2000000 in
theorem sValid_any (lo hi : Int) (w : World) :
    Calls Tryd.prog 122 #[.agg #[.int .i64 lo, .int .i64 hi]] w fun e w' => e = .returned (.bool (sV lo hi)) ∧ Below w.heap.size w w' := by
  by_cases hl : -1152921504606846976 ≤ lo
  · have dl : decide (-1152921504606846976 ≤ lo) = true := by simpa using hl
    by_cases hm : lo ≤ hi
    · have dm : decide (lo ≤ hi) = true := by simpa using hm
      by_cases hh : hi ≤ 1152921504606846976
      · have dh : decide (hi ≤ 1152921504606846976) = true := by simpa using hh
        have hv := Lib.hid (sV_yes (lo := lo) (hi := hi) ⟨hl, hm, hh⟩)
        go_enter Tryd.func122, Tryd.ntmps122
        go_wp2
        go_ret
        exact ⟨by rw [hv.out]; rfl, by go_grown⟩
      · have hv := Lib.hid (sV_no (lo := lo) (hi := hi) (fun v => hh v.h))
        have dh : decide (hi ≤ 1152921504606846976) = false := by simpa using hh
        go_enter Tryd.func122, Tryd.ntmps122
        go_wp2
        go_ret
        exact ⟨by rw [hv.out]; rfl, by go_grown⟩
    · have hv := Lib.hid (sV_no (lo := lo) (hi := hi) (fun v => hm v.m))
      have dm : decide (lo ≤ hi) = false := by simpa using hm
      go_enter Tryd.func122, Tryd.ntmps122
      go_wp2
      go_ret
      exact ⟨by rw [hv.out]; rfl, by go_grown⟩
  · have hv := Lib.hid (sV_no (lo := lo) (hi := hi) (fun v => hl v.l))
    have dl : decide (-1152921504606846976 ≤ lo) = false := by simpa using hl
    go_enter Tryd.func122, Tryd.ntmps122
    go_wp2
    go_ret
    exact ⟨by rw [hv.out]; rfl, by go_grown⟩
set_option maxHeartbeats 4000000 in
theorem search1 (n m : Int) (cap : Value) (w : World) (n0 : 0 ≤ n) (n1 : n ≤ 1073741825) (m0 : 0 ≤ m) (m1 : m ≤ n)
    (C : ∀ r : Int, 0 ≤ r → r < n → Hid (Calls Tryd.prog 124 #[.int .i64 r, cap] w fun e w' => e = .returned (.bool (decide (m ≤ r))) ∧ w = w')) :
    Calls Tryd.prog 123 #[.int .i64 n, .func (.func 124) #[] #[cap]] w fun e w' => e = .returned (.int .i64 m) ∧ w = w' := by
  have HC := Lib.hid C
  clear C
  go_enter Tryd.func123, Tryd.ntmps123
  go_wp2
  go_loop [5, 6] (fun a b => ∃ i j : Int, a = .int .i64 i ∧ b = .int .i64 j ∧ 0 ≤ i ∧ i ≤ m ∧ m ≤ j ∧ j ≤ n) (fun a b => (intOf b - intOf a).toNat)
  case atStart => exact ⟨0, n, rfl, rfl, by omega, by omega, by omega, by omega⟩
  case round =>
    obtain ⟨i, j, rfl, rfl, i0, im, mj, jn⟩ := hrel
    by_cases hlt : i < j
    · have h1 : i ≤ (i + j) / 2 := by omega
      have h2 : (i + j) / 2 < j := by omega
      have C := HC.out ((i + j) / 2) (by omega) (by omega)
      by_cases hm : m ≤ (i + j) / 2
      · rw [decide_eq_true hm] at C
        go_wp2_with fail
        (with_reducible refine (C.out).mono ?_)
        rintro e w' ⟨rfl, rfl⟩
        go_wp2
        go_round
        case rel => exact ⟨i, (i + j) / 2, rfl, rfl, by omega, by omega, by omega, by omega⟩
        case measure => simp [intOf]; omega
      · rw [decide_eq_false hm] at C
        go_wp2_with fail
        (with_reducible refine (C.out).mono ?_)
        rintro e w' ⟨rfl, rfl⟩
        go_wp2
        go_round
        case rel => exact ⟨(i + j) / 2 + 1, j, rfl, rfl, by omega, by omega, by omega, by omega⟩
        case measure => simp [intOf]; omega
    · have e : i = m := by omega
      subst e
      go_wp2
      go_ret
      exact ⟨rfl, rfl⟩
set_option maxHeartbeats 4000000 in
theorem search2 (n m : Int) (cap : Value) (w : World) (n0 : 0 ≤ n) (n1 : n ≤ 1073741825) (m0 : 0 ≤ m) (m1 : m ≤ n)
    (C : ∀ r : Int, 0 ≤ r → r < n → Hid (Calls Tryd.prog 125 #[.int .i64 r, cap] w fun e w' => e = .returned (.bool (decide (m ≤ r))) ∧ w = w')) :
    Calls Tryd.prog 123 #[.int .i64 n, .func (.func 125) #[] #[cap]] w fun e w' => e = .returned (.int .i64 m) ∧ w = w' := by
  have HC := Lib.hid C
  clear C
  go_enter Tryd.func123, Tryd.ntmps123
  go_wp2
  go_loop [5, 6] (fun a b => ∃ i j : Int, a = .int .i64 i ∧ b = .int .i64 j ∧ 0 ≤ i ∧ i ≤ m ∧ m ≤ j ∧ j ≤ n) (fun a b => (intOf b - intOf a).toNat)
  case atStart => exact ⟨0, n, rfl, rfl, by omega, by omega, by omega, by omega⟩
  case round =>
    obtain ⟨i, j, rfl, rfl, i0, im, mj, jn⟩ := hrel
    by_cases hlt : i < j
    · have h1 : i ≤ (i + j) / 2 := by omega
      have h2 : (i + j) / 2 < j := by omega
      have C := HC.out ((i + j) / 2) (by omega) (by omega)
      by_cases hm : m ≤ (i + j) / 2
      · rw [decide_eq_true hm] at C
        go_wp2_with fail
        (with_reducible refine (C.out).mono ?_)
        rintro e w' ⟨rfl, rfl⟩
        go_wp2
        go_round
        case rel => exact ⟨i, (i + j) / 2, rfl, rfl, by omega, by omega, by omega, by omega⟩
        case measure => simp [intOf]; omega
      · rw [decide_eq_false hm] at C
        go_wp2_with fail
        (with_reducible refine (C.out).mono ?_)
        rintro e w' ⟨rfl, rfl⟩
        go_wp2
        go_round
        case rel => exact ⟨(i + j) / 2 + 1, j, rfl, rfl, by omega, by omega, by omega, by omega⟩
        case measure => simp [intOf]; omega
    · have e : i = m := by omega
      subst e
      go_wp2
      go_ret
      exact ⟨rfl, rfl⟩
set_option maxHeartbeats 1000000 in
theorem root1_any (r x : Int) (b : Nat) (w : World) (r0 : 0 ≤ r) (r1 : r ≤ 1073741824) (hc : w.cell? ⟨b, 0, none⟩ = some (.int .i64 x)) :
    Calls Tryd.prog 124 #[.int .i64 r, .pointer (some ⟨b, 0, none⟩)] w fun e w' => e = .returned (.bool (decide (x < r * r))) ∧ w = w' := by
  have p0 := Int.mul_nonneg r0 r0
  have p1 := Int.mul_le_mul r1 r1 r0 (by omega)
  obtain ⟨p, hp⟩ : ∃ p, r * r = p := ⟨_, rfl⟩
  rw [hp] at p0 p1
  have wp : IntKind.i64.wrap (r * r) = p := by rw [hp]; exact IntWalk.i64_in _ (by omega)
  rw [hp]
  have HP := Lib.hid hp
  clear hp
  go_enter Tryd.func124, Tryd.ntmps124
  go_wp2
  go_ret
  exact ⟨rfl, rfl⟩
set_option maxHeartbeats 1000000 in
theorem root2_any (r x : Int) (b : Nat) (w : World) (r0 : 0 ≤ r) (r1 : r ≤ 1073741824) (hc : w.cell? ⟨b, 1, none⟩ = some (.int .i64 x)) :
    Calls Tryd.prog 125 #[.int .i64 r, .pointer (some ⟨b, 0, none⟩)] w fun e w' => e = .returned (.bool (decide (x ≤ r * r))) ∧ w = w' := by
  have p0 := Int.mul_nonneg r0 r0
  have p1 := Int.mul_le_mul r1 r1 r0 (by omega)
  obtain ⟨p, hp⟩ : ∃ p, r * r = p := ⟨_, rfl⟩
  rw [hp] at p0 p1
  have wp : IntKind.i64.wrap (r * r) = p := by rw [hp]; exact IntWalk.i64_in _ (by omega)
  rw [hp]
  have HP := Lib.hid hp
  clear hp
  go_enter Tryd.func125, Tryd.ntmps125
  go_wp2
  go_ret
  exact ⟨rfl, rfl⟩
/-- The greatest number whose square is at most n. -/
structure FlR (n u : Int) : Prop where
  u0 : 0 ≤ u
  u1 : u ≤ 1073741824
  le : u * u ≤ n
  gt : n < (u + 1) * (u + 1)
theorem sq_le {a b : Int} (a0 : 0 ≤ a) (h : a ≤ b) : a * a ≤ b * b := Int.mul_le_mul h h a0 (by omega)
theorem flR_ex (n : Int) (h0 : 0 ≤ n) (h1 : n ≤ 1152921504606846976) : ∃ u, FlR n u := by
  have key : ∀ k : Nat, (k : Int) ≤ 1073741824 → n < ((k : Int) + 1) * ((k : Int) + 1) → ∃ u, FlR n u := by
    intro k
    induction k with
    | zero => intro _ h; exact ⟨0, by omega, by omega, by omega, by simpa using h⟩
    | succ k ih =>
      intro hk h
      by_cases c : ((k + 1 : Nat) : Int) * ((k + 1 : Nat) : Int) ≤ n
      · exact ⟨((k + 1 : Nat) : Int), by omega, hk, c, h⟩
      · exact ih (by omega) (by rw [show ((k : Int) + 1) = ((k + 1 : Nat) : Int) by omega]; omega)
  exact key 1073741824 (by omega) (by omega)
/-- The least number whose square is at least n. -/
structure ClR (n u : Int) : Prop where
  u0 : 0 ≤ u
  u1 : u ≤ 1073741824
  ge : n ≤ u * u
  lt : u = 0 ∨ (u - 1) * (u - 1) < n
theorem clR_ex (n : Int) (h0 : 0 ≤ n) (h1 : n ≤ 1152921504606846976) : ∃ u, ClR n u := by
  obtain ⟨u, hu⟩ := flR_ex n h0 h1
  obtain ⟨u0, u1, le, gt⟩ := hu
  by_cases c : u * u = n
  · refine ⟨u, u0, u1, by omega, ?_⟩
    by_cases z : u = 0
    · exact .inl z
    · have := sq_le (a := u - 1) (b := u) (by omega) (by omega)
      refine .inr ?_
      rw [Int.mul_sub, Int.sub_mul] at *
      omega
  · refine ⟨u + 1, by omega, ?_, by omega, .inr (by rw [show u + 1 - 1 = u by omega]; omega)⟩
    by_cases z : u = 1073741824
    · subst z; omega
    · omega
/-- What Root returns, with the greatest number below the lower end's root and the least above the upper one's. -/
def sRoot (al ah u v : Int) : Int × Int × Int := if sV al ah = true then (if al < 0 then (0, 0, 2) else (u, v, 0)) else (0, 0, 1)
set_option maxHeartbeats 4000000 in
theorem root_yes (al ah u v : Int) (w : World) (ha : sV al ah = true) (h0 : decide (al < 0) = false) (u0 : 1 ≤ u) (u1 : u ≤ 1073741825) (v0 : 0 ≤ v) (v1 : v ≤ 1073741824) (HU : Hid (∀ r : Int, 0 ≤ r → decide (al < r * r) = decide (u ≤ r))) (HV : Hid (∀ r : Int, 0 ≤ r → decide (ah ≤ r * r) = decide (v ≤ r))) :
    Calls Tryd.prog 105 #[.agg #[.int .i64 al, .int .i64 ah]] w fun e w' => e = .returned (.tuple #[.agg #[.int .i64 (u - 1), .int .i64 v], .int .i64 0]) ∧ Below w.heap.size w w' := by
  have CA := fun w => Lib.hid (sValid_any al ah w)
  simp only [ha] at CA
  clear ha
  go_enter Tryd.func105, Tryd.ntmps105
  go_wp2_with (go_at_call 122; (with_reducible refine ((CA _).out).mono ?_); rintro e w1 ⟨rfl, hb1⟩; have K := Lib.hid ((show Blk ((w.alloc (Obj.cells #[Value.int IntKind.i64 al, Value.int IntKind.i64 ah] 74)).alloc (Obj.cells #[Value.int IntKind.i64 0, Value.int IntKind.i64 0] 74)) w.heap.size _ _ from (Blk.new _ _ _ _).alloc _).on hb1); obtain ⟨B1, hc1, hf1, p1, q1, z1⟩ := after2 (a := w) hb1 (by go_grown) (by go_size); clear hb1)
  have C1 := Lib.hid (search1 1073741825 u (.pointer (some ⟨w.heap.size, 0, none⟩)) w1 (by omega) (by omega) (by omega) (by omega) (fun r r0 r1 => by
    have h := root1_any r al w.heap.size w1 r0 (by omega) K.out.2.1
    rw [show decide (al < r * r) = decide (u ≤ r) from HU.out r r0] at h
    exact h))
  have C2 := Lib.hid (search2 1073741824 v (.pointer (some ⟨w.heap.size, 0, none⟩)) w1 (by omega) (by omega) (by omega) (by omega) (fun r r0 r1 => by
    have h := root2_any r ah w.heap.size w1 r0 (by omega) K.out.2.2
    rw [show decide (ah ≤ r * r) = decide (v ≤ r) from HV.out r r0] at h
    exact h))
  (with_reducible refine (C1.out).mono ?_)
  rintro e w' ⟨rfl, rfl⟩
  go_wp2_with fail
  (with_reducible refine (C2.out).mono ?_)
  rintro e w' ⟨rfl, rfl⟩
  have wu : IntKind.i64.wrap (u - 1) = u - 1 := IntWalk.i64_in _ (by omega)
  go_wp2_with fail
  have k0 : w1.cell? ⟨w.heap.size + 1, 0, none⟩ = some (.int .i64 0) := (hc1 _ _ (by go_size)).trans (by simp [go_sem])
  have k1 : w1.cell? ⟨w.heap.size + 1, 1, none⟩ = some (.int .i64 0) := (hc1 _ _ (by go_size)).trans (by simp [go_sem])
  refine bodyPost_ret (by simp [results, Tryd.results105, go_sem, k0, k1]; try rfl) rfl ?_
  exact ⟨rfl, by go_grown⟩
set_option maxHeartbeats 4000000 in
theorem sRoot_any (al ah u v : Int) (w : World) (hu : 0 ≤ al → SVd al ah → FlR al u ∧ ClR ah v) (n d e : Int) (h : sRoot al ah u v = (n, d, e)) :
    Calls Tryd.prog 105 #[.agg #[.int .i64 al, .int .i64 ah]] w fun r w' => r = .returned (.tuple #[.agg #[.int .i64 n, .int .i64 d], .int .i64 e]) ∧ Below w.heap.size w w' := by
  have CA := fun w => Lib.hid (sValid_any al ah w)
  unfold sRoot at h
  by_cases ha : sV al ah = true
  · rw [if_pos ha] at h
    by_cases h0 : al < 0
    · rw [if_pos h0] at h
      obtain ⟨q1, q2, q3⟩ := three h
      subst q1; subst q2; subst q3
      simp only [ha] at CA
      clear h ha hu
      have d1 : decide (al < 0) = true := decide_eq_true h0
      go_enter Tryd.func105, Tryd.ntmps105
      go_wp2_with (first
        | (go_at_call 122; (with_reducible refine ((CA _).out).mono ?_); rintro e w1 ⟨rfl, hb1⟩; obtain ⟨B1, hc1, hf1, p1, q1, z1⟩ := after2 (a := w) hb1 (by go_grown) (by go_size); clear hb1))
      have k0 : w1.cell? ⟨w.heap.size + 1, 0, none⟩ = some (.int .i64 0) := (hc1 _ _ (by go_size)).trans (by simp [go_sem])
      have k1 : w1.cell? ⟨w.heap.size + 1, 1, none⟩ = some (.int .i64 0) := (hc1 _ _ (by go_size)).trans (by simp [go_sem])
      refine bodyPost_ret (by simp [results, Tryd.results105, go_sem, k0, k1]; try rfl) rfl ?_
      exact ⟨rfl, by go_grown⟩
    · rw [if_neg h0] at h
      obtain ⟨q1, q2, q3⟩ := three h
      subst q1; subst q2; subst q3
      obtain ⟨⟨u0, u1, ule, ugt⟩, ⟨v0, v1, vge, vlt⟩⟩ := hu (by omega) (sV_vd ha)
      have hr := root_yes al ah (u + 1) v w ha (decide_eq_false h0) (by omega) (by omega) v0 v1 (fun r r0 => ?_) (fun r r0 => ?_)
      · rw [show u + 1 - 1 = u by omega] at hr; exact hr
      · rw [decide_eq_decide]
        constructor
        · intro hh
          rcases Int.lt_or_le u r with c | c
          · omega
          · have := sq_le r0 c; omega
        · intro hh
          have := sq_le (a := u + 1) (b := r) (by omega) hh
          omega
      · rw [decide_eq_decide]
        constructor
        · intro hh
          rcases vlt with z | z
          · omega
          · rcases Int.lt_or_le r v with c | c
            · have := sq_le (a := r) (b := v - 1) r0 (by omega); omega
            · exact c
        · intro hh
          have := sq_le v0 hh
          omega
  · rw [if_neg ha] at h
    obtain ⟨q1, q2, q3⟩ := three h
    subst q1; subst q2; subst q3
    simp only [show sV al ah = false by simpa using ha] at CA
    clear h ha hu
    go_enter Tryd.func105, Tryd.ntmps105
    go_wp2_with (first
      | (go_at_call 122; (with_reducible refine ((CA _).out).mono ?_); rintro e w1 ⟨rfl, hb1⟩; obtain ⟨B1, hc1, hf1, p1, q1, z1⟩ := after2 (a := w) hb1 (by go_grown) (by go_size); clear hb1))
    have k0 : w1.cell? ⟨w.heap.size + 1, 0, none⟩ = some (.int .i64 0) := (hc1 _ _ (by go_size)).trans (by simp [go_sem])
    have k1 : w1.cell? ⟨w.heap.size + 1, 1, none⟩ = some (.int .i64 0) := (hc1 _ _ (by go_size)).trans (by simp [go_sem])
    refine bodyPost_ret (by simp [results, Tryd.results105, go_sem, k0, k1]; try rfl) rfl ?_
    exact ⟨rfl, by go_grown⟩

/-- A point as a value. -/
def ptV (p : Pt) : Value := .agg #[.int .i64 p.x, .int .i64 p.y, .int .i64 p.z]
/-- Coordinates that the machine holds. -/
structure PI (p : Pt) : Prop where
  x0 : -9223372036854775808 ≤ p.x
  x1 : p.x ≤ 9223372036854775807
  y0 : -9223372036854775808 ≤ p.y
  y1 : p.y ≤ 9223372036854775807
  z0 : -9223372036854775808 ≤ p.z
  z1 : p.z ≤ 9223372036854775807
/-- A block that holds three numbers. -/
structure B3 (W : World) (b : Nat) (x y z : Int) : Prop where
  lt : b < W.heap.size
  c0 : W.cell? ⟨b, 0, none⟩ = some (.int .i64 x)
  c1 : W.cell? ⟨b, 1, none⟩ = some (.int .i64 y)
  c2 : W.cell? ⟨b, 2, none⟩ = some (.int .i64 z)
  f : ∀ k, W.frozen? ⟨b, k, none⟩ = false
theorem B3.on {W W2 : World} {b : Nat} {x y z : Int} (h : B3 W b x y z) (hb : Below W.heap.size W W2) : B3 W2 b x y z :=
  ⟨Nat.lt_of_lt_of_le h.lt hb.size, (hb.cell (p := ⟨b, 0, none⟩) h.lt).trans h.c0, (hb.cell (p := ⟨b, 1, none⟩) h.lt).trans h.c1, (hb.cell (p := ⟨b, 2, none⟩) h.lt).trans h.c2, fun k => (hb.frozen (p := ⟨b, k, none⟩) h.lt).trans (h.f k)⟩
theorem B3.only {W W2 : World} {b : Nat} {x y z : Int} {S : Nat → Prop} (h : B3 W b x y z) (hb : Only S W W2) (hn : ¬ S b) : B3 W2 b x y z :=
  ⟨Nat.lt_of_lt_of_le h.lt hb.size, (hb.cell (p := ⟨b, 0, none⟩) h.lt hn).trans h.c0, (hb.cell (p := ⟨b, 1, none⟩) h.lt hn).trans h.c1, (hb.cell (p := ⟨b, 2, none⟩) h.lt hn).trans h.c2, fun k => (hb.frozen (p := ⟨b, k, none⟩) h.lt hn).trans (h.f k)⟩
theorem B3.new (W : World) (x y z : Int) (t : TypeId) : B3 (W.alloc (.cells #[.int .i64 x, .int .i64 y, .int .i64 z] t)) W.heap.size x y z :=
  ⟨by simp, by simp [go_sem], by simp [go_sem], by simp [go_sem], fun k => by simp [go_sem]⟩
theorem B3.alloc {W : World} {b : Nat} {x y z : Int} (h : B3 W b x y z) (o : Obj) : B3 (W.alloc o) b x y z := h.on ((Below.refl _ _).alloc (Nat.le_refl _) _)
theorem below_alloc (W : World) (o : Obj) : Below W.heap.size W (W.alloc o) := (Below.refl _ _).alloc (Nat.le_refl _) _
/-- A list of points as it lies. -/
def PtR (W : World) (ra : Option Addr) (n : Nat) (f : Nat → Pt) : Prop := 0 < n → ∃ g o, ra = some ⟨g, o, none⟩ ∧ g < W.heap.size ∧ ∀ i, i < n → W.cell? ⟨g, o + i * 3, none⟩ = some (.int .i64 (f i).x) ∧ W.cell? ⟨g, o + i * 3 + 1, none⟩ = some (.int .i64 (f i).y) ∧ W.cell? ⟨g, o + i * 3 + 2, none⟩ = some (.int .i64 (f i).z)
theorem PtR.on {W W2 : World} {ra : Option Addr} {n : Nat} {f : Nat → Pt} (h : PtR W ra n f) (hb : Below W.heap.size W W2) : PtR W2 ra n f := fun hn => by
  obtain ⟨g, o, h1, h2, h3⟩ := h hn
  exact ⟨g, o, h1, Nat.lt_of_lt_of_le h2 hb.size, fun i hi => ⟨(hb.cell (p := ⟨g, o + i * 3, none⟩) h2).trans (h3 i hi).1, (hb.cell (p := ⟨g, o + i * 3 + 1, none⟩) h2).trans (h3 i hi).2.1, (hb.cell (p := ⟨g, o + i * 3 + 2, none⟩) h2).trans (h3 i hi).2.2⟩⟩
theorem PtR.take {W : World} {ra : Option Addr} {n m : Nat} {f : Nat → Pt} (h : PtR W ra n f) (hm : m ≤ n) : PtR W ra m f := fun h0 => by
  obtain ⟨g, o, h1, h2, h3⟩ := h (by omega)
  exact ⟨g, o, h1, h2, fun i hi => h3 i (by omega)⟩
theorem PtR.cong {W : World} {ra : Option Addr} {n : Nat} {f f2 : Nat → Pt} (h : PtR W ra n f) (e : ∀ i, i < n → f2 i = f i) : PtR W ra n f2 := fun h0 => by
  obtain ⟨g, o, h1, h2, h3⟩ := h h0
  exact ⟨g, o, h1, h2, fun i hi => by rw [e i hi]; exact h3 i hi⟩
end Go.Proofs.YtcghjjfpjiacfaaDoor
