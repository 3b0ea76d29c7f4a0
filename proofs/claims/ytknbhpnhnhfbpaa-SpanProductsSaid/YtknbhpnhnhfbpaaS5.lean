/- Layer 3: the span of a square root. -/
import Derived.Test.YtknbhpnhnhfbpaaS4
namespace Go.Proofs.Ytknbhpnhnhfbpaa
set_option linter.unusedVariables false
open Go.RowKit Go.Shelf

set_option maxHeartbeats 4000000 in
theorem search1 (n m : Int) (cap : Value) (w : World) (n0 : 0 ≤ n) (n1 : n ≤ 1073741825) (m0 : 0 ≤ m) (m1 : m ≤ n)
    (C : ∀ r : Int, 0 ≤ r → r < n → Hid (Calls Try.prog 52 #[.int .i64 r, cap] w fun e w' => e = .returned (.bool (decide (m ≤ r))) ∧ w = w')) :
    Calls Try.prog 51 #[.int .i64 n, .func (.func 52) #[] #[cap]] w fun e w' => e = .returned (.int .i64 m) ∧ w = w' := by
  have HC := Lib.hid C
  clear C
  go_enter Try.func51, Try.ntmps51
  go_wp2
  go_loop [5, 6] (fun a b => ∃ i j : Int, a = .int .i64 i ∧ b = .int .i64 j ∧ 0 ≤ i ∧ i ≤ m ∧ m ≤ j ∧ j ≤ n) (fun a b => (intOf b - intOf a).toNat)
  case atStart => exact ⟨0, n, rfl, rfl, by omega, by omega, by omega, by omega⟩
  case round =>
    obtain ⟨i, j, rfl, rfl, i0, im, mj, jn⟩ := hrel
    by_cases hlt : i < j
    · have h1 : i ≤ (i + j) / 2 := by omega
      have h2 : (i + j) / 2 < j := by omega
      have C := HC.out ((i + j) / 2) (by omega) (by omega)
      by_cases hm : m ≤ (i + j) / 2
      · rw [decide_eq_true hm] at C
        go_wp2_with fail
        (with_reducible refine (C.out).mono ?_)
        rintro e w' ⟨rfl, rfl⟩
        go_wp2
        go_round
        case rel => exact ⟨i, (i + j) / 2, rfl, rfl, by omega, by omega, by omega, by omega⟩
        case measure => simp [intOf]; omega
      · rw [decide_eq_false hm] at C
        go_wp2_with fail
        (with_reducible refine (C.out).mono ?_)
        rintro e w' ⟨rfl, rfl⟩
        go_wp2
        go_round
        case rel => exact ⟨(i + j) / 2 + 1, j, rfl, rfl, by omega, by omega, by omega, by omega⟩
        case measure => simp [intOf]; omega
    · have e : i = m := by omega
      subst e
      go_wp2
      go_ret
      exact ⟨rfl, rfl⟩

set_option maxHeartbeats 4000000 in
theorem search2 (n m : Int) (cap : Value) (w : World) (n0 : 0 ≤ n) (n1 : n ≤ 1073741825) (m0 : 0 ≤ m) (m1 : m ≤ n)
    (C : ∀ r : Int, 0 ≤ r → r < n → Hid (Calls Try.prog 53 #[.int .i64 r, cap] w fun e w' => e = .returned (.bool (decide (m ≤ r))) ∧ w = w')) :
    Calls Try.prog 51 #[.int .i64 n, .func (.func 53) #[] #[cap]] w fun e w' => e = .returned (.int .i64 m) ∧ w = w' := by
  have HC := Lib.hid C
  clear C
  go_enter Try.func51, Try.ntmps51
  go_wp2
  go_loop [5, 6] (fun a b => ∃ i j : Int, a = .int .i64 i ∧ b = .int .i64 j ∧ 0 ≤ i ∧ i ≤ m ∧ m ≤ j ∧ j ≤ n) (fun a b => (intOf b - intOf a).toNat)
  case atStart => exact ⟨0, n, rfl, rfl, by omega, by omega, by omega, by omega⟩
  case round =>
    obtain ⟨i, j, rfl, rfl, i0, im, mj, jn⟩ := hrel
    by_cases hlt : i < j
    · have h1 : i ≤ (i + j) / 2 := by omega
      have h2 : (i + j) / 2 < j := by omega
      have C := HC.out ((i + j) / 2) (by omega) (by omega)
      by_cases hm : m ≤ (i + j) / 2
      · rw [decide_eq_true hm] at C
        go_wp2_with fail
        (with_reducible refine (C.out).mono ?_)
        rintro e w' ⟨rfl, rfl⟩
        go_wp2
        go_round
        case rel => exact ⟨i, (i + j) / 2, rfl, rfl, by omega, by omega, by omega, by omega⟩
        case measure => simp [intOf]; omega
      · rw [decide_eq_false hm] at C
        go_wp2_with fail
        (with_reducible refine (C.out).mono ?_)
        rintro e w' ⟨rfl, rfl⟩
        go_wp2
        go_round
        case rel => exact ⟨(i + j) / 2 + 1, j, rfl, rfl, by omega, by omega, by omega, by omega⟩
        case measure => simp [intOf]; omega
    · have e : i = m := by omega
      subst e
      go_wp2
      go_ret
      exact ⟨rfl, rfl⟩

set_option maxHeartbeats 1000000 in
theorem root1_any (r x : Int) (b : Nat) (w : World) (r0 : 0 ≤ r) (r1 : r ≤ 1073741824) (hc : w.cell? ⟨b, 0, none⟩ = some (.int .i64 x)) :
    Calls Try.prog 52 #[.int .i64 r, .pointer (some ⟨b, 0, none⟩)] w fun e w' => e = .returned (.bool (decide (x < r * r))) ∧ w = w' := by
  have p0 := Int.mul_nonneg r0 r0
  have p1 := Int.mul_le_mul r1 r1 r0 (by omega)
  obtain ⟨p, hp⟩ : ∃ p, r * r = p := ⟨_, rfl⟩
  rw [hp] at p0 p1
  have wp : IntKind.i64.wrap (r * r) = p := by rw [hp]; exact IntWalk.i64_in _ (by omega)
  rw [hp]
  have HP := Lib.hid hp
  clear hp
  go_enter Try.func52, Try.ntmps52
  go_wp2
  go_ret
  exact ⟨rfl, rfl⟩

set_option maxHeartbeats 1000000 in
theorem root2_any (r x : Int) (b : Nat) (w : World) (r0 : 0 ≤ r) (r1 : r ≤ 1073741824) (hc : w.cell? ⟨b, 1, none⟩ = some (.int .i64 x)) :
    Calls Try.prog 53 #[.int .i64 r, .pointer (some ⟨b, 0, none⟩)] w fun e w' => e = .returned (.bool (decide (x ≤ r * r))) ∧ w = w' := by
  have p0 := Int.mul_nonneg r0 r0
  have p1 := Int.mul_le_mul r1 r1 r0 (by omega)
  obtain ⟨p, hp⟩ : ∃ p, r * r = p := ⟨_, rfl⟩
  rw [hp] at p0 p1
  have wp : IntKind.i64.wrap (r * r) = p := by rw [hp]; exact IntWalk.i64_in _ (by omega)
  rw [hp]
  have HP := Lib.hid hp
  clear hp
  go_enter Try.func53, Try.ntmps53
  go_wp2
  go_ret
  exact ⟨rfl, rfl⟩

/-- The greatest number whose square is at most n. -/
structure FlR (n u : Int) : Prop where
  u0 : 0 ≤ u
  u1 : u ≤ 1073741824
  le : u * u ≤ n
  gt : n < (u + 1) * (u + 1)
theorem sq_le {a b : Int} (a0 : 0 ≤ a) (h : a ≤ b) : a * a ≤ b * b := Int.mul_le_mul h h a0 (by omega)
theorem flR_ex (n : Int) (h0 : 0 ≤ n) (h1 : n ≤ 1152921504606846976) : ∃ u, FlR n u := by
  have key : ∀ k : Nat, (k : Int) ≤ 1073741824 → n < ((k : Int) + 1) * ((k : Int) + 1) → ∃ u, FlR n u := by
    intro k
    induction k with
    | zero => intro _ h; exact ⟨0, by omega, by omega, by omega, by simpa using h⟩
    | succ k ih =>
      intro hk h
      by_cases c : ((k + 1 : Nat) : Int) * ((k + 1 : Nat) : Int) ≤ n
      · exact ⟨((k + 1 : Nat) : Int), by omega, hk, c, h⟩
      · exact ih (by omega) (by rw [show ((k : Int) + 1) = ((k + 1 : Nat) : Int) by omega]; omega)
  exact key 1073741824 (by omega) (by omega)
/-- The least number whose square is at least n. -/
structure ClR (n u : Int) : Prop where
  u0 : 0 ≤ u
  u1 : u ≤ 1073741824
  ge : n ≤ u * u
  lt : u = 0 ∨ (u - 1) * (u - 1) < n
theorem clR_ex (n : Int) (h0 : 0 ≤ n) (h1 : n ≤ 1152921504606846976) : ∃ u, ClR n u := by
  obtain ⟨u, hu⟩ := flR_ex n h0 h1
  obtain ⟨u0, u1, le, gt⟩ := hu
  by_cases c : u * u = n
  · refine ⟨u, u0, u1, by omega, ?_⟩
    by_cases z : u = 0
    · exact .inl z
    · have := sq_le (a := u - 1) (b := u) (by omega) (by omega)
      refine .inr ?_
      rw [Int.mul_sub, Int.sub_mul] at *
      omega
  · refine ⟨u + 1, by omega, ?_, by omega, .inr (by rw [show u + 1 - 1 = u by omega]; omega)⟩
    by_cases z : u = 1073741824
    · subst z; omega
    · omega
/-- What Root returns, with the greatest number below the lower end's root and the least above the upper one's. -/
def sRoot (al ah u v : Int) : Int × Int × Int := if sV al ah = true then (if al < 0 then (0, 0, 2) else (u, v, 0)) else (0, 0, 1)

set_option maxHeartbeats 4000000 in
theorem root_yes (al ah u v : Int) (w : World) (ha : sV al ah = true) (h0 : decide (al < 0) = false) (u0 : 1 ≤ u) (u1 : u ≤ 1073741825) (v0 : 0 ≤ v) (v1 : v ≤ 1073741824) (HU : Hid (∀ r : Int, 0 ≤ r → decide (al < r * r) = decide (u ≤ r))) (HV : Hid (∀ r : Int, 0 ≤ r → decide (ah ≤ r * r) = decide (v ≤ r))) :
    Calls Try.prog 28 #[.agg #[.int .i64 al, .int .i64 ah]] w fun e w' => e = .returned (.tuple #[.agg #[.int .i64 (u - 1), .int .i64 v], .int .i64 0]) ∧ Below w.heap.size w w' := by
  have CA := fun w => Lib.hid (sValid_any al ah w)
  simp only [ha] at CA
  clear ha
  go_enter Try.func28, Try.ntmps28
  go_wp2_with (go_at_call 16; (with_reducible refine ((CA _).out).mono ?_); rintro e w1 ⟨rfl, hb1⟩; have K := Lib.hid ((show Blk ((w.alloc (Obj.cells #[Value.int IntKind.i64 al, Value.int IntKind.i64 ah] 23)).alloc (Obj.cells #[Value.int IntKind.i64 0, Value.int IntKind.i64 0] 23)) w.heap.size _ _ from (Blk.new _ _ _ _).alloc _).on hb1); obtain ⟨B1, hc1, hf1, p1, q1, z1⟩ := after2 (a := w) hb1 (by go_grown) (by go_size); clear hb1)
  have C1 := Lib.hid (search1 1073741825 u (.pointer (some ⟨w.heap.size, 0, none⟩)) w1 (by omega) (by omega) (by omega) (by omega) (fun r r0 r1 => by
    have h := root1_any r al w.heap.size w1 r0 (by omega) K.out.2.1
    rw [show decide (al < r * r) = decide (u ≤ r) from HU.out r r0] at h
    exact h))
  have C2 := Lib.hid (search2 1073741824 v (.pointer (some ⟨w.heap.size, 0, none⟩)) w1 (by omega) (by omega) (by omega) (by omega) (fun r r0 r1 => by
    have h := root2_any r ah w.heap.size w1 r0 (by omega) K.out.2.2
    rw [show decide (ah ≤ r * r) = decide (v ≤ r) from HV.out r r0] at h
    exact h))
  (with_reducible refine (C1.out).mono ?_)
  rintro e w' ⟨rfl, rfl⟩
  go_wp2_with fail
  (with_reducible refine (C2.out).mono ?_)
  rintro e w' ⟨rfl, rfl⟩
  have wu : IntKind.i64.wrap (u - 1) = u - 1 := IntWalk.i64_in _ (by omega)
  go_wp2_with fail
  have k0 : w1.cell? ⟨w.heap.size + 1, 0, none⟩ = some (.int .i64 0) := (hc1 _ _ (by go_size)).trans (by simp [go_sem])
  have k1 : w1.cell? ⟨w.heap.size + 1, 1, none⟩ = some (.int .i64 0) := (hc1 _ _ (by go_size)).trans (by simp [go_sem])
  refine bodyPost_ret (by simp [results, Try.results28, go_sem, k0, k1]; try rfl) rfl ?_
  exact ⟨rfl, by go_grown⟩

set_option maxHeartbeats 4000000 in
theorem sRoot_any (al ah u v : Int) (w : World) (hu : 0 ≤ al → SVd al ah → FlR al u ∧ ClR ah v) (n d e : Int) (h : sRoot al ah u v = (n, d, e)) :
    Calls Try.prog 28 #[.agg #[.int .i64 al, .int .i64 ah]] w fun r w' => r = .returned (.tuple #[.agg #[.int .i64 n, .int .i64 d], .int .i64 e]) ∧ Below w.heap.size w w' := by
  have CA := fun w => Lib.hid (sValid_any al ah w)
  unfold sRoot at h
  by_cases ha : sV al ah = true
  · rw [if_pos ha] at h
    by_cases h0 : al < 0
    · rw [if_pos h0] at h
      obtain ⟨q1, q2, q3⟩ := three h
      subst q1; subst q2; subst q3
      simp only [ha] at CA
      clear h ha hu
      have d1 : decide (al < 0) = true := decide_eq_true h0
      go_enter Try.func28, Try.ntmps28
      go_wp2_with (first
        | (go_at_call 16; (with_reducible refine ((CA _).out).mono ?_); rintro e w1 ⟨rfl, hb1⟩; obtain ⟨B1, hc1, hf1, p1, q1, z1⟩ := after2 (a := w) hb1 (by go_grown) (by go_size); clear hb1))
      have k0 : w1.cell? ⟨w.heap.size + 1, 0, none⟩ = some (.int .i64 0) := (hc1 _ _ (by go_size)).trans (by simp [go_sem])
      have k1 : w1.cell? ⟨w.heap.size + 1, 1, none⟩ = some (.int .i64 0) := (hc1 _ _ (by go_size)).trans (by simp [go_sem])
      refine bodyPost_ret (by simp [results, Try.results28, go_sem, k0, k1]; try rfl) rfl ?_
      exact ⟨rfl, by go_grown⟩
    · rw [if_neg h0] at h
      obtain ⟨q1, q2, q3⟩ := three h
      subst q1; subst q2; subst q3
      obtain ⟨⟨u0, u1, ule, ugt⟩, ⟨v0, v1, vge, vlt⟩⟩ := hu (by omega) (sV_vd ha)
      have hr := root_yes al ah (u + 1) v w ha (decide_eq_false h0) (by omega) (by omega) v0 v1 (fun r r0 => ?_) (fun r r0 => ?_)
      · rw [show u + 1 - 1 = u by omega] at hr; exact hr
      · rw [decide_eq_decide]
        constructor
        · intro hh
          rcases Int.lt_or_le u r with c | c
          · omega
          · have := sq_le r0 c; omega
        · intro hh
          have := sq_le (a := u + 1) (b := r) (by omega) hh
          omega
      · rw [decide_eq_decide]
        constructor
        · intro hh
          rcases vlt with z | z
          · omega
          · rcases Int.lt_or_le r v with c | c
            · have := sq_le (a := r) (b := v - 1) r0 (by omega); omega
            · exact c
        · intro hh
          have := sq_le v0 hh
          omega
  · rw [if_neg ha] at h
    obtain ⟨q1, q2, q3⟩ := three h
    subst q1; subst q2; subst q3
    simp only [show sV al ah = false by simpa using ha] at CA
    clear h ha hu
    go_enter Try.func28, Try.ntmps28
    go_wp2_with (first
      | (go_at_call 16; (with_reducible refine ((CA _).out).mono ?_); rintro e w1 ⟨rfl, hb1⟩; obtain ⟨B1, hc1, hf1, p1, q1, z1⟩ := after2 (a := w) hb1 (by go_grown) (by go_size); clear hb1))
    have k0 : w1.cell? ⟨w.heap.size + 1, 0, none⟩ = some (.int .i64 0) := (hc1 _ _ (by go_size)).trans (by simp [go_sem])
    have k1 : w1.cell? ⟨w.heap.size + 1, 1, none⟩ = some (.int .i64 0) := (hc1 _ _ (by go_size)).trans (by simp [go_sem])
    refine bodyPost_ret (by simp [results, Try.results28, go_sem, k0, k1]; try rfl) rfl ?_
    exact ⟨rfl, by go_grown⟩

end Go.Proofs.Ytknbhpnhnhfbpaa
