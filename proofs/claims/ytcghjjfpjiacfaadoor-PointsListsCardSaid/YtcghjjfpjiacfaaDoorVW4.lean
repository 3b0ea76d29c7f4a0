/- Layer 9: roots, lengths, turns. -/
import Derived.Test.YtcghjjfpjiacfaaDoorVW3
namespace Go.Proofs.YtcghjjfpjiacfaaDoor
open Go.ChangeShapes Go.WideShapes Go.ChangeAt Go.RowKit Go.Joins Go.Deep Go.Shelf
set_option linter.unusedVariables false

/-- A block of two cells, for a result. -/
structure OB (W : World) (b : Nat) (v0 v1 : Value) : Prop where
  lt : b < W.heap.size
  c0 : W.cell? ⟨b, 0, none⟩ = some v0
  c1 : W.cell? ⟨b, 1, none⟩ = some v1
  f : ∀ k, W.frozen? ⟨b, k, none⟩ = false
theorem OB.on {W W2 : World} {b : Nat} {v0 v1 : Value} (h : OB W b v0 v1) (hb : Below W.heap.size W W2) : OB W2 b v0 v1 :=
  ⟨Nat.lt_of_lt_of_le h.lt hb.size, (hb.cell (p := ⟨b, 0, none⟩) h.lt).trans h.c0, (hb.cell (p := ⟨b, 1, none⟩) h.lt).trans h.c1, fun k => (hb.frozen (p := ⟨b, k, none⟩) h.lt).trans (h.f k)⟩
theorem OB.new (W : World) (v0 v1 : Value) (t : TypeId) : OB (W.alloc (Obj.cells #[v0, v1] t)) W.heap.size v0 v1 :=
  ⟨by simp, by simp [go_sem], by simp [go_sem], fun k => by simp [go_sem]⟩

/-- What Root returns. -/
def rtT (n u v : Int) : Int × Int × Int := if n < 0 ∨ 1152921504606846976 < n then (0, 0, 2) else (u, v, 0)
set_option maxHeartbeats 4000000 in
theorem proot_any (n u v : Int) (w : World) (hu : 0 ≤ n → n ≤ 1152921504606846976 → FlR n u ∧ ClR n v) (x y e : Int) (h : rtT n u v = (x, y, e)) :
    Calls Tryd.prog 81 #[.int .i64 n] w fun r w' => r = .returned (.tuple #[.agg #[.int .i64 x, .int .i64 y], .int .i64 e]) ∧ Below w.heap.size w w' := by
  unfold rtT at h
  by_cases h0 : n < 0
  · rw [if_pos (.inl h0)] at h
    obtain ⟨q1, q2, q3⟩ := three h
    subst q1; subst q2; subst q3
    have d0 : decide (n < 0) = true := decide_eq_true h0
    clear h hu
    go_enter Tryd.func81, Tryd.ntmps81
    go_wp2_with fail
    refine bodyPost_ret (by simp [results, Tryd.results81, go_sem]; try rfl) rfl ?_
    exact ⟨rfl, by go_grown⟩
  · have d0 : decide (n < 0) = false := decide_eq_false h0
    by_cases h1 : 1152921504606846976 < n
    · rw [if_pos (.inr h1)] at h
      obtain ⟨q1, q2, q3⟩ := three h
      subst q1; subst q2; subst q3
      have d1 : decide (1152921504606846976 < n) = true := decide_eq_true h1
      clear h hu
      go_enter Tryd.func81, Tryd.ntmps81
      go_wp2_with fail
      refine bodyPost_ret (by simp [results, Tryd.results81, go_sem]; try rfl) rfl ?_
      exact ⟨rfl, by go_grown⟩
    · rw [if_neg (by omega)] at h
      obtain ⟨q1, q2, q3⟩ := three h
      subst q1; subst q2; subst q3
      have d1 : decide (1152921504606846976 < n) = false := decide_eq_false h1
      have hv : sV n n = true := sV_yes ⟨by omega, by omega, by omega⟩
      have C := fun W => Lib.hid (sRoot_any n n u v W (fun _ _ => hu (by omega) (by omega)) u v 0 (by unfold sRoot; rw [if_pos hv, if_neg h0]))
      clear h hu hv
      go_enter Tryd.func81, Tryd.ntmps81
      go_wp2_with (go_at_call 105; (with_reducible refine ((C _).out.mono ?_)); rintro e w2 ⟨rfl, hb2⟩; obtain ⟨B2, hc2, hf2, m1, m2⟩ := after1 (a := w) hb2 (by go_grown) (by go_size); have k0 : w2.cell? ⟨w.heap.size, 0, none⟩ = some (.int .i64 0) := (hc2 _ _ (by go_size)).trans (by simp [go_sem]); have k1 : w2.cell? ⟨w.heap.size, 1, none⟩ = some (.int .i64 0) := (hc2 _ _ (by go_size)).trans (by simp [go_sem]); have k2 := hf2 w.heap.size 0 (by go_size); have k3 := hf2 w.heap.size 1 (by go_size); simp [go_sem] at k2 k3; clear hb2 hc2 hf2)
      refine bodyPost_ret (by simp [results, Tryd.results81, go_sem, *]; try rfl) rfl ?_
      exact ⟨rfl, by go_grown⟩

/-- What Length returns. -/
def lenT (a b : Pt) (u v : Int) : Int × Int × Int := if a.ok ∧ b.ok then (u, v, 0) else (0, 0, 1)
set_option maxHeartbeats 4000000 in
theorem length_any (a b : Pt) (u v : Int) (w : World) (hu : a.ok → b.ok → FlR (sqL a b) u ∧ ClR (sqL a b) v) (x y e : Int) (h : lenT a b u v = (x, y, e)) :
    Calls Tryd.prog 41 #[.agg #[.int .i64 a.x, .int .i64 a.y, .int .i64 a.z], .agg #[.int .i64 b.x, .int .i64 b.y, .int .i64 b.z]] w fun r w' => r = .returned (.tuple #[.agg #[.int .i64 x, .int .i64 y], .int .i64 e]) ∧ Below w.heap.size w w' := by
  obtain ⟨w1, hw1⟩ : ∃ W, W = ((w.alloc (Obj.cells #[.int .i64 a.x, .int .i64 a.y, .int .i64 a.z] 23)).alloc (Obj.cells #[.int .i64 b.x, .int .i64 b.y, .int .i64 b.z] 23)).alloc (Obj.cells #[.int .i64 0, .int .i64 0] 74) := ⟨_, rfl⟩
  have hA : B3 w1 w.heap.size a.x a.y a.z := by rw [hw1]; exact ((B3.new _ _ _ _ _).alloc _).alloc _
  have hB : B3 w1 (w.heap.size + 1) b.x b.y b.z := by
    have := B3.new (w.alloc (Obj.cells #[.int .i64 a.x, .int .i64 a.y, .int .i64 a.z] 23)) b.x b.y b.z 23
    have := this.alloc (Obj.cells #[.int .i64 0, .int .i64 0] 74)
    rw [World.size_alloc, ← hw1] at this
    exact this
  have hb1 : Below w.heap.size w w1 := by rw [hw1]; exact below_on (below_on (below_alloc _ _) (below_alloc _ _)) (below_alloc _ _)
  obtain ⟨sb, hsb⟩ : ∃ x, x = w.heap.size + 1 + 1 := ⟨_, rfl⟩
  have hS : OB w1 sb (.int .i64 0) (.int .i64 0) := by
    rw [hw1, hsb]
    have := OB.new ((w.alloc (Obj.cells #[.int .i64 a.x, .int .i64 a.y, .int .i64 a.z] 23)).alloc (Obj.cells #[.int .i64 b.x, .int .i64 b.y, .int .i64 b.z] 23)) (.int .i64 0) (.int .i64 0) 74
    rw [World.size_alloc, World.size_alloc] at this
    exact this
  have a0 := hA.c0
  have a1 := hA.c1
  have a2 := hA.c2
  have b0 := hB.c0
  have b1 := hB.c1
  have b2 := hB.c2
  have HB := Lib.hid hb1
  have HS := Lib.hid hS
  have hl : w.heap.size ≤ sb := by omega
  clear hA hB hb1 hS
  unfold lenT at h
  by_cases ok : a.ok ∧ b.ok
  · rw [if_pos ok] at h
    obtain ⟨q1, q2, q3⟩ := three h
    subst q1; subst q2; subst q3
    obtain ⟨sq, hsq⟩ : ∃ n, sqL a b = n := ⟨_, rfl⟩
    have bd := sqL_bd ok.1 ok.2
    have hu2 := hu ok.1 ok.2
    rw [hsq] at bd hu2
    have CS := fun W => Lib.hid (square_any a b W sq 0 (by unfold sqT; rw [if_pos ok, hsq]))
    have CR := fun W => Lib.hid (proot_any sq u v W (fun _ _ => hu2) u v 0 (by unfold rtT; rw [if_neg (by omega)]))
    clear hsq bd hu2 hu h ok
    go_enter Tryd.func41, Tryd.ntmps41
    go_upto_region 1 with fail
    rw [← hw1, ← hsb]
    clear hw1 hsb
    go_wp2_with (first
      | (go_at_call 40; (with_reducible refine ((CS _).out.mono ?_)); rintro r w4 ⟨rfl, hb4⟩; have HB4 := Lib.hid (below_on HB.out hb4); have HS4 := Lib.hid (HS.out.on hb4); clear hb4 a0 a1 a2 b0 b1 b2 HB HS CS)
      | (go_at_call 81; (with_reducible refine ((CR _).out.mono ?_)); rintro r w5 ⟨rfl, hb5⟩; have HB5 := Lib.hid (below_on HB4.out hb5); have HS5 := HS4.out.on hb5; have s0 := HS5.c0; have s1 := HS5.c1; have f0 := HS5.f 0; have f1 := HS5.f 1; have sl := HS5.lt; clear hb5 HB4 HS4 CR HS5))
    refine bodyPost_ret (by simp [results, Tryd.results41, go_sem, s0, s1]; try rfl) rfl ?_
    exact ⟨rfl, (HB5.out.setCell hl _).setCell hl _⟩
  · rw [if_neg ok] at h
    obtain ⟨q1, q2, q3⟩ := three h
    subst q1; subst q2; subst q3
    have CS := fun W => Lib.hid (square_any a b W 0 1 (by unfold sqT; rw [if_neg ok]))
    clear hu h ok
    go_enter Tryd.func41, Tryd.ntmps41
    go_upto_region 1 with fail
    rw [← hw1, ← hsb]
    clear hw1 hsb
    go_wp2_with (go_at_call 40; (with_reducible refine ((CS _).out.mono ?_)); rintro r w4 ⟨rfl, hb4⟩; have HB4 := Lib.hid (below_on HB.out hb4); have HS4 := HS.out.on hb4; have s0 := HS4.c0; have s1 := HS4.c1; have f0 := HS4.f 0; have f1 := HS4.f 1; have sl := HS4.lt; clear hb4 a0 a1 a2 b0 b1 b2 HB HS CS HS4)
    refine bodyPost_ret (by simp [results, Tryd.results41, go_sem, s0, s1]; try rfl) rfl ?_
    exact ⟨rfl, (HB4.out.setCell hl _).setCell hl _⟩
end Go.Proofs.YtcghjjfpjiacfaaDoor
