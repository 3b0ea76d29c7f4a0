/- Layer 3: the least span around candidates. -/
import Derived.Test.YtknbhpnhnhfbpaaS2
namespace Go.Proofs.Ytknbhpnhnhfbpaa
set_option linter.unusedVariables false
open Go.RowKit Go.Shelf

/-- The least span around what is there and the candidates; or it does not fit. -/
def arS : List (Int × Int × Int) → Int → Int → Int × Int × Int
  | [], lo, hi => (lo, hi, 0)
  | q :: r, lo, hi => if (qT q.1 q.2.1 q.2.2).2.2 = true then arS r (min lo (qT q.1 q.2.1 q.2.2).1) (max hi (qT q.1 q.2.1 q.2.2).2.1) else (0, 0, 5)
structure QOk (q : Int × Int × Int) : Prop where
  a0 : -1152921504606846976 ≤ q.1
  a1 : q.1 ≤ 1152921504606846976
  b0 : -1152921504606846976 ≤ q.2.1
  b1 : q.2.1 ≤ 1152921504606846976
  c0 : -1152921504606846976 ≤ q.2.2
  c1 : q.2.2 ≤ 1152921504606846976
  c2 : q.2.2 ≠ 0
/-- The candidates lie in a block, three cells each. -/
def Qs (W : World) (b : Nat) (l : List (Int × Int × Int)) : Prop := ∀ k (h : k < l.length), W.cell? ⟨b, k * 3, none⟩ = some (.int .i64 l[k].1) ∧ W.cell? ⟨b, k * 3 + 1, none⟩ = some (.int .i64 l[k].2.1) ∧ W.cell? ⟨b, k * 3 + 2, none⟩ = some (.int .i64 l[k].2.2)
def ArSt (w W : World) (lo hi : Int) : Prop := Blk W w.heap.size (.int .i64 0) (.int .i64 0) ∧ Blk W (w.heap.size + 1) (.int .i64 lo) (.int .i64 hi) ∧ Frz W w.heap.size ∧ Frz W (w.heap.size + 1) ∧ Below w.heap.size w W
theorem ArSt.on {w W W2 : World} {lo hi : Int} (h : ArSt w W lo hi) (hb : Below W.heap.size W W2) : ArSt w W2 lo hi := by
  obtain ⟨h1, h2, f1, f2, B⟩ := h
  exact ⟨h1.on hb, h2.on hb, f1.on h1.1 hb, f2.on h2.1 hb, below_on B hb⟩
theorem ArSt.set {w W : World} {lo hi : Int} (h : ArSt w W lo hi) (x y : Int) : ArSt w ((W.setCell ⟨w.heap.size + 1, 0, none⟩ (.int .i64 x)).setCell ⟨w.heap.size + 1, 1, none⟩ (.int .i64 y)) x y := by
  obtain ⟨h1, h2, f1, f2, B⟩ := h
  exact ⟨h1.far (by omega), h2.set, f1.set, f2.set, (B.setCell (by simp) _).setCell (by simp) _⟩

set_option maxRecDepth 100000 in
set_option maxHeartbeats 8000000 in
theorem around_any (l : List (Int × Int × Int)) (b : Nat) (w : World) (hl : l.length ≤ 4) (hb : b < w.heap.size) (hQ : Hid (Qs w b l)) (hO : Hid (∀ q ∈ l, QOk q)) (n d e : Int) (hR : Hid (arS l 1152921504606846976 (-1152921504606846976) = (n, d, e))) :
    Calls Try.prog 49 #[.slice (some ⟨b, 0, none⟩) l.length l.length] w fun r w' => r = .returned (.tuple #[.agg #[.int .i64 n, .int .i64 d], .int .i64 e]) ∧ Below w.heap.size w w' := by
  go_enter Try.func49, Try.ntmps49
  go_wp2
  obtain ⟨W0, hW0⟩ : ∃ W0, W0 = (w.alloc (Obj.cells #[Value.int IntKind.i64 0, Value.int IntKind.i64 0] 23)).alloc (Obj.cells #[Value.int IntKind.i64 1152921504606846976, Value.int IntKind.i64 (-1152921504606846976)] 23) := ⟨_, rfl⟩
  rw [← hW0]
  have S0 : Hid (ArSt w W0 1152921504606846976 (-1152921504606846976)) := by
    subst hW0
    refine ⟨(Blk.new _ _ _ _).alloc _, ?_, (Frz.new _ _ _ _).alloc (by simp) _, ?_, (by repeat' (first | (with_reducible exact Below.refl _ _) | (with_reducible assumption) | (with_reducible refine Below.alloc ?_ ?_ _) | (with_reducible refine below_drew ?_ _) | (with_reducible refine Below.drew ?_) | (with_reducible refine Below.setCell ?_ ?_ _) | go_size))⟩
    · have h := Blk.new (w.alloc (Obj.cells #[Value.int IntKind.i64 0, Value.int IntKind.i64 0] 23)) (.int .i64 1152921504606846976) (.int .i64 (-1152921504606846976)) 23
      simpa using h
    · have h := Frz.new (w.alloc (Obj.cells #[Value.int IntKind.i64 0, Value.int IntKind.i64 0] 23)) (.int .i64 1152921504606846976) (.int .i64 (-1152921504606846976)) 23
      simpa using h
  clear hW0
  go_loopg [12] l.length (fun g s12 wx => ∃ (k : Nat) (lo hi : Int), s12 = .int .i64 k ∧ g = l.length - k ∧ k ≤ l.length ∧ Hid (arS (l.drop k) lo hi = (n, d, e)) ∧ Hid (ArSt w wx lo hi))
  case atStart => exact ⟨0, _, _, rfl, rfl, Nat.zero_le _, hR, S0⟩
  case round =>
    clear S0 hR
    obtain ⟨k, lo, hi, rfl, rfl, hk, R, S⟩ := hrel
    by_cases hlt : k < l.length
    · have hd := List.drop_eq_getElem_cons hlt
      obtain ⟨q0, q1, q2⟩ := hQ.out k hlt
      have Qk := hO.out l[k] (List.getElem_mem hlt)
      obtain ⟨u, v, ok, hT⟩ : ∃ u v ok, qT l[k].1 l[k].2.1 l[k].2.2 = (u, v, ok) := ⟨_, _, _, rfl⟩
      have R2 := R.out
      rw [hd] at R2
      unfold arS at R2
      rw [hT] at R2
      have C := fun w => Lib.hid (qspan_any _ _ _ w Qk.a0 Qk.a1 Qk.b0 Qk.b1 Qk.c0 Qk.c1 Qk.c2 u v ok hT)
      generalize l[k].1 = a at *
      generalize l[k].2.1 = b2 at *
      generalize l[k].2.2 = c at *
      obtain ⟨⟨l0, r0, r1⟩, ⟨l1, s0, s1⟩, ⟨f0, f1⟩, ⟨f2, f3⟩, B⟩ := S.out
      have t0 := (B.cell (p := ⟨b, k * 3, none⟩) hb).trans q0
      have t1 := (B.cell (p := ⟨b, k * 3 + 1, none⟩) hb).trans q1
      have t2 := (B.cell (p := ⟨b, k * 3 + 2, none⟩) hb).trans q2
      have HB := Lib.hid B
      have HR2 := Lib.hid R2
      clear hd q0 q1 q2 Qk hT R R2 B
      have wk : IntKind.i64.wrap ((k : Int) + 1) = ((k + 1 : Nat) : Int) := by rw [IntWalk.i64_in _ (by omega)]; omega
      go_wp2_with fail
      (with_reducible refine ((C _).out).mono ?_)
      rintro x w1 ⟨rfl, hb1⟩
      have S1 := Lib.hid ((S.out.on ((Below.refl _ _).alloc (Nat.le_refl _) _)).on hb1)
      clear hb1 C S t0 t1 t2 l0 r0 r1 l1 s0 s1 f0 f1 f2 f3 HB
      cases ok
      · have R3 := HR2.out
        rw [if_neg (by simp)] at R3
        obtain ⟨e1, e2, e3⟩ := three R3
        subst e1; subst e2; subst e3
        clear HR2 R3
        obtain ⟨⟨l0, r0, r1⟩, ⟨l1, s0, s1⟩, ⟨f0, f1⟩, ⟨f2, f3⟩, B⟩ := S1.out
        have HB := Lib.hid B
        clear B
        go_wp2_with fail
        obtain ⟨_, r8, r9⟩ := (Blk.set (x := .int .i64 0) (y := .int .i64 0) S1.out.1).alloc (Obj.cells #[Value.int IntKind.i64 u, Value.int IntKind.i64 v] 23)
        refine bodyPost_ret (by simp [results, Try.results49, go_sem, r8, r9]; try rfl) rfl ?_
        have B := HB.out
        exact ⟨rfl, (by repeat' (first | (with_reducible exact Below.refl _ _) | (with_reducible assumption) | (with_reducible refine Below.alloc ?_ ?_ _) | (with_reducible refine below_drew ?_ _) | (with_reducible refine Below.drew ?_) | (with_reducible refine Below.setCell ?_ ?_ _) | go_size))⟩
      · have R3 := HR2.out
        rw [if_pos rfl] at R3
        have HR3 := Lib.hid R3
        clear HR2 R3
        obtain ⟨⟨l0, r0, r1⟩, ⟨l1, s0, s1⟩, ⟨f0, f1⟩, ⟨f2, f3⟩, _⟩ := S1.out
        go_wp2_with fail
        go_roundg (l.length - (k + 1))
        case measure => omega
        case rel => exact ⟨k + 1, min lo u, max hi v, rfl, rfl, by omega, HR3, Lib.hid ((S1.out.set _ _).on ((Below.refl _ _).alloc (Nat.le_refl _) _))⟩
    · have hk2 : k = l.length := by omega
      subst hk2
      have R2 := R.out
      rw [List.drop_length] at R2
      obtain ⟨e1, e2, e3⟩ := three (show (lo, hi, 0) = (n, d, e) from R2)
      subst e1; subst e2; subst e3
      obtain ⟨⟨l0, r0, r1⟩, ⟨l1, s0, s1⟩, ⟨f0, f1⟩, ⟨f2, f3⟩, B⟩ := S.out
      have HB := Lib.hid B
      clear R R2 B
      go_wp2_with fail
      obtain ⟨_, r8, r9⟩ := (Blk.set (x := .int .i64 lo) (y := .int .i64 hi) S.out.1)
      refine bodyPost_ret (by simp [results, Try.results49, go_sem, r8, r9]; try rfl) rfl ?_
      have B := HB.out
      exact ⟨rfl, (by repeat' (first | (with_reducible exact Below.refl _ _) | (with_reducible assumption) | (with_reducible refine Below.alloc ?_ ?_ _) | (with_reducible refine below_drew ?_ _) | (with_reducible refine Below.drew ?_) | (with_reducible refine Below.setCell ?_ ?_ _) | go_size))⟩

end Go.Proofs.Ytknbhpnhnhfbpaa
