/- Layer 2: the reference's text of a fraction. -/
import Derived.Test.YtfcplndfoboaaaaDoorRDecT
import Derived.Test.YtfcplndfoboaaaaDoorRRef2
namespace Go.Proofs.YtfcplndfoboaaaaDoor
set_option linter.unusedVariables false
open Go.RowKit Go.Shelf

theorem dec_short (n : Nat) (h : n ≤ 1152921504606846976) : (Lib.decDigits n).length ≤ 115292150460684698 := by have := dec_len n; omega
theorem cat_ba (a b : List UInt8) : (⟨a.toArray⟩ : ByteArray) ++ ⟨b.toArray⟩ = ⟨(a ++ b).toArray⟩ := by apply Go.WideShapes.bytes_inj; simp

set_option maxRecDepth 100000 in
set_option maxHeartbeats 2000000 in
theorem refText_any (n d : Int) (w : World) (v : Vld n d) :
    Calls Tryd.prog 12 #[.agg #[.int .i64 n, .int .i64 d]] w fun e w' => e = .returned (.string ⟨(txt n d).toArray⟩) ∧ Below w.heap.size w w' := by
  have v1 := v.d1; have v2 := v.d2; have v3 := v.n1; have v4 := v.n2
  obtain ⟨N, hN⟩ : ∃ N, n.natAbs = N := ⟨_, rfl⟩
  obtain ⟨E, hE⟩ : ∃ E, d.natAbs = E := ⟨_, rfl⟩
  have C1 := fun w => Lib.hid (refSize_any n w (by omega) (by omega))
  have C2 := fun w => Lib.hid (refSize_any d w (by omega) (by omega))
  rw [hN] at C1
  rw [hE] at C2
  have D1 := fun w => Lib.hid (refDecimal_any N w (by omega))
  have D2 := fun w => Lib.hid (refDecimal_any E w (by omega))
  have l1 := dec_short N (by omega)
  have l2 := dec_short E (by omega)
  have ht : txt n d = (if n < 0 then 45 :: Lib.decDigits N else Lib.decDigits N) ++ (if d = 1 then [] else 47 :: Lib.decDigits E) := by
    unfold txt
    have e1 : Lib.itoa n = if n < 0 then 45 :: Lib.decDigits N else Lib.decDigits N := by
      unfold Lib.itoa
      by_cases h : n < 0
      · rw [if_pos h, if_pos h, hN]
      · rw [if_neg h, if_neg h, show n.toNat = N by omega]
    have e2 : Lib.itoa d = Lib.decDigits E := by
      unfold Lib.itoa
      rw [if_neg (by omega), show d.toNat = E by omega]
    rw [e1, e2]
    by_cases h : d = 1
    · rw [if_pos h, if_pos h, List.append_nil]
    · rw [if_neg h, if_neg h]
  rw [ht]
  clear ht hN hE v
  generalize Lib.decDigits N = A at *
  generalize Lib.decDigits E = B at *
  have HC : Hid (∀ a b : List UInt8, (⟨a.toArray⟩ : ByteArray) ++ ⟨b.toArray⟩ = ⟨(a ++ b).toArray⟩) := cat_ba
  have HW := Lib.hid (Below.refl w.heap.size w)
  clear HW
  by_cases g : n < 0
  · rw [if_pos g]
    have d1 : decide (n < 0) = true := decide_eq_true g
    by_cases k : d = 1
    · subst k
      rw [if_pos rfl]
      go_enter Tryd.func12, Tryd.ntmps12
      go_wp2_with fail
      (with_reducible refine ((C1 _).out).mono ?_)
      rintro e w' ⟨rfl, rfl⟩
      go_wp2_with fail
      (with_reducible refine ((D1 _).out).mono ?_)
      rintro e w1 ⟨rfl, hb⟩
      have HA : Hid (Blk w1 w.heap.size (.int .i64 n) (.int .i64 1)) := Blk.on (Blk.new w _ _ 24) hb
      have HW := Lib.hid (below_on (w := w) (by repeat' (first | (with_reducible exact Below.refl _ _) | (with_reducible assumption) | (with_reducible refine Below.alloc ?_ ?_ _) | (with_reducible refine below_drew ?_ _) | (with_reducible refine Below.drew ?_) | (with_reducible refine Below.setCell ?_ ?_ _) | go_size)) hb)
      clear hb
      obtain ⟨_, p0, p1⟩ := HA.out
      go_wp2_with fail
      go_ret
      exact ⟨by first | (simp; done) | simp [HC.out], HW.out⟩
    · rw [if_neg k]
      have g1 : (d == 1) = false := by simpa using k
      have g2 : (d != 1) = true := by simpa using k
      go_enter Tryd.func12, Tryd.ntmps12
      go_wp2_with fail
      (with_reducible refine ((C1 _).out).mono ?_)
      rintro e w' ⟨rfl, rfl⟩
      go_wp2_with fail
      (with_reducible refine ((D1 _).out).mono ?_)
      rintro e w1 ⟨rfl, hb⟩
      have HA : Hid (Blk w1 w.heap.size (.int .i64 n) (.int .i64 d)) := Blk.on (Blk.new w _ _ 24) hb
      have HW := Lib.hid (below_on (w := w) (by repeat' (first | (with_reducible exact Below.refl _ _) | (with_reducible assumption) | (with_reducible refine Below.alloc ?_ ?_ _) | (with_reducible refine below_drew ?_ _) | (with_reducible refine Below.drew ?_) | (with_reducible refine Below.setCell ?_ ?_ _) | go_size)) hb)
      clear hb
      obtain ⟨_, p0, p1⟩ := HA.out
      go_wp2_with fail
      (with_reducible refine ((C2 _).out).mono ?_)
      rintro e w' ⟨rfl, rfl⟩
      go_wp2_with fail
      (with_reducible refine ((D2 _).out).mono ?_)
      rintro e w2 ⟨rfl, hb⟩
      have HV := Lib.hid (below_on HW.out hb)
      clear hb
      go_wp2_with fail
      go_ret
      exact ⟨by first | (simp; done) | simp [HC.out], HV.out⟩
  · rw [if_neg g]
    have d1 : decide (n < 0) = false := decide_eq_false g
    by_cases k : d = 1
    · subst k
      rw [if_pos rfl]
      go_enter Tryd.func12, Tryd.ntmps12
      go_wp2_with fail
      (with_reducible refine ((C1 _).out).mono ?_)
      rintro e w' ⟨rfl, rfl⟩
      go_wp2_with fail
      (with_reducible refine ((D1 _).out).mono ?_)
      rintro e w1 ⟨rfl, hb⟩
      have HA : Hid (Blk w1 w.heap.size (.int .i64 n) (.int .i64 1)) := Blk.on (Blk.new w _ _ 24) hb
      have HW := Lib.hid (below_on (w := w) (by repeat' (first | (with_reducible exact Below.refl _ _) | (with_reducible assumption) | (with_reducible refine Below.alloc ?_ ?_ _) | (with_reducible refine below_drew ?_ _) | (with_reducible refine Below.drew ?_) | (with_reducible refine Below.setCell ?_ ?_ _) | go_size)) hb)
      clear hb
      obtain ⟨_, p0, p1⟩ := HA.out
      go_wp2_with fail
      go_ret
      exact ⟨by first | (simp; done) | simp [HC.out], HW.out⟩
    · rw [if_neg k]
      have g1 : (d == 1) = false := by simpa using k
      have g2 : (d != 1) = true := by simpa using k
      go_enter Tryd.func12, Tryd.ntmps12
      go_wp2_with fail
      (with_reducible refine ((C1 _).out).mono ?_)
      rintro e w' ⟨rfl, rfl⟩
      go_wp2_with fail
      (with_reducible refine ((D1 _).out).mono ?_)
      rintro e w1 ⟨rfl, hb⟩
      have HA : Hid (Blk w1 w.heap.size (.int .i64 n) (.int .i64 d)) := Blk.on (Blk.new w _ _ 24) hb
      have HW := Lib.hid (below_on (w := w) (by repeat' (first | (with_reducible exact Below.refl _ _) | (with_reducible assumption) | (with_reducible refine Below.alloc ?_ ?_ _) | (with_reducible refine below_drew ?_ _) | (with_reducible refine Below.drew ?_) | (with_reducible refine Below.setCell ?_ ?_ _) | go_size)) hb)
      clear hb
      obtain ⟨_, p0, p1⟩ := HA.out
      go_wp2_with fail
      (with_reducible refine ((C2 _).out).mono ?_)
      rintro e w' ⟨rfl, rfl⟩
      go_wp2_with fail
      (with_reducible refine ((D2 _).out).mono ?_)
      rintro e w2 ⟨rfl, hb⟩
      have HV := Lib.hid (below_on HW.out hb)
      clear hb
      go_wp2_with fail
      go_ret
      exact ⟨by first | (simp; done) | simp [HC.out], HV.out⟩

end Go.Proofs.YtfcplndfoboaaaaDoor
