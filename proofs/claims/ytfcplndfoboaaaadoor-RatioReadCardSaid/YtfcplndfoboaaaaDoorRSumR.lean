/- Layer 2: the sum of a list of fractions (package ratio). -/
import Derived.Test.YtfcplndfoboaaaaDoorRSumL
import Derived.Test.YtfcplndfoboaaaaDoorRLawMath
namespace Go.Proofs.YtfcplndfoboaaaaDoor
set_option linter.unusedVariables false
open Go.RowKit Go.Shelf

def sumS (l : List (Int × Int)) : Int × Int × Int := if allV l = true then (if 1000 < l.length then (0, 0, 4) else sumT l 0 1) else (0, 0, 1)
def SuS1 (w W : World) : Prop := Blk W w.heap.size (.int .i64 0) (.int .i64 0) ∧ Frz W w.heap.size ∧ Below w.heap.size w W
theorem SuS1.on {w W W2 : World} (h : SuS1 w W) (hb : Below W.heap.size W W2) : SuS1 w W2 := ⟨h.1.on hb, h.2.1.on h.1.1 hb, below_on h.2.2 hb⟩
def SuS2 (w : World) (c : Nat) (W : World) (n d : Int) : Prop := Blk W w.heap.size (.int .i64 0) (.int .i64 0) ∧ Frz W w.heap.size ∧ Blk W c (.int .i64 n) (.int .i64 d) ∧ Frz W c ∧ w.heap.size < c ∧ Below w.heap.size w W
theorem SuS2.on {w W W2 : World} {c : Nat} {n d : Int} (h : SuS2 w c W n d) (hb : Below W.heap.size W W2) : SuS2 w c W2 n d := by
  obtain ⟨h1, h2, h3, h4, h5, h6⟩ := h
  exact ⟨h1.on hb, h2.on h1.1 hb, h3.on hb, h4.on h3.1 hb, h5, below_on h6 hb⟩
theorem SuS2.set {w W : World} {c : Nat} {n d : Int} (h : SuS2 w c W n d) (x y : Int) : SuS2 w c ((W.setCell ⟨c, 0, none⟩ (.int .i64 x)).setCell ⟨c, 1, none⟩ (.int .i64 y)) x y := by
  obtain ⟨h1, h2, h3, h4, h5, h6⟩ := h
  exact ⟨h1.far (by omega), h2.set, h3.set, h4.set, h5, (h6.setCell (by simp; omega) _).setCell (by simp; omega) _⟩

set_option maxRecDepth 100000 in
set_option maxHeartbeats 8000000 in
theorem Sum_any (l : List (Int × Int)) (b o cp : Nat) (w : World) (hl : l.length ≤ 2000) (hb : b < w.heap.size) (hQ : Hid (Frs w b o l)) (hO : Hid (∀ x ∈ l, FrI x)) (x y z : Int) (h : sumS l = (x, y, z)) :
    Calls Tryd.prog 6 #[.slice (some ⟨b, o, none⟩) l.length cp] w fun r w' => r = .returned (.tuple #[.agg #[.int .i64 x, .int .i64 y], .int .i64 z]) ∧ Below w.heap.size w w' := by
  unfold sumS at h
  obtain ⟨v, hv⟩ : ∃ v, allV l = v := ⟨_, rfl⟩
  rw [hv] at h
  have HV := Lib.hid hv
  have HH := Lib.hid h
  clear hv h
  go_enter Tryd.func6, Tryd.ntmps6
  go_wp2
  have S0 : Hid (SuS1 w (w.alloc (Obj.cells #[Value.int IntKind.i64 0, Value.int IntKind.i64 0] 24))) := ⟨Blk.new _ _ _ _, Frz.new _ _ _ _, (by repeat' (first | (with_reducible exact Below.refl _ _) | (with_reducible assumption) | (with_reducible refine Below.alloc ?_ ?_ _) | (with_reducible refine below_drew ?_ _) | (with_reducible refine Below.drew ?_) | (with_reducible refine Below.setCell ?_ ?_ _) | go_size))⟩
  go_loopg [13] l.length (fun g s13 wx => ∃ (k : Nat), s13 = .int .i64 k ∧ g = l.length - k ∧ k ≤ l.length ∧ Hid (allV (l.drop k) = v) ∧ Hid (SuS1 w wx))
  case atStart => exact ⟨0, rfl, rfl, Nat.zero_le _, HV, S0⟩
  case round =>
    clear S0
    obtain ⟨k, rfl, rfl, hk, R, S⟩ := hrel
    by_cases hlt : k < l.length
    · have hd := List.drop_eq_getElem_cons hlt
      obtain ⟨q0, q1⟩ := hQ.out k hlt
      have Qk := hO.out l[k] (List.getElem_mem hlt)
      have R2 := R.out
      rw [hd, allV_cons] at R2
      have C := fun w => Lib.hid (Valid_any _ _ w Qk.n0 Qk.n1 Qk.d0 Qk.d1)
      generalize l[k].1 = a at *
      generalize l[k].2 = c at *
      have t0 := (S.out.2.2.cell (p := ⟨b, o + k * 2, none⟩) hb).trans q0
      have t1 := (S.out.2.2.cell (p := ⟨b, o + k * 2 + 1, none⟩) hb).trans q1
      have HR2 := Lib.hid R2
      clear hd q0 q1 Qk R R2
      have wk : IntKind.i64.wrap ((k : Int) + 1) = ((k + 1 : Nat) : Int) := by rw [IntWalk.i64_in _ (by omega)]; omega
      cases hc : vB a c
      · simp only [hc] at C
        have R3 := HR2.out
        rw [hc, Bool.false_and] at R3
        subst R3
        have H3 := HH.out
        rw [if_neg (by simp)] at H3
        obtain ⟨e1, e2, e3⟩ := three H3
        subst e1; subst e2; subst e3
        clear HR2 hc H3 HH HV
        go_wp2_with fail
        (with_reducible refine ((C _).out).mono ?_)
        rintro e w1 ⟨rfl, hb1⟩
        have S1 := Lib.hid ((S.out.on ((Below.refl _ _).alloc (Nat.le_refl _) _)).on hb1)
        clear hb1 C S t0 t1
        obtain ⟨⟨_, r0, r1⟩, ⟨f0, f1⟩, B⟩ := S1.out
        have HB := Lib.hid B
        clear B
        go_wp2_with fail
        obtain ⟨_, r8, r9⟩ := Blk.set (x := .int .i64 0) (y := .int .i64 0) S1.out.1
        refine bodyPost_ret (by simp [results, Tryd.results6, go_sem, r8, r9]; try rfl) rfl ?_
        have B := HB.out
        exact ⟨rfl, (by repeat' (first | (with_reducible exact Below.refl _ _) | (with_reducible assumption) | (with_reducible refine Below.alloc ?_ ?_ _) | (with_reducible refine below_drew ?_ _) | (with_reducible refine Below.drew ?_) | (with_reducible refine Below.setCell ?_ ?_ _) | go_size))⟩
      · simp only [hc] at C
        have R3 := HR2.out
        rw [hc, Bool.true_and] at R3
        have HR3 := Lib.hid R3
        clear HR2 hc R3
        go_wp2_with fail
        (with_reducible refine ((C _).out).mono ?_)
        rintro e w1 ⟨rfl, hb1⟩
        have S1 := Lib.hid ((S.out.on ((Below.refl _ _).alloc (Nat.le_refl _) _)).on hb1)
        clear hb1 C S t0 t1
        go_wp2_with fail
        go_roundg (l.length - (k + 1))
        case measure => omega
        case rel => exact ⟨k + 1, rfl, rfl, by omega, HR3, S1⟩
    · have hk2 : k = l.length := by omega
      subst hk2
      have R2 := R.out
      rw [List.drop_length] at R2
      have R3 : true = v := R2
      subst R3
      have H3 := HH.out
      rw [if_pos rfl] at H3
      have HA : Hid (∀ x ∈ l, vB x.1 x.2 = true) := by
        have h := HV.out
        unfold allV at h
        rw [List.all_eq_true] at h
        exact h
      clear R R2 HH HV
      rename World => W1
      by_cases hbig : 1000 < l.length
      · rw [if_pos hbig] at H3
        obtain ⟨e1, e2, e3⟩ := three H3
        subst e1; subst e2; subst e3
        clear H3
        obtain ⟨⟨_, r0, r1⟩, ⟨f0, f1⟩, B⟩ := S.out
        have HB := Lib.hid B
        clear B
        go_wp2_with fail
        obtain ⟨_, r8, r9⟩ := Blk.set (x := .int .i64 0) (y := .int .i64 0) S.out.1
        refine bodyPost_ret (by simp [results, Tryd.results6, go_sem, r8, r9]; try rfl) rfl ?_
        have B := HB.out
        exact ⟨rfl, (by repeat' (first | (with_reducible exact Below.refl _ _) | (with_reducible assumption) | (with_reducible refine Below.alloc ?_ ?_ _) | (with_reducible refine below_drew ?_ _) | (with_reducible refine Below.drew ?_) | (with_reducible refine Below.setCell ?_ ?_ _) | go_size))⟩
      · rw [if_neg hbig] at H3
        have HS := Lib.hid H3
        clear H3
        go_wp2_with fail
        have S0 : Hid (SuS2 w W1.heap.size (W1.alloc (Obj.cells #[Value.int IntKind.i64 0, Value.int IntKind.i64 1] 24)) 0 1) := by
          obtain ⟨p1, p2, p3⟩ := S.out
          exact ⟨p1.alloc _, p2.alloc p1.1 _, Blk.new _ _ _ _, Frz.new _ _ _ _, p1.1, below_on p3 ((Below.refl _ _).alloc (Nat.le_refl _) _)⟩
        go_loopg [29] l.length (fun g s29 wx => ∃ (k : Nat) (n d : Int), s29 = .int .i64 k ∧ g = l.length - k ∧ k ≤ l.length ∧ Hid (sumT (l.drop k) n d = (x, y, z)) ∧ Hid (Vld n d) ∧ Hid (SuS2 w W1.heap.size wx n d))
        case atStart => exact ⟨0, 0, 1, rfl, rfl, Nat.zero_le _, HS, ⟨by omega, by omega, by omega, by omega, by decide⟩, S0⟩
        case round =>
          clear S0 S HS
          obtain ⟨k, n, d, rfl, rfl, hk, R, V, S⟩ := hrel
          by_cases hlt : k < l.length
          · have hd := List.drop_eq_getElem_cons hlt
            obtain ⟨q0, q1⟩ := hQ.out k hlt
            have vx := vB_vld (HA.out l[k] (List.getElem_mem hlt))
            have R2 := R.out
            rw [hd] at R2
            unfold sumT at R2
            obtain ⟨n1, d1, e1, ha⟩ : ∃ n1 d1 e1, addT n d l[k].1 l[k].2 = (n1, d1, e1) := ⟨_, _, _, rfl⟩
            rw [ha] at R2
            have C := fun w => Lib.hid (plus_frac n d _ _ w V.out vx n1 d1 e1 (by rw [← ha]; exact (okT_vld V.out vx).symm))
            have hc := addT_cases n d l[k].1 l[k].2
            rw [ha] at hc
            have HR2 := Lib.hid R2
            clear hd ha vx R R2 V
            generalize l[k].1 = a at *
            generalize l[k].2 = c at *
            have wk : IntKind.i64.wrap ((k : Int) + 1) = ((k + 1 : Nat) : Int) := by rw [IntWalk.i64_in _ (by omega)]; omega
            have t0 := (S.out.2.2.2.2.2.cell (p := ⟨b, o + k * 2, none⟩) hb).trans q0
            have t1 := (S.out.2.2.2.2.2.cell (p := ⟨b, o + k * 2 + 1, none⟩) hb).trans q1
            clear q0 q1
            rcases hc with ⟨n2, d2, hc1, _, _, vn, _⟩ | ⟨e2, hc1, ne, _⟩
            · obtain ⟨c1, c2, c3⟩ := three hc1
              subst c1; subst c2; subst c3
              have R3 := HR2.out
              rw [if_pos rfl] at R3
              have HR3 := Lib.hid R3
              have VN := Lib.hid vn
              clear HR2 R3 vn hc1
              obtain ⟨_, _, ⟨_, s0, s1⟩, _⟩ := S.out
              go_wp2_with fail
              (with_reducible refine ((C _).out).mono ?_)
              rintro e w1 ⟨rfl, hb1⟩
              have S1 := Lib.hid ((S.out.on ((Below.refl _ _).alloc (Nat.le_refl _) _)).on hb1)
              clear hb1 C S t0 t1 s0 s1
              obtain ⟨_, _, ⟨_, s0, s1⟩, ⟨f2, f3⟩, _⟩ := S1.out
              go_wp2_with fail
              go_roundg (l.length - (k + 1))
              case measure => omega
              case rel => exact ⟨k + 1, _, _, rfl, rfl, by omega, HR3, VN, Lib.hid ((S1.out.set _ _).on ((Below.refl _ _).alloc (Nat.le_refl _) _))⟩
            · obtain ⟨c1, c2, c3⟩ := three hc1
              subst c1; subst c2; subst c3
              have R3 := HR2.out
              rw [if_neg ne] at R3
              obtain ⟨c1, c2, c3⟩ := three R3
              subst c1; subst c2; subst c3
              have g1 : (e1 == 0) = false := by simpa using ne
              have g2 : (e1 != 0) = true := by simpa using ne
              clear HR2 R3 hc1 ne
              obtain ⟨_, _, ⟨_, s0, s1⟩, _⟩ := S.out
              go_wp2_with fail
              (with_reducible refine ((C _).out).mono ?_)
              rintro e w1 ⟨rfl, hb1⟩
              have S1 := Lib.hid ((S.out.on ((Below.refl _ _).alloc (Nat.le_refl _) _)).on hb1)
              clear hb1 C S t0 t1 s0 s1
              obtain ⟨⟨_, r0, r1⟩, ⟨f0, f1⟩, _, _, _, B⟩ := S1.out
              have HB := Lib.hid B
              clear B
              go_wp2_with fail
              obtain ⟨_, r8, r9⟩ := (Blk.set (x := .int .i64 0) (y := .int .i64 0) S1.out.1).alloc (Obj.cells #[Value.int IntKind.i64 0, Value.int IntKind.i64 0] 24)
              refine bodyPost_ret (by simp [results, Tryd.results6, go_sem, r8, r9]; try rfl) rfl ?_
              have B := HB.out
              exact ⟨rfl, (by repeat' (first | (with_reducible exact Below.refl _ _) | (with_reducible assumption) | (with_reducible refine Below.alloc ?_ ?_ _) | (with_reducible refine below_drew ?_ _) | (with_reducible refine Below.drew ?_) | (with_reducible refine Below.setCell ?_ ?_ _) | go_size))⟩
          · have hk2 : k = l.length := by omega
            subst hk2
            have R2 := R.out
            rw [List.drop_length] at R2
            obtain ⟨c1, c2, c3⟩ := three (show (n, d, 0) = (x, y, z) from R2)
            subst c1; subst c2; subst c3
            obtain ⟨⟨_, r0, r1⟩, ⟨f0, f1⟩, ⟨_, s0, s1⟩, _, _, B⟩ := S.out
            have HB := Lib.hid B
            clear R R2 B
            go_wp2_with fail
            obtain ⟨_, r8, r9⟩ := Blk.set (x := .int .i64 n) (y := .int .i64 d) S.out.1
            refine bodyPost_ret (by simp [results, Tryd.results6, go_sem, r8, r9]; try rfl) rfl ?_
            have B := HB.out
            exact ⟨rfl, (by repeat' (first | (with_reducible exact Below.refl _ _) | (with_reducible assumption) | (with_reducible refine Below.alloc ?_ ?_ _) | (with_reducible refine below_drew ?_ _) | (with_reducible refine Below.drew ?_) | (with_reducible refine Below.setCell ?_ ?_ _) | go_size))⟩

end Go.Proofs.YtfcplndfoboaaaaDoor
